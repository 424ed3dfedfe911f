/-
  Texts of mine, joined (part 2 of 11): what the law at hand reaches of them; each text's own words stand in the verifier's repo.
-/
import Derived.Test.YtfnnoehpahdgcaaGreatDoorSt1
import Derived.Test.YtfnnoehpahdgcaaGreatDoorRows
import Derived.WalkKit
import Derived.IntWalk
import Derived.Laws.Bits128
import Derived.Lib.Hide
import Derived.Lib.ParseIntBTie
import Derived.Lib.ParseIntBCases
import Derived.Lib.ItoaMem
import Derived.Lib.IndexMore
import Derived.Lib.Repeat
import Derived.WalkSpells
import Derived.Below
import Derived.Carry
import Derived.WalkSmall
import Derived.Laws.Closers25b
import Derived.Lib.Strings
import Derived.Lib.SmallJoins
import Derived.Lib.AppendIntMem
import Derived.Maps.AppendAt
import Derived.OwnWalk
import Derived.WalkLawsBesides
import Derived.Deep.QuietTactic
import Derived.BigQuiet
import Derived.Deep.RegionHeld3
import Derived.Laws.OwnMore
import Derived.Laws.StructEq
import Derived.BigFrame
import Derived.Deep.Upon
import Derived.Laws.CopyRow
import Derived.Laws.BytesArg
import Derived.RowKit3
import Derived.Shelf.Strconv.Itoa4
import Derived.Shelf.Strconv.ParseIntPublic10
import Derived.Shelf.Strconv.ErrVarParseInt
import Derived.Test.YtfnnoehpahdgcaaGreatDoorProg
import Derived.LaidMore
import Derived.Stop.LaidErr
import Derived.Lib.LaidTab
import Derived.RangeFuncWrites
import Derived.RangeFuncCalls
import Derived.RangeFuncBox
import Derived.RangeFuncNested
import Derived.RangeFuncLeaves
import Derived.Shelf.Abstract
import Derived.Shelf.RegionOpen
import Derived.OwnWalkIn
import Derived.TacticsInMore
import Derived.LoopNIn
import Derived.LoopIn
import Derived.Lib.Bytealg
import Derived.Deep.LoopGhost
import Derived.Lib.AtoiErrMem
import Derived.OpenShut
import Derived.Lib.ConvBytes
import Derived.Deep.RegionLaw
import Derived.Deep.AppendLies
import Derived.Lib.AppendZeros
import Derived.Defers
import Derived.Recover
import Derived.Lib.ItoaLen
import Derived.Sort.Walk0
import Derived.Lib.SlicesCompact
import Derived.ProofKit
import Derived.Handed
import Derived.SizedLaws
import Derived.ShutString
import Derived.Deep.Slices
import Derived.Deep.Fields
import Derived.ChangeSame
namespace Go.Proofs
set_option linter.unusedVariables false
open Go.Shelf
def Tryz.laysM173_ren : Go.Shelf.Ren := ⟨fun | 173 => 167 | 246 => 178 | 283 => 184 | 284 => 185 | 285 => 186 | 286 => 187 | 129 => 194 | 317 => 193 | 318 => 195 | 319 => 196 | 320 => 197 | 337 => 199 | 338 => 200 | n => n, fun | 2 => 2 | 3 => 3 | 9 => 9 | 4 => 4 | 171 => 193 | 0 => 0 | 53 => 187 | 37 => 22 | 5 => 5 | 173 => 196 | 212 => 205 | 51 => 206 | 20 => 20 | 213 => 207 | 46 => 117 | 232 => 215 | 233 => 216 | n => n, fun | 17 => 3 | 18 => 4 | 19 => 5 | n => n⟩
theorem Tryz.laysM173 : Go.Proofs.LaysM.n173 Tryz.prog Tryz.laysM173_ren := {
  mixed := by kernel_rfl
  f129 := Tryz.func194.trans (congrArg some (by kernel_rfl))
  f173 := Tryz.func167.trans (congrArg some (by kernel_rfl))
  f246 := Tryz.func178.trans (congrArg some (by kernel_rfl))
  f283 := Tryz.func184.trans (congrArg some (by kernel_rfl))
  f284 := Tryz.func185.trans (congrArg some (by kernel_rfl))
  f285 := Tryz.func186.trans (congrArg some (by kernel_rfl))
  f286 := Tryz.func187.trans (congrArg some (by kernel_rfl))
  f317 := Tryz.func193.trans (congrArg some (by kernel_rfl))
  f318 := Tryz.func195.trans (congrArg some (by kernel_rfl))
  f319 := Tryz.func196.trans (congrArg some (by kernel_rfl))
  f320 := Tryz.func197.trans (congrArg some (by kernel_rfl))
  f337 := Tryz.func199.trans (congrArg some (by kernel_rfl))
  f338 := Tryz.func200.trans (congrArg some (by kernel_rfl))
  t0 := Tryz.underlying0
  a0 := Tryz.isAgg0
  z0 := Tryz.sizeOf0
  v0 := Tryz.zeroValue0
  t2 := Tryz.underlying2
  a2 := Tryz.isAgg2
  z2 := Tryz.sizeOf2
  v2 := Tryz.zeroValue2
  t3 := Tryz.underlying3
  a3 := Tryz.isAgg3
  z3 := Tryz.sizeOf3
  v3 := Tryz.zeroValue3
  t4 := Tryz.underlying4
  a4 := Tryz.isAgg4
  z4 := Tryz.sizeOf4
  v4 := Tryz.zeroValue4
  t5 := Tryz.underlying5
  a5 := Tryz.isAgg5
  z5 := Tryz.sizeOf5
  v5 := Tryz.zeroValue5
  t9 := Tryz.underlying9
  a9 := Tryz.isAgg9
  z9 := Tryz.sizeOf9
  v9 := Tryz.zeroValue9
  t20 := Tryz.underlying20
  a20 := Tryz.isAgg20
  z20 := Tryz.sizeOf20
  v20 := Tryz.zeroValue20
  t37 := Tryz.underlying22
  a37 := Tryz.isAgg22
  z37 := Tryz.sizeOf22
  v37 := Tryz.zeroValue22
  t46 := Tryz.underlying117
  a46 := Tryz.isAgg117
  z46 := Tryz.sizeOf117
  v46 := Tryz.zeroValue117
  t51 := Tryz.underlying206
  a51 := Tryz.isAgg206
  z51 := Tryz.sizeOf206
  v51 := Tryz.zeroValue206
  t53 := Tryz.underlying187
  a53 := Tryz.isAgg187
  z53 := Tryz.sizeOf187
  v53 := Tryz.zeroValue187
  t171 := Tryz.underlying193
  a171 := Tryz.isAgg193
  z171 := Tryz.sizeOf193
  v171 := Tryz.zeroValue193
  t173 := Tryz.underlying196
  a173 := Tryz.isAgg196
  z173 := Tryz.sizeOf196
  v173 := Tryz.zeroValue196
  t212 := Tryz.underlying205
  a212 := Tryz.isAgg205
  z212 := Tryz.sizeOf205
  v212 := Tryz.zeroValue205
  t213 := Tryz.underlying207
  a213 := Tryz.isAgg207
  z213 := Tryz.sizeOf207
  t232 := Tryz.underlying215
  a232 := Tryz.isAgg215
  z232 := Tryz.sizeOf215
  v232 := Tryz.zeroValue215
  t233 := Tryz.underlying216
  a233 := Tryz.isAgg216
  z233 := Tryz.sizeOf216
  v233 := Tryz.zeroValue216
  g17 := by kernel_rfl
  g18 := by kernel_rfl
  g19 := by kernel_rfl
  i0 := by kernel_rfl
  i2 := by kernel_rfl
  i3 := by kernel_rfl
  i4 := by kernel_rfl
  i5 := by kernel_rfl
  i9 := by kernel_rfl
  i20 := by kernel_rfl
  i37 := by kernel_rfl
  i46 := by kernel_rfl
  i51 := by kernel_rfl
  i53 := by kernel_rfl
  i171 := by kernel_rfl
  i173 := by kernel_rfl
  i212 := by kernel_rfl
  i232 := by kernel_rfl
  i233 := by kernel_rfl
  m17 := by kernel_rfl
  m18 := by kernel_rfl
  m19 := by kernel_rfl }
def Tryz.laysC174_ren : Go.Shelf.Ren := ⟨fun | 174 => 166 | 247 => 176 | 245 => 177 | 287 => 179 | 279 => 180 | 280 => 181 | 281 => 182 | 282 => 183 | 321 => 188 | 322 => 189 | 316 => 190 | 171 => 192 | 205 => 191 | 243 => 198 | 246 => 178 | 283 => 184 | 284 => 185 | 285 => 186 | 286 => 187 | 129 => 194 | 317 => 193 | 318 => 195 | 319 => 196 | 320 => 197 | 337 => 199 | 338 => 200 | n => n, fun | 9 => 9 | 3 => 3 | 2 => 2 | 75 => 180 | 85 => 181 | 4 => 4 | 167 => 186 | 5 => 5 | 53 => 187 | 175 => 188 | 46 => 117 | 168 => 190 | 37 => 22 | 0 => 0 | 210 => 201 | 21 => 21 | 127 => 210 | 145 => 213 | 143 => 211 | 171 => 193 | 173 => 196 | 212 => 205 | 51 => 206 | 20 => 20 | 213 => 207 | 232 => 215 | 233 => 216 | 80 => 126 | n => n, fun | 15 => 1 | 16 => 2 | 17 => 3 | 18 => 4 | 19 => 5 | n => n⟩
theorem Tryz.laysC174 : Go.Proofs.LaysC.n174 Tryz.prog Tryz.laysC174_ren := {
  mixed := by kernel_rfl
  f129 := Tryz.func194.trans (congrArg some (by kernel_rfl))
  f171 := Tryz.func192.trans (congrArg some (by kernel_rfl))
  f174 := Tryz.func166.trans (congrArg some (by kernel_rfl))
  f205 := Tryz.func191.trans (congrArg some (by kernel_rfl))
  f243 := Tryz.func198.trans (congrArg some (by kernel_rfl))
  f245 := Tryz.func177.trans (congrArg some (by kernel_rfl))
  f246 := Tryz.func178.trans (congrArg some (by kernel_rfl))
  f247 := Tryz.func176.trans (congrArg some (by kernel_rfl))
  f279 := Tryz.func180.trans (congrArg some (by kernel_rfl))
  f280 := Tryz.func181.trans (congrArg some (by kernel_rfl))
  f281 := Tryz.func182.trans (congrArg some (by kernel_rfl))
  f282 := Tryz.func183.trans (congrArg some (by kernel_rfl))
  f283 := Tryz.func184.trans (congrArg some (by kernel_rfl))
  f284 := Tryz.func185.trans (congrArg some (by kernel_rfl))
  f285 := Tryz.func186.trans (congrArg some (by kernel_rfl))
  f286 := Tryz.func187.trans (congrArg some (by kernel_rfl))
  f287 := Tryz.func179.trans (congrArg some (by kernel_rfl))
  f316 := Tryz.func190.trans (congrArg some (by kernel_rfl))
  f317 := Tryz.func193.trans (congrArg some (by kernel_rfl))
  f318 := Tryz.func195.trans (congrArg some (by kernel_rfl))
  f319 := Tryz.func196.trans (congrArg some (by kernel_rfl))
  f320 := Tryz.func197.trans (congrArg some (by kernel_rfl))
  f321 := Tryz.func188.trans (congrArg some (by kernel_rfl))
  f322 := Tryz.func189.trans (congrArg some (by kernel_rfl))
  f337 := Tryz.func199.trans (congrArg some (by kernel_rfl))
  f338 := Tryz.func200.trans (congrArg some (by kernel_rfl))
  t0 := Tryz.underlying0
  a0 := Tryz.isAgg0
  z0 := Tryz.sizeOf0
  v0 := Tryz.zeroValue0
  t2 := Tryz.underlying2
  a2 := Tryz.isAgg2
  z2 := Tryz.sizeOf2
  v2 := Tryz.zeroValue2
  t3 := Tryz.underlying3
  a3 := Tryz.isAgg3
  z3 := Tryz.sizeOf3
  v3 := Tryz.zeroValue3
  t4 := Tryz.underlying4
  a4 := Tryz.isAgg4
  z4 := Tryz.sizeOf4
  v4 := Tryz.zeroValue4
  t5 := Tryz.underlying5
  a5 := Tryz.isAgg5
  z5 := Tryz.sizeOf5
  v5 := Tryz.zeroValue5
  t9 := Tryz.underlying9
  a9 := Tryz.isAgg9
  z9 := Tryz.sizeOf9
  v9 := Tryz.zeroValue9
  t20 := Tryz.underlying20
  a20 := Tryz.isAgg20
  z20 := Tryz.sizeOf20
  v20 := Tryz.zeroValue20
  t21 := Tryz.underlying21
  a21 := Tryz.isAgg21
  z21 := Tryz.sizeOf21
  v21 := Tryz.zeroValue21
  t37 := Tryz.underlying22
  a37 := Tryz.isAgg22
  z37 := Tryz.sizeOf22
  v37 := Tryz.zeroValue22
  t46 := Tryz.underlying117
  a46 := Tryz.isAgg117
  z46 := Tryz.sizeOf117
  v46 := Tryz.zeroValue117
  t51 := Tryz.underlying206
  a51 := Tryz.isAgg206
  z51 := Tryz.sizeOf206
  v51 := Tryz.zeroValue206
  t53 := Tryz.underlying187
  a53 := Tryz.isAgg187
  z53 := Tryz.sizeOf187
  v53 := Tryz.zeroValue187
  t75 := Tryz.underlying180
  a75 := Tryz.isAgg180
  z75 := Tryz.sizeOf180
  v75 := Tryz.zeroValue180
  t85 := Tryz.underlying181
  a85 := Tryz.isAgg181
  z85 := Tryz.sizeOf181
  v85 := Tryz.zeroValue181
  t127 := Tryz.underlying210
  a127 := Tryz.isAgg210
  z127 := Tryz.sizeOf210
  v127 := Tryz.zeroValue210
  t143 := Tryz.underlying211
  a143 := Tryz.isAgg211
  z143 := Tryz.sizeOf211
  v143 := Tryz.zeroValue211
  t145 := Tryz.underlying213
  a145 := Tryz.isAgg213
  z145 := Tryz.sizeOf213
  v145 := Tryz.zeroValue213
  t167 := Tryz.underlying186
  a167 := Tryz.isAgg186
  z167 := Tryz.sizeOf186
  v167 := Tryz.zeroValue186
  t168 := Tryz.underlying190
  a168 := Tryz.isAgg190
  z168 := Tryz.sizeOf190
  v168 := Tryz.zeroValue190
  t171 := Tryz.underlying193
  a171 := Tryz.isAgg193
  z171 := Tryz.sizeOf193
  v171 := Tryz.zeroValue193
  t173 := Tryz.underlying196
  a173 := Tryz.isAgg196
  z173 := Tryz.sizeOf196
  v173 := Tryz.zeroValue196
  t175 := Tryz.underlying188
  a175 := Tryz.isAgg188
  z175 := Tryz.sizeOf188
  v175 := Tryz.zeroValue188
  t210 := Tryz.underlying201
  a210 := Tryz.isAgg201
  z210 := Tryz.sizeOf201
  v210 := Tryz.zeroValue201
  t212 := Tryz.underlying205
  a212 := Tryz.isAgg205
  z212 := Tryz.sizeOf205
  v212 := Tryz.zeroValue205
  t213 := Tryz.underlying207
  a213 := Tryz.isAgg207
  z213 := Tryz.sizeOf207
  t232 := Tryz.underlying215
  a232 := Tryz.isAgg215
  z232 := Tryz.sizeOf215
  v232 := Tryz.zeroValue215
  t233 := Tryz.underlying216
  a233 := Tryz.isAgg216
  z233 := Tryz.sizeOf216
  v233 := Tryz.zeroValue216
  g15 := by kernel_rfl
  g16 := by kernel_rfl
  g17 := by kernel_rfl
  g18 := by kernel_rfl
  g19 := by kernel_rfl
  t80 := Tryz.underlying126
  a80 := Tryz.isAgg126
  z80 := Tryz.sizeOf126
  v80 := Tryz.zeroValue126
  i0 := by kernel_rfl
  i2 := by kernel_rfl
  i3 := by kernel_rfl
  i4 := by kernel_rfl
  i5 := by kernel_rfl
  i9 := by kernel_rfl
  i20 := by kernel_rfl
  i21 := by kernel_rfl
  i37 := by kernel_rfl
  i46 := by kernel_rfl
  i51 := by kernel_rfl
  i53 := by kernel_rfl
  i75 := by kernel_rfl
  i80 := by kernel_rfl
  i85 := by kernel_rfl
  i127 := by kernel_rfl
  i143 := by kernel_rfl
  i145 := by kernel_rfl
  i167 := by kernel_rfl
  i168 := by kernel_rfl
  i171 := by kernel_rfl
  i173 := by kernel_rfl
  i175 := by kernel_rfl
  i210 := by kernel_rfl
  i212 := by kernel_rfl
  i232 := by kernel_rfl
  i233 := by kernel_rfl
  m15 := by kernel_rfl
  m16 := by kernel_rfl
  m17 := by kernel_rfl
  m18 := by kernel_rfl
  m19 := by kernel_rfl
  c0 := by kernel_rfl
  c2 := by kernel_rfl
  c3 := by kernel_rfl
  c4 := by kernel_rfl
  c5 := by kernel_rfl
  c9 := by kernel_rfl
  c20 := by kernel_rfl
  c21 := by kernel_rfl
  c37 := by kernel_rfl
  c46 := by kernel_rfl
  c51 := by kernel_rfl
  c53 := by kernel_rfl
  c75 := by kernel_rfl
  c80 := by kernel_rfl
  c85 := by kernel_rfl
  c127 := by kernel_rfl
  c143 := by kernel_rfl
  c145 := by kernel_rfl
  c167 := by kernel_rfl
  c168 := by kernel_rfl
  c171 := by kernel_rfl
  c173 := by kernel_rfl
  c175 := by kernel_rfl
  c210 := by kernel_rfl
  c212 := by kernel_rfl
  c213 := by kernel_rfl
  c232 := by kernel_rfl
  c233 := by kernel_rfl }
open Go.RowKit Go.Sort Go.Lib in
theorem Tryz.strconv_FormatInt_10 (n : Int) (h0 : -9223372036854775808 ≤ n) (h1 : n ≤ 9223372036854775807) (w : World) (htab : Lib.TabIs Tryz.prog w "internal/strconv.uint64pow10" .u64 Lib.pow10Tab) :
    Calls Tryz.prog 167 #[.int .i64 n, .int .i64 10] w fun e w' => e = .returned (.string ⟨(Lib.itoa n).toArray⟩) ∧ ∃ k os, w' = grow (w.drewN k) os := Any.strconv_FormatInt_10 Tryz.laysM173 n h0 h1 w htab
open Go.RowKit in
theorem Tryz.strconv_ParseInt_10_at32_ok (s : ByteArray) (hmax : s.size ≤ 9223372036854775806) (v : Int) (h : Lib.parseIntB 32 s.data.toList = .ok v) (w : World) :
    Calls Tryz.prog 166 #[.string s, .int .i64 10, .int .i64 32] w fun e w' => e = .returned (.tuple #[.int .i64 v, .nilIface]) ∧ (w' = w ∨ ∃ t, w' = Lib.bytesWorld w 5 t) := Any.strconv_ParseInt_10_at32_ok Tryz.laysC174 s hmax v h w
open Go.RowKit in
theorem Tryz.strconv_ParseInt_10_at32_range_var (s : ByteArray) (hlim : s.size ≤ 281474976710656) (h : Lib.parseIntB 32 s.data.toList = .range) (tp : TypeId) (p : Value) (w : World) (hvar : w.var? Tryz.prog "strconv.ErrRange" = some #[.iface tp p]) :
    Calls Tryz.prog 166 #[.string s, .int .i64 10, .int .i64 32] w fun e w' => ∃ N, e = .returned (.tuple #[.int .i64 (Lib.intSat 32 s.data.toList), .iface 190 (.pointer (some ⟨N, 0, none⟩))]) ∧ w.heap.size ≤ N ∧ w'.heap[N]? = some (.cells #[.string ⟨#[80, 97, 114, 115, 101, 73, 110, 116]⟩, .string s, .iface tp p] 201 (0, 0)) ∧ Below w.heap.size w w' := Any.strconv_ParseInt_10_at32_range_var Tryz.laysC174 s hlim h tp p w hvar
end Go.Proofs
namespace Go.Proofs.YtfnnoehpahdgcaaGreatDoor.Rp
set_option linter.unusedVariables false
open Go.RowKit Wd
def Lib3 (w : World) : Prop := (∃ tp p, w.var? Tryz.prog "strconv.ErrSyntax" = some #[.iface tp p]) ∧ (∃ tp p, w.var? Tryz.prog "strconv.ErrRange" = some #[.iface tp p]) ∧ Lib.TabIs Tryz.prog w "internal/strconv.uint64pow10" .u64 Lib.pow10Tab ∧ 1 < w.heap.size ∧ 2 < w.heap.size ∧ 3 < w.heap.size
theorem gS : Tryz.prog.globalNamed "strconv.ErrSyntax" = some 1 := by kernel_rfl
theorem gR : Tryz.prog.globalNamed "strconv.ErrRange" = some 2 := by kernel_rfl
theorem gT : Tryz.prog.globalNamed "internal/strconv.uint64pow10" = some 3 := by kernel_rfl
theorem Lib3.carry {w w' : World} {B : Nat} (h : Lib3 w) (hb : Below B w w') (hB : 1 < B ∧ 2 < B ∧ 3 < B) : Lib3 w' := by
  obtain ⟨⟨t1, p1, h1⟩, ⟨t2, p2, h2⟩, h3, h4, h5, h6⟩ := h
  have hs := hb.size
  exact ⟨⟨t1, p1, var?_below hb gS hB.1 h1⟩, ⟨t2, p2, var?_below hb gR hB.2.1 h2⟩, var?_below hb gT hB.2.2 h3, by omega, by omega, by omega⟩

def RdGrown (s : ByteArray) (w : World) (e : Ending) (w' : World) : Prop := e = .returned (.tuple #[.int .i64 (rdV s.data.toList), .bool (rdB s.data.toList)]) ∧ Below w.heap.size w w'
theorem rdg_none {s : ByteArray} {w w' : World} (h : rd s.data.toList = none) (hb : Below w.heap.size w w') : RdGrown s w (.returned (.tuple #[.int .i64 0, .bool false])) w' := by
  refine ⟨?_, hb⟩; simp [rdV, rdB, h]
theorem rdg_some {s : ByteArray} {w w' : World} {v : Int} (h : rd s.data.toList = some v) (hb : Below w.heap.size w w') : RdGrown s w (.returned (.tuple #[.int .i64 v, .bool true])) w' := by
  refine ⟨?_, hb⟩; simp [rdV, rdB, h]

theorem lists_ne {t s : ByteArray} (h : ¬ t = s) : (t.toList == s.toList) = false := by
  rw [beq_eq_false_iff_ne]
  intro e
  rw [Lib.toList_data, Lib.toList_data] at e
  apply h
  obtain ⟨a⟩ := t
  obtain ⟨b⟩ := s
  have : a = b := Array.toList_inj.1 e
  rw [this]
set_option maxHeartbeats 1000000 in
theorem implRead_err (s : ByteArray) (w : World) (hr : rd s.data.toList = none) (x : Int) (T : Nat)
    (hp : Calls Tryz.prog 166 #[.string s, .int .i64 10, .int .i64 32] w fun e w' => ∃ N, e = .returned (.tuple #[.int .i64 x, .iface T (.pointer (some ⟨N, 0, none⟩))]) ∧ Below w.heap.size w w') :
    Calls Tryz.prog 161 #[.string s] w (RdGrown s w) := by
  have HP := Lib.hid hp; clear hp
  have HR := Lib.hid hr; clear hr
  go_enter Tryz.func161, Tryz.ntmps161
  go_wp2_with fail
  refine HP.out.mono ?_; rintro e w1 ⟨N, rfl, hb⟩
  go_wp2
  go_ret2
  exact rdg_none HR.out hb

set_option maxHeartbeats 1000000 in
theorem implRead_ok (s : ByteArray) (w : World) (hL : Lib3 w) (hs : s.size ≤ 9223372036854775806) (v : Int) (hv : Lib.parseIntB 32 s.data.toList = .ok v) :
    Calls Tryz.prog 161 #[.string s] w (RdGrown s w) := by
  have hp := Tryz.strconv_ParseInt_10_at32_ok s hs v hv w
  have hw := (isW_iff v).1 (parse_isW hv)
  have HP := Lib.hid hp; clear hp
  have HV := Lib.hid hv; clear hv
  have HL := Lib.hid hL; clear hL
  go_enter Tryz.func161, Tryz.ntmps161
  go_wp2_with fail
  refine HP.out.mono ?_; rintro e w1 ⟨rfl, hw1⟩
  have hb1 : Below w.heap.size w w1 := by
    rcases hw1 with rfl | ⟨t, rfl⟩
    · exact Below.refl _ _
    · exact Lib.bytesWorld_below _ _ _
  clear hw1
  have hL1 : Lib3 w1 := HL.out.carry hb1 ⟨HL.out.2.2.2.1, HL.out.2.2.2.2.1, HL.out.2.2.2.2.2⟩
  have HL1 := Lib.hid hL1; clear hL1
  have hf := Tryz.strconv_FormatInt_10 v (by omega) (by omega) w1 HL1.out.2.2.1
  have HF := Lib.hid hf; clear hf
  by_cases he : Lib.itoa v = s.data.toList
  · have hs' : (⟨(Lib.itoa v).toArray⟩ : ByteArray) = s := by rw [he]
    have hf : Calls Tryz.prog 167 #[.int .i64 v, .int .i64 10] w1 fun e w' => e = .returned (.string s) ∧ Below w1.heap.size w1 w' := by
      refine HF.out.mono ?_; rintro e w2 ⟨rfl, k, os, rfl⟩
      exact ⟨by rw [hs'], Lib.below_grow _ _ (Nat.le_refl _) _ _⟩
    have HF2 := Lib.hid hf; clear hf HF
    have hr := rd_ok HV.out he
    have HR := Lib.hid hr; clear hr he hs'
    go_wp2_with (go_at_call 167; refine HF2.out.mono ?_; rintro e w2 ⟨rfl, hb2⟩)
    go_ret2
    exact rdg_some HR.out (hb1.trans (hb2.mono hb1.size))
  · have hs' : ¬ (⟨(Lib.itoa v).toArray⟩ : ByteArray) = s := by
      intro e; apply he; rw [← e]
    have hf : Calls Tryz.prog 167 #[.int .i64 v, .int .i64 10] w1 fun e w' => ∃ t : ByteArray, (t.toList == s.toList) = false ∧ e = .returned (.string t) ∧ Below w1.heap.size w1 w' := by
      refine HF.out.mono ?_; rintro e w2 ⟨rfl, k, os, rfl⟩
      exact ⟨_, lists_ne hs', rfl, Lib.below_grow _ _ (Nat.le_refl _) _ _⟩
    have HF2 := Lib.hid hf; clear hf HF
    have hr := rd_other HV.out he
    have HR := Lib.hid hr; clear hr he hs'
    go_wp2_with (go_at_call 167; refine HF2.out.mono ?_; rintro e w2 ⟨t, ht, rfl, hb2⟩)
    go_ret2
    exact rdg_none HR.out (hb1.trans (hb2.mono hb1.size))
theorem implRead_any (s : ByteArray) (w : World) (hL : Lib3 w) (hs : s.size ≤ 281474976710656) : Calls Tryz.prog 161 #[.string s] w (RdGrown s w) := by
  cases hv : Lib.parseIntB 32 s.data.toList
  · rename_i v
    exact implRead_ok s w hL (by omega) v hv
  · obtain ⟨tp, p, h1⟩ := hL.1
    exact implRead_err s w (rd_bad fun v e => by rw [hv] at e; cases e) _ _ ((Any.strconv_ParseInt_10_at32_syntax_var Tryz.laysC174 s hs hv tp p w h1).mono fun e w' ⟨N, h, _, _, hb⟩ => ⟨N, h, hb⟩)
  · obtain ⟨tp, p, h1⟩ := hL.2.1
    exact implRead_err s w (rd_bad fun v e => by rw [hv] at e; cases e) _ _ ((Tryz.strconv_ParseInt_10_at32_range_var s hs hv tp p w h1).mono fun e w' ⟨N, h, _, _, hb⟩ => ⟨N, h, hb⟩)
end Go.Proofs.YtfnnoehpahdgcaaGreatDoor.Rp
namespace Go.Proofs.YtfnnoehpahdgcaaGreatDoor.Rp
set_option linter.unusedVariables false
open Go.RowKit Go.ChangeShapes
theorem star : "*" ++ "errors.errorString" = "*errors.errorString" := by decide
theorem rowOf (u : TypeId) (h : Tryz.prog.typeName? 3 u = some "*errors.errorString") : u = 211 :=
  typeName_ptr_named (nm := "errors.errorString") (by rw [star]; kernel_rfl) (by kernel_rfl) (by decide) u (by rw [star]; exact h)
theorem lt_of_var {w : World} {n : String} {g : Nat} {cs : Array Value} {v : Value} (hg : Tryz.prog.globalNamed n = some g) (h : w.var? Tryz.prog n = some cs) (hv : cs[0]? = some v) : g < w.heap.size := by
  have := World.var?_cell hg h 0
  rw [hv] at this
  exact Lib.lt_of_cell this
theorem lib3_of {W : World} (h : laidMet Tryz.prog [("internal/strconv.uint64pow10", Rows.laid_internal_strconv_uint64pow10), ("strconv.ErrRange", Rows.laid_strconv_ErrRange), ("strconv.ErrSyntax", Rows.laid_strconv_ErrSyntax)] W) : Lib3 W := by
  have e : (Rows.laid_internal_strconv_uint64pow10 : DataW Unit) = Lib.tabData .u64 Lib.pow10Tab := by kernel_rfl
  have h1 := h
  rw [e] at h1
  have ht := Lib.tabIs_of_head (g := 3) gT (by kernel_rfl : (Tryz.prog.globals[3]?).map (·.type) = some 205) Tryz.underlying205 Tryz.underlying187 (by kernel_rfl) (by kernel_rfl) h1
  obtain ⟨a0, s0, hv0, -, -, -⟩ := laid_sentinel h.tail gR (by kernel_rfl : (Tryz.prog.globals[2]?).map (·.type) = some 180) Tryz.underlying180 rowOf Tryz.underlying211 Tryz.underlying213 rfl rfl Tryz.underlying9 (by kernel_rfl) (by kernel_rfl)
  obtain ⟨a1, s1, hv1, -, -, -⟩ := laid_sentinel h.tail.tail gS (by kernel_rfl : (Tryz.prog.globals[1]?).map (·.type) = some 180) Tryz.underlying180 rowOf Tryz.underlying211 Tryz.underlying213 rfl rfl Tryz.underlying9 (by kernel_rfl) (by kernel_rfl)
  refine ⟨⟨_, _, hv1⟩, ⟨_, _, hv0⟩, ht, lt_of_var gS hv1 rfl, lt_of_var gR hv0 rfl, ?_⟩
  exact Lib.lt_of_cell (ht.cell gT 0 (by decide))
end Go.Proofs.YtfnnoehpahdgcaaGreatDoor.Rp
namespace Go.Proofs.YtfnnoehpahdgcaaGreatDoor.Cl
set_option linter.unusedVariables false
open Go.RowKit Wd Rp Kp
theorem tx_inj {a b : Tk} (h : tx a = tx b) : a = b := by rw [← tx_data a, ← tx_data b, h]
theorem tx_ne {a b : Tk} (h : ¬ a = b) : ((tx a).toList == (tx b).toList) = false := lists_ne fun e => h (tx_inj e)
theorem tx_beq (a : Tk) : ((tx a).toList == (tx a).toList) = true := by simp
set_option maxHeartbeats 4000000 in
set_option maxRecDepth 100000 in
theorem l1At_any (w : World) (a : Option Addr) (cap : Nat) (l : List Tk) (n : Nat) (s : Tk) (hn : l.length = n) (hv : V1 w a cap (txL l)) (hl : n ≤ 4194304) :
    Calls Tryz.prog 102 #[.slice a n cap, .string (tx s)] w fun e w' => e = .returned (.int .i64 (atI l s)) ∧ w = w' := by
  have HV := Lib.hid hv; clear hv
  have HN := Lib.hid hn; clear hn
  go_enter Tryz.func102, Tryz.ntmps102
  go_wp2_with fail
  go_loop [5] (fun i => ∃ k : Nat, k ≤ n ∧ i = .int .i64 k ∧ ∀ (j : Nat) (y : Tk), j < k → l[j]? = some y → y ≠ s) (fun i => n - (intOf i).toNat)
  case atStart => exact ⟨0, Nat.zero_le _, rfl, fun j y hj => by omega⟩
  case round =>
    obtain ⟨k, hk, rfl, hno⟩ := hrel
    have HO := Lib.hid hno; clear hno
    by_cases hlt : k < n
    · obtain ⟨c, hc⟩ : ∃ c, l[k]? = some c := ⟨l[k]'(by have := HN.out; omega), List.getElem?_eq_getElem _⟩
      obtain ⟨g, o, rfl, hg, c0⟩ := HV.out.tx hc
      have HC := Lib.hid hc; clear hc hg
      by_cases he : c = s
      · subst he
        have HA := Lib.hid (show atI l c = (k : Int) by unfold atI; rw [at?_at HC.out HO.out])
        have q1 := tx_beq c
        generalize tx c = x at *
        go_wp2_with fail
        go_ret
        exact ⟨by rw [HA.out]; rfl, rfl⟩
      · have q1 := tx_ne he
        generalize tx c = x at *
        generalize tx s = y at *
        go_wp2_with fail
        go_round
        case rel =>
          refine ⟨k + 1, by omega, by go_num, fun j z hj hz => ?_⟩
          by_cases e : j = k
          · subst e
            rw [HC.out] at hz; cases hz; exact he
          · exact HO.out j z (by omega) hz
        case measure => simp [intOf]; omega
    · obtain rfl : k = n := by omega
      have HA := Lib.hid (show atI l s = -1 by unfold atI; rw [at?_none fun j y hy => HO.out j y (by have := (List.getElem?_eq_some_iff.1 hy).1; have := HN.out; omega) hy])
      go_wp2_with fail
      go_ret
      exact ⟨by rw [HA.out]; rfl, rfl⟩
theorem litT {B : Nat} (w : World) (l : List Tk) (hl : l.length ≤ 1000) : V1 (w.alloc (.cells (l.map tv).toArray 9)) (some ⟨w.heap.size, 0, none⟩) l.length (txL l) := by
  have h := O1.lit (T := 9) (Nat.zero_le w.heap.size) (l.map tv).toArray (by unfold maxLen; simp; omega)
  rw [show (l.map tv).toArray.size = l.length by simp] at h
  exact h.vw
set_option maxRecDepth 100000 in
theorem l8Ops_any (w : World) : Calls Tryz.prog 103 #[] w fun e w' => e = .returned (.slice (some ⟨w.heap.size, 0, none⟩) 7 7) ∧ w' = w.alloc (.cells #[.string ⟨#[43]⟩, .string ⟨#[45]⟩, .string ⟨#[42]⟩, .string ⟨#[47]⟩, .string ⟨#[60]⟩, .string ⟨#[61]⟩, .string ⟨#[38]⟩] 9) := by
  go_enter Tryz.func103, Tryz.ntmps103
  go_wp2_with fail
  go_ret
  exact ⟨rfl, rfl⟩
set_option maxRecDepth 100000 in
theorem l8Op_any (w : World) (s : Tk) : Calls Tryz.prog 89 #[.string (tx s)] w fun e w' => e = .returned (.int .i64 (opN s)) ∧ Below w.heap.size w w' := by
  have HB := Lib.hid (bel1 w)
  have HA := Lib.hid (l1At_any (w.alloc (.cells #[.string ⟨#[43]⟩, .string ⟨#[45]⟩, .string ⟨#[42]⟩, .string ⟨#[47]⟩, .string ⟨#[60]⟩, .string ⟨#[61]⟩, .string ⟨#[38]⟩] 9)) (some ⟨w.heap.size, 0, none⟩) 7 opsL 7 s rfl (litT (B := 0) w opsL (by decide)) (by decide))
  have HI := Lib.hid (opN_I s)
  have HL := Lib.hid (opN_le s)
  have hlo : 0 ≤ atI opsL s + 1 := by rw [HI.out]; omega
  have hhi : atI opsL s + 1 ≤ 7 := by rw [HI.out]; have := HL.out; omega
  generalize atI opsL s = m at *
  generalize tx s = x at *
  go_enter Tryz.func89, Tryz.ntmps89
  go_wp2_with fail
  refine (l8Ops_any _).mono ?_; rintro e w1 ⟨rfl, rfl⟩
  go_wp2_with fail
  refine HA.out.mono ?_; rintro e w1 ⟨rfl, rfl⟩
  go_wp2_with fail
  go_ret
  exact ⟨by rw [← HI.out]; rfl, HB.out _⟩
set_option maxRecDepth 100000 in
theorem l8Given_any (w : World) (s : Tk) : Calls Tryz.prog 90 #[.string (tx s)] w fun e w' => e = .returned (.int .i64 ((gvN s : Int) - 1)) ∧ Below w.heap.size w w' := by
  have HB := Lib.hid (bel1 w)
  have HA := Lib.hid (l1At_any (w.alloc (.cells #[.string ⟨#[64, 48]⟩, .string ⟨#[64, 49]⟩, .string ⟨#[64, 50]⟩] 9)) (some ⟨w.heap.size, 0, none⟩) 3 gvsL 3 s rfl (litT (B := 0) w gvsL (by decide)) (by decide))
  have HI := Lib.hid (show atI gvsL s = (gvN s : Int) - 1 by have := gvN_I s; omega)
  generalize atI gvsL s = m at *
  generalize tx s = x at *
  go_enter Tryz.func90, Tryz.ntmps90
  go_wp2_with fail
  refine HA.out.mono ?_; rintro e w1 ⟨rfl, rfl⟩
  go_wp2_with fail
  go_ret
  exact ⟨by rw [← HI.out]; rfl, HB.out _⟩
theorem rdS_any (s : Tk) (w : World) (hs : s.length ≤ 9223372036854775807) : Calls Tryz.prog 88 #[.string (tx s)] w fun e w' => e = .returned (.tuple #[.int .i64 (rdV s), .bool (rdB s)]) ∧ w = w' := by
  have h := specRead_any (tx s) w (by rw [tx_size]; exact hs)
  unfold RdPost at h
  rw [tx_data] at h; exact h
theorem rdI_any (s : Tk) (w : World) (hL : Lib3 w) (hs : s.length ≤ 281474976710656) : Calls Tryz.prog 161 #[.string (tx s)] w fun e w' => e = .returned (.tuple #[.int .i64 (rdV s), .bool (rdB s)]) ∧ Below w.heap.size w w' := by
  have h := implRead_any (tx s) w hL (by rw [tx_size]; exact hs)
  unfold RdGrown at h
  rw [tx_data] at h; exact h
theorem nmS_any (s : Tk) (w : World) (hs : s.length ≤ 9223372036854775806) : Calls Tryz.prog 56 #[.string (tx s)] w fun e w' => e = .returned (.bool (nmB s)) ∧ w = w' := by
  have h := specName_any (tx s) w (by rw [tx_size]; exact hs)
  unfold NmPost at h
  rw [tx_data] at h; exact h
theorem nmI_any (s : Tk) (w : World) : Calls Tryz.prog 107 #[.string (tx s)] w fun e w' => e = .returned (.bool (nmB s)) ∧ w = w' := by
  have h := implName_any (tx s) w
  unfold NmPost at h
  rw [tx_data] at h; exact h
theorem ta_op (v : Value) (w : World) : (Instr.typeAssert (.iface 150 v) 142 150 true).run Tryz.prog w = .ok (.tuple #[v, .bool true]) w := by kernel_rfl
theorem ta_op_gv (v : Value) (w : World) : (Instr.typeAssert (.iface 158 v) 142 150 true).run Tryz.prog w = .ok (.tuple #[.int .i64 0, .bool false]) w := by kernel_rfl
theorem ta_op_nm (v : Value) (w : World) : (Instr.typeAssert (.iface 159 v) 142 150 true).run Tryz.prog w = .ok (.tuple #[.int .i64 0, .bool false]) w := by kernel_rfl
theorem ta_op_wd (v : Value) (w : World) : (Instr.typeAssert (.iface 134 v) 142 150 true).run Tryz.prog w = .ok (.tuple #[.int .i64 0, .bool false]) w := by kernel_rfl
theorem nn_if (T : TypeId) (v : Value) (w : World) : (binOp BinOp.eql 142 (.iface T v) .nilIface).run Tryz.prog w = .ok (.bool false) w := by kernel_rfl
theorem nn_nil (w : World) : (binOp BinOp.eql 142 .nilIface .nilIface).run Tryz.prog w = .ok (.bool true) w := by kernel_rfl
end Go.Proofs.YtfnnoehpahdgcaaGreatDoor.Cl
namespace Go.Proofs.YtfnnoehpahdgcaaGreatDoor.Cl
set_option linter.unusedVariables false
open Go.RowKit Wd Rp Kp
theorem en_step_op {l : List Tk} {k m : Nat} {c : Tk} (hc : l[k]? = some c) (h : isO c = true) : en (l.drop k) (m + 1) = (en (l.drop (k + 1)) (m + 2)).map (· + 1) := by
  rw [List.drop_eq_getElem_cons (List.getElem?_eq_some_iff.1 hc).1, (List.getElem?_eq_some_iff.1 hc).2, en_op h]
theorem en_step_leaf {l : List Tk} {k m : Nat} {c : Tk} (hc : l[k]? = some c) (h : isL c = true) : en (l.drop k) (m + 1) = (en (l.drop (k + 1)) m).map (· + 1) := by
  rw [List.drop_eq_getElem_cons (List.getElem?_eq_some_iff.1 hc).1, (List.getElem?_eq_some_iff.1 hc).2, en_leaf h]
theorem en_step_bad {l : List Tk} {k m : Nat} {c : Tk} (hc : l[k]? = some c) (h : isO c = false) (h2 : isL c = false) : en (l.drop k) (m + 1) = none := by
  rw [List.drop_eq_getElem_cons (List.getElem?_eq_some_iff.1 hc).1, (List.getElem?_eq_some_iff.1 hc).2, en_bad h h2]
def Opn (l : List Tk) (k j m : Nat) : Prop := k ≤ j ∧ m ≤ j - k + 1 ∧ en (l.drop k) 1 = (en (l.drop j) m).map (· + (j - k))
theorem Opn.start (l : List Tk) (k : Nat) : Opn l k k 1 := ⟨Nat.le_refl _, by omega, by simp⟩
theorem Opn.op {l : List Tk} {k j m : Nat} {c : Tk} (h : Opn l k j (m + 1)) (hc : l[j]? = some c) (ho : isO c = true) : Opn l k (j + 1) (m + 2) := by
  obtain ⟨h1, h2, h3⟩ := h
  refine ⟨by omega, by omega, ?_⟩
  rw [h3, en_step_op hc ho, Option.map_map]
  congr 1; funext x; show x + 1 + (j - k) = x + (j + 1 - k); omega
theorem Opn.leaf {l : List Tk} {k j m : Nat} {c : Tk} (h : Opn l k j (m + 1)) (hc : l[j]? = some c) (ho : isL c = true) : Opn l k (j + 1) m := by
  obtain ⟨h1, h2, h3⟩ := h
  refine ⟨by omega, by omega, ?_⟩
  rw [h3, en_step_leaf hc ho, Option.map_map]
  congr 1; funext x; show x + 1 + (j - k) = x + (j + 1 - k); omega
theorem Opn.bad {l : List Tk} {k j m : Nat} {c : Tk} (h : Opn l k j (m + 1)) (hc : l[j]? = some c) (h1 : isO c = false) (h2 : isL c = false) : edV l (k : Int) = -1 := by
  unfold edV; rw [enA_nat, h.2.2, en_step_bad hc h1 h2]; rfl
theorem Opn.out {l : List Tk} {k j m : Nat} (h : Opn l k j (m + 1)) (hj : l.length ≤ j) : edV l (k : Int) = -1 := by
  unfold edV; rw [enA_nat, h.2.2, List.drop_eq_nil_of_le hj, en_nil]; rfl
theorem Opn.done {l : List Tk} {k j : Nat} (h : Opn l k j 0) : edV l (k : Int) = (j : Int) := by
  unfold edV; rw [enA_nat, h.2.2, en_zero]
  have := h.1
  show (k : Int) + ((0 + (j - k) : Nat) : Int) = j
  omega
theorem isL_of {c : Tk} (ho : isO c = false) (h : rdB c = true ∨ gvN c ≠ 0 ∨ nmB c = true) : isL c = true := by
  unfold isO at ho; unfold isL
  have e : opN c = 0 := by simpa using ho
  rcases h with h | h | h <;> simp [e, h]
theorem isL_not {c : Tk} (h1 : rdB c = false) (h2 : gvN c = 0) (h3 : nmB c = false) : isL c = false := by unfold isL; simp [h1, h2, h3]
theorem edV_neg {l : List Tk} {i : Int} (h : i < 0) : edV l i = -1 := by unfold edV; rw [enA_neg h]
theorem isO_ne {s : Tk} (h : isO s = true) : opN s ≠ 0 := by unfold isO at h; simpa using h
theorem isL_0 {s : Tk} (h : isL s = true) : opN s = 0 := by
  have := isL_O h
  unfold isO at this; simpa using this
theorem rd_word {s : Tk} (h : rdB s = true) : isW (rdV s) = true := by
  unfold rdB at h; unfold rdV
  cases e : rd s with
  | none => rw [e] at h; cases h
  | some v => exact ((rd_iff s v).1 e).1
theorem wrap32_w {n : Int} (h : isW n = true) : wrap32 n = n := by
  obtain ⟨h1, h2⟩ := (isW_iff n).1 h
  unfold wrap32; omega
theorem tx_neL {a b : Tk} (h : ¬ a = b) : ((tx a).toList == b) = false := by rw [Lib.toList_data, tx_data, beq_eq_false_iff_ne]; exact h
theorem lib3_below {w w' : World} (h : Lib3 w) (hb : Below w.heap.size w w') : Lib3 w' := h.carry hb ⟨h.2.2.2.1, h.2.2.2.2.1, h.2.2.2.2.2⟩
set_option maxHeartbeats 4000000 in
set_option maxRecDepth 100000 in
theorem l8End_any (w : World) (a : Option Addr) (cap : Nat) (l : List Tk) (n : Nat) (i : Int) (hi : I64 i) (hn : l.length = n) (hv : V1 w a cap (txL l)) (hl : n ≤ 4194304) (hm : ∀ s ∈ l, s.length ≤ 4194304) :
    Calls Tryz.prog 59 #[.slice a n cap, .int .i64 i] w fun e w' => e = .returned (.int .i64 (edV l i)) ∧ Below w.heap.size w w' := by
  have HV := Lib.hid hv; clear hv
  have HN := Lib.hid hn; clear hn
  have HM := Lib.hid hm; clear hm
  by_cases hneg : i < 0
  · have HE := Lib.hid (edV_neg (l := l) hneg)
    go_enter Tryz.func59, Tryz.ntmps59
    go_wp2_with fail
    go_loopw [1, 5] (fun q o wr => q = .int .i64 i ∧ o = .int .i64 1 ∧ wr = w) (fun _ _ _ => 0)
    case atStart => exact ⟨rfl, rfl, rfl⟩
    case round =>
      obtain ⟨rfl, rfl, rfl⟩ := hrel
      go_wp2_with fail
      go_ret
      exact ⟨by rw [HE.out]; rfl, Below.refl _ _⟩
  obtain ⟨k, rfl⟩ : ∃ k : Nat, i = k := ⟨i.toNat, by omega⟩
  obtain ⟨hi0, hi1⟩ := hi
  go_enter Tryz.func59, Tryz.ntmps59
  go_wp2_with fail
  go_loopw [1, 5] (fun q o wr => ∃ j m : Nat, q = .int .i64 j ∧ o = .int .i64 m ∧ (j ≤ n ∨ j = k) ∧ Opn l k j m ∧ Below w.heap.size w wr) (fun q _ _ => n - intV q)
  case atStart => exact ⟨k, 1, rfl, rfl, Or.inr rfl, Opn.start l k, Below.refl _ _⟩
  case round =>
    obtain ⟨j, m, rfl, rfl, hj, hop, hbel⟩ := hrel
    have HB := Lib.hid hbel; clear hbel
    have HO := Lib.hid hop
    obtain ⟨hkj, hmj, -⟩ := hop
    have hj2 : j ≤ 9223372036854775807 := by omega
    cases m with
    | zero =>
      have HE := Lib.hid HO.out.done
      go_wp2_with fail
      go_ret
      exact ⟨by rw [HE.out]; rfl, HB.out⟩
    | succ m =>
      have p0 : (0 : Int) < ((m + 1 : Nat) : Int) := by omega
      have p1 : ¬ (j : Int) < 0 := by omega
      have p1d : decide ((j : Int) < 0) = false := by simp
      by_cases hlt : j < n
      · have p2 : ¬ (n : Int) ≤ (j : Int) := by omega
        have p2d : decide ((n : Int) ≤ (j : Int)) = false := by simpa using p2
        obtain ⟨c, hc⟩ : ∃ c, l[j]? = some c := ⟨l[j]'(by have := HN.out; omega), List.getElem?_eq_getElem _⟩
        obtain ⟨g, o, rfl, hg, g0⟩ := HV.out.tx hc
        have c0 : wr.cell? ⟨g, o + j, none⟩ = some (.string (tx c)) := (World.cell?_of_block (w := w) (HB.out.block g hg)).trans g0
        have HC := Lib.hid hc
        have hcl : c.length ≤ 4194304 := HM.out c (List.mem_of_getElem? hc)
        have HR := Lib.hid (fun w => rdS_any c w (by omega))
        have HP := Lib.hid (fun w => l8Op_any w c)
        have HG := Lib.hid (fun w => l8Given_any w c)
        have HS := Lib.hid (fun w => nmS_any c w (by omega))
        have HGL := Lib.hid (gvN_le c)
        have HPL := Lib.hid (opN_le c)
        clear hc hg g0
        by_cases ho : opN c = 0
        · have HX := Lib.hid (show isO c = false by unfold isO; simp [ho])
          rw [ho] at HP
          have HLF := Lib.hid (fun h => (HO.out.leaf HC.out (isL_of HX.out h)))
          have HBD := Lib.hid (fun h1 h2 h3 => (HO.out.bad HC.out HX.out (isL_not h1 h2 h3)))
          clear ho
          cases hr : rdB c
          · rw [hr] at HR HBD
            by_cases hgv : gvN c = 0
            · rw [hgv] at HG HBD
              cases hnm : nmB c
              · rw [hnm] at HS HBD
                have HE := Lib.hid (HBD.out rfl rfl rfl)
                clear HBD HLF HX hr hgv hnm
                generalize rdV c = rv at *
                generalize tx c = x at *
                go_wp2_with fail
                refine (HR.out _).mono ?_; rintro e w1 ⟨rfl, rfl⟩
                go_wp2_with fail
                refine (HP.out _).mono ?_; rintro e w2 ⟨rfl, b2⟩
                have B2 := Lib.hid (bel_tr HB.out b2 (Nat.le_refl _)); clear b2
                go_wp2_with fail
                refine (HG.out _).mono ?_; rintro e w3 ⟨rfl, b3⟩
                have B3 := Lib.hid (bel_tr B2.out b3 (Nat.le_refl _)); clear b3
                go_wp2_with fail
                refine (HS.out _).mono ?_; rintro e w4 ⟨rfl, rfl⟩
                go_wp2_with fail
                go_ret
                exact ⟨by rw [HE.out]; rfl, B3.out⟩
              · rw [hnm] at HS
                have HN2 := Lib.hid (HLF.out (Or.inr (Or.inr hnm)))
                clear HBD HLF HX hr hgv hnm
                generalize rdV c = rv at *
                generalize tx c = x at *
                go_wp2_with fail
                refine (HR.out _).mono ?_; rintro e w1 ⟨rfl, rfl⟩
                go_wp2_with fail
                refine (HP.out _).mono ?_; rintro e w2 ⟨rfl, b2⟩
                have B2 := Lib.hid (bel_tr HB.out b2 (Nat.le_refl _)); clear b2
                go_wp2_with fail
                refine (HG.out _).mono ?_; rintro e w3 ⟨rfl, b3⟩
                have B3 := Lib.hid (bel_tr B2.out b3 (Nat.le_refl _)); clear b3
                go_wp2_with fail
                refine (HS.out _).mono ?_; rintro e w4 ⟨rfl, rfl⟩
                go_wp2_with fail
                go_roundw
                case rel => exact ⟨j + 1, m, by go_num, by go_num, Or.inl (by omega), HN2.out, B3.out⟩
                case measure => simp [intV]; omega
            · have HN2 := Lib.hid (HLF.out (Or.inr (Or.inl hgv)))
              have p3 : (0 : Int) ≤ (gvN c : Int) - 1 := by omega
              have p3d : decide ((0 : Int) ≤ (gvN c : Int) - 1) = true := by simpa using p3
              clear HBD HLF HX hr hgv
              generalize (gvN c : Int) - 1 = y at *
              generalize rdV c = rv at *
              generalize tx c = x at *
              go_wp2_with fail
              refine (HR.out _).mono ?_; rintro e w1 ⟨rfl, rfl⟩
              go_wp2_with fail
              refine (HP.out _).mono ?_; rintro e w2 ⟨rfl, b2⟩
              have B2 := Lib.hid (bel_tr HB.out b2 (Nat.le_refl _)); clear b2
              go_wp2_with fail
              refine (HG.out _).mono ?_; rintro e w3 ⟨rfl, b3⟩
              have B3 := Lib.hid (bel_tr B2.out b3 (Nat.le_refl _)); clear b3
              go_wp2_with fail
              go_roundw
              case rel => exact ⟨j + 1, m, by go_num, by go_num, Or.inl (by omega), HN2.out, B3.out⟩
              case measure => simp [intV]; omega
          · rw [hr] at HR
            have HN2 := Lib.hid (HLF.out (Or.inl hr))
            clear HBD HLF HX hr
            generalize rdV c = rv at *
            generalize tx c = x at *
            go_wp2_with fail
            refine (HR.out _).mono ?_; rintro e w1 ⟨rfl, rfl⟩
            go_wp2_with fail
            refine (HP.out _).mono ?_; rintro e w2 ⟨rfl, b2⟩
            have B2 := Lib.hid (bel_tr HB.out b2 (Nat.le_refl _)); clear b2
            go_wp2_with fail
            go_roundw
            case rel => exact ⟨j + 1, m, by go_num, by go_num, Or.inl (by omega), HN2.out, B2.out⟩
            case measure => simp [intV]; omega
        · have HN2 := Lib.hid (HO.out.op HC.out (show isO c = true by unfold isO; simp [ho]))
          have p4 : (0 : Int) < (opN c : Int) := by omega
          have p5 : (opN c : Int) ≤ 7 := by have := HPL.out; omega
          clear HPL HGL HC ho
          generalize (opN c : Int) = y at *
          generalize rdB c = rb at *
          generalize rdV c = rv at *
          generalize tx c = x at *
          go_wp2_with fail
          refine (HR.out _).mono ?_; rintro e w1 ⟨rfl, rfl⟩
          go_wp2_with fail
          refine (HP.out _).mono ?_; rintro e w2 ⟨rfl, b2⟩
          have B2 := Lib.hid (bel_tr HB.out b2 (Nat.le_refl _)); clear b2
          go_wp2_with fail
          go_roundw
          case rel => exact ⟨j + 1, m + 2, by go_num, by go_num, Or.inl (by omega), HN2.out, B2.out⟩
          case measure => simp [intV]; omega
      · have p2 : (n : Int) ≤ (j : Int) := by omega
        have p2d : decide ((n : Int) ≤ (j : Int)) = true := by simpa using p2
        have HE := Lib.hid (HO.out.out (by have := HN.out; omega))
        go_wp2_with fail
        go_ret
        exact ⟨by rw [HE.out]; rfl, HB.out⟩
set_option maxHeartbeats 4000000 in
set_option maxRecDepth 100000 in
theorem operatorOf_any (s : Tk) (w : World) : Calls Tryz.prog 160 #[.string (tx s)] w fun e w' => e = .returned (.int .i64 (opN s)) ∧ w = w' := by
  by_cases h0 : s = [43]
  · subst h0
    show Calls Tryz.prog 160 #[.string ⟨#[43]⟩] w _
    go_enter Tryz.func160, Tryz.ntmps160
    go_wp2_with fail
    go_ret
    exact ⟨rfl, rfl⟩
  by_cases h1 : s = [45]
  · subst h1
    show Calls Tryz.prog 160 #[.string ⟨#[45]⟩] w _
    go_enter Tryz.func160, Tryz.ntmps160
    go_wp2_with fail
    go_ret
    exact ⟨rfl, rfl⟩
  by_cases h2 : s = [42]
  · subst h2
    show Calls Tryz.prog 160 #[.string ⟨#[42]⟩] w _
    go_enter Tryz.func160, Tryz.ntmps160
    go_wp2_with fail
    go_ret
    exact ⟨rfl, rfl⟩
  by_cases h3 : s = [47]
  · subst h3
    show Calls Tryz.prog 160 #[.string ⟨#[47]⟩] w _
    go_enter Tryz.func160, Tryz.ntmps160
    go_wp2_with fail
    go_ret
    exact ⟨rfl, rfl⟩
  by_cases h4 : s = [60]
  · subst h4
    show Calls Tryz.prog 160 #[.string ⟨#[60]⟩] w _
    go_enter Tryz.func160, Tryz.ntmps160
    go_wp2_with fail
    go_ret
    exact ⟨rfl, rfl⟩
  by_cases h5 : s = [61]
  · subst h5
    show Calls Tryz.prog 160 #[.string ⟨#[61]⟩] w _
    go_enter Tryz.func160, Tryz.ntmps160
    go_wp2_with fail
    go_ret
    exact ⟨rfl, rfl⟩
  by_cases h6 : s = [38]
  · subst h6
    show Calls Tryz.prog 160 #[.string ⟨#[38]⟩] w _
    go_enter Tryz.func160, Tryz.ntmps160
    go_wp2_with fail
    go_ret
    exact ⟨rfl, rfl⟩
  have q0 : ((tx s).toList == [43]) = false := tx_neL h0
  have q1 : ((tx s).toList == [45]) = false := tx_neL h1
  have q2 : ((tx s).toList == [42]) = false := tx_neL h2
  have q3 : ((tx s).toList == [47]) = false := tx_neL h3
  have q4 : ((tx s).toList == [60]) = false := tx_neL h4
  have q5 : ((tx s).toList == [61]) = false := tx_neL h5
  have q6 : ((tx s).toList == [38]) = false := tx_neL h6
  have HE := Lib.hid (show opN s = 0 by unfold opN opsL; simp only [at?]; rw [if_neg (fun e => h0 e.symm), if_neg (fun e => h1 e.symm), if_neg (fun e => h2 e.symm), if_neg (fun e => h3 e.symm), if_neg (fun e => h4 e.symm), if_neg (fun e => h5 e.symm), if_neg (fun e => h6 e.symm)]; rfl)
  clear h0 h1 h2 h3 h4 h5 h6
  generalize tx s = x at *
  go_enter Tryz.func160, Tryz.ntmps160
  go_wp2_with fail
  go_ret
  exact ⟨by rw [HE.out]; rfl, rfl⟩
def sgV (s : Tk) : Value := if gvN s ≠ 0 then .iface 158 (.int .i64 ((gvN s : Int) - 1)) else if opN s ≠ 0 then .iface 150 (.int .i64 (opN s)) else if nmB s then .iface 159 (.string (tx s)) else if rdB s then .iface 134 (.int .i32 (rdV s)) else .nilIface
theorem sgV_op {s : Tk} (h : isO s = true) : sgV s = .iface 150 (.int .i64 (opN s)) := by
  have h1 : opN s ≠ 0 := by unfold isO at h; simpa using h
  have h2 : gvN s = 0 := by
    apply Decidable.byContradiction; intro h2
    exact h1 (gv_op h2)
  unfold sgV; rw [if_neg (by omega), if_pos h1]
theorem sgV_bad {s : Tk} (h : isO s = false) (h2 : isL s = false) : sgV s = .nilIface := by
  have h1 : opN s = 0 := by unfold isO at h; simpa using h
  unfold isL at h2
  simp only [h1, beq_self_eq_true, Bool.true_and, Bool.or_eq_false_iff] at h2
  obtain ⟨h3, h4, h5⟩ := h2
  unfold sgV; rw [if_neg (by simpa using h3), if_neg (by omega), h4, h5]; rfl
theorem sgV_leaf {s : Tk} (h : isL s = true) : ∃ T x, sgV s = .iface T x ∧ ∀ w, (Instr.typeAssert (.iface T x) 142 150 true).run Tryz.prog w = .ok (.tuple #[.int .i64 0, .bool false]) w := by
  unfold isL at h
  simp only [Bool.and_eq_true, beq_iff_eq, Bool.or_eq_true] at h
  obtain ⟨h1, h2⟩ := h
  unfold sgV
  by_cases hg : gvN s ≠ 0
  · rw [if_pos hg]; exact ⟨_, _, rfl, ta_op_gv _⟩
  rw [if_neg hg, if_neg (by omega)]
  cases hn : nmB s
  · cases hr : rdB s
    · rw [hn, hr] at h2; simp at h2; exact absurd h2 hg
    · exact ⟨_, _, rfl, ta_op_wd _⟩
  · exact ⟨_, _, rfl, ta_op_nm _⟩
set_option maxHeartbeats 4000000 in
set_option maxRecDepth 100000 in
theorem signOf_any (s : Tk) (w : World) (hL : Lib3 w) (hs : s.length ≤ 4194304) : Calls Tryz.prog 150 #[.string (tx s)] w fun e w' => e = .returned (sgV s) ∧ Below w.heap.size w w' := by
  by_cases h0 : s = [64, 48]
  · subst h0
    show Calls Tryz.prog 150 #[.string ⟨#[64, 48]⟩] w _
    go_enter Tryz.func150, Tryz.ntmps150
    go_wp2_with fail
    go_ret
    exact ⟨rfl, Below.refl _ _⟩
  by_cases h1 : s = [64, 49]
  · subst h1
    show Calls Tryz.prog 150 #[.string ⟨#[64, 49]⟩] w _
    go_enter Tryz.func150, Tryz.ntmps150
    go_wp2_with fail
    go_ret
    exact ⟨rfl, Below.refl _ _⟩
  by_cases h2 : s = [64, 50]
  · subst h2
    show Calls Tryz.prog 150 #[.string ⟨#[64, 50]⟩] w _
    go_enter Tryz.func150, Tryz.ntmps150
    go_wp2_with fail
    go_ret
    exact ⟨rfl, Below.refl _ _⟩
  have q0 : ((tx s).toList == [64, 48]) = false := tx_neL h0
  have q1 : ((tx s).toList == [64, 49]) = false := tx_neL h1
  have q2 : ((tx s).toList == [64, 50]) = false := tx_neL h2
  have HG := Lib.hid (show gvN s = 0 by unfold gvN gvsL; simp only [at?]; rw [if_neg (fun e => h0 e.symm), if_neg (fun e => h1 e.symm), if_neg (fun e => h2 e.symm)]; rfl)
  have HSG := Lib.hid (show sgV s = if opN s ≠ 0 then .iface 150 (.int .i64 (opN s)) else if nmB s then .iface 159 (.string (tx s)) else if rdB s then .iface 134 (.int .i32 (rdV s)) else .nilIface by unfold sgV; rw [HG.out]; rfl)
  have HO := Lib.hid (fun w => operatorOf_any s w)
  have HN := Lib.hid (fun w => nmI_any s w)
  have HR := Lib.hid (rdI_any s w hL (by omega))
  clear h0 h1 h2 hL
  generalize sgV s = y at *
  obtain ⟨o, ho⟩ : ∃ o, opN s = o := ⟨_, rfl⟩
  rw [ho] at HO HSG
  have ho7 : o ≤ 7 := by rw [← ho]; exact opN_le s
  clear ho
  by_cases h : o = 0
  · subst h
    cases hn : nmB s
    · rw [hn] at HN HSG
      cases hr : rdB s
      · rw [hr] at HR HSG
        have HE := Lib.hid (HSG.out.trans rfl); clear HSG hn hr
        
        generalize nmB s = nb at *
        generalize rdB s = rb at *
        generalize rdV s = rv at *
        generalize tx s = x at *
        go_enter Tryz.func150, Tryz.ntmps150
        go_wp2_with fail
        refine (HO.out _).mono ?_; rintro e w1 ⟨rfl, rfl⟩
        go_wp2_with fail
        refine (HN.out _).mono ?_; rintro e w2 ⟨rfl, rfl⟩
        go_wp2_with fail
        refine HR.out.mono ?_; rintro e w3 ⟨rfl, b3⟩
        have B3 := Lib.hid b3; clear b3
        go_wp2_with fail
        go_ret
        exact ⟨by rw [HE.out]; rfl, B3.out⟩
      · rw [hr] at HR HSG
        have HW := Lib.hid (wrap32_w (rd_word hr))
        have HE := Lib.hid (HSG.out.trans rfl); clear HSG hn hr
        
        generalize nmB s = nb at *
        generalize rdB s = rb at *
        generalize rdV s = rv at *
        generalize tx s = x at *
        go_enter Tryz.func150, Tryz.ntmps150
        go_wp2_with fail
        refine (HO.out _).mono ?_; rintro e w1 ⟨rfl, rfl⟩
        go_wp2_with fail
        refine (HN.out _).mono ?_; rintro e w2 ⟨rfl, rfl⟩
        go_wp2_with fail
        refine HR.out.mono ?_; rintro e w3 ⟨rfl, b3⟩
        have B3 := Lib.hid b3; clear b3
        go_wp2_with fail
        go_ret
        exact ⟨by rw [HE.out]; show Ending.returned (Value.iface 134 (.int .i32 (wrap32 rv))) = _; rw [HW.out]; rfl, B3.out⟩
    · rw [hn] at HN HSG
      have HE := Lib.hid (HSG.out.trans rfl); clear HSG hn HR
      
      generalize nmB s = nb at *
      generalize rdB s = rb at *
      generalize rdV s = rv at *
      generalize tx s = x at *
      go_enter Tryz.func150, Tryz.ntmps150
      go_wp2_with fail
      refine (HO.out _).mono ?_; rintro e w1 ⟨rfl, rfl⟩
      go_wp2_with fail
      refine (HN.out _).mono ?_; rintro e w2 ⟨rfl, rfl⟩
      go_wp2_with fail
      go_ret
      exact ⟨by rw [HE.out]; rfl, Below.refl _ _⟩
  · have HE := Lib.hid (HSG.out.trans (if_pos h)); clear HSG HR
    have q5 : (((o : Int) != 0)) = true := by simp; omega
    
    generalize nmB s = nb at *
    generalize rdB s = rb at *
    generalize rdV s = rv at *
    generalize tx s = x at *
    go_enter Tryz.func150, Tryz.ntmps150
    go_wp2_with fail
    refine (HO.out _).mono ?_; rintro e w1 ⟨rfl, rfl⟩
    go_wp2_with fail
    go_ret
    exact ⟨by rw [HE.out]; rfl, Below.refl _ _⟩
set_option maxHeartbeats 4000000 in
set_option maxRecDepth 100000 in
theorem implEnd_any (w : World) (a : Option Addr) (cap : Nat) (l : List Tk) (n : Nat) (i : Int) (hi : I64 i) (hn : l.length = n) (hv : V1 w a cap (txL l)) (hl : n ≤ 4194304) (hm : ∀ s ∈ l, s.length ≤ 4194304) (hL : Lib3 w) :
    Calls Tryz.prog 142 #[.slice a n cap, .int .i64 i] w fun e w' => e = .returned (.int .i64 (edV l i)) ∧ Below w.heap.size w w' := by
  have HV := Lib.hid hv; clear hv
  have HN := Lib.hid hn; clear hn
  have HM := Lib.hid hm; clear hm
  have HL := Lib.hid hL; clear hL
  by_cases hneg : i < 0
  · have HE := Lib.hid (edV_neg (l := l) hneg)
    go_enter Tryz.func142, Tryz.ntmps142
    go_wp2_with fail
    go_ret
    exact ⟨by rw [HE.out]; rfl, Below.refl _ _⟩
  obtain ⟨k, rfl⟩ : ∃ k : Nat, i = k := ⟨i.toNat, by omega⟩
  obtain ⟨hi0, hi1⟩ := hi
  go_enter Tryz.func142, Tryz.ntmps142
  go_wp2_with fail
  go_loopw [5, 6] (fun o q wr => ∃ j m : Nat, q = .int .i64 j ∧ o = .int .i64 (m + 1 : Nat) ∧ (j ≤ n ∨ j = k) ∧ Opn l k j (m + 1) ∧ Below w.heap.size w wr) (fun _ q _ => n - intV q)
  case atStart => exact ⟨k, 0, rfl, rfl, Or.inr rfl, Opn.start l k, Below.refl _ _⟩
  case round =>
    obtain ⟨j, m, rfl, rfl, hj, hop, hbel⟩ := hrel
    have HB := Lib.hid hbel; clear hbel
    have HO := Lib.hid hop
    obtain ⟨hkj, hmj, -⟩ := hop
    have hj2 : j ≤ 9223372036854775807 := by omega
    by_cases hlt : j < n
    · obtain ⟨c, hc⟩ : ∃ c, l[j]? = some c := ⟨l[j]'(by have := HN.out; omega), List.getElem?_eq_getElem _⟩
      obtain ⟨g, o, rfl, hg, g0⟩ := HV.out.tx hc
      have c0 : wr.cell? ⟨g, o + j, none⟩ = some (.string (tx c)) := (World.cell?_of_block (w := w) (HB.out.block g hg)).trans g0
      have HC := Lib.hid hc
      have hcl : c.length ≤ 4194304 := HM.out c (List.mem_of_getElem? hc)
      have HS := Lib.hid (signOf_any c wr (lib3_below HL.out HB.out) hcl)
      clear hc hg g0
      cases ho : isO c
      · cases hl2 : isL c
        · have HE := Lib.hid (HO.out.bad HC.out ho hl2)
          rw [sgV_bad ho hl2] at HS
          have nn := nn_nil
          clear HC HO ho hl2
          generalize tx c = x at *
          go_wp2_with fail
          refine HS.out.mono ?_; rintro e w1 ⟨rfl, b1⟩
          have B1 := Lib.hid (bel_tr HB.out b1 (Nat.le_refl _)); clear b1
          go_wp2_with fail
          go_ret
          exact ⟨by rw [HE.out]; rfl, B1.out⟩
        · obtain ⟨T, v, hsv, hta⟩ := sgV_leaf hl2
          rw [hsv] at HS
          have nn := nn_if T v
          have HN2 := Lib.hid (HO.out.leaf HC.out hl2)
          clear HC HO ho hl2 hsv
          generalize tx c = x at *
          cases m with
          | zero =>
            have HE := Lib.hid HN2.out.done
            go_wp2_with fail
            refine HS.out.mono ?_; rintro e w1 ⟨rfl, b1⟩
            have B1 := Lib.hid (bel_tr HB.out b1 (Nat.le_refl _)); clear b1
            go_wp2_with fail
            go_ret
            exact ⟨by rw [HE.out]; rfl, B1.out⟩
          | succ m =>
            have p6 : (((m + 1 + 1 : Nat) : Int) - 1 == 0) = false := by rw [beq_eq_false_iff_ne]; omega
            go_wp2_with fail
            refine HS.out.mono ?_; rintro e w1 ⟨rfl, b1⟩
            have B1 := Lib.hid (bel_tr HB.out b1 (Nat.le_refl _)); clear b1
            go_wp2_with fail
            go_roundw
            case rel => exact ⟨j + 1, m, by go_num, by go_num, Or.inl (by omega), HN2.out, B1.out⟩
            case measure => simp [intV]; omega
      · rw [sgV_op ho] at HS
        have nn := nn_if 150 (.int .i64 (opN c))
        have hta := ta_op (.int .i64 (opN c))
        have HN2 := Lib.hid (HO.out.op HC.out ho)
        clear HC HO ho
        generalize (opN c : Int) = y at *
        generalize tx c = x at *
        have p6 : (((m + 1 : Nat) : Int) + 1 == 0) = false := by rw [beq_eq_false_iff_ne]; omega
        go_wp2_with fail
        refine HS.out.mono ?_; rintro e w1 ⟨rfl, b1⟩
        have B1 := Lib.hid (bel_tr HB.out b1 (Nat.le_refl _)); clear b1
        go_wp2_with fail
        go_roundw
        case rel => exact ⟨j + 1, m + 1, by go_num, by go_num, Or.inl (by omega), HN2.out, B1.out⟩
        case measure => simp [intV]; omega
    · have HE := Lib.hid (HO.out.out (by have := HN.out; omega))
      go_wp2_with fail
      go_ret
      exact ⟨by rw [HE.out]; rfl, HB.out⟩
end Go.Proofs.YtfnnoehpahdgcaaGreatDoor.Cl
namespace Go.Proofs.YtfnnoehpahdgcaaGreatDoor.Ra
set_option linter.unusedVariables false
open Go.RowKit
structure Kept (F : Nat → Prop) (g : Option Nat) (w w' : World) : Prop where
  os : w'.os = w.os
  tape : w'.tape = w.tape
  output : w'.output = w.output
  size : w.heap.size ≤ w'.heap.size
  block : ∀ k, k < w.heap.size → ¬ F k → g ≠ some k → w'.heap[k]? = w.heap[k]?
  other : ∀ (k : Nat) (o : Obj), w.heap[k]? = some o → o.isCells = false → ¬ F k → w'.heap[k]? = some o
theorem Kept.refl (F : Nat → Prop) (g : Option Nat) (w : World) : Kept F g w w := ⟨rfl, rfl, rfl, Nat.le_refl _, fun _ _ _ _ => rfl, fun _ _ h _ _ => h⟩
theorem Kept.trans {F : Nat → Prop} {g : Option Nat} {x y z : World} (h : Kept F g x y) (k : Kept F g y z) : Kept F g x z :=
  ⟨k.os.trans h.os, k.tape.trans h.tape, k.output.trans h.output, Nat.le_trans h.size k.size, fun i hi hf hg => (k.block i (Nat.lt_of_lt_of_le hi h.size) hf hg).trans (h.block i hi hf hg), fun i o hi ho hf => k.other i o (h.other i o hi ho hf) ho hf⟩
theorem Kept.wider {F G : Nat → Prop} {g : Option Nat} {x y : World} (h : Kept F g x y) (hF : ∀ k, F k → G k) : Kept G g x y := ⟨h.os, h.tape, h.output, h.size, fun i hi hf hg => h.block i hi (fun e => hf (hF i e)) hg, fun i o hi ho hf => h.other i o hi ho (fun e => hf (hF i e))⟩
theorem Kept.of_below {F : Nat → Prop} {g : Option Nat} {x y : World} (h : Below x.heap.size x y) : Kept F g x y := ⟨h.os, h.tape, h.output, h.size, fun i hi _ _ => h.block i hi, fun i o hi _ _ => (h.block i (Array.getElem?_eq_some_iff.1 hi).1).trans hi⟩
theorem Kept.of_grown {F : Nat → Prop} {g : Option Nat} {x y : World} {row : Option Nat} (h : x.grownBy y row) (hr : ∀ k, row = some k → F k ∨ (g = some k ∧ ∀ o, x.heap[k]? = some o → o.isCells = true)) : Kept F g x y :=
  ⟨h.os, h.tape, h.output, h.size, fun i hi hf hg => h.block i hi (fun e => (hr i e.symm).elim hf (fun q => hg q.1)), fun i o hi ho hf => (h.block i (Array.getElem?_eq_some_iff.1 hi).1 (fun e => (hr i e.symm).elim hf (fun q => by rw [q.2 o hi] at ho; cases ho))).trans hi⟩
theorem Kept.keeps {F : Nat → Prop} {g : Option Nat} {x y : World} {B : Nat} (h : Kept F g x y) (hF : ∀ k, F k → k < B) : KeepsFrom B x y := ⟨h.size, fun k o hk ho hc => h.other k o ho hc (fun e => by have := hF k e; omega)⟩
theorem Kept.below {F : Nat → Prop} {g : Option Nat} {x y : World} {B : Nat} (h : Kept F g x y) (hB : B ≤ x.heap.size) (hF : ∀ k, F k → B ≤ k) (hg : ∀ k, g = some k → B ≤ k) : Below B x y :=
  ⟨h.os, h.tape, h.output, h.size, fun i hi => h.block i (by omega) (fun e => by have := hF i e; omega) (fun e => by have := hg i e; omega)⟩
theorem Kept.set {F : Nat → Prop} {g : Option Nat} {w : World} {p : Addr} (h : F p.block) (v : Value) : Kept F g w (w.setCell p v) :=
  ⟨rfl, rfl, rfl, by rw [World.size_setCell]; exact Nat.le_refl _, fun k _ hf _ => Below.heap_setCell _ _ _ k (fun e => hf (by rw [e]; exact h)), fun k o hk _ hf => (Below.heap_setCell _ _ _ k (fun e => hf (by rw [e]; exact h))).trans hk⟩
def Newer (n m : Nat) (g g' : Option Nat) : Prop := g' = g ∨ ∃ k, g' = some k ∧ n ≤ k ∧ k < m
def Hands (P : Program) (f : Nat) (lb : Array Value) (F : Nat → Prop) (xs : List Value) (w : World) : Prop :=
  ∀ (l : Nat) (J : List Value × Option Nat → World → Prop) (Jx : List Value → World → Prop) (W : World), Below w.heap.size w W → w.heap.size ≤ l → l < W.heap.size → (∀ k, F k → k < l) → OwnFrom W.heap.size J → OwnFrom W.heap.size Jx →
    (∀ pre x, (pre ++ [x]) <+: xs → ∀ g W1 m, J (pre, g) W1 → YieldAt Fence.wide m P l #[x] W1 fun e W' =>
      (e = .returned (.bool true) ∧ ∃ g', J (pre ++ [x], g') W' ∧ Newer W1.heap.size W'.heap.size g g' ∧ Kept (fun k => F k ∨ k = l) g W1 W') ∨ (e = .returned (.bool false) ∧ Jx (pre ++ [x]) W' ∧ KeepsFrom (l + 1) W1 W')) →
    J ([], none) W → ∀ n, CallsIn Fence.wide n P f (#[.func (.yield l) #[] #[]] ++ lb) W fun e W' => (∃ v, e = .returned v) ∧ ((∃ g, J (xs, g) W') ∨ ∃ pre, pre <+: xs ∧ Jx pre W')
theorem Hands.later {P : Program} {f : Nat} {lb : Array Value} {F : Nat → Prop} {xs : List Value} {w w' : World} (h : Hands P f lb F xs w) (hb : Below w.heap.size w w') : Hands P f lb F xs w' :=
  fun l J Jx W hW hl => h l J Jx W (hb.trans (hW.mono hb.size)) (Nat.le_trans hb.size hl)
theorem OwnFrom.wider {β : Type} {B C : Nat} {I : β → World → Prop} (h : OwnFrom B I) (hBC : B ≤ C) : OwnFrom C I :=
  fun s W W' row hs hg hr => h s W W' row hs hg fun r e => ⟨Nat.le_trans hBC (hr r e).1, (hr r e).2⟩
theorem KeepsFrom.wider {B C : Nat} {W W' : World} (h : KeepsFrom B W W') (hBC : B ≤ C) : KeepsFrom C W W' := ⟨h.size, fun k o hk => h.same k o (Nat.le_trans hBC hk)⟩
theorem Below.keeps {B : Nat} {W W' : World} (h : Below W.heap.size W W') : KeepsFrom B W W' := ⟨h.size, fun k o _ hk _ => (h.block k (Array.getElem?_eq_some_iff.1 hk).1).trans hk⟩
def Two (D : Nat) (r : Loop) (W : World) : Prop := W.heap[D + 1]? = some (.loop r) ∧ W.heap[D]? = some (.deferred (some []))
theorem Two.put {D : Nat} {r : Loop} {W : World} (h : Two D r W) (r' : Loop) : Two D r' (W.putObj (D + 1) (.loop r')) :=
  ⟨World.putObj_heap_same (Array.getElem?_eq_some_iff.1 h.1).1, (World.putObj_heap_other (by omega)).trans h.2⟩
theorem Two.own (D : Nat) (r : Loop) {B : Nat} (hB : D + 2 ≤ B) {β : Type} : OwnFrom B (fun (_ : β) W => Two D r W) := fun _ W W' row hs hg hr => by
  have key : ∀ k o, k < B → W.heap[k]? = some o → W'.heap[k]? = some o := fun k o hk ho =>
    (hg.block k (Array.getElem?_eq_some_iff.1 ho).1 (fun e => by have := (hr k e.symm).1; omega)).trans ho
  exact ⟨key _ _ (by omega) hs.1, key _ _ (by omega) hs.2⟩
theorem Two.keeps {D B : Nat} {r : Loop} {W W' : World} (h : Two D r W) (hk : KeepsFrom B W W') (hB : B ≤ D) : Two D r W' := ⟨hk.same _ _ (by omega) h.1 rfl, hk.same _ _ hB h.2 rfl⟩
theorem put_kept {F : Nat → Prop} {g : Option Nat} {l : Nat} {W : World} {o : Obj} (h : F l) : Kept F g W (W.putObj l o) :=
  ⟨rfl, rfl, rfl, by simp, fun k _ hf _ => World.putObj_heap_other (fun e => hf (by rw [e]; exact h)), fun k o hk _ hf => (World.putObj_heap_other (fun e => hf (by rw [e]; exact h))).trans hk⟩
theorem put_below {n₀ l : Nat} {W : World} {o : Obj} (h : n₀ ≤ l) (hn : n₀ ≤ W.heap.size) : Below n₀ W (W.putObj l o) :=
  (Below.refl n₀ W).grown (grownBy_putObj' W l o) hn (fun k e => by cases e; exact h)
theorem put_keeps {B l : Nat} {W : World} {o : Obj} (h : l < B) : KeepsFrom B W (W.putObj l o) := ⟨by simp, fun k o' hk ho _ => (World.putObj_heap_other (by omega)).trans ho⟩
theorem put_keeps' {l : Nat} {W W2 : World} {o : Obj} (h : W.putObj l o = W2) : KeepsFrom (l + 1) W W2 := by rw [← h]; exact put_keeps (by omega)
end Go.Proofs.YtfnnoehpahdgcaaGreatDoor.Ra
namespace Go.Proofs.YtfnnoehpahdgcaaGreatDoor.Ra
set_option linter.unusedVariables false
open Go.RowKit Go.Shelf
attribute [local go_sem] Oper.semAt_some
structure Hd where
  a : Option Addr
  n : Nat
  c : Nat
def Hd.val (h : Hd) : Value := .slice h.a h.n h.c
def Hds (n₀ : Nat) (w : World) (a : Option Addr) (hs : List Hd) : Prop := ∀ (j : Nat) (h : Hd), hs[j]? = some h → ∃ g o, a = some ⟨g, o, none⟩ ∧ g < n₀ ∧ w.cell? ⟨g, o + j, none⟩ = some (.slice h.a h.n h.c)
theorem Hds.below {n₀ : Nat} {w w' : World} {a : Option Addr} {hs : List Hd} (h : Hds n₀ w a hs) (hb : Below n₀ w w') : Hds n₀ w' a hs := fun j x hx => by
  obtain ⟨g, o, e, hg, hc⟩ := h j x hx
  exact ⟨g, o, e, hg, (hb.cell (p := ⟨g, o + j, none⟩) hg).trans hc⟩
end Go.Proofs.YtfnnoehpahdgcaaGreatDoor.Ra
namespace Go.Proofs.YtfnnoehpahdgcaaGreatDoor.Ra
set_option linter.unusedVariables false
open Go.RowKit Go.Shelf
attribute [local go_sem] Oper.semAt_some
theorem cell_block {w w' : World} {q o : Nat} {v : Value} (e : w'.heap[q]? = w.heap[q]?) (h : w.cell? ⟨q, o, none⟩ = some v) : w'.cell? ⟨q, o, none⟩ = some v := (World.cell?_of_block (w := w) e).trans h
theorem cell_lt {w : World} {p : Addr} {v : Value} (h : w.cell? p = some v) : p.block < w.heap.size := by
  unfold World.cell? at h
  cases ho : w.heap[p.block]? with
  | none => simp [ho] at h
  | some o => exact (Array.getElem?_eq_some_iff.1 ho).1
def Mine (Y B : Nat) (l n c sn sc : Nat) (a sa : Option Addr) (hs : List Hd) (n₀ : Nat) (W : World) : Prop :=
  W.cell? ⟨Y, 0, none⟩ = some (.func (.yield l) #[] #[]) ∧ W.cell? ⟨B, 0, none⟩ = some (.slice a n c) ∧ W.cell? ⟨B, 1, none⟩ = some (.slice sa sn sc) ∧ Hds n₀ W sa hs
theorem Mine.kept {Y B l n c sn sc n₀ : Nat} {a sa : Option Addr} {hs : List Hd} {W W' : World} {F : Nat → Prop} {g : Option Nat} (h : Mine Y B l n c sn sc a sa hs n₀ W) (hk : Kept F g W W') (hY : ¬ F Y) (hB : ¬ F B) (hS : ∀ g o, sa = some ⟨g, o, none⟩ → hs ≠ [] → ¬ F g) (gY : g ≠ some Y) (gB : g ≠ some B) (gS : ∀ q, g = some q → n₀ ≤ q) : Mine Y B l n c sn sc a sa hs n₀ W' := by
  obtain ⟨h1, h2, h3, h4⟩ := h
  refine ⟨cell_block (hk.block Y (cell_lt h1) hY gY) h1, cell_block (hk.block B (cell_lt h2) hB gB) h2, cell_block (hk.block B (cell_lt h2) hB gB) h3, fun j x hx => ?_⟩
  obtain ⟨q, o, e, hq, hc⟩ := h4 j x hx
  exact ⟨q, o, e, hq, cell_block (hk.block q (cell_lt hc) (hS q o e (fun e => by rw [e] at hx; simp at hx)) (fun e => by have := gS q e; omega)) hc⟩
theorem Mine.below {Y B l n c sn sc n₀ m : Nat} {a sa : Option Addr} {hs : List Hd} {W W' : World} (h : Mine Y B l n c sn sc a sa hs n₀ W) (hb : Below m W W') (hY : Y < m) (hB : B < m) (hn : n₀ ≤ m) : Mine Y B l n c sn sc a sa hs n₀ W' := by
  obtain ⟨h1, h2, h3, h4⟩ := h
  refine ⟨cell_block (hb.block Y hY) h1, cell_block (hb.block B hB) h2, cell_block (hb.block B hB) h3, fun j x hx => ?_⟩
  obtain ⟨q, o, e, hq, hc⟩ := h4 j x hx
  exact ⟨q, o, e, hq, cell_block (hb.block q (by omega)) hc⟩
end Go.Proofs.YtfnnoehpahdgcaaGreatDoor.Ra
namespace Go.Proofs.YtfnnoehpahdgcaaGreatDoor.Ra
set_option linter.unusedVariables false
open Go.RowKit
def Hands2 (P : Program) (f : Nat) (lb : Array Value) (F : Nat → Prop) (xs : List (Array Value)) (w : World) : Prop :=
  ∀ (l : Nat) (J : List (Array Value) × Option Nat → World → Prop) (Jx : List (Array Value) → World → Prop) (W : World), Below w.heap.size w W → w.heap.size ≤ l → l < W.heap.size → (∀ k, F k → k < l) → OwnFrom W.heap.size J → OwnFrom W.heap.size Jx →
    (∀ pre x, (pre ++ [x]) <+: xs → ∀ g W1 m, J (pre, g) W1 → YieldAt Fence.wide m P l x W1 fun e W' =>
      (e = .returned (.bool true) ∧ ∃ g', J (pre ++ [x], g') W' ∧ Newer W1.heap.size W'.heap.size g g' ∧ Kept (fun k => F k ∨ k = l) g W1 W') ∨ (e = .returned (.bool false) ∧ Jx (pre ++ [x]) W' ∧ KeepsFrom (l + 1) W1 W')) →
    J ([], none) W → ∀ n, CallsIn Fence.wide n P f (#[.func (.yield l) #[] #[]] ++ lb) W fun e W' => (∃ v, e = .returned v) ∧ ((∃ g, J (xs, g) W') ∨ ∃ pre, pre <+: xs ∧ Jx pre W')
theorem Hands2.later {P : Program} {f : Nat} {lb : Array Value} {F : Nat → Prop} {xs : List (Array Value)} {w w' : World} (h : Hands2 P f lb F xs w) (hb : Below w.heap.size w w') : Hands2 P f lb F xs w' :=
  fun l J Jx W hW hl => h l J Jx W (hb.trans (hW.mono hb.size)) (Nat.le_trans hb.size hl)
def Rounds2 (B : Nat) (F : Nat → Prop) (I : List (Array Value) × Option Nat → World → Prop) (Ix : Code → List (Array Value) → World → Prop) (xs : List (Array Value)) (g : Option Nat) (W : World) : Exit → Act → World → Prop
  | .normal, _, W' => KeepsFrom B W W' ∧ Kept F g W W' ∧ ∃ g', Newer W.heap.size W'.heap.size g g' ∧ I (xs, g') W'
  | .ret, _, W' => KeepsFrom B W W' ∧ Ix .ret xs W'
  | .exit id, _, W' => KeepsFrom B W W' ∧ Ix (.exit id) xs W'
  | .goto t, _, W' => KeepsFrom B W W' ∧ Ix (.goto t) xs W'
  | .panic _, _, _ => False
  | .outgrown, _, _ => False
theorem loop_hands2 {P : Program} {n : Nat} {g : Operand} {ps : Array Tmp} {assign body : Code} {Q : Exit → Act → World → Prop} {a : Act} {w : World}
    {gf : Nat} {lb : Array Value} (hg : a.eval g = .func (.func gf) #[] lb) (eg : ∀ args w, (callFunc gf args).run P w = .ok (.enter gf args) w)
    {F : Nat → Prop} {xs : List (Array Value)} {w0 : World} (hseq : Hands2 P gf lb F xs w0) (hb0 : Below w0.heap.size w0 w) (hF : ∀ k, F k → k < w.heap.size) (hps : ∀ x ∈ xs, ps.size = x.size)
    (I : List (Array Value) × Option Nat → World → Prop) (Ix : Code → List (Array Value) → World → Prop) (hI : OwnFrom w.heap.size I) (hIx : ∀ c, OwnFrom w.heap.size (Ix c)) (h0 : I ([], none) w) (a₁ : Array Value → Act)
    (hassign : ∀ (l m : Nat) (x : Array Value), x ∈ xs → ∀ (W : World) (K : Act → World → Prop), K (a₁ x) W →
      assign.wpIn (Fence.wide.inRound l) m P (Exit.then K (fun _ _ _ => False)) { tmps := (ps.zip x).foldl (fun t (p, v) => t.setIfInBounds p v) a.tmps, defers := [] } W)
    (hbody : ∀ (l m : Nat) (pre : List (Array Value)) (x : Array Value) (g : Option Nat) (W : World), (pre ++ [x]) <+: xs → w.heap.size ≤ W.heap.size → I (pre, g) W → body.wpIn (Fence.wide.inRound l) m P (Rounds2 w.heap.size F I Ix (pre ++ [x]) g W) (a₁ x) W)
    (hdone : ∀ (D : Nat) (g : Option Nat) (W : World), w.heap.size ≤ D → I (xs, g) W → W.heap[D]? = some (.deferred (some [])) → Q .normal { a with defers := { target := .collected D, args := #[] } :: a.defers } W)
    (hstop : ∀ (D : Nat) (c : Code) (pre : List (Array Value)) (W : World), w.heap.size ≤ D → pre <+: xs → Ix c pre W → W.heap[D]? = some (.deferred (some [])) → c.wpIn Fence.wide n P Q { a with defers := { target := .collected D, args := #[] } :: a.defers } W) :
    (Code.rangeFunc g ps assign body).wpIn Fence.wide n P Q a w := by
  refine wpIn_rangeFunc fun fn _ => ?_
  generalize hD : w.heap.size = D at *
  have hrc : ∃ rc : LoopState → Option Code → Loop, rc = fun st pe => { state := st, pending := pe, fn, tmps := a.tmps, params := ps, assign, body, defers := D } := ⟨_, rfl⟩
  obtain ⟨rc, hrc⟩ := hrc
  have hent := run_enterLoop_outer (P := P) (w := w) fn a.tmps ps assign body
  rw [hD] at hent
  have hW1 : ∃ W1, W1 = (w.alloc (.deferred (some []))).alloc (.loop (rc .ready none)) := ⟨_, rfl⟩
  obtain ⟨W1, hW1⟩ := hW1
  have s1 : W1.heap.size = D + 2 := by rw [hW1]; simp [hD]
  have t1 : Two D (rc .ready none) W1 := by
    have e2 := World.alloc_heap_new (w.alloc (.deferred (some []))) (.loop (rc .ready none))
    have e1 := World.alloc_heap_new w (.deferred (some []))
    rw [World.size_alloc, hD] at e2
    rw [hD] at e1
    rw [hW1]
    exact ⟨e2, (Below.heap_alloc _ _ D (by simp [hD])).trans e1⟩
  have i1 : I ([], none) W1 := by rw [hW1]; exact hI.alloc _ (hI.alloc _ h0)
  have b1 : Below w0.heap.size w0 W1 := by
    have := hb0.size
    rw [hW1]; exact hb0.trans ((((Below.refl _ w).alloc (Nat.le_refl _) _).alloc (by simp) _).mono this)
  have hend := fun (st : LoopState) (pe : Option Code) (h : (rc st pe).state ≠ .busy) (W : World) (t : Two D (rc st pe) W) => run_endLoop (P := P) t.1 h
  refine ⟨D + 1, [{ target := .collected D, args := #[] }], W1, { target := .fn (.func gf) lb, args := #[.func (.yield (D + 1)) #[] #[]] }, W1, gf, #[.func (.yield (D + 1)) #[] #[]] ++ lb, W1, ?_, ?_, fun _ _ => trivial, ?_, fun h => (by cases h), ?_⟩
  · rw [hW1, hrc]; exact hent
  · simp only [resolve, hg]; simp [go_sem]
  · simp [invoke, go_sem, eg]
  refine (hseq (D + 1) (fun s W => I s W ∧ Two D (rc .ready none) W) (fun pre W => ∃ c, Ix c pre W ∧ Two D (rc .done (some c)) W) W1 b1 (by have := hb0.size; omega) (by omega) (fun k hk => by have := hF k hk; omega) ?_ ?_ ?_ ⟨i1, t1⟩ (n - 1)).mono ?_
  · exact OwnFrom.and (OwnFrom.wider hI (by omega)) (Two.own D _ (by omega))
  · rintro pre W W' row ⟨c, hc, ht⟩ hgr hr
    exact ⟨c, OwnFrom.wider (hIx c) (by omega) pre W W' row hc hgr hr, Two.own D _ (Nat.le_of_eq s1.symm) pre W W' row ht hgr hr⟩
  · rintro pre x hx gg W m ⟨hi, ht⟩
    have hlt : D + 1 < W.heap.size := (Array.getElem?_eq_some_iff.1 ht.1).1
    have hy := run_yield (P := P) (args := x) ht.1 (by rw [hrc]; exact (hps x (hx.subset (by simp))).symm)
    have hbe := run_beginRound (P := P) ht.1 (by rw [hrc])
    have t2 := ht.put { rc .ready none with state := .busy }
    have i2 : I (pre, gg) (W.putObj (D + 1) (.loop { rc .ready none with state := .busy })) := hI.putObj _ hi (by omega) ht.1 rfl
    have k2 : Kept (fun k => F k ∨ k = D + 1) gg W (W.putObj (D + 1) (.loop { rc .ready none with state := .busy })) := put_kept (Or.inr rfl)
    have z2 : (W.putObj (D + 1) (.loop { rc .ready none with state := .busy })).heap.size = W.heap.size := by simp
    rw [hrc] at hy
    refine ⟨fn, _, assign, body, hy, roundIn_of_wpIn trivial (hassign (D + 1) m x (hx.subset (by simp)) W _ ⟨_, hbe, ?_⟩)⟩
    generalize hW2 : W.putObj (D + 1) (.loop { rc .ready none with state := .busy }) = W2 at t2 i2 k2 z2 ⊢
    have l2 : D + 1 < W2.heap.size := (Array.getElem?_eq_some_iff.1 t2.1).1
    refine wpIn_mono (hbody (D + 1) m pre x gg W2 hx (by omega) i2) ?_
    have out : ∀ (c : Code) (W3 : World), KeepsFrom D W2 W3 → Ix c (pre ++ [x]) W3 → ∃ v w', (Instr.endRound (D + 1) (some c)).run P W3 = .ok v w' ∧ ((Ending.returned v = .returned (.bool true) ∧ ∃ g', (I (pre ++ [x], g') w' ∧ Two D (rc .ready none) w') ∧ Newer W.heap.size w'.heap.size gg g' ∧ Kept (fun k => F k ∨ k = D + 1) gg W w') ∨ (Ending.returned v = .returned (.bool false) ∧ (∃ c, Ix c (pre ++ [x]) w' ∧ Two D (rc .done (some c)) w') ∧ KeepsFrom (D + 1 + 1) W w')) := fun c W3 hk hix => by
      have t3 := t2.keeps hk (Nat.le_refl _)
      refine ⟨_, _, run_endRound (P := P) (some c) t3.1, .inr ⟨rfl, ⟨c, (hIx c).putObj _ hix (by omega) t3.1 rfl, ?_⟩, ((put_keeps' hW2).trans (KeepsFrom.wider hk (by omega))).trans (put_keeps (by omega))⟩⟩
      have := t3.put (rc .done (some c))
      rw [hrc] at this ⊢; exact this
    rintro e a3 W3 hp
    cases e with
    | normal =>
      obtain ⟨hk, hb, g', hn', hi3⟩ := hp
      have t3 := t2.keeps hk (Nat.le_refl _)
      have l3 : D + 1 < W3.heap.size := (Array.getElem?_eq_some_iff.1 t3.1).1
      refine ⟨_, _, run_endRound (P := P) none t3.1, .inl ⟨rfl, g', ⟨hI.putObj _ hi3 (by omega) t3.1 rfl, ?_⟩, by rw [← z2, World.putObj_size]; exact hn', (k2.trans (hb.wider fun _ h => Or.inl h)).trans (put_kept (Or.inr rfl))⟩⟩
      have := t3.put (rc .ready none)
      rw [hrc] at this ⊢; exact this
    | ret => exact out _ W3 hp.1 hp.2
    | exit id => exact out _ W3 hp.1 hp.2
    | goto t => exact out _ W3 hp.1 hp.2
    | panic ch => exact hp.elim
    | outgrown => exact hp.elim
  · rintro e W2 ⟨⟨v, rfl⟩, ⟨gg, hi, ht⟩ | ⟨pre, hpre, c, hi, ht⟩⟩
    · refine ⟨none, W2.putObj (D + 1) (.loop { rc .ready none with state := .exhausted }), ?_, hdone D gg _ (Nat.le_refl _) (hI.putObj _ hi (by omega) ht.1 rfl) ((World.putObj_heap_other (by omega)).trans ht.2)⟩
      have := hend .ready none (by rw [hrc]; simp) W2 ht
      rw [hrc] at this ⊢; exact this
    · refine ⟨some c, W2.putObj (D + 1) (.loop { rc .done (some c) with state := .exhausted }), ?_, hstop D c pre _ (Nat.le_refl _) hpre ((hIx c).putObj _ hi (by omega) ht.1 rfl) ((World.putObj_heap_other (by omega)).trans ht.2)⟩
      have := hend .done (some c) (by rw [hrc]; simp) W2 ht
      rw [hrc] at this ⊢; exact this
theorem loop_hands22 (p1 p2 d : Nat) {P : Program} {n : Nat} {g : Operand} {assign body : Code} {Q : Exit → Act → World → Prop} {a : Act} {w : World}
    {gf : Nat} {lb : Array Value} (hg : a.eval g = .func (.func gf) #[] lb) (eg : ∀ args w, (callFunc gf args).run P w = .ok (.enter gf args) w)
    {F : Nat → Prop} {xs : List (Array Value)} {w0 : World} (hx2 : ∀ x ∈ xs, ∃ y z, x = #[y, z]) (hseq : Hands2 P gf lb F xs w0) (hb0 : Below w0.heap.size w0 w) (hF : ∀ k, F k → k < w.heap.size)
    (I : List (Array Value) × Option Nat → World → Prop) (Ix : Code → List (Array Value) → World → Prop) (hI : OwnFrom w.heap.size I) (hIx : ∀ c, OwnFrom w.heap.size (Ix c)) (h0 : I ([], none) w)
    (hassign : ∀ (l m : Nat) (x y : Value) (W : World) (K : Act → World → Prop), K { tmps := (((a.tmps.setIfInBounds p1 x).setIfInBounds p2 y)).setIfInBounds d y, defers := [] } W →
      assign.wpIn (Fence.wide.inRound l) m P (Exit.then K (fun _ _ _ => False)) { tmps := (a.tmps.setIfInBounds p1 x).setIfInBounds p2 y, defers := [] } W)
    (hbody : ∀ (l m : Nat) (pre : List (Array Value)) (x y : Value) (g : Option Nat) (W : World), (pre ++ [#[x, y]]) <+: xs → w.heap.size ≤ W.heap.size → I (pre, g) W → body.wpIn (Fence.wide.inRound l) m P (Rounds2 w.heap.size F I Ix (pre ++ [#[x, y]]) g W) { tmps := ((a.tmps.setIfInBounds p1 x).setIfInBounds p2 y).setIfInBounds d y, defers := [] } W)
    (hdone : ∀ (D : Nat) (g : Option Nat) (W : World), w.heap.size ≤ D → I (xs, g) W → W.heap[D]? = some (.deferred (some [])) → Q .normal { a with defers := { target := .collected D, args := #[] } :: a.defers } W)
    (hstop : ∀ (D : Nat) (c : Code) (pre : List (Array Value)) (W : World), w.heap.size ≤ D → pre <+: xs → Ix c pre W → W.heap[D]? = some (.deferred (some [])) → c.wpIn Fence.wide n P Q { a with defers := { target := .collected D, args := #[] } :: a.defers } W) :
    (Code.rangeFunc g #[p1, p2] assign body).wpIn Fence.wide n P Q a w := by
  refine loop_hands2 hg eg hseq hb0 hF (fun x hx => by obtain ⟨y, z, rfl⟩ := hx2 x hx; rfl) I Ix hI hIx h0 (fun x => { tmps := ((a.tmps.setIfInBounds p1 (x.getD 0 undef)).setIfInBounds p2 (x.getD 1 undef)).setIfInBounds d (x.getD 1 undef), defers := [] }) ?_ ?_ hdone hstop
  · intro l m x hx W K hK
    obtain ⟨y, z, rfl⟩ := hx2 x hx
    have := hassign l m y z W K hK
    simpa using this
  · intro l m pre x g W hx hw hi
    obtain ⟨y, z, rfl⟩ := hx2 x (hx.subset (by simp))
    exact hbody l m pre y z g W hx hw hi
end Go.Proofs.YtfnnoehpahdgcaaGreatDoor.Ra
namespace Go.Proofs.YtfnnoehpahdgcaaGreatDoor.Cl
set_option linter.unusedVariables false
open Go.RowKit Wd Rp Kp Ra Go.Shelf
attribute [local go_sem] Oper.semAt_some
def bkI (l : List Tk) (j : Nat) : Array Value := #[.int .i64 ((l.length - 1 - j : Nat) : Int), tv (l.getD (l.length - 1 - j) [])]
def bkL (l : List Tk) : List (Array Value) := (List.range l.length).map (bkI l)
theorem bkL_len (l : List Tk) : (bkL l).length = l.length := by unfold bkL; rw [List.length_map, List.length_range]
theorem bkL_get {l : List Tk} {k : Nat} (h : k < l.length) : (bkL l)[k]? = some (bkI l k) := by unfold bkL; rw [List.getElem?_map, List.getElem?_range h]; rfl
theorem bkL_two (l : List Tk) : ∀ x ∈ bkL l, ∃ y z, x = #[y, z] := fun x hx => by
  unfold bkL at hx
  rw [List.mem_map] at hx
  obtain ⟨k, -, rfl⟩ := hx
  exact ⟨_, _, rfl⟩
theorem pre_bk {l : List Tk} {pre : List (Array Value)} {x : Array Value} (h : (pre ++ [x]) <+: bkL l) : pre.length < l.length ∧ x = bkI l pre.length := by
  obtain ⟨r, hr⟩ := h
  have h1 : (bkL l)[pre.length]? = some x := by rw [← hr]; simp
  have h2 := (List.getElem?_eq_some_iff.1 h1).1
  rw [bkL_len] at h2
  rw [bkL_get h2] at h1
  exact ⟨h2, (Option.some.inj h1).symm⟩
theorem next_bk {xs : List (Array Value)} {k : Nat} {x : Array Value} (h : xs[k]? = some x) : xs.take (k + 1) = xs.take k ++ [x] := by
  rw [List.take_succ_eq_append_getElem (List.getElem?_eq_some_iff.1 h).1, (List.getElem?_eq_some_iff.1 h).2]
set_option maxRecDepth 100000 in
set_option maxHeartbeats 2000000 in
theorem backward1_hands (F : Nat → Prop) (n₀ B : Nat) (a : Option Addr) (cap N : Nat) (ts : List Tk) (hN : ts.length = N) (hlen : N ≤ 4194304) (w : World) (hB : B < w.heap.size) (hn : n₀ ≤ w.heap.size)
    (hbox : w.cell? ⟨B, 0, none⟩ = some (.slice a N cap)) (hx : ∀ k c, ts[k]? = some c → ∃ g o, a = some ⟨g, o, none⟩ ∧ g < n₀ ∧ w.cell? ⟨g, o + k, none⟩ = some (.string (tx c))) (hF : ∀ g o, a = some ⟨g, o, none⟩ → ts ≠ [] → ¬ F g) (hFB : ¬ F B) (hB0 : B < n₀) :
    Hands2 Tryz.prog 159 #[.pointer (some ⟨B, 0, none⟩)] F (bkL ts) w := by
  intro l J Jx W hW hl0 hl hFk hJ hJx hY h0 n
  clear hFk
  have hc0 := Lib.hid ((hW.cell (p := ⟨B, 0, none⟩) hB).trans hbox)
  have hx0 := Lib.hid (show ∀ k c, ts[k]? = some c → ∃ g o, a = some ⟨g, o, none⟩ ∧ g < n₀ ∧ W.cell? ⟨g, o + k, none⟩ = some (.string (tx c)) from fun k c hk => by
    obtain ⟨g, o, e, hg, hc⟩ := hx k c hk
    exact ⟨g, o, e, hg, (hW.cell (p := ⟨g, o + k, none⟩) (Nat.lt_of_lt_of_le hg hn)).trans hc⟩); clear hx hbox
  have hws := hW.size
  clear hW
  have HY := Lib.hid hY; clear hY
  have HF := Lib.hid (And.intro hF hFB); clear hF hFB
  have HL := Lib.hid hN
  have hcw := hc0.out
  refine callsIn_of_wp Tryz.func159 rfl trivial ?_ rfl
  simp only [Tryz.ntmps159, List.size_toArray, List.length_cons, List.length_nil, Nat.reduceAdd, Nat.reduceSub, Array.replicate_succ, Array.replicate_zero, List.push_toArray, List.append_toArray, List.nil_append, List.cons_append]
  gi_wp2
  gi_loopw [3] (fun i wr => ∃ (k m : Nat) (gg : Option Nat), k + m = N ∧ i = .int .i64 ((m : Int) - 1) ∧ J ((bkL ts).take k, gg) wr ∧ (∀ q, gg = some q → W.heap.size ≤ q) ∧ W.heap.size ≤ wr.heap.size ∧ ∀ q, q < n₀ → ¬ F q → wr.heap[q]? = W.heap[q]?) (fun i _ => (intOf i + 1).toNat)
  case atStart => exact ⟨0, N, none, by omega, rfl, h0, (fun q e => by cases e), Nat.le_refl _, fun _ _ _ => rfl⟩
  case round =>
    obtain ⟨k, m, gg, hk, rfl, hJs, hgg, hsz, hnx⟩ := hrel
    clear hcw
    cases m with
    | succ m =>
      have hmi : ((m + 1 : Nat) : Int) - 1 = (m : Int) := by omega
      rw [hmi]
      obtain ⟨c, hc⟩ : ∃ c, ts[m]? = some c := ⟨ts[m]'(by omega), List.getElem?_eq_getElem _⟩
      have hv : (bkL ts)[k]? = some #[.int .i64 (m : Int), .string (tx c)] := by
        rw [bkL_get (by omega)]
        unfold bkI
        rw [show ts.length - 1 - k = m by omega, List.getD_eq_getElem?_getD, hc]; rfl
      obtain ⟨g, o, rfl, hg, hgc⟩ := hx0.out m c hc
      have hcx : wr.cell? ⟨g, o + m, none⟩ = some (.string (tx c)) := (World.cell?_of_block (hnx g hg (HF.out.1 g o rfl (fun e => by rw [e] at hc; simp at hc)))).trans hgc
      have hcb : wr.cell? ⟨B, 0, none⟩ = some (.slice (some ⟨g, o, none⟩) N cap) := (World.cell?_of_block (hnx B hB0 HF.out.2)).trans hc0.out
      obtain ⟨fn, tmps, assign, body, hy, hR⟩ := HY.out _ _ (by rw [← next_bk hv]; exact List.take_prefix _ _) gg wr (n - 1) hJs
      rw [← next_bk hv] at hR
      have HNX := Lib.hid hnx; clear hnx
      have HGG := Lib.hid hgg; clear hgg
      clear hgc hc hv hmi
      generalize tx c = s at *
      gi_wp2
      refine ⟨fun h => (by cases h), hR.mono ?_⟩
      rintro e W3 (⟨rfl, g', hJ3, hn3, hk3⟩ | ⟨rfl, hJx3, -⟩)
      · have K3 := Lib.hid (And.intro hn3 hk3); clear hn3 hk3
        gi_wp2
        go_roundw
        case rel =>
          refine ⟨k + 1, m, g', by omega, rfl, hJ3, fun q hq => ?_, Nat.le_trans hsz K3.out.2.size, fun q hq hf => (K3.out.2.block q (by omega) (fun e => e.elim hf (fun e => by omega)) (fun e => by have := HGG.out q e; omega)).trans (HNX.out q hq hf)⟩
          rcases K3.out.1 with e | ⟨q', e, h', -⟩
          · exact HGG.out q (by rw [← e]; exact hq)
          · rw [e] at hq; cases hq; omega
        case measure => simp [intOf]
      · gi_wp2
        refine bodyPost_ret (results_none rfl _ _ _) rfl ?_
        exact ⟨⟨_, rfl⟩, .inr ⟨_, List.take_prefix _ _, hJx3⟩⟩
    | zero =>
      obtain rfl : k = N := by omega
      rw [List.take_of_length_le (by rw [bkL_len, HL.out]; exact Nat.le_refl _)] at hJs
      have HJ := Lib.hid hJs; clear hJs hnx hgg
      gi_wp2
      go_end0
      exact ⟨⟨_, rfl⟩, .inl ⟨gg, HJ.out⟩⟩
set_option maxHeartbeats 1000000 in
theorem backward_any (a : Option Addr) (n cap : Nat) (w : World) : Calls Tryz.prog 149 #[.slice a n cap] w fun e w' =>
    e = .returned (.func (.func 159) #[] #[.pointer (some ⟨w.heap.size, 0, none⟩)]) ∧ w' = w.alloc (.cells #[.slice a n cap] 24) := by
  go_enter Tryz.func149, Tryz.ntmps149
  go_wp2
  go_ret
  exact ⟨rfl, rfl⟩
end Go.Proofs.YtfnnoehpahdgcaaGreatDoor.Cl
namespace Go.Proofs.YtfnnoehpahdgcaaGreatDoor.Ra
set_option linter.unusedVariables false
open Go.RowKit
theorem rowsIn_of {P : Program} {n : Nat} {row : String} {args : Array Value} {w : World} {R : Value → World → Prop} (h : Rows P row args w R) : RowsIn Fence.wide n P row args w R :=
  fun c cs _ => let ⟨v, w', r, s⟩ := h c cs; ⟨v, w', r, stepsIn_wide.2 s⟩
theorem uponIn_of {P : Program} {n l : Nat} {o : Oper} {a : Act} {K K' : Act → World → Prop} {Q : Exit → Act → World → Prop} {r : Result Next} (hK : ∀ a w, K a w → K' a w) (h : o.upon P a K Q r) : o.uponIn (Fence.wide.inRound l) n P a K' Q r := by
  cases r with
  | ok x w' =>
    cases x with
    | value v => exact hK _ _ h
    | skip => exact hK _ _ h
    | defer d => exact hK _ _ h
    | enter f args =>
      refine ⟨(fun e => by cases e), CallsIn.inRound l (callsIn_wide.2 (Calls.mono h fun e w'' he => ?_))⟩
      cases e with
      | returned v => exact hK _ _ he
      | panicked c => exact he
      | outgrown => exact he
    | row row args => exact ⟨(fun e => by cases e), rowsIn_of (Rows.mono h fun v w'' he => hK _ _ he)⟩
    | _ => exact h.elim
  | halt x w' => cases x <;> first | exact h | exact h.elim
theorem wpAnyIn_of {P : Program} {md : Region.Mode} {ops : Array Oper} {Q : Exit → Act → World → Prop} {n l : Nat} (hd : ∀ (i : Nat) (o : Oper), ops[i]? = some o → ∀ c, o.op ≠ .defer c) (hl : ∀ a w, ¬ Q .outgrown a w) :
    ∀ (fuel : Nat) (listed : Array Bool) (a : Act) (w : World), wpAny P md ops Q fuel listed a w → wpAnyIn (Fence.wide.inRound l) n P md ops Q fuel listed a w
  | 0, _, _, _, h => h
  | fuel + 1, listed, a, w, h => by
    refine ⟨h.1, fun i hi => ?_⟩
    have hk := h.2 i hi
    unfold wpOp at hk
    unfold wpOpIn
    cases ho : ops[i]? with
    | none => rw [ho] at hk; exact wpAnyIn_of hd hl fuel _ a w hk
    | some o =>
      rw [ho] at hk
      simp only at hk ⊢
      split
      · rename_i hw
        rw [if_pos hw] at hk
        rcases hk with hk | ⟨-, a', w', hq⟩
        · refine ⟨fun _ _ => trivial, ?_⟩
          have e := Oper.semAt_some l a.eval o (hd i o ho)
          rw [Fence.inRound_round, e]
          exact uponIn_of (fun a w h => wpAnyIn_of hd hl fuel _ a w h) hk
        · exact absurd hq (hl a' w')
      · rename_i hw
        rw [if_neg hw] at hk
        exact ⟨fun _ _ => trivial, wpAnyIn_of hd hl fuel _ _ w hk⟩
theorem wpIn_region_held {P : Program} {ops : Array Oper} {Q : Exit → Act → World → Prop} {S : World → Prop} {n l id : Nat} {a : Act} {w : World} (hm : P.follows .mixedOrders = true) (hd : ∀ (i : Nat) (o : Oper), ops[i]? = some o → ∀ c, o.op ≠ .defer c) (hl : ∀ a w, ¬ Q .outgrown a w)
    (hS : S w.drew) (h : S w.drew → wpAnyH P .any ops Q S ops.size (Array.replicate ops.size false) a w.drew) : (Code.region id ops true).wpIn (Fence.wide.inRound l) n P Q a w :=
  wpIn_region_any hm (wpAnyIn_of hd hl _ _ _ _ (wpAny_of_held _ _ _ _ (h hS)))
def Op.defers : Op → Bool
  | .defer _ => true
  | _ => false
theorem defers_none {ops : Array Oper} (h : ops.all (fun o => !Op.defers o.op) = true) : ∀ (i : Nat) (o : Oper), ops[i]? = some o → ∀ c, o.op ≠ .defer c := fun i o hi c e => by
  have := Array.all_eq_true'.1 h o (Array.mem_of_getElem? hi)
  rw [e] at this; cases this
end Go.Proofs.YtfnnoehpahdgcaaGreatDoor.Ra
namespace Go.Proofs.YtfnnoehpahdgcaaGreatDoor.Cl
set_option linter.unusedVariables false
open Go.RowKit Wd Rp Kp Ra Go.Shelf
attribute [local go_sem] Oper.semAt_some
theorem cells_of_row {w : World} {B k n q : Nat} {e : TypeId} {v : Value} {xs : List Value} (h : w.ownsRow B e k v n xs) (hk : v.ownBlock = some q) : ∀ o, w.heap[q]? = some o → o.isCells = true := fun o ho => by
  obtain ⟨-, h2⟩ := h
  rcases h2 with ⟨rfl, -⟩ | ⟨g, cap, cur, rfl, -, hg, -⟩
  · cases hk
  · cases hk
    rw [hg] at ho; cases ho; rfl
def Bq (q : Nat) (v : Value) (w : World) : Prop := w.cell? ⟨q, 0, none⟩ = some v ∧ w.frozen? ⟨q, 0, none⟩ = false ∧ q < w.heap.size
theorem Bq.of {q T : Nat} {v : Value} {w : World} (e : w.heap[q]? = some (.cells #[v] T (0, 0))) : Bq q v w := ⟨by simp only [World.cell?, e]; rfl, by simp only [World.frozen?, e]; rfl, (Array.getElem?_eq_some_iff.1 e).1⟩
theorem Bq.same {q : Nat} {v : Value} {w w' : World} (h : Bq q v w) (e : w'.heap[q]? = w.heap[q]?) : Bq q v w' := by
  refine ⟨(World.cell?_of_block (w := w) e).trans h.1, ?_, ?_⟩
  · have := h.2.1; unfold World.frozen? at this ⊢; rw [e]; exact this
  · have h3 := h.2.2
    rcases Nat.lt_or_ge q w'.heap.size with h4 | h4
    · exact h4
    · rw [Array.getElem?_eq_none h4] at e; have := Array.getElem?_eq_none_iff.1 e.symm; omega
theorem Bq.drew {q : Nat} {v : Value} {w : World} (h : Bq q v w) : Bq q v w.drew := h
theorem Bq.set {q : Nat} {v : Value} {w : World} (h : Bq q v w) (x : Value) : Bq q x (w.setCell ⟨q, 0, none⟩ x) := ⟨World.cell?_setCell_same' _ _ _ (by rw [h.1]; rfl), by rw [World.frozen?_setCell]; exact h.2.1, by rw [World.size_setCell]; exact h.2.2⟩
theorem Bq.next {q : Nat} {v : Value} {w w' : World} (h : Bq q v w) (hb : Below w.heap.size w w') : Bq q v w' := h.same (hb.block q h.2.2)
theorem gcellq {w w' : World} {row : Option Nat} {q : Nat} {v : Value} (h : w.grownBy w' row) (hp : q < w.heap.size) (hne : some q ≠ row) (hc : w.cell? ⟨q, 0, none⟩ = some v) : w'.cell? ⟨q, 0, none⟩ = some v := (World.cell?_of_block (w := w) (h.block _ hp hne)).trans hc
theorem csetq {w : World} {p r o : Nat} {v x : Value} (h : p ≠ r) (hc : w.cell? ⟨p, 0, none⟩ = some v) : (w.setCell ⟨r, o, none⟩ x).cell? ⟨p, 0, none⟩ = some v := (World.cell?_of_block (w := w) (Below.heap_setCell _ _ _ p (fun e => h e))).trans hc
theorem grown_setq {w : World} {g o : Nat} {v : Value} : w.grownBy (w.setCell ⟨g, o, none⟩ v) (some g) := ⟨rfl, rfl, rfl, by rw [World.size_setCell]; exact Nat.le_refl _, fun k hk hne => Below.heap_setCell _ _ _ k (fun e => hne (by rw [e]))⟩
theorem grown_trans {w x y : World} {r : Option Nat} (h : w.grownBy x r) (k : x.grownBy y r) : w.grownBy y r := ⟨k.os.trans h.os, k.tape.trans h.tape, k.output.trans h.output, Nat.le_trans h.size k.size, fun i hi hne => (k.block i (Nat.lt_of_lt_of_le hi h.size) hne).trans (h.block i hi hne)⟩
theorem step_append_row {ops : Array Oper} {o : Oper} {a : Act} {Q : Exit → Act → World → Prop} {K : Act → World → Prop} {w : World} (hw : Region.wanted o (yielded ops a.tmps) = true) (s x : Operand) (S E : TypeId) (i0 : TypeInfo) (z : Value) (size bytes : Nat)
    (hS : Tryz.prog.underlying S = some (.slice E)) (hi : Tryz.prog.info? E = some i0) (hz : i0.zero = some z) (hsz : i0.size = size) (hby : i0.bytes = bytes) (hzs : z.cells.size = size) (h0 : 0 < size)
    (ho : o.op = .call { callee := .builtin .append, args := #[s, x], argTypes := #[S, S] })
    {base : Nat} {v : Value} {ad : Addr} {cap n m : Nat} {xs news : List Value} (hs : a.eval s = v) (hx : a.eval x = .slice (some ad) m cap) (hown : w.ownsRow base E size v n xs) (hl : news.length = m * size) (hnews : ∀ j u, news[j]? = some u → w.cell? (ad.add j) = some u) (h1 : ∀ u ∈ news, u.oneCell' = true)
    (h63 : n + m ≤ maxLen) (hbytes : (n + m) * bytes ≤ 140737488355328) (hbase : base ≤ w.heap.size)
    (h : ∀ v' w', w'.ownsRow base E size v' (n + m) (xs ++ news) → w.grownBy w' v.ownBlock → (v'.ownBlock = v.ownBlock ∨ v'.ownBlock = some w.heap.size) → K (a.put o.dst v') w') :
    if Region.wanted o (yielded ops a.tmps) = true then Oper.wp Tryz.prog o a w K Q else K (a.put o.dst undef) w := by
  rw [if_pos hw]
  obtain ⟨v', w', hr, h2, h3, h4, h5⟩ := run_append_own_at (P := Tryz.prog) w base S o.type E i0 z size bytes hS hi hz hsz hby hzs h0 v n xs hown ad m cap news hl hnews h1 h63 hbytes hbase
  unfold Oper.wp execOp
  simp only [ho, resolve, invoke, builtin, Sem.run_bind, Sem.run_pure, Result.andThen_ok, List.map_toArray, List.map_cons, List.map_nil, hs, hx, hr]
  exact h v' w' h2 h3 h5
def Fld {R : Type} (T : TypeId) (K : Nat) (cs : R → List Value) (P : Nat → List R) (q M n0 : Nat) (F1 F2 : Value) (w W0 : World) (s : List (Array Value) × Option Nat) (W : World) : Prop :=
  n0 ≤ W.heap.size ∧ ∃ sv, Bq M sv W ∧ W.ownsRow n0 T K sv (P s.1.length).length ((P s.1.length).flatMap cs) ∧ sv.ownBlock = s.2 ∧ Below q w W ∧ W.cell? ⟨q, 0, none⟩ = some F1 ∧ W.cell? ⟨q + 1, 0, none⟩ = some F2 ∧ ∀ k, k < n0 → k ≠ M → W.heap[k]? = W0.heap[k]?
theorem fl_end {R : Type} {T : TypeId} {K : Nat} {cs : R → List Value} {P : Nat → List R} {q M n0 : Nat} {F1 F2 : Value} {w W0 W w5 w8 : World} {pre : List (Array Value)} {x : Array Value} {sv nv : Value} {gg : Option Nat} {n m : Nat} {xs ys : List Value} (a : Act)
    (hb : Below W.heap.size W w5) (hs1 : n0 ≤ W.heap.size) (ho : Bq M sv W) (hr : W.ownsRow n0 T K sv n xs) (hg : sv.ownBlock = gg) (hw : Below q w W) (hc0 : W.cell? ⟨q, 0, none⟩ = some F1) (hc1 : W.cell? ⟨q + 1, 0, none⟩ = some F2) (hsm : ∀ k, k < n0 → k ≠ M → W.heap[k]? = W0.heap[k]?) (hM : M < n0) (hqM : q + 1 < M)
    (h8 : w8.ownsRow n0 T K nv m ys) (g8 : w5.grownBy w8 sv.ownBlock) (n8 : nv.ownBlock = sv.ownBlock ∨ nv.ownBlock = some w5.heap.size) (hm : (P (pre.length + 1)).length = m) (hys : (P (pre.length + 1)).flatMap cs = ys) :
    Rounds2 n0 (fun k => k = M) (Fld T K cs P q M n0 F1 F2 w W0) (fun _ _ _ => False) (pre ++ [x]) gg W .normal a (w8.setCell ⟨M, 0, none⟩ nv) := by
  have hr5 : w5.ownsRow n0 T K sv n xs := row_next hr fun g _ hg => hb.block g hg
  have K5 : Kept (fun k => k = M) gg W w5 := Kept.of_below hb
  have K8 : Kept (fun k => k = M) gg W w8 := K5.trans (Kept.of_grown g8 fun k hk => Or.inr ⟨by rw [← hg]; exact hk, cells_of_row hr5 hk⟩)
  have K9 : Kept (fun k => k = M) gg W (w8.setCell ⟨M, 0, none⟩ nv) := K8.trans (Kept.set (F := fun k => k = M) (p := ⟨M, 0, none⟩) rfl _)
  have hlt : ∀ k, sv.ownBlock = some k → n0 ≤ k := fun k hk => (World.ownsRow.lt hr k hk).1
  have hz5 := hb.size
  have hz8 : w5.heap.size ≤ w8.heap.size := g8.size
  have hblk : ∀ k, k < n0 → k ≠ M → (w8.setCell ⟨M, 0, none⟩ nv).heap[k]? = W.heap[k]? := fun k hk hne =>
    (Below.heap_setCell _ _ _ k (fun e => hne e)).trans ((g8.block k (by omega) (fun e => by have := hlt k e.symm; omega)).trans (hb.block k (by omega)))
  refine ⟨K9.keeps (fun k hk => by have : k = M := hk; omega), K9, nv.ownBlock, ?_, ?_, _, ((ho.same (hb.block M (by omega))).same (g8.block M (by omega) (fun e => by have := hlt M e.symm; omega))).set _, ?_, rfl, ?_, ?_, ?_, fun k hk hne => (hblk k hk hne).trans (hsm k hk hne)⟩
  · rw [World.size_setCell]
    rcases n8 with e | e
    · exact Or.inl (e.trans hg)
    · exact Or.inr ⟨w5.heap.size, e, hz5, (World.ownsRow.lt h8 _ e).2⟩
  · rw [World.size_setCell]; omega
  · rw [show ((pre ++ [x], nv.ownBlock) : List (Array Value) × Option Nat).1.length = pre.length + 1 by simp, hm, hys]
    exact row_next h8 fun g hgb _ => Below.heap_setCell _ _ _ _ (fun e => by have := (World.ownsRow.lt h8 g hgb).1; have e' : g = M := e; omega)
  · exact ((Below.trans hw (hb.mono (by have := hw.size; omega))).grown g8 (by have := hw.size; omega) (fun k hk => by have := hlt k hk; omega)).setCell (p := ⟨M, 0, none⟩) (by show q ≤ M; omega) _
  · exact (World.cell?_of_block (w := W) (hblk q (by omega) (by omega))).trans hc0
  · exact (World.cell?_of_block (w := W) (hblk (q + 1) (by omega) (by omega))).trans hc1
theorem row_cut {w : World} {B K g n cap m : Nat} {T : TypeId} {xs : List Value} (h : w.ownsRow B T K (.slice (some ⟨g, 0, none⟩) n cap) n xs) (hm : m ≤ n) : w.ownsRow B T K (.slice (some ⟨g, 0, none⟩) m cap) m (xs.take (m * K)) := by
  obtain ⟨h1, h2⟩ := h
  rcases h2 with ⟨e, -⟩ | ⟨g', cap', cur, e, hB, hg, hn, hc, hsz, hxs⟩
  · cases e
  · cases e
    have hmk : m * K ≤ n * K := Nat.mul_le_mul_right K hm
    refine ⟨by rw [List.length_take, h1]; omega, .inr ⟨g, cap, cur, rfl, hB, hg, by omega, hc, hsz, ?_⟩⟩
    rw [← hxs, List.take_take, Nat.min_eq_left hmk]
def plP {R : Type} (f : Tk → R) (g : Nat → R → R → R) (t : List Tk) (j : Nat) : List R := (stk f g (t.drop (t.length - j))).reverse
theorem plP_len {R : Type} (f : Tk → R) (g : Nat → R → R → R) (t : List Tk) (j : Nat) : (plP f g t j).length ≤ t.length := by
  unfold plP
  rw [List.length_reverse]
  have := stk_len f g (t.drop (t.length - j))
  rw [List.length_drop] at this
  omega
theorem plP_zero {R : Type} (f : Tk → R) (g : Nat → R → R → R) (t : List Tk) : plP f g t 0 = [] := by unfold plP; rw [Nat.sub_zero, List.drop_length]; rfl
theorem plP_all {R : Type} (f : Tk → R) (g : Nat → R → R → R) (t : List Tk) : plP f g t t.length = (stk f g t).reverse := by unfold plP; rw [Nat.sub_self, List.drop_zero]
theorem plP_step {t : List Tk} {j : Nat} {c : Tk} (hj : j < t.length) (hc : t[t.length - 1 - j]? = some c) : t.drop (t.length - (j + 1)) = c :: t.drop (t.length - j) := by
  obtain ⟨h1, h2⟩ := List.getElem?_eq_some_iff.1 hc
  have e : t.length - (j + 1) = t.length - 1 - j := by omega
  have e2 : t.length - j = t.length - 1 - j + 1 := by omega
  rw [e, e2, List.drop_eq_getElem_cons h1, h2]
theorem plP_leaf {R : Type} (f : Tk → R) (g : Nat → R → R → R) {t : List Tk} {j : Nat} {c : Tk} (hj : j < t.length) (hc : t[t.length - 1 - j]? = some c) (h : isO c = false) : plP f g t (j + 1) = plP f g t j ++ [f c] := by
  unfold plP
  rw [plP_step hj hc, stk_leaf h, List.reverse_cons]
theorem plP_op {R : Type} (f : Tk → R) (g : Nat → R → R → R) {t : List Tk} {j : Nat} {c : Tk} (hen : en t 1 = some t.length) (hj : j < t.length) (hc : t[t.length - 1 - j]? = some c) (h : isO c = true) : ∃ a b r, plP f g t j = r ++ [b, a] ∧ plP f g t (j + 1) = r ++ [g (opN c) a b] := by
  obtain ⟨a, b, r, e⟩ := ((stk_two f g hen).2 _ c hc).1 h
  have e2 : t.length - 1 - j + 1 = t.length - j := by omega
  rw [e2] at e
  refine ⟨a, b, r.reverse, ?_, ?_⟩
  · unfold plP; rw [e]; simp
  · unfold plP; rw [plP_step hj hc, stk_op h e, List.reverse_cons]
theorem lit_news1 (w : World) (x : Value) (T : TypeId) : ∀ (j : Nat) (u : Value), [x][j]? = some u → (w.alloc (.cells #[x] T)).cell? ((⟨w.heap.size, 0, none⟩ : Addr).add j) = some u := fun j u hj => by
  cases j with
  | zero =>
    simp at hj; subst hj
    exact (Bq.of (new_of w (.cells #[x] T))).1
  | succ j => simp at hj
theorem row_own {w : World} {B K n : Nat} {e : TypeId} {v : Value} {xs : List Value} (h : w.ownsRow B e K v (n + 1) xs) : ∃ g cap, v = .slice (some ⟨g, 0, none⟩) (n + 1) cap ∧ B ≤ g ∧ g < w.heap.size := by
  rcases h.2 with ⟨rfl, hn⟩ | ⟨g, cap, cur, rfl, hB, hg, -⟩
  · cases hn
  · exact ⟨g, cap, rfl, hB, (Array.getElem?_eq_some_iff.1 hg).1⟩
theorem row_view {w : World} {B k n : Nat} {e : TypeId} {v : Value} {xs : List Value} (h : w.ownsRow B e k v n xs) : ∃ a cap, v = .slice a n cap := by
  rcases h.2 with ⟨rfl, hn⟩ | ⟨g, cap, cur, rfl, -⟩
  · exact ⟨none, 0, by rw [hn]⟩
  · exact ⟨_, _, rfl⟩
def csN (n : Int) : List Value := [.int .i64 n]
theorem topN {w : World} {B g k cap : Nat} {T : TypeId} {r : List Int} {a b : Int} (h : w.ownsRow B T 1 (.slice (some ⟨g, 0, none⟩) (k + 1 + 1) cap) (k + 1 + 1) ((r ++ [b, a]).flatMap csN)) (hk : r.length = k) :
    w.cell? ⟨g, k + 1, none⟩ = some (.int .i64 a) ∧ w.cell? ⟨g, k, none⟩ = some (.int .i64 b) ∧ w.frozen? ⟨g, k, none⟩ = false := by
  have hf : ∀ l : List Int, l.flatMap csN = l.map iv := fun l => by induction l with
    | nil => rfl
    | cons x l ih => rw [List.flatMap_cons, ih]; rfl
  rw [hf] at h
  refine ⟨?_, ?_, World.ownsRow.frozenAt h k⟩
  · rw [World.ownsRow.cellAt h (k + 1) (by omega), List.getElem?_map, List.getElem?_append_right (by omega), show k + 1 - r.length = 1 by omega]; rfl
  · rw [World.ownsRow.cellAt h k (by omega), List.getElem?_map, List.getElem?_append_right (by omega), show k - r.length = 0 by omega]; rfl
theorem putN {k : Nat} {r : List Int} {a b x : Int} (hk : r.length = k) : (r ++ [x]).flatMap csN = (((r ++ [b, a]).flatMap csN).set k (.int .i64 x)).take ((k + 1) * 1) := by
  have hf : ∀ l : List Int, l.flatMap csN = l.map iv := fun l => by induction l with
    | nil => rfl
    | cons x l ih => rw [List.flatMap_cons, ih]; rfl
  subst hk
  rw [hf, hf, Nat.mul_one, List.map_append, List.map_append, List.set_append_right _ _ (by simp), List.length_map, Nat.sub_self, ← List.length_map (f := iv), List.take_length_add_append]; rfl
theorem coff {w : World} {g i j : Nat} {u v : Value} (h : i ≠ j) (hc : w.cell? ⟨g, i, none⟩ = some v) : (w.setCell ⟨g, j, none⟩ u).cell? ⟨g, i, none⟩ = some v := (World.cell?_setCell_other w ⟨g, j, none⟩ ⟨g, i, none⟩ u (fun e => h (by cases e; rfl))).trans hc
set_option maxRecDepth 100000 in
theorem cut_toK (T : TypeId) (K : Nat) (hu : Tryz.prog.underlying T = some (.slice (Tryz.prog.elem T))) (hs : ∀ w, (sizeOf (Tryz.prog.elem T)).run Tryz.prog w = .ok K w) (a : Option Addr) (n cap j : Nat) (hj : j ≤ n) (hc : n ≤ cap) (w : World) : (Instr.slice T (.slice a n cap) none (some (.int .i64 (j : Int))) none).run Tryz.prog w = .ok (.slice a j cap) w := by
  rw [run_slice_h w T a n cap hu .i64 (j : Int) (by omega) (by omega), hs]
  show Result.ok (Value.slice (if cap = 0 then a else a.map (·.add (0 * K))) (j - 0) (cap - 0)) w = _
  congr 2
  split
  · rfl
  · cases a <;> simp [Addr.add]
theorem row_cap {w : World} {B K g n m cap : Nat} {T : TypeId} {xs : List Value} (h : w.ownsRow B T K (.slice (some ⟨g, 0, none⟩) n cap) m xs) : m ≤ cap := by
  rcases h.2 with ⟨e, -⟩ | ⟨g', cap', cur, e, hB, hg, hn, -⟩
  · cases e
  · cases e; exact hn
theorem infoIntP : (Tryz.prog.info? 2).map (fun i => (i.zero, i.size, i.bytes)) = some (some (.int .i64 0), 1, 8) := by kernel_rfl
set_option maxHeartbeats 8000000 in
set_option maxRecDepth 100000 in
theorem foldedInt_any (f : Tk → Int) (g : Nat → Int → Int → Int) (w : World) (a : Option Addr) (cap n : Nat) (t : List Tk) (hn : t.length = n) (hv : V1 w a cap (txL t)) (hl : n ≤ 4194304) (hm : ∀ s ∈ t, s.length ≤ 4194304) (hL : Lib3 w) (hen : en t 1 = some t.length)
    (f1 f2 : Nat) (lb1 : Array Value) (he1 : ∀ args z, (callFunc f1 args).run Tryz.prog z = .ok (.enter f1 args) z) (he2 : ∀ args z, (callFunc f2 args).run Tryz.prog z = .ok (.enter f2 args) z)
    (hone : ∀ (s : Tk) (W : World), s ∈ t → isL s = true → Below w.heap.size w W → Calls Tryz.prog f1 (#[sgV s] ++ lb1) W fun e w' => e = .returned (.int .i64 (f s)) ∧ Below W.heap.size W w')
    (htwo : ∀ (o : Nat) (x y : Int) (W : World), 1 ≤ o → o ≤ 7 → Calls Tryz.prog f2 #[.int .i64 o, .int .i64 x, .int .i64 y] W fun e w' => e = .returned (.int .i64 (g o x y)) ∧ Below W.heap.size W w') :
    Calls Tryz.prog 143 #[.slice a n cap, .func (.func f1) #[] lb1, .func (.func f2) #[] #[]] w fun e w' => ∃ r, stk f g t = [r] ∧ e = .returned (.int .i64 r) ∧ Below w.heap.size w w' := by
  have HN := Lib.hid hn
  have HV := Lib.hid hv
  have HM := Lib.hid hm
  have HL := Lib.hid hL
  have HEN := Lib.hid hen
  have HONE := Lib.hid hone
  have HTWO := Lib.hid htwo
  have hn1 : 1 ≤ n := by have := en_pos hen; omega
  clear hv hm hL hen hone htwo
  obtain ⟨i0, hi, hz0, hz1, hz2⟩ := info_parts infoIntP
  obtain ⟨c00, hc00⟩ : ∃ c, t[0]? = some c := ⟨t[0]'(by omega), List.getElem?_eq_getElem _⟩
  obtain ⟨ga, go, rfl, hga, -⟩ := HV.out.tx hc00
  clear hc00
  have qn0 : ((n : Int) == 0) = false := by rw [beq_eq_false_iff_ne]; omega
  generalize hq : w.heap.size = q at *
  generalize hF1 : Value.func (Fn.func f1) #[] lb1 = F1
  generalize hF2 : Value.func (Fn.func f2) #[] #[] = F2
  have H0 := Lib.hid (bel3 w (.cells #[F1] 156) (.cells #[F2] 157) (.cells #[.slice none 0 0] 26))
  have hz3 : (((w.alloc (.cells #[F1] 156)).alloc (.cells #[F2] 157)).alloc (.cells #[.slice none 0 0] 26)).heap.size = q + 3 := by simp [hq]
  have hb3 : (((w.alloc (.cells #[F1] 156)).alloc (.cells #[F2] 157)).alloc (.cells #[.slice none 0 0] 26)).heap[q]? = some (.cells #[F1] 156 (0, 0)) ∧
      (((w.alloc (.cells #[F1] 156)).alloc (.cells #[F2] 157)).alloc (.cells #[.slice none 0 0] 26)).heap[q + 1]? = some (.cells #[F2] 157 (0, 0)) ∧
      (((w.alloc (.cells #[F1] 156)).alloc (.cells #[F2] 157)).alloc (.cells #[.slice none 0 0] 26)).heap[q + 1 + 1]? = some (.cells #[.slice none 0 0] 26 (0, 0)) := by
    subst hq
    have e0 := new_of w (.cells #[F1] 156)
    have e1 := new_of (w.alloc (.cells #[F1] 156)) (.cells #[F2] 157)
    have e2 := new_of ((w.alloc (.cells #[F1] 156)).alloc (.cells #[F2] 157)) (.cells #[.slice none 0 0] 26)
    have b1 := bel1 (w.alloc (.cells #[F1] 156)) (.cells #[F2] 157)
    have b2 := bel1 ((w.alloc (.cells #[F1] 156)).alloc (.cells #[F2] 157)) (.cells #[.slice none 0 0] 26)
    simp only [World.size_alloc] at e1 e2 b1 b2
    exact ⟨((b2.block _ (by omega)).trans ((b1.block _ (by omega)).trans e0)), ((b2.block _ (by omega)).trans e1), e2⟩
  have HB3 := Lib.hid hb3; clear hb3
  rw [hq] at H0
  generalize hw3 : (((w.alloc (.cells #[F1] 156)).alloc (.cells #[F2] 157)).alloc (.cells #[.slice none 0 0] 26)) = w3 at *
  have hb4 := bel1 w3 (.cells #[.slice (some ⟨ga, go, none⟩) n cap] 24)
  have hz4 : (w3.alloc (.cells #[.slice (some ⟨ga, go, none⟩) n cap] 24)).heap.size = q + 3 + 1 := by simp [hz3]
  have HX4 := Lib.hid (new_of w3 (.cells #[.slice (some ⟨ga, go, none⟩) n cap] 24))
  generalize hw4 : w3.alloc (.cells #[.slice (some ⟨ga, go, none⟩) n cap] 24) = w4 at *
  rw [hz3] at hb4 HX4
  have B4 := Lib.hid (H0.out.trans (hb4.mono (by omega)))
  obtain ⟨x0, x1, x2⟩ := HB3.out
  have C0 := Lib.hid ((Bq.of x0).same (hb4.block _ (by omega))).1
  have C1 := Lib.hid ((Bq.of x1).same (hb4.block _ (by omega))).1
  have XM := Lib.hid ((Bq.of x2).same (hb4.block _ (by omega)))
  have HHA := Lib.hid (backward1_hands (fun k => k = q + 1 + 1) w4.heap.size (q + 3) (some ⟨ga, go, none⟩) cap n t HN.out hl w4 (by omega) (Nat.le_refl _) (Bq.of HX4.out).1 (fun k c hk => by
      obtain ⟨g', o', e, hg, hc⟩ := HV.out.tx hk
      exact ⟨g', o', e, by omega, (World.cell?_of_block (w := w) (B4.out.block g' (by rw [hq] at hg; exact hg))).trans hc⟩) (fun g' o' e _ e2 => by cases e; omega) (by omega) (by omega))
  clear x0 x1 x2 HB3 H0 HX4 hb4
  have HWE := Lib.hid (show w3.alloc (.cells #[.slice (some ⟨ga, go, none⟩) n cap] 24) = w4 from hw4)
  have HBK := Lib.hid (backward_any (some ⟨ga, go, none⟩) n cap w3)
  rw [HWE.out, hz3] at HBK
  refine (callsIn_wide (n := 9)).1 (callsIn_of_wp_marks Tryz.func143 rfl trivial ?_ rfl)
  simp only [Tryz.ntmps143, List.size_toArray, List.length_cons, List.length_nil, Nat.reduceAdd, Nat.reduceSub, Array.replicate_succ, Array.replicate_zero, List.push_toArray, List.append_toArray, List.nil_append, List.cons_append]
  gi_wp2_with fail
  rw [hw3]
  refine ⟨trivial, (callsIn_wide.2 HBK.out).mono ?_⟩
  rintro e w5 ⟨rfl, rfl⟩
  clear hw3 hw4 HWE HBK
  gi_wp2_with fail
  refine loop_hands22 20 21 10 rfl (enters_of Tryz.func159 (by kernel_rfl) rfl) (bkL_two t) HHA.out (Below.refl _ _) (fun k hk => by have : k = q + 1 + 1 := hk; omega) (Fld 2 1 csN (plP f g t) q (q + 1 + 1) w5.heap.size F1 F2 w w5) (fun _ _ _ => False) ?_ ?_ ?_ ?_ ?_ ?_ ?_
  · rintro s W W' row ⟨h1, sv, ho, hr, hg, hb, hc0, hc1, hsm⟩ hgr hrow
    have hbb : Below w5.heap.size W W' := (Below.refl _ W).grown hgr h1 (fun k e => (hrow k e).1)
    refine ⟨Nat.le_trans h1 hgr.size, sv, ho.same (hbb.block _ (by omega)), row_next hr fun k hk hlt => hgr.block k hlt (fun e => ?_), hg, hb.trans (hbb.mono (by omega)), (World.cell?_of_block (w := W) (hbb.block q (by omega))).trans hc0, (World.cell?_of_block (w := W) (hbb.block (q + 1) (by omega))).trans hc1, fun k hk hne => (hbb.block k hk).trans (hsm k hk hne)⟩
    obtain ⟨-, o, ho2, hc⟩ := hrow k e.symm
    rw [cells_of_row hr hk o ho2] at hc; cases hc
  · exact fun k => fun _ _ _ _ h _ _ => h
  · exact ⟨Nat.le_refl _, .slice none 0 0, XM.out, (show w5.ownsRow w5.heap.size 2 1 (.slice none 0 0) (plP f g t 0).length ((plP f g t 0).flatMap csN) from by rw [plP_zero]; exact World.ownsRow_nil w5 _ _ _), rfl, B4.out, C0.out, C1.out, fun _ _ _ => rfl⟩
  · intro l m x y W K hK
    simp only [List.setIfInBounds_toArray, List.set_cons_zero, List.set_cons_succ] at hK ⊢
    gi_wp2
    exact hK
  · rintro l2 m pre x y gg W hpre hsz1 ⟨hs1, sv, ho, hr, hg, hb, hc0, hc1, hsm⟩
    obtain ⟨hj, hxy⟩ := pre_bk hpre
    replace hg : sv.ownBlock = gg := hg
    replace hr : W.ownsRow w5.heap.size 2 1 sv (plP f g t pre.length).length ((plP f g t pre.length).flatMap csN) := hr
    simp only [List.setIfInBounds_toArray, List.set_cons_zero, List.set_cons_succ]
    obtain ⟨c, hc⟩ : ∃ c, t[t.length - 1 - pre.length]? = some c := ⟨t[t.length - 1 - pre.length]'(by omega), List.getElem?_eq_getElem _⟩
    obtain rfl : y = .string (tx c) := by
      unfold bkI at hxy
      rw [List.getD_eq_getElem?_getD, hc] at hxy
      have := congrArg (fun z : Array Value => z[1]?) hxy
      simpa [tv] using this
    have hcm := List.mem_of_getElem? hc
    have HS := Lib.hid (signOf_any c W (HL.out.carry hb (by rw [← hq]; exact ⟨HL.out.2.2.2.1, HL.out.2.2.2.2.1, HL.out.2.2.2.2.2⟩)) (HM.out c hcm))
    have HPL := Lib.hid (plP_len f g t pre.length)
    have HO := Lib.hid ho
    have HR := Lib.hid hr
    have HB := Lib.hid hb
    have HG := Lib.hid hg
    have HC0 := Lib.hid hc0
    have HC1 := Lib.hid hc1
    have HSM := Lib.hid hsm; clear hsm
    clear ho hr hb hg hc0 hc1 hxy
    cases hio : isO c
    · have hil := ((stk_two f g HEN.out).2 _ c hc).2 hio
      obtain ⟨Ts, vs, hsv, hta⟩ := sgV_leaf hil
      have HF := Lib.hid (fun W' (hW : Below q w W') => HONE.out c W' hcm hil hW)
      rw [hsv] at HS HF
      have HP1 := Lib.hid (plP_leaf f g hj hc hio)
      have HGI := Lib.hid (And.intro hj hc)
      clear hsv hil hio hcm hc
      generalize plP f g t pre.length = pl at *
      generalize tx c = xs at *
      gi_wp2_with fail
      refine ⟨trivial, (fun h => by cases h), (CallsIn.inRound l2 (callsIn_wide.2 HS.out)).mono ?_⟩
      rintro e w6 ⟨rfl, b6⟩
      have B6 := Lib.hid b6; clear b6
      gi_wp2_with fail
      subst hF1
      have O6 := Lib.hid (HO.out.same (B6.out.block (q + 1 + 1) (by omega)))
      have R6 := Lib.hid (row_next HR.out fun g _ hlt => B6.out.block g hlt)
      have z6 := B6.out.size
      have D6 := Lib.hid (bel_drewN B6.out 1)
      have hf6 := HF.out w6.drew (HB.out.trans (D6.out.mono (by omega)))
      have HF6 := Lib.hid hf6; clear hf6
      have HS6 := Lib.hid (show w6.drew.cell? ⟨q, 0, none⟩ = some (.func (.func f1) #[] lb1) from (World.cell?_of_block (w := W) (B6.out.block q (by omega))).trans HC0.out)
      refine wpIn_region_held (S := fun z => z.cell? ⟨q, 0, none⟩ = some (.func (.func f1) #[] lb1)) (by kernel_rfl) (defers_none (by kernel_rfl)) (fun _ _ h => h) HS6.out (fun hHeld => ?_)
      refine tkI (i := 1) (v := ?v1t) rfl (Or.inl ⟨by rfl, ?hy1t⟩) ?rest1t
      case hy1t => (intro zz hSw; (try dsimp only at hSw); go_simp; (try with_reducible rfl))
      change wpAnyH _ _ _ _ _ _ _ (Act.put _ (some 25) _) _
      simp only [Act.put, List.setIfInBounds_toArray, List.set_cons_zero, List.set_cons_succ]
      refine tkI (i := 2) (v := ?v2t) rfl (Or.inl ⟨by rfl, ?hy2t⟩) ?rest2t
      case hy2t => (intro zz hSw; (try dsimp only at hSw); go_simp; (try with_reducible rfl))
      change wpAnyH _ _ _ _ _ _ _ (Act.put _ (some 26) _) _
      simp only [Act.put, List.setIfInBounds_toArray, List.set_cons_zero, List.set_cons_succ]
      refine wpAnyH_ready (rs := [0, 3]) (by kernel_rfl) (by simp) (AllReadyH.cons rfl (fun K hK => ?_) (AllReadyH.cons rfl (fun K hK => ?_) (AllReadyH.nil)))
      · skip
        obtain ⟨lo, -, -⟩ := O6.out.drew
        go_simp
        refine hK.out _ _ hHeld (fun hHeld => ?_)
        clear hK K lo
        refine wpAnyH_ready (rs := [3]) (by kernel_rfl) (by simp) (AllReadyH.cons rfl (fun K hK => ?_) (AllReadyH.nil))
        go_simp
        refine HF6.out.mono ?_; rintro e w7 ⟨rfl, b7⟩
        have B7 := Lib.hid (bel_tr D6.out b7 (Nat.le_refl _))
        have z7 : w6.heap.size ≤ w7.heap.size := b7.size
        have O7 := Lib.hid (O6.out.drew.next b7)
        have R7 := Lib.hid (row_next R6.out fun g _ hlt => b7.block g hlt)
        have HS7 := Lib.hid ((World.cell?_of_block (w := w6.drew) (b7.block q (show q < w6.heap.size by omega))).trans HS6.out)
        have B8 := Lib.hid (bel_tr B7.out (bel1 w7 (.cells #[.int .i64 (f c)] 2)) (Nat.le_refl _))
        have O8 := Lib.hid (O7.out.next (bel1 w7 (.cells #[.int .i64 (f c)] 2)))
        have R8 := Lib.hid (row_next R7.out fun g _ hlt => (bel1 w7 (.cells #[.int .i64 (f c)] 2)).block g hlt)
        have N8 := Lib.hid (new_of w7 (.cells #[.int .i64 (f c)] 2))
        have HS8 := Lib.hid ((World.cell?_of_block (w := w7) ((bel1 w7 (.cells #[.int .i64 (f c)] 2)).block q (show q < w7.heap.size by omega))).trans HS7.out)
        clear b7
        refine hK.out _ _ HS7.out (fun hHeld => ?_)
        clear hK K
        refine wpAnyH_ready (rs := [4]) (by kernel_rfl) (by simp) (AllReadyH.cons rfl (fun K hK => ?_) (AllReadyH.nil))
        go_simp
        refine hK.out _ _ HS8.out (fun hHeld => ?_)
        clear hK K
        refine wpAnyH_ready (rs := [5]) (by kernel_rfl) (by simp) (AllReadyH.cons rfl (fun K hK => ?_) (AllReadyH.nil))
        refine step_append_row rfl (.tmp 24) (.tmp 28) 26 2 i0 _ 1 _ Tryz.underlying26 hi hz0 hz1 hz2 rfl (by decide) rfl (base := w5.heap.size) (v := sv) (ad := ⟨w7.heap.size, 0, none⟩) (n := pl.length) (m := 1) (news := csN (f c)) rfl rfl R8.out rfl (by exact lit_news1 w7 _ _) (by intro u hu; simp [csN] at hu; subst hu; rfl) (by have := HPL.out; unfold maxLen; omega) (by have := HPL.out; omega) (by simp; omega) ?_
        intro v9 w9 r9 g9 n9
        obtain ⟨v9a, v9c, ev⟩ := row_view r9
        subst ev
        have N9 := Lib.hid (And.intro r9 (And.intro g9 n9))
        have O9 := Lib.hid (O8.out.same (g9.block _ (show q + 1 + 1 < (w7.alloc (.cells #[.int .i64 (f c)] 2)).heap.size by simp; omega) (fun e => by have := (World.ownsRow.lt HR.out _ e.symm).1; omega)))
        have HS9 := Lib.hid (gcellq g9 (show q < (w7.alloc (.cells #[.int .i64 (f c)] 2)).heap.size by simp; omega) (fun e => by have := (World.ownsRow.lt HR.out _ e.symm).1; omega) HS8.out)
        clear r9 g9 n9
        refine hK.out _ _ HS9.out (fun hHeld => ?_)
        clear hK K
        change wpAnyH _ _ _ _ _ _ _ (Act.put _ (some 29) _) _
        simp only [Act.put, List.setIfInBounds_toArray, List.set_cons_zero, List.set_cons_succ]
        refine wpAnyH_ready (rs := [6]) (by kernel_rfl) (by simp) (AllReadyH.cons rfl (fun K hK => ?_) (AllReadyH.nil))
        have hcz := O9.out.1
        have hfz := O9.out.2.1
        go_simp
        refine hK.out _ _ (csetq (show q ≠ q + 1 + 1 by omega) HS9.out) (fun hHeld => ?_)
        clear hK K hcz hfz
        refine wpAnyH_done (by kernel_rfl) ?_ _
        exact fl_end { tmps := #[], defers := [] } B8.out hs1 HO.out HR.out HG.out HB.out HC0.out HC1.out HSM.out (by omega) (by omega) N9.out.1 N9.out.2.1 N9.out.2.2 (by rw [HP1.out, List.length_append]; rfl) (by rw [HP1.out, List.flatMap_append]; simp)
      · skip
        go_simp
        refine HF6.out.mono ?_; rintro e w7 ⟨rfl, b7⟩
        have B7 := Lib.hid (bel_tr D6.out b7 (Nat.le_refl _))
        have z7 : w6.heap.size ≤ w7.heap.size := b7.size
        have O7 := Lib.hid (O6.out.drew.next b7)
        have R7 := Lib.hid (row_next R6.out fun g _ hlt => b7.block g hlt)
        have HS7 := Lib.hid ((World.cell?_of_block (w := w6.drew) (b7.block q (show q < w6.heap.size by omega))).trans HS6.out)
        have B8 := Lib.hid (bel_tr B7.out (bel1 w7 (.cells #[.int .i64 (f c)] 2)) (Nat.le_refl _))
        have O8 := Lib.hid (O7.out.next (bel1 w7 (.cells #[.int .i64 (f c)] 2)))
        have R8 := Lib.hid (row_next R7.out fun g _ hlt => (bel1 w7 (.cells #[.int .i64 (f c)] 2)).block g hlt)
        have N8 := Lib.hid (new_of w7 (.cells #[.int .i64 (f c)] 2))
        have HS8 := Lib.hid ((World.cell?_of_block (w := w7) ((bel1 w7 (.cells #[.int .i64 (f c)] 2)).block q (show q < w7.heap.size by omega))).trans HS7.out)
        clear b7
        refine hK.out _ _ HS7.out (fun hHeld => ?_)
        clear hK K
        refine wpAnyH_ready (rs := [0, 4]) (by kernel_rfl) (by simp) (AllReadyH.cons rfl (fun K hK => ?_) (AllReadyH.cons rfl (fun K hK => ?_) (AllReadyH.nil)))
        · skip
          obtain ⟨lo, -, -⟩ := O7.out
          go_simp
          refine hK.out _ _ hHeld (fun hHeld => ?_)
          clear hK K lo
          refine wpAnyH_ready (rs := [4]) (by kernel_rfl) (by simp) (AllReadyH.cons rfl (fun K hK => ?_) (AllReadyH.nil))
          go_simp
          refine hK.out _ _ HS8.out (fun hHeld => ?_)
          clear hK K
          refine wpAnyH_ready (rs := [5]) (by kernel_rfl) (by simp) (AllReadyH.cons rfl (fun K hK => ?_) (AllReadyH.nil))
          refine step_append_row rfl (.tmp 24) (.tmp 28) 26 2 i0 _ 1 _ Tryz.underlying26 hi hz0 hz1 hz2 rfl (by decide) rfl (base := w5.heap.size) (v := sv) (ad := ⟨w7.heap.size, 0, none⟩) (n := pl.length) (m := 1) (news := csN (f c)) rfl rfl R8.out rfl (by exact lit_news1 w7 _ _) (by intro u hu; simp [csN] at hu; subst hu; rfl) (by have := HPL.out; unfold maxLen; omega) (by have := HPL.out; omega) (by simp; omega) ?_
          intro v9 w9 r9 g9 n9
          obtain ⟨v9a, v9c, ev⟩ := row_view r9
          subst ev
          have N9 := Lib.hid (And.intro r9 (And.intro g9 n9))
          have O9 := Lib.hid (O8.out.same (g9.block _ (show q + 1 + 1 < (w7.alloc (.cells #[.int .i64 (f c)] 2)).heap.size by simp; omega) (fun e => by have := (World.ownsRow.lt HR.out _ e.symm).1; omega)))
          have HS9 := Lib.hid (gcellq g9 (show q < (w7.alloc (.cells #[.int .i64 (f c)] 2)).heap.size by simp; omega) (fun e => by have := (World.ownsRow.lt HR.out _ e.symm).1; omega) HS8.out)
          clear r9 g9 n9
          refine hK.out _ _ HS9.out (fun hHeld => ?_)
          clear hK K
          change wpAnyH _ _ _ _ _ _ _ (Act.put _ (some 29) _) _
          simp only [Act.put, List.setIfInBounds_toArray, List.set_cons_zero, List.set_cons_succ]
          refine wpAnyH_ready (rs := [6]) (by kernel_rfl) (by simp) (AllReadyH.cons rfl (fun K hK => ?_) (AllReadyH.nil))
          have hcz := O9.out.1
          have hfz := O9.out.2.1
          go_simp
          refine hK.out _ _ (csetq (show q ≠ q + 1 + 1 by omega) HS9.out) (fun hHeld => ?_)
          clear hK K hcz hfz
          refine wpAnyH_done (by kernel_rfl) ?_ _
          exact fl_end { tmps := #[], defers := [] } B8.out hs1 HO.out HR.out HG.out HB.out HC0.out HC1.out HSM.out (by omega) (by omega) N9.out.1 N9.out.2.1 N9.out.2.2 (by rw [HP1.out, List.length_append]; rfl) (by rw [HP1.out, List.flatMap_append]; simp)
        · skip
          go_simp
          refine hK.out _ _ HS8.out (fun hHeld => ?_)
          clear hK K
          refine wpAnyH_ready (rs := [0]) (by kernel_rfl) (by simp) (AllReadyH.cons rfl (fun K hK => ?_) (AllReadyH.nil))
          obtain ⟨lo, -, -⟩ := O8.out
          go_simp
          refine hK.out _ _ hHeld (fun hHeld => ?_)
          clear hK K lo
          refine wpAnyH_ready (rs := [5]) (by kernel_rfl) (by simp) (AllReadyH.cons rfl (fun K hK => ?_) (AllReadyH.nil))
          refine step_append_row rfl (.tmp 24) (.tmp 28) 26 2 i0 _ 1 _ Tryz.underlying26 hi hz0 hz1 hz2 rfl (by decide) rfl (base := w5.heap.size) (v := sv) (ad := ⟨w7.heap.size, 0, none⟩) (n := pl.length) (m := 1) (news := csN (f c)) rfl rfl R8.out rfl (by exact lit_news1 w7 _ _) (by intro u hu; simp [csN] at hu; subst hu; rfl) (by have := HPL.out; unfold maxLen; omega) (by have := HPL.out; omega) (by simp; omega) ?_
          intro v9 w9 r9 g9 n9
          obtain ⟨v9a, v9c, ev⟩ := row_view r9
          subst ev
          have N9 := Lib.hid (And.intro r9 (And.intro g9 n9))
          have O9 := Lib.hid (O8.out.same (g9.block _ (show q + 1 + 1 < (w7.alloc (.cells #[.int .i64 (f c)] 2)).heap.size by simp; omega) (fun e => by have := (World.ownsRow.lt HR.out _ e.symm).1; omega)))
          have HS9 := Lib.hid (gcellq g9 (show q < (w7.alloc (.cells #[.int .i64 (f c)] 2)).heap.size by simp; omega) (fun e => by have := (World.ownsRow.lt HR.out _ e.symm).1; omega) HS8.out)
          clear r9 g9 n9
          refine hK.out _ _ HS9.out (fun hHeld => ?_)
          clear hK K
          change wpAnyH _ _ _ _ _ _ _ (Act.put _ (some 29) _) _
          simp only [Act.put, List.setIfInBounds_toArray, List.set_cons_zero, List.set_cons_succ]
          refine wpAnyH_ready (rs := [6]) (by kernel_rfl) (by simp) (AllReadyH.cons rfl (fun K hK => ?_) (AllReadyH.nil))
          have hcz := O9.out.1
          have hfz := O9.out.2.1
          go_simp
          refine hK.out _ _ (csetq (show q ≠ q + 1 + 1 by omega) HS9.out) (fun hHeld => ?_)
          clear hK K hcz hfz
          refine wpAnyH_done (by kernel_rfl) ?_ _
          exact fl_end { tmps := #[], defers := [] } B8.out hs1 HO.out HR.out HG.out HB.out HC0.out HC1.out HSM.out (by omega) (by omega) N9.out.1 N9.out.2.1 N9.out.2.2 (by rw [HP1.out, List.length_append]; rfl) (by rw [HP1.out, List.flatMap_append]; simp)
    · obtain ⟨va, vb, r, e1, e2⟩ := plP_op f g HEN.out hj hc hio
      have ho1 : 1 ≤ opN c := by have := isO_ne hio; omega
      have ho7 := opN_le c
      rw [sgV_op hio] at HS
      have hta := ta_op (.int .i64 (opN c))
      have HP1 := Lib.hid e2
      rw [e1] at HR HPL
      have hlen : (r ++ [vb, va]).length = r.length + 2 := by simp
      rw [hlen] at HR HPL
      obtain ⟨pb, pc, hsv, hpb, hpl⟩ := row_own HR.out
      subst hsv
      have HTW := Lib.hid (fun W' => HTWO.out (opN c) va vb W' ho1 ho7)
      clear hlen e1 e2 hio hcm hc
      generalize plP f g t pre.length = pl at *
      generalize tx c = xs at *
      generalize opN c = o at *
      generalize hk : r.length = k at *
      have HR0 := Lib.hid hk; clear hk
      have kb : k ≤ 4194304 := by have := HPL.out; omega
      have i1 : (0 : Int) ≤ (k : Int) + 1 := by omega
      have i2 : (k : Int) < (k : Int) + 1 := by omega
      have i3 : (k : Int) < (k : Int) + 1 + 1 := by omega
      have i4 : (0 : Int) ≤ (k : Int) := by omega
      have hwk : IntKind.i64.wrap (k : Int) = (k : Int) := by rw [IntKind.wrap_i64]; omega
      gi_wp2_with fail
      refine ⟨trivial, (fun h => by cases h), (CallsIn.inRound l2 (callsIn_wide.2 HS.out)).mono ?_⟩
      rintro e w6 ⟨rfl, b6⟩
      have B6 := Lib.hid b6; clear b6
      have O6 := Lib.hid (HO.out.same (B6.out.block (q + 1 + 1) (by omega)))
      have hm6 := O6.out.1
      have kb1 : (k : Int) + 1 ≤ 4194305 := by omega
      gi_wp2_with fail
      subst hF2
      clear hm6
      have R6 := Lib.hid (row_next HR.out fun g _ hlt => B6.out.block g hlt)
      have z6 := B6.out.size
      have D6 := Lib.hid (bel_drewN B6.out 1)
      have HT6 := Lib.hid (HTW.out w6.drew)
      have HTP := Lib.hid (topN R6.out HR0.out)
      have HS6 := Lib.hid (show w6.drew.cell? ⟨q + 1 + 1, 0, none⟩ = some (.slice (some ⟨pb, 0, none⟩) (k + 1 + 1) pc) ∧ w6.drew.cell? ⟨q + 1, 0, none⟩ = some (.func (.func f2) #[] #[]) ∧ w6.drew.cell? ⟨pb, k + 1, none⟩ = some (.int .i64 va) from ⟨O6.out.1, (World.cell?_of_block (w := W) (B6.out.block (q + 1) (by omega))).trans HC1.out, HTP.out.1⟩)
      refine wpIn_region_held (S := fun z => z.cell? ⟨q + 1 + 1, 0, none⟩ = some (.slice (some ⟨pb, 0, none⟩) (k + 1 + 1) pc) ∧ z.cell? ⟨q + 1, 0, none⟩ = some (.func (.func f2) #[] #[]) ∧ z.cell? ⟨pb, k + 1, none⟩ = some (.int .i64 va)) (by kernel_rfl) (defers_none (by kernel_rfl)) (fun _ _ h => h) HS6.out (fun hHeld => ?_)
      refine tkI (i := 0) (v := ?v0u) rfl (Or.inl ⟨by rfl, ?hy0u⟩) ?rest0u
      case hy0u => (intro zz hSw; (try dsimp only at hSw); go_simp; (try with_reducible rfl))
      change wpAnyH _ _ _ _ _ _ _ (Act.put _ (some 36) _) _
      simp only [Act.put, List.setIfInBounds_toArray, List.set_cons_zero, List.set_cons_succ]
      refine tkI (i := 1) (v := ?v1u) rfl (Or.inl ⟨by rfl, ?hy1u⟩) ?rest1u
      case hy1u => (intro zz hSw; (try dsimp only at hSw); go_simp; (try with_reducible rfl))
      change wpAnyH _ _ _ _ _ _ _ (Act.put _ (some 37) _) _
      simp only [Act.put, List.setIfInBounds_toArray, List.set_cons_zero, List.set_cons_succ]
      refine tkI (i := 2) (v := ?v2u) rfl (Or.inl ⟨by rfl, ?hy2u⟩) ?rest2u
      case hy2u => (intro zz hSw; (try dsimp only at hSw); go_simp; (try with_reducible rfl))
      change wpAnyH _ _ _ _ _ _ _ (Act.put _ (some 38) _) _
      simp only [Act.put, List.setIfInBounds_toArray, List.set_cons_zero, List.set_cons_succ]
      refine tkI (i := 3) (v := ?v3u) rfl (Or.inl ⟨by rfl, ?hy3u⟩) ?rest3u
      case hy3u => (intro zz hSw; (try dsimp only at hSw); go_simp; (try with_reducible rfl))
      change wpAnyH _ _ _ _ _ _ _ (Act.put _ (some 39) _) _
      simp only [Act.put, List.setIfInBounds_toArray, List.set_cons_zero, List.set_cons_succ]
      refine tkI (i := 4) (v := ?v4u) rfl (Or.inl ⟨by rfl, ?hy4u⟩) ?rest4u
      case hy4u => (intro zz hSw; (try dsimp only at hSw); go_simp; (try with_reducible rfl))
      change wpAnyH _ _ _ _ _ _ _ (Act.put _ (some 40) _) _
      simp only [Act.put, List.setIfInBounds_toArray, List.set_cons_zero, List.set_cons_succ]
      refine tkI (i := 5) (v := ?v5u) rfl (Or.inl ⟨by rfl, ?hy5u⟩) ?rest5u
      case hy5u => (intro zz hSw; (try dsimp only at hSw); go_simp; (try with_reducible rfl))
      change wpAnyH _ _ _ _ _ _ _ (Act.put _ (some 41) _) _
      simp only [Act.put, List.setIfInBounds_toArray, List.set_cons_zero, List.set_cons_succ]
      refine tkI (i := 6) (v := ?v6u) rfl (Or.inl ⟨by rfl, ?hy6u⟩) ?rest6u
      case hy6u => (intro zz hSw; (try dsimp only at hSw); go_simp; (try with_reducible rfl))
      change wpAnyH _ _ _ _ _ _ _ (Act.put _ (some 42) _) _
      simp only [Act.put, List.setIfInBounds_toArray, List.set_cons_zero, List.set_cons_succ]
      refine tkI (i := 7) (v := ?v7u) rfl (Or.inl ⟨by rfl, ?hy7u⟩) ?rest7u
      case hy7u => (intro zz hSw; (try dsimp only at hSw); go_simp; (try with_reducible rfl))
      change wpAnyH _ _ _ _ _ _ _ (Act.put _ (some 43) _) _
      simp only [Act.put, List.setIfInBounds_toArray, List.set_cons_zero, List.set_cons_succ]
      refine tkI (i := 8) (v := ?v8u) rfl (Or.inl ⟨by rfl, ?hy8u⟩) ?rest8u
      case hy8u => (intro zz hSw; (try dsimp only at hSw); go_simp; (try with_reducible rfl))
      change wpAnyH _ _ _ _ _ _ _ (Act.put _ (some 44) _) _
      simp only [Act.put, List.setIfInBounds_toArray, List.set_cons_zero, List.set_cons_succ]
      refine tkI (i := 9) (v := ?v9u) rfl (Or.inl ⟨by rfl, ?hy9u⟩) ?rest9u
      case hy9u => (intro zz hSw; (try dsimp only at hSw); go_simp; (try with_reducible rfl))
      change wpAnyH _ _ _ _ _ _ _ (Act.put _ (some 45) _) _
      simp only [Act.put, List.setIfInBounds_toArray, List.set_cons_zero, List.set_cons_succ]
      refine tkI (i := 10) (v := ?v10u) rfl (Or.inl ⟨by rfl, ?hy10u⟩) ?rest10u
      case hy10u => (intro zz hSw; (try dsimp only at hSw); go_simp; (try with_reducible rfl))
      change wpAnyH _ _ _ _ _ _ _ (Act.put _ (some 46) _) _
      simp only [Act.put, List.setIfInBounds_toArray, List.set_cons_zero, List.set_cons_succ]
      refine tkI (i := 11) (v := ?v11u) rfl (Or.inl ⟨by rfl, ?hy11u⟩) ?rest11u
      case hy11u => (intro zz hSw; (try dsimp only at hSw); go_simp; (try with_reducible rfl))
      change wpAnyH _ _ _ _ _ _ _ (Act.put _ (some 47) _) _
      simp only [Act.put, List.setIfInBounds_toArray, List.set_cons_zero, List.set_cons_succ]
      refine tkI (i := 12) (v := ?v12u) rfl (Or.inl ⟨by rfl, ?hy12u⟩) ?rest12u
      case hy12u => (intro zz hSw; (try dsimp only at hSw); go_simp; (try with_reducible rfl))
      change wpAnyH _ _ _ _ _ _ _ (Act.put _ (some 48) _) _
      simp only [Act.put, List.setIfInBounds_toArray, List.set_cons_zero, List.set_cons_succ]
      refine wpAnyH_ready (rs := [13]) (by kernel_rfl) (by simp) (AllReadyH.cons rfl (fun K hK => ?_) (AllReadyH.nil))
      obtain lo0 := HTP.out.2.1
      go_simp
      refine hK.out _ _ hHeld (fun hHeld => ?_)
      clear hK K lo0
      refine wpAnyH_ready (rs := [14]) (by kernel_rfl) (by simp) (AllReadyH.cons rfl (fun K hK => ?_) (AllReadyH.nil))
      go_simp
      refine HT6.out.mono ?_; rintro e w7 ⟨rfl, b7⟩
      have B7 := Lib.hid (bel_tr D6.out b7 (Nat.le_refl _))
      have z7 : w6.heap.size ≤ w7.heap.size := b7.size
      have O7 := Lib.hid (O6.out.drew.next b7)
      have R7 := Lib.hid (row_next R6.out fun g _ hlt => b7.block g hlt)
      have HTP7 := Lib.hid (topN R7.out HR0.out)
      have HS7 := Lib.hid (show w7.cell? ⟨q + 1 + 1, 0, none⟩ = some (.slice (some ⟨pb, 0, none⟩) (k + 1 + 1) pc) ∧ w7.cell? ⟨q + 1, 0, none⟩ = some (.func (.func f2) #[] #[]) ∧ w7.cell? ⟨pb, k + 1, none⟩ = some (.int .i64 va) from ⟨O7.out.1, (World.cell?_of_block (w := w6.drew) (b7.block (q + 1) (show q + 1 < w6.heap.size by omega))).trans HS6.out.2.1, HTP7.out.1⟩)
      clear b7
      refine hK.out _ _ HS7.out (fun hHeld => ?_)
      clear hK K
      refine tkI (i := 15) (v := ?v15u) rfl (Or.inl ⟨by rfl, ?hy15u⟩) ?rest15u
      case hy15u => (intro zz hSw; (try dsimp only at hSw); go_simp; (try with_reducible rfl))
      change wpAnyH _ _ _ _ _ _ _ (Act.put _ (some 51) _) _
      simp only [Act.put, List.setIfInBounds_toArray, List.set_cons_zero, List.set_cons_succ]
      refine wpAnyH_ready (rs := [16]) (by kernel_rfl) (by simp) (AllReadyH.cons rfl (fun K hK => ?_) (AllReadyH.nil))
      obtain ⟨-, hcz, hfz⟩ := HTP7.out
      go_simp
      have HS8 := Lib.hid (show (w7.setCell ⟨pb, k, none⟩ (.int .i64 (g o va vb))).cell? ⟨q + 1 + 1, 0, none⟩ = some (.slice (some ⟨pb, 0, none⟩) (k + 1 + 1) pc) ∧ (w7.setCell ⟨pb, k, none⟩ (.int .i64 (g o va vb))).cell? ⟨q + 1, 0, none⟩ = some (.func (.func f2) #[] #[]) ∧ (w7.setCell ⟨pb, k, none⟩ (.int .i64 (g o va vb))).cell? ⟨pb, k + 1, none⟩ = some (.int .i64 va) from ⟨csetq (show q + 1 + 1 ≠ pb by omega) HS7.out.1, csetq (show q + 1 ≠ pb by omega) HS7.out.2.1, coff (by omega) HS7.out.2.2⟩)
      refine hK.out _ _ HS8.out (fun hHeld => ?_)
      clear hK K hcz hfz
      refine wpAnyH_done (by kernel_rfl) ?_ _
      have O8 := Lib.hid (O7.out.same (Below.heap_setCell _ ⟨pb, k, none⟩ (.int .i64 (g o va vb)) (q + 1 + 1) (fun e => by have e' : q + 1 + 1 = pb := e; omega)))
      have R8 := Lib.hid (row_cut ((World.ownsRow.stored R7.out k (.int .i64 (g o va vb))).1) (m := k + 1) (by omega))
      have G8 := Lib.hid (show w7.grownBy (w7.setCell ⟨pb, k, none⟩ (.int .i64 (g o va vb))) (Value.slice (some ⟨pb, 0, none⟩) (k + 1 + 1) pc).ownBlock from grown_setq)
      clear hHeld HS8
      generalize (w7.setCell ⟨pb, k, none⟩ (.int .i64 (g o va vb))) = w8 at *
      obtain ⟨hm8, hf8, -⟩ := id O8.out
      have hcut : ∀ w, (Instr.slice 26 (.slice (some ⟨pb, 0, none⟩) (k + 1 + 1) pc) none (some (.int .i64 ((k : Int) + 1))) none).run Tryz.prog w = .ok (.slice (some ⟨pb, 0, none⟩) (k + 1) pc) w := cut_toK 26 1 (by kernel_rfl) (by intro w; exact Tryz.sizeOf2 w) (some ⟨pb, 0, none⟩) (k + 1 + 1) pc (k + 1) (by omega) (row_cap R7.out)
      clear i1 i2 i3 i4 hwk kb1
      gi_wp2_with fail
      exact fl_end { tmps := #[], defers := [] } B7.out hs1 HO.out HR.out HG.out HB.out HC0.out HC1.out HSM.out (by omega) (by omega) R8.out G8.out (Or.inl rfl) (by rw [HP1.out, List.length_append, HR0.out]; rfl) (by rw [HP1.out]; exact putN HR0.out)
  · rintro D gg W hD ⟨hs1, sv, ho, hr, hg, hb, hc0, hc1, hsm⟩ hK
    obtain ⟨r, hrs⟩ : ∃ r, stk f g t = [r] := by
      have := (stk_two f g HEN.out).1
      match hs : stk f g t, this with
      | [r], _ => exact ⟨r, rfl⟩
    rw [show ((bkL t, gg) : List (Array Value) × Option Nat).1.length = t.length from bkL_len t, plP_all, hrs] at hr
    obtain ⟨pb, pc, hsv, hpb, hpl⟩ := row_own (n := 0) hr
    subst hsv
    have HB := Lib.hid hb
    have l0 : W.cell? ⟨pb, 0, none⟩ = some (.int .i64 r) := World.ownsRow.cellAt hr 0 (by decide)
    obtain ⟨o1, o2, o3⟩ := ho
    have HRS := Lib.hid hrs
    clear hr hb hg hc0 hc1 hrs
    have PB := Lib.hid (put_below (n₀ := q) (l := D) (W := W) (o := .deferred none) (by omega) (by omega))
    gi_wp2_with fail
    refine ⟨by simp, .inl ⟨_, _, rfl, run_takeDeferred hK, ?_⟩⟩
    exact ⟨_, results_tmp rfl _ _ _, r, HRS.out, rfl, HB.out.trans PB.out⟩
  · rintro D k pre W hD hpre hf hK
    exact hf.elim
end Go.Proofs.YtfnnoehpahdgcaaGreatDoor.Cl
namespace Go.Proofs.YtfnnoehpahdgcaaGreatDoor.Cl
set_option linter.unusedVariables false
open Go.RowKit Wd Rp Kp Ra Go.Shelf
theorem edV_no {l : List Tk} {i : Int} (h : enA l i = none) : edV l i = -1 := by unfold edV; rw [h]
theorem edV_at {l : List Tk} {i : Int} {m : Nat} (h : enA l i = some m) : edV l i = i + m := by unfold edV; rw [h]
theorem enA_piece {l : List Tk} {i : Int} {m : Nat} (h : enA l i = some m) : ∃ k : Nat, i = (k : Int) ∧ k + m ≤ l.length ∧ ((l.drop k).take m).length = m ∧ en ((l.drop k).take m) 1 = some m ∧ 1 ≤ m := by
  have h0 : 0 ≤ i := by
    apply Decidable.byContradiction; intro h1
    rw [enA_neg (by omega)] at h; cases h
  obtain ⟨k, rfl⟩ : ∃ k : Nat, i = k := ⟨i.toNat, by omega⟩
  rw [enA_nat] at h
  have h1 := en_le h
  have h2 := en_pos h
  rw [List.length_drop] at h1
  exact ⟨k, rfl, by omega, by rw [List.length_take, List.length_drop]; omega, en_take h, h2⟩
theorem mem_piece {l : List Tk} {k m : Nat} {s : Tk} (h : s ∈ (l.drop k).take m) : s ∈ l := List.mem_of_mem_drop (List.mem_of_mem_take h)
set_option maxHeartbeats 4000000 in
set_option maxRecDepth 100000 in
theorem sumAt_none (w : World) (a : Option Addr) (cap : Nat) (l : List Tk) (n : Nat) (i : Int) (hi : I64 i) (hn : l.length = n) (hv : V1 w a cap (txL l)) (hl : n ≤ 4194304) (hm : ∀ s ∈ l, s.length ≤ 4194304) (hL : Lib3 w) (he : enA l i = none) :
    Calls Tryz.prog 129 #[.slice a n cap, .int .i64 i] w fun e w' => e = .returned (.slice none 0 0) ∧ Below w.heap.size w w' := by
  have HE := Lib.hid (implEnd_any w a cap l n i hi hn hv hl hm hL)
  rw [edV_no he] at HE
  go_enter Tryz.func129, Tryz.ntmps129
  go_wp2_with fail
  refine HE.out.mono ?_; rintro e w1 ⟨rfl, b1⟩
  have B1 := Lib.hid b1; clear b1
  go_wp2_with fail
  go_ret
  exact ⟨rfl, B1.out⟩
set_option maxHeartbeats 4000000 in
set_option maxRecDepth 100000 in
theorem sumAt_some (w : World) (a : Option Addr) (cap : Nat) (l : List Tk) (n k m : Nat) (hi : I64 (k : Int)) (hn : l.length = n) (hv : V1 w a cap (txL l)) (hl : n ≤ 4194304) (hm : ∀ s ∈ l, s.length ≤ 4194304) (hL : Lib3 w) (he : enA l (k : Int) = some m) (hkm : k + m ≤ n) :
    Calls Tryz.prog 129 #[.slice a n cap, .int .i64 (k : Int)] w fun e w' => ∃ b cb, e = .returned (.slice b m cb) ∧ V1 w' b cb (txL ((l.drop k).take m)) ∧ Below w.heap.size w w' := by
  have HE := Lib.hid (implEnd_any w a cap l n k hi hn hv hl hm hL)
  rw [edV_at he] at HE
  obtain ⟨b, cb, hrun, hvv⟩ := cut1 24 (by kernel_rfl) (fun w => by exact Tryz.sizeOf9 w) a n cap k (k + m) (by omega) hkm (by have := hv.1; rw [txL_len] at this; omega)
  rw [show k + m - k = m by omega] at hrun hvv
  have hr : ∀ w, (Instr.slice 24 (.slice a n cap) (some (.int .i64 (k : Int))) (some (.int .i64 ((k : Int) + (m : Int)))) none).run Tryz.prog w = .ok (.slice b m cb) w := hrun
  have HV := Lib.hid (fun w1 (hb : Below w.heap.size w w1) => (show V1 w1 b cb (txL ((l.drop k).take m)) from by
    have := hvv w1 (txL l) (hv.below hb) (by rw [txL_len]; exact hn)
    unfold txL at this ⊢
    rw [← List.map_drop, ← List.map_take] at this; exact this))
  clear hrun hvv hv
  have p0 : ¬ (k : Int) + (m : Int) < 0 := by omega
  go_enter Tryz.func129, Tryz.ntmps129
  go_wp2_with fail
  refine HE.out.mono ?_; rintro e w1 ⟨rfl, b1⟩
  have B1 := Lib.hid b1; clear b1
  go_wp2_with fail
  go_ret
  exact ⟨b, cb, rfl, HV.out _ B1.out, B1.out⟩
theorem oneKind_any (v : Value) (w : World) : Calls Tryz.prog 144 #[v] w fun e w' => e = .returned (.int .i64 1) ∧ w = w' := by
  go_enter Tryz.func144, Tryz.ntmps144
  go_wp2_with fail
  go_ret
  exact ⟨rfl, rfl⟩
theorem oneDepth_any (v : Value) (w : World) : Calls Tryz.prog 146 #[v] w fun e w' => e = .returned (.int .i64 1) ∧ w = w' := by
  go_enter Tryz.func146, Tryz.ntmps146
  go_wp2_with fail
  go_ret
  exact ⟨rfl, rfl⟩
theorem takes_any (o : Nat) (w : World) : Calls Tryz.prog 156 #[.int .i64 o] w fun e w' => e = .returned (.int .i64 (tkK o)) ∧ w = w' := by
  by_cases h : o = 7
  · subst h
    go_enter Tryz.func156, Tryz.ntmps156
    go_wp2_with fail
    go_ret
    exact ⟨rfl, rfl⟩
  · have q : ((o : Int) == 7) = false := by rw [beq_eq_false_iff_ne]; omega
    have HE := Lib.hid (show tkK o = 1 by unfold tkK; rw [if_neg h])
    go_enter Tryz.func156, Tryz.ntmps156
    go_wp2_with fail
    go_ret
    exact ⟨by rw [HE.out]; rfl, rfl⟩
theorem yields_any (o : Nat) (ho : o ≤ 7) (w : World) : Calls Tryz.prog 157 #[.int .i64 o] w fun e w' => e = .returned (.int .i64 (ylK o)) ∧ w = w' := by
  by_cases h : 5 ≤ o
  · have h2 : o = 5 ∨ o = 6 ∨ o = 7 := by omega
    rcases h2 with rfl | rfl | rfl <;>
    · go_enter Tryz.func157, Tryz.ntmps157
      go_wp2_with fail
      go_ret
      exact ⟨rfl, rfl⟩
  · have q5 : ((o : Int) == 5) = false := by rw [beq_eq_false_iff_ne]; omega
    have q6 : ((o : Int) == 6) = false := by rw [beq_eq_false_iff_ne]; omega
    have q7 : ((o : Int) == 7) = false := by rw [beq_eq_false_iff_ne]; omega
    have HE := Lib.hid (show ylK o = 1 by unfold ylK; rw [if_neg h])
    go_enter Tryz.func157, Tryz.ntmps157
    go_wp2_with fail
    go_ret
    exact ⟨by rw [HE.out]; rfl, rfl⟩
theorem kind_any (o : Nat) (ho : o ≤ 7) (a b : Int) (w : World) : Calls Tryz.prog 145 #[.int .i64 o, .int .i64 a, .int .i64 b] w fun e w' => e = .returned (.int .i64 (kdG o a b)) ∧ w = w' := by
  have HT := Lib.hid (takes_any o)
  have HY := Lib.hid (yields_any o ho)
  have HK := Lib.hid (show kdG o a b = if a = tkK o ∧ b = tkK o then ylK o else 0 from rfl)
  generalize kdG o a b = r at *
  generalize ylK o = y at *
  generalize tkK o = t at *
  by_cases h1 : a = t
  · have q1 : (a != t) = false := by simpa using h1
    by_cases h2 : b = t
    · have q2 : (b != t) = false := by simpa using h2
      have HE := Lib.hid (HK.out.trans (if_pos ⟨h1, h2⟩)); clear h1 h2
      go_enter Tryz.func145, Tryz.ntmps145
      go_wp2_with fail
      refine (HT.out _).mono ?_; rintro e w1 ⟨rfl, rfl⟩
      go_wp2_with fail
      refine (HT.out _).mono ?_; rintro e w1 ⟨rfl, rfl⟩
      go_wp2_with fail
      refine (HY.out _).mono ?_; rintro e w1 ⟨rfl, rfl⟩
      go_wp2_with fail
      go_ret
      exact ⟨by rw [HE.out]; rfl, rfl⟩
    · have q2 : (b != t) = true := by simpa using h2
      have HE := Lib.hid (HK.out.trans (if_neg (by rintro ⟨-, h⟩; exact h2 h))); clear h1 h2
      go_enter Tryz.func145, Tryz.ntmps145
      go_wp2_with fail
      refine (HT.out _).mono ?_; rintro e w1 ⟨rfl, rfl⟩
      go_wp2_with fail
      refine (HT.out _).mono ?_; rintro e w1 ⟨rfl, rfl⟩
      go_wp2_with fail
      go_ret
      exact ⟨by rw [HE.out]; rfl, rfl⟩
  · have q1 : (a != t) = true := by simpa using h1
    have HE := Lib.hid (HK.out.trans (if_neg (by rintro ⟨h, -⟩; exact h1 h))); clear h1
    go_enter Tryz.func145, Tryz.ntmps145
    go_wp2_with fail
    refine (HT.out _).mono ?_; rintro e w1 ⟨rfl, rfl⟩
    go_wp2_with fail
    go_ret
    exact ⟨by rw [HE.out]; rfl, rfl⟩
theorem depth_any (o : Nat) (a b : Int) (w : World) : Calls Tryz.prog 147 #[.int .i64 o, .int .i64 a, .int .i64 b] w fun e w' => e = .returned (.int .i64 (dpG o a b)) ∧ w = w' := by
  have HK := Lib.hid (show dpG o a b = wrap64 (1 + mxI a b) from rfl)
  have HM := Lib.hid (show mxI a b = max a b by unfold mxI; split <;> omega)
  go_enter Tryz.func147, Tryz.ntmps147
  go_wp2_with fail
  go_ret
  exact ⟨by rw [HK.out, HM.out]; rfl, rfl⟩
set_option maxHeartbeats 4000000 in
set_option maxRecDepth 100000 in
theorem foldedInt_nil (f1 f2 : Nat) (lb1 : Array Value) (w : World) : Calls Tryz.prog 143 #[.slice none 0 0, .func (.func f1) #[] lb1, .func (.func f2) #[] #[]] w fun e w' => e = .returned (.int .i64 0) ∧ Below w.heap.size w w' := by
  have HB := Lib.hid (bel2 w (.cells #[.func (.func f1) #[] lb1] 156) (.cells #[.func (.func f2) #[] #[]] 157))
  go_enter Tryz.func143, Tryz.ntmps143
  go_wp2_with fail
  go_ret
  exact ⟨rfl, HB.out⟩
set_option maxHeartbeats 4000000 in
set_option maxRecDepth 100000 in
theorem implKind_any (w : World) (a : Option Addr) (cap : Nat) (l : List Tk) (n : Nat) (i : Int) (hi : I64 i) (hn : l.length = n) (hv : V1 w a cap (txL l)) (hl : n ≤ 4194304) (hm : ∀ s ∈ l, s.length ≤ 4194304) (hL : Lib3 w) :
    Calls Tryz.prog 130 #[.slice a n cap, .int .i64 i] w fun e w' => e = .returned (.int .i64 (kdV l i)) ∧ Below w.heap.size w w' := by
  cases he : enA l i with
  | none =>
    have HS := Lib.hid (sumAt_none w a cap l n i hi hn hv hl hm hL he)
    have HE := Lib.hid (show kdV l i = 0 from foV_none _ _ _ he)
    clear hv hL he
    go_enter Tryz.func130, Tryz.ntmps130
    go_wp2_with fail
    refine HS.out.mono ?_; rintro e w1 ⟨rfl, b1⟩
    have B1 := Lib.hid b1; clear b1
    go_wp2_with fail
    refine (foldedInt_nil _ _ _ _).mono ?_; rintro e w2 ⟨rfl, b2⟩
    have B2 := Lib.hid (bel_tr B1.out b2 (Nat.le_refl _)); clear b2
    go_wp2_with fail
    go_ret
    exact ⟨by rw [HE.out]; rfl, B2.out⟩
  | some m =>
    obtain ⟨k, rfl, hkm, hlen, hent, hm1⟩ := enA_piece he
    have HS := Lib.hid (sumAt_some w a cap l n k m hi hn hv hl hm hL he (by omega))
    have HE := Lib.hid (show kdV l (k : Int) = (stk kdF kdG ((l.drop k).take m)).headD 0 by unfold kdV foV; rw [he]; rfl)
    have HF := Lib.hid (fun w1 b cb (hb : Below w.heap.size w w1) (hvb : V1 w1 b cb (txL ((l.drop k).take m))) => foldedInt_any kdF kdG w1 b cb m ((l.drop k).take m) hlen hvb (by omega) (fun s hs => hm s (mem_piece hs)) (lib3_below hL hb) (by rw [hlen]; exact hent)
      144 145 #[] (enters_of Tryz.func144 (by kernel_rfl) rfl) (enters_of Tryz.func145 (by kernel_rfl) rfl)
      (fun s W _ _ _ => by rw [Array.append_empty]; exact (oneKind_any _ W).mono fun e w' ⟨h1, h2⟩ => ⟨h1, by rw [← h2]; exact Below.refl _ _⟩)
      (fun o x y W h1 h2 => (kind_any o h2 x y W).mono fun e w' ⟨h1, h2⟩ => ⟨h1, by rw [← h2]; exact Below.refl _ _⟩))
    clear hv hL he hent hlen
    generalize stk kdF kdG ((l.drop k).take m) = st at *
    go_enter Tryz.func130, Tryz.ntmps130
    go_wp2_with fail
    refine HS.out.mono ?_; rintro e w1 ⟨b, cb, rfl, hvb, b1⟩
    have B1 := Lib.hid b1; clear b1
    have HF1 := Lib.hid (HF.out w1 b cb B1.out hvb); clear hvb
    go_wp2_with fail
    refine HF1.out.mono ?_; rintro e w2 ⟨r, hr, rfl, b2⟩
    have B2 := Lib.hid (bel_tr B1.out b2 (Nat.le_refl _)); clear b2
    have HE2 := Lib.hid (HE.out.trans (by rw [hr]; rfl : _ = r)); clear HE hr
    go_wp2_with fail
    go_ret
    exact ⟨by rw [HE2.out]; rfl, B2.out⟩
set_option maxHeartbeats 4000000 in
set_option maxRecDepth 100000 in
theorem implDepth_any (w : World) (a : Option Addr) (cap : Nat) (l : List Tk) (n : Nat) (i : Int) (hi : I64 i) (hn : l.length = n) (hv : V1 w a cap (txL l)) (hl : n ≤ 4194304) (hm : ∀ s ∈ l, s.length ≤ 4194304) (hL : Lib3 w) :
    Calls Tryz.prog 131 #[.slice a n cap, .int .i64 i] w fun e w' => e = .returned (.int .i64 (dpV l i)) ∧ Below w.heap.size w w' := by
  cases he : enA l i with
  | none =>
    have HS := Lib.hid (sumAt_none w a cap l n i hi hn hv hl hm hL he)
    have HE := Lib.hid (show dpV l i = 0 from foV_none _ _ _ he)
    clear hv hL he
    go_enter Tryz.func131, Tryz.ntmps131
    go_wp2_with fail
    refine HS.out.mono ?_; rintro e w1 ⟨rfl, b1⟩
    have B1 := Lib.hid b1; clear b1
    go_wp2_with fail
    refine (foldedInt_nil _ _ _ _).mono ?_; rintro e w2 ⟨rfl, b2⟩
    have B2 := Lib.hid (bel_tr B1.out b2 (Nat.le_refl _)); clear b2
    go_wp2_with fail
    go_ret
    exact ⟨by rw [HE.out]; rfl, B2.out⟩
  | some m =>
    obtain ⟨k, rfl, hkm, hlen, hent, hm1⟩ := enA_piece he
    have HS := Lib.hid (sumAt_some w a cap l n k m hi hn hv hl hm hL he (by omega))
    have HE := Lib.hid (show dpV l (k : Int) = (stk dpF dpG ((l.drop k).take m)).headD 0 by unfold dpV foV; rw [he]; rfl)
    have HF := Lib.hid (fun w1 b cb (hb : Below w.heap.size w w1) (hvb : V1 w1 b cb (txL ((l.drop k).take m))) => foldedInt_any dpF dpG w1 b cb m ((l.drop k).take m) hlen hvb (by omega) (fun s hs => hm s (mem_piece hs)) (lib3_below hL hb) (by rw [hlen]; exact hent)
      146 147 #[] (enters_of Tryz.func146 (by kernel_rfl) rfl) (enters_of Tryz.func147 (by kernel_rfl) rfl)
      (fun s W _ _ _ => by rw [Array.append_empty]; exact (oneDepth_any _ W).mono fun e w' ⟨h1, h2⟩ => ⟨h1, by rw [← h2]; exact Below.refl _ _⟩)
      (fun o x y W h1 h2 => (depth_any o x y W).mono fun e w' ⟨h1, h2⟩ => ⟨h1, by rw [← h2]; exact Below.refl _ _⟩))
    clear hv hL he hent hlen
    generalize stk dpF dpG ((l.drop k).take m) = st at *
    go_enter Tryz.func131, Tryz.ntmps131
    go_wp2_with fail
    refine HS.out.mono ?_; rintro e w1 ⟨b, cb, rfl, hvb, b1⟩
    have B1 := Lib.hid b1; clear b1
    have HF1 := Lib.hid (HF.out w1 b cb B1.out hvb); clear hvb
    go_wp2_with fail
    refine HF1.out.mono ?_; rintro e w2 ⟨r, hr, rfl, b2⟩
    have B2 := Lib.hid (bel_tr B1.out b2 (Nat.le_refl _)); clear b2
    have HE2 := Lib.hid (HE.out.trans (by rw [hr]; rfl : _ = r)); clear HE hr
    go_wp2_with fail
    go_ret
    exact ⟨by rw [HE2.out]; rfl, B2.out⟩
end Go.Proofs.YtfnnoehpahdgcaaGreatDoor.Cl
