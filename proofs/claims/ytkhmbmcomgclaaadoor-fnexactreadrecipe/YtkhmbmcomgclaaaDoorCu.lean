/-
  Contracts of the cursor (spec.l1Cur): whatever it draws lies in its range, it writes its own block alone, and it stays a cursor.
  The walk of spec.l1Byte: some byte, whatever the cursor holds.
  Contracts of spec.l1Byte, l1Below, l1Once.
  Contracts of spec.l1DrawWord, l1DrawAny, l1New, DrawWordOk.
  From a slice of bytes that came in (as the row reads it) to the cursor's 'IsBytes'.
  Slices of bytes that the call itself makes: appending, storing and reslicing keep them slices of bytes; the cursor and all that was there stay.
-/
import Derived.Test.YtkhmbmcomgclaaaDoorRows
import Derived.WalkKit
import Derived.WalkSpells
import Derived.IntWalk
import Derived.Below
import Derived.Lib.Hide
import Derived.Laws.Bits128
import Derived.Deep.QuietTactic
import Derived.BigQuiet
import Derived.Lib.AtoiErrMem
import Derived.OpenShut
import Derived.Laws.BytesArg
import Derived.Lib.ConvBytes
import Derived.Maps.AppendAt
import Derived.Deep.RegionLaw
import Derived.Deep.AppendLies
import Derived.OwnWalk
namespace Go.Proofs.YtkhmbmcomgclaaaDoor.Cu
open Go.RowKit

theorem and_mask (m : Nat) (hm : m ≤ 32) (n : Int) (c : Int) (hc : c = 2 ^ m - 1) : bits .and .i64 n c = n % 2 ^ m := by
  have h2 : (BitVec.ofInt 64 c).toNat = 2 ^ m - 1 := by
    have hp : 2 ^ m ≤ 2 ^ 32 := Nat.pow_le_pow_right (by decide) hm
    have hp' : (2 : Int) ^ m = ((2 ^ m : Nat) : Int) := by simp
    have h1 : 1 ≤ 2 ^ m := Nat.one_le_two_pow
    rw [BitVec.toNat_ofInt, hc, hp']
    omega
  have key : (BitVec.ofInt 64 n &&& BitVec.ofInt 64 c).toNat = (n % ((2 ^ 64 : Nat) : Int)).toNat % 2 ^ m := by
    rw [BitVec.toNat_and, BitVec.toNat_ofInt, h2, Nat.and_two_pow_sub_one_eq_mod]
  show IntKind.i64.wrap ((BitVec.ofInt 64 n &&& BitVec.ofInt 64 c).toNat : Nat) = n % 2 ^ m
  rw [key, IntKind.wrap_i64]
  have hd : ((2 ^ m : Nat) : Int) ∣ ((2 ^ 64 : Nat) : Int) := Int.natCast_dvd_natCast.2 (Nat.pow_dvd_pow 2 (by omega))
  have hp' : (2 : Int) ^ m = ((2 ^ m : Nat) : Int) := by simp
  have e1 : (((n % ((2 ^ 64 : Nat) : Int)).toNat % 2 ^ m : Nat) : Int) = n % 2 ^ m := by
    rw [Int.natCast_emod, Int.toNat_of_nonneg (Int.emod_nonneg _ (by decide)), Int.emod_emod_of_dvd _ hd, hp']
  rw [e1]
  have hpos : 0 < (2 : Int) ^ m := by rw [hp']; exact Int.natCast_pos.2 (Nat.two_pow_pos m)
  have b0 := Int.emod_nonneg n (Int.ne_of_gt hpos)
  have b1 := Int.emod_lt_of_pos n hpos
  have b2 : (2 : Int) ^ m ≤ 4294967296 := by rw [hp']; have := Nat.pow_le_pow_right (n := 2) (by decide) hm; omega
  omega
theorem and255 (n : Int) : bits .and .i64 n 255 = n % 256 := and_mask 8 (by decide) n 255 (by decide)
theorem and30 (n : Int) : bits .and .i64 n 1073741823 = n % 1073741824 := and_mask 30 (by decide) n 1073741823 (by decide)

/-- Of what was there only block b may have turned. -/
structure But (b : Nat) (w w' : World) : Prop where
  os : w'.os = w.os
  tape : w'.tape = w.tape
  output : w'.output = w.output
  size : w.heap.size ≤ w'.heap.size
  block : ∀ k, k < w.heap.size → k ≠ b → w'.heap[k]? = w.heap[k]?
theorem But.refl (b : Nat) (w : World) : But b w w := ⟨rfl, rfl, rfl, Nat.le_refl _, fun _ _ _ => rfl⟩
theorem But.trans {b : Nat} {x y z : World} (h : But b x y) (k : But b y z) : But b x z :=
  ⟨k.os.trans h.os, k.tape.trans h.tape, k.output.trans h.output, Nat.le_trans h.size k.size, fun i hi hb => (k.block i (Nat.lt_of_lt_of_le hi h.size) hb).trans (h.block i hi hb)⟩
theorem But.drew {b : Nat} {x w : World} (h : But b x w) : But b x w.drew := ⟨h.os, h.tape, h.output, h.size, h.block⟩
theorem But.drewN {b : Nat} {x w : World} (h : But b x w) (n : Nat) : But b x (w.drewN n) := ⟨h.os, h.tape, h.output, h.size, h.block⟩
theorem But.setCell {b : Nat} {x w : World} (h : But b x w) {p : Addr} (hp : p.block = b) (u : Value) : But b x (w.setCell p u) :=
  h.trans ⟨rfl, rfl, rfl, by simp [World.setCell], fun k _ hk => Below.heap_setCell _ _ _ _ (by omega)⟩
theorem But.alloc {b : Nat} {x w : World} (h : But b x w) (o : Obj) : But b x (w.alloc o) :=
  h.trans ⟨rfl, rfl, rfl, by simp, fun k hk _ => Below.heap_alloc _ _ _ hk⟩
theorem But.below {b B : Nat} {w w' : World} (h : But b w w') (hB : B ≤ b) (hs : B ≤ w.heap.size) : Below B w w' :=
  ⟨h.os, h.tape, h.output, h.size, fun k hk => h.block k (by omega) (by omega)⟩
theorem But.cell {b : Nat} {w w' : World} (h : But b w w') {p : Addr} (hp : p.block < w.heap.size) (hb : p.block ≠ b) : w'.cell? p = w.cell? p := World.cell?_of_block (w := w) (h.block p.block hp hb)
theorem But.frozen {b : Nat} {w w' : World} (h : But b w w') {p : Addr} (hp : p.block < w.heap.size) (hb : p.block ≠ b) : w'.frozen? p = w.frozen? p := World.frozen?_of_block (w := w) (h.block p.block hp hb)

/-- The bytes behind a slice that lies below B: each place holds some byte. -/
def Bytes (w : World) (B : Nat) (a : Option Addr) (len : Nat) : Prop :=
  0 < len → ∃ ab ao, a = some ⟨ab, ao, none⟩ ∧ ab < B ∧ ∀ k, k < len → ∃ z : Int, w.cell? ⟨ab, ao + k, none⟩ = some (.int .u8 z) ∧ 0 ≤ z ∧ z ≤ 255
theorem Bytes.carry {w w' : World} {B : Nat} {a : Option Addr} {len : Nat} (h : Bytes w B a len) (hb : ∀ k, k < B → w'.heap[k]? = w.heap[k]?) : Bytes w' B a len := by
  intro hl
  obtain ⟨ab, ao, h1, h2, h3⟩ := h hl
  refine ⟨ab, ao, h1, h2, fun k hk => ?_⟩
  obtain ⟨z, h4, h5⟩ := h3 k hk
  exact ⟨z, (World.cell?_of_block (w := w) (hb ab h2)).trans h4, h5⟩
theorem cells_of {w : World} {b : Nat} {x y z : Value} {T : Nat} (h : w.heap[b]? = some (.cells #[x, y, z] T (0, 0))) :
    w.cell? ⟨b, 0, none⟩ = some x ∧ w.cell? ⟨b, 1, none⟩ = some y ∧ w.cell? ⟨b, 2, none⟩ = some z ∧ w.frozen? ⟨b, 1, none⟩ = false ∧ w.frozen? ⟨b, 2, none⟩ = false := by
  refine ⟨?_, ?_, ?_, ?_, ?_⟩ <;> simp [World.cell?, World.frozen?, h]
end Go.Proofs.YtkhmbmcomgclaaaDoor.Cu
namespace Go.Proofs.YtkhmbmcomgclaaaDoor.Cu
open Go.RowKit

/-- What l1Byte leaves at the end of the bytes: the mix has turned. -/
def EndOf (b : Nat) (w : World) (e : Ending) (w' : World) : Prop := ∃ x h' : Int, e = .returned (.int .i64 x) ∧ 0 ≤ x ∧ x ≤ 255 ∧ w'.heap = (w.setCell ⟨b, 2, none⟩ (.int .i64 h')).heap ∧ w'.os = w.os ∧ w'.tape = w.tape ∧ w'.output = w.output
/-- What it leaves before their end: the place too. -/
def StepOf (b : Nat) (i : Int) (w : World) (e : Ending) (w' : World) : Prop := ∃ x h' : Int, e = .returned (.int .i64 x) ∧ 0 ≤ x ∧ x ≤ 255 ∧ w'.heap = ((w.setCell ⟨b, 2, none⟩ (.int .i64 h')).setCell ⟨b, 1, none⟩ (.int .i64 (i + 1))).heap ∧ w'.os = w.os ∧ w'.tape = w.tape ∧ w'.output = w.output

end Go.Proofs.YtkhmbmcomgclaaaDoor.Cu
namespace Go.Proofs.YtkhmbmcomgclaaaDoor.Cu
open Go.RowKit

theorem heap_set {w : World} {b : Nat} {x y z : Value} {T : Nat} (h : w.heap[b]? = some (.cells #[x, y, z] T (0, 0))) (v : Value) :
    (w.setCell ⟨b, 2, none⟩ v).heap[b]? = some (.cells #[x, y, v] T (0, 0)) ∧ (w.setCell ⟨b, 1, none⟩ v).heap[b]? = some (.cells #[x, v, z] T (0, 0)) := by
  constructor <;> simp [World.setCell, Array.getElem?_modify, h]

end Go.Proofs.YtkhmbmcomgclaaaDoor.Cu
namespace Go.Proofs.YtkhmbmcomgclaaaDoor.Cu
open Go.RowKit

/-- A slice literal of int64, each from lo to hi, kept while a cursor draws. -/
theorem pick_cell {w w1 : World} {b T : Nat} {vs : Array Value} {lo hi : Int} (hb : b < w.heap.size) (h : But b (w.alloc (.cells vs T)) w1) (hv : ∀ k, k < vs.size → ∃ v : Int, vs[k]? = some (.int .i64 v) ∧ lo ≤ v ∧ v ≤ hi) (k : Nat) (hk : k < vs.size) :
    ∃ v : Int, w1.cell? ⟨w.heap.size, k, none⟩ = some (.int .i64 v) ∧ lo ≤ v ∧ v ≤ hi := by
  obtain ⟨v, h1, h2⟩ := hv k hk
  refine ⟨v, ?_, h2⟩
  have hp : (w.alloc (.cells vs T)).heap[w.heap.size]? = some (.cells vs T) := by show (w.heap.push _)[w.heap.size]? = _; simp
  have hc : (w.alloc (.cells vs T)).cell? ⟨w.heap.size, k, none⟩ = some (.int .i64 v) := by simp only [World.cell?, hp]; exact h1
  exact (h.cell (p := ⟨w.heap.size, k, none⟩) (by simp) (by show w.heap.size ≠ b; omega)).trans hc


/-- The bytes behind a slice that came in. -/
def IsBytes (w : World) (a : Option Addr) (len : Nat) : Prop :=
  len ≤ 9223372036854775806 ∧ Bytes w w.heap.size a len

/-- A drawn int64, in a world that has only grown. -/
def Drawn (w : World) (lo hi : Int) (e : Ending) (w' : World) : Prop := ∃ x : Int, e = .returned (.int .i64 x) ∧ lo ≤ x ∧ x ≤ hi ∧ Below w.heap.size w w'
end Go.Proofs.YtkhmbmcomgclaaaDoor.Cu
namespace Go.Proofs.YtkhmbmcomgclaaaDoor.Cu
open Go.RowKit
theorem isBytes_of_row {w : World} {a : Option Addr} {len cap : Nat} {zs : List Int} (hl : len ≤ 4096)
    (h : (a = none ∧ len = 0 ∧ cap = 0 ∧ zs = []) ∨ ∃ x, a = some x ∧ len ≤ cap ∧ cap ≤ maxLen ∧ zs.length = cap ∧ (∀ i, i < zs.length → w.cell? (x.add i) = some (.int .u8 (zs.getD i 0))) ∧ ∀ n ∈ zs, (Lit.int .u8 n).wf = true) : IsBytes w a len := by
  refine ⟨by omega, fun h0 => ?_⟩
  rcases h with ⟨_, h, _⟩ | ⟨⟨b, off, spot⟩, rfl, hlen, hm, hz, hcell, hwz⟩
  · omega
  have hc0 := hcell 0 (by omega)
  have hspot : spot = none := by simpa [Addr.add] using World.cell?_spot hc0
  subst hspot
  refine ⟨b, off, rfl, ?_, fun k hk => ?_⟩
  · have := Lib.lt_of_cell hc0
    simpa [Addr.add] using this
  · have hk' : k < zs.length := by omega
    have hadd : Addr.add ⟨b, off, none⟩ k = ⟨b, off + k, none⟩ := by
      cases k with
      | zero => rfl
      | succ k => simp [Addr.add]
    have hv : zs.getD k 0 = zs[k] := by simp [hk']
    have h1 := hcell k hk'
    rw [hadd, hv] at h1
    have h2 := hwz _ (List.getElem_mem hk')
    simp [Lit.wf, IntKind.min, IntKind.max, IntKind.signed, IntKind.bits] at h2
    exact ⟨zs[k], h1, by omega, by omega⟩
end Go.Proofs.YtkhmbmcomgclaaaDoor.Cu
namespace Go.Proofs.YtkhmbmcomgclaaaDoor.Cu
open Go.RowKit

theorem But.setNew {b : Nat} {x w : World} (h : But b x w) {p : Addr} (hp : x.heap.size ≤ p.block) (u : Value) : But b x (w.setCell p u) :=
  ⟨h.os, h.tape, h.output, by have := h.size; simpa [World.setCell] using this, fun k hk hb => (Below.heap_setCell _ _ _ _ (by omega)).trans (h.block k hk hb)⟩
theorem But.grown {b : Nat} {x w w' : World} {row : Option Nat} (h : But b x w) (hg : w.grownBy w' row) (hr : ∀ k, row = some k → x.heap.size ≤ k) : But b x w' :=
  ⟨hg.os.trans h.os, hg.tape.trans h.tape, hg.output.trans h.output, Nat.le_trans h.size hg.size, fun k hk hb => (hg.block k (Nat.lt_of_lt_of_le hk h.size) (fun e => by have := hr k e.symm; omega)).trans (h.block k hk hb)⟩
theorem But.below' {b : Nat} {x w w' : World} (h : But b x w) (hw : Below w.heap.size w w') : But b x w' :=
  ⟨hw.os.trans h.os, hw.tape.trans h.tape, hw.output.trans h.output, Nat.le_trans h.size hw.size, fun k hk hb => (hw.block k (Nat.lt_of_lt_of_le hk h.size)).trans (h.block k hk hb)⟩

/-- Each of m places from ad on holds a byte. -/
def Src (w : World) (ad : Addr) (m : Nat) : Prop := ∀ j, j < m → ∃ z : Int, w.cell? (ad.add j) = some (.int .u8 z) ∧ 0 ≤ z ∧ z ≤ 255
def IsB (u : Value) : Prop := ∃ z : Int, u = .int .u8 z ∧ 0 ≤ z ∧ z ≤ 255
theorem Src.list {w : World} {ad : Addr} : ∀ {m : Nat}, Src w ad m → ∃ news : List Value, news.length = m * 1 ∧ (∀ j u, news[j]? = some u → w.cell? (ad.add j) = some u) ∧ ∀ u ∈ news, IsB u
  | 0, _ => ⟨[], rfl, fun j u h => by simp at h, fun u h => by cases h⟩
  | m + 1, h => by
    obtain ⟨l, h1, h2, h3⟩ := Src.list (m := m) (fun j hj => h j (by omega))
    obtain ⟨z, hz, z0, z1⟩ := h m (by omega)
    refine ⟨l ++ [.int .u8 z], by simp [h1], fun j u hu => ?_, fun u hu => ?_⟩
    · by_cases hj : j < l.length
      · rw [List.getElem?_append_left hj] at hu; exact h2 j u hu
      · rw [List.getElem?_append_right (by omega)] at hu
        have hj' : j = m := by
          rcases Nat.lt_trichotomy (j - l.length) 0 with g | g | g
          · omega
          · omega
          · rw [List.getElem?_eq_none (by simp; omega)] at hu; cases hu
        subst hj'
        rw [show j - l.length = 0 by omega] at hu
        simp at hu
        rw [← hu]; exact hz
    · rcases List.mem_append.1 hu with g | g
      · exact h3 u g
      · rw [List.mem_singleton] at g; exact ⟨z, g, z0, z1⟩
theorem Src.carry {w w' : World} {ad : Addr} {m : Nat} (h : Src w ad m) (hb : w'.heap[ad.block]? = w.heap[ad.block]?) : Src w' ad m := fun j hj => by
  obtain ⟨z, hz, hr⟩ := h j hj
  have hbl : (ad.add j).block = ad.block := by unfold Addr.add; split <;> rfl
  exact ⟨z, (World.cell?_of_block (w := w) (by rw [hbl]; exact hb)).trans hz, hr⟩

/-- A slice of n bytes that the call has made itself. -/
def OwnB (w0 w : World) (v : Value) (n : Nat) : Prop := v ≠ .slice none 0 0 ∧ ∃ xs, w.ownsRow w0.heap.size 5 1 v n xs ∧ ∀ u ∈ xs, IsB u
theorem OwnB.carry {w0 w w' : World} {v : Value} {n : Nat} {row : Option Nat} (h : OwnB w0 w v n) (hg : w.grownBy w' row) (hne : v.ownBlock ≠ row) : OwnB w0 w' v n := by
  obtain ⟨h0, xs, h1, h2⟩ := h
  exact ⟨h0, xs, h1.kept hg (Or.inr hne), h2⟩
theorem But.grownBy {b : Nat} {w w' : World} (h : But b w w') : w.grownBy w' (some b) := ⟨h.os, h.tape, h.output, h.size, fun k hk hne => h.block k hk (fun e => hne (by rw [e]))⟩
theorem OwnB.draws {w0 w w' : World} {v : Value} {n b : Nat} (h : OwnB w0 w v n) (hb : But b w w') (hlt : b < w0.heap.size) : OwnB w0 w' v n := by
  refine h.carry hb.grownBy (fun e => ?_)
  obtain ⟨h0, xs, h1, h2⟩ := h
  have := (h1.lt b e).1
  omega
theorem OwnB.alloc {w0 w : World} {v : Value} {n : Nat} (h : OwnB w0 w v n) (o : Obj) : OwnB w0 (w.alloc o) v n := by
  obtain ⟨h0, xs, h1, h2⟩ := h
  exact ⟨h0, xs, h1.alloc o, h2⟩
theorem OwnB.drew {w0 w : World} {v : Value} {n : Nat} (h : OwnB w0 w v n) : OwnB w0 w.drew v n := h
theorem OwnB.drewN {w0 w : World} {v : Value} {n : Nat} (h : OwnB w0 w v n) (k : Nat) : OwnB w0 (w.drewN k) v n := h
theorem OwnB.start {w0 w : World} (h : w0.heap.size ≤ w.heap.size) : OwnB w0 (w.alloc (.cells #[] 5)) (.slice (some ⟨w.heap.size, 0, none⟩) 0 0) 0 :=
  ⟨(fun e => by cases e), [], World.ownsRow_made w #[] 0 h (by decide) rfl, fun u hu => by cases hu⟩
/-- Written out: where it lies, and its cells. -/
theorem OwnB.form {w0 w : World} {v : Value} {n : Nat} (h : OwnB w0 w v n) : ∃ g cap, v = .slice (some ⟨g, 0, none⟩) n cap ∧ w0.heap.size ≤ g ∧ g < w.heap.size ∧ n ≤ cap ∧ cap ≤ maxLen ∧ ∀ k, k < n → (∃ z : Int, w.cell? ⟨g, k, none⟩ = some (.int .u8 z) ∧ 0 ≤ z ∧ z ≤ 255) ∧ w.frozen? ⟨g, k, none⟩ = false := by
  obtain ⟨h0, xs, ⟨hl, h1⟩, h2⟩ := h
  rcases h1 with ⟨rfl, _⟩ | ⟨g, cap, cur, rfl, hb, hg, hn, hc, hsz, hxs⟩
  · exact absurd rfl h0
  · refine ⟨g, cap, rfl, hb, (Array.getElem?_eq_some_iff.1 hg).1, hn, hc, fun k hk => ⟨?_, by simp [World.frozen?, hg]⟩⟩
    have hk' : k < xs.length := by omega
    have hm := h2 _ (List.getElem_mem hk')
    obtain ⟨z, hz, z0, z1⟩ := hm
    refine ⟨z, ?_, z0, z1⟩
    have e1 : xs[k]? = some (.int .u8 z) := by rw [List.getElem?_eq_getElem hk', hz]
    rw [← hxs, List.getElem?_take_of_lt (by omega)] at e1
    simpa [World.cell?, hg] using e1

theorem info5 : (Tryd.prog.info? 5).map (fun i => (i.zero, i.size, i.bytes)) = some (some (.int .u8 0), 1, 1) := by kernel_rfl
/-- append of bytes onto a slice that the call has made, as one step of a region that draws its order. -/
theorem step_append_bytes {ops : Array Oper} {o : Oper} {a : Act} {w : World} {K : Act → World → Prop} {Q : Exit → Act → World → Prop} {E : Prop}
    (hg : o.guard = none) (s x : Operand) (hop : o.op = Op.call { callee := Callee.builtin Builtin.append, args := #[s, x], argTypes := #[55, 55] })
    (w0 : World) (v : Value) (n : Nat) (hs : a.eval s = v) (hown : OwnB w0 w v n) (ad : Addr) (m c : Nat) (hx : a.eval x = .slice (some ad) m c) (hsrc : Src w ad m) (hbd : n + m ≤ 1000000) (hbase : w0.heap.size ≤ w.heap.size)
    (hK : ∀ v' w', OwnB w0 w' v' (n + m) → w.grownBy w' v.ownBlock → (v'.ownBlock = v.ownBlock ∨ v'.ownBlock = some w.heap.size) → K (a.put o.dst v') w') :
    if Region.wanted o (yielded ops a.tmps) = true then Oper.wp Tryd.prog o a w K Q else E := by
  have hw : Region.wanted o (yielded ops a.tmps) = true := by simp [Region.wanted, hg]
  rw [if_pos hw]
  obtain ⟨i0, hi, hz0, hz1, hz2⟩ := info_parts info5
  obtain ⟨news, hl, hnews, hB⟩ := hsrc.list
  obtain ⟨h0, xs, h1, h2⟩ := hown
  obtain ⟨v', w', hr, hown', hgr, hnil, hblk⟩ := run_append_own_at (P := Tryd.prog) w w0.heap.size 55 o.type 5 i0 (.int .u8 0) 1 1 Tryd.underlying55 hi hz0 hz1 hz2 rfl (by decide) v n xs h1 ad m c news hl hnews
    (fun u hu => by obtain ⟨z, rfl, _⟩ := hB u hu; rfl) (by unfold maxLen; omega) (by omega) hbase
  unfold Oper.wp execOp
  simp only [hop, resolve, invoke, builtin, Sem.run_bind, Sem.run_pure, Result.andThen_ok, List.map_toArray, List.map_cons, List.map_nil, hs, hx, hr]
  refine hK v' w' ⟨fun e => h0 (hnil.1 e).1, xs ++ news, hown', fun u hu => ?_⟩ hgr hblk
  rcases List.mem_append.1 hu with g | g
  · exact h2 u g
  · exact hB u g
end Go.Proofs.YtkhmbmcomgclaaaDoor.Cu
