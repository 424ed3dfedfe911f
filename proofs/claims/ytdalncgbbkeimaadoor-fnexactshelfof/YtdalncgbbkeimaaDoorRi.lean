/-
  The walk of impl.ReadWord over the library's contracts: it gives 'rd' of the text's bytes, and nothing that was there turns.
-/
import Derived.Test.YtdalncgbbkeimaaDoorRs
import Derived.Test.YtdalncgbbkeimaaDoorSh
import Derived.Lib.AppendIntMem
import Derived.WalkSmall
namespace Go.Proofs.YtdalncgbbkeimaaDoor.Rp
open Go.RowKit Wd

/-- What the library's variables hold. -/
def Lib3 (w : World) : Prop := (∃ tp p, w.var? Tryd.prog "strconv.ErrSyntax" = some #[.iface tp p]) ∧ (∃ tp p, w.var? Tryd.prog "strconv.ErrRange" = some #[.iface tp p]) ∧ Lib.TabIs Tryd.prog w "internal/strconv.uint64pow10" .u64 Lib.pow10Tab ∧ 1 < w.heap.size ∧ 2 < w.heap.size ∧ 3 < w.heap.size
theorem gS : Tryd.prog.globalNamed "strconv.ErrSyntax" = some 1 := by kernel_rfl
theorem gR : Tryd.prog.globalNamed "strconv.ErrRange" = some 2 := by kernel_rfl
theorem gT : Tryd.prog.globalNamed "internal/strconv.uint64pow10" = some 3 := by kernel_rfl
theorem Lib3.carry {w w' : World} {B : Nat} (h : Lib3 w) (hb : Below B w w') (hB : 1 < B ∧ 2 < B ∧ 3 < B) : Lib3 w' := by
  obtain ⟨⟨t1, p1, h1⟩, ⟨t2, p2, h2⟩, h3, h4, h5, h6⟩ := h
  have hs := hb.size
  exact ⟨⟨t1, p1, var?_below hb gS hB.1 h1⟩, ⟨t2, p2, var?_below hb gR hB.2.1 h2⟩, var?_below hb gT hB.2.2 h3, by omega, by omega, by omega⟩

/-- What impl.ReadWord gives. -/
def RdGrown (s : ByteArray) (w : World) (e : Ending) (w' : World) : Prop := e = .returned (.tuple #[.int .i64 (rdV s.data.toList), .bool (rdB s.data.toList)]) ∧ Below w.heap.size w w'
theorem rdg_none {s : ByteArray} {w w' : World} (h : rd s.data.toList = none) (hb : Below w.heap.size w w') : RdGrown s w (.returned (.tuple #[.int .i64 0, .bool false])) w' := by
  refine ⟨?_, hb⟩; simp [rdV, rdB, h]
theorem rdg_some {s : ByteArray} {w w' : World} {v : Int} (h : rd s.data.toList = some v) (hb : Below w.heap.size w w') : RdGrown s w (.returned (.tuple #[.int .i64 v, .bool true])) w' := by
  refine ⟨?_, hb⟩; simp [rdV, rdB, h]

theorem lists_ne {t s : ByteArray} (h : ¬ t = s) : (t.toList == s.toList) = false := by
  rw [beq_eq_false_iff_ne]
  intro e
  rw [Lib.toList_data, Lib.toList_data] at e
  apply h
  obtain ⟨a⟩ := t
  obtain ⟨b⟩ := s
  have : a = b := Array.toList_inj.1 e
  rw [this]
set_option maxHeartbeats 1000000 in
theorem implRead_err (s : ByteArray) (w : World) (hr : rd s.data.toList = none) (x : Int) (T : Nat)
    (hp : Calls Tryd.prog 54 #[.string s, .int .i64 10, .int .i64 32] w fun e w' => ∃ N, e = .returned (.tuple #[.int .i64 x, .iface T (.pointer (some ⟨N, 0, none⟩))]) ∧ Below w.heap.size w w') :
    Calls Tryd.prog 68 #[.string s] w (RdGrown s w) := by
  have HP := Lib.hid hp; clear hp
  have HR := Lib.hid hr; clear hr
  go_enter Tryd.func68, Tryd.ntmps68
  go_wp2_with fail
  refine HP.out.mono ?_; rintro e w1 ⟨N, rfl, hb⟩
  go_wp2
  go_ret2
  exact rdg_none HR.out hb

set_option maxHeartbeats 1000000 in
theorem implRead_ok (s : ByteArray) (w : World) (hL : Lib3 w) (hs : s.size ≤ 9223372036854775806) (v : Int) (hv : Lib.parseIntB 32 s.data.toList = .ok v) :
    Calls Tryd.prog 68 #[.string s] w (RdGrown s w) := by
  have hp := Tryd.strconv_ParseInt_10_at32_ok s hs v hv w
  have hw := (isW_iff v).1 (parse_isW hv)
  have HP := Lib.hid hp; clear hp
  have HV := Lib.hid hv; clear hv
  have HL := Lib.hid hL; clear hL
  go_enter Tryd.func68, Tryd.ntmps68
  go_wp2_with fail
  refine HP.out.mono ?_; rintro e w1 ⟨rfl, hw1⟩
  have hb1 : Below w.heap.size w w1 := by
    rcases hw1 with rfl | ⟨t, rfl⟩
    · exact Below.refl _ _
    · exact Lib.bytesWorld_below _ _ _
  clear hw1
  have hL1 : Lib3 w1 := HL.out.carry hb1 ⟨HL.out.2.2.2.1, HL.out.2.2.2.2.1, HL.out.2.2.2.2.2⟩
  have HL1 := Lib.hid hL1; clear hL1
  have hf := Tryd.strconv_FormatInt_10 v (by omega) (by omega) w1 HL1.out.2.2.1
  have HF := Lib.hid hf; clear hf
  by_cases he : Lib.itoa v = s.data.toList
  · have hs' : (⟨(Lib.itoa v).toArray⟩ : ByteArray) = s := by rw [he]
    have hf : Calls Tryd.prog 64 #[.int .i64 v, .int .i64 10] w1 fun e w' => e = .returned (.string s) ∧ Below w1.heap.size w1 w' := by
      refine HF.out.mono ?_; rintro e w2 ⟨rfl, k, os, rfl⟩
      exact ⟨by rw [hs'], Lib.below_grow _ _ (Nat.le_refl _) _ _⟩
    have HF2 := Lib.hid hf; clear hf HF
    have hr := rd_ok HV.out he
    have HR := Lib.hid hr; clear hr he hs'
    go_wp2_with (go_at_call 64; refine HF2.out.mono ?_; rintro e w2 ⟨rfl, hb2⟩)
    go_ret2
    exact rdg_some HR.out (hb1.trans (hb2.mono hb1.size))
  · have hs' : ¬ (⟨(Lib.itoa v).toArray⟩ : ByteArray) = s := by
      intro e; apply he; rw [← e]
    have hf : Calls Tryd.prog 64 #[.int .i64 v, .int .i64 10] w1 fun e w' => ∃ t : ByteArray, (t.toList == s.toList) = false ∧ e = .returned (.string t) ∧ Below w1.heap.size w1 w' := by
      refine HF.out.mono ?_; rintro e w2 ⟨rfl, k, os, rfl⟩
      exact ⟨_, lists_ne hs', rfl, Lib.below_grow _ _ (Nat.le_refl _) _ _⟩
    have HF2 := Lib.hid hf; clear hf HF
    have hr := rd_other HV.out he
    have HR := Lib.hid hr; clear hr he hs'
    go_wp2_with (go_at_call 64; refine HF2.out.mono ?_; rintro e w2 ⟨t, ht, rfl, hb2⟩)
    go_ret2
    exact rdg_none HR.out (hb1.trans (hb2.mono hb1.size))
theorem implRead_any (s : ByteArray) (w : World) (hL : Lib3 w) (hs : s.size ≤ 281474976710656) : Calls Tryd.prog 68 #[.string s] w (RdGrown s w) := by
  cases hv : Lib.parseIntB 32 s.data.toList
  · rename_i v
    exact implRead_ok s w hL (by omega) v hv
  · obtain ⟨tp, p, h1⟩ := hL.1
    exact implRead_err s w (rd_bad fun v e => by rw [hv] at e; cases e) _ _ ((Any.strconv_ParseInt_10_at32_syntax_var Tryd.laysC174 s hs hv tp p w h1).mono fun e w' ⟨N, h, _, _, hb⟩ => ⟨N, h, hb⟩)
  · obtain ⟨tp, p, h1⟩ := hL.2.1
    exact implRead_err s w (rd_bad fun v e => by rw [hv] at e; cases e) _ _ ((Tryd.strconv_ParseInt_10_at32_range_var s hs hv tp p w h1).mono fun e w' ⟨N, h, _, _, hb⟩ => ⟨N, h, hb⟩)
end Go.Proofs.YtdalncgbbkeimaaDoor.Rp
