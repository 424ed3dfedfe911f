/-
  Draws of FnCellText: a cell (spec.DrawShowCell), a text (spec.DrawReadCell).
-/
import Derived.Test.YtdalncgbbkeimaaDoorKs
import Derived.Test.YtdalncgbbkeimaaDoorCz
import Derived.Test.YtdalncgbbkeimaaDoorSa
namespace Go.Proofs.YtdalncgbbkeimaaDoor.Cl
open Go.RowKit Wd Rp Cu Kp
set_option linter.unusedVariables false
/-- A drawn cell, in a world that has only grown. -/
def DrewC (w : World) (e : Ending) (w' : World) : Prop := ∃ (r s : ByteArray) (t v : Int) (g : Bool), e = .returned (.agg #[.string r, .string s, .int .i64 t, .int .i64 v, .bool g]) ∧ Near r s t v ∧ Below w.heap.size w w'
set_option maxHeartbeats 2000000 in
theorem drawCellOk_any (w : World) (a : Option Addr) (len cap : Nat) (hb : IsBytes w a len) (hl : len ≤ 4096) : Calls Tryd.prog 63 #[.slice a len cap] w (DrewC w) := by
  have HB := Lib.hid hb; clear hb
  have HZ := Lib.hid (Zc.made w)
  have HA := Lib.hid (bel1 w)
  go_enter Tryd.func63, Tryd.ntmps63
  go_wp2_with fail
  refine (new_any _ a len cap (isBytes_next HB.out (HA.out _)) hl).mono ?_; rintro e w1 ⟨b, rfl, hc1, hw1⟩
  have hbw : w.heap.size + 1 ≤ b := by have := hc1.le; simpa using this
  have HZ1 := Lib.hid ((HZ.out _).next hw1)
  have B1 := Lib.hid (bel_tr (HA.out _) hw1 (Nat.le_refl _))
  have HC := Lib.hid hc1; clear hw1 hc1
  go_wp2_with fail
  refine (drawAnyC_any _ b _ HC.out).mono ?_; rintro e w2 ⟨r, s, t, v, g, rfl, hn, hc2, hw2⟩
  obtain ⟨⟨z0, z1, z2, z3, z4⟩, ⟨f0, f1, f2, f3, f4⟩, -⟩ := HZ1.out.but hw2 (by omega)
  have B2 := Lib.hid (B1.out.trans (hw2.below (B := w.heap.size) (by omega) B1.out.size)); clear hw2 hc2
  have HN := Lib.hid hn; clear hn
  generalize hq : w.heap.size = q at *
  have hqB : q ≤ q := Nat.le_refl _
  go_wp2_with fail
  refine bodyPost_ret (v := .agg #[.string r, .string s, .int .i64 t, .int .i64 v, .bool g]) (by simp [results, Tryd.results63, go_sem, z0, z1, z2, z3, z4]) rfl ⟨r, s, t, v, g, rfl, HN.out, ?_⟩
  subst hq
  exact bel_set5 B2.out hqB _ _ _ _ _
set_option maxHeartbeats 2000000 in
theorem drawShow_any (w : World) (a : Option Addr) (len cap : Nat) (hb : IsBytes w a len) (hl : len ≤ 4096) : Calls Tryd.prog 25 #[.slice a len cap] w (DrewC w) := by
  have HB := Lib.hid hb; clear hb
  have HZ := Lib.hid (Zc.made w)
  have HA := Lib.hid (bel1 w)
  go_enter Tryd.func25, Tryd.ntmps25
  go_wp2_with fail
  refine (drawCellOk_any _ a len cap (isBytes_next HB.out (HA.out _)) hl).mono ?_; rintro e w2 ⟨r, s, t, v, g, rfl, hn, hw2⟩
  obtain ⟨⟨z0, z1, z2, z3, z4⟩, ⟨f0, f1, f2, f3, f4⟩, -⟩ := (HZ.out _).next hw2
  have B2 := Lib.hid (bel_tr (HA.out _) hw2 (Nat.le_refl _)); clear hw2
  have HN := Lib.hid hn; clear hn
  generalize hq : w.heap.size = q at *
  have hqB : q ≤ q := Nat.le_refl _
  go_wp2_with fail
  refine bodyPost_ret (v := .agg #[.string r, .string s, .int .i64 t, .int .i64 v, .bool g]) (by simp [results, Tryd.results25, go_sem, z0, z1, z2, z3, z4]) rfl ⟨r, s, t, v, g, rfl, HN.out, ?_⟩
  subst hq
  exact bel_set5 B2.out hqB _ _ _ _ _
theorem shB_size (r b : ByteArray) (t v : Int) (g : Bool) : (tx (shB r b t v g)).size ≤ 100 := by
  rw [tx_size]
  cases h : cellB r b t v g
  · rw [shB_no h]; simp
  · obtain ⟨h1, h2, t0, t1, v0, v1⟩ := cell_facts h
    rw [shB_yes h]
    have e1 := itoa_size t (by omega) (by omega)
    have e2 := itoa_size v (by omega) (by omega)
    rw [tx_size] at e1 e2
    unfold showB valT
    simp only [List.length_append, List.length_cons, llen]
    split
    · simp; omega
    · omega
set_option maxHeartbeats 2000000 in
theorem drawRead_any (w : World) (a : Option Addr) (len cap : Nat) (hb : IsBytes w a len) (hl : len ≤ 4096) : Calls Tryd.prog 27 #[.slice a len cap] w (DrewT 102 w) := by
  have HB := Lib.hid hb; clear hb
  go_enter Tryd.func27, Tryd.ntmps27
  go_wp2_with fail
  refine (new_any w a len cap HB.out hl).mono ?_; rintro e w1 ⟨b, rfl, hc1, hw1⟩
  have hbw : w.heap.size ≤ b := hc1.le
  have B1 := Lib.hid hw1
  have HC := Lib.hid hc1; clear hw1 hc1
  go_wp2_with fail
  refine (drawAnyC_any _ b _ HC.out).mono ?_; rintro e w2 ⟨r, s, t, v, g, rfl, hn, hc2, hw2⟩
  have S2 := Lib.hid (show St w1 w.heap.size b w2 from ⟨hw2, hc2, HC.out.lt⟩); clear hw2 hc2
  have h1 := hn.1
  have h2 := hn.2.1
  clear hn
  have hsz := shB_size r s t v g
  have HSP := Lib.hid (fun w => specShow_any r s t v g w (by omega) (by omega))
  unfold ShPost at HSP
  generalize tx (shB r s t v g) = o at hsz HSP
  go_wp2_with fail
  refine (HSP.out _).mono ?_; rintro e w3 ⟨rfl, b3⟩
  have S3 := Lib.hid (S2.out.next b3); clear b3
  go_wp2_with fail
  refine (once_any _ b _ _ S3.out.cur (by decide) (by decide)).mono ?_; rintro e w4 ⟨q, rfl, hc4, hw4⟩
  have S4 := Lib.hid (S3.out.draws hw4 hc4); clear hw4 hc4
  cases q
  · go_wp2_with fail
    go_ret
    exact ⟨o, rfl, by omega, B1.out.trans (S4.out.but.below hbw B1.out.size)⟩
  · go_wp2_with fail
    refine (bend_any _ b o ⟨#[97, 48, 32, 45]⟩ _ S4.out.cur (by omega) (by decide) (by decide)).mono ?_; rintro e w5 ⟨y, rfl, hy, hc5, hw5⟩
    have S5 := Lib.hid (S4.out.draws hw5 hc5); clear hw5 hc5
    go_wp2_with fail
    go_ret
    exact ⟨y, rfl, by omega, B1.out.trans (S5.out.but.below hbw B1.out.size)⟩
end Go.Proofs.YtdalncgbbkeimaaDoor.Cl
