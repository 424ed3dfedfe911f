/-
  laws.markStringS turns the row that it marks, and nothing else that was there (a text of its own: Ze's has more).
-/
import Derived.Test.YtfnnoehpahdgcaaGreatDoorZe
namespace Go.Proofs.YtfnnoehpahdgcaaGreatDoor.Nx
open Go.RowKit Wd Rp Kp
set_option linter.unusedVariables false
set_option maxHeartbeats 2000000 in
theorem markS_own {B : Nat} {v : Value} {l : List (List UInt8)} (w : World) (hB : B ≤ w.heap.size) (hv : OwT B w v l) (hl : l.length ≤ 4194304) :
    Calls Tryz.prog 36 #[v, .int .i64 1] w fun e w' => e = .returned (.int .i64 ((l.length + 1 : Nat) : Int)) ∧ w.grownBy w' v.ownBlock ∧ ∃ m, m.length = l.length ∧ Mkd 1 m ∧ OwT B w' v m := by
  obtain ⟨a, ca, rfl, ha⟩ := hv.form
  have HV := Lib.hid ha; clear ha
  have HO := Lib.hid hv; clear hv
  generalize hn : l.length = n at *
  go_enter Tryz.func36, Tryz.ntmps36
  go_wp2
  go_loopw [1, 5] (fun q i wr => ∃ (k : Nat) (m : List (List UInt8)), k ≤ n ∧ i = .int .i64 k ∧ q = .int .i64 ((k + 1 : Nat) : Int) ∧ Below B w wr ∧ (∀ x, x < w.heap.size → (Value.slice a n ca).ownBlock ≠ some x → wr.heap[x]? = w.heap[x]?) ∧ m.length = n ∧ (∀ j, j < k → m[j]? = some (mtx (1 + j))) ∧ OwT B wr (.slice a n ca) m) (fun _ i _ => n - intV i)
  case atStart => exact ⟨0, l, Nat.zero_le _, rfl, rfl, Below.refl _ _, (fun _ _ _ => rfl), hn, fun j hj => by omega, HO.out⟩
  case round =>
    obtain ⟨k, m, hk, rfl, rfl, hbel, hfr, hm, hmk, hown⟩ := hrel
    have HFR := Lib.hid hfr; clear hfr
    have HB := Lib.hid hbel; clear hbel
    have HM := Lib.hid hmk; clear hmk
    have HW := Lib.hid hown; clear hown
    by_cases hlt : k < n
    · obtain ⟨g, -, rfl, hg, gl, -, -, -⟩ := HV.out k (by omega)
      have HT := Lib.hid (fun w => markText_any (k + 1) w (by omega) (by omega))
      have q1 : ((k + 1 : Nat) : Int) + 1 = ((k + 1 + 1 : Nat) : Int) := by omega
      clear gl
      go_wp2_with fail
      refine (HT.out _).mono ?_; rintro e w1 ⟨rfl, b1⟩
      have hsz : wr.heap.size ≤ w1.heap.size := b1.size
      have BB1 := Lib.hid b1
      have B1 := Lib.hid (bel_tr HB.out b1 hB)
      have HW1 := Lib.hid (HW.out.next b1); clear b1
      obtain ⟨a2, ca2, he, hcell⟩ := HW1.out.form
      obtain ⟨g2, x, rfl, hg2, gl2, -, gc, gf⟩ := hcell k (by omega)
      cases he
      clear hcell hg2
      generalize tx x = x at gc
      go_wp2_with fail
      go_roundw
      case rel =>
        refine ⟨k + 1, m.set k (mtx (k + 1)), by omega, by go_num, by go_num, B1.out.setCell (p := ⟨g, k, none⟩) hg _, (fun x hx hne => (Below.heap_setCell _ _ _ _ (fun e => hne (by rw [e]; rfl))).trans ((BB1.out.block x (by have := HB.out.size; omega)).trans (HFR.out x hx hne))), by rw [List.length_set], fun j hj => ?_, HW1.out.set rfl k _⟩
        by_cases hjk : j = k
        · subst hjk; rw [List.getElem?_set_self (by omega), Nat.add_comm]
        · rw [List.getElem?_set_ne (by omega)]; exact HM.out j (by omega)
      case measure => simp [intV]; omega
    · obtain rfl : k = n := by omega
      go_wp2_with fail
      go_ret
      exact ⟨rfl, ⟨HB.out.os, HB.out.tape, HB.out.output, HB.out.size, fun x hx hne => HFR.out x hx (fun e => hne e.symm)⟩, m, hm, fun j hj => HM.out j (by omega), HW.out⟩
end Go.Proofs.YtfnnoehpahdgcaaGreatDoor.Nx
