/-
  The contract of spec.PutCell: 'putP'.
-/
import Derived.Test.YtjhcgbhmepgfhaaCj
namespace Go.Proofs.Ytjhcgbhmepgfhaa.Cl
open Go.RowKit Wd Rp Kp
set_option linter.unusedVariables false
/-- What PutCell gives. -/
def PutPost (l : List Cel) (c : Cel) (w : World) (e : Ending) (w' : World) : Prop := ∃ v, e = .returned (.tuple #[v, .bool (putP l c).2]) ∧ OwC w.heap.size w' v (putP l c).1 ∧ Below w.heap.size w w'
theorem putP_bad {l : List Cel} {c : Cel} (h : okL l = false) : putP l c = ([], false) := by unfold putP; rw [h]; rfl
theorem putP_no {l : List Cel} {c : Cel} (h : okL l = true) (hc : c.ok = false) : putP l c = (l, false) := by unfold putP; rw [h, hc]; rfl
theorem putP_big {l : List Cel} {c : Cel} (h : okL l = true) (hc : c.ok = true) (hb : 200 < (putL l c).length) : putP l c = (l, false) := by unfold putP; rw [h, hc, if_pos hb]; rfl
theorem putP_yes {l : List Cel} {c : Cel} (h : okL l = true) (hc : c.ok = true) (hb : ¬ 200 < (putL l c).length) : putP l c = (putL l c, true) := by unfold putP; rw [h, hc, if_neg hb]; rfl
theorem specCells_is {l : List Cel} {x : Bool} (h : okL l = x) (w : World) (a : Option Addr) (cap : Nat) (n : Nat) (hn : l.length = n) (hv : Vw w a cap l) (hm : ∀ c ∈ l, c.mod) (hlen : n ≤ 4194304) :
    Calls Try.prog 12 #[.slice a n cap] w fun e w' => e = .returned (.bool x) ∧ Below w.heap.size w w' := by
  subst hn; rw [← h]; exact specCells_any w a cap l hv hm hlen
theorem l4Put_any' (w : World) (a : Option Addr) (cap : Nat) (l : List Cel) (c : Cel) (n : Nat) (hn : l.length = n) (hv : Vw w a cap l) (hl : n ≤ 4194304) :
    Calls Try.prog 32 #[.slice a n cap, .agg #[.string c.r, .string c.b, .int .i64 c.t, .int .i64 c.v, .bool c.g]] w fun e w' => ∃ v, e = .returned v ∧ OwC w.heap.size w' v (putL l c) ∧ Below w.heap.size w w' := by
  subst hn; exact l4Put_any w a cap l c hv hl
set_option maxHeartbeats 4000000 in
theorem specPut_any (w : World) (a : Option Addr) (cap : Nat) (l : List Cel) (c : Cel) (n : Nat) (hn : l.length = n) (hv : Vw w a cap l) (hm : ∀ c ∈ l, c.mod) (hc : c.mod) (hl : n ≤ 4194304) :
    Calls Try.prog 13 #[.slice a n cap, .agg #[.string c.r, .string c.b, .int .i64 c.t, .int .i64 c.v, .bool c.g]] w (PutPost l c w) := by
  have HV := Lib.hid hv; clear hv
  have HM := Lib.hid hm; clear hm
  have HC := Lib.hid hc; clear hc
  have HB := Lib.hid (bel1 w (.cells #[.string c.r, .string c.b, .int .i64 c.t, .int .i64 c.v, .bool c.g] 35))
  have HX := Lib.hid (Bc.made c.r c.b c.t c.v c.g w 35)
  cases hok : okL l
  · have HP := Lib.hid (putP_bad (c := c) hok)
    have HO := Lib.hid hok; clear hok
    go_enter Try.func13, Try.ntmps13
    go_wp2_with fail
    refine (specCells_is HO.out _ a cap n hn (HV.out.below HB.out) HM.out hl).mono ?_; rintro e w1 ⟨rfl, b1⟩
    have B1 := Lib.hid (bel_tr HB.out b1 (Nat.le_refl _)); clear b1
    go_wp2_with fail
    refine bodyPost_ret (v := .tuple #[.slice (some ⟨w1.heap.size, 0, none⟩) 0 0, .bool false]) (by simp [results, Try.results13, go_sem]) rfl ⟨_, by rw [HP.out], by rw [HP.out]; exact OwC.start B1.out.size, B1.out.alloc B1.out.size _⟩
  · cases hco : c.ok
    · have HP := Lib.hid (putP_no hok hco)
      have HO := Lib.hid hok; clear hok
      have HCO := Lib.hid (specCell_is hco HC.out); clear hco
      go_enter Try.func13, Try.ntmps13
      go_wp2_with fail
      refine (specCells_is HO.out _ a cap n hn (HV.out.below HB.out) HM.out hl).mono ?_; rintro e w1 ⟨rfl, b1⟩
      obtain ⟨x0, x1, x2, x3, x4, -⟩ := HX.out.next b1
      have B1 := Lib.hid (bel_tr HB.out b1 (Nat.le_refl _)); clear b1
      go_wp2_with fail
      refine (HCO.out _).mono ?_; rintro e w2 ⟨rfl, b2⟩
      have B2 := Lib.hid (bel_tr B1.out b2 (Nat.le_refl _)); clear b2 x0 x1 x2 x3 x4
      go_wp2_with fail
      refine (l4Copy_any _ a cap l n hn (HV.out.below B2.out) hl).mono ?_; rintro e w3 ⟨v3, rfl, o3, b3⟩
      have B3 := Lib.hid (bel_tr B2.out b3 (Nat.le_refl _)); clear b3
      have O3 := Lib.hid (o3.mono B2.out.size); clear o3
      go_wp2_with fail
      refine bodyPost_ret (v := .tuple #[v3, .bool false]) (by simp [results, Try.results13, go_sem]) rfl ⟨_, by rw [HP.out], by rw [HP.out]; exact O3.out, B3.out⟩
    · have HO := Lib.hid hok
      have HCO := Lib.hid (specCell_is hco HC.out)
      have hPl : (putL l c).length ≤ n + 1 := by rw [putL_len]; omega
      by_cases hb : 200 < (putL l c).length
      · have HP := Lib.hid (putP_big hok hco hb); clear hok hco
        generalize hpn : (putL l c).length = p at *
        have q1 : (200 : Int) < (p : Int) := by omega
        go_enter Try.func13, Try.ntmps13
        go_wp2_with fail
        refine (specCells_is HO.out _ a cap n hn (HV.out.below HB.out) HM.out hl).mono ?_; rintro e w1 ⟨rfl, b1⟩
        have X1 := HX.out.next b1
        obtain ⟨x0, x1, x2, x3, x4, -⟩ := id X1
        have B1 := Lib.hid (bel_tr HB.out b1 (Nat.le_refl _)); clear b1
        go_wp2_with fail
        refine (HCO.out _).mono ?_; rintro e w2 ⟨rfl, b2⟩
        clear x0 x1 x2 x3 x4
        obtain ⟨x0, x1, x2, x3, x4, -⟩ := X1.next b2
        have B2 := Lib.hid (bel_tr B1.out b2 (Nat.le_refl _)); clear b2 X1
        go_wp2_with fail
        refine (l4Put_any' _ a cap l c n hn (HV.out.below B2.out) hl).mono ?_; rintro e w3 ⟨v3, rfl, o3, b3⟩
        obtain ⟨a3, cap3, rfl, -, -⟩ := o3.view
        have B3 := Lib.hid (bel_tr B2.out b3 (Nat.le_refl _)); clear b3 x0 x1 x2 x3 x4 o3
        rw [hpn]
        go_wp2_with fail
        refine (l4Copy_any _ a cap l n hn (HV.out.below B3.out) hl).mono ?_; rintro e w4 ⟨v4, rfl, o4, b4⟩
        have B4 := Lib.hid (bel_tr B3.out b4 (Nat.le_refl _)); clear b4
        have O4 := Lib.hid (o4.mono B3.out.size); clear o4
        go_wp2_with fail
        refine bodyPost_ret (v := .tuple #[v4, .bool false]) (by simp [results, Try.results13, go_sem]) rfl ⟨_, by rw [HP.out], by rw [HP.out]; exact O4.out, B4.out⟩
      · have HP := Lib.hid (putP_yes hok hco hb); clear hok hco
        generalize hpn : (putL l c).length = p at *
        have q1 : ¬ (200 : Int) < (p : Int) := by omega
        go_enter Try.func13, Try.ntmps13
        go_wp2_with fail
        refine (specCells_is HO.out _ a cap n hn (HV.out.below HB.out) HM.out hl).mono ?_; rintro e w1 ⟨rfl, b1⟩
        have X1 := HX.out.next b1
        obtain ⟨x0, x1, x2, x3, x4, -⟩ := id X1
        have B1 := Lib.hid (bel_tr HB.out b1 (Nat.le_refl _)); clear b1
        go_wp2_with fail
        refine (HCO.out _).mono ?_; rintro e w2 ⟨rfl, b2⟩
        clear x0 x1 x2 x3 x4
        obtain ⟨x0, x1, x2, x3, x4, -⟩ := X1.next b2
        have B2 := Lib.hid (bel_tr B1.out b2 (Nat.le_refl _)); clear b2 X1
        go_wp2_with fail
        refine (l4Put_any' _ a cap l c n hn (HV.out.below B2.out) hl).mono ?_; rintro e w3 ⟨v3, rfl, o3, b3⟩
        have O3 := Lib.hid (o3.mono B2.out.size)
        obtain ⟨a3, cap3, rfl, -, -⟩ := o3.view
        have B3 := Lib.hid (bel_tr B2.out b3 (Nat.le_refl _)); clear b3 x0 x1 x2 x3 x4 o3
        rw [hpn] at O3 ⊢
        go_wp2_with fail
        refine bodyPost_ret (v := .tuple #[.slice a3 p cap3, .bool true]) (by simp [results, Try.results13, go_sem]) rfl ⟨_, by rw [HP.out], by rw [HP.out]; exact O3.out, B3.out⟩
end Go.Proofs.Ytjhcgbhmepgfhaa.Cl
