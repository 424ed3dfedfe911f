/-
  The specification's ShowRecipe and ReadRecipe; the draw of a recipe's text.
-/
import Derived.Test.YtkhmbmcomgclaaaDoorLq
namespace Go.Proofs.YtkhmbmcomgclaaaDoor.Cl
open Go.RowKit Wd Rp Kp
set_option linter.unusedVariables false
set_option maxHeartbeats 1000000 in
set_option maxRecDepth 100000 in
theorem specShow_any (w : World) (a : Option Addr) (cap : Nat) (l : List Tk) (n : Nat) (hn : l.length = n) (hv : V1 w a cap (txL l)) (hl : n ≤ 4194304) (hm : ∀ s ∈ l, s.length ≤ 4194304) :
    Calls Tryd.prog 15 #[.slice a n cap] w fun e w' => e = .returned (.string (tx (shR l))) ∧ Below w.heap.size w w' := by
  have HR := Lib.hid (specRecipeOk_any w a cap l n hn hv hl hm)
  have HW := Lib.hid (fun w h => l1Words_any w a cap l n hn h hl hm)
  have HV := Lib.hid hv; clear hv hm
  have HS := Lib.hid (show shR l = if rcB l then joined 32 l else [] from rfl)
  generalize shR l = r at *
  generalize rcB l = q at *
  generalize joined 32 l = j at *
  go_enter Tryd.func15, Tryd.ntmps15
  go_wp2_with fail
  refine HR.out.mono ?_; rintro e w1 ⟨rfl, b1⟩
  have V2 := Lib.hid (HV.out.below b1)
  have B1 := Lib.hid b1; clear b1
  cases q
  · go_wp2_with fail
    go_ret
    exact ⟨by rw [HS.out]; rfl, B1.out⟩
  · have HW1 := Lib.hid (HW.out w1 V2.out)
    go_wp2_with fail
    refine HW1.out.mono ?_; rintro e w2 ⟨rfl, b2⟩
    have B2 := Lib.hid (bel_tr B1.out b2 (Nat.le_refl _)); clear b2
    go_wp2_with fail
    go_ret
    exact ⟨by rw [HS.out]; rfl, B2.out⟩
/-- What ReadRecipe leaves: the texts read, whether they are a recipe. -/
def ReadsR (s : Tk) (w : World) (e : Ending) (w' : World) : Prop := ∃ v, e = .returned (.tuple #[v, .bool (rdR s).2]) ∧ OT w.heap.size w' v (rdR s).1 ∧ Below w.heap.size w w'
set_option maxHeartbeats 1000000 in
set_option maxRecDepth 100000 in
theorem specRead_any (w : World) (s : Tk) (hs : s.length ≤ 4000000) : Calls Tryd.prog 17 #[.string (tx s)] w (ReadsR s w) := by
  by_cases h0 : s = []
  · subst h0
    have HO := Lib.hid (show OT w.heap.size (w.alloc (.cells #[] 9)) (.slice (some ⟨w.heap.size, 0, none⟩) 0 0) [] from O1.start (Nat.le_refl _))
    have HB := Lib.hid (bel1 w (.cells #[] 9))
    have q0 : (tx ([] : Tk)).toList.isEmpty = true := by rw [Lib.toList_data, tx_data]; rfl
    go_enter Tryd.func17, Tryd.ntmps17
    go_wp2_with fail
    refine bodyPost_ret (v := .tuple #[.slice (some ⟨w.heap.size, 0, none⟩) 0 0, .bool true]) (by simp [results, Tryd.results17, go_sem]) rfl ⟨_, rfl, HO.out, HB.out⟩
  · have q0 : (tx s).toList.isEmpty = false := by rw [Lib.toList_data, tx_data]; cases s with | nil => exact absurd rfl h0 | cons a b => rfl
    have HE := Lib.hid (show rdR s = (if rcB (spl 32 s) then (spl 32 s, true) else ([], false)) by unfold rdR; rw [if_neg h0])
    have HP := Lib.hid (split_any (tx s) 32 w (by rw [tx_size]; omega))
    rw [tx_data] at HP
    have HL := spl_lens 32 s
    unfold ReadsR
    generalize rdR s = r at *
    generalize spl 32 s = l at *
    have HM := Lib.hid HL.2
    have hl1 := HL.1
    clear HL
    go_enter Tryd.func17, Tryd.ntmps17
    go_wp2_with fail
    refine HP.out.mono ?_; rintro e w1 ⟨v, rfl, o1, b1⟩
    have HO1 := Lib.hid (owns_ot o1); clear o1
    have B1 := Lib.hid b1; clear b1
    obtain ⟨a, cap, ev, hv⟩ := O1.view HO1.out
    rw [txL_len] at ev
    subst ev
    have HR := Lib.hid (specRecipeOk_any w1 a cap l l.length rfl hv (by omega) (fun t ht => by have := HM.out t ht; omega)); clear hv
    generalize hn : l.length = n at *
    generalize rcB l = q at *
    go_wp2_with fail
    refine HR.out.mono ?_; rintro e w2 ⟨rfl, b2⟩
    have HO2 := Lib.hid (HO1.out.next b2)
    have B2 := Lib.hid (bel_tr B1.out b2 (Nat.le_refl _)); clear b2
    cases q
    · have HO := Lib.hid (show OT w.heap.size (w2.alloc (.cells #[] 9)) (.slice (some ⟨w2.heap.size, 0, none⟩) 0 0) [] from O1.start B2.out.size)
      have HB := Lib.hid (B2.out.alloc B2.out.size (.cells #[] 9))
      go_wp2_with fail
      refine bodyPost_ret (v := .tuple #[.slice (some ⟨w2.heap.size, 0, none⟩) 0 0, .bool false]) (by simp [results, Tryd.results17, go_sem]) rfl ⟨_, by rw [HE.out]; rfl, by rw [HE.out]; exact HO.out, HB.out⟩
    · go_wp2_with fail
      refine bodyPost_ret (v := .tuple #[.slice a n cap, .bool true]) (by simp [results, Tryd.results17, go_sem]) rfl ⟨_, by rw [HE.out]; rfl, by rw [HE.out]; exact HO2.out, B2.out⟩
end Go.Proofs.YtkhmbmcomgclaaaDoor.Cl
