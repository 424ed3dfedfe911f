/-
  The contract of spec.BarnOk: 'okB'.
-/
import Derived.Test.YtefhdhblcaopiaaBb
namespace Go.Proofs.Ytefhdhblcaopiaa.Cl
open Go.RowKit Wd Rp Kp Ra
set_option linter.unusedVariables false
set_option maxRecDepth 100000 in
set_option maxHeartbeats 400000 in
theorem specBarn_any (w : World) (a sa : Option Addr) (c sc n sn : Nat) (h : List Cel) (hs : List Hd) (ss : List (List Cel)) (hn : h.length = n) (hsn : ss.length = sn) (hv : Vw w a c h) (hvs : VwS w sa sc hs ss) (hlow : Low h ss) (hmod : Mod h ss) :
    Calls Try.prog 24 #[.agg #[.slice a n c, .slice sa sn sc]] w fun e w' => e = .returned (.bool (okB h ss)) ∧ Below w.heap.size w w' := by
  have HV := Lib.hid hv; clear hv
  have HVS := Lib.hid hvs; clear hvs
  have HLOW := Lib.hid hlow; clear hlow
  have HMOD := Lib.hid hmod; clear hmod
  have HN := Lib.hid hn; clear hn
  have HSN := Lib.hid hsn; clear hsn
  have hn1 : n ≤ 1048576 := by rw [← HN.out]; exact HLOW.out.1
  have hsn1 : sn ≤ 1048576 := by rw [← HSN.out]; exact HLOW.out.2.1
  have H0 := Lib.hid (bel1 w (.cells #[.slice a n c, .slice sa sn sc] 27))
  have F0 := Lib.hid (Bb.made (.slice a n c) (.slice sa sn sc) w 27)
  go_enter Try.func24, Try.ntmps24
  go_wp2_with fail
  go_loopw [3] (fun i wr => ∃ k : Nat, k ≤ sn ∧ i = .int .i64 k ∧ (∀ (j : Nat) (l : List Cel), j < k → ss[j]? = some l → okT l = true) ∧ Below w.heap.size w wr ∧ Bb w.heap.size (.slice a n c) (.slice sa sn sc) wr) (fun i _ => sn - intV i)
  case atStart => exact ⟨0, Nat.zero_le _, rfl, (fun j l hj => by omega), H0.out, F0.out⟩
  case round =>
    clear H0 F0
    obtain ⟨k, hk, rfl, hall, hbel, hfr⟩ := hrel
    have HALL := Lib.hid hall; clear hall
    have HB := Lib.hid hbel; clear hbel
    have HF := Lib.hid hfr
    obtain ⟨x0, x1, -, -, -⟩ := hfr
    by_cases hlt : k < sn
    · obtain ⟨l, hl⟩ : ∃ l, ss[k]? = some l := ⟨ss[k]'(by rw [HSN.out]; exact hlt), List.getElem?_eq_getElem _⟩
      obtain ⟨x, g, o, -, rfl, hg, hc, hvl⟩ := HVS.out.at hl
      have hcx : wr.cell? ⟨g, o + k, none⟩ = some (.slice x.a l.length x.c) := (HB.out.cell (p := ⟨g, o + k, none⟩) hg).trans hc
      have HVL := Lib.hid (hvl.below HB.out); clear hvl hc hg
      have hl2 : l.length ≤ 1048576 := HLOW.out.2.2 l (List.mem_of_getElem? hl)
      have HM := Lib.hid (HMOD.out.2 l (List.mem_of_getElem? hl))
      have HL := Lib.hid hl; clear hl
      generalize hln : l.length = ln at *
      have HLN := Lib.hid hln; clear hln
      have k1 : (k : Int) < (sn : Int) := by omega
      cases hok : okL l
      · have HE := Lib.hid (okB_bad (h := h) (List.mem_of_getElem? HL.out) (show okT l = false by unfold okT; rw [hok]; simp))
        have HOK := Lib.hid hok; clear hok
        go_wp2_with fail
        refine (specCells_is HOK.out _ x.a x.c _ HLN.out HVL.out HM.out (by omega)).mono ?_; rintro e w1 ⟨rfl, b1⟩
        have B1 := Lib.hid (bel_tr HB.out b1 (Nat.le_refl _))
        obtain ⟨x2, x3, -, -, -⟩ := HF.out.next b1; clear b1
        go_wp2_with fail
        go_ret
        exact ⟨by rw [HE.out]; rfl, B1.out⟩
      · have HOK := Lib.hid hok
        by_cases hz : ln = 0
        · have HE := Lib.hid (okB_bad (h := h) (List.mem_of_getElem? HL.out) (show okT l = false by rw [List.length_eq_zero_iff.1 (HLN.out.trans hz)]; rfl))
          subst hz
          clear hok
          go_wp2_with fail
          refine (specCells_is HOK.out _ x.a x.c _ HLN.out HVL.out HM.out (by omega)).mono ?_; rintro e w1 ⟨rfl, b1⟩
          have B1 := Lib.hid (bel_tr HB.out b1 (Nat.le_refl _))
          obtain ⟨x2, x3, -, -, -⟩ := HF.out.next b1
          have hcx1 : w1.cell? ⟨g, o + k, none⟩ = some (.slice x.a 0 x.c) := by
            exact (World.cell?_of_block (w := wr) (b1.block g (lt_of_cell hcx))).trans hcx
          clear b1
          go_wp2_with fail
          go_ret
          exact ⟨by rw [HE.out]; rfl, B1.out⟩
        · have HE := Lib.hid (show okT l = true by unfold okT; rw [hok]; cases l with | nil => exact absurd HLN.out.symm hz | cons _ _ => rfl)
          have hz1 : ¬ ((ln : Int) = 0) := by omega
          have hz2 : ((ln : Int) == 0) = false := by simpa using hz
          clear hok
          go_wp2_with fail
          refine (specCells_is HOK.out _ x.a x.c _ HLN.out HVL.out HM.out (by omega)).mono ?_; rintro e w1 ⟨rfl, b1⟩
          have B1 := Lib.hid (bel_tr HB.out b1 (Nat.le_refl _))
          have F1 := Lib.hid (HF.out.next b1)
          obtain ⟨x2, x3, -, -, -⟩ := id F1.out
          have hcx1 : w1.cell? ⟨g, o + k, none⟩ = some (.slice x.a ln x.c) := (World.cell?_of_block (w := wr) (b1.block g (lt_of_cell hcx))).trans hcx
          clear b1
          go_wp2_with fail
          go_roundw
          case rel =>
            refine ⟨k + 1, by omega, by go_num, fun j t hj ht => ?_, B1.out, F1.out⟩
            by_cases ej : j = k
            · subst ej; rw [HL.out] at ht; cases ht; exact HE.out
            · exact HALL.out j t (by omega) ht
          case measure => simp [intV]; omega
    · have hkk : k = sn := by omega
      have HE := Lib.hid (specBarn_end (h := h) (ss := ss) (fun j l hl => HALL.out j l (by have := (List.getElem?_eq_some_iff.1 hl).1; rw [HSN.out] at this; omega) hl))
      rw [HSN.out] at HE
      subst hkk
      have HVH := Lib.hid (HV.out.below HB.out)
      cases hok : okL h
      · rw [hok] at HE
        have HOK := Lib.hid hok; clear hok
        go_wp2_with fail
        refine (specCells_is HOK.out _ a c n HN.out HVH.out HMOD.out.1 (by omega)).mono ?_; rintro e w1 ⟨rfl, b1⟩
        have B1 := Lib.hid (bel_tr HB.out b1 (Nat.le_refl _)); clear b1
        go_wp2_with fail
        go_ret
        exact ⟨by rw [HE.out]; rfl, B1.out⟩
      · rw [hok] at HE
        have HOK := Lib.hid hok; clear hok
        by_cases h5 : k ≤ 5
        all_goals
          go_wp2_with fail
          refine (specCells_is HOK.out _ a c n HN.out HVH.out HMOD.out.1 (by omega)).mono ?_; rintro e w1 ⟨rfl, b1⟩
          have B1 := Lib.hid (bel_tr HB.out b1 (Nat.le_refl _))
          obtain ⟨x2, x3, -, -, -⟩ := HF.out.next b1; clear b1
          go_wp2_with fail
          go_ret
          exact ⟨by rw [HE.out]; first | (simp [h5]; done) | (simp [h5]; omega), B1.out⟩
theorem barnS_is {h : List Cel} {ss : List (List Cel)} {x : Bool} (e : okB h ss = x) (w : World) (a sa : Option Addr) (c sc n sn : Nat) (hs : List Hd) (hn : h.length = n) (hsn : ss.length = sn) (hv : Vw w a c h) (hvs : VwS w sa sc hs ss) (hlow : Low h ss) (hmod : Mod h ss) :
    Calls Try.prog 24 #[.agg #[.slice a n c, .slice sa sn sc]] w fun e w' => e = .returned (.bool x) ∧ Below w.heap.size w w' := by
  rw [← e]; exact specBarn_any w a sa c sc n sn h hs ss hn hsn hv hvs hlow hmod
end Go.Proofs.Ytefhdhblcaopiaa.Cl
