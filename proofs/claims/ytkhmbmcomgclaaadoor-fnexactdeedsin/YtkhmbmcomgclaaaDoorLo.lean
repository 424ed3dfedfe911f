/-
  The specification's count of statements: contracts of spec.l9Verb, DeedsIn. (Made by gen_lo.py.)
-/
import Derived.Test.YtkhmbmcomgclaaaDoorLp
import Derived.Test.YtkhmbmcomgclaaaDoorLk
namespace Go.Proofs.YtkhmbmcomgclaaaDoor.Cl
open Go.RowKit Wd Rp Kp
set_option linter.unusedVariables false
def verbsL : List Tk := [setT, cutT, stopT, ifT, whT]
theorem sm_ed {l : List Tk} {kind i : Int} (h : smV l kind i ≠ -1) : edV l i = smV l kind i := by
  unfold smV at h ⊢
  split at h
  · exact absurd rfl h
  · rename_i g; rw [if_neg g]
set_option maxRecDepth 100000 in
theorem l9Verb_any (w : World) (s : Tk) : Calls Tryd.prog 31 #[.string (tx s)] w (GivesB (decide (0 ≤ atI verbsL s)) w) := by
  have HB := Lib.hid (bel1 w (.cells (verbsL.map tv).toArray 9))
  have HA := Lib.hid (l1At_any (w.alloc (.cells (verbsL.map tv).toArray 9)) (some ⟨w.heap.size, 0, none⟩) 5 verbsL 5 s rfl (litT (B := 0) w verbsL (by decide)) (by decide))
  generalize atI verbsL s = m at *
  generalize tx s = x at *
  go_enter Tryd.func31, Tryd.ntmps31
  go_wp2_with fail
  refine HA.out.mono ?_; rintro e w1 ⟨rfl, rfl⟩
  go_wp2_with fail
  go_ret
  exact ⟨rfl, HB.out⟩
set_option maxHeartbeats 8000000 in
set_option maxRecDepth 100000 in
theorem specDeedsIn_any (w : World) (a : Option Addr) (cap : Nat) (l : List Tk) (n : Nat) (hn : l.length = n) (hv : V1 w a cap (txL l)) (hl : n ≤ 4194304) (hm : ∀ s ∈ l, s.length ≤ 4194304) :
    Calls Tryd.prog 21 #[.slice a n cap] w (GivesI (dnR l) w) := by
  have HR := Lib.hid (specRecipeOk_any w a cap l n hn hv hl hm)
  have HE := Lib.hid (fun w i hi h => l8End_any w a cap l n i hi hn h hl hm)
  have HV := Lib.hid hv; clear hv hm
  have HX := Lib.hid (show dnR l = if rcB l then cnD l (l.length + 1) 0 0 else -1 from rfl)
  have HQ := Lib.hid (fun h => rcB_scn (l := l) h)
  generalize dnR l = r at *
  generalize rcB l = q at *
  go_enter Tryd.func21, Tryd.ntmps21
  go_wp2_with fail
  refine HR.out.mono ?_; rintro e w1 ⟨rfl, b1⟩
  have V2 := Lib.hid (HV.out.below b1)
  have B1 := Lib.hid b1; clear b1
  cases q
  · go_wp2_with fail
    go_ret
    exact ⟨by rw [HX.out]; rfl, B1.out⟩
  have HS := Lib.hid (HQ.out rfl)
  have HC := Lib.hid (show r = cnD l (l.length + 1) 0 0 from HX.out)
  clear HX HQ HR
  go_wp2_with fail
  go_loopg [3, 4, 5] (l.length + 1) (fun j c q _ wr => ∃ z y : Int, q = .int .i64 z ∧ c = .int .i64 y ∧ r = cnD l j z y ∧ Scn l z ∧ 0 ≤ z ∧ z ≤ n ∧ 0 ≤ y ∧ y ≤ z ∧ n - z < j ∧ Below w.heap.size w wr)
  case atStart => exact ⟨0, 0, rfl, rfl, HC.out, HS.out, by omega, by omega, by omega, by omega, by omega, B1.out⟩
  case round =>
    clear HC HS B1 V2
    obtain ⟨z, y, rfl, rfl, hr, hsc, hz0, hzn, hy0, hyz, hj, hbel⟩ := hrel
    have HB := Lib.hid hbel
    have HV1 := Lib.hid (HV.out.below hbel)
    have HC := Lib.hid hr
    have HS := Lib.hid hsc
    clear hr hsc hbel
    obtain ⟨k, rfl⟩ : ∃ k : Nat, z = k := ⟨z.toNat, by omega⟩
    by_cases hk : k < n
    · have t1 : decide ((k : Int) < (n : Int)) = true := by simpa using hk
      have t2 : decide (k < n) = true := by simpa using hk
      have i1 : (k : Int) + 1 ≤ 9223372036854775807 := by omega
      obtain ⟨c, hc⟩ : ∃ c, l[k]? = some c := ⟨l[k]'(by omega), List.getElem?_eq_getElem _⟩
      obtain ⟨g, o, rfl, hg, c0⟩ := HV1.out.tx hc
      have ht : tkA l (k : Int) = some c := by rw [tkA_nat]; exact hc
      obtain ⟨j, rfl⟩ : ∃ j', gk = j' + 1 := ⟨gk - 1, by omega⟩
      have HT := Lib.hid ht
      have HI := Lib.hid (HC.out.trans (show cnD l (j + 1) (k : Int) y = (if c = setT then cnD l j (edV l ((k : Int) + 2)) (y + 1) else if c = cutT then cnD l j ((k : Int) + 2) (y + 1) else if c = stopT then cnD l j ((k : Int) + 1) (y + 1)
        else if c = ifT ∨ c = whT then cnD l j (edV l ((k : Int) + 1)) (y + 1) else cnD l j ((k : Int) + 1) y) by rw [cnD, ht]))
      clear hc hg ht HC
      have HVb := Lib.hid (l9Verb_any wr c)
      cases HS.out with
      | fin => exact absurd hk (by omega)
        | br h hb hs' =>
          rw [HT.out] at h; cases h
          rcases hb with rfl | rfl
          · have HSX := Lib.hid hs'; clear hs'
            replace HI := Lib.hid (HI.out.trans (by rw [if_neg (by decide), if_neg (by decide), if_neg (by decide), if_neg (by decide)]))
            replace c0 : wr.cell? ⟨g, o + k, none⟩ = some (.string ⟨#[91]⟩) := c0
            rw [show decide (0 ≤ atI verbsL [91]) = false from by decide] at HVb
            go_wp2_with fail
            refine HVb.out.mono ?_; rintro e w2 ⟨rfl, b2⟩
            have V3 := Lib.hid (HV1.out.below b2)
            have B2 := Lib.hid (bel_tr HB.out b2 (Nat.le_refl _)); clear b2
            go_wp2_with fail
            go_roundg j
            case measure => omega
            case rel => exact ⟨(k : Int) + 1, y, by go_num, by go_num, HI.out, HSX.out, by omega, by omega, by omega, by omega, by omega, B2.out⟩
          · have HSX := Lib.hid hs'; clear hs'
            replace HI := Lib.hid (HI.out.trans (by rw [if_neg (by decide), if_neg (by decide), if_neg (by decide), if_neg (by decide)]))
            replace c0 : wr.cell? ⟨g, o + k, none⟩ = some (.string ⟨#[93]⟩) := c0
            rw [show decide (0 ≤ atI verbsL [93]) = false from by decide] at HVb
            go_wp2_with fail
            refine HVb.out.mono ?_; rintro e w2 ⟨rfl, b2⟩
            have V3 := Lib.hid (HV1.out.below b2)
            have B2 := Lib.hid (bel_tr HB.out b2 (Nat.le_refl _)); clear b2
            go_wp2_with fail
            go_roundg j
            case measure => omega
            case rel => exact ⟨(k : Int) + 1, y, by go_num, by go_num, HI.out, HSX.out, by omega, by omega, by omega, by omega, by omega, B2.out⟩
        | set h hnm hq hs' =>
          rw [HT.out] at h; cases h
          clear hnm
          replace HI := Lib.hid (HI.out.trans (by rw [if_pos rfl]))
          replace c0 : wr.cell? ⟨g, o + k, none⟩ = some (.string ⟨#[115, 101, 116]⟩) := c0
          rw [show decide (0 ≤ atI verbsL setT) = true from by decide] at HVb
          go_wp2_with fail
          refine HVb.out.mono ?_; rintro e w2 ⟨rfl, b2⟩
          have V3 := Lib.hid (HV1.out.below b2)
          have B2 := Lib.hid (bel_tr HB.out b2 (Nat.le_refl _)); clear b2
          have HA := Lib.hid (sm_ahd l 1 ((k : Int) + 2))
          have HEE := Lib.hid (HE.out w2 ((k : Int) + 2) ⟨by omega, by omega⟩ V3.out)
          rw [sm_ed hq] at HEE HI
          generalize smV l 1 ((k : Int) + 2) = x at *
          have hx : (k : Int) + 2 < x ∧ x ≤ n := by have := HA.out; unfold Ahd at this; omega
          have HSX := Lib.hid hs'
          clear hs' hq HA
          have i2 : y + 1 ≤ 9223372036854775807 := by omega
          go_wp2_with fail
          refine HEE.out.mono ?_; rintro e w3 ⟨rfl, b3⟩
          have B3 := Lib.hid (bel_tr B2.out b3 (Nat.le_refl _)); clear b3
          go_wp2_with fail
          go_roundg j
          case measure => omega
          case rel => exact ⟨x, y + 1, by go_num, by go_num, HI.out, HSX.out, by omega, by omega, by omega, by omega, by omega, B3.out⟩
        | cut h hnm hs' =>
          rw [HT.out] at h; cases h
          have hnl : (k : Int) + 2 ≤ n := by
            unfold nmA at hnm
            cases e : tkA l ((k : Int) + 1) with
            | none => rw [e] at hnm; cases hnm
            | some t => have := tkA_some e; omega
          clear hnm
          have HSX := Lib.hid hs'; clear hs'
          replace HI := Lib.hid (HI.out.trans (by rw [if_neg (by decide), if_pos rfl]))
          replace c0 : wr.cell? ⟨g, o + k, none⟩ = some (.string ⟨#[99, 117, 116]⟩) := c0
          rw [show decide (0 ≤ atI verbsL cutT) = true from by decide] at HVb
          go_wp2_with fail
          refine HVb.out.mono ?_; rintro e w2 ⟨rfl, b2⟩
          have V3 := Lib.hid (HV1.out.below b2)
          have B2 := Lib.hid (bel_tr HB.out b2 (Nat.le_refl _)); clear b2
          have i2 : y + 1 ≤ 9223372036854775807 := by omega
          go_wp2_with fail
          go_roundg j
          case measure => omega
          case rel => exact ⟨(k : Int) + 2, y + 1, by go_num, by go_num, HI.out, HSX.out, by omega, by omega, by omega, by omega, by omega, B2.out⟩
        | stop h hs' =>
          rw [HT.out] at h; cases h
          have HSX := Lib.hid hs'; clear hs'
          replace HI := Lib.hid (HI.out.trans (by rw [if_neg (by decide), if_neg (by decide), if_pos rfl]))
          replace c0 : wr.cell? ⟨g, o + k, none⟩ = some (.string ⟨#[115, 116, 111, 112]⟩) := c0
          rw [show decide (0 ≤ atI verbsL stopT) = true from by decide] at HVb
          go_wp2_with fail
          refine HVb.out.mono ?_; rintro e w2 ⟨rfl, b2⟩
          have V3 := Lib.hid (HV1.out.below b2)
          have B2 := Lib.hid (bel_tr HB.out b2 (Nat.le_refl _)); clear b2
          have i2 : y + 1 ≤ 9223372036854775807 := by omega
          go_wp2_with fail
          go_roundg j
          case measure => omega
          case rel => exact ⟨(k : Int) + 1, y + 1, by go_num, by go_num, HI.out, HSX.out, by omega, by omega, by omega, by omega, by omega, B2.out⟩
        | iw h hb hq hs' =>
          rw [HT.out] at h; cases h
          rcases hb with rfl | rfl
          · skip
            replace HI := Lib.hid (HI.out.trans (by rw [if_neg (by decide), if_neg (by decide), if_neg (by decide), if_pos (Or.inl rfl)]))
            replace c0 : wr.cell? ⟨g, o + k, none⟩ = some (.string ⟨#[105, 102]⟩) := c0
            rw [show decide (0 ≤ atI verbsL ifT) = true from by decide] at HVb
            go_wp2_with fail
            refine HVb.out.mono ?_; rintro e w2 ⟨rfl, b2⟩
            have V3 := Lib.hid (HV1.out.below b2)
            have B2 := Lib.hid (bel_tr HB.out b2 (Nat.le_refl _)); clear b2
            have HA := Lib.hid (sm_ahd l 2 ((k : Int) + 1))
            have HEE := Lib.hid (HE.out w2 ((k : Int) + 1) ⟨by omega, by omega⟩ V3.out)
            rw [sm_ed hq] at HEE HI
            generalize smV l 2 ((k : Int) + 1) = x at *
            have hx : (k : Int) + 1 < x ∧ x ≤ n := by have := HA.out; unfold Ahd at this; omega
            have HSX := Lib.hid hs'
            clear hs' hq HA
            have i2 : y + 1 ≤ 9223372036854775807 := by omega
            go_wp2_with fail
            refine HEE.out.mono ?_; rintro e w3 ⟨rfl, b3⟩
            have B3 := Lib.hid (bel_tr B2.out b3 (Nat.le_refl _)); clear b3
            go_wp2_with fail
            go_roundg j
            case measure => omega
            case rel => exact ⟨x, y + 1, by go_num, by go_num, HI.out, HSX.out, by omega, by omega, by omega, by omega, by omega, B3.out⟩
          · skip
            replace HI := Lib.hid (HI.out.trans (by rw [if_neg (by decide), if_neg (by decide), if_neg (by decide), if_pos (Or.inr rfl)]))
            replace c0 : wr.cell? ⟨g, o + k, none⟩ = some (.string ⟨#[119, 104, 105, 108, 101]⟩) := c0
            rw [show decide (0 ≤ atI verbsL whT) = true from by decide] at HVb
            go_wp2_with fail
            refine HVb.out.mono ?_; rintro e w2 ⟨rfl, b2⟩
            have V3 := Lib.hid (HV1.out.below b2)
            have B2 := Lib.hid (bel_tr HB.out b2 (Nat.le_refl _)); clear b2
            have HA := Lib.hid (sm_ahd l 2 ((k : Int) + 1))
            have HEE := Lib.hid (HE.out w2 ((k : Int) + 1) ⟨by omega, by omega⟩ V3.out)
            rw [sm_ed hq] at HEE HI
            generalize smV l 2 ((k : Int) + 1) = x at *
            have hx : (k : Int) + 1 < x ∧ x ≤ n := by have := HA.out; unfold Ahd at this; omega
            have HSX := Lib.hid hs'
            clear hs' hq HA
            have i2 : y + 1 ≤ 9223372036854775807 := by omega
            go_wp2_with fail
            refine HEE.out.mono ?_; rintro e w3 ⟨rfl, b3⟩
            have B3 := Lib.hid (bel_tr B2.out b3 (Nat.le_refl _)); clear b3
            go_wp2_with fail
            go_roundg j
            case measure => omega
            case rel => exact ⟨x, y + 1, by go_num, by go_num, HI.out, HSX.out, by omega, by omega, by omega, by omega, by omega, B3.out⟩
    · obtain rfl : k = n := by omega
      have t1 : decide ((k : Int) < (k : Int)) = false := by simp
      have HZ := Lib.hid (HC.out.trans (show cnD l gk (k : Int) y = y from (by cases gk with | zero => rfl | succ j => rw [cnD, tkA_out (by omega)])))
      go_wp2_with fail
      go_ret
      exact ⟨by rw [HZ.out]; rfl, HB.out⟩
end Go.Proofs.YtkhmbmcomgclaaaDoor.Cl
