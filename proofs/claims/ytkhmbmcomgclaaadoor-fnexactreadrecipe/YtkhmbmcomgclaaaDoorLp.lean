/-
  The specification's ends of statements and recipes: contracts of spec.l9Deed, DeedEnd, RecipeOk. (Made by gen_lp.py.)
-/
import Derived.Test.YtkhmbmcomgclaaaDoorLn
namespace Go.Proofs.YtkhmbmcomgclaaaDoor.Cl
open Go.RowKit Wd Rp Kp
set_option linter.unusedVariables false
theorem ddG_none {l : List Tk} {B : Int → Int} {i : Int} (h : tkA l i = none) : ddG l B i = -1 := by unfold ddG; rw [h]
theorem ddG_some {l : List Tk} {B : Int → Int} {i : Int} {s : Tk} (h : tkA l i = some s) : ddG l B i = (if s = setT then (if nmA l (i + 1) then smV l 1 (i + 2) else -1) else if s = cutT then (if nmA l (i + 1) then i + 2 else -1) else if s = stopT then i + 1
    else if s = ifT then B (B (smV l 2 (i + 1))) else if s = whT then B (smV l 2 (i + 1)) else -1) := by unfold ddG; rw [h]
theorem ahd_i64 {l : List Tk} {i r : Int} (h : Ahd l i r) (hl : l.length ≤ 4194304) : I64 r := by unfold Ahd at h; exact ⟨by omega, by omega⟩
set_option maxHeartbeats 8000000 in
set_option maxRecDepth 100000 in
theorem deedS (a : Option Addr) (cap : Nat) (l : List Tk) (n : Nat) (hn : l.length = n) (hl : n ≤ 4194304) (hm : ∀ s ∈ l, s.length ≤ 4194304) (d : Int) (B : Int → Int) (hB : ∀ i, Ahd l i (B i)) (ih : BlokS a n cap l d B) : DeedS a n cap l d (ddG l B) := by
  intro w i hi hv
  have IH := Lib.hid ih; clear ih
  have HA := Lib.hid hB; clear hB
  cases h : tkA l i with
  | none =>
    have HR := Lib.hid (ddG_none (B := B) h)
    generalize ddG l B i = r at *
    have hc := tkA_none h
    rw [hn] at hc
    clear h hv
    rcases hc with h1 | h1
    · have p0 : decide (i < 0) = true := by simpa using h1
      go_enter Tryd.func23, Tryd.ntmps23
      go_wp2_with fail
      go_ret
      exact ⟨by rw [HR.out]; rfl, Below.refl _ _⟩
    · have p0 : decide (i < 0) = false := by simp; omega
      have p1 : decide ((n : Int) ≤ i) = true := by simpa using h1
      go_enter Tryd.func23, Tryd.ntmps23
      go_wp2_with fail
      go_ret
      exact ⟨by rw [HR.out]; rfl, Below.refl _ _⟩
  | some s =>
    obtain ⟨h0, h1, hs⟩ := tkA_some h
    have HM := Lib.hid (ddG_some (B := B) h)
    generalize ddG l B i = r at *
    obtain ⟨k, rfl⟩ : ∃ k : Nat, i = k := ⟨i.toNat, by omega⟩
    rw [Int.toNat_natCast] at hs
    have HV := Lib.hid hv
    have HN := Lib.hid (fun w h => l9Name_any w a cap l n ((k : Int) + 1) hn h hl hm)
    have HS := Lib.hid (fun w kind i hi h => l9Sum_any w a cap l n kind i hi hn h hl hm)
    have HSA := Lib.hid (fun kind i => ahd_i64 (sm_ahd l kind i) (by omega))
    have HBA := Lib.hid (fun i => ahd_i64 (HA.out i) (by omega))
    obtain ⟨g, o, rfl, hg, c0⟩ := hv.tx hs
    have hk : k < n := by omega
    have p0 : decide ((k : Int) < 0) = false := by simp
    have p1 : decide ((n : Int) ≤ (k : Int)) = false := by simpa using hk
    have p1n : ¬ (n : Int) ≤ (k : Int) := by omega
    have p1m : decide (n ≤ k) = false := by simpa using hk
    clear hv hs hg h
    by_cases b0 : s = setT
    · subst b0
      replace HM := Lib.hid (HM.out.trans (if_pos rfl))
      replace c0 : w.cell? ⟨g, o + k, none⟩ = some (.string ⟨#[115, 101, 116]⟩) := c0
      have HN0 := Lib.hid (HN.out w HV.out)
      generalize nmA l ((k : Int) + 1) = nm at *
      have HS0 := Lib.hid (HS.out w 1 ((k : Int) + 2) ⟨by omega, by omega⟩ HV.out)
      generalize smV l 1 ((k : Int) + 2) = x at *
      go_enter Tryd.func23, Tryd.ntmps23
      go_wp2_with fail
      refine HN0.out.mono ?_; rintro e w1 ⟨rfl, rfl⟩
      cases nm
      · go_wp2_with fail
        go_ret
        exact ⟨by rw [HM.out]; rfl, Below.refl _ _⟩
      · go_wp2_with fail
        refine HS0.out.mono ?_; rintro e w2 ⟨rfl, b2⟩
        have B2 := Lib.hid b2; clear b2
        go_wp2_with fail
        go_ret
        exact ⟨by rw [HM.out]; rfl, B2.out⟩
    replace HM := Lib.hid (HM.out.trans (if_neg b0))
    have q0 := tx_neL b0
    unfold setT at q0
    by_cases b1 : s = cutT
    · subst b1
      replace HM := Lib.hid (HM.out.trans (if_pos rfl))
      replace c0 : w.cell? ⟨g, o + k, none⟩ = some (.string ⟨#[99, 117, 116]⟩) := c0
      have HN0 := Lib.hid (HN.out w HV.out)
      generalize nmA l ((k : Int) + 1) = nm at *
      go_enter Tryd.func23, Tryd.ntmps23
      go_wp2_with fail
      refine HN0.out.mono ?_; rintro e w1 ⟨rfl, rfl⟩
      cases nm
      · go_wp2_with fail
        go_ret
        exact ⟨by rw [HM.out]; rfl, Below.refl _ _⟩
      · go_wp2_with fail
        go_ret
        exact ⟨by rw [HM.out]; rfl, Below.refl _ _⟩
    replace HM := Lib.hid (HM.out.trans (if_neg b1))
    have q1 := tx_neL b1
    unfold cutT at q1
    by_cases b2 : s = stopT
    · subst b2
      replace HM := Lib.hid (HM.out.trans (if_pos rfl))
      replace c0 : w.cell? ⟨g, o + k, none⟩ = some (.string ⟨#[115, 116, 111, 112]⟩) := c0
      go_enter Tryd.func23, Tryd.ntmps23
      go_wp2_with fail
      go_ret
      exact ⟨by rw [HM.out]; rfl, Below.refl _ _⟩
    replace HM := Lib.hid (HM.out.trans (if_neg b2))
    have q2 := tx_neL b2
    unfold stopT at q2
    by_cases b3 : s = ifT
    · subst b3
      replace HM := Lib.hid (HM.out.trans (if_pos rfl))
      replace c0 : w.cell? ⟨g, o + k, none⟩ = some (.string ⟨#[105, 102]⟩) := c0
      have HS0 := Lib.hid (HS.out w 2 ((k : Int) + 1) ⟨by omega, by omega⟩ HV.out)
      have HX := Lib.hid (HSA.out 2 ((k : Int) + 1))
      generalize smV l 2 ((k : Int) + 1) = x at *
      have HY := Lib.hid (HBA.out x)
      have HB1 := Lib.hid (fun w h => IH.out w x HX.out h)
      generalize hy : B x = y at HM HY HB1
      clear hy
      have HB2 := Lib.hid (fun w h => IH.out w y HY.out h)
      generalize hz : B y = z at HM HB2
      clear hz
      go_enter Tryd.func23, Tryd.ntmps23
      go_wp2_with fail
      refine HS0.out.mono ?_; rintro e w2 ⟨rfl, b2⟩
      have V2 := Lib.hid (HV.out.below b2)
      have B2 := Lib.hid b2; clear b2
      have HB1' := Lib.hid (HB1.out w2 V2.out)
      go_wp2_with fail
      refine HB1'.out.mono ?_; rintro e w3 ⟨rfl, b3⟩
      have V3 := Lib.hid (V2.out.below b3)
      have B3 := Lib.hid (bel_tr B2.out b3 (Nat.le_refl _)); clear b3
      have HB2' := Lib.hid (HB2.out w3 V3.out)
      go_wp2_with fail
      refine HB2'.out.mono ?_; rintro e w4 ⟨rfl, b4⟩
      have B4 := Lib.hid (bel_tr B3.out b4 (Nat.le_refl _)); clear b4
      go_wp2_with fail
      go_ret
      exact ⟨by rw [HM.out]; rfl, B4.out⟩
    replace HM := Lib.hid (HM.out.trans (if_neg b3))
    have q3 := tx_neL b3
    unfold ifT at q3
    by_cases b4 : s = whT
    · subst b4
      replace HM := Lib.hid (HM.out.trans (if_pos rfl))
      replace c0 : w.cell? ⟨g, o + k, none⟩ = some (.string ⟨#[119, 104, 105, 108, 101]⟩) := c0
      have HS0 := Lib.hid (HS.out w 2 ((k : Int) + 1) ⟨by omega, by omega⟩ HV.out)
      have HX := Lib.hid (HSA.out 2 ((k : Int) + 1))
      generalize smV l 2 ((k : Int) + 1) = x at *
      have HY := Lib.hid (HBA.out x)
      have HB1 := Lib.hid (fun w h => IH.out w x HX.out h)
      generalize hy : B x = y at HM HY HB1
      clear hy
      go_enter Tryd.func23, Tryd.ntmps23
      go_wp2_with fail
      refine HS0.out.mono ?_; rintro e w2 ⟨rfl, b2⟩
      have V2 := Lib.hid (HV.out.below b2)
      have B2 := Lib.hid b2; clear b2
      have HB1' := Lib.hid (HB1.out w2 V2.out)
      go_wp2_with fail
      refine HB1'.out.mono ?_; rintro e w3 ⟨rfl, b3⟩
      have V3 := Lib.hid (V2.out.below b3)
      have B3 := Lib.hid (bel_tr B2.out b3 (Nat.le_refl _)); clear b3
      go_wp2_with fail
      go_ret
      exact ⟨by rw [HM.out]; rfl, B3.out⟩
    replace HM := Lib.hid (HM.out.trans (if_neg b4))
    have q4 := tx_neL b4
    unfold whT at q4
    go_enter Tryd.func23, Tryd.ntmps23
    go_wp2_with fail
    go_ret
    exact ⟨by rw [HM.out]; rfl, Below.refl _ _⟩
theorem deedS_all (a : Option Addr) (cap : Nat) (l : List Tk) (n : Nat) (hn : l.length = n) (hl : n ≤ 4194304) (hm : ∀ s ∈ l, s.length ≤ 4194304) : ∀ d : Nat, d ≤ 100 → DeedS a n cap l d (ddE l d)
  | 0, _ => deedS a cap l n hn hl hm 0 _ (fun _ => Or.inl rfl) (blok0 a cap l n hn hl)
  | d + 1, hd => by
    have h := deedS_all a cap l n hn hl hm d (by omega)
    exact deedS a cap l n hn hl hm ((d + 1 : Nat) : Int) _ (bls_ahd (ddE_ahd l d)) (blok1 a cap l n hn hl _ (by omega) (by omega) _ (ddE_ahd l d) (by rw [show ((d + 1 : Nat) : Int) - 1 = (d : Nat) by omega]; exact h))
set_option maxRecDepth 100000 in
theorem specDeedEnd_any (w : World) (a : Option Addr) (cap : Nat) (l : List Tk) (n : Nat) (i : Int) (hi : I64 i) (hn : l.length = n) (hv : V1 w a cap (txL l)) (hl : n ≤ 4194304) (hm : ∀ s ∈ l, s.length ≤ 4194304) :
    Calls Tryd.prog 9 #[.slice a n cap, .int .i64 i] w (GivesI (ddE l 5 i) w) := by
  have HE := Lib.hid (deedS_all a cap l n hn hl hm 5 (by decide) w i hi hv)
  generalize ddE l 5 i = r at *
  go_enter Tryd.func9, Tryd.ntmps9
  go_wp2_with fail
  refine HE.out.mono ?_; rintro e w1 ⟨rfl, b1⟩
  have B1 := Lib.hid b1; clear b1
  go_wp2_with fail
  go_ret
  exact ⟨rfl, B1.out⟩
theorem dsE_in {l : List Tk} {i : Int} {k : Nat} (h0 : 0 ≤ i) (h1 : i < l.length) : dsE l (k + 1) i = dsE l k (ddE l 5 i) := by rw [dsE, if_pos ⟨h0, h1⟩]
theorem dsE_out {l : List Tk} {i : Int} {k : Nat} (h : i < 0 ∨ (l.length : Int) ≤ i) : dsE l k i = i := by
  cases k with
  | zero => rfl
  | succ k => rw [dsE, if_neg (by omega)]
set_option maxHeartbeats 4000000 in
set_option maxRecDepth 100000 in
theorem specRecipeOk_any (w : World) (a : Option Addr) (cap : Nat) (l : List Tk) (n : Nat) (hn : l.length = n) (hv : V1 w a cap (txL l)) (hl : n ≤ 4194304) (hm : ∀ s ∈ l, s.length ≤ 4194304) :
    Calls Tryd.prog 13 #[.slice a n cap] w (GivesB (rcB l) w) := by
  have HV := Lib.hid hv; clear hv
  have HD := Lib.hid (fun w i hi h => deedS_all a cap l n hn hl hm 5 (by decide) w i hi h)
  have HA := Lib.hid (fun i => ddE_ahd l 5 i)
  by_cases hlong : l.length ≤ 120
  · have HR := Lib.hid (show rcB l = decide (dsE l l.length 0 = l.length) by unfold rcB; rw [if_pos hlong])
    have y0 : decide ((n : Int) ≤ 120) = true := by simp; omega
    have y1 : (n : Int) ≤ 120 := by omega
    have y2 : decide (n ≤ 120) = true := by simp; omega
    generalize rcB l = r at *
    go_enter Tryd.func13, Tryd.ntmps13
    go_wp2_with fail
    go_loopg [3] (l.length + 1) (fun j q wr => ∃ z : Int, q = .int .i64 z ∧ dsE l l.length 0 = dsE l (j - 1) z ∧ (z = -1 ∨ (0 ≤ z ∧ z ≤ n ∧ n - z < j)) ∧ Below w.heap.size w wr)
    case atStart => exact ⟨0, rfl, rfl, Or.inr (by omega), Below.refl _ _⟩
    case round =>
      obtain ⟨z, rfl, hr, hz, hbel⟩ := hrel
      have HE := Lib.hid hr
      have HB := Lib.hid hbel
      have HV1 := Lib.hid (HV.out.below hbel)
      clear hr hbel
      by_cases h0 : z < 0
      · have t0 : decide (0 ≤ z) = false := by simpa using h0
        have HX := Lib.hid (HE.out.trans (dsE_out (Or.inl h0)))
        have t1 : (z == (n : Int)) = false := beq_eq_false_iff_ne.2 (by omega)
        go_wp2_with fail
        go_ret
        exact ⟨by rw [HR.out, HX.out, hn, show decide (z = (n : Int)) = false by simp; omega]; rfl, HB.out⟩
      · have t0 : decide (0 ≤ z) = true := by simp; omega
        by_cases h1 : z < (n : Int)
        · obtain ⟨m, rfl⟩ : ∃ m : Nat, z = m := ⟨z.toNat, by omega⟩
          have hmn : m < n := by omega
          have t1 : decide ((m : Int) < (n : Int)) = true := by simpa using hmn
          have t2 : decide (m < n) = true := by simpa using hmn
          obtain ⟨j, rfl⟩ : ∃ j', gk = j' + 2 := ⟨gk - 2, by omega⟩
          have HX := Lib.hid (HE.out.trans (show dsE l (j + 2 - 1) (m : Int) = dsE l (j + 1 - 1) (ddE l 5 m) from dsE_in (k := j) (by omega) (by omega)))
          have HC := Lib.hid (HD.out wr (m : Int) ⟨by omega, by omega⟩ HV1.out)
          have HY := Lib.hid (HA.out (m : Int))
          generalize hy : ddE l 5 (m : Int) = y at HX HC HY
          clear hy
          go_wp2_with fail
          refine HC.out.mono ?_; rintro e w1 ⟨rfl, b1⟩
          have B1 := Lib.hid (bel_tr HB.out b1 (Nat.le_refl _)); clear b1
          go_wp2_with fail
          go_roundg (j + 1)
          case measure => omega
          case rel => exact ⟨y, rfl, HX.out, (by have := HY.out; unfold Ahd at this; omega), B1.out⟩
        · have t1 : decide (z < (n : Int)) = false := by simpa using h1
          have HX := Lib.hid (HE.out.trans (dsE_out (Or.inr (by omega))))
          have hzn : z = n := by omega
          subst hzn
          go_wp2_with fail
          go_ret
          exact ⟨by rw [HR.out, HX.out, hn]; simp, HB.out⟩
  · have HR := Lib.hid (show rcB l = false by unfold rcB; rw [if_neg hlong])
    have y0 : decide ((n : Int) ≤ 120) = false := by simp; omega
    have y1 : ¬ (n : Int) ≤ 120 := by omega
    have y2 : decide (n ≤ 120) = false := by simp; omega
    have y3 : decide ((0 : Int) < (n : Int)) = true := by simp; omega
    have y4 : decide (0 < n) = true := by simp; omega
    have y5 : ((0 : Int) == (n : Int)) = false := beq_eq_false_iff_ne.2 (by omega)
    generalize rcB l = r at *
    go_enter Tryd.func13, Tryd.ntmps13
    go_wp2_with fail
    go_loopw [3] (fun q wr => q = .int .i64 0 ∧ wr = w) (fun _ _ => 0)
    case atStart => exact ⟨rfl, rfl⟩
    case round =>
      obtain ⟨rfl, rfl⟩ := hrel
      go_wp2_with fail
      go_ret
      exact ⟨by rw [HR.out]; rfl, Below.refl _ _⟩
end Go.Proofs.YtkhmbmcomgclaaaDoor.Cl
