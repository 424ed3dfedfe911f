/-
  Values of expressions: contracts of spec.l8Sum, SumOf. (Made by gen_yg.py.)
-/
import Derived.Test.YtfnnoehpahdgcaaGreatDoorYe
namespace Go.Proofs.YtfnnoehpahdgcaaGreatDoor.Cl
open Go.RowKit Wd Rp Kp
set_option linter.unusedVariables false
theorem vlF_gv {gs : List Int} {bs : List Bi} {s : Tk} (h : gvN s ≠ 0) : vlF gs bs s = (gs.getD (gvN s - 1) 0, true) := by unfold vlF; rw [if_pos h]
theorem vlF_rd {gs : List Int} {bs : List Bi} {s : Tk} (h : gvN s = 0) (h2 : rdB s = true) : vlF gs bs s = (rdV s, true) := by
  have hn : nmB s = false := by
    cases e : nmB s with
    | false => rfl
    | true => unfold rdB at h2; rw [nm_rd e] at h2; cases h2
  unfold vlF; rw [if_neg (by omega), hn]; rfl
theorem vlF_nm {gs : List Int} {bs : List Bi} {s : Tk} (h : gvN s = 0) (h2 : nmB s = true) : vlF gs bs s = ((valL (tx s) bs).1, true) := by unfold vlF; rw [if_neg (by omega), h2]; rfl
theorem isL_nm {s : Tk} (h : isL s = true) (h1 : gvN s = 0) (h2 : rdB s = false) : nmB s = true := by
  unfold isL at h
  rw [h1, h2] at h
  simp at h
  exact h.2
/-- What a value is computed in. -/
structure Env (w : World) (ba : Option Addr) (bc bn : Nat) (bs : List Bi) (ga : Option Addr) (gc : Nat) (gs : List Int) : Prop where
  bl : bs.length = bn
  bv : VwI w ba bc bs
  b4 : bn ≤ 4194304
  gv : V1 w ga gc (inL gs)
  g3 : gs.length = 3
theorem Env.below {w w' : World} {ba : Option Addr} {bc bn : Nat} {bs : List Bi} {ga : Option Addr} {gc : Nat} {gs : List Int} (h : Env w ba bc bn bs ga gc gs) (hb : Below w.heap.size w w') : Env w' ba bc bn bs ga gc gs := ⟨h.bl, h.bv.below hb, h.b4, h.gv.below hb, h.g3⟩
set_option maxHeartbeats 4000000 in
set_option maxRecDepth 100000 in
theorem l8Sum_any (a : Option Addr) (cap : Nat) (l : List Tk) (n : Nat) (hn : l.length = n) (hl : n ≤ 4194304) (hm : ∀ s ∈ l, s.length ≤ 4194304) (ba : Option Addr) (bc bn : Nat) (bs : List Bi) (ga : Option Addr) (gc : Nat) (gs : List Int) : ∀ (u : Su), u.ok → ∀ (i : Int) (r : List Tk) (w : World), 0 ≤ i → l.drop i.toNat = u.fl ++ r → V1 w a cap (txL l) → Env w ba bc bn bs ga gc gs →
    Calls Tryz.prog 114 #[.slice a n cap, .int .i64 i, .slice ba bn bc, .slice ga (3 : Nat) gc] w fun e w' => e = .returned (.tuple #[.int .i64 (u.fo (vlF gs bs) vlG).1, .int .i64 (i + (u.fl.length : Int)), .bool (u.fo (vlF gs bs) vlG).2]) ∧ Below w.heap.size w w' := by
  intro u
  induction u with
  | one s =>
    intro hu i r w hi hd hv he
    have h0 := isL_0 hu
    obtain ⟨hs, hlt, -⟩ := drop_head hd
    obtain ⟨k, rfl⟩ : ∃ k : Nat, i = k := ⟨i.toNat, by omega⟩
    simp only [Int.toNat_natCast] at hs hlt
    obtain ⟨g, o, rfl, hg, c0⟩ := hv.tx hs
    have HO := Lib.hid (fun w => l8Op_any w s)
    have hsl : s.length ≤ 4194304 := hm s (List.mem_of_getElem? hs)
    have hlk : k < n := by omega
    clear hv hs hg hd
    rw [h0] at HO
    have HG := Lib.hid (fun w => l8Given_any w s)
    have HR := Lib.hid (fun w => rdS_any s w (by omega))
    have HV := Lib.hid (fun w h => specValue_any w ba bc bs bn (tx s) he.bl (VwI.below he.bv h) he.b4)
    have HGL := Lib.hid (gvN_le s)
    have HF := Lib.hid (show Su.fo (vlF gs bs) vlG (.one s) = vlF gs bs s from rfl)
    generalize Su.fo (vlF gs bs) vlG (.one s) = kr at *
    by_cases hgv : gvN s = 0
    · rw [hgv] at HG
      cases hrd : rdB s
      · rw [hrd] at HR
        have HE := Lib.hid (HF.out.trans (vlF_nm hgv (isL_nm hu hgv hrd))); clear HF hu hgv hrd
        generalize (valL (tx s) bs).1 = va at *
        generalize (valL (tx s) bs).2 = vb at *
        generalize tx s = x at *
        go_enter Tryz.func114, Tryz.ntmps114
        go_wp2_with fail
        refine (HO.out _).mono ?_; rintro e w1 ⟨rfl, b1⟩
        have B1 := Lib.hid b1; clear b1
        go_wp2_with fail
        refine (HG.out _).mono ?_; rintro e w2 ⟨rfl, b2⟩
        have B2 := Lib.hid (bel_tr B1.out b2 (Nat.le_refl _))
        clear b2
        go_wp2_with fail
        refine (HR.out _).mono ?_; rintro e w3 ⟨rfl, rfl⟩
        have HV2 := Lib.hid (HV.out _ B2.out)
        go_wp2_with fail
        refine HV2.out.mono ?_; rintro e w4 ⟨rfl, b4⟩
        have B4 := Lib.hid (bel_tr B2.out b4 (Nat.le_refl _)); clear b4
        go_wp2_with fail
        refine bodyPost_ret (v := .tuple #[.int .i64 va, .int .i64 ((k : Int) + 1), .bool true]) (by simp [results, Tryz.results114, go_sem]) rfl ⟨by rw [HE.out]; rfl, B4.out⟩
      · rw [hrd] at HR
        have HE := Lib.hid (HF.out.trans (vlF_rd hgv hrd)); clear HF hu hgv hrd HV
        generalize rdV s = rv at *
        generalize tx s = x at *
        go_enter Tryz.func114, Tryz.ntmps114
        go_wp2_with fail
        refine (HO.out _).mono ?_; rintro e w1 ⟨rfl, b1⟩
        have B1 := Lib.hid b1; clear b1
        go_wp2_with fail
        refine (HG.out _).mono ?_; rintro e w2 ⟨rfl, b2⟩
        have B2 := Lib.hid (bel_tr B1.out b2 (Nat.le_refl _))
        clear b2
        go_wp2_with fail
        refine (HR.out _).mono ?_; rintro e w3 ⟨rfl, rfl⟩
        go_wp2_with fail
        refine bodyPost_ret (v := .tuple #[.int .i64 rv, .int .i64 ((k : Int) + 1), .bool true]) (by simp [results, Tryz.results114, go_sem]) rfl ⟨by rw [HE.out]; rfl, B2.out⟩
    · have HE := Lib.hid (HF.out.trans (vlF_gv hgv)); clear HF hu HV HR
      obtain ⟨j, hj⟩ : ∃ j : Nat, gvN s - 1 = j := ⟨_, rfl⟩
      have hj3 : j < 3 := by have := HGL.out; omega
      have hjg : (gvN s : Int) - 1 = (j : Int) := by omega
      rw [hjg] at HG
      rw [hj] at HE
      clear hgv hj hjg HGL
      have p0 : (0 : Int) ≤ (j : Int) := by omega
      have p0d : decide ((0 : Int) ≤ (j : Int)) = true := by simp
      obtain ⟨v, hv⟩ : ∃ v, gs[j]? = some v := ⟨gs[j]'(by have := he.g3; omega), List.getElem?_eq_getElem _⟩
      have hgd : gs.getD j 0 = v := by rw [List.getD_eq_getElem?_getD, hv]; rfl
      rw [hgd] at HE
      obtain ⟨gg, go, rfl, hgg, gc0⟩ := he.gv.iv hv
      have HGC := Lib.hid gc0
      clear hv hgd he gc0
      generalize tx s = x at *
      go_enter Tryz.func114, Tryz.ntmps114
      go_wp2_with fail
      refine (HO.out _).mono ?_; rintro e w1 ⟨rfl, b1⟩
      have B1 := Lib.hid b1; clear b1
      go_wp2_with fail
      refine (HG.out _).mono ?_; rintro e w2 ⟨rfl, b2⟩
      have B2 := Lib.hid (bel_tr B1.out b2 (Nat.le_refl _))
      clear b2
      have gc2 := (B2.out.cell (p := ⟨gg, go + j, none⟩) hgg).trans HGC.out
      go_wp2_with fail
      refine bodyPost_ret (v := .tuple #[.int .i64 v, .int .i64 ((k : Int) + 1), .bool true]) (by simp [results, Tryz.results114, go_sem]) rfl ⟨by rw [HE.out]; rfl, B2.out⟩
  | two s x y ihx ihy =>
    intro hu i r w hi hd hv he
    rw [Su.fl, List.cons_append, List.append_assoc] at hd
    obtain ⟨hs, hlt, hd2⟩ := drop_head hd
    have hd1 := hd2
    have hd3 := drop_more hd2
    have e1 : i.toNat + 1 = (i + 1).toNat := by omega
    have e3 : i.toNat + 1 + x.fl.length = (i + 1 + x.fl.length).toNat := by omega
    rw [e1] at hd1
    rw [e3] at hd3
    have hlx := su_len (u := x) (by omega) hd1
    have hly := su_len (u := y) (by omega) hd3
    have HX := Lib.hid (fun w h he => ihx hu.2.1 (i + 1) (y.fl ++ r) w (by omega) hd1 h he)
    have HY := Lib.hid (fun w h he => ihy hu.2.2 (i + 1 + x.fl.length) r w (by omega) hd3 h he)
    have hon := isO_ne hu.1
    have ho7 := opN_le s
    have hln : ((Su.two s x y).fl.length : Int) = 1 + x.fl.length + y.fl.length := by simp [Su.fl]; omega
    have HLN := Lib.hid hln; clear hln ihx ihy hd hd1 hd2 hd3 e1 e3 hu
    obtain ⟨k, rfl⟩ : ∃ k : Nat, i = k := ⟨i.toNat, by omega⟩
    simp only [Int.toNat_natCast] at hs hlt
    obtain ⟨g, q, rfl, hg, c0⟩ := hv.tx hs
    have HV := Lib.hid hv
    have HO := Lib.hid (fun w => l8Op_any w s)
    have hlk : k < n := by omega
    clear hs hg hv
    have HF := Lib.hid (show Su.fo (vlF gs bs) vlG (.two s x y) = vlG (opN s) (x.fo (vlF gs bs) vlG) (y.fo (vlF gs bs) vlG) from rfl)
    have hp : (0 : Int) < (opN s : Int) := by omega
    have HEV := Lib.hid he; clear he
    generalize hlx' : x.fl.length = lx at *
    generalize hly' : y.fl.length = ly at *
    generalize Su.fo (vlF gs bs) vlG (.two s x y) = kr at *
    generalize x.fo (vlF gs bs) vlG = kx at *
    generalize y.fo (vlF gs bs) vlG = ky at *
    generalize opN s = o at *
    generalize (Su.two s x y).fl.length = ll at *
    generalize tx s = xs at *
    clear hlx' hly' hon
    obtain ⟨kx, kxb⟩ := kx
    obtain ⟨ky, kyb⟩ := ky
    have HD := Lib.hid (fun w => specDid_any (o : Int) kx ky w)
    simp only at HX HY
    cases kxb
    · have HE2 := Lib.hid (HF.out.trans (vlG_no1 rfl)); clear HF
      go_enter Tryz.func114, Tryz.ntmps114
      go_wp2_with fail
      refine (HO.out _).mono ?_; rintro e w1 ⟨rfl, b1⟩
      have V1' := Lib.hid (HV.out.below b1)
      have E1' := Lib.hid (HEV.out.below b1)
      have B1 := Lib.hid b1; clear b1
      go_wp2_with fail
      refine (HX.out w1 V1'.out E1'.out).mono ?_; rintro e w2 ⟨rfl, b2⟩
      have V2' := Lib.hid (V1'.out.below b2)
      have E2' := Lib.hid (E1'.out.below b2)
      have B2 := Lib.hid (bel_tr B1.out b2 (Nat.le_refl _)); clear b2
      go_wp2_with fail
      refine (HY.out w2 V2'.out E2'.out).mono ?_; rintro e w3 ⟨rfl, b3⟩
      have B3 := Lib.hid (bel_tr B2.out b3 (Nat.le_refl _)); clear b3
      go_wp2_with fail
      refine bodyPost_ret (v := .tuple #[.int .i64 0, .int .i64 ((k : Int) + 1 + (lx : Int) + (ly : Int)), .bool false]) (by simp [results, Tryz.results114, go_sem]) rfl ⟨?_, B3.out⟩
      rw [HE2.out, HLN.out]
      exact congrArg (fun z => Ending.returned (Value.tuple #[.int .i64 0, .int .i64 z, .bool false])) (by omega)
    · cases kyb
      · have HE2 := Lib.hid (HF.out.trans (vlG_no2 rfl)); clear HF
        go_enter Tryz.func114, Tryz.ntmps114
        go_wp2_with fail
        refine (HO.out _).mono ?_; rintro e w1 ⟨rfl, b1⟩
        have V1' := Lib.hid (HV.out.below b1)
        have E1' := Lib.hid (HEV.out.below b1)
        have B1 := Lib.hid b1; clear b1
        go_wp2_with fail
        refine (HX.out w1 V1'.out E1'.out).mono ?_; rintro e w2 ⟨rfl, b2⟩
        have V2' := Lib.hid (V1'.out.below b2)
        have E2' := Lib.hid (E1'.out.below b2)
        have B2 := Lib.hid (bel_tr B1.out b2 (Nat.le_refl _)); clear b2
        go_wp2_with fail
        refine (HY.out w2 V2'.out E2'.out).mono ?_; rintro e w3 ⟨rfl, b3⟩
        have B3 := Lib.hid (bel_tr B2.out b3 (Nat.le_refl _)); clear b3
        go_wp2_with fail
        refine bodyPost_ret (v := .tuple #[.int .i64 0, .int .i64 ((k : Int) + 1 + (lx : Int) + (ly : Int)), .bool false]) (by simp [results, Tryz.results114, go_sem]) rfl ⟨?_, B3.out⟩
        rw [HE2.out, HLN.out]
        exact congrArg (fun z => Ending.returned (Value.tuple #[.int .i64 0, .int .i64 z, .bool false])) (by omega)
      · have HE2 := Lib.hid (HF.out.trans (vlG_yes rfl rfl)); clear HF
        simp only at HE2
        generalize didV (o : Int) kx ky = dv at *
        generalize didB (o : Int) kx ky = db at *
        go_enter Tryz.func114, Tryz.ntmps114
        go_wp2_with fail
        refine (HO.out _).mono ?_; rintro e w1 ⟨rfl, b1⟩
        have V1' := Lib.hid (HV.out.below b1)
        have E1' := Lib.hid (HEV.out.below b1)
        have B1 := Lib.hid b1; clear b1
        go_wp2_with fail
        refine (HX.out w1 V1'.out E1'.out).mono ?_; rintro e w2 ⟨rfl, b2⟩
        have V2' := Lib.hid (V1'.out.below b2)
        have E2' := Lib.hid (E1'.out.below b2)
        have B2 := Lib.hid (bel_tr B1.out b2 (Nat.le_refl _)); clear b2
        go_wp2_with fail
        refine (HY.out w2 V2'.out E2'.out).mono ?_; rintro e w3 ⟨rfl, b3⟩
        have B3 := Lib.hid (bel_tr B2.out b3 (Nat.le_refl _)); clear b3
        go_wp2_with fail
        refine (HD.out _).mono ?_; rintro e w4 ⟨rfl, rfl⟩
        go_wp2_with fail
        refine bodyPost_ret (v := .tuple #[.int .i64 dv, .int .i64 ((k : Int) + 1 + (lx : Int) + (ly : Int)), .bool db]) (by simp [results, Tryz.results114, go_sem]) rfl ⟨?_, B3.out⟩
        rw [HE2.out, HLN.out]
        exact congrArg (fun z => Ending.returned (Value.tuple #[.int .i64 dv, .int .i64 z, .bool db])) (by omega)
theorem vlV_0 {l : List Tk} {i : Int} {bs : List Bi} {gs : List Int} (h : kdV l i = 0) : vlV l i bs gs = (0, false) := by unfold vlV; rw [if_pos h]
theorem vlV_1 {l : List Tk} {i : Int} {bs : List Bi} {gs : List Int} (h : okI bs = false) : vlV l i bs gs = (0, false) := by unfold vlV; rw [h]; split <;> rfl
theorem vlV_2 {l : List Tk} {i : Int} {bs : List Bi} {gs : List Int} (h : thB gs = false) : vlV l i bs gs = (0, false) := by unfold vlV; rw [h]; split <;> (try split) <;> rfl
theorem vlV_3 {l : List Tk} {i : Int} {bs : List Bi} {gs : List Int} (h : kdV l i ≠ 0) (h1 : okI bs = true) (h2 : thB gs = true) : vlV l i bs gs = foV (vlF gs bs) vlG (0, false) l i := by unfold vlV; rw [if_neg h, if_pos h1, if_pos h2]
theorem kdV_some {l : List Tk} {i : Int} (h : kdV l i ≠ 0) : ∃ n, enA l i = some n := by
  cases e : enA l i with
  | none => exact absurd (foV_none kdF kdG 0 e) h
  | some n => exact ⟨n, rfl⟩
end Go.Proofs.YtfnnoehpahdgcaaGreatDoor.Cl
