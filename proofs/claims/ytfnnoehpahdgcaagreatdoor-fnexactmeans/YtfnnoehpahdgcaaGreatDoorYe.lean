/-
  Kinds, depths and values of expressions: contracts of spec.l8Kind, KindOf, l8Depth, DepthOf, l8Three, l8Sum, SumOf. (Made by gen_ye.py.)
-/
import Derived.Test.YtfnnoehpahdgcaaGreatDoorYd
import Derived.Test.YtfnnoehpahdgcaaGreatDoorJc
namespace Go.Proofs.YtfnnoehpahdgcaaGreatDoor.Cl
open Go.RowKit Wd Rp Kp
set_option linter.unusedVariables false
theorem drop_head {l : List Tk} {k : Nat} {s : Tk} {r : List Tk} (h : l.drop k = s :: r) : l[k]? = some s ∧ k < l.length ∧ l.drop (k + 1) = r := by
  have h1 : (l.drop k)[0]? = some s := by rw [h]; rfl
  rw [List.getElem?_drop, Nat.add_zero] at h1
  refine ⟨h1, (List.getElem?_eq_some_iff.1 h1).1, ?_⟩
  rw [← List.drop_drop, h]; rfl
theorem drop_more {l x r : List Tk} {k : Nat} (h : l.drop k = x ++ r) : l.drop (k + x.length) = r := by rw [← List.drop_drop, h, List.drop_left]
theorem su_len {l : List Tk} {i : Int} {u : Su} {r : List Tk} (h0 : 0 ≤ i) (h : l.drop i.toNat = u.fl ++ r) : i + u.fl.length ≤ l.length := by
  have := congrArg List.length h
  rw [List.length_drop, List.length_append] at this
  have := u.pos
  omega
theorem edV_some {l : List Tk} {i : Int} {m : Nat} (h : enA l i = some m) : edV l i = i + m := by unfold edV; rw [h]
theorem edV_none {l : List Tk} {i : Int} (h : enA l i = none) : edV l i = -1 := by unfold edV; rw [h]
theorem kdG_yes {o : Nat} {a b : Int} (ha : a = tkK o) (hb : b = tkK o) : kdG o a b = ylK o := by unfold kdG; rw [if_pos ⟨ha, hb⟩]
theorem kdG_no {o : Nat} {a b : Int} (h : ¬ (a = tkK o ∧ b = tkK o)) : kdG o a b = 0 := by unfold kdG; rw [if_neg h]
theorem vlG_yes {o : Nat} {a b : Int × Bool} (ha : a.2 = true) (hb : b.2 = true) : vlG o a b = (didV o a.1 b.1, didB o a.1 b.1) := by unfold vlG; rw [ha, hb]; rfl
theorem vlG_no1 {o : Nat} {a b : Int × Bool} (ha : a.2 = false) : vlG o a b = (0, false) := by unfold vlG; rw [ha]; rfl
theorem vlG_no2 {o : Nat} {a b : Int × Bool} (ha : b.2 = false) : vlG o a b = (0, false) := by unfold vlG; rw [ha, Bool.and_false]; rfl
set_option maxHeartbeats 4000000 in
set_option maxRecDepth 100000 in
theorem l8Kind_any (a : Option Addr) (cap : Nat) (l : List Tk) (n : Nat) (hn : l.length = n) (hl : n ≤ 4194304) (hm : ∀ s ∈ l, s.length ≤ 4194304) : ∀ (u : Su), u.ok → ∀ (i : Int) (r : List Tk) (w : World), 0 ≤ i → l.drop i.toNat = u.fl ++ r → V1 w a cap (txL l) →
    Calls Tryz.prog 115 #[.slice a n cap, .int .i64 i] w fun e w' => e = .returned (.tuple #[.int .i64 (u.fo kdF kdG), .int .i64 (i + (u.fl.length : Int))]) ∧ Below w.heap.size w w' := by
  intro u
  induction u with
  | one s =>
    intro hu i r w hi hd hv
    have h0 := isL_0 hu
    obtain ⟨hs, hlt, -⟩ := drop_head hd
    obtain ⟨k, rfl⟩ : ∃ k : Nat, i = k := ⟨i.toNat, by omega⟩
    simp only [Int.toNat_natCast] at hs hlt
    obtain ⟨g, o, rfl, hg, c0⟩ := hv.tx hs
    have HO := Lib.hid (fun w => l8Op_any w s)
    have hsl : s.length ≤ 4194304 := hm s (List.mem_of_getElem? hs)
    have hlk : k < n := by omega
    clear hv hs hg hd
    rw [h0] at HO
    generalize tx s = x at *
    go_enter Tryz.func115, Tryz.ntmps115
    go_wp2_with fail
    refine (HO.out _).mono ?_; rintro e w1 ⟨rfl, b1⟩
    have B1 := Lib.hid b1; clear b1
    go_wp2_with fail
    go_ret2
    exact ⟨rfl, B1.out⟩
  | two s x y ihx ihy =>
    intro hu i r w hi hd hv
    rw [Su.fl, List.cons_append, List.append_assoc] at hd
    obtain ⟨hs, hlt, hd2⟩ := drop_head hd
    have hd1 := hd2
    have hd3 := drop_more hd2
    have e1 : i.toNat + 1 = (i + 1).toNat := by omega
    have e3 : i.toNat + 1 + x.fl.length = (i + 1 + x.fl.length).toNat := by omega
    rw [e1] at hd1
    rw [e3] at hd3
    have hlx := su_len (u := x) (by omega) hd1
    have hly := su_len (u := y) (by omega) hd3
    have HX := Lib.hid (fun w h => ihx hu.2.1 (i + 1) (y.fl ++ r) w (by omega) hd1 h)
    have HY := Lib.hid (fun w h => ihy hu.2.2 (i + 1 + x.fl.length) r w (by omega) hd3 h)
    have hon := isO_ne hu.1
    have ho7 := opN_le s
    have hln : ((Su.two s x y).fl.length : Int) = 1 + x.fl.length + y.fl.length := by simp [Su.fl]; omega
    have HLN := Lib.hid hln; clear hln ihx ihy hd hd1 hd2 hd3 e1 e3 hu
    obtain ⟨k, rfl⟩ : ∃ k : Nat, i = k := ⟨i.toNat, by omega⟩
    simp only [Int.toNat_natCast] at hs hlt
    obtain ⟨g, q, rfl, hg, c0⟩ := hv.tx hs
    have HV := Lib.hid hv
    have HO := Lib.hid (fun w => l8Op_any w s)
    have hlk : k < n := by omega
    clear hs hg hv
    have HE := Lib.hid (show Su.fo kdF kdG (.two s x y) = kdG (opN s) (x.fo kdF kdG) (y.fo kdF kdG) from rfl)
    have hp : ((opN s : Int) == 0) = false := by rw [beq_eq_false_iff_ne]; omega
    generalize hlx' : x.fl.length = lx at *
    generalize hly' : y.fl.length = ly at *
    generalize Su.fo kdF kdG (.two s x y) = kr at *
    generalize x.fo kdF kdG = kx at *
    generalize y.fo kdF kdG = ky at *
    generalize opN s = o at *
    generalize (Su.two s x y).fl.length = ll at *
    generalize tx s = xs at *
    clear hlx' hly' hon
    by_cases h7 : o = 7
    · subst h7
      have htk : tkK 7 = 2 := rfl
      by_cases hx : kx = 2
      · by_cases hy : ky = 2
        · subst hx hy
          
          have HE2 := Lib.hid (HE.out.trans ((kdG_yes (o := 7) rfl rfl : _ = (2 : Int)))); clear HE
          go_enter Tryz.func115, Tryz.ntmps115
          go_wp2_with fail
          refine (HO.out _).mono ?_; rintro e w1 ⟨rfl, b1⟩
          have V1' := Lib.hid (HV.out.below b1)
          have B1 := Lib.hid b1; clear b1
          go_wp2_with fail
          refine (HX.out w1 V1'.out).mono ?_; rintro e w2 ⟨rfl, b2⟩
          have V2' := Lib.hid (V1'.out.below b2)
          have B2 := Lib.hid (bel_tr B1.out b2 (Nat.le_refl _)); clear b2
          go_wp2_with fail
          refine (HY.out w2 V2'.out).mono ?_; rintro e w3 ⟨rfl, b3⟩
          have B3 := Lib.hid (bel_tr B2.out b3 (Nat.le_refl _)); clear b3
          go_wp2_with fail
          go_ret2
          refine ⟨?_, B3.out⟩
          rw [HE2.out, HLN.out]
          exact congrArg (fun z => Ending.returned (Value.tuple #[.int .i64 2, .int .i64 z])) (by omega)
        · subst hx
          have q1 : (ky != 2) = true := by simpa using hy
          
          have HE2 := Lib.hid (HE.out.trans (kdG_no (by rintro ⟨-, h⟩; exact hy (h.trans htk)))); clear HE
          go_enter Tryz.func115, Tryz.ntmps115
          go_wp2_with fail
          refine (HO.out _).mono ?_; rintro e w1 ⟨rfl, b1⟩
          have V1' := Lib.hid (HV.out.below b1)
          have B1 := Lib.hid b1; clear b1
          go_wp2_with fail
          refine (HX.out w1 V1'.out).mono ?_; rintro e w2 ⟨rfl, b2⟩
          have V2' := Lib.hid (V1'.out.below b2)
          have B2 := Lib.hid (bel_tr B1.out b2 (Nat.le_refl _)); clear b2
          go_wp2_with fail
          refine (HY.out w2 V2'.out).mono ?_; rintro e w3 ⟨rfl, b3⟩
          have B3 := Lib.hid (bel_tr B2.out b3 (Nat.le_refl _)); clear b3
          go_wp2_with fail
          go_ret2
          refine ⟨?_, B3.out⟩
          rw [HE2.out, HLN.out]
          exact congrArg (fun z => Ending.returned (Value.tuple #[.int .i64 0, .int .i64 z])) (by omega)
      · have q1 : (kx != 2) = true := by simpa using hx
        
        have HE2 := Lib.hid (HE.out.trans (kdG_no (by rintro ⟨h, -⟩; exact hx (h.trans htk)))); clear HE
        go_enter Tryz.func115, Tryz.ntmps115
        go_wp2_with fail
        refine (HO.out _).mono ?_; rintro e w1 ⟨rfl, b1⟩
        have V1' := Lib.hid (HV.out.below b1)
        have B1 := Lib.hid b1; clear b1
        go_wp2_with fail
        refine (HX.out w1 V1'.out).mono ?_; rintro e w2 ⟨rfl, b2⟩
        have V2' := Lib.hid (V1'.out.below b2)
        have B2 := Lib.hid (bel_tr B1.out b2 (Nat.le_refl _)); clear b2
        go_wp2_with fail
        refine (HY.out w2 V2'.out).mono ?_; rintro e w3 ⟨rfl, b3⟩
        have B3 := Lib.hid (bel_tr B2.out b3 (Nat.le_refl _)); clear b3
        go_wp2_with fail
        go_ret2
        refine ⟨?_, B3.out⟩
        rw [HE2.out, HLN.out]
        exact congrArg (fun z => Ending.returned (Value.tuple #[.int .i64 0, .int .i64 z])) (by omega)
    · have htk : tkK o = 1 := by unfold tkK; rw [if_neg h7]
      have q7 : ((o : Int) == 7) = false := by rw [beq_eq_false_iff_ne]; omega
      by_cases hx : kx = 1
      · by_cases hy : ky = 1
        · subst hx hy
          by_cases h5 : 5 ≤ o
          · have p5 : (5 : Int) ≤ (o : Int) := by omega
            
            have HE2 := Lib.hid (HE.out.trans (((kdG_yes htk.symm htk.symm).trans (by unfold ylK; rw [if_pos h5]) : _ = (2 : Int)))); clear HE
            go_enter Tryz.func115, Tryz.ntmps115
            go_wp2_with fail
            refine (HO.out _).mono ?_; rintro e w1 ⟨rfl, b1⟩
            have V1' := Lib.hid (HV.out.below b1)
            have B1 := Lib.hid b1; clear b1
            go_wp2_with fail
            refine (HX.out w1 V1'.out).mono ?_; rintro e w2 ⟨rfl, b2⟩
            have V2' := Lib.hid (V1'.out.below b2)
            have B2 := Lib.hid (bel_tr B1.out b2 (Nat.le_refl _)); clear b2
            go_wp2_with fail
            refine (HY.out w2 V2'.out).mono ?_; rintro e w3 ⟨rfl, b3⟩
            have B3 := Lib.hid (bel_tr B2.out b3 (Nat.le_refl _)); clear b3
            go_wp2_with fail
            go_ret2
            refine ⟨?_, B3.out⟩
            rw [HE2.out, HLN.out]
            exact congrArg (fun z => Ending.returned (Value.tuple #[.int .i64 2, .int .i64 z])) (by omega)
          · have p5 : ¬ (5 : Int) ≤ (o : Int) := by omega
            
            have HE2 := Lib.hid (HE.out.trans (((kdG_yes htk.symm htk.symm).trans (by unfold ylK; rw [if_neg h5]) : _ = (1 : Int)))); clear HE
            go_enter Tryz.func115, Tryz.ntmps115
            go_wp2_with fail
            refine (HO.out _).mono ?_; rintro e w1 ⟨rfl, b1⟩
            have V1' := Lib.hid (HV.out.below b1)
            have B1 := Lib.hid b1; clear b1
            go_wp2_with fail
            refine (HX.out w1 V1'.out).mono ?_; rintro e w2 ⟨rfl, b2⟩
            have V2' := Lib.hid (V1'.out.below b2)
            have B2 := Lib.hid (bel_tr B1.out b2 (Nat.le_refl _)); clear b2
            go_wp2_with fail
            refine (HY.out w2 V2'.out).mono ?_; rintro e w3 ⟨rfl, b3⟩
            have B3 := Lib.hid (bel_tr B2.out b3 (Nat.le_refl _)); clear b3
            go_wp2_with fail
            go_ret2
            refine ⟨?_, B3.out⟩
            rw [HE2.out, HLN.out]
            exact congrArg (fun z => Ending.returned (Value.tuple #[.int .i64 1, .int .i64 z])) (by omega)
        · subst hx
          have q1 : (ky != 1) = true := by simpa using hy
          
          have HE2 := Lib.hid (HE.out.trans (kdG_no (by rintro ⟨-, h⟩; exact hy (h.trans htk)))); clear HE
          go_enter Tryz.func115, Tryz.ntmps115
          go_wp2_with fail
          refine (HO.out _).mono ?_; rintro e w1 ⟨rfl, b1⟩
          have V1' := Lib.hid (HV.out.below b1)
          have B1 := Lib.hid b1; clear b1
          go_wp2_with fail
          refine (HX.out w1 V1'.out).mono ?_; rintro e w2 ⟨rfl, b2⟩
          have V2' := Lib.hid (V1'.out.below b2)
          have B2 := Lib.hid (bel_tr B1.out b2 (Nat.le_refl _)); clear b2
          go_wp2_with fail
          refine (HY.out w2 V2'.out).mono ?_; rintro e w3 ⟨rfl, b3⟩
          have B3 := Lib.hid (bel_tr B2.out b3 (Nat.le_refl _)); clear b3
          go_wp2_with fail
          go_ret2
          refine ⟨?_, B3.out⟩
          rw [HE2.out, HLN.out]
          exact congrArg (fun z => Ending.returned (Value.tuple #[.int .i64 0, .int .i64 z])) (by omega)
      · have q1 : (kx != 1) = true := by simpa using hx
        
        have HE2 := Lib.hid (HE.out.trans (kdG_no (by rintro ⟨h, -⟩; exact hx (h.trans htk)))); clear HE
        go_enter Tryz.func115, Tryz.ntmps115
        go_wp2_with fail
        refine (HO.out _).mono ?_; rintro e w1 ⟨rfl, b1⟩
        have V1' := Lib.hid (HV.out.below b1)
        have B1 := Lib.hid b1; clear b1
        go_wp2_with fail
        refine (HX.out w1 V1'.out).mono ?_; rintro e w2 ⟨rfl, b2⟩
        have V2' := Lib.hid (V1'.out.below b2)
        have B2 := Lib.hid (bel_tr B1.out b2 (Nat.le_refl _)); clear b2
        go_wp2_with fail
        refine (HY.out w2 V2'.out).mono ?_; rintro e w3 ⟨rfl, b3⟩
        have B3 := Lib.hid (bel_tr B2.out b3 (Nat.le_refl _)); clear b3
        go_wp2_with fail
        go_ret2
        refine ⟨?_, B3.out⟩
        rw [HE2.out, HLN.out]
        exact congrArg (fun z => Ending.returned (Value.tuple #[.int .i64 0, .int .i64 z])) (by omega)
set_option maxRecDepth 100000 in
theorem l1Max_any (a b : Int) (w : World) : Calls Tryz.prog 128 #[.int .i64 a, .int .i64 b] w fun e w' => e = .returned (.int .i64 (mxI a b)) ∧ w = w' := by
  by_cases h : b < a
  · have HE := Lib.hid (show mxI a b = a by unfold mxI; rw [if_pos h])
    go_enter Tryz.func128, Tryz.ntmps128
    go_wp2_with fail
    go_ret
    exact ⟨by rw [HE.out]; rfl, rfl⟩
  · have HE := Lib.hid (show mxI a b = b by unfold mxI; rw [if_neg h])
    go_enter Tryz.func128, Tryz.ntmps128
    go_wp2_with fail
    go_ret
    exact ⟨by rw [HE.out]; rfl, rfl⟩
set_option maxHeartbeats 4000000 in
set_option maxRecDepth 100000 in
theorem l8Depth_any (a : Option Addr) (cap : Nat) (l : List Tk) (n : Nat) (hn : l.length = n) (hl : n ≤ 4194304) (hm : ∀ s ∈ l, s.length ≤ 4194304) : ∀ (u : Su), u.ok → ∀ (i : Int) (r : List Tk) (w : World), 0 ≤ i → l.drop i.toNat = u.fl ++ r → V1 w a cap (txL l) →
    Calls Tryz.prog 116 #[.slice a n cap, .int .i64 i] w fun e w' => e = .returned (.tuple #[.int .i64 (u.fo dpF dpG), .int .i64 (i + (u.fl.length : Int))]) ∧ Below w.heap.size w w' := by
  intro u
  induction u with
  | one s =>
    intro hu i r w hi hd hv
    have h0 := isL_0 hu
    obtain ⟨hs, hlt, -⟩ := drop_head hd
    obtain ⟨k, rfl⟩ : ∃ k : Nat, i = k := ⟨i.toNat, by omega⟩
    simp only [Int.toNat_natCast] at hs hlt
    obtain ⟨g, o, rfl, hg, c0⟩ := hv.tx hs
    have HO := Lib.hid (fun w => l8Op_any w s)
    have hsl : s.length ≤ 4194304 := hm s (List.mem_of_getElem? hs)
    have hlk : k < n := by omega
    clear hv hs hg hd
    rw [h0] at HO
    generalize tx s = x at *
    go_enter Tryz.func116, Tryz.ntmps116
    go_wp2_with fail
    refine (HO.out _).mono ?_; rintro e w1 ⟨rfl, b1⟩
    have B1 := Lib.hid b1; clear b1
    go_wp2_with fail
    go_ret2
    exact ⟨rfl, B1.out⟩
  | two s x y ihx ihy =>
    intro hu i r w hi hd hv
    rw [Su.fl, List.cons_append, List.append_assoc] at hd
    obtain ⟨hs, hlt, hd2⟩ := drop_head hd
    have hd1 := hd2
    have hd3 := drop_more hd2
    have e1 : i.toNat + 1 = (i + 1).toNat := by omega
    have e3 : i.toNat + 1 + x.fl.length = (i + 1 + x.fl.length).toNat := by omega
    rw [e1] at hd1
    rw [e3] at hd3
    have hlx := su_len (u := x) (by omega) hd1
    have hly := su_len (u := y) (by omega) hd3
    have HX := Lib.hid (fun w h => ihx hu.2.1 (i + 1) (y.fl ++ r) w (by omega) hd1 h)
    have HY := Lib.hid (fun w h => ihy hu.2.2 (i + 1 + x.fl.length) r w (by omega) hd3 h)
    have hon := isO_ne hu.1
    have ho7 := opN_le s
    have hln : ((Su.two s x y).fl.length : Int) = 1 + x.fl.length + y.fl.length := by simp [Su.fl]; omega
    have HLN := Lib.hid hln; clear hln ihx ihy hd hd1 hd2 hd3 e1 e3 hu
    obtain ⟨k, rfl⟩ : ∃ k : Nat, i = k := ⟨i.toNat, by omega⟩
    simp only [Int.toNat_natCast] at hs hlt
    obtain ⟨g, q, rfl, hg, c0⟩ := hv.tx hs
    have HV := Lib.hid hv
    have HO := Lib.hid (fun w => l8Op_any w s)
    have hlk : k < n := by omega
    clear hs hg hv
    have HE := Lib.hid (show Su.fo dpF dpG (.two s x y) = wrap64 (1 + mxI (x.fo dpF dpG) (y.fo dpF dpG)) from rfl)
    have hp : ((opN s : Int) == 0) = false := by rw [beq_eq_false_iff_ne]; omega
    have HMX := Lib.hid (fun w => l1Max_any (x.fo dpF dpG) (y.fo dpF dpG) w)
    generalize hlx' : x.fl.length = lx at *
    generalize hly' : y.fl.length = ly at *
    generalize Su.fo dpF dpG (.two s x y) = kr at *
    generalize x.fo dpF dpG = kx at *
    generalize y.fo dpF dpG = ky at *
    generalize mxI kx ky = mm at *
    generalize opN s = o at *
    generalize (Su.two s x y).fl.length = ll at *
    generalize tx s = xs at *
    clear hlx' hly' hon
    go_enter Tryz.func116, Tryz.ntmps116
    go_wp2_with fail
    refine (HO.out _).mono ?_; rintro e w1 ⟨rfl, b1⟩
    have V1' := Lib.hid (HV.out.below b1)
    have B1 := Lib.hid b1; clear b1
    go_wp2_with fail
    refine (HX.out w1 V1'.out).mono ?_; rintro e w2 ⟨rfl, b2⟩
    have V2' := Lib.hid (V1'.out.below b2)
    have B2 := Lib.hid (bel_tr B1.out b2 (Nat.le_refl _)); clear b2
    go_wp2_with fail
    refine (HY.out w2 V2'.out).mono ?_; rintro e w3 ⟨rfl, b3⟩
    have B3 := Lib.hid (bel_tr B2.out b3 (Nat.le_refl _)); clear b3
    go_wp2_with fail
    refine (HMX.out _).mono ?_; rintro e w4 ⟨rfl, rfl⟩
    go_wp2_with fail
    go_ret2
    refine ⟨?_, B3.out⟩
    rw [HE.out, HLN.out]
    exact congrArg (fun z => Ending.returned (Value.tuple #[.int .i64 (wrap64 (1 + mm)), .int .i64 z])) (by omega)
set_option maxHeartbeats 4000000 in
set_option maxRecDepth 100000 in
theorem specKind_any (w : World) (a : Option Addr) (cap : Nat) (l : List Tk) (n : Nat) (i : Int) (hi : I64 i) (hn : l.length = n) (hv : V1 w a cap (txL l)) (hl : n ≤ 4194304) (hm : ∀ s ∈ l, s.length ≤ 4194304) :
    Calls Tryz.prog 100 #[.slice a n cap, .int .i64 i] w fun e w' => e = .returned (.int .i64 (kdV l i)) ∧ Below w.heap.size w w' := by
  have HEN := Lib.hid (l8End_any w a cap l n i hi hn hv hl hm)
  cases he : enA l i with
  | none =>
    have HE := Lib.hid (show kdV l i = 0 from foV_none _ _ _ he)
    rw [edV_none he] at HEN
    go_enter Tryz.func100, Tryz.ntmps100
    go_wp2_with fail
    refine HEN.out.mono ?_; rintro e w1 ⟨rfl, b1⟩
    have B1 := Lib.hid b1; clear b1
    go_wp2_with fail
    go_ret
    exact ⟨by rw [HE.out]; rfl, B1.out⟩
  | some m =>
    obtain ⟨u, hu, h0, hm2, hd, hf⟩ := foV_tree kdF kdG 0 he
    have HE := Lib.hid (show kdV l i = u.fo kdF kdG from hf)
    rw [edV_some he] at HEN
    have HV := Lib.hid hv
    have HK := Lib.hid (fun w h => l8Kind_any a cap l n hn hl hm u hu i _ w h0 hd h)
    have p0 : ¬ i + (m : Int) < 0 := by omega
    clear hd hu hf he hv
    generalize (u.fl.length : Int) = ul at *
    generalize u.fo kdF kdG = kr at *
    generalize i + (m : Int) = z at *
    go_enter Tryz.func100, Tryz.ntmps100
    go_wp2_with fail
    refine HEN.out.mono ?_; rintro e w1 ⟨rfl, b1⟩
    have V1' := Lib.hid (HV.out.below b1)
    have B1 := Lib.hid b1; clear b1
    go_wp2_with fail
    refine (HK.out _ V1'.out).mono ?_; rintro e w2 ⟨rfl, b2⟩
    have B2 := Lib.hid (bel_tr B1.out b2 (Nat.le_refl _)); clear b2
    go_wp2_with fail
    go_ret
    exact ⟨by rw [HE.out]; rfl, B2.out⟩
set_option maxHeartbeats 4000000 in
set_option maxRecDepth 100000 in
theorem specDepth_any (w : World) (a : Option Addr) (cap : Nat) (l : List Tk) (n : Nat) (i : Int) (hi : I64 i) (hn : l.length = n) (hv : V1 w a cap (txL l)) (hl : n ≤ 4194304) (hm : ∀ s ∈ l, s.length ≤ 4194304) :
    Calls Tryz.prog 101 #[.slice a n cap, .int .i64 i] w fun e w' => e = .returned (.int .i64 (dpV l i)) ∧ Below w.heap.size w w' := by
  have HEN := Lib.hid (l8End_any w a cap l n i hi hn hv hl hm)
  cases he : enA l i with
  | none =>
    have HE := Lib.hid (show dpV l i = 0 from foV_none _ _ _ he)
    rw [edV_none he] at HEN
    go_enter Tryz.func101, Tryz.ntmps101
    go_wp2_with fail
    refine HEN.out.mono ?_; rintro e w1 ⟨rfl, b1⟩
    have B1 := Lib.hid b1; clear b1
    go_wp2_with fail
    go_ret
    exact ⟨by rw [HE.out]; rfl, B1.out⟩
  | some m =>
    obtain ⟨u, hu, h0, hm2, hd, hf⟩ := foV_tree dpF dpG 0 he
    have HE := Lib.hid (show dpV l i = u.fo dpF dpG from hf)
    rw [edV_some he] at HEN
    have HV := Lib.hid hv
    have HK := Lib.hid (fun w h => l8Depth_any a cap l n hn hl hm u hu i _ w h0 hd h)
    have p0 : ¬ i + (m : Int) < 0 := by omega
    clear hd hu hf he hv
    generalize (u.fl.length : Int) = ul at *
    generalize u.fo dpF dpG = kr at *
    generalize i + (m : Int) = z at *
    go_enter Tryz.func101, Tryz.ntmps101
    go_wp2_with fail
    refine HEN.out.mono ?_; rintro e w1 ⟨rfl, b1⟩
    have V1' := Lib.hid (HV.out.below b1)
    have B1 := Lib.hid b1; clear b1
    go_wp2_with fail
    refine (HK.out _ V1'.out).mono ?_; rintro e w2 ⟨rfl, b2⟩
    have B2 := Lib.hid (bel_tr B1.out b2 (Nat.le_refl _)); clear b2
    go_wp2_with fail
    go_ret
    exact ⟨by rw [HE.out]; rfl, B2.out⟩
theorem thB_bad {gs : List Int} {k : Nat} {v : Int} (hk : gs[k]? = some v) (h : isW v = false) : thB gs = false := by
  unfold thB
  cases ha : gs.all isW with
  | false => rfl
  | true => rw [List.all_eq_true] at ha; rw [ha v (List.mem_of_getElem? hk)] at h; cases h
theorem thB_in {gs : List Int} (h : ∀ (k : Nat) (v : Int), gs[k]? = some v → isW v = true) : thB gs = decide (gs.length = 3) := by
  unfold thB
  rw [List.all_eq_true.2 fun v hv => by obtain ⟨k, hk⟩ := List.mem_iff_getElem?.1 hv; exact h k v hk]; rfl
theorem thB_len {gs : List Int} (h : thB gs = true) : gs.length = 3 := by
  unfold thB at h
  rw [Bool.and_eq_true, decide_eq_true_eq] at h
  exact h.2
theorem len3 {gs : List Int} {n : Nat} (hn : gs.length = n) : decide (gs.length = 3) = ((n : Int) == 3) := by
  subst hn
  rw [Bool.eq_iff_iff, decide_eq_true_eq, beq_iff_eq]; omega
set_option maxHeartbeats 4000000 in
set_option maxRecDepth 100000 in
theorem l8Three_any (w : World) (a : Option Addr) (cap : Nat) (gs : List Int) (n : Nat) (hn : gs.length = n) (hv : V1 w a cap (inL gs)) (hl : n ≤ 4194304) :
    Calls Tryz.prog 51 #[.slice a n cap] w fun e w' => e = .returned (.bool (thB gs)) ∧ w = w' := by
  have HV := Lib.hid hv; clear hv
  have HN := Lib.hid hn
  have HL3 := Lib.hid (len3 hn); clear hn
  go_enter Tryz.func51, Tryz.ntmps51
  go_wp2_with fail
  go_loop [3] (fun i => ∃ k : Nat, k ≤ n ∧ i = .int .i64 k ∧ ∀ (j : Nat) (v : Int), j < k → gs[j]? = some v → isW v = true) (fun i => n - (intOf i).toNat)
  case atStart => exact ⟨0, Nat.zero_le _, rfl, fun j y hj => by omega⟩
  case round =>
    obtain ⟨k, hk, rfl, hno⟩ := hrel
    have HO := Lib.hid hno; clear hno
    by_cases hlt : k < n
    · obtain ⟨c, hc⟩ : ∃ c, gs[k]? = some c := ⟨gs[k]'(by have := HN.out; omega), List.getElem?_eq_getElem _⟩
      obtain ⟨g, o, rfl, hg, c0⟩ := HV.out.iv hc
      have HC := Lib.hid hc
      have HW := Lib.hid (fun w => l1Word_any c w)
      clear hg hc
      cases hb : isW c
      · have HE := Lib.hid (thB_bad HC.out hb)
        rw [hb] at HW
        clear hb
        go_wp2_with fail
        refine (HW.out _).mono ?_; rintro e w1 ⟨rfl, rfl⟩
        go_wp2_with fail
        go_ret
        exact ⟨by rw [HE.out]; rfl, rfl⟩
      · rw [hb] at HW
        have HO2 := Lib.hid (show ∀ (j : Nat) (v : Int), j < k + 1 → gs[j]? = some v → isW v = true from fun j v hj hv => by
          by_cases e : j = k
          · subst e; rw [HC.out] at hv; cases hv; exact hb
          · exact HO.out j v (by omega) hv)
        clear hb
        go_wp2_with fail
        refine (HW.out _).mono ?_; rintro e w1 ⟨rfl, rfl⟩
        go_wp2_with fail
        go_round
        case rel => exact ⟨k + 1, by omega, by go_num, HO2.out⟩
        case measure => simp [intOf]; omega
    · obtain rfl : k = n := by omega
      have HE := Lib.hid (thB_in fun j v hv => HO.out j v (by have := (List.getElem?_eq_some_iff.1 hv).1; have := HN.out; omega) hv)
      go_wp2_with fail
      go_ret
      exact ⟨by rw [HE.out, HL3.out]; rfl, rfl⟩
set_option maxHeartbeats 4000000 in
set_option maxRecDepth 100000 in
theorem givenOk_any (w : World) (a : Option Addr) (cap : Nat) (gs : List Int) (n : Nat) (hn : gs.length = n) (hv : V1 w a cap (inL gs)) (hl : n ≤ 4194304) :
    Calls Tryz.prog 77 #[.slice a n cap] w fun e w' => e = .returned (.bool (thB gs)) ∧ w = w' := by
  have HV := Lib.hid hv; clear hv
  have HN := Lib.hid hn
  have HL3 := Lib.hid (len3 hn); clear hn
  go_enter Tryz.func77, Tryz.ntmps77
  go_wp2_with fail
  go_loop [4, 7] (fun _ i => ∃ k : Nat, k ≤ n ∧ i = .int .i64 k ∧ ∀ (j : Nat) (v : Int), j < k → gs[j]? = some v → isW v = true) (fun _ i => n - (intOf i).toNat)
  case atStart => exact ⟨0, Nat.zero_le _, rfl, fun j y hj => by omega⟩
  case round =>
    obtain ⟨k, hk, rfl, hno⟩ := hrel
    have HO := Lib.hid hno; clear hno
    by_cases hlt : k < n
    · obtain ⟨c, hc⟩ : ∃ c, gs[k]? = some c := ⟨gs[k]'(by have := HN.out; omega), List.getElem?_eq_getElem _⟩
      obtain ⟨g, o, rfl, hg, c0⟩ := HV.out.iv hc
      have HC := Lib.hid hc
      have HW := Lib.hid (fun w => implWordOk_any c w)
      clear hg hc
      cases hb : isW c
      · have HE := Lib.hid (thB_bad HC.out hb)
        rw [hb] at HW
        clear hb
        go_wp2_with fail
        refine (HW.out _).mono ?_; rintro e w1 ⟨rfl, rfl⟩
        go_wp2_with fail
        go_ret
        exact ⟨by rw [HE.out]; rfl, rfl⟩
      · rw [hb] at HW
        have HO2 := Lib.hid (show ∀ (j : Nat) (v : Int), j < k + 1 → gs[j]? = some v → isW v = true from fun j v hj hv => by
          by_cases e : j = k
          · subst e; rw [HC.out] at hv; cases hv; exact hb
          · exact HO.out j v (by omega) hv)
        clear hb
        go_wp2_with fail
        refine (HW.out _).mono ?_; rintro e w1 ⟨rfl, rfl⟩
        go_wp2_with fail
        go_round
        case rel => exact ⟨k + 1, by omega, by go_num, HO2.out⟩
        case measure => simp [intOf]; omega
    · obtain rfl : k = n := by omega
      have HE := Lib.hid (thB_in fun j v hv => HO.out j v (by have := (List.getElem?_eq_some_iff.1 hv).1; have := HN.out; omega) hv)
      go_wp2_with fail
      go_ret
      exact ⟨by rw [HE.out, HL3.out]; rfl, rfl⟩
end Go.Proofs.YtfnnoehpahdgcaaGreatDoor.Cl
