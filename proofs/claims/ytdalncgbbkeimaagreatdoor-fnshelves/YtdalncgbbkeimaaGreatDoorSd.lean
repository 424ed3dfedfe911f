/-
  Contracts of spec.ReadCell and impl.ReadCell: both give 'rcV' of the text's pieces. (Made by gen_sd.py.)
-/
import Derived.Test.YtdalncgbbkeimaaGreatDoorSb
namespace Go.Proofs.YtdalncgbbkeimaaGreatDoor.Cl
open Go.RowKit Wd Rp Kp
set_option linter.unusedVariables false
set_option maxHeartbeats 8000000 in
theorem specReadC_any (s : ByteArray) (w : World) (hs : s.size ≤ 4194304) : Calls Tryz.prog 27 #[.string s] w (RcPost s w) := by
  go_enter Tryz.func27, Tryz.ntmps27
  go_wp2_with fail
  have Z0 := Zc.made w 38
  have b0 := bel1 w (.cells #[.string ⟨#[]⟩, .string ⟨#[]⟩, .int .i64 0, .int .i64 0, .bool false] 38)
  generalize w.alloc (Obj.cells #[Value.string { data := #[] }, Value.string { data := #[] }, Value.int IntKind.i64 0, Value.int IntKind.i64 0, Value.bool false] 38) = w0 at Z0 b0 ⊢
  have HB0 := Lib.hid b0; clear b0
  have HZ := Lib.hid Z0; clear Z0
  generalize hq0 : w.heap.size = q at HZ ⊢
  have hqB : w.heap.size ≤ q := by omega
  clear hq0
  refine (specSplit_any s w0 hs).mono ?_; rintro e w1 ⟨g, n, cap, rfl, b1, hd⟩
  have B1 := Lib.hid b1; clear b1
  rcases hd with ⟨hn, hsp⟩ | ⟨rfl, pa, pb, pt, pv, hsp, hfo⟩
  · have HV := Lib.hid (rcV_no hsp); clear hsp
    have q1 : ((n : Int) != 4) = true := by simp; omega
    have q2 : ((n : Int) == 4) = false := by rw [beq_eq_false_iff_ne]; omega
    have q3 : ¬ n = 4 := hn
    obtain ⟨⟨z0, z1, z2, z3, z4⟩, ⟨f0, f1, f2, f3, f4⟩, -⟩ := HZ.out.next B1.out
    have BG := Lib.hid (bel_tr HB0.out B1.out (Nat.le_refl _)); clear hn
    go_wp2_with fail
    refine bodyPost_ret (v := zeroV) (by simp [results, Tryz.results27, go_sem, z0, z1, z2, z3, z4, zeroV]) rfl ⟨by rw [HV.out], ?_⟩
    exact bel_set5 BG.out hqB _ _ _ _ _
  · have HV : rcV (spl 32 s.data.toList) = if okR pa pb pt pv then cellV pa pb pt pv else zeroV := by rw [hsp]; rfl
    obtain ⟨l0, l1, l2, l3⟩ := piece_small hsp
    have HRT := Lib.hid (specRead_is pt (by omega))
    have HRV := Lib.hid (specRead_is pv (by omega))
    have HSZ := Lib.hid (show (tx pa).size ≤ 9223372036854775806 ∧ (tx pb).size ≤ 9223372036854775806 from ⟨by rw [tx_size]; omega, by rw [tx_size]; omega⟩)
    unfold okR cellV at HV
    have hgn : ((tx pv).toList == [45]) = gnB pv := rfl
    clear hsp l0 l1 l2 l3
    generalize tx pa = A at *
    generalize tx pb = B at *
    generalize tx pt = T at *
    generalize tx pv = V at *
    generalize rdV pt = tv at *
    generalize rdV pv = vv at *
    generalize rdB pt = tb at *
    generalize rdB pv = vb at *
    generalize gnB pv = gn at *
    have HF := Lib.hid hfo; clear hfo
    obtain ⟨y0, y1, y2, y3, hg1⟩ := id HF.out
    go_wp2_with fail
    refine (HRT.out _).mono ?_; rintro e w2 ⟨rfl, b2⟩
    have B2 := Lib.hid (bel_tr B1.out b2 (Nat.le_refl _))
    have HF2 := Lib.hid (HF.out.next b2); clear b2 y0 y1 y2 y3 hg1
    obtain ⟨y0, y1, y2, y3, hg2⟩ := id HF2.out
    go_wp2_with fail
    refine (HRV.out _).mono ?_; rintro e w4 ⟨rfl, b4⟩
    have B4 := Lib.hid (bel_tr B2.out b4 (Nat.le_refl _))
    have HF4 := Lib.hid (HF2.out.next b4); clear b4 y0 y1 y2 y3 hg2
    obtain ⟨y0, y1, y2, y3, hg⟩ := id HF4.out
    have SOF := Lib.hid (show ∀ z, Below w4.heap.size w4 z → (z.cell? ⟨g, 0, none⟩ = some (.string A) ∧ z.cell? ⟨g, 1, none⟩ = some (.string B) ∧ z.cell? ⟨g, 2, none⟩ = some (.string T) ∧ z.cell? ⟨g, 3, none⟩ = some (.string V) ∧ Below w4.heap.size w4 z) from fun z hz => ⟨coc hz hg y0, coc hz hg y1, coc hz hg y2, coc hz hg y3,  hz⟩)
    go_wp2_with fail
    clear y0 y1 y2 y3
    refine wp_region_held_drew (S := fun z => z.cell? ⟨g, 0, none⟩ = some (.string A) ∧ z.cell? ⟨g, 1, none⟩ = some (.string B) ∧ z.cell? ⟨g, 2, none⟩ = some (.string T) ∧ z.cell? ⟨g, 3, none⟩ = some (.string V) ∧ Below w4.heap.size w4 z) (by kernel_rfl) (SOF.out _ (Below.refl _ _).drew) (fun hHeld => ?_)
    refine wpAnyH_take (i := 0) (v := ?v0sr) rfl (by kernel_rfl) (by kernel_rfl) (by kernel_rfl) (fun _ _ _ h => h) (Or.inl ⟨by rfl, ?hy0sr⟩) (by assumption) ?rest0sr
    case hy0sr => (intro zz hSw; (try dsimp only at hSw); go_simp; (try with_reducible rfl))
    change wpAnyH _ _ _ _ _ _ _ (Act.put _ (some 30) _) _
    simp only [Act.put, List.setIfInBounds_toArray, List.set_cons_zero, List.set_cons_succ]
    refine wpAnyH_take (i := 1) (v := ?v1sr) rfl (by kernel_rfl) (by kernel_rfl) (by kernel_rfl) (fun _ _ _ h => h) (Or.inl ⟨by rfl, ?hy1sr⟩) (by assumption) ?rest1sr
    case hy1sr => (intro zz hSw; (try dsimp only at hSw); go_simp; (try with_reducible rfl))
    change wpAnyH _ _ _ _ _ _ _ (Act.put _ (some 31) _) _
    simp only [Act.put, List.setIfInBounds_toArray, List.set_cons_zero, List.set_cons_succ]
    refine wpAnyH_take (i := 2) (v := ?v2sr) rfl (by kernel_rfl) (by kernel_rfl) (by kernel_rfl) (fun _ _ _ h => h) (Or.inl ⟨by rfl, ?hy2sr⟩) (by assumption) ?rest2sr
    case hy2sr => (intro zz hSw; (try dsimp only at hSw); go_simp; (try with_reducible rfl))
    change wpAnyH _ _ _ _ _ _ _ (Act.put _ (some 32) _) _
    simp only [Act.put, List.setIfInBounds_toArray, List.set_cons_zero, List.set_cons_succ]
    refine wpAnyH_take (i := 3) (v := ?v3sr) rfl (by kernel_rfl) (by kernel_rfl) (by kernel_rfl) (fun _ _ _ h => h) (Or.inl ⟨by rfl, ?hy3sr⟩) (by assumption) ?rest3sr
    case hy3sr => (intro zz hSw; (try dsimp only at hSw); go_simp; (try with_reducible rfl))
    change wpAnyH _ _ _ _ _ _ _ (Act.put _ (some 33) _) _
    simp only [Act.put, List.setIfInBounds_toArray, List.set_cons_zero, List.set_cons_succ]
    refine wpAnyH_take (i := 4) (v := ?v4sr) rfl (by kernel_rfl) (by kernel_rfl) (by kernel_rfl) (fun _ _ _ h => h) (Or.inl ⟨by rfl, ?hy4sr⟩) (by assumption) ?rest4sr
    case hy4sr => (intro zz hSw; (try dsimp only at hSw); go_simp; (try with_reducible rfl))
    change wpAnyH _ _ _ _ _ _ _ (Act.put _ (some 34) _) _
    simp only [Act.put, List.setIfInBounds_toArray, List.set_cons_zero, List.set_cons_succ]
    refine wpAnyH_take (i := 5) (v := ?v5sr) rfl (by kernel_rfl) (by kernel_rfl) (by kernel_rfl) (fun _ _ _ h => h) (Or.inl ⟨by rfl, ?hy5sr⟩) (by assumption) ?rest5sr
    case hy5sr => (intro zz hSw; (try dsimp only at hSw); go_simp; (try with_reducible rfl))
    change wpAnyH _ _ _ _ _ _ _ (Act.put _ (some 35) _) _
    simp only [Act.put, List.setIfInBounds_toArray, List.set_cons_zero, List.set_cons_succ]
    refine wpAnyH_take (i := 6) (v := ?v6sr) rfl (by kernel_rfl) (by kernel_rfl) (by kernel_rfl) (fun _ _ _ h => h) (Or.inl ⟨by rfl, ?hy6sr⟩) (by assumption) ?rest6sr
    case hy6sr => (intro zz hSw; (try dsimp only at hSw); go_simp; (try with_reducible rfl))
    change wpAnyH _ _ _ _ _ _ _ (Act.put _ (some 36) _) _
    simp only [Act.put, List.setIfInBounds_toArray, List.set_cons_zero, List.set_cons_succ]
    refine wpAnyH_take (i := 7) (v := ?v7sr) rfl (by kernel_rfl) (by kernel_rfl) (by kernel_rfl) (fun _ _ _ h => h) (Or.inl ⟨by rfl, ?hy7sr⟩) (by assumption) ?rest7sr
    case hy7sr => (intro zz hSw; (try dsimp only at hSw); go_simp; (try with_reducible rfl))
    change wpAnyH _ _ _ _ _ _ _ (Act.put _ (some 37) _) _
    simp only [Act.put, List.setIfInBounds_toArray, List.set_cons_zero, List.set_cons_succ]
    refine wpAnyH_take (i := 8) (v := ?v8sr) rfl (by kernel_rfl) (by kernel_rfl) (by kernel_rfl) (fun _ _ _ h => h) (Or.inl ⟨by rfl, ?hy8sr⟩) (by assumption) ?rest8sr
    case hy8sr => (intro zz hSw; (try dsimp only at hSw); go_simp; (try with_reducible rfl))
    change wpAnyH _ _ _ _ _ _ _ (Act.put _ (some 38) _) _
    simp only [Act.put, List.setIfInBounds_toArray, List.set_cons_zero, List.set_cons_succ]
    refine wpAnyH_take (i := 9) (v := ?v9sr) rfl (by kernel_rfl) (by kernel_rfl) (by kernel_rfl) (fun _ _ _ h => h) (Or.inl ⟨by rfl, ?hy9sr⟩) (by assumption) ?rest9sr
    case hy9sr => (intro zz hSw; (try dsimp only at hSw); go_simp; (try with_reducible rfl))
    change wpAnyH _ _ _ _ _ _ _ (Act.put _ (some 39) _) _
    simp only [Act.put, List.setIfInBounds_toArray, List.set_cons_zero, List.set_cons_succ]
    refine wpAnyH_take (i := 10) (v := ?v10sr) rfl (by kernel_rfl) (by kernel_rfl) (by kernel_rfl) (fun _ _ _ h => h) (Or.inl ⟨by rfl, ?hy10sr⟩) (by assumption) ?rest10sr
    case hy10sr => (intro zz hSw; (try dsimp only at hSw); go_simp; (try with_reducible rfl))
    change wpAnyH _ _ _ _ _ _ _ (Act.put _ (some 40) _) _
    simp only [Act.put, List.setIfInBounds_toArray, List.set_cons_zero, List.set_cons_succ]
    refine wpAnyH_take (i := 11) (v := ?v11sr) rfl (by kernel_rfl) (by kernel_rfl) (by kernel_rfl) (fun _ _ _ h => h) (Or.inl ⟨by rfl, ?hy11sr⟩) (by assumption) ?rest11sr
    case hy11sr => (intro zz hSw; (try dsimp only at hSw); go_simp; (try with_reducible rfl))
    change wpAnyH _ _ _ _ _ _ _ (Act.put _ (some 41) _) _
    simp only [Act.put, List.setIfInBounds_toArray, List.set_cons_zero, List.set_cons_succ]
    refine wpAnyH_take (i := 12) (v := ?v12sr) rfl (by kernel_rfl) (by kernel_rfl) (by kernel_rfl) (fun _ _ _ h => h) (Or.inl ⟨by rfl, ?hy12sr⟩) (by assumption) ?rest12sr
    case hy12sr => (intro zz hSw; (try dsimp only at hSw); go_simp; (try with_reducible rfl))
    change wpAnyH _ _ _ _ _ _ _ (Act.put _ (some 42) _) _
    simp only [Act.put, List.setIfInBounds_toArray, List.set_cons_zero, List.set_cons_succ]
    refine wpAnyH_take (i := 13) (v := ?v13sr) rfl (by kernel_rfl) (by kernel_rfl) (by kernel_rfl) (fun _ _ _ h => h) (Or.inl ⟨by rfl, ?hy13sr⟩) (by assumption) ?rest13sr
    case hy13sr => (intro zz hSw; (try dsimp only at hSw); go_simp; (try with_reducible rfl))
    change wpAnyH _ _ _ _ _ _ _ (Act.put _ (some 43) _) _
    simp only [Act.put, List.setIfInBounds_toArray, List.set_cons_zero, List.set_cons_succ]
    refine wpAnyH_ready (rs := [14]) (by kernel_rfl) (by simp) (AllReadyH.cons rfl (fun K hK => ?_) (AllReadyH.nil))
    go_simp
    have bel := bel1 (w4.drew) (.cells #[.string ⟨#[]⟩, .string ⟨#[]⟩, .int .i64 0, .int .i64 0, .bool false] 38)
    refine hK.out _ _ (SOF.out _ (bel_tr hHeld.2.2.2.2 bel (Nat.le_refl _))) (fun hHeld => ?_)
    clear hK K bel
    refine wpAnyH_ready (rs := [15]) (by kernel_rfl) (by simp) (AllReadyH.cons rfl (fun K hK => ?_) (AllReadyH.nil))
    go_simp
    refine hK.out _ _ (SOF.out _ (bel_tr (Below.refl _ w4).drew (bel1 (w4.drew) _) (Nat.le_refl _))) (fun hHeld => ?_)
    clear hK K
    refine wpAnyH_done (by kernel_rfl) ?_ _
    have X5 : Bc w4.heap.size A B tv vv gn (w4.alloc (.cells #[.string A, .string B, .int .i64 tv, .int .i64 vv, .bool gn] 38)).drew := Bc.made A B tv vv gn w4 38
    have b5 : Below w4.heap.size w4 (w4.alloc (.cells #[.string A, .string B, .int .i64 tv, .int .i64 vv, .bool gn] 38)).drew := (bel1 w4 _).drew
    clear hHeld SOF
    have B5 := Lib.hid (bel_tr B4.out b5 (Nat.le_refl _)); clear b5
    generalize (w4.alloc (Obj.cells #[Value.string A, Value.string B, Value.int IntKind.i64 tv, Value.int IntKind.i64 vv, Value.bool gn] 38)).drew = w5 at X5 B5 ⊢
    generalize w4.heap.size = m at X5 ⊢
    clear hgn hg HF4 HF2 HF B4 B2 B1 HRT HRV
    have HX5 := Lib.hid X5; clear X5
    have zend : Zc q w5 := HZ.out.next B5.out
    have hmq : q < w5.heap.size := zend.2.2
    have HZ5 := Lib.hid zend; clear zend
    have BG := Lib.hid (bel_tr HB0.out B5.out (Nat.le_refl _))
    cases tb
    · have HV := Lib.hid (show rcV (spl 32 s.data.toList) = zeroV from HV)
      obtain ⟨⟨z0, z1, z2, z3, z4⟩, ⟨f0, f1, f2, f3, f4⟩, -⟩ := HZ5.out
      go_wp2_with fail
      refine bodyPost_ret (v := zeroV) (by simp [results, Tryz.results27, go_sem, z0, z1, z2, z3, z4, zeroV]) rfl ⟨by rw [HV.out], ?_⟩
      exact bel_set5 BG.out hqB _ _ _ _ _
    · cases vb
      · cases gn
        · have HV := Lib.hid (show rcV (spl 32 s.data.toList) = zeroV from HV)
          obtain ⟨x0, x1, x2, x3, x4, -⟩ := HX5.out
          obtain ⟨⟨z0, z1, z2, z3, z4⟩, ⟨f0, f1, f2, f3, f4⟩, -⟩ := HZ5.out
          go_wp2_with fail
          refine bodyPost_ret (v := zeroV) (by simp [results, Tryz.results27, go_sem, z0, z1, z2, z3, z4, zeroV]) rfl ⟨by rw [HV.out], ?_⟩
          exact bel_set5 BG.out hqB _ _ _ _ _
        · obtain ⟨x0, x1, x2, x3, x4, -⟩ := id HX5.out
          cases hc : cellB A B tv vv true
          · rw [hc] at HV
            have HV := Lib.hid (show rcV (spl 32 s.data.toList) = zeroV from HV)
            have HC := Lib.hid (fun w => specOk_is hc w HSZ.out.1 HSZ.out.2); clear hc
            go_wp2_with fail
            refine (HC.out _).mono ?_; rintro e w6 ⟨rfl, b6⟩
            obtain ⟨⟨z0, z1, z2, z3, z4⟩, ⟨f0, f1, f2, f3, f4⟩, -⟩ := HZ5.out.next b6
            have BH := Lib.hid (bel_tr BG.out b6 (Nat.le_refl _)); clear b6 x0 x1 x2 x3 x4
            go_wp2_with fail
            refine bodyPost_ret (v := zeroV) (by simp [results, Tryz.results27, go_sem, z0, z1, z2, z3, z4, zeroV]) rfl ⟨by rw [HV.out], ?_⟩
            exact bel_set5 BH.out hqB _ _ _ _ _
          · rw [hc] at HV
            have HV := Lib.hid (show rcV (spl 32 s.data.toList) = .tuple #[.agg #[.string A, .string B, .int .i64 tv, .int .i64 vv, .bool true], .bool true] from HV)
            have HC := Lib.hid (fun w => specOk_is hc w HSZ.out.1 HSZ.out.2); clear hc
            go_wp2_with fail
            refine (HC.out _).mono ?_; rintro e w6 ⟨rfl, b6⟩
            obtain ⟨⟨z0, z1, z2, z3, z4⟩, ⟨f0, f1, f2, f3, f4⟩, -⟩ := HZ5.out.next b6
            clear x0 x1 x2 x3 x4
            obtain ⟨x0, x1, x2, x3, x4, -⟩ := HX5.out.next b6
            have BH := Lib.hid (bel_tr BG.out b6 (Nat.le_refl _)); clear b6
            go_wp2_with fail
            refine bodyPost_ret (v := .tuple #[.agg #[.string A, .string B, .int .i64 tv, .int .i64 vv, .bool true], .bool true]) (by simp [results, Tryz.results27, go_sem, z0, z1, z2, z3, z4]) rfl ⟨by rw [HV.out], ?_⟩
            exact bel_set5 BH.out hqB _ _ _ _ _
      · obtain ⟨x0, x1, x2, x3, x4, -⟩ := id HX5.out
        cases hc : cellB A B tv vv gn
        · rw [hc] at HV
          have HV := Lib.hid (show rcV (spl 32 s.data.toList) = zeroV from HV)
          have HC := Lib.hid (fun w => specOk_is hc w HSZ.out.1 HSZ.out.2); clear hc
          go_wp2_with fail
          refine (HC.out _).mono ?_; rintro e w6 ⟨rfl, b6⟩
          obtain ⟨⟨z0, z1, z2, z3, z4⟩, ⟨f0, f1, f2, f3, f4⟩, -⟩ := HZ5.out.next b6
          have BH := Lib.hid (bel_tr BG.out b6 (Nat.le_refl _)); clear b6 x0 x1 x2 x3 x4
          go_wp2_with fail
          refine bodyPost_ret (v := zeroV) (by simp [results, Tryz.results27, go_sem, z0, z1, z2, z3, z4, zeroV]) rfl ⟨by rw [HV.out], ?_⟩
          exact bel_set5 BH.out hqB _ _ _ _ _
        · rw [hc] at HV
          have HV := Lib.hid (show rcV (spl 32 s.data.toList) = .tuple #[.agg #[.string A, .string B, .int .i64 tv, .int .i64 vv, .bool gn], .bool true] from HV)
          have HC := Lib.hid (fun w => specOk_is hc w HSZ.out.1 HSZ.out.2); clear hc
          go_wp2_with fail
          refine (HC.out _).mono ?_; rintro e w6 ⟨rfl, b6⟩
          obtain ⟨⟨z0, z1, z2, z3, z4⟩, ⟨f0, f1, f2, f3, f4⟩, -⟩ := HZ5.out.next b6
          clear x0 x1 x2 x3 x4
          obtain ⟨x0, x1, x2, x3, x4, -⟩ := HX5.out.next b6
          have BH := Lib.hid (bel_tr BG.out b6 (Nat.le_refl _)); clear b6
          go_wp2_with fail
          refine bodyPost_ret (v := .tuple #[.agg #[.string A, .string B, .int .i64 tv, .int .i64 vv, .bool gn], .bool true]) (by simp [results, Tryz.results27, go_sem, z0, z1, z2, z3, z4]) rfl ⟨by rw [HV.out], ?_⟩
          exact bel_set5 BH.out hqB _ _ _ _ _
set_option maxHeartbeats 8000000 in
theorem implReadC_any (s : ByteArray) (w : World) (hs : s.size ≤ 4194304) (hL : Lib3 w) (hM : LibM w) : Calls Tryz.prog 25 #[.string s] w (RcPost s w) := by
  have HL3 := Lib.hid hL; clear hL
  have HLM := Lib.hid hM; clear hM
  go_enter Tryz.func25, Tryz.ntmps25
  go_wp2_with fail
  have Z0 := Zc.made w 38
  have b0 := bel1 w (.cells #[.string ⟨#[]⟩, .string ⟨#[]⟩, .int .i64 0, .int .i64 0, .bool false] 38)
  generalize w.alloc (Obj.cells #[Value.string { data := #[] }, Value.string { data := #[] }, Value.int IntKind.i64 0, Value.int IntKind.i64 0, Value.bool false] 38) = w0 at Z0 b0 ⊢
  have HB0 := Lib.hid b0; clear b0
  have HZ := Lib.hid Z0; clear Z0
  generalize hq0 : w.heap.size = q at HZ ⊢
  have hqB : w.heap.size ≤ q := by omega
  clear hq0
  refine (implSplit_any s w0 hs (HLM.out.next HB0.out)).mono ?_; rintro e w1 ⟨g, n, cap, rfl, b1, hd⟩
  have B1 := Lib.hid b1; clear b1
  rcases hd with ⟨hn, hsp⟩ | ⟨rfl, pa, pb, pt, pv, hsp, hfo⟩
  · have HV := Lib.hid (rcV_no hsp); clear hsp
    have q1 : ((n : Int) != 4) = true := by simp; omega
    have q2 : ((n : Int) == 4) = false := by rw [beq_eq_false_iff_ne]; omega
    have q3 : ¬ n = 4 := hn
    obtain ⟨⟨z0, z1, z2, z3, z4⟩, ⟨f0, f1, f2, f3, f4⟩, -⟩ := HZ.out.next B1.out
    have BG := Lib.hid (bel_tr HB0.out B1.out (Nat.le_refl _)); clear hn
    go_wp2_with fail
    refine bodyPost_ret (v := zeroV) (by simp [results, Tryz.results25, go_sem, z0, z1, z2, z3, z4, zeroV]) rfl ⟨by rw [HV.out], ?_⟩
    exact bel_set5 BG.out hqB _ _ _ _ _
  · have HV : rcV (spl 32 s.data.toList) = if okR pa pb pt pv then cellV pa pb pt pv else zeroV := by rw [hsp]; rfl
    obtain ⟨l0, l1, l2, l3⟩ := piece_small hsp
    have HRT := Lib.hid (implRead_is pt (by omega))
    have HRV := Lib.hid (implRead_is pv (by omega))
    have HSZ := Lib.hid (show (tx pa).size ≤ 9223372036854775806 ∧ (tx pb).size ≤ 9223372036854775806 from ⟨by rw [tx_size]; omega, by rw [tx_size]; omega⟩)
    unfold okR cellV at HV
    have hgn : ((tx pv).toList == [45]) = gnB pv := rfl
    clear hsp l0 l1 l2 l3
    generalize tx pa = A at *
    generalize tx pb = B at *
    generalize tx pt = T at *
    generalize tx pv = V at *
    generalize rdV pt = tv at *
    generalize rdV pv = vv at *
    generalize rdB pt = tb at *
    generalize rdB pv = vb at *
    generalize gnB pv = gn at *
    have HF := Lib.hid hfo; clear hfo
    obtain ⟨y0, y1, y2, y3, hg1⟩ := id HF.out
    go_wp2_with fail
    refine (HRT.out _ (lib3_next HL3.out (bel_tr HB0.out B1.out (Nat.le_refl _)))).mono ?_; rintro e w2 ⟨rfl, b2⟩
    have B2 := Lib.hid (bel_tr B1.out b2 (Nat.le_refl _))
    have HF2 := Lib.hid (HF.out.next b2); clear b2 y0 y1 y2 y3 hg1
    obtain ⟨y0, y1, y2, y3, hg2⟩ := id HF2.out
    go_wp2_with fail
    refine (HRV.out _ (lib3_next HL3.out (bel_tr HB0.out B2.out (Nat.le_refl _)))).mono ?_; rintro e w4 ⟨rfl, b4⟩
    have B4 := Lib.hid (bel_tr B2.out b4 (Nat.le_refl _))
    have HF4 := Lib.hid (HF2.out.next b4); clear b4 y0 y1 y2 y3 hg2
    obtain ⟨y0, y1, y2, y3, hg⟩ := id HF4.out
    have SOF := Lib.hid (show ∀ z, Below w4.heap.size w4 z → (z.cell? ⟨g, 0, none⟩ = some (.string A) ∧ z.cell? ⟨g, 1, none⟩ = some (.string B) ∧ z.cell? ⟨g, 2, none⟩ = some (.string T) ∧ z.cell? ⟨g, 3, none⟩ = some (.string V) ∧ Below w4.heap.size w4 z) from fun z hz => ⟨coc hz hg y0, coc hz hg y1, coc hz hg y2, coc hz hg y3,  hz⟩)
    go_wp2_with fail
    clear y0 y1 y2 y3
    refine wp_region_held_drew (S := fun z => z.cell? ⟨g, 0, none⟩ = some (.string A) ∧ z.cell? ⟨g, 1, none⟩ = some (.string B) ∧ z.cell? ⟨g, 2, none⟩ = some (.string T) ∧ z.cell? ⟨g, 3, none⟩ = some (.string V) ∧ Below w4.heap.size w4 z) (by kernel_rfl) (SOF.out _ (Below.refl _ _).drew) (fun hHeld => ?_)
    refine wpAnyH_take (i := 0) (v := ?v0ir) rfl (by kernel_rfl) (by kernel_rfl) (by kernel_rfl) (fun _ _ _ h => h) (Or.inl ⟨by rfl, ?hy0ir⟩) (by assumption) ?rest0ir
    case hy0ir => (intro zz hSw; (try dsimp only at hSw); go_simp; (try with_reducible rfl))
    change wpAnyH _ _ _ _ _ _ _ (Act.put _ (some 35) _) _
    simp only [Act.put, List.setIfInBounds_toArray, List.set_cons_zero, List.set_cons_succ]
    refine wpAnyH_take (i := 1) (v := ?v1ir) rfl (by kernel_rfl) (by kernel_rfl) (by kernel_rfl) (fun _ _ _ h => h) (Or.inl ⟨by rfl, ?hy1ir⟩) (by assumption) ?rest1ir
    case hy1ir => (intro zz hSw; (try dsimp only at hSw); go_simp; (try with_reducible rfl))
    change wpAnyH _ _ _ _ _ _ _ (Act.put _ (some 36) _) _
    simp only [Act.put, List.setIfInBounds_toArray, List.set_cons_zero, List.set_cons_succ]
    refine wpAnyH_take (i := 2) (v := ?v2ir) rfl (by kernel_rfl) (by kernel_rfl) (by kernel_rfl) (fun _ _ _ h => h) (Or.inl ⟨by rfl, ?hy2ir⟩) (by assumption) ?rest2ir
    case hy2ir => (intro zz hSw; (try dsimp only at hSw); go_simp; (try with_reducible rfl))
    change wpAnyH _ _ _ _ _ _ _ (Act.put _ (some 37) _) _
    simp only [Act.put, List.setIfInBounds_toArray, List.set_cons_zero, List.set_cons_succ]
    refine wpAnyH_take (i := 3) (v := ?v3ir) rfl (by kernel_rfl) (by kernel_rfl) (by kernel_rfl) (fun _ _ _ h => h) (Or.inl ⟨by rfl, ?hy3ir⟩) (by assumption) ?rest3ir
    case hy3ir => (intro zz hSw; (try dsimp only at hSw); go_simp; (try with_reducible rfl))
    change wpAnyH _ _ _ _ _ _ _ (Act.put _ (some 38) _) _
    simp only [Act.put, List.setIfInBounds_toArray, List.set_cons_zero, List.set_cons_succ]
    refine wpAnyH_take (i := 4) (v := ?v4ir) rfl (by kernel_rfl) (by kernel_rfl) (by kernel_rfl) (fun _ _ _ h => h) (Or.inl ⟨by rfl, ?hy4ir⟩) (by assumption) ?rest4ir
    case hy4ir => (intro zz hSw; (try dsimp only at hSw); go_simp; (try with_reducible rfl))
    change wpAnyH _ _ _ _ _ _ _ (Act.put _ (some 39) _) _
    simp only [Act.put, List.setIfInBounds_toArray, List.set_cons_zero, List.set_cons_succ]
    refine wpAnyH_take (i := 5) (v := ?v5ir) rfl (by kernel_rfl) (by kernel_rfl) (by kernel_rfl) (fun _ _ _ h => h) (Or.inl ⟨by rfl, ?hy5ir⟩) (by assumption) ?rest5ir
    case hy5ir => (intro zz hSw; (try dsimp only at hSw); go_simp; (try with_reducible rfl))
    change wpAnyH _ _ _ _ _ _ _ (Act.put _ (some 40) _) _
    simp only [Act.put, List.setIfInBounds_toArray, List.set_cons_zero, List.set_cons_succ]
    refine wpAnyH_take (i := 6) (v := ?v6ir) rfl (by kernel_rfl) (by kernel_rfl) (by kernel_rfl) (fun _ _ _ h => h) (Or.inl ⟨by rfl, ?hy6ir⟩) (by assumption) ?rest6ir
    case hy6ir => (intro zz hSw; (try dsimp only at hSw); go_simp; (try with_reducible rfl))
    change wpAnyH _ _ _ _ _ _ _ (Act.put _ (some 41) _) _
    simp only [Act.put, List.setIfInBounds_toArray, List.set_cons_zero, List.set_cons_succ]
    refine wpAnyH_take (i := 7) (v := ?v7ir) rfl (by kernel_rfl) (by kernel_rfl) (by kernel_rfl) (fun _ _ _ h => h) (Or.inl ⟨by rfl, ?hy7ir⟩) (by assumption) ?rest7ir
    case hy7ir => (intro zz hSw; (try dsimp only at hSw); go_simp; (try with_reducible rfl))
    change wpAnyH _ _ _ _ _ _ _ (Act.put _ (some 42) _) _
    simp only [Act.put, List.setIfInBounds_toArray, List.set_cons_zero, List.set_cons_succ]
    refine wpAnyH_take (i := 8) (v := ?v8ir) rfl (by kernel_rfl) (by kernel_rfl) (by kernel_rfl) (fun _ _ _ h => h) (Or.inl ⟨by rfl, ?hy8ir⟩) (by assumption) ?rest8ir
    case hy8ir => (intro zz hSw; (try dsimp only at hSw); go_simp; (try with_reducible rfl))
    change wpAnyH _ _ _ _ _ _ _ (Act.put _ (some 43) _) _
    simp only [Act.put, List.setIfInBounds_toArray, List.set_cons_zero, List.set_cons_succ]
    refine wpAnyH_take (i := 9) (v := ?v9ir) rfl (by kernel_rfl) (by kernel_rfl) (by kernel_rfl) (fun _ _ _ h => h) (Or.inl ⟨by rfl, ?hy9ir⟩) (by assumption) ?rest9ir
    case hy9ir => (intro zz hSw; (try dsimp only at hSw); go_simp; (try with_reducible rfl))
    change wpAnyH _ _ _ _ _ _ _ (Act.put _ (some 44) _) _
    simp only [Act.put, List.setIfInBounds_toArray, List.set_cons_zero, List.set_cons_succ]
    refine wpAnyH_take (i := 10) (v := ?v10ir) rfl (by kernel_rfl) (by kernel_rfl) (by kernel_rfl) (fun _ _ _ h => h) (Or.inl ⟨by rfl, ?hy10ir⟩) (by assumption) ?rest10ir
    case hy10ir => (intro zz hSw; (try dsimp only at hSw); go_simp; (try with_reducible rfl))
    change wpAnyH _ _ _ _ _ _ _ (Act.put _ (some 45) _) _
    simp only [Act.put, List.setIfInBounds_toArray, List.set_cons_zero, List.set_cons_succ]
    refine wpAnyH_ready (rs := [11]) (by kernel_rfl) (by simp) (AllReadyH.cons rfl (fun K hK => ?_) (AllReadyH.nil))
    go_simp
    have bel := bel1 (w4.drew) (.cells #[.string ⟨#[]⟩, .string ⟨#[]⟩, .int .i64 0, .int .i64 0, .bool false] 38)
    refine hK.out _ _ (SOF.out _ (bel_tr hHeld.2.2.2.2 bel (Nat.le_refl _))) (fun hHeld => ?_)
    clear hK K bel
    refine wpAnyH_ready (rs := [12]) (by kernel_rfl) (by simp) (AllReadyH.cons rfl (fun K hK => ?_) (AllReadyH.nil))
    go_simp
    refine hK.out _ _ (SOF.out _ (bel_tr (Below.refl _ w4).drew (bel1 (w4.drew) _) (Nat.le_refl _))) (fun hHeld => ?_)
    clear hK K
    refine wpAnyH_done (by kernel_rfl) ?_ _
    have X5 : Bc w4.heap.size A B tv vv gn (w4.alloc (.cells #[.string A, .string B, .int .i64 tv, .int .i64 vv, .bool gn] 38)).drew := Bc.made A B tv vv gn w4 38
    have b5 : Below w4.heap.size w4 (w4.alloc (.cells #[.string A, .string B, .int .i64 tv, .int .i64 vv, .bool gn] 38)).drew := (bel1 w4 _).drew
    clear hHeld SOF
    have B5 := Lib.hid (bel_tr B4.out b5 (Nat.le_refl _)); clear b5
    generalize (w4.alloc (Obj.cells #[Value.string A, Value.string B, Value.int IntKind.i64 tv, Value.int IntKind.i64 vv, Value.bool gn] 38)).drew = w5 at X5 B5 ⊢
    generalize w4.heap.size = m at X5 ⊢
    clear hgn hg HF4 HF2 HF B4 B2 B1 HRT HRV
    have HX5 := Lib.hid X5; clear X5
    have zend : Zc q w5 := HZ.out.next B5.out
    have hmq : q < w5.heap.size := zend.2.2
    have HZ5 := Lib.hid zend; clear zend
    have BG := Lib.hid (bel_tr HB0.out B5.out (Nat.le_refl _))
    cases tb
    · have HV := Lib.hid (show rcV (spl 32 s.data.toList) = zeroV from HV)
      obtain ⟨⟨z0, z1, z2, z3, z4⟩, ⟨f0, f1, f2, f3, f4⟩, -⟩ := HZ5.out
      go_wp2_with fail
      refine bodyPost_ret (v := zeroV) (by simp [results, Tryz.results25, go_sem, z0, z1, z2, z3, z4, zeroV]) rfl ⟨by rw [HV.out], ?_⟩
      exact bel_set5 BG.out hqB _ _ _ _ _
    · cases vb
      · cases gn
        · have HV := Lib.hid (show rcV (spl 32 s.data.toList) = zeroV from HV)
          obtain ⟨x0, x1, x2, x3, x4, -⟩ := HX5.out
          obtain ⟨⟨z0, z1, z2, z3, z4⟩, ⟨f0, f1, f2, f3, f4⟩, -⟩ := HZ5.out
          go_wp2_with fail
          refine bodyPost_ret (v := zeroV) (by simp [results, Tryz.results25, go_sem, z0, z1, z2, z3, z4, zeroV]) rfl ⟨by rw [HV.out], ?_⟩
          exact bel_set5 BG.out hqB _ _ _ _ _
        · obtain ⟨x0, x1, x2, x3, x4, -⟩ := id HX5.out
          cases hc : cellB A B tv vv true
          · rw [hc] at HV
            have HV := Lib.hid (show rcV (spl 32 s.data.toList) = zeroV from HV)
            have HC := Lib.hid (implOk_is hc); clear hc
            go_wp2_with fail
            refine (HC.out _).mono ?_; rintro e w6 ⟨rfl, b6⟩
            obtain ⟨⟨z0, z1, z2, z3, z4⟩, ⟨f0, f1, f2, f3, f4⟩, -⟩ := HZ5.out.next b6
            have BH := Lib.hid (bel_tr BG.out b6 (Nat.le_refl _)); clear b6 x0 x1 x2 x3 x4
            go_wp2_with fail
            refine bodyPost_ret (v := zeroV) (by simp [results, Tryz.results25, go_sem, z0, z1, z2, z3, z4, zeroV]) rfl ⟨by rw [HV.out], ?_⟩
            exact bel_set5 BH.out hqB _ _ _ _ _
          · rw [hc] at HV
            have HV := Lib.hid (show rcV (spl 32 s.data.toList) = .tuple #[.agg #[.string A, .string B, .int .i64 tv, .int .i64 vv, .bool true], .bool true] from HV)
            have HC := Lib.hid (implOk_is hc); clear hc
            go_wp2_with fail
            refine (HC.out _).mono ?_; rintro e w6 ⟨rfl, b6⟩
            obtain ⟨⟨z0, z1, z2, z3, z4⟩, ⟨f0, f1, f2, f3, f4⟩, -⟩ := HZ5.out.next b6
            clear x0 x1 x2 x3 x4
            obtain ⟨x0, x1, x2, x3, x4, -⟩ := HX5.out.next b6
            have BH := Lib.hid (bel_tr BG.out b6 (Nat.le_refl _)); clear b6
            go_wp2_with fail
            refine bodyPost_ret (v := .tuple #[.agg #[.string A, .string B, .int .i64 tv, .int .i64 vv, .bool true], .bool true]) (by simp [results, Tryz.results25, go_sem, z0, z1, z2, z3, z4]) rfl ⟨by rw [HV.out], ?_⟩
            exact bel_set5 BH.out hqB _ _ _ _ _
      · obtain ⟨x0, x1, x2, x3, x4, -⟩ := id HX5.out
        cases hc : cellB A B tv vv gn
        · rw [hc] at HV
          have HV := Lib.hid (show rcV (spl 32 s.data.toList) = zeroV from HV)
          have HC := Lib.hid (implOk_is hc); clear hc
          go_wp2_with fail
          refine (HC.out _).mono ?_; rintro e w6 ⟨rfl, b6⟩
          obtain ⟨⟨z0, z1, z2, z3, z4⟩, ⟨f0, f1, f2, f3, f4⟩, -⟩ := HZ5.out.next b6
          have BH := Lib.hid (bel_tr BG.out b6 (Nat.le_refl _)); clear b6 x0 x1 x2 x3 x4
          go_wp2_with fail
          refine bodyPost_ret (v := zeroV) (by simp [results, Tryz.results25, go_sem, z0, z1, z2, z3, z4, zeroV]) rfl ⟨by rw [HV.out], ?_⟩
          exact bel_set5 BH.out hqB _ _ _ _ _
        · rw [hc] at HV
          have HV := Lib.hid (show rcV (spl 32 s.data.toList) = .tuple #[.agg #[.string A, .string B, .int .i64 tv, .int .i64 vv, .bool gn], .bool true] from HV)
          have HC := Lib.hid (implOk_is hc); clear hc
          go_wp2_with fail
          refine (HC.out _).mono ?_; rintro e w6 ⟨rfl, b6⟩
          obtain ⟨⟨z0, z1, z2, z3, z4⟩, ⟨f0, f1, f2, f3, f4⟩, -⟩ := HZ5.out.next b6
          clear x0 x1 x2 x3 x4
          obtain ⟨x0, x1, x2, x3, x4, -⟩ := HX5.out.next b6
          have BH := Lib.hid (bel_tr BG.out b6 (Nat.le_refl _)); clear b6
          go_wp2_with fail
          refine bodyPost_ret (v := .tuple #[.agg #[.string A, .string B, .int .i64 tv, .int .i64 vv, .bool gn], .bool true]) (by simp [results, Tryz.results25, go_sem, z0, z1, z2, z3, z4]) rfl ⟨by rw [HV.out], ?_⟩
          exact bel_set5 BH.out hqB _ _ _ _ _
end Go.Proofs.YtdalncgbbkeimaaGreatDoor.Cl
