/-
  The contract of spec.l4Put: the cell where it belongs ('putL'). (Made by gen_cj.py.)
-/
import Derived.Test.YtdalncgbbkeimaaGreatDoorCe
import Derived.Test.YtdalncgbbkeimaaGreatDoorCh
namespace Go.Proofs.YtdalncgbbkeimaaGreatDoor.Cl
open Go.RowKit Wd Rp Kp
set_option linter.unusedVariables false
theorem putL_at {l : List Cel} {c : Cel} {k : Nat} (h : cntP (fun d => d.ls c) l = k) {x : Bool} (hx : there l k c = x) : putL l c = l.take k ++ ([c] ++ l.drop (k + if x then 1 else 0)) := by
  unfold putL; rw [h, hx]; rfl
set_option maxHeartbeats 8000000 in
theorem l4Put_any (w : World) (a : Option Addr) (cap : Nat) (l : List Cel) (c : Cel) (hv : Vw w a cap l) (hl : l.length ≤ 4194304) :
    Calls Tryz.prog 41 #[.slice a l.length cap, .agg #[.string c.r, .string c.b, .int .i64 c.t, .int .i64 c.v, .bool c.g]] w fun e w' => ∃ v, e = .returned v ∧ OwC w.heap.size w' v (putL l c) ∧ Below w.heap.size w w' := by
  generalize hn : l.length = n at *
  go_enter Tryz.func41, Tryz.ntmps41
  go_wp2_with fail
  have X0 := Bc.made c.r c.b c.t c.v c.g w 38
  have b0 := bel1 w (.cells #[.string c.r, .string c.b, .int .i64 c.t, .int .i64 c.v, .bool c.g] 38)
  have hv0 := hv.below b0
  generalize w.alloc (Obj.cells #[Value.string c.r, Value.string c.b, Value.int IntKind.i64 c.t, Value.int IntKind.i64 c.v, Value.bool c.g] 38) = w0 at X0 b0 hv0 ⊢
  have HB0 := Lib.hid b0; clear b0 hv
  have HX := Lib.hid X0; clear X0
  have HV := Lib.hid hv0; clear hv0
  generalize hq0 : w.heap.size = q at HX ⊢
  go_loopw [5] (fun i wr => ∃ k : Nat, k ≤ n ∧ i = .int .i64 k ∧ (∀ m d, m < k → l[m]? = some d → d.ls c = true) ∧ Below w0.heap.size w0 wr) (fun i _ => n - intV i)
  case atStart => exact ⟨0, Nat.zero_le _, rfl, (fun m d hm => by omega), Below.refl _ _⟩
  case round =>
    obtain ⟨k, hk, rfl, hlo, hbel⟩ := hrel
    have HB := Lib.hid hbel; clear hbel
    have HLO := Lib.hid hlo; clear hlo
    have X1 := HX.out.next HB.out
    obtain ⟨x0, x1, x2, x3, x4, hq⟩ := X1
    have i0 : (0 : Int) ≤ (k : Int) := by omega
    by_cases hlt : k < n
    · obtain ⟨d, hd⟩ : ∃ d, l[k]? = some d := ⟨l[k], List.getElem?_eq_getElem (by omega)⟩
      obtain ⟨g, o, rfl, hg, h5⟩ := HV.out.2.2.2 k d hd
      obtain ⟨c0, c1, c2, c3, c4⟩ : At5 wr g (o + k * 5) d := h5.same (HB.out.block g hg)
      have hg' : g < wr.heap.size := Nat.lt_of_lt_of_le hg HB.out.size
      have HD := Lib.hid hd
      have i1 : (k : Int) < (n : Int) := by omega
      have i2 : decide ((k : Int) < (n : Int)) = true := decide_eq_true i1
      have SOF := Lib.hid (show ∀ z, Below wr.heap.size wr z → (z.cell? ⟨g, o + k * 5, none⟩ = some (.string d.r) ∧ z.cell? ⟨g, o + k * 5 + 1, none⟩ = some (.string d.b) ∧ z.cell? ⟨g, o + k * 5 + 2, none⟩ = some (.int .i64 d.t) ∧ z.cell? ⟨q, 0, none⟩ = some (.string c.r) ∧ z.cell? ⟨q, 1, none⟩ = some (.string c.b) ∧ z.cell? ⟨q, 2, none⟩ = some (.int .i64 c.t) ∧ z.cell? ⟨q, 3, none⟩ = some (.int .i64 c.v) ∧ z.cell? ⟨q, 4, none⟩ = some (.bool c.g) ∧ Below wr.heap.size wr z) from fun z hz => ⟨coc hz hg' c0, coc hz hg' c1, coc hz hg' c2, coc hz hq x0, coc hz hq x1, coc hz hq x2, coc hz hq x3, coc hz hq x4,  hz⟩)
      clear h5 hg hd c0 c1 c2 c3 c4 x0 x1 x2 x3 x4
      cases hls : d.ls c
      · have HL := Lib.hid (l2Less_is hls)
        have hcnt : cntP (fun d => d.ls c) l = k := cntP_eq (by omega) HLO.out (fun e he => by rw [HD.out] at he; cases he; exact hls)
        clear hls
        cases hke : d.ke c
        · have HPUT := Lib.hid (putL_at hcnt (x := false) (by unfold there; rw [HD.out]; exact hke))
          clear hcnt
          go_wp2_with fail
          refine wp_region_held_drew (S := fun z => z.cell? ⟨g, o + k * 5, none⟩ = some (.string d.r) ∧ z.cell? ⟨g, o + k * 5 + 1, none⟩ = some (.string d.b) ∧ z.cell? ⟨g, o + k * 5 + 2, none⟩ = some (.int .i64 d.t) ∧ z.cell? ⟨q, 0, none⟩ = some (.string c.r) ∧ z.cell? ⟨q, 1, none⟩ = some (.string c.b) ∧ z.cell? ⟨q, 2, none⟩ = some (.int .i64 c.t) ∧ z.cell? ⟨q, 3, none⟩ = some (.int .i64 c.v) ∧ z.cell? ⟨q, 4, none⟩ = some (.bool c.g) ∧ Below wr.heap.size wr z) (by kernel_rfl) (SOF.out _ (Below.refl _ _).drew) (fun hHeld => ?_)
          refine wpAnyH_take (i := 0) (v := ?v0a) rfl (by kernel_rfl) (by kernel_rfl) (by kernel_rfl) (fun _ _ _ h => h) (Or.inl ⟨by rfl, ?hy0a⟩) (by assumption) ?rest0a
          case hy0a => (intro zz hSw; (try dsimp only at hSw); go_simp; (try with_reducible rfl))
          change wpAnyH _ _ _ _ _ _ _ (Act.put _ (some 7) _) _
          simp only [Act.put, List.setIfInBounds_toArray, List.set_cons_zero, List.set_cons_succ]
          refine wpAnyH_take (i := 1) (v := ?v1a) rfl (by kernel_rfl) (by kernel_rfl) (by kernel_rfl) (fun _ _ _ h => h) (Or.inl ⟨by rfl, ?hy1a⟩) (by assumption) ?rest1a
          case hy1a => (intro zz hSw; (try dsimp only at hSw); go_simp; (try with_reducible rfl))
          change wpAnyH _ _ _ _ _ _ _ (Act.put _ (some 8) _) _
          simp only [Act.put, List.setIfInBounds_toArray, List.set_cons_zero, List.set_cons_succ]
          refine wpAnyH_take (i := 2) (v := ?v2a) rfl (by kernel_rfl) (by kernel_rfl) (by kernel_rfl) (fun _ _ _ h => h) (Or.inl ⟨by rfl, ?hy2a⟩) (by assumption) ?rest2a
          case hy2a => (intro zz hSw; (try dsimp only at hSw); go_simp; (try with_reducible rfl))
          change wpAnyH _ _ _ _ _ _ _ (Act.put _ (some 9) _) _
          simp only [Act.put, List.setIfInBounds_toArray, List.set_cons_zero, List.set_cons_succ]
          refine wpAnyH_take (i := 3) (v := ?v3a) rfl (by kernel_rfl) (by kernel_rfl) (by kernel_rfl) (fun _ _ _ h => h) (Or.inl ⟨by rfl, ?hy3a⟩) (by assumption) ?rest3a
          case hy3a => (intro zz hSw; (try dsimp only at hSw); go_simp; (try with_reducible rfl))
          change wpAnyH _ _ _ _ _ _ _ (Act.put _ (some 10) _) _
          simp only [Act.put, List.setIfInBounds_toArray, List.set_cons_zero, List.set_cons_succ]
          refine wpAnyH_take (i := 4) (v := ?v4a) rfl (by kernel_rfl) (by kernel_rfl) (by kernel_rfl) (fun _ _ _ h => h) (Or.inl ⟨by rfl, ?hy4a⟩) (by assumption) ?rest4a
          case hy4a => (intro zz hSw; (try dsimp only at hSw); go_simp; (try with_reducible rfl))
          change wpAnyH _ _ _ _ _ _ _ (Act.put _ (some 11) _) _
          simp only [Act.put, List.setIfInBounds_toArray, List.set_cons_zero, List.set_cons_succ]
          refine wpAnyH_take (i := 5) (v := ?v5a) rfl (by kernel_rfl) (by kernel_rfl) (by kernel_rfl) (fun _ _ _ h => h) (Or.inl ⟨by rfl, ?hy5a⟩) (by assumption) ?rest5a
          case hy5a => (intro zz hSw; (try dsimp only at hSw); go_simp; (try with_reducible rfl))
          change wpAnyH _ _ _ _ _ _ _ (Act.put _ (some 12) _) _
          simp only [Act.put, List.setIfInBounds_toArray, List.set_cons_zero, List.set_cons_succ]
          refine wpAnyH_take (i := 6) (v := ?v6a) rfl (by kernel_rfl) (by kernel_rfl) (by kernel_rfl) (fun _ _ _ h => h) (Or.inl ⟨by rfl, ?hy6a⟩) (by assumption) ?rest6a
          case hy6a => (intro zz hSw; (try dsimp only at hSw); go_simp; (try with_reducible rfl))
          change wpAnyH _ _ _ _ _ _ _ (Act.put _ (some 13) _) _
          simp only [Act.put, List.setIfInBounds_toArray, List.set_cons_zero, List.set_cons_succ]
          refine wpAnyH_take (i := 7) (v := ?v7a) rfl (by kernel_rfl) (by kernel_rfl) (by kernel_rfl) (fun _ _ _ h => h) (Or.inl ⟨by rfl, ?hy7a⟩) (by assumption) ?rest7a
          case hy7a => (intro zz hSw; (try dsimp only at hSw); go_simp; (try with_reducible rfl))
          change wpAnyH _ _ _ _ _ _ _ (Act.put _ (some 14) _) _
          simp only [Act.put, List.setIfInBounds_toArray, List.set_cons_zero, List.set_cons_succ]
          refine wpAnyH_take (i := 8) (v := ?v8a) rfl (by kernel_rfl) (by kernel_rfl) (by kernel_rfl) (fun _ _ _ h => h) (Or.inl ⟨by rfl, ?hy8a⟩) (by assumption) ?rest8a
          case hy8a => (intro zz hSw; (try dsimp only at hSw); go_simp; (try with_reducible rfl))
          change wpAnyH _ _ _ _ _ _ _ (Act.put _ (some 15) _) _
          simp only [Act.put, List.setIfInBounds_toArray, List.set_cons_zero, List.set_cons_succ]
          refine wpAnyH_take (i := 9) (v := ?v9a) rfl (by kernel_rfl) (by kernel_rfl) (by kernel_rfl) (fun _ _ _ h => h) (Or.inl ⟨by rfl, ?hy9a⟩) (by assumption) ?rest9a
          case hy9a => (intro zz hSw; (try dsimp only at hSw); go_simp; (try with_reducible rfl))
          change wpAnyH _ _ _ _ _ _ _ (Act.put _ (some 16) _) _
          simp only [Act.put, List.setIfInBounds_toArray, List.set_cons_zero, List.set_cons_succ]
          refine wpAnyH_take (i := 10) (v := ?v10a) rfl (by kernel_rfl) (by kernel_rfl) (by kernel_rfl) (fun _ _ _ h => h) (Or.inl ⟨by rfl, ?hy10a⟩) (by assumption) ?rest10a
          case hy10a => (intro zz hSw; (try dsimp only at hSw); go_simp; (try with_reducible rfl))
          change wpAnyH _ _ _ _ _ _ _ (Act.put _ (some 17) _) _
          simp only [Act.put, List.setIfInBounds_toArray, List.set_cons_zero, List.set_cons_succ]
          refine wpAnyH_take (i := 11) (v := ?v11a) rfl (by kernel_rfl) (by kernel_rfl) (by kernel_rfl) (fun _ _ _ h => h) (Or.inl ⟨by rfl, ?hy11a⟩) (by assumption) ?rest11a
          case hy11a => (intro zz hSw; (try dsimp only at hSw); go_simp; (try with_reducible rfl))
          change wpAnyH _ _ _ _ _ _ _ (Act.put _ (some 18) _) _
          simp only [Act.put, List.setIfInBounds_toArray, List.set_cons_zero, List.set_cons_succ]
          refine wpAnyH_ready (rs := [12]) (by kernel_rfl) (by simp) (AllReadyH.cons rfl (fun K hK => ?_) AllReadyH.nil)
          go_simp
          refine (HL.out _).mono ?_; rintro e w' ⟨rfl, bel⟩
          refine hK.out _ _ (SOF.out _ (bel_tr hHeld.2.2.2.2.2.2.2.2 bel (Nat.le_refl _))) (fun hHeld => ?_)
          clear hK K bel
          refine wpAnyH_take (i := 13) (v := ?v13a) rfl (by kernel_rfl) (by kernel_rfl) (by kernel_rfl) (fun _ _ _ h => h) (Or.inl ⟨by rfl, ?hy13a⟩) (by assumption) ?rest13a
          case hy13a => (intro zz hSw; (try dsimp only at hSw); go_simp; (try with_reducible rfl))
          change wpAnyH _ _ _ _ _ _ _ (Act.put _ (some 20) _) _
          simp only [Act.put, List.setIfInBounds_toArray, List.set_cons_zero, List.set_cons_succ]
          refine wpAnyH_done (by kernel_rfl) ?_ _
          have BZ := Lib.hid (bel_tr HB.out hHeld.2.2.2.2.2.2.2.2 (Nat.le_refl _)); clear hHeld SOF HL
          obtain ⟨b, cb, hrun, hvw⟩ := cut_from (some ⟨g, o, none⟩) n cap k (by omega)
          have HVW := Lib.hid (fun w h => hvw w l h hn); clear hvw
          have HLD := Lib.hid (show (l.drop k).length = n - k by rw [List.length_drop, hn])
          generalize hN : n - k = N at *
          go_wp2_with fail
          refine (l4Copy_any _ b cb (l.drop k) N HLD.out (HVW.out _ (HV.out.below BZ.out)) (by omega)).mono ?_; rintro e w2 ⟨v2, rfl, o2, b2⟩
          have X2 := HX.out.next (bel_tr BZ.out b2 (Nat.le_refl _))
          have B2 := Lib.hid (bel_tr BZ.out b2 (Nat.le_refl _)); clear b2 hrun
          obtain ⟨a2, cap2, rfl, v2w, a2f⟩ := o2.view
          obtain ⟨x0, x1, x2, x3, x4, hq2⟩ := id X2
          have HX2 := Lib.hid X2; clear X2 o2
          rw [HLD.out] at a2f ⊢
          obtain ⟨g2, rfl, -, -⟩ := a2f 0 (by omega)
          have hd0 : (l.drop k)[0]? = some d := by rw [List.getElem?_drop, Nat.add_zero]; exact HD.out
          obtain ⟨g3, o3, e3, -, c0, c1, c2, -, -⟩ := v2w.2.2.2 0 d hd0
          cases e3
          simp only [Nat.zero_mul, Nat.zero_add, Nat.add_zero] at c0 c1 c2
          have HW2 := Lib.hid v2w; clear v2w a2f hd0 x3 x4 hq2
          have j0 : (0 : Int) < (N : Int) := by omega
          have j1 : decide ((0 : Int) < (N : Int)) = true := decide_eq_true j0
          have j2 : 0 < N := by omega
          have j3 : decide (0 < N) = true := decide_eq_true j2
          have heq := keyEq_of hke
          go_wp2_with fail
          go_quiet (fail)
          clear heq c0 c1 c2
          have HW3 := Lib.hid HW2.out
          clear x0 x1 x2
          obtain ⟨hrun4, hvw4⟩ := cut_to (some ⟨g, o, none⟩) n cap k (by omega) (by rw [← hn]; exact HV.out.1) HV.out.2.2.1
          have HVT := Lib.hid (fun w h => hvw4 w l h hn); clear hvw4
          go_wp2_with fail
          have HW3' := Lib.hid (show Vw (w2.drewN nq) _ _ _ from HW3.out)
          have HX3 := Lib.hid (show Bc q c.r c.b c.t c.v c.g (w2.drewN nq) from HX2.out)
          have B3 := Lib.hid (show Below w0.heap.size w0 (w2.drewN nq) from bel_drewN B2.out _)
          clear HW3 HX2 B2
          generalize w2.drewN nq = w3 at HW3' HX3 B3 ⊢
          obtain ⟨x0, x1, x2, x3, x4, hq3⟩ := id HX3.out
          have SOG := Lib.hid (show ∀ z, Below w3.heap.size w3 z → (z.cell? ⟨q, 0, none⟩ = some (.string c.r) ∧ z.cell? ⟨q, 1, none⟩ = some (.string c.b) ∧ z.cell? ⟨q, 2, none⟩ = some (.int .i64 c.t) ∧ z.cell? ⟨q, 3, none⟩ = some (.int .i64 c.v) ∧ z.cell? ⟨q, 4, none⟩ = some (.bool c.g) ∧ Below w3.heap.size w3 z) from fun z hz => ⟨coc hz hq3 x0, coc hz hq3 x1, coc hz hq3 x2, coc hz hq3 x3, coc hz hq3 x4,  hz⟩)
          clear x0 x1 x2 x3 x4
          have hl3 : (l.take k).length ≤ 4194304 := by rw [List.length_take]; omega
          have HRN := Lib.hid (show (l.drop k).length = N by rw [List.length_drop]; omega)
          refine wp_region_held_drew (S := fun z => z.cell? ⟨q, 0, none⟩ = some (.string c.r) ∧ z.cell? ⟨q, 1, none⟩ = some (.string c.b) ∧ z.cell? ⟨q, 2, none⟩ = some (.int .i64 c.t) ∧ z.cell? ⟨q, 3, none⟩ = some (.int .i64 c.v) ∧ z.cell? ⟨q, 4, none⟩ = some (.bool c.g) ∧ Below w3.heap.size w3 z) (by kernel_rfl) (SOG.out _ (Below.refl _ _).drew) (fun hHeld => ?_)
          refine wpAnyH_take (i := 0) (v := ?v0e) rfl (by kernel_rfl) (by kernel_rfl) (by kernel_rfl) (fun _ _ _ h => h) (Or.inl ⟨by rfl, ?hy0e⟩) (by assumption) ?rest0e
          case hy0e => (intro zz hSw; (try dsimp only at hSw); go_simp; (try with_reducible rfl))
          change wpAnyH _ _ _ _ _ _ _ (Act.put _ (some 41) _) _
          simp only [Act.put, List.setIfInBounds_toArray, List.set_cons_zero, List.set_cons_succ]
          refine wpAnyH_take (i := 1) (v := ?v1e) rfl (by kernel_rfl) (by kernel_rfl) (by kernel_rfl) (fun _ _ _ h => h) (Or.inl ⟨by rfl, ?hy1e⟩) (by assumption) ?rest1e
          case hy1e => (intro zz hSw; (try dsimp only at hSw); go_simp; (try with_reducible rfl))
          change wpAnyH _ _ _ _ _ _ _ (Act.put _ (some 42) _) _
          simp only [Act.put, List.setIfInBounds_toArray, List.set_cons_zero, List.set_cons_succ]
          refine wpAnyH_take (i := 2) (v := ?v2e) rfl (by kernel_rfl) (by kernel_rfl) (by kernel_rfl) (fun _ _ _ h => h) (Or.inl ⟨by rfl, ?hy2e⟩) (by assumption) ?rest2e
          case hy2e => (intro zz hSw; (try dsimp only at hSw); go_simp; (try with_reducible rfl))
          change wpAnyH _ _ _ _ _ _ _ (Act.put _ (some 43) _) _
          simp only [Act.put, List.setIfInBounds_toArray, List.set_cons_zero, List.set_cons_succ]
          refine wpAnyH_take (i := 4) (v := ?v4e) rfl (by kernel_rfl) (by kernel_rfl) (by kernel_rfl) (fun _ _ _ h => h) (Or.inl ⟨by rfl, ?hy4e⟩) (by assumption) ?rest4e
          case hy4e => (intro zz hSw; (try dsimp only at hSw); go_simp; (try with_reducible rfl))
          change wpAnyH _ _ _ _ _ _ _ (Act.put _ (some 45) _) _
          simp only [Act.put, List.setIfInBounds_toArray, List.set_cons_zero, List.set_cons_succ]
          refine wpAnyH_take (i := 7) (v := ?v7e) rfl (by kernel_rfl) (by kernel_rfl) (by kernel_rfl) (fun _ _ _ h => h) (Or.inl ⟨by rfl, ?hy7e⟩) (by assumption) ?rest7e
          case hy7e => (intro zz hSw; (try dsimp only at hSw); go_simp; (try with_reducible rfl))
          change wpAnyH _ _ _ _ _ _ _ (Act.put _ (some 48) _) _
          simp only [Act.put, List.setIfInBounds_toArray, List.set_cons_zero, List.set_cons_succ]
          refine wpAnyH_ready (rs := [3, 5]) (by kernel_rfl) (by simp) (AllReadyH.cons rfl (fun K hK => ?_) (AllReadyH.cons rfl (fun K hK => ?_) (AllReadyH.nil)))
          · skip
            go_simp
            refine (l4Copy_any _ (some ⟨g, o, none⟩) cap (l.take k) k (by rw [List.length_take]; omega) (HVT.out _ (HV.out.below (bel_tr B3.out hHeld.2.2.2.2.2 (Nat.le_refl _)))) (by omega)).mono ?_; rintro e w4 ⟨v4, rfl, o4, bel⟩
            have O4 := Lib.hid (o4.mono hHeld.2.2.2.2.2.size); clear o4
            refine hK.out _ _ (SOG.out _ (bel_tr hHeld.2.2.2.2.2 bel (Nat.le_refl _))) (fun hHeld => ?_)
            clear hK K bel
            refine wpAnyH_ready (rs := [5]) (by kernel_rfl) (by simp) (AllReadyH.cons rfl (fun K hK => ?_) (AllReadyH.nil))
            go_simp
            have VL := Lib.hid (Vw.lit w4 c)
            have bel := bel1 w4 (.cells #[.string c.r, .string c.b, .int .i64 c.t, .int .i64 c.v, .bool c.g] 38)
            have O4 := Lib.hid (O4.out.next bel)
            refine hK.out _ _ (SOG.out _ (bel_tr hHeld.2.2.2.2.2 bel (Nat.le_refl _))) (fun hHeld => ?_)
            clear hK K bel
            refine wpAnyH_ready (rs := [6]) (by kernel_rfl) (by simp) (AllReadyH.cons rfl (fun K hK => ?_) (AllReadyH.nil))
            refine step_append_cells rfl (.tmp 44) (.tmp 46) rfl (base := w3.heap.size) (l := l.take k) (m := [c]) rfl rfl rfl O4.out VL.out (by simp; omega) hHeld.2.2.2.2.2.size ?_
            intro v6 w6 o6 g6
            have B6 : Below w3.heap.size w3 w6 := hHeld.2.2.2.2.2.grown g6 hHeld.2.2.2.2.2.size (fun j hj => OwC.lt O4.out j hj)
            refine hK.out _ _ (SOG.out _ B6) (fun hHeld => ?_)
            have O6 := Lib.hid o6; clear hK K B6 o6 g6 O4 VL
            change wpAnyH _ _ _ _ _ _ _ (Act.put _ (some 47) _) _
            simp only [Act.put, List.setIfInBounds_toArray, List.set_cons_zero, List.set_cons_succ]
            refine wpAnyH_ready (rs := [8]) (by kernel_rfl) (by simp) (AllReadyH.cons rfl (fun K hK => ?_) (AllReadyH.nil))
            refine step_append_cells rfl (.tmp 47) (.tmp 48) rfl (base := w3.heap.size) (l := l.take k ++ [c]) (m := l.drop k) rfl rfl HRN.out O6.out (HW3'.out.below hHeld.2.2.2.2.2) (by rw [List.length_append, HRN.out, List.length_singleton, List.length_take]; omega) hHeld.2.2.2.2.2.size ?_
            intro v8 w8 o8 g8
            have B8 : Below w3.heap.size w3 w8 := hHeld.2.2.2.2.2.grown g8 hHeld.2.2.2.2.2.size (fun j hj => OwC.lt O6.out j hj)
            refine hK.out _ _ (SOG.out _ B8) (fun hHeld => ?_)
            have O8 := Lib.hid o8; clear hK K B8 o8 g8 O6
            change wpAnyH _ _ _ _ _ _ _ (Act.put _ (some 49) _) _
            simp only [Act.put, List.setIfInBounds_toArray, List.set_cons_zero, List.set_cons_succ]
            refine wpAnyH_take (i := 9) (v := ?v9ex) rfl (by kernel_rfl) (by kernel_rfl) (by kernel_rfl) (fun _ _ _ h => h) (Or.inl ⟨by rfl, ?hy9ex⟩) (by assumption) ?rest9ex
            case hy9ex => (intro zz hSw; (try dsimp only at hSw); go_simp; (try with_reducible rfl))
            change wpAnyH _ _ _ _ _ _ _ (Act.put _ (some 4) _) _
            simp only [Act.put, List.setIfInBounds_toArray, List.set_cons_zero, List.set_cons_succ]
            refine wpAnyH_done (by kernel_rfl) ?_ _
            have HG := Lib.hid (bel_tr HB0.out (bel_tr B3.out hHeld.2.2.2.2.2 (Nat.le_refl _)) (Nat.le_refl _)); clear hHeld
            go_wp2_with fail
            go_ret
            refine ⟨_, rfl, ?_, HG.out⟩
            rw [HPUT.out]
            have := O8.out.mono (C := w.heap.size) (Nat.le_trans HB0.out.size B3.out.size)
            rwa [List.append_assoc] at this
          · skip
            go_simp
            have VL := Lib.hid (Vw.lit (w3.drew) c)
            have bel := bel1 (w3.drew) (.cells #[.string c.r, .string c.b, .int .i64 c.t, .int .i64 c.v, .bool c.g] 38)
            refine hK.out _ _ (SOG.out _ (bel_tr hHeld.2.2.2.2.2 bel (Nat.le_refl _))) (fun hHeld => ?_)
            clear hK K bel
            refine wpAnyH_ready (rs := [3]) (by kernel_rfl) (by simp) (AllReadyH.cons rfl (fun K hK => ?_) (AllReadyH.nil))
            go_simp
            refine (l4Copy_any _ (some ⟨g, o, none⟩) cap (l.take k) k (by rw [List.length_take]; omega) (HVT.out _ (HV.out.below (bel_tr B3.out hHeld.2.2.2.2.2 (Nat.le_refl _)))) (by omega)).mono ?_; rintro e w4 ⟨v4, rfl, o4, bel⟩
            have O4 := Lib.hid (o4.mono hHeld.2.2.2.2.2.size); clear o4
            have VL := Lib.hid (VL.out.below bel)
            refine hK.out _ _ (SOG.out _ (bel_tr hHeld.2.2.2.2.2 bel (Nat.le_refl _))) (fun hHeld => ?_)
            clear hK K bel
            refine wpAnyH_ready (rs := [6]) (by kernel_rfl) (by simp) (AllReadyH.cons rfl (fun K hK => ?_) (AllReadyH.nil))
            refine step_append_cells rfl (.tmp 44) (.tmp 46) rfl (base := w3.heap.size) (l := l.take k) (m := [c]) rfl rfl rfl O4.out VL.out (by simp; omega) hHeld.2.2.2.2.2.size ?_
            intro v6 w6 o6 g6
            have B6 : Below w3.heap.size w3 w6 := hHeld.2.2.2.2.2.grown g6 hHeld.2.2.2.2.2.size (fun j hj => OwC.lt O4.out j hj)
            refine hK.out _ _ (SOG.out _ B6) (fun hHeld => ?_)
            have O6 := Lib.hid o6; clear hK K B6 o6 g6 O4 VL
            change wpAnyH _ _ _ _ _ _ _ (Act.put _ (some 47) _) _
            simp only [Act.put, List.setIfInBounds_toArray, List.set_cons_zero, List.set_cons_succ]
            refine wpAnyH_ready (rs := [8]) (by kernel_rfl) (by simp) (AllReadyH.cons rfl (fun K hK => ?_) (AllReadyH.nil))
            refine step_append_cells rfl (.tmp 47) (.tmp 48) rfl (base := w3.heap.size) (l := l.take k ++ [c]) (m := l.drop k) rfl rfl HRN.out O6.out (HW3'.out.below hHeld.2.2.2.2.2) (by rw [List.length_append, HRN.out, List.length_singleton, List.length_take]; omega) hHeld.2.2.2.2.2.size ?_
            intro v8 w8 o8 g8
            have B8 : Below w3.heap.size w3 w8 := hHeld.2.2.2.2.2.grown g8 hHeld.2.2.2.2.2.size (fun j hj => OwC.lt O6.out j hj)
            refine hK.out _ _ (SOG.out _ B8) (fun hHeld => ?_)
            have O8 := Lib.hid o8; clear hK K B8 o8 g8 O6
            change wpAnyH _ _ _ _ _ _ _ (Act.put _ (some 49) _) _
            simp only [Act.put, List.setIfInBounds_toArray, List.set_cons_zero, List.set_cons_succ]
            refine wpAnyH_take (i := 9) (v := ?v9ey) rfl (by kernel_rfl) (by kernel_rfl) (by kernel_rfl) (fun _ _ _ h => h) (Or.inl ⟨by rfl, ?hy9ey⟩) (by assumption) ?rest9ey
            case hy9ey => (intro zz hSw; (try dsimp only at hSw); go_simp; (try with_reducible rfl))
            change wpAnyH _ _ _ _ _ _ _ (Act.put _ (some 4) _) _
            simp only [Act.put, List.setIfInBounds_toArray, List.set_cons_zero, List.set_cons_succ]
            refine wpAnyH_done (by kernel_rfl) ?_ _
            have HG := Lib.hid (bel_tr HB0.out (bel_tr B3.out hHeld.2.2.2.2.2 (Nat.le_refl _)) (Nat.le_refl _)); clear hHeld
            go_wp2_with fail
            go_ret
            refine ⟨_, rfl, ?_, HG.out⟩
            rw [HPUT.out]
            have := O8.out.mono (C := w.heap.size) (Nat.le_trans HB0.out.size B3.out.size)
            rwa [List.append_assoc] at this
        · have HPUT := Lib.hid (putL_at hcnt (x := true) (by unfold there; rw [HD.out]; exact hke))
          clear hcnt
          go_wp2_with fail
          refine wp_region_held_drew (S := fun z => z.cell? ⟨g, o + k * 5, none⟩ = some (.string d.r) ∧ z.cell? ⟨g, o + k * 5 + 1, none⟩ = some (.string d.b) ∧ z.cell? ⟨g, o + k * 5 + 2, none⟩ = some (.int .i64 d.t) ∧ z.cell? ⟨q, 0, none⟩ = some (.string c.r) ∧ z.cell? ⟨q, 1, none⟩ = some (.string c.b) ∧ z.cell? ⟨q, 2, none⟩ = some (.int .i64 c.t) ∧ z.cell? ⟨q, 3, none⟩ = some (.int .i64 c.v) ∧ z.cell? ⟨q, 4, none⟩ = some (.bool c.g) ∧ Below wr.heap.size wr z) (by kernel_rfl) (SOF.out _ (Below.refl _ _).drew) (fun hHeld => ?_)
          refine wpAnyH_take (i := 0) (v := ?v0b) rfl (by kernel_rfl) (by kernel_rfl) (by kernel_rfl) (fun _ _ _ h => h) (Or.inl ⟨by rfl, ?hy0b⟩) (by assumption) ?rest0b
          case hy0b => (intro zz hSw; (try dsimp only at hSw); go_simp; (try with_reducible rfl))
          change wpAnyH _ _ _ _ _ _ _ (Act.put _ (some 7) _) _
          simp only [Act.put, List.setIfInBounds_toArray, List.set_cons_zero, List.set_cons_succ]
          refine wpAnyH_take (i := 1) (v := ?v1b) rfl (by kernel_rfl) (by kernel_rfl) (by kernel_rfl) (fun _ _ _ h => h) (Or.inl ⟨by rfl, ?hy1b⟩) (by assumption) ?rest1b
          case hy1b => (intro zz hSw; (try dsimp only at hSw); go_simp; (try with_reducible rfl))
          change wpAnyH _ _ _ _ _ _ _ (Act.put _ (some 8) _) _
          simp only [Act.put, List.setIfInBounds_toArray, List.set_cons_zero, List.set_cons_succ]
          refine wpAnyH_take (i := 2) (v := ?v2b) rfl (by kernel_rfl) (by kernel_rfl) (by kernel_rfl) (fun _ _ _ h => h) (Or.inl ⟨by rfl, ?hy2b⟩) (by assumption) ?rest2b
          case hy2b => (intro zz hSw; (try dsimp only at hSw); go_simp; (try with_reducible rfl))
          change wpAnyH _ _ _ _ _ _ _ (Act.put _ (some 9) _) _
          simp only [Act.put, List.setIfInBounds_toArray, List.set_cons_zero, List.set_cons_succ]
          refine wpAnyH_take (i := 3) (v := ?v3b) rfl (by kernel_rfl) (by kernel_rfl) (by kernel_rfl) (fun _ _ _ h => h) (Or.inl ⟨by rfl, ?hy3b⟩) (by assumption) ?rest3b
          case hy3b => (intro zz hSw; (try dsimp only at hSw); go_simp; (try with_reducible rfl))
          change wpAnyH _ _ _ _ _ _ _ (Act.put _ (some 10) _) _
          simp only [Act.put, List.setIfInBounds_toArray, List.set_cons_zero, List.set_cons_succ]
          refine wpAnyH_take (i := 4) (v := ?v4b) rfl (by kernel_rfl) (by kernel_rfl) (by kernel_rfl) (fun _ _ _ h => h) (Or.inl ⟨by rfl, ?hy4b⟩) (by assumption) ?rest4b
          case hy4b => (intro zz hSw; (try dsimp only at hSw); go_simp; (try with_reducible rfl))
          change wpAnyH _ _ _ _ _ _ _ (Act.put _ (some 11) _) _
          simp only [Act.put, List.setIfInBounds_toArray, List.set_cons_zero, List.set_cons_succ]
          refine wpAnyH_take (i := 5) (v := ?v5b) rfl (by kernel_rfl) (by kernel_rfl) (by kernel_rfl) (fun _ _ _ h => h) (Or.inl ⟨by rfl, ?hy5b⟩) (by assumption) ?rest5b
          case hy5b => (intro zz hSw; (try dsimp only at hSw); go_simp; (try with_reducible rfl))
          change wpAnyH _ _ _ _ _ _ _ (Act.put _ (some 12) _) _
          simp only [Act.put, List.setIfInBounds_toArray, List.set_cons_zero, List.set_cons_succ]
          refine wpAnyH_take (i := 6) (v := ?v6b) rfl (by kernel_rfl) (by kernel_rfl) (by kernel_rfl) (fun _ _ _ h => h) (Or.inl ⟨by rfl, ?hy6b⟩) (by assumption) ?rest6b
          case hy6b => (intro zz hSw; (try dsimp only at hSw); go_simp; (try with_reducible rfl))
          change wpAnyH _ _ _ _ _ _ _ (Act.put _ (some 13) _) _
          simp only [Act.put, List.setIfInBounds_toArray, List.set_cons_zero, List.set_cons_succ]
          refine wpAnyH_take (i := 7) (v := ?v7b) rfl (by kernel_rfl) (by kernel_rfl) (by kernel_rfl) (fun _ _ _ h => h) (Or.inl ⟨by rfl, ?hy7b⟩) (by assumption) ?rest7b
          case hy7b => (intro zz hSw; (try dsimp only at hSw); go_simp; (try with_reducible rfl))
          change wpAnyH _ _ _ _ _ _ _ (Act.put _ (some 14) _) _
          simp only [Act.put, List.setIfInBounds_toArray, List.set_cons_zero, List.set_cons_succ]
          refine wpAnyH_take (i := 8) (v := ?v8b) rfl (by kernel_rfl) (by kernel_rfl) (by kernel_rfl) (fun _ _ _ h => h) (Or.inl ⟨by rfl, ?hy8b⟩) (by assumption) ?rest8b
          case hy8b => (intro zz hSw; (try dsimp only at hSw); go_simp; (try with_reducible rfl))
          change wpAnyH _ _ _ _ _ _ _ (Act.put _ (some 15) _) _
          simp only [Act.put, List.setIfInBounds_toArray, List.set_cons_zero, List.set_cons_succ]
          refine wpAnyH_take (i := 9) (v := ?v9b) rfl (by kernel_rfl) (by kernel_rfl) (by kernel_rfl) (fun _ _ _ h => h) (Or.inl ⟨by rfl, ?hy9b⟩) (by assumption) ?rest9b
          case hy9b => (intro zz hSw; (try dsimp only at hSw); go_simp; (try with_reducible rfl))
          change wpAnyH _ _ _ _ _ _ _ (Act.put _ (some 16) _) _
          simp only [Act.put, List.setIfInBounds_toArray, List.set_cons_zero, List.set_cons_succ]
          refine wpAnyH_take (i := 10) (v := ?v10b) rfl (by kernel_rfl) (by kernel_rfl) (by kernel_rfl) (fun _ _ _ h => h) (Or.inl ⟨by rfl, ?hy10b⟩) (by assumption) ?rest10b
          case hy10b => (intro zz hSw; (try dsimp only at hSw); go_simp; (try with_reducible rfl))
          change wpAnyH _ _ _ _ _ _ _ (Act.put _ (some 17) _) _
          simp only [Act.put, List.setIfInBounds_toArray, List.set_cons_zero, List.set_cons_succ]
          refine wpAnyH_take (i := 11) (v := ?v11b) rfl (by kernel_rfl) (by kernel_rfl) (by kernel_rfl) (fun _ _ _ h => h) (Or.inl ⟨by rfl, ?hy11b⟩) (by assumption) ?rest11b
          case hy11b => (intro zz hSw; (try dsimp only at hSw); go_simp; (try with_reducible rfl))
          change wpAnyH _ _ _ _ _ _ _ (Act.put _ (some 18) _) _
          simp only [Act.put, List.setIfInBounds_toArray, List.set_cons_zero, List.set_cons_succ]
          refine wpAnyH_ready (rs := [12]) (by kernel_rfl) (by simp) (AllReadyH.cons rfl (fun K hK => ?_) AllReadyH.nil)
          go_simp
          refine (HL.out _).mono ?_; rintro e w' ⟨rfl, bel⟩
          refine hK.out _ _ (SOF.out _ (bel_tr hHeld.2.2.2.2.2.2.2.2 bel (Nat.le_refl _))) (fun hHeld => ?_)
          clear hK K bel
          refine wpAnyH_take (i := 13) (v := ?v13b) rfl (by kernel_rfl) (by kernel_rfl) (by kernel_rfl) (fun _ _ _ h => h) (Or.inl ⟨by rfl, ?hy13b⟩) (by assumption) ?rest13b
          case hy13b => (intro zz hSw; (try dsimp only at hSw); go_simp; (try with_reducible rfl))
          change wpAnyH _ _ _ _ _ _ _ (Act.put _ (some 20) _) _
          simp only [Act.put, List.setIfInBounds_toArray, List.set_cons_zero, List.set_cons_succ]
          refine wpAnyH_done (by kernel_rfl) ?_ _
          have BZ := Lib.hid (bel_tr HB.out hHeld.2.2.2.2.2.2.2.2 (Nat.le_refl _)); clear hHeld SOF HL
          obtain ⟨b, cb, hrun, hvw⟩ := cut_from (some ⟨g, o, none⟩) n cap k (by omega)
          have HVW := Lib.hid (fun w h => hvw w l h hn); clear hvw
          have HLD := Lib.hid (show (l.drop k).length = n - k by rw [List.length_drop, hn])
          generalize hN : n - k = N at *
          go_wp2_with fail
          refine (l4Copy_any _ b cb (l.drop k) N HLD.out (HVW.out _ (HV.out.below BZ.out)) (by omega)).mono ?_; rintro e w2 ⟨v2, rfl, o2, b2⟩
          have X2 := HX.out.next (bel_tr BZ.out b2 (Nat.le_refl _))
          have B2 := Lib.hid (bel_tr BZ.out b2 (Nat.le_refl _)); clear b2 hrun
          obtain ⟨a2, cap2, rfl, v2w, a2f⟩ := o2.view
          obtain ⟨x0, x1, x2, x3, x4, hq2⟩ := id X2
          have HX2 := Lib.hid X2; clear X2 o2
          rw [HLD.out] at a2f ⊢
          obtain ⟨g2, rfl, -, -⟩ := a2f 0 (by omega)
          have hd0 : (l.drop k)[0]? = some d := by rw [List.getElem?_drop, Nat.add_zero]; exact HD.out
          obtain ⟨g3, o3, e3, -, c0, c1, c2, -, -⟩ := v2w.2.2.2 0 d hd0
          cases e3
          simp only [Nat.zero_mul, Nat.zero_add, Nat.add_zero] at c0 c1 c2
          have HW2 := Lib.hid v2w; clear v2w a2f hd0 x3 x4 hq2
          have j0 : (0 : Int) < (N : Int) := by omega
          have j1 : decide ((0 : Int) < (N : Int)) = true := decide_eq_true j0
          have j2 : 0 < N := by omega
          have j3 : decide (0 < N) = true := decide_eq_true j2
          have heq := keyEq_of hke
          go_wp2_with fail
          go_quiet (fail)
          clear heq c0 c1 c2
          obtain ⟨b3, cb3, hrun3, hvw3⟩ := cut_from (some ⟨g2, 0, none⟩) N cap2 1 (by omega)
          have hrun3' : ∀ w, (Instr.slice 24 (.slice (some ⟨g2, 0, none⟩) N cap2) (some (.int .i64 1)) none none).run Tryz.prog w = .ok (.slice b3 (N - 1) cb3) w := hrun3
          clear hrun3
          have HW3 := Lib.hid (show Vw w2 b3 cb3 (l.drop (k + 1)) by rw [← List.drop_drop]; exact hvw3 w2 (l.drop k) HW2.out HLD.out); clear hvw3
          clear x0 x1 x2
          obtain ⟨hrun4, hvw4⟩ := cut_to (some ⟨g, o, none⟩) n cap k (by omega) (by rw [← hn]; exact HV.out.1) HV.out.2.2.1
          have HVT := Lib.hid (fun w h => hvw4 w l h hn); clear hvw4
          go_wp2_with fail
          have HW3' := Lib.hid (show Vw (w2.drewN nq) _ _ _ from HW3.out)
          have HX3 := Lib.hid (show Bc q c.r c.b c.t c.v c.g (w2.drewN nq) from HX2.out)
          have B3 := Lib.hid (show Below w0.heap.size w0 (w2.drewN nq) from bel_drewN B2.out _)
          clear HW3 HX2 B2
          generalize w2.drewN nq = w3 at HW3' HX3 B3 ⊢
          obtain ⟨x0, x1, x2, x3, x4, hq3⟩ := id HX3.out
          have SOG := Lib.hid (show ∀ z, Below w3.heap.size w3 z → (z.cell? ⟨q, 0, none⟩ = some (.string c.r) ∧ z.cell? ⟨q, 1, none⟩ = some (.string c.b) ∧ z.cell? ⟨q, 2, none⟩ = some (.int .i64 c.t) ∧ z.cell? ⟨q, 3, none⟩ = some (.int .i64 c.v) ∧ z.cell? ⟨q, 4, none⟩ = some (.bool c.g) ∧ Below w3.heap.size w3 z) from fun z hz => ⟨coc hz hq3 x0, coc hz hq3 x1, coc hz hq3 x2, coc hz hq3 x3, coc hz hq3 x4,  hz⟩)
          clear x0 x1 x2 x3 x4
          have hl3 : (l.take k).length ≤ 4194304 := by rw [List.length_take]; omega
          have HRN := Lib.hid (show (l.drop (k + 1)).length = N - 1 by rw [List.length_drop]; omega)
          refine wp_region_held_drew (S := fun z => z.cell? ⟨q, 0, none⟩ = some (.string c.r) ∧ z.cell? ⟨q, 1, none⟩ = some (.string c.b) ∧ z.cell? ⟨q, 2, none⟩ = some (.int .i64 c.t) ∧ z.cell? ⟨q, 3, none⟩ = some (.int .i64 c.v) ∧ z.cell? ⟨q, 4, none⟩ = some (.bool c.g) ∧ Below w3.heap.size w3 z) (by kernel_rfl) (SOG.out _ (Below.refl _ _).drew) (fun hHeld => ?_)
          refine wpAnyH_take (i := 0) (v := ?v0f) rfl (by kernel_rfl) (by kernel_rfl) (by kernel_rfl) (fun _ _ _ h => h) (Or.inl ⟨by rfl, ?hy0f⟩) (by assumption) ?rest0f
          case hy0f => (intro zz hSw; (try dsimp only at hSw); go_simp; (try with_reducible rfl))
          change wpAnyH _ _ _ _ _ _ _ (Act.put _ (some 41) _) _
          simp only [Act.put, List.setIfInBounds_toArray, List.set_cons_zero, List.set_cons_succ]
          refine wpAnyH_take (i := 1) (v := ?v1f) rfl (by kernel_rfl) (by kernel_rfl) (by kernel_rfl) (fun _ _ _ h => h) (Or.inl ⟨by rfl, ?hy1f⟩) (by assumption) ?rest1f
          case hy1f => (intro zz hSw; (try dsimp only at hSw); go_simp; (try with_reducible rfl))
          change wpAnyH _ _ _ _ _ _ _ (Act.put _ (some 42) _) _
          simp only [Act.put, List.setIfInBounds_toArray, List.set_cons_zero, List.set_cons_succ]
          refine wpAnyH_take (i := 2) (v := ?v2f) rfl (by kernel_rfl) (by kernel_rfl) (by kernel_rfl) (fun _ _ _ h => h) (Or.inl ⟨by rfl, ?hy2f⟩) (by assumption) ?rest2f
          case hy2f => (intro zz hSw; (try dsimp only at hSw); go_simp; (try with_reducible rfl))
          change wpAnyH _ _ _ _ _ _ _ (Act.put _ (some 43) _) _
          simp only [Act.put, List.setIfInBounds_toArray, List.set_cons_zero, List.set_cons_succ]
          refine wpAnyH_take (i := 4) (v := ?v4f) rfl (by kernel_rfl) (by kernel_rfl) (by kernel_rfl) (fun _ _ _ h => h) (Or.inl ⟨by rfl, ?hy4f⟩) (by assumption) ?rest4f
          case hy4f => (intro zz hSw; (try dsimp only at hSw); go_simp; (try with_reducible rfl))
          change wpAnyH _ _ _ _ _ _ _ (Act.put _ (some 45) _) _
          simp only [Act.put, List.setIfInBounds_toArray, List.set_cons_zero, List.set_cons_succ]
          refine wpAnyH_take (i := 7) (v := ?v7f) rfl (by kernel_rfl) (by kernel_rfl) (by kernel_rfl) (fun _ _ _ h => h) (Or.inl ⟨by rfl, ?hy7f⟩) (by assumption) ?rest7f
          case hy7f => (intro zz hSw; (try dsimp only at hSw); go_simp; (try with_reducible rfl))
          change wpAnyH _ _ _ _ _ _ _ (Act.put _ (some 48) _) _
          simp only [Act.put, List.setIfInBounds_toArray, List.set_cons_zero, List.set_cons_succ]
          refine wpAnyH_ready (rs := [3, 5]) (by kernel_rfl) (by simp) (AllReadyH.cons rfl (fun K hK => ?_) (AllReadyH.cons rfl (fun K hK => ?_) (AllReadyH.nil)))
          · skip
            go_simp
            refine (l4Copy_any _ (some ⟨g, o, none⟩) cap (l.take k) k (by rw [List.length_take]; omega) (HVT.out _ (HV.out.below (bel_tr B3.out hHeld.2.2.2.2.2 (Nat.le_refl _)))) (by omega)).mono ?_; rintro e w4 ⟨v4, rfl, o4, bel⟩
            have O4 := Lib.hid (o4.mono hHeld.2.2.2.2.2.size); clear o4
            refine hK.out _ _ (SOG.out _ (bel_tr hHeld.2.2.2.2.2 bel (Nat.le_refl _))) (fun hHeld => ?_)
            clear hK K bel
            refine wpAnyH_ready (rs := [5]) (by kernel_rfl) (by simp) (AllReadyH.cons rfl (fun K hK => ?_) (AllReadyH.nil))
            go_simp
            have VL := Lib.hid (Vw.lit w4 c)
            have bel := bel1 w4 (.cells #[.string c.r, .string c.b, .int .i64 c.t, .int .i64 c.v, .bool c.g] 38)
            have O4 := Lib.hid (O4.out.next bel)
            refine hK.out _ _ (SOG.out _ (bel_tr hHeld.2.2.2.2.2 bel (Nat.le_refl _))) (fun hHeld => ?_)
            clear hK K bel
            refine wpAnyH_ready (rs := [6]) (by kernel_rfl) (by simp) (AllReadyH.cons rfl (fun K hK => ?_) (AllReadyH.nil))
            refine step_append_cells rfl (.tmp 44) (.tmp 46) rfl (base := w3.heap.size) (l := l.take k) (m := [c]) rfl rfl rfl O4.out VL.out (by simp; omega) hHeld.2.2.2.2.2.size ?_
            intro v6 w6 o6 g6
            have B6 : Below w3.heap.size w3 w6 := hHeld.2.2.2.2.2.grown g6 hHeld.2.2.2.2.2.size (fun j hj => OwC.lt O4.out j hj)
            refine hK.out _ _ (SOG.out _ B6) (fun hHeld => ?_)
            have O6 := Lib.hid o6; clear hK K B6 o6 g6 O4 VL
            change wpAnyH _ _ _ _ _ _ _ (Act.put _ (some 47) _) _
            simp only [Act.put, List.setIfInBounds_toArray, List.set_cons_zero, List.set_cons_succ]
            refine wpAnyH_ready (rs := [8]) (by kernel_rfl) (by simp) (AllReadyH.cons rfl (fun K hK => ?_) (AllReadyH.nil))
            refine step_append_cells rfl (.tmp 47) (.tmp 48) rfl (base := w3.heap.size) (l := l.take k ++ [c]) (m := l.drop (k + 1)) rfl rfl HRN.out O6.out (HW3'.out.below hHeld.2.2.2.2.2) (by rw [List.length_append, HRN.out, List.length_singleton, List.length_take]; omega) hHeld.2.2.2.2.2.size ?_
            intro v8 w8 o8 g8
            have B8 : Below w3.heap.size w3 w8 := hHeld.2.2.2.2.2.grown g8 hHeld.2.2.2.2.2.size (fun j hj => OwC.lt O6.out j hj)
            refine hK.out _ _ (SOG.out _ B8) (fun hHeld => ?_)
            have O8 := Lib.hid o8; clear hK K B8 o8 g8 O6
            change wpAnyH _ _ _ _ _ _ _ (Act.put _ (some 49) _) _
            simp only [Act.put, List.setIfInBounds_toArray, List.set_cons_zero, List.set_cons_succ]
            refine wpAnyH_take (i := 9) (v := ?v9fx) rfl (by kernel_rfl) (by kernel_rfl) (by kernel_rfl) (fun _ _ _ h => h) (Or.inl ⟨by rfl, ?hy9fx⟩) (by assumption) ?rest9fx
            case hy9fx => (intro zz hSw; (try dsimp only at hSw); go_simp; (try with_reducible rfl))
            change wpAnyH _ _ _ _ _ _ _ (Act.put _ (some 4) _) _
            simp only [Act.put, List.setIfInBounds_toArray, List.set_cons_zero, List.set_cons_succ]
            refine wpAnyH_done (by kernel_rfl) ?_ _
            have HG := Lib.hid (bel_tr HB0.out (bel_tr B3.out hHeld.2.2.2.2.2 (Nat.le_refl _)) (Nat.le_refl _)); clear hHeld
            go_wp2_with fail
            go_ret
            refine ⟨_, rfl, ?_, HG.out⟩
            rw [HPUT.out]
            have := O8.out.mono (C := w.heap.size) (Nat.le_trans HB0.out.size B3.out.size)
            rwa [List.append_assoc] at this
          · skip
            go_simp
            have VL := Lib.hid (Vw.lit (w3.drew) c)
            have bel := bel1 (w3.drew) (.cells #[.string c.r, .string c.b, .int .i64 c.t, .int .i64 c.v, .bool c.g] 38)
            refine hK.out _ _ (SOG.out _ (bel_tr hHeld.2.2.2.2.2 bel (Nat.le_refl _))) (fun hHeld => ?_)
            clear hK K bel
            refine wpAnyH_ready (rs := [3]) (by kernel_rfl) (by simp) (AllReadyH.cons rfl (fun K hK => ?_) (AllReadyH.nil))
            go_simp
            refine (l4Copy_any _ (some ⟨g, o, none⟩) cap (l.take k) k (by rw [List.length_take]; omega) (HVT.out _ (HV.out.below (bel_tr B3.out hHeld.2.2.2.2.2 (Nat.le_refl _)))) (by omega)).mono ?_; rintro e w4 ⟨v4, rfl, o4, bel⟩
            have O4 := Lib.hid (o4.mono hHeld.2.2.2.2.2.size); clear o4
            have VL := Lib.hid (VL.out.below bel)
            refine hK.out _ _ (SOG.out _ (bel_tr hHeld.2.2.2.2.2 bel (Nat.le_refl _))) (fun hHeld => ?_)
            clear hK K bel
            refine wpAnyH_ready (rs := [6]) (by kernel_rfl) (by simp) (AllReadyH.cons rfl (fun K hK => ?_) (AllReadyH.nil))
            refine step_append_cells rfl (.tmp 44) (.tmp 46) rfl (base := w3.heap.size) (l := l.take k) (m := [c]) rfl rfl rfl O4.out VL.out (by simp; omega) hHeld.2.2.2.2.2.size ?_
            intro v6 w6 o6 g6
            have B6 : Below w3.heap.size w3 w6 := hHeld.2.2.2.2.2.grown g6 hHeld.2.2.2.2.2.size (fun j hj => OwC.lt O4.out j hj)
            refine hK.out _ _ (SOG.out _ B6) (fun hHeld => ?_)
            have O6 := Lib.hid o6; clear hK K B6 o6 g6 O4 VL
            change wpAnyH _ _ _ _ _ _ _ (Act.put _ (some 47) _) _
            simp only [Act.put, List.setIfInBounds_toArray, List.set_cons_zero, List.set_cons_succ]
            refine wpAnyH_ready (rs := [8]) (by kernel_rfl) (by simp) (AllReadyH.cons rfl (fun K hK => ?_) (AllReadyH.nil))
            refine step_append_cells rfl (.tmp 47) (.tmp 48) rfl (base := w3.heap.size) (l := l.take k ++ [c]) (m := l.drop (k + 1)) rfl rfl HRN.out O6.out (HW3'.out.below hHeld.2.2.2.2.2) (by rw [List.length_append, HRN.out, List.length_singleton, List.length_take]; omega) hHeld.2.2.2.2.2.size ?_
            intro v8 w8 o8 g8
            have B8 : Below w3.heap.size w3 w8 := hHeld.2.2.2.2.2.grown g8 hHeld.2.2.2.2.2.size (fun j hj => OwC.lt O6.out j hj)
            refine hK.out _ _ (SOG.out _ B8) (fun hHeld => ?_)
            have O8 := Lib.hid o8; clear hK K B8 o8 g8 O6
            change wpAnyH _ _ _ _ _ _ _ (Act.put _ (some 49) _) _
            simp only [Act.put, List.setIfInBounds_toArray, List.set_cons_zero, List.set_cons_succ]
            refine wpAnyH_take (i := 9) (v := ?v9fy) rfl (by kernel_rfl) (by kernel_rfl) (by kernel_rfl) (fun _ _ _ h => h) (Or.inl ⟨by rfl, ?hy9fy⟩) (by assumption) ?rest9fy
            case hy9fy => (intro zz hSw; (try dsimp only at hSw); go_simp; (try with_reducible rfl))
            change wpAnyH _ _ _ _ _ _ _ (Act.put _ (some 4) _) _
            simp only [Act.put, List.setIfInBounds_toArray, List.set_cons_zero, List.set_cons_succ]
            refine wpAnyH_done (by kernel_rfl) ?_ _
            have HG := Lib.hid (bel_tr HB0.out (bel_tr B3.out hHeld.2.2.2.2.2 (Nat.le_refl _)) (Nat.le_refl _)); clear hHeld
            go_wp2_with fail
            go_ret
            refine ⟨_, rfl, ?_, HG.out⟩
            rw [HPUT.out]
            have := O8.out.mono (C := w.heap.size) (Nat.le_trans HB0.out.size B3.out.size)
            rwa [List.append_assoc] at this
      · have HL := Lib.hid (l2Less_is hls)
        have HLO2 := Lib.hid (show ∀ m d, m < k + 1 → l[m]? = some d → d.ls c = true from fun m e hm he => by
          by_cases em : m = k
          · subst em; rw [HD.out] at he; cases he; exact hls
          · exact HLO.out m e (by omega) he)
        clear hls
        go_wp2_with fail
        refine wp_region_held_drew (S := fun z => z.cell? ⟨g, o + k * 5, none⟩ = some (.string d.r) ∧ z.cell? ⟨g, o + k * 5 + 1, none⟩ = some (.string d.b) ∧ z.cell? ⟨g, o + k * 5 + 2, none⟩ = some (.int .i64 d.t) ∧ z.cell? ⟨q, 0, none⟩ = some (.string c.r) ∧ z.cell? ⟨q, 1, none⟩ = some (.string c.b) ∧ z.cell? ⟨q, 2, none⟩ = some (.int .i64 c.t) ∧ z.cell? ⟨q, 3, none⟩ = some (.int .i64 c.v) ∧ z.cell? ⟨q, 4, none⟩ = some (.bool c.g) ∧ Below wr.heap.size wr z) (by kernel_rfl) (SOF.out _ (Below.refl _ _).drew) (fun hHeld => ?_)
        refine wpAnyH_take (i := 0) (v := ?v0c) rfl (by kernel_rfl) (by kernel_rfl) (by kernel_rfl) (fun _ _ _ h => h) (Or.inl ⟨by rfl, ?hy0c⟩) (by assumption) ?rest0c
        case hy0c => (intro zz hSw; (try dsimp only at hSw); go_simp; (try with_reducible rfl))
        change wpAnyH _ _ _ _ _ _ _ (Act.put _ (some 7) _) _
        simp only [Act.put, List.setIfInBounds_toArray, List.set_cons_zero, List.set_cons_succ]
        refine wpAnyH_take (i := 1) (v := ?v1c) rfl (by kernel_rfl) (by kernel_rfl) (by kernel_rfl) (fun _ _ _ h => h) (Or.inl ⟨by rfl, ?hy1c⟩) (by assumption) ?rest1c
        case hy1c => (intro zz hSw; (try dsimp only at hSw); go_simp; (try with_reducible rfl))
        change wpAnyH _ _ _ _ _ _ _ (Act.put _ (some 8) _) _
        simp only [Act.put, List.setIfInBounds_toArray, List.set_cons_zero, List.set_cons_succ]
        refine wpAnyH_take (i := 2) (v := ?v2c) rfl (by kernel_rfl) (by kernel_rfl) (by kernel_rfl) (fun _ _ _ h => h) (Or.inl ⟨by rfl, ?hy2c⟩) (by assumption) ?rest2c
        case hy2c => (intro zz hSw; (try dsimp only at hSw); go_simp; (try with_reducible rfl))
        change wpAnyH _ _ _ _ _ _ _ (Act.put _ (some 9) _) _
        simp only [Act.put, List.setIfInBounds_toArray, List.set_cons_zero, List.set_cons_succ]
        refine wpAnyH_take (i := 3) (v := ?v3c) rfl (by kernel_rfl) (by kernel_rfl) (by kernel_rfl) (fun _ _ _ h => h) (Or.inl ⟨by rfl, ?hy3c⟩) (by assumption) ?rest3c
        case hy3c => (intro zz hSw; (try dsimp only at hSw); go_simp; (try with_reducible rfl))
        change wpAnyH _ _ _ _ _ _ _ (Act.put _ (some 10) _) _
        simp only [Act.put, List.setIfInBounds_toArray, List.set_cons_zero, List.set_cons_succ]
        refine wpAnyH_take (i := 4) (v := ?v4c) rfl (by kernel_rfl) (by kernel_rfl) (by kernel_rfl) (fun _ _ _ h => h) (Or.inl ⟨by rfl, ?hy4c⟩) (by assumption) ?rest4c
        case hy4c => (intro zz hSw; (try dsimp only at hSw); go_simp; (try with_reducible rfl))
        change wpAnyH _ _ _ _ _ _ _ (Act.put _ (some 11) _) _
        simp only [Act.put, List.setIfInBounds_toArray, List.set_cons_zero, List.set_cons_succ]
        refine wpAnyH_take (i := 5) (v := ?v5c) rfl (by kernel_rfl) (by kernel_rfl) (by kernel_rfl) (fun _ _ _ h => h) (Or.inl ⟨by rfl, ?hy5c⟩) (by assumption) ?rest5c
        case hy5c => (intro zz hSw; (try dsimp only at hSw); go_simp; (try with_reducible rfl))
        change wpAnyH _ _ _ _ _ _ _ (Act.put _ (some 12) _) _
        simp only [Act.put, List.setIfInBounds_toArray, List.set_cons_zero, List.set_cons_succ]
        refine wpAnyH_take (i := 6) (v := ?v6c) rfl (by kernel_rfl) (by kernel_rfl) (by kernel_rfl) (fun _ _ _ h => h) (Or.inl ⟨by rfl, ?hy6c⟩) (by assumption) ?rest6c
        case hy6c => (intro zz hSw; (try dsimp only at hSw); go_simp; (try with_reducible rfl))
        change wpAnyH _ _ _ _ _ _ _ (Act.put _ (some 13) _) _
        simp only [Act.put, List.setIfInBounds_toArray, List.set_cons_zero, List.set_cons_succ]
        refine wpAnyH_take (i := 7) (v := ?v7c) rfl (by kernel_rfl) (by kernel_rfl) (by kernel_rfl) (fun _ _ _ h => h) (Or.inl ⟨by rfl, ?hy7c⟩) (by assumption) ?rest7c
        case hy7c => (intro zz hSw; (try dsimp only at hSw); go_simp; (try with_reducible rfl))
        change wpAnyH _ _ _ _ _ _ _ (Act.put _ (some 14) _) _
        simp only [Act.put, List.setIfInBounds_toArray, List.set_cons_zero, List.set_cons_succ]
        refine wpAnyH_take (i := 8) (v := ?v8c) rfl (by kernel_rfl) (by kernel_rfl) (by kernel_rfl) (fun _ _ _ h => h) (Or.inl ⟨by rfl, ?hy8c⟩) (by assumption) ?rest8c
        case hy8c => (intro zz hSw; (try dsimp only at hSw); go_simp; (try with_reducible rfl))
        change wpAnyH _ _ _ _ _ _ _ (Act.put _ (some 15) _) _
        simp only [Act.put, List.setIfInBounds_toArray, List.set_cons_zero, List.set_cons_succ]
        refine wpAnyH_take (i := 9) (v := ?v9c) rfl (by kernel_rfl) (by kernel_rfl) (by kernel_rfl) (fun _ _ _ h => h) (Or.inl ⟨by rfl, ?hy9c⟩) (by assumption) ?rest9c
        case hy9c => (intro zz hSw; (try dsimp only at hSw); go_simp; (try with_reducible rfl))
        change wpAnyH _ _ _ _ _ _ _ (Act.put _ (some 16) _) _
        simp only [Act.put, List.setIfInBounds_toArray, List.set_cons_zero, List.set_cons_succ]
        refine wpAnyH_take (i := 10) (v := ?v10c) rfl (by kernel_rfl) (by kernel_rfl) (by kernel_rfl) (fun _ _ _ h => h) (Or.inl ⟨by rfl, ?hy10c⟩) (by assumption) ?rest10c
        case hy10c => (intro zz hSw; (try dsimp only at hSw); go_simp; (try with_reducible rfl))
        change wpAnyH _ _ _ _ _ _ _ (Act.put _ (some 17) _) _
        simp only [Act.put, List.setIfInBounds_toArray, List.set_cons_zero, List.set_cons_succ]
        refine wpAnyH_take (i := 11) (v := ?v11c) rfl (by kernel_rfl) (by kernel_rfl) (by kernel_rfl) (fun _ _ _ h => h) (Or.inl ⟨by rfl, ?hy11c⟩) (by assumption) ?rest11c
        case hy11c => (intro zz hSw; (try dsimp only at hSw); go_simp; (try with_reducible rfl))
        change wpAnyH _ _ _ _ _ _ _ (Act.put _ (some 18) _) _
        simp only [Act.put, List.setIfInBounds_toArray, List.set_cons_zero, List.set_cons_succ]
        refine wpAnyH_ready (rs := [12]) (by kernel_rfl) (by simp) (AllReadyH.cons rfl (fun K hK => ?_) AllReadyH.nil)
        go_simp
        refine (HL.out _).mono ?_; rintro e w' ⟨rfl, bel⟩
        refine hK.out _ _ (SOF.out _ (bel_tr hHeld.2.2.2.2.2.2.2.2 bel (Nat.le_refl _))) (fun hHeld => ?_)
        clear hK K bel
        refine wpAnyH_take (i := 13) (v := ?v13c) rfl (by kernel_rfl) (by kernel_rfl) (by kernel_rfl) (fun _ _ _ h => h) (Or.inl ⟨by rfl, ?hy13c⟩) (by assumption) ?rest13c
        case hy13c => (intro zz hSw; (try dsimp only at hSw); go_simp; (try with_reducible rfl))
        change wpAnyH _ _ _ _ _ _ _ (Act.put _ (some 20) _) _
        simp only [Act.put, List.setIfInBounds_toArray, List.set_cons_zero, List.set_cons_succ]
        refine wpAnyH_done (by kernel_rfl) ?_ _
        have HG := Lib.hid (bel_tr HB.out hHeld.2.2.2.2.2.2.2.2 (Nat.le_refl _)); clear hHeld
        go_wp2_with fail
        go_roundw
        case rel => exact ⟨k + 1, by omega, by go_num, HLO2.out, HG.out⟩
        case measure => simp [intV]; omega
    · obtain rfl : k = n := by omega
      have i2 : decide ((k : Int) < (k : Int)) = false := decide_eq_false (by omega)
      have HPUT := Lib.hid (putL_at (cntP_eq (by omega) HLO.out (fun e he => by have := (List.getElem?_eq_some_iff.1 he).1; omega)) (x := false) (by unfold there; rw [List.getElem?_eq_none (by omega)]))
      have SOF := Lib.hid (show ∀ z, Below wr.heap.size wr z → (z.cell? ⟨q, 0, none⟩ = some (.string c.r) ∧ z.cell? ⟨q, 1, none⟩ = some (.string c.b) ∧ z.cell? ⟨q, 2, none⟩ = some (.int .i64 c.t) ∧ z.cell? ⟨q, 3, none⟩ = some (.int .i64 c.v) ∧ z.cell? ⟨q, 4, none⟩ = some (.bool c.g) ∧ Below wr.heap.size wr z) from fun z hz => ⟨coc hz hq x0, coc hz hq x1, coc hz hq x2, coc hz hq x3, coc hz hq x4,  hz⟩)
      clear x0 x1 x2 x3 x4
      go_wp2_with fail
      refine wp_region_held_drew (S := fun z => z.cell? ⟨q, 0, none⟩ = some (.string c.r) ∧ z.cell? ⟨q, 1, none⟩ = some (.string c.b) ∧ z.cell? ⟨q, 2, none⟩ = some (.int .i64 c.t) ∧ z.cell? ⟨q, 3, none⟩ = some (.int .i64 c.v) ∧ z.cell? ⟨q, 4, none⟩ = some (.bool c.g) ∧ Below wr.heap.size wr z) (by kernel_rfl) (SOF.out _ (Below.refl _ _).drew) (fun hHeld => ?_)
      refine wpAnyH_take (i := 0) (v := ?v0d) rfl (by kernel_rfl) (by kernel_rfl) (by kernel_rfl) (fun _ _ _ h => h) (Or.inl ⟨by rfl, ?hy0d⟩) (by assumption) ?rest0d
      case hy0d => (intro zz hSw; (try dsimp only at hSw); go_simp; (try with_reducible rfl))
      change wpAnyH _ _ _ _ _ _ _ (Act.put _ (some 7) _) _
      simp only [Act.put, List.setIfInBounds_toArray, List.set_cons_zero, List.set_cons_succ]
      refine wpAnyH_take (i := 1) (v := ?v1d) rfl (by kernel_rfl) (by kernel_rfl) (by kernel_rfl) (fun _ _ _ h => h) (Or.inl ⟨by rfl, ?hy1d⟩) (by assumption) ?rest1d
      case hy1d => (intro zz hSw; (try dsimp only at hSw); go_simp; (try with_reducible rfl))
      change wpAnyH _ _ _ _ _ _ _ (Act.put _ (some 8) _) _
      simp only [Act.put, List.setIfInBounds_toArray, List.set_cons_zero, List.set_cons_succ]
      refine wpAnyH_take (i := 2) (v := ?v2d) rfl (by kernel_rfl) (by kernel_rfl) (by kernel_rfl) (fun _ _ _ h => h) (Or.inl ⟨by rfl, ?hy2d⟩) (by assumption) ?rest2d
      case hy2d => (intro zz hSw; (try dsimp only at hSw); go_simp; (try with_reducible rfl))
      change wpAnyH _ _ _ _ _ _ _ (Act.put _ (some 9) _) _
      simp only [Act.put, List.setIfInBounds_toArray, List.set_cons_zero, List.set_cons_succ]
      refine wpAnyH_take (i := 3) (v := ?v3d) rfl (by kernel_rfl) (by kernel_rfl) (by kernel_rfl) (fun _ _ _ h => h) (Or.inl ⟨by rfl, ?hy3d⟩) (by assumption) ?rest3d
      case hy3d => (intro zz hSw; (try dsimp only at hSw); go_simp; (try with_reducible rfl))
      change wpAnyH _ _ _ _ _ _ _ (Act.put _ (some 10) _) _
      simp only [Act.put, List.setIfInBounds_toArray, List.set_cons_zero, List.set_cons_succ]
      refine wpAnyH_take (i := 4) (v := ?v4d) rfl (by kernel_rfl) (by kernel_rfl) (by kernel_rfl) (fun _ _ _ h => h) (Or.inl ⟨by rfl, ?hy4d⟩) (by assumption) ?rest4d
      case hy4d => (intro zz hSw; (try dsimp only at hSw); go_simp; (try with_reducible rfl))
      change wpAnyH _ _ _ _ _ _ _ (Act.put _ (some 11) _) _
      simp only [Act.put, List.setIfInBounds_toArray, List.set_cons_zero, List.set_cons_succ]
      refine wpAnyH_take (i := 5) (v := undef) rfl (by kernel_rfl) (by kernel_rfl) (by kernel_rfl) (fun _ _ _ h => h) (Or.inr ⟨by rfl, rfl⟩) (by assumption) ?_
      change wpAnyH _ _ _ _ _ _ _ (Act.put _ (some 12) _) _
      simp only [Act.put, List.setIfInBounds_toArray, List.set_cons_zero, List.set_cons_succ]
      refine wpAnyH_take (i := 6) (v := undef) rfl (by kernel_rfl) (by kernel_rfl) (by kernel_rfl) (fun _ _ _ h => h) (Or.inr ⟨by rfl, rfl⟩) (by assumption) ?_
      change wpAnyH _ _ _ _ _ _ _ (Act.put _ (some 13) _) _
      simp only [Act.put, List.setIfInBounds_toArray, List.set_cons_zero, List.set_cons_succ]
      refine wpAnyH_take (i := 7) (v := undef) rfl (by kernel_rfl) (by kernel_rfl) (by kernel_rfl) (fun _ _ _ h => h) (Or.inr ⟨by rfl, rfl⟩) (by assumption) ?_
      change wpAnyH _ _ _ _ _ _ _ (Act.put _ (some 14) _) _
      simp only [Act.put, List.setIfInBounds_toArray, List.set_cons_zero, List.set_cons_succ]
      refine wpAnyH_take (i := 8) (v := undef) rfl (by kernel_rfl) (by kernel_rfl) (by kernel_rfl) (fun _ _ _ h => h) (Or.inr ⟨by rfl, rfl⟩) (by assumption) ?_
      change wpAnyH _ _ _ _ _ _ _ (Act.put _ (some 15) _) _
      simp only [Act.put, List.setIfInBounds_toArray, List.set_cons_zero, List.set_cons_succ]
      refine wpAnyH_take (i := 9) (v := undef) rfl (by kernel_rfl) (by kernel_rfl) (by kernel_rfl) (fun _ _ _ h => h) (Or.inr ⟨by rfl, rfl⟩) (by assumption) ?_
      change wpAnyH _ _ _ _ _ _ _ (Act.put _ (some 16) _) _
      simp only [Act.put, List.setIfInBounds_toArray, List.set_cons_zero, List.set_cons_succ]
      refine wpAnyH_take (i := 10) (v := undef) rfl (by kernel_rfl) (by kernel_rfl) (by kernel_rfl) (fun _ _ _ h => h) (Or.inr ⟨by rfl, rfl⟩) (by assumption) ?_
      change wpAnyH _ _ _ _ _ _ _ (Act.put _ (some 17) _) _
      simp only [Act.put, List.setIfInBounds_toArray, List.set_cons_zero, List.set_cons_succ]
      refine wpAnyH_take (i := 11) (v := undef) rfl (by kernel_rfl) (by kernel_rfl) (by kernel_rfl) (fun _ _ _ h => h) (Or.inr ⟨by rfl, rfl⟩) (by assumption) ?_
      change wpAnyH _ _ _ _ _ _ _ (Act.put _ (some 18) _) _
      simp only [Act.put, List.setIfInBounds_toArray, List.set_cons_zero, List.set_cons_succ]
      refine wpAnyH_take (i := 12) (v := undef) rfl (by kernel_rfl) (by kernel_rfl) (by kernel_rfl) (fun _ _ _ h => h) (Or.inr ⟨by rfl, rfl⟩) (by assumption) ?_
      change wpAnyH _ _ _ _ _ _ _ (Act.put _ (some 19) _) _
      simp only [Act.put, List.setIfInBounds_toArray, List.set_cons_zero, List.set_cons_succ]
      refine wpAnyH_take (i := 13) (v := ?v13d) rfl (by kernel_rfl) (by kernel_rfl) (by kernel_rfl) (fun _ _ _ h => h) (Or.inl ⟨by rfl, ?hy13d⟩) (by assumption) ?rest13d
      case hy13d => (intro zz hSw; (try dsimp only at hSw); go_simp; (try with_reducible rfl))
      change wpAnyH _ _ _ _ _ _ _ (Act.put _ (some 20) _) _
      simp only [Act.put, List.setIfInBounds_toArray, List.set_cons_zero, List.set_cons_succ]
      refine wpAnyH_done (by kernel_rfl) ?_ _
      have BZ := Lib.hid (bel_tr HB.out hHeld.2.2.2.2.2 (Nat.le_refl _)); clear hHeld SOF
      obtain ⟨b, cb, hrun, hvw⟩ := cut_from a k cap k (by omega)
      have HVW := Lib.hid (fun w h => hvw w l h hn); clear hvw
      have HLD := Lib.hid (show (l.drop k).length = 0 by rw [List.length_drop, hn, Nat.sub_self])
      go_wp2_with fail
      refine (l4Copy_any _ b cb (l.drop k) 0 HLD.out (HVW.out _ (HV.out.below BZ.out)) (by omega)).mono ?_; rintro e w2 ⟨v2, rfl, o2, b2⟩
      have X2 := HX.out.next (bel_tr BZ.out b2 (Nat.le_refl _))
      have B2 := Lib.hid (bel_tr BZ.out b2 (Nat.le_refl _)); clear b2 hrun
      obtain ⟨a2, cap2, rfl, v2w, a2f⟩ := o2.view
      obtain ⟨x0, x1, x2, x3, x4, hq2⟩ := id X2
      have HX2 := Lib.hid X2; clear X2 o2
      have hl0 : (l.drop k).length = 0 := HLD.out
      rw [hl0]
      have HW2 := Lib.hid v2w; clear v2w a2f x3 x4 hq2
      go_wp2_with fail
      go_quiet (fail)
      have HW3 := Lib.hid HW2.out
      clear x0 x1 x2
      obtain ⟨hrun4, hvw4⟩ := cut_to a k cap k (by omega) (by rw [← hn]; exact HV.out.1) HV.out.2.2.1
      have HVT := Lib.hid (fun w h => hvw4 w l h hn); clear hvw4
      go_wp2_with fail
      have HW3' := Lib.hid (show Vw (w2.drewN nq) _ _ _ from HW3.out)
      have HX3 := Lib.hid (show Bc q c.r c.b c.t c.v c.g (w2.drewN nq) from HX2.out)
      have B3 := Lib.hid (show Below w0.heap.size w0 (w2.drewN nq) from bel_drewN B2.out _)
      clear HW3 HX2 B2
      generalize w2.drewN nq = w3 at HW3' HX3 B3 ⊢
      obtain ⟨x0, x1, x2, x3, x4, hq3⟩ := id HX3.out
      have SOG := Lib.hid (show ∀ z, Below w3.heap.size w3 z → (z.cell? ⟨q, 0, none⟩ = some (.string c.r) ∧ z.cell? ⟨q, 1, none⟩ = some (.string c.b) ∧ z.cell? ⟨q, 2, none⟩ = some (.int .i64 c.t) ∧ z.cell? ⟨q, 3, none⟩ = some (.int .i64 c.v) ∧ z.cell? ⟨q, 4, none⟩ = some (.bool c.g) ∧ Below w3.heap.size w3 z) from fun z hz => ⟨coc hz hq3 x0, coc hz hq3 x1, coc hz hq3 x2, coc hz hq3 x3, coc hz hq3 x4,  hz⟩)
      clear x0 x1 x2 x3 x4
      have hl3 : (l.take k).length ≤ 4194304 := by rw [List.length_take]; omega
      have HRN := Lib.hid (show (l.drop k).length = 0 by rw [List.length_drop]; omega)
      refine wp_region_held_drew (S := fun z => z.cell? ⟨q, 0, none⟩ = some (.string c.r) ∧ z.cell? ⟨q, 1, none⟩ = some (.string c.b) ∧ z.cell? ⟨q, 2, none⟩ = some (.int .i64 c.t) ∧ z.cell? ⟨q, 3, none⟩ = some (.int .i64 c.v) ∧ z.cell? ⟨q, 4, none⟩ = some (.bool c.g) ∧ Below w3.heap.size w3 z) (by kernel_rfl) (SOG.out _ (Below.refl _ _).drew) (fun hHeld => ?_)
      refine wpAnyH_take (i := 0) (v := ?v0g) rfl (by kernel_rfl) (by kernel_rfl) (by kernel_rfl) (fun _ _ _ h => h) (Or.inl ⟨by rfl, ?hy0g⟩) (by assumption) ?rest0g
      case hy0g => (intro zz hSw; (try dsimp only at hSw); go_simp; (try with_reducible rfl))
      change wpAnyH _ _ _ _ _ _ _ (Act.put _ (some 41) _) _
      simp only [Act.put, List.setIfInBounds_toArray, List.set_cons_zero, List.set_cons_succ]
      refine wpAnyH_take (i := 1) (v := ?v1g) rfl (by kernel_rfl) (by kernel_rfl) (by kernel_rfl) (fun _ _ _ h => h) (Or.inl ⟨by rfl, ?hy1g⟩) (by assumption) ?rest1g
      case hy1g => (intro zz hSw; (try dsimp only at hSw); go_simp; (try with_reducible rfl))
      change wpAnyH _ _ _ _ _ _ _ (Act.put _ (some 42) _) _
      simp only [Act.put, List.setIfInBounds_toArray, List.set_cons_zero, List.set_cons_succ]
      refine wpAnyH_take (i := 2) (v := ?v2g) rfl (by kernel_rfl) (by kernel_rfl) (by kernel_rfl) (fun _ _ _ h => h) (Or.inl ⟨by rfl, ?hy2g⟩) (by assumption) ?rest2g
      case hy2g => (intro zz hSw; (try dsimp only at hSw); go_simp; (try with_reducible rfl))
      change wpAnyH _ _ _ _ _ _ _ (Act.put _ (some 43) _) _
      simp only [Act.put, List.setIfInBounds_toArray, List.set_cons_zero, List.set_cons_succ]
      refine wpAnyH_take (i := 4) (v := ?v4g) rfl (by kernel_rfl) (by kernel_rfl) (by kernel_rfl) (fun _ _ _ h => h) (Or.inl ⟨by rfl, ?hy4g⟩) (by assumption) ?rest4g
      case hy4g => (intro zz hSw; (try dsimp only at hSw); go_simp; (try with_reducible rfl))
      change wpAnyH _ _ _ _ _ _ _ (Act.put _ (some 45) _) _
      simp only [Act.put, List.setIfInBounds_toArray, List.set_cons_zero, List.set_cons_succ]
      refine wpAnyH_take (i := 7) (v := ?v7g) rfl (by kernel_rfl) (by kernel_rfl) (by kernel_rfl) (fun _ _ _ h => h) (Or.inl ⟨by rfl, ?hy7g⟩) (by assumption) ?rest7g
      case hy7g => (intro zz hSw; (try dsimp only at hSw); go_simp; (try with_reducible rfl))
      change wpAnyH _ _ _ _ _ _ _ (Act.put _ (some 48) _) _
      simp only [Act.put, List.setIfInBounds_toArray, List.set_cons_zero, List.set_cons_succ]
      refine wpAnyH_ready (rs := [3, 5]) (by kernel_rfl) (by simp) (AllReadyH.cons rfl (fun K hK => ?_) (AllReadyH.cons rfl (fun K hK => ?_) (AllReadyH.nil)))
      · skip
        go_simp
        refine (l4Copy_any _ a cap (l.take k) k (by rw [List.length_take]; omega) (HVT.out _ (HV.out.below (bel_tr B3.out hHeld.2.2.2.2.2 (Nat.le_refl _)))) (by omega)).mono ?_; rintro e w4 ⟨v4, rfl, o4, bel⟩
        have O4 := Lib.hid (o4.mono hHeld.2.2.2.2.2.size); clear o4
        refine hK.out _ _ (SOG.out _ (bel_tr hHeld.2.2.2.2.2 bel (Nat.le_refl _))) (fun hHeld => ?_)
        clear hK K bel
        refine wpAnyH_ready (rs := [5]) (by kernel_rfl) (by simp) (AllReadyH.cons rfl (fun K hK => ?_) (AllReadyH.nil))
        go_simp
        have VL := Lib.hid (Vw.lit w4 c)
        have bel := bel1 w4 (.cells #[.string c.r, .string c.b, .int .i64 c.t, .int .i64 c.v, .bool c.g] 38)
        have O4 := Lib.hid (O4.out.next bel)
        refine hK.out _ _ (SOG.out _ (bel_tr hHeld.2.2.2.2.2 bel (Nat.le_refl _))) (fun hHeld => ?_)
        clear hK K bel
        refine wpAnyH_ready (rs := [6]) (by kernel_rfl) (by simp) (AllReadyH.cons rfl (fun K hK => ?_) (AllReadyH.nil))
        refine step_append_cells rfl (.tmp 44) (.tmp 46) rfl (base := w3.heap.size) (l := l.take k) (m := [c]) rfl rfl rfl O4.out VL.out (by simp; omega) hHeld.2.2.2.2.2.size ?_
        intro v6 w6 o6 g6
        have B6 : Below w3.heap.size w3 w6 := hHeld.2.2.2.2.2.grown g6 hHeld.2.2.2.2.2.size (fun j hj => OwC.lt O4.out j hj)
        refine hK.out _ _ (SOG.out _ B6) (fun hHeld => ?_)
        have O6 := Lib.hid o6; clear hK K B6 o6 g6 O4 VL
        change wpAnyH _ _ _ _ _ _ _ (Act.put _ (some 47) _) _
        simp only [Act.put, List.setIfInBounds_toArray, List.set_cons_zero, List.set_cons_succ]
        refine wpAnyH_ready (rs := [8]) (by kernel_rfl) (by simp) (AllReadyH.cons rfl (fun K hK => ?_) (AllReadyH.nil))
        refine step_append_cells rfl (.tmp 47) (.tmp 48) rfl (base := w3.heap.size) (l := l.take k ++ [c]) (m := l.drop k) rfl rfl HRN.out O6.out (HW3'.out.below hHeld.2.2.2.2.2) (by rw [List.length_append, HRN.out, List.length_singleton, List.length_take]; omega) hHeld.2.2.2.2.2.size ?_
        intro v8 w8 o8 g8
        have B8 : Below w3.heap.size w3 w8 := hHeld.2.2.2.2.2.grown g8 hHeld.2.2.2.2.2.size (fun j hj => OwC.lt O6.out j hj)
        refine hK.out _ _ (SOG.out _ B8) (fun hHeld => ?_)
        have O8 := Lib.hid o8; clear hK K B8 o8 g8 O6
        change wpAnyH _ _ _ _ _ _ _ (Act.put _ (some 49) _) _
        simp only [Act.put, List.setIfInBounds_toArray, List.set_cons_zero, List.set_cons_succ]
        refine wpAnyH_take (i := 9) (v := ?v9gx) rfl (by kernel_rfl) (by kernel_rfl) (by kernel_rfl) (fun _ _ _ h => h) (Or.inl ⟨by rfl, ?hy9gx⟩) (by assumption) ?rest9gx
        case hy9gx => (intro zz hSw; (try dsimp only at hSw); go_simp; (try with_reducible rfl))
        change wpAnyH _ _ _ _ _ _ _ (Act.put _ (some 4) _) _
        simp only [Act.put, List.setIfInBounds_toArray, List.set_cons_zero, List.set_cons_succ]
        refine wpAnyH_done (by kernel_rfl) ?_ _
        have HG := Lib.hid (bel_tr HB0.out (bel_tr B3.out hHeld.2.2.2.2.2 (Nat.le_refl _)) (Nat.le_refl _)); clear hHeld
        go_wp2_with fail
        go_ret
        refine ⟨_, rfl, ?_, HG.out⟩
        rw [HPUT.out]
        have := O8.out.mono (C := w.heap.size) (Nat.le_trans HB0.out.size B3.out.size)
        rwa [List.append_assoc] at this
      · skip
        go_simp
        have VL := Lib.hid (Vw.lit (w3.drew) c)
        have bel := bel1 (w3.drew) (.cells #[.string c.r, .string c.b, .int .i64 c.t, .int .i64 c.v, .bool c.g] 38)
        refine hK.out _ _ (SOG.out _ (bel_tr hHeld.2.2.2.2.2 bel (Nat.le_refl _))) (fun hHeld => ?_)
        clear hK K bel
        refine wpAnyH_ready (rs := [3]) (by kernel_rfl) (by simp) (AllReadyH.cons rfl (fun K hK => ?_) (AllReadyH.nil))
        go_simp
        refine (l4Copy_any _ a cap (l.take k) k (by rw [List.length_take]; omega) (HVT.out _ (HV.out.below (bel_tr B3.out hHeld.2.2.2.2.2 (Nat.le_refl _)))) (by omega)).mono ?_; rintro e w4 ⟨v4, rfl, o4, bel⟩
        have O4 := Lib.hid (o4.mono hHeld.2.2.2.2.2.size); clear o4
        have VL := Lib.hid (VL.out.below bel)
        refine hK.out _ _ (SOG.out _ (bel_tr hHeld.2.2.2.2.2 bel (Nat.le_refl _))) (fun hHeld => ?_)
        clear hK K bel
        refine wpAnyH_ready (rs := [6]) (by kernel_rfl) (by simp) (AllReadyH.cons rfl (fun K hK => ?_) (AllReadyH.nil))
        refine step_append_cells rfl (.tmp 44) (.tmp 46) rfl (base := w3.heap.size) (l := l.take k) (m := [c]) rfl rfl rfl O4.out VL.out (by simp; omega) hHeld.2.2.2.2.2.size ?_
        intro v6 w6 o6 g6
        have B6 : Below w3.heap.size w3 w6 := hHeld.2.2.2.2.2.grown g6 hHeld.2.2.2.2.2.size (fun j hj => OwC.lt O4.out j hj)
        refine hK.out _ _ (SOG.out _ B6) (fun hHeld => ?_)
        have O6 := Lib.hid o6; clear hK K B6 o6 g6 O4 VL
        change wpAnyH _ _ _ _ _ _ _ (Act.put _ (some 47) _) _
        simp only [Act.put, List.setIfInBounds_toArray, List.set_cons_zero, List.set_cons_succ]
        refine wpAnyH_ready (rs := [8]) (by kernel_rfl) (by simp) (AllReadyH.cons rfl (fun K hK => ?_) (AllReadyH.nil))
        refine step_append_cells rfl (.tmp 47) (.tmp 48) rfl (base := w3.heap.size) (l := l.take k ++ [c]) (m := l.drop k) rfl rfl HRN.out O6.out (HW3'.out.below hHeld.2.2.2.2.2) (by rw [List.length_append, HRN.out, List.length_singleton, List.length_take]; omega) hHeld.2.2.2.2.2.size ?_
        intro v8 w8 o8 g8
        have B8 : Below w3.heap.size w3 w8 := hHeld.2.2.2.2.2.grown g8 hHeld.2.2.2.2.2.size (fun j hj => OwC.lt O6.out j hj)
        refine hK.out _ _ (SOG.out _ B8) (fun hHeld => ?_)
        have O8 := Lib.hid o8; clear hK K B8 o8 g8 O6
        change wpAnyH _ _ _ _ _ _ _ (Act.put _ (some 49) _) _
        simp only [Act.put, List.setIfInBounds_toArray, List.set_cons_zero, List.set_cons_succ]
        refine wpAnyH_take (i := 9) (v := ?v9gy) rfl (by kernel_rfl) (by kernel_rfl) (by kernel_rfl) (fun _ _ _ h => h) (Or.inl ⟨by rfl, ?hy9gy⟩) (by assumption) ?rest9gy
        case hy9gy => (intro zz hSw; (try dsimp only at hSw); go_simp; (try with_reducible rfl))
        change wpAnyH _ _ _ _ _ _ _ (Act.put _ (some 4) _) _
        simp only [Act.put, List.setIfInBounds_toArray, List.set_cons_zero, List.set_cons_succ]
        refine wpAnyH_done (by kernel_rfl) ?_ _
        have HG := Lib.hid (bel_tr HB0.out (bel_tr B3.out hHeld.2.2.2.2.2 (Nat.le_refl _)) (Nat.le_refl _)); clear hHeld
        go_wp2_with fail
        go_ret
        refine ⟨_, rfl, ?_, HG.out⟩
        rw [HPUT.out]
        have := O8.out.mono (C := w.heap.size) (Nat.le_trans HB0.out.size B3.out.size)
        rwa [List.append_assoc] at this
end Go.Proofs.YtdalncgbbkeimaaGreatDoor.Cl
