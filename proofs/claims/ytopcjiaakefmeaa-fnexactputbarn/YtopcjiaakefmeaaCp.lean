/-
  laws.heldCellS finds the marks that are there. (Made by gen_cp.py.)
-/
import Derived.Test.YtopcjiaakefmeaaCo
import Derived.Test.YtopcjiaakefmeaaCc
namespace Go.Proofs.Ytopcjiaakefmeaa.Cl
open Go.RowKit Wd Rp Kp
set_option linter.unusedVariables false
set_option maxRecDepth 100000 in
set_option maxHeartbeats 4000000 in
theorem heldC_any (s : Nat) (w : World) (a : Option Addr) (cap : Nat) (l : List Cel) (n : Nat) (hn : l.length = n) (hv : Vw w a cap l) (hm : MkdC s l) (hl : n ≤ 4194304) (hs1 : 1 ≤ s) (hs2 : s ≤ 9000000) :
    Calls Try.prog 47 #[.slice a n cap, .int .i64 (s : Int)] w fun e w' => e = .returned (.int .i64 ((s + 5 * n : Nat) : Int)) ∧ Below w.heap.size w w' := by
  have HV := Lib.hid hv; clear hv
  have HM := Lib.hid hm; clear hm
  go_enter Try.func47, Try.ntmps47
  go_wp2
  go_loopw [1, 5] (fun q i wr => ∃ (k : Nat), k ≤ n ∧ i = .int .i64 k ∧ q = .int .i64 ((s + 5 * k : Nat) : Int) ∧ Below w.heap.size w wr) (fun _ i _ => n - intV i)
  case atStart => exact ⟨0, Nat.zero_le _, rfl, rfl, Below.refl _ _⟩
  case round =>
    obtain ⟨k, hk, rfl, rfl, hbel⟩ := hrel
    have HB := Lib.hid hbel; clear hbel
    by_cases hlt : k < n
    · have hc := HM.out k (by omega)
      obtain ⟨g, o, rfl, hg, h5⟩ := HV.out.2.2.2 k _ hc
      obtain ⟨c0, c1, c2, c3, c4⟩ : At5 wr g (o + k * 5) (mkC s k) := h5.same (HB.out.block g hg)
      have hg' : g < wr.heap.size := Nat.lt_of_lt_of_le hg HB.out.size
      have HT := Lib.hid (fun w => markText_any (s + 5 * k) w (by omega) (by omega))
      have HT2 := Lib.hid (fun w => markText_next (s + 5 * k) w (by omega))
      have e0 : (mkC s k).r = tx (mtx (s + 5 * k)) := rfl
      have e1 : (mkC s k).b = tx (mtx (s + 5 * k + 1)) := rfl
      have e2 : (mkC s k).t = ((s + 5 * k : Nat) : Int) + 1 + 1 := rfl
      have e3 : (mkC s k).v = ((s + 5 * k : Nat) : Int) + 1 + 1 + 1 := rfl
      have e4 : (mkC s k).g = ((((s + 5 * k : Nat) : Int) + 1 + 1 + 1 + 1) % 3 == 0) := rfl
      generalize mkC s k = c at *
      rw [← e0] at HT
      rw [← e1] at HT2
      clear hc h5 hg e0 e1
      generalize hq : s + 5 * k = q at *
      have hq2 : (q : Int) ≤ 30000000 := by omega
      have hq3 : (0 : Int) ≤ (q : Int) := by omega
      have i1 : (k : Int) < (n : Int) := by omega
      have i2 : (0 : Int) ≤ (k : Int) := by omega
      have s0 : (c.r.toList == c.r.toList) = true := by simp
      have s1 : (c.b.toList == c.b.toList) = true := by simp
      have SOF := Lib.hid (show ∀ z, Below wr.heap.size wr z → (z.cell? ⟨g, o + k * 5, none⟩ = some (.string c.r) ∧ z.cell? ⟨g, o + k * 5 + 1, none⟩ = some (.string c.b) ∧ z.cell? ⟨g, o + k * 5 + 2, none⟩ = some (.int .i64 c.t) ∧ z.cell? ⟨g, o + k * 5 + 3, none⟩ = some (.int .i64 c.v) ∧ z.cell? ⟨g, o + k * 5 + 4, none⟩ = some (.bool c.g) ∧ Below wr.heap.size wr z) from fun z hz => ⟨coc hz hg' c0, coc hz hg' c1, coc hz hg' c2, coc hz hg' c3, coc hz hg' c4,  hz⟩)
      have E2 := Lib.hid e2; clear e2
      have E3 := Lib.hid e3; clear e3
      have E4 := Lib.hid e4; clear e4
      clear c0 c1 c2 c3 c4
      go_wp2_with fail
      refine wp_region_held_drew (S := fun z => z.cell? ⟨g, o + k * 5, none⟩ = some (.string c.r) ∧ z.cell? ⟨g, o + k * 5 + 1, none⟩ = some (.string c.b) ∧ z.cell? ⟨g, o + k * 5 + 2, none⟩ = some (.int .i64 c.t) ∧ z.cell? ⟨g, o + k * 5 + 3, none⟩ = some (.int .i64 c.v) ∧ z.cell? ⟨g, o + k * 5 + 4, none⟩ = some (.bool c.g) ∧ Below wr.heap.size wr z) (by kernel_rfl) (SOF.out _ (Below.refl _ _).drew) (fun hHeld => ?_)
      refine wpAnyH_take (i := 0) (v := ?v0a) rfl (by kernel_rfl) (by kernel_rfl) (by kernel_rfl) (fun _ _ _ h => h) (Or.inl ⟨by rfl, ?hy0a⟩) (by assumption) ?rest0a
      case hy0a => (intro zz hSw; (try dsimp only at hSw); go_simp; (try with_reducible rfl))
      change wpAnyH _ _ _ _ _ _ _ (Act.put _ (some 12) _) _
      simp only [Act.put, List.setIfInBounds_toArray, List.set_cons_zero, List.set_cons_succ]
      refine wpAnyH_take (i := 1) (v := ?v1a) rfl (by kernel_rfl) (by kernel_rfl) (by kernel_rfl) (fun _ _ _ h => h) (Or.inl ⟨by rfl, ?hy1a⟩) (by assumption) ?rest1a
      case hy1a => (intro zz hSw; (try dsimp only at hSw); go_simp; (try with_reducible rfl))
      change wpAnyH _ _ _ _ _ _ _ (Act.put _ (some 13) _) _
      simp only [Act.put, List.setIfInBounds_toArray, List.set_cons_zero, List.set_cons_succ]
      refine wpAnyH_take (i := 2) (v := ?v2a) rfl (by kernel_rfl) (by kernel_rfl) (by kernel_rfl) (fun _ _ _ h => h) (Or.inl ⟨by rfl, ?hy2a⟩) (by assumption) ?rest2a
      case hy2a => (intro zz hSw; (try dsimp only at hSw); go_simp; (try with_reducible rfl))
      change wpAnyH _ _ _ _ _ _ _ (Act.put _ (some 14) _) _
      simp only [Act.put, List.setIfInBounds_toArray, List.set_cons_zero, List.set_cons_succ]
      refine wpAnyH_take (i := 3) (v := ?v3a) rfl (by kernel_rfl) (by kernel_rfl) (by kernel_rfl) (fun _ _ _ h => h) (Or.inl ⟨by rfl, ?hy3a⟩) (by assumption) ?rest3a
      case hy3a => (intro zz hSw; (try dsimp only at hSw); go_simp; (try with_reducible rfl))
      change wpAnyH _ _ _ _ _ _ _ (Act.put _ (some 15) _) _
      simp only [Act.put, List.setIfInBounds_toArray, List.set_cons_zero, List.set_cons_succ]
      refine wpAnyH_take (i := 4) (v := ?v4a) rfl (by kernel_rfl) (by kernel_rfl) (by kernel_rfl) (fun _ _ _ h => h) (Or.inl ⟨by rfl, ?hy4a⟩) (by assumption) ?rest4a
      case hy4a => (intro zz hSw; (try dsimp only at hSw); go_simp; (try with_reducible rfl))
      change wpAnyH _ _ _ _ _ _ _ (Act.put _ (some 16) _) _
      simp only [Act.put, List.setIfInBounds_toArray, List.set_cons_zero, List.set_cons_succ]
      refine wpAnyH_take (i := 5) (v := ?v5a) rfl (by kernel_rfl) (by kernel_rfl) (by kernel_rfl) (fun _ _ _ h => h) (Or.inl ⟨by rfl, ?hy5a⟩) (by assumption) ?rest5a
      case hy5a => (intro zz hSw; (try dsimp only at hSw); go_simp; (try with_reducible rfl))
      change wpAnyH _ _ _ _ _ _ _ (Act.put _ (some 17) _) _
      simp only [Act.put, List.setIfInBounds_toArray, List.set_cons_zero, List.set_cons_succ]
      refine wpAnyH_take (i := 6) (v := ?v6a) rfl (by kernel_rfl) (by kernel_rfl) (by kernel_rfl) (fun _ _ _ h => h) (Or.inl ⟨by rfl, ?hy6a⟩) (by assumption) ?rest6a
      case hy6a => (intro zz hSw; (try dsimp only at hSw); go_simp; (try with_reducible rfl))
      change wpAnyH _ _ _ _ _ _ _ (Act.put _ (some 18) _) _
      simp only [Act.put, List.setIfInBounds_toArray, List.set_cons_zero, List.set_cons_succ]
      refine wpAnyH_ready (rs := [7]) (by kernel_rfl) (by simp) (AllReadyH.cons rfl (fun K hK => ?_) AllReadyH.nil)
      go_simp
      refine (HT.out _).mono ?_; rintro e w' ⟨rfl, bel⟩
      refine hK.out _ _ (SOF.out _ (bel_tr hHeld.2.2.2.2.2 bel (Nat.le_refl _))) (fun hHeld => ?_)
      clear hK K bel
      refine wpAnyH_take (i := 8) (v := ?v8a) rfl (by kernel_rfl) (by kernel_rfl) (by kernel_rfl) (fun _ _ _ h => h) (Or.inl ⟨by rfl, ?hy8a⟩) (by assumption) ?rest8a
      case hy8a => (intro zz hSw; (try dsimp only at hSw); go_simp; (try with_reducible rfl))
      change wpAnyH _ _ _ _ _ _ _ (Act.put _ (some 20) _) _
      simp only [Act.put, List.setIfInBounds_toArray, List.set_cons_zero, List.set_cons_succ]
      refine wpAnyH_done (by kernel_rfl) ?_ _
      have B1 := Lib.hid hHeld.2.2.2.2.2
      obtain ⟨c0, c1, c2, c3, c4, -⟩ := hHeld
      clear SOF
      have hg2 : g < w'.heap.size := Nat.lt_of_lt_of_le hg' B1.out.size
      have BW := Lib.hid (bel_tr HB.out B1.out (Nat.le_refl _)); clear B1
      generalize w' = w2 at *
      have SOG := Lib.hid (show ∀ z, Below w2.heap.size w2 z → (z.cell? ⟨g, o + k * 5, none⟩ = some (.string c.r) ∧ z.cell? ⟨g, o + k * 5 + 1, none⟩ = some (.string c.b) ∧ z.cell? ⟨g, o + k * 5 + 2, none⟩ = some (.int .i64 c.t) ∧ z.cell? ⟨g, o + k * 5 + 3, none⟩ = some (.int .i64 c.v) ∧ z.cell? ⟨g, o + k * 5 + 4, none⟩ = some (.bool c.g) ∧ Below w2.heap.size w2 z) from fun z hz => ⟨coc hz hg2 c0, coc hz hg2 c1, coc hz hg2 c2, coc hz hg2 c3, coc hz hg2 c4,  hz⟩)
      clear c0 c1 c2 c3 c4
      go_wp2_with fail
      refine wp_region_held_drew (S := fun z => z.cell? ⟨g, o + k * 5, none⟩ = some (.string c.r) ∧ z.cell? ⟨g, o + k * 5 + 1, none⟩ = some (.string c.b) ∧ z.cell? ⟨g, o + k * 5 + 2, none⟩ = some (.int .i64 c.t) ∧ z.cell? ⟨g, o + k * 5 + 3, none⟩ = some (.int .i64 c.v) ∧ z.cell? ⟨g, o + k * 5 + 4, none⟩ = some (.bool c.g) ∧ Below w2.heap.size w2 z) (by kernel_rfl) (SOG.out _ (Below.refl _ _).drew) (fun hHeld => ?_)
      refine wpAnyH_take (i := 0) (v := ?v0b) rfl (by kernel_rfl) (by kernel_rfl) (by kernel_rfl) (fun _ _ _ h => h) (Or.inl ⟨by rfl, ?hy0b⟩) (by assumption) ?rest0b
      case hy0b => (intro zz hSw; (try dsimp only at hSw); go_simp; (try with_reducible rfl))
      change wpAnyH _ _ _ _ _ _ _ (Act.put _ (some 23) _) _
      simp only [Act.put, List.setIfInBounds_toArray, List.set_cons_zero, List.set_cons_succ]
      refine wpAnyH_take (i := 1) (v := ?v1b) rfl (by kernel_rfl) (by kernel_rfl) (by kernel_rfl) (fun _ _ _ h => h) (Or.inl ⟨by rfl, ?hy1b⟩) (by assumption) ?rest1b
      case hy1b => (intro zz hSw; (try dsimp only at hSw); go_simp; (try with_reducible rfl))
      change wpAnyH _ _ _ _ _ _ _ (Act.put _ (some 24) _) _
      simp only [Act.put, List.setIfInBounds_toArray, List.set_cons_zero, List.set_cons_succ]
      refine wpAnyH_take (i := 2) (v := ?v2b) rfl (by kernel_rfl) (by kernel_rfl) (by kernel_rfl) (fun _ _ _ h => h) (Or.inl ⟨by rfl, ?hy2b⟩) (by assumption) ?rest2b
      case hy2b => (intro zz hSw; (try dsimp only at hSw); go_simp; (try with_reducible rfl))
      change wpAnyH _ _ _ _ _ _ _ (Act.put _ (some 25) _) _
      simp only [Act.put, List.setIfInBounds_toArray, List.set_cons_zero, List.set_cons_succ]
      refine wpAnyH_take (i := 3) (v := ?v3b) rfl (by kernel_rfl) (by kernel_rfl) (by kernel_rfl) (fun _ _ _ h => h) (Or.inl ⟨by rfl, ?hy3b⟩) (by assumption) ?rest3b
      case hy3b => (intro zz hSw; (try dsimp only at hSw); go_simp; (try with_reducible rfl))
      change wpAnyH _ _ _ _ _ _ _ (Act.put _ (some 26) _) _
      simp only [Act.put, List.setIfInBounds_toArray, List.set_cons_zero, List.set_cons_succ]
      refine wpAnyH_take (i := 4) (v := ?v4b) rfl (by kernel_rfl) (by kernel_rfl) (by kernel_rfl) (fun _ _ _ h => h) (Or.inl ⟨by rfl, ?hy4b⟩) (by assumption) ?rest4b
      case hy4b => (intro zz hSw; (try dsimp only at hSw); go_simp; (try with_reducible rfl))
      change wpAnyH _ _ _ _ _ _ _ (Act.put _ (some 27) _) _
      simp only [Act.put, List.setIfInBounds_toArray, List.set_cons_zero, List.set_cons_succ]
      refine wpAnyH_take (i := 5) (v := ?v5b) rfl (by kernel_rfl) (by kernel_rfl) (by kernel_rfl) (fun _ _ _ h => h) (Or.inl ⟨by rfl, ?hy5b⟩) (by assumption) ?rest5b
      case hy5b => (intro zz hSw; (try dsimp only at hSw); go_simp; (try with_reducible rfl))
      change wpAnyH _ _ _ _ _ _ _ (Act.put _ (some 28) _) _
      simp only [Act.put, List.setIfInBounds_toArray, List.set_cons_zero, List.set_cons_succ]
      refine wpAnyH_take (i := 6) (v := ?v6b) rfl (by kernel_rfl) (by kernel_rfl) (by kernel_rfl) (fun _ _ _ h => h) (Or.inl ⟨by rfl, ?hy6b⟩) (by assumption) ?rest6b
      case hy6b => (intro zz hSw; (try dsimp only at hSw); go_simp; (try with_reducible rfl))
      change wpAnyH _ _ _ _ _ _ _ (Act.put _ (some 29) _) _
      simp only [Act.put, List.setIfInBounds_toArray, List.set_cons_zero, List.set_cons_succ]
      refine wpAnyH_ready (rs := [7]) (by kernel_rfl) (by simp) (AllReadyH.cons rfl (fun K hK => ?_) AllReadyH.nil)
      go_simp
      refine (HT2.out _).mono ?_; rintro e w' ⟨rfl, bel⟩
      refine hK.out _ _ (SOG.out _ (bel_tr hHeld.2.2.2.2.2 bel (Nat.le_refl _))) (fun hHeld => ?_)
      clear hK K bel
      refine wpAnyH_take (i := 8) (v := ?v8b) rfl (by kernel_rfl) (by kernel_rfl) (by kernel_rfl) (fun _ _ _ h => h) (Or.inl ⟨by rfl, ?hy8b⟩) (by assumption) ?rest8b
      case hy8b => (intro zz hSw; (try dsimp only at hSw); go_simp; (try with_reducible rfl))
      change wpAnyH _ _ _ _ _ _ _ (Act.put _ (some 31) _) _
      simp only [Act.put, List.setIfInBounds_toArray, List.set_cons_zero, List.set_cons_succ]
      refine wpAnyH_done (by kernel_rfl) ?_ _
      have B2 := Lib.hid hHeld.2.2.2.2.2
      obtain ⟨c0, c1, c2, c3, c4, -⟩ := hHeld
      have BX := Lib.hid (bel_tr BW.out B2.out (Nat.le_refl _)); clear B2 BW SOG
      rw [E2.out] at c2
      rw [E3.out] at c3
      rw [E4.out] at c4
      have t2 : (((q : Int) + 1 + 1) != ((q : Int) + 1 + 1)) = false := by simp
      have t3 : (((q : Int) + 1 + 1 + 1) != ((q : Int) + 1 + 1 + 1)) = false := by simp
      have t4 : ((((q : Int) + 1 + 1 + 1 + 1) % 3 == 0) != (((q : Int) + 1 + 1 + 1 + 1) % 3 == 0)) = false := by simp
      go_wp2_with fail
      go_roundw
      case rel => exact ⟨k + 1, by omega, by go_num, by congr 1; omega, BX.out⟩
      case measure => simp [intV]; omega
    · obtain rfl : k = n := by omega
      go_wp2_with fail
      go_ret
      exact ⟨rfl, HB.out⟩
end Go.Proofs.Ytopcjiaakefmeaa.Cl
