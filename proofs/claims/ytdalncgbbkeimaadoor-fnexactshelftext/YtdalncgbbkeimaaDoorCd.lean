/-
  The contract of impl.CellsOk: it gives 'okL' of what the slice reads as. (Made by gen_cd.py.)
-/
import Derived.Test.YtdalncgbbkeimaaDoorCc
namespace Go.Proofs.YtdalncgbbkeimaaDoor.Cl
open Go.RowKit Wd Rp Kp
set_option linter.unusedVariables false
set_option maxRecDepth 100000 in
set_option maxHeartbeats 4000000 in
theorem implCells_any (w : World) (a : Option Addr) (cap : Nat) (l : List Cel) (hv : Vw w a cap l) (hlen : l.length ≤ 4194304) :
    Calls Tryd.prog 75 #[.slice a l.length cap] w fun e w' => e = .returned (.bool (okL l)) ∧ Below w.heap.size w w' := by
  have HV := Lib.hid hv; clear hv
  by_cases h200 : 200 < l.length
  · have HE := Lib.hid (show okL l = false by unfold okL; rw [decide_eq_false (by omega), Bool.and_false])
    have q0 : (200 : Int) < (l.length : Int) := by omega
    go_enter Tryd.func75, Tryd.ntmps75
    go_wp2
    go_ret
    exact ⟨by rw [HE.out]; rfl, Below.refl _ _⟩
  have q0 : ¬ (200 : Int) < (l.length : Int) := by omega
  generalize hn : l.length = n at *
  go_enter Tryd.func75, Tryd.ntmps75
  go_wp2
  go_loopw [3, 4, 10] (fun _ _ i wr => ∃ k : Nat, k ≤ n ∧ i = .int .i64 k ∧ (∀ j, j < k → okAt l j = true) ∧ Below w.heap.size w wr) (fun _ _ i _ => n - intV i)
  case atStart => exact ⟨0, Nat.zero_le _, rfl, (fun j hj => by omega), Below.refl _ _⟩
  case round =>
    obtain ⟨k, hk, rfl, hok, hbel⟩ := hrel
    have HB := Lib.hid hbel; clear hbel
    have HO := Lib.hid hok; clear hok
    by_cases hlt : k < n
    · obtain ⟨c, hc⟩ : ∃ c, l[k]? = some c := ⟨l[k], List.getElem?_eq_getElem (by omega)⟩
      obtain ⟨g, o, rfl, hg, h5⟩ := HV.out.2.2.2 k c hc
      obtain ⟨c0, c1, c2, c3, c4⟩ : At5 wr g (o + k * 5) c := h5.same (HB.out.block g hg)
      have hg' : g < wr.heap.size := Nat.lt_of_lt_of_le hg HB.out.size
      clear h5
      go_wp2_with fail
      have X5 := Bc.made c.r c.b c.t c.v c.g wr 36
      have b5 := bel1 wr (.cells #[.string c.r, .string c.b, .int .i64 c.t, .int .i64 c.v, .bool c.g] 36)
      generalize wr.alloc (Obj.cells #[Value.string c.r, Value.string c.b, Value.int IntKind.i64 c.t, Value.int IntKind.i64 c.v, Value.bool c.g] 36) = w5 at X5 b5 ⊢
      have HB5 := Lib.hid (bel_tr HB.out b5 (Nat.le_refl _))
      have hg5 : g < w5.heap.size := Nat.lt_of_lt_of_le hg' b5.size
      obtain ⟨x0, x1, x2, x3, x4, hm5⟩ := X5
      generalize wr.heap.size = m at *
      clear c0 c1 c2 c3 c4 b5
      cases hco : c.ok
      · have HN := Lib.hid (show okL l = false from okL_no (k := k) (by omega) (by
          cases k with
          | zero => rw [okAt_zero hc, hco]
          | succ j => rw [okAt_succ hc (List.getElem?_eq_getElem (by omega)), hco]; rfl))
        have HC := Lib.hid (implCell_is hco); clear hco hc hg
        have HS := Lib.hid (show w5.drew.cell? ⟨m, 0, none⟩ = some (.string c.r) ∧ w5.drew.cell? ⟨m, 1, none⟩ = some (.string c.b) ∧ w5.drew.cell? ⟨m, 2, none⟩ = some (.int .i64 c.t) ∧ w5.drew.cell? ⟨m, 3, none⟩ = some (.int .i64 c.v) ∧ w5.drew.cell? ⟨m, 4, none⟩ = some (.bool c.g) ∧ Below w5.heap.size w5 w5.drew from ⟨x0, x1, x2, x3, x4, (Below.refl _ _).drew⟩)
        clear x0 x1 x2 x3 x4
        refine wp_region_held_drew (S := fun z => z.cell? ⟨m, 0, none⟩ = some (.string c.r) ∧ z.cell? ⟨m, 1, none⟩ = some (.string c.b) ∧ z.cell? ⟨m, 2, none⟩ = some (.int .i64 c.t) ∧ z.cell? ⟨m, 3, none⟩ = some (.int .i64 c.v) ∧ z.cell? ⟨m, 4, none⟩ = some (.bool c.g) ∧ Below w5.heap.size w5 z) (by kernel_rfl) HS.out (fun hHeld => ?_)
        refine wpAnyH_take (i := 0) (v := ?v0a) rfl (by kernel_rfl) (by kernel_rfl) (by kernel_rfl) (fun _ _ _ h => h) (Or.inl ⟨by rfl, ?hy0a⟩) (by assumption) ?rest0a
        case hy0a => (intro zz hSw; (try dsimp only at hSw); go_simp; (try with_reducible rfl))
        change wpAnyH _ _ _ _ _ _ _ (Act.put _ (some 15) _) _
        simp only [Act.put, List.setIfInBounds_toArray, List.set_cons_zero, List.set_cons_succ]
        refine wpAnyH_ready (rs := [1]) (by kernel_rfl) (by simp) (AllReadyH.cons rfl (fun K hK => ?_) AllReadyH.nil)
        go_simp
        refine (HC.out _).mono ?_; rintro e w' ⟨rfl, bel⟩
        refine hK.out _ _ (⟨cob bel hHeld.2.2.2.2.2 hm5 hHeld.1, cob bel hHeld.2.2.2.2.2 hm5 hHeld.2.1, cob bel hHeld.2.2.2.2.2 hm5 hHeld.2.2.1, cob bel hHeld.2.2.2.2.2 hm5 hHeld.2.2.2.1, cob bel hHeld.2.2.2.2.2 hm5 hHeld.2.2.2.2.1, bel_tr hHeld.2.2.2.2.2 bel (Nat.le_refl _)⟩) (fun hHeld => ?_)
        clear hK K bel
        refine wpAnyH_take (i := 2) (v := ?v2a) rfl (by kernel_rfl) (by kernel_rfl) (by kernel_rfl) (fun _ _ _ h => h) (Or.inl ⟨by rfl, ?hy2a⟩) (by assumption) ?rest2a
        case hy2a => (intro zz hSw; (try dsimp only at hSw); go_simp; (try with_reducible rfl))
        change wpAnyH _ _ _ _ _ _ _ (Act.put _ (some 17) _) _
        simp only [Act.put, List.setIfInBounds_toArray, List.set_cons_zero, List.set_cons_succ]
        refine wpAnyH_take (i := 3) (v := ?v3a) rfl (by kernel_rfl) (by kernel_rfl) (by kernel_rfl) (fun _ _ _ h => h) (Or.inl ⟨by rfl, ?hy3a⟩) (by assumption) ?rest3a
        case hy3a => (intro zz hSw; (try dsimp only at hSw); go_simp; (try with_reducible rfl))
        change wpAnyH _ _ _ _ _ _ _ (Act.put _ (some 18) _) _
        simp only [Act.put, List.setIfInBounds_toArray, List.set_cons_zero, List.set_cons_succ]
        refine wpAnyH_take (i := 4) (v := undef) rfl (by kernel_rfl) (by kernel_rfl) (by kernel_rfl) (fun _ _ _ h => h) (Or.inr ⟨by rfl, rfl⟩) (by assumption) ?_
        change wpAnyH _ _ _ _ _ _ _ (Act.put _ (some 19) _) _
        simp only [Act.put, List.setIfInBounds_toArray, List.set_cons_zero, List.set_cons_succ]
        refine wpAnyH_take (i := 5) (v := undef) rfl (by kernel_rfl) (by kernel_rfl) (by kernel_rfl) (fun _ _ _ h => h) (Or.inr ⟨by rfl, rfl⟩) (by assumption) ?_
        change wpAnyH _ _ _ _ _ _ _ (Act.put _ (some 20) _) _
        simp only [Act.put, List.setIfInBounds_toArray, List.set_cons_zero, List.set_cons_succ]
        refine wpAnyH_take (i := 6) (v := undef) rfl (by kernel_rfl) (by kernel_rfl) (by kernel_rfl) (fun _ _ _ h => h) (Or.inr ⟨by rfl, rfl⟩) (by assumption) ?_
        change wpAnyH _ _ _ _ _ _ _ (Act.put _ (some 21) _) _
        simp only [Act.put, List.setIfInBounds_toArray, List.set_cons_zero, List.set_cons_succ]
        refine wpAnyH_take (i := 7) (v := undef) rfl (by kernel_rfl) (by kernel_rfl) (by kernel_rfl) (fun _ _ _ h => h) (Or.inr ⟨by rfl, rfl⟩) (by assumption) ?_
        change wpAnyH _ _ _ _ _ _ _ (Act.put _ (some 22) _) _
        simp only [Act.put, List.setIfInBounds_toArray, List.set_cons_zero, List.set_cons_succ]
        refine wpAnyH_take (i := 8) (v := undef) rfl (by kernel_rfl) (by kernel_rfl) (by kernel_rfl) (fun _ _ _ h => h) (Or.inr ⟨by rfl, rfl⟩) (by assumption) ?_
        change wpAnyH _ _ _ _ _ _ _ (Act.put _ (some 23) _) _
        simp only [Act.put, List.setIfInBounds_toArray, List.set_cons_zero, List.set_cons_succ]
        refine wpAnyH_take (i := 9) (v := undef) rfl (by kernel_rfl) (by kernel_rfl) (by kernel_rfl) (fun _ _ _ h => h) (Or.inr ⟨by rfl, rfl⟩) (by assumption) ?_
        change wpAnyH _ _ _ _ _ _ _ (Act.put _ (some 24) _) _
        simp only [Act.put, List.setIfInBounds_toArray, List.set_cons_zero, List.set_cons_succ]
        refine wpAnyH_take (i := 10) (v := undef) rfl (by kernel_rfl) (by kernel_rfl) (by kernel_rfl) (fun _ _ _ h => h) (Or.inr ⟨by rfl, rfl⟩) (by assumption) ?_
        change wpAnyH _ _ _ _ _ _ _ (Act.put _ (some 25) _) _
        simp only [Act.put, List.setIfInBounds_toArray, List.set_cons_zero, List.set_cons_succ]
        refine wpAnyH_take (i := 11) (v := undef) rfl (by kernel_rfl) (by kernel_rfl) (by kernel_rfl) (fun _ _ _ h => h) (Or.inr ⟨by rfl, rfl⟩) (by assumption) ?_
        change wpAnyH _ _ _ _ _ _ _ (Act.put _ (some 26) _) _
        simp only [Act.put, List.setIfInBounds_toArray, List.set_cons_zero, List.set_cons_succ]
        refine wpAnyH_take (i := 12) (v := undef) rfl (by kernel_rfl) (by kernel_rfl) (by kernel_rfl) (fun _ _ _ h => h) (Or.inr ⟨by rfl, rfl⟩) (by assumption) ?_
        change wpAnyH _ _ _ _ _ _ _ (Act.put _ (some 27) _) _
        simp only [Act.put, List.setIfInBounds_toArray, List.set_cons_zero, List.set_cons_succ]
        refine wpAnyH_take (i := 13) (v := undef) rfl (by kernel_rfl) (by kernel_rfl) (by kernel_rfl) (fun _ _ _ h => h) (Or.inr ⟨by rfl, rfl⟩) (by assumption) ?_
        change wpAnyH _ _ _ _ _ _ _ (Act.put _ (some 28) _) _
        simp only [Act.put, List.setIfInBounds_toArray, List.set_cons_zero, List.set_cons_succ]
        refine wpAnyH_take (i := 14) (v := undef) rfl (by kernel_rfl) (by kernel_rfl) (by kernel_rfl) (fun _ _ _ h => h) (Or.inr ⟨by rfl, rfl⟩) (by assumption) ?_
        change wpAnyH _ _ _ _ _ _ _ (Act.put _ (some 29) _) _
        simp only [Act.put, List.setIfInBounds_toArray, List.set_cons_zero, List.set_cons_succ]
        refine wpAnyH_take (i := 15) (v := undef) rfl (by kernel_rfl) (by kernel_rfl) (by kernel_rfl) (fun _ _ _ h => h) (Or.inr ⟨by rfl, rfl⟩) (by assumption) ?_
        change wpAnyH _ _ _ _ _ _ _ (Act.put _ (some 30) _) _
        simp only [Act.put, List.setIfInBounds_toArray, List.set_cons_zero, List.set_cons_succ]
        refine wpAnyH_take (i := 16) (v := undef) rfl (by kernel_rfl) (by kernel_rfl) (by kernel_rfl) (fun _ _ _ h => h) (Or.inr ⟨by rfl, rfl⟩) (by assumption) ?_
        change wpAnyH _ _ _ _ _ _ _ (Act.put _ (some 31) _) _
        simp only [Act.put, List.setIfInBounds_toArray, List.set_cons_zero, List.set_cons_succ]
        refine wpAnyH_take (i := 17) (v := undef) rfl (by kernel_rfl) (by kernel_rfl) (by kernel_rfl) (fun _ _ _ h => h) (Or.inr ⟨by rfl, rfl⟩) (by assumption) ?_
        change wpAnyH _ _ _ _ _ _ _ (Act.put _ (some 32) _) _
        simp only [Act.put, List.setIfInBounds_toArray, List.set_cons_zero, List.set_cons_succ]
        refine wpAnyH_take (i := 18) (v := ?v18a) rfl (by kernel_rfl) (by kernel_rfl) (by kernel_rfl) (fun _ _ _ h => h) (Or.inl ⟨by rfl, ?hy18a⟩) (by assumption) ?rest18a
        case hy18a => (intro zz hSw; (try dsimp only at hSw); go_simp; (try with_reducible rfl))
        change wpAnyH _ _ _ _ _ _ _ (Act.put _ (some 33) _) _
        simp only [Act.put, List.setIfInBounds_toArray, List.set_cons_zero, List.set_cons_succ]
        refine wpAnyH_done (by kernel_rfl) ?_ _
        have HG := Lib.hid (bel_tr HB5.out hHeld.2.2.2.2.2 (Nat.le_refl _)); clear hHeld HS
        go_wp2_with fail
        go_ret
        exact ⟨by rw [HN.out]; rfl, HG.out⟩
      · have HC := Lib.hid (implCell_is hco)
        cases k with
        | zero =>
          have hst := okAt_zero hc
          have HST := Lib.hid (hst.trans hco); clear hst hco hc hg
          have HS := Lib.hid (show w5.drew.cell? ⟨m, 0, none⟩ = some (.string c.r) ∧ w5.drew.cell? ⟨m, 1, none⟩ = some (.string c.b) ∧ w5.drew.cell? ⟨m, 2, none⟩ = some (.int .i64 c.t) ∧ w5.drew.cell? ⟨m, 3, none⟩ = some (.int .i64 c.v) ∧ w5.drew.cell? ⟨m, 4, none⟩ = some (.bool c.g) ∧ Below w5.heap.size w5 w5.drew from ⟨x0, x1, x2, x3, x4, (Below.refl _ _).drew⟩)
          clear x0 x1 x2 x3 x4
          refine wp_region_held_drew (S := fun z => z.cell? ⟨m, 0, none⟩ = some (.string c.r) ∧ z.cell? ⟨m, 1, none⟩ = some (.string c.b) ∧ z.cell? ⟨m, 2, none⟩ = some (.int .i64 c.t) ∧ z.cell? ⟨m, 3, none⟩ = some (.int .i64 c.v) ∧ z.cell? ⟨m, 4, none⟩ = some (.bool c.g) ∧ Below w5.heap.size w5 z) (by kernel_rfl) HS.out (fun hHeld => ?_)
          refine wpAnyH_take (i := 0) (v := ?v0b) rfl (by kernel_rfl) (by kernel_rfl) (by kernel_rfl) (fun _ _ _ h => h) (Or.inl ⟨by rfl, ?hy0b⟩) (by assumption) ?rest0b
          case hy0b => (intro zz hSw; (try dsimp only at hSw); go_simp; (try with_reducible rfl))
          change wpAnyH _ _ _ _ _ _ _ (Act.put _ (some 15) _) _
          simp only [Act.put, List.setIfInBounds_toArray, List.set_cons_zero, List.set_cons_succ]
          refine wpAnyH_ready (rs := [1]) (by kernel_rfl) (by simp) (AllReadyH.cons rfl (fun K hK => ?_) AllReadyH.nil)
          go_simp
          refine (HC.out _).mono ?_; rintro e w' ⟨rfl, bel⟩
          refine hK.out _ _ (⟨cob bel hHeld.2.2.2.2.2 hm5 hHeld.1, cob bel hHeld.2.2.2.2.2 hm5 hHeld.2.1, cob bel hHeld.2.2.2.2.2 hm5 hHeld.2.2.1, cob bel hHeld.2.2.2.2.2 hm5 hHeld.2.2.2.1, cob bel hHeld.2.2.2.2.2 hm5 hHeld.2.2.2.2.1, bel_tr hHeld.2.2.2.2.2 bel (Nat.le_refl _)⟩) (fun hHeld => ?_)
          clear hK K bel
          refine wpAnyH_take (i := 2) (v := ?v2b) rfl (by kernel_rfl) (by kernel_rfl) (by kernel_rfl) (fun _ _ _ h => h) (Or.inl ⟨by rfl, ?hy2b⟩) (by assumption) ?rest2b
          case hy2b => (intro zz hSw; (try dsimp only at hSw); go_simp; (try with_reducible rfl))
          change wpAnyH _ _ _ _ _ _ _ (Act.put _ (some 17) _) _
          simp only [Act.put, List.setIfInBounds_toArray, List.set_cons_zero, List.set_cons_succ]
          refine wpAnyH_take (i := 3) (v := ?v3b) rfl (by kernel_rfl) (by kernel_rfl) (by kernel_rfl) (fun _ _ _ h => h) (Or.inl ⟨by rfl, ?hy3b⟩) (by assumption) ?rest3b
          case hy3b => (intro zz hSw; (try dsimp only at hSw); go_simp; (try with_reducible rfl))
          change wpAnyH _ _ _ _ _ _ _ (Act.put _ (some 18) _) _
          simp only [Act.put, List.setIfInBounds_toArray, List.set_cons_zero, List.set_cons_succ]
          refine wpAnyH_take (i := 4) (v := ?v4b) rfl (by kernel_rfl) (by kernel_rfl) (by kernel_rfl) (fun _ _ _ h => h) (Or.inl ⟨by rfl, ?hy4b⟩) (by assumption) ?rest4b
          case hy4b => (intro zz hSw; (try dsimp only at hSw); go_simp; (try with_reducible rfl))
          change wpAnyH _ _ _ _ _ _ _ (Act.put _ (some 19) _) _
          simp only [Act.put, List.setIfInBounds_toArray, List.set_cons_zero, List.set_cons_succ]
          refine wpAnyH_take (i := 5) (v := ?v5b) rfl (by kernel_rfl) (by kernel_rfl) (by kernel_rfl) (fun _ _ _ h => h) (Or.inl ⟨by rfl, ?hy5b⟩) (by assumption) ?rest5b
          case hy5b => (intro zz hSw; (try dsimp only at hSw); go_simp; (try with_reducible rfl))
          change wpAnyH _ _ _ _ _ _ _ (Act.put _ (some 20) _) _
          simp only [Act.put, List.setIfInBounds_toArray, List.set_cons_zero, List.set_cons_succ]
          refine wpAnyH_take (i := 6) (v := ?v6b) rfl (by kernel_rfl) (by kernel_rfl) (by kernel_rfl) (fun _ _ _ h => h) (Or.inl ⟨by rfl, ?hy6b⟩) (by assumption) ?rest6b
          case hy6b => (intro zz hSw; (try dsimp only at hSw); go_simp; (try with_reducible rfl))
          change wpAnyH _ _ _ _ _ _ _ (Act.put _ (some 21) _) _
          simp only [Act.put, List.setIfInBounds_toArray, List.set_cons_zero, List.set_cons_succ]
          refine wpAnyH_take (i := 7) (v := undef) rfl (by kernel_rfl) (by kernel_rfl) (by kernel_rfl) (fun _ _ _ h => h) (Or.inr ⟨by rfl, rfl⟩) (by assumption) ?_
          change wpAnyH _ _ _ _ _ _ _ (Act.put _ (some 22) _) _
          simp only [Act.put, List.setIfInBounds_toArray, List.set_cons_zero, List.set_cons_succ]
          refine wpAnyH_take (i := 8) (v := undef) rfl (by kernel_rfl) (by kernel_rfl) (by kernel_rfl) (fun _ _ _ h => h) (Or.inr ⟨by rfl, rfl⟩) (by assumption) ?_
          change wpAnyH _ _ _ _ _ _ _ (Act.put _ (some 23) _) _
          simp only [Act.put, List.setIfInBounds_toArray, List.set_cons_zero, List.set_cons_succ]
          refine wpAnyH_take (i := 9) (v := undef) rfl (by kernel_rfl) (by kernel_rfl) (by kernel_rfl) (fun _ _ _ h => h) (Or.inr ⟨by rfl, rfl⟩) (by assumption) ?_
          change wpAnyH _ _ _ _ _ _ _ (Act.put _ (some 24) _) _
          simp only [Act.put, List.setIfInBounds_toArray, List.set_cons_zero, List.set_cons_succ]
          refine wpAnyH_take (i := 10) (v := undef) rfl (by kernel_rfl) (by kernel_rfl) (by kernel_rfl) (fun _ _ _ h => h) (Or.inr ⟨by rfl, rfl⟩) (by assumption) ?_
          change wpAnyH _ _ _ _ _ _ _ (Act.put _ (some 25) _) _
          simp only [Act.put, List.setIfInBounds_toArray, List.set_cons_zero, List.set_cons_succ]
          refine wpAnyH_take (i := 11) (v := undef) rfl (by kernel_rfl) (by kernel_rfl) (by kernel_rfl) (fun _ _ _ h => h) (Or.inr ⟨by rfl, rfl⟩) (by assumption) ?_
          change wpAnyH _ _ _ _ _ _ _ (Act.put _ (some 26) _) _
          simp only [Act.put, List.setIfInBounds_toArray, List.set_cons_zero, List.set_cons_succ]
          refine wpAnyH_take (i := 12) (v := undef) rfl (by kernel_rfl) (by kernel_rfl) (by kernel_rfl) (fun _ _ _ h => h) (Or.inr ⟨by rfl, rfl⟩) (by assumption) ?_
          change wpAnyH _ _ _ _ _ _ _ (Act.put _ (some 27) _) _
          simp only [Act.put, List.setIfInBounds_toArray, List.set_cons_zero, List.set_cons_succ]
          refine wpAnyH_take (i := 13) (v := undef) rfl (by kernel_rfl) (by kernel_rfl) (by kernel_rfl) (fun _ _ _ h => h) (Or.inr ⟨by rfl, rfl⟩) (by assumption) ?_
          change wpAnyH _ _ _ _ _ _ _ (Act.put _ (some 28) _) _
          simp only [Act.put, List.setIfInBounds_toArray, List.set_cons_zero, List.set_cons_succ]
          refine wpAnyH_take (i := 14) (v := undef) rfl (by kernel_rfl) (by kernel_rfl) (by kernel_rfl) (fun _ _ _ h => h) (Or.inr ⟨by rfl, rfl⟩) (by assumption) ?_
          change wpAnyH _ _ _ _ _ _ _ (Act.put _ (some 29) _) _
          simp only [Act.put, List.setIfInBounds_toArray, List.set_cons_zero, List.set_cons_succ]
          refine wpAnyH_take (i := 15) (v := undef) rfl (by kernel_rfl) (by kernel_rfl) (by kernel_rfl) (fun _ _ _ h => h) (Or.inr ⟨by rfl, rfl⟩) (by assumption) ?_
          change wpAnyH _ _ _ _ _ _ _ (Act.put _ (some 30) _) _
          simp only [Act.put, List.setIfInBounds_toArray, List.set_cons_zero, List.set_cons_succ]
          refine wpAnyH_take (i := 16) (v := undef) rfl (by kernel_rfl) (by kernel_rfl) (by kernel_rfl) (fun _ _ _ h => h) (Or.inr ⟨by rfl, rfl⟩) (by assumption) ?_
          change wpAnyH _ _ _ _ _ _ _ (Act.put _ (some 31) _) _
          simp only [Act.put, List.setIfInBounds_toArray, List.set_cons_zero, List.set_cons_succ]
          refine wpAnyH_take (i := 17) (v := ?v17b) rfl (by kernel_rfl) (by kernel_rfl) (by kernel_rfl) (fun _ _ _ h => h) (Or.inl ⟨by rfl, ?hy17b⟩) (by assumption) ?rest17b
          case hy17b => (intro zz hSw; (try dsimp only at hSw); go_simp; (try with_reducible rfl))
          change wpAnyH _ _ _ _ _ _ _ (Act.put _ (some 32) _) _
          simp only [Act.put, List.setIfInBounds_toArray, List.set_cons_zero, List.set_cons_succ]
          refine wpAnyH_take (i := 18) (v := ?v18b) rfl (by kernel_rfl) (by kernel_rfl) (by kernel_rfl) (fun _ _ _ h => h) (Or.inl ⟨by rfl, ?hy18b⟩) (by assumption) ?rest18b
          case hy18b => (intro zz hSw; (try dsimp only at hSw); go_simp; (try with_reducible rfl))
          change wpAnyH _ _ _ _ _ _ _ (Act.put _ (some 33) _) _
          simp only [Act.put, List.setIfInBounds_toArray, List.set_cons_zero, List.set_cons_succ]
          refine wpAnyH_done (by kernel_rfl) ?_ _
          have HG := Lib.hid (bel_tr HB5.out hHeld.2.2.2.2.2 (Nat.le_refl _)); clear hHeld HS
          go_wp2_with fail
          go_roundw
          case rel => exact ⟨1, by omega, by go_num, (fun j hj => by obtain rfl : j = 0 := by omega
                                                                     exact HST.out), HG.out⟩
          case measure => simp [intV]; omega
        | succ j =>
          obtain ⟨q, hq⟩ : ∃ q, l[j]? = some q := ⟨l[j], List.getElem?_eq_getElem (by omega)⟩
          obtain ⟨g2, o2, e2, -, h6⟩ := HV.out.2.2.2 j q hq
          cases e2
          obtain ⟨y0, y1, y2, y3, y4⟩ : At5 w5 g (o + j * 5) q := h6.same (HB5.out.block g hg)
          have hst := okAt_succ hc hq
          rw [hco, Bool.true_and, ← le_ls (okAt_ok (HO.out j (by omega)) hq) hco] at hst
          have HST := Lib.hid hst; clear hst h6 hco hc hq hg y3 y4
          have i1 : (j : Int) + 1 - 1 = (j : Int) := by omega
          have i2 : (j : Int) + 1 < (n : Int) := by omega
          have i3 : (0 : Int) < (j : Int) + 1 := by omega
          have i4 : decide ((0 : Int) < (j : Int) + 1) = true := decide_eq_true i3
          have i5 : (0 : Int) ≤ (j : Int) + 1 := by omega
          have i6 : (j : Int) < (n : Int) := by omega
          have i7 : IntKind.i64.wrap (j : Int) = (j : Int) := by rw [IntKind.wrap_i64]; omega
          have HS := Lib.hid (show w5.drew.cell? ⟨m, 0, none⟩ = some (.string c.r) ∧ w5.drew.cell? ⟨m, 1, none⟩ = some (.string c.b) ∧ w5.drew.cell? ⟨m, 2, none⟩ = some (.int .i64 c.t) ∧ w5.drew.cell? ⟨m, 3, none⟩ = some (.int .i64 c.v) ∧ w5.drew.cell? ⟨m, 4, none⟩ = some (.bool c.g) ∧ w5.drew.cell? ⟨g, o + j * 5, none⟩ = some (.string q.r) ∧ w5.drew.cell? ⟨g, o + j * 5 + 1, none⟩ = some (.string q.b) ∧ w5.drew.cell? ⟨g, o + j * 5 + 2, none⟩ = some (.int .i64 q.t) ∧ Below w5.heap.size w5 w5.drew from ⟨x0, x1, x2, x3, x4, y0, y1, y2, (Below.refl _ _).drew⟩)
          clear x0 x1 x2 x3 x4 y0 y1 y2
          cases hql : q.le c
          · have HL := Lib.hid (keyLess_is hql)
            have HN := Lib.hid (show okL l = false from okL_no (k := j + 1) (by omega) (by rw [HST.out, hql])); clear hql
            refine wp_region_held_drew (S := fun z => z.cell? ⟨m, 0, none⟩ = some (.string c.r) ∧ z.cell? ⟨m, 1, none⟩ = some (.string c.b) ∧ z.cell? ⟨m, 2, none⟩ = some (.int .i64 c.t) ∧ z.cell? ⟨m, 3, none⟩ = some (.int .i64 c.v) ∧ z.cell? ⟨m, 4, none⟩ = some (.bool c.g) ∧ z.cell? ⟨g, o + j * 5, none⟩ = some (.string q.r) ∧ z.cell? ⟨g, o + j * 5 + 1, none⟩ = some (.string q.b) ∧ z.cell? ⟨g, o + j * 5 + 2, none⟩ = some (.int .i64 q.t) ∧ Below w5.heap.size w5 z) (by kernel_rfl) HS.out (fun hHeld => ?_)
            refine wpAnyH_take (i := 0) (v := ?v0c) rfl (by kernel_rfl) (by kernel_rfl) (by kernel_rfl) (fun _ _ _ h => h) (Or.inl ⟨by rfl, ?hy0c⟩) (by assumption) ?rest0c
            case hy0c => (intro zz hSw; (try dsimp only at hSw); go_simp; (try with_reducible rfl))
            change wpAnyH _ _ _ _ _ _ _ (Act.put _ (some 15) _) _
            simp only [Act.put, List.setIfInBounds_toArray, List.set_cons_zero, List.set_cons_succ]
            refine wpAnyH_ready (rs := [1]) (by kernel_rfl) (by simp) (AllReadyH.cons rfl (fun K hK => ?_) AllReadyH.nil)
            go_simp
            refine (HC.out _).mono ?_; rintro e w' ⟨rfl, bel⟩
            refine hK.out _ _ (⟨cob bel hHeld.2.2.2.2.2.2.2.2 hm5 hHeld.1, cob bel hHeld.2.2.2.2.2.2.2.2 hm5 hHeld.2.1, cob bel hHeld.2.2.2.2.2.2.2.2 hm5 hHeld.2.2.1, cob bel hHeld.2.2.2.2.2.2.2.2 hm5 hHeld.2.2.2.1, cob bel hHeld.2.2.2.2.2.2.2.2 hm5 hHeld.2.2.2.2.1, cob bel hHeld.2.2.2.2.2.2.2.2 hg5 hHeld.2.2.2.2.2.1, cob bel hHeld.2.2.2.2.2.2.2.2 hg5 hHeld.2.2.2.2.2.2.1, cob bel hHeld.2.2.2.2.2.2.2.2 hg5 hHeld.2.2.2.2.2.2.2.1, bel_tr hHeld.2.2.2.2.2.2.2.2 bel (Nat.le_refl _)⟩) (fun hHeld => ?_)
            clear hK K bel
            refine wpAnyH_take (i := 2) (v := ?v2c) rfl (by kernel_rfl) (by kernel_rfl) (by kernel_rfl) (fun _ _ _ h => h) (Or.inl ⟨by rfl, ?hy2c⟩) (by assumption) ?rest2c
            case hy2c => (intro zz hSw; (try dsimp only at hSw); go_simp; (try with_reducible rfl))
            change wpAnyH _ _ _ _ _ _ _ (Act.put _ (some 17) _) _
            simp only [Act.put, List.setIfInBounds_toArray, List.set_cons_zero, List.set_cons_succ]
            refine wpAnyH_take (i := 3) (v := ?v3c) rfl (by kernel_rfl) (by kernel_rfl) (by kernel_rfl) (fun _ _ _ h => h) (Or.inl ⟨by rfl, ?hy3c⟩) (by assumption) ?rest3c
            case hy3c => (intro zz hSw; (try dsimp only at hSw); go_simp; (try with_reducible rfl))
            change wpAnyH _ _ _ _ _ _ _ (Act.put _ (some 18) _) _
            simp only [Act.put, List.setIfInBounds_toArray, List.set_cons_zero, List.set_cons_succ]
            refine wpAnyH_take (i := 4) (v := ?v4c) rfl (by kernel_rfl) (by kernel_rfl) (by kernel_rfl) (fun _ _ _ h => h) (Or.inl ⟨by rfl, ?hy4c⟩) (by assumption) ?rest4c
            case hy4c => (intro zz hSw; (try dsimp only at hSw); go_simp; (try with_reducible rfl))
            change wpAnyH _ _ _ _ _ _ _ (Act.put _ (some 19) _) _
            simp only [Act.put, List.setIfInBounds_toArray, List.set_cons_zero, List.set_cons_succ]
            refine wpAnyH_take (i := 5) (v := ?v5c) rfl (by kernel_rfl) (by kernel_rfl) (by kernel_rfl) (fun _ _ _ h => h) (Or.inl ⟨by rfl, ?hy5c⟩) (by assumption) ?rest5c
            case hy5c => (intro zz hSw; (try dsimp only at hSw); go_simp; (try with_reducible rfl))
            change wpAnyH _ _ _ _ _ _ _ (Act.put _ (some 20) _) _
            simp only [Act.put, List.setIfInBounds_toArray, List.set_cons_zero, List.set_cons_succ]
            refine wpAnyH_take (i := 6) (v := ?v6c) rfl (by kernel_rfl) (by kernel_rfl) (by kernel_rfl) (fun _ _ _ h => h) (Or.inl ⟨by rfl, ?hy6c⟩) (by assumption) ?rest6c
            case hy6c => (intro zz hSw; (try dsimp only at hSw); go_simp; (try with_reducible rfl))
            change wpAnyH _ _ _ _ _ _ _ (Act.put _ (some 21) _) _
            simp only [Act.put, List.setIfInBounds_toArray, List.set_cons_zero, List.set_cons_succ]
            refine wpAnyH_take (i := 7) (v := ?v7c) rfl (by kernel_rfl) (by kernel_rfl) (by kernel_rfl) (fun _ _ _ h => h) (Or.inl ⟨by rfl, ?hy7c⟩) (by assumption) ?rest7c
            case hy7c => (intro zz hSw; (try dsimp only at hSw); go_simp; (try with_reducible rfl))
            change wpAnyH _ _ _ _ _ _ _ (Act.put _ (some 22) _) _
            simp only [Act.put, List.setIfInBounds_toArray, List.set_cons_zero, List.set_cons_succ]
            refine wpAnyH_take (i := 8) (v := ?v8c) rfl (by kernel_rfl) (by kernel_rfl) (by kernel_rfl) (fun _ _ _ h => h) (Or.inl ⟨by rfl, ?hy8c⟩) (by assumption) ?rest8c
            case hy8c => (intro zz hSw; (try dsimp only at hSw); go_simp; (try with_reducible rfl))
            change wpAnyH _ _ _ _ _ _ _ (Act.put _ (some 23) _) _
            simp only [Act.put, List.setIfInBounds_toArray, List.set_cons_zero, List.set_cons_succ]
            refine wpAnyH_take (i := 9) (v := ?v9c) rfl (by kernel_rfl) (by kernel_rfl) (by kernel_rfl) (fun _ _ _ h => h) (Or.inl ⟨by rfl, ?hy9c⟩) (by assumption) ?rest9c
            case hy9c => (intro zz hSw; (try dsimp only at hSw); go_simp; (try with_reducible rfl))
            change wpAnyH _ _ _ _ _ _ _ (Act.put _ (some 24) _) _
            simp only [Act.put, List.setIfInBounds_toArray, List.set_cons_zero, List.set_cons_succ]
            refine wpAnyH_take (i := 10) (v := ?v10c) rfl (by kernel_rfl) (by kernel_rfl) (by kernel_rfl) (fun _ _ _ h => h) (Or.inl ⟨by rfl, ?hy10c⟩) (by assumption) ?rest10c
            case hy10c => (intro zz hSw; (try dsimp only at hSw); go_simp; (try with_reducible rfl))
            change wpAnyH _ _ _ _ _ _ _ (Act.put _ (some 25) _) _
            simp only [Act.put, List.setIfInBounds_toArray, List.set_cons_zero, List.set_cons_succ]
            refine wpAnyH_take (i := 11) (v := ?v11c) rfl (by kernel_rfl) (by kernel_rfl) (by kernel_rfl) (fun _ _ _ h => h) (Or.inl ⟨by rfl, ?hy11c⟩) (by assumption) ?rest11c
            case hy11c => (intro zz hSw; (try dsimp only at hSw); go_simp; (try with_reducible rfl))
            change wpAnyH _ _ _ _ _ _ _ (Act.put _ (some 26) _) _
            simp only [Act.put, List.setIfInBounds_toArray, List.set_cons_zero, List.set_cons_succ]
            refine wpAnyH_take (i := 12) (v := ?v12c) rfl (by kernel_rfl) (by kernel_rfl) (by kernel_rfl) (fun _ _ _ h => h) (Or.inl ⟨by rfl, ?hy12c⟩) (by assumption) ?rest12c
            case hy12c => (intro zz hSw; (try dsimp only at hSw); go_simp; (try with_reducible rfl))
            change wpAnyH _ _ _ _ _ _ _ (Act.put _ (some 27) _) _
            simp only [Act.put, List.setIfInBounds_toArray, List.set_cons_zero, List.set_cons_succ]
            refine wpAnyH_take (i := 13) (v := ?v13c) rfl (by kernel_rfl) (by kernel_rfl) (by kernel_rfl) (fun _ _ _ h => h) (Or.inl ⟨by rfl, ?hy13c⟩) (by assumption) ?rest13c
            case hy13c => (intro zz hSw; (try dsimp only at hSw); go_simp; (try with_reducible rfl))
            change wpAnyH _ _ _ _ _ _ _ (Act.put _ (some 28) _) _
            simp only [Act.put, List.setIfInBounds_toArray, List.set_cons_zero, List.set_cons_succ]
            refine wpAnyH_take (i := 14) (v := ?v14c) rfl (by kernel_rfl) (by kernel_rfl) (by kernel_rfl) (fun _ _ _ h => h) (Or.inl ⟨by rfl, ?hy14c⟩) (by assumption) ?rest14c
            case hy14c => (intro zz hSw; (try dsimp only at hSw); go_simp; (try with_reducible rfl))
            change wpAnyH _ _ _ _ _ _ _ (Act.put _ (some 29) _) _
            simp only [Act.put, List.setIfInBounds_toArray, List.set_cons_zero, List.set_cons_succ]
            refine wpAnyH_ready (rs := [15]) (by kernel_rfl) (by simp) (AllReadyH.cons rfl (fun K hK => ?_) AllReadyH.nil)
            go_simp
            refine (HL.out _).mono ?_; rintro e w' ⟨rfl, bel⟩
            refine hK.out _ _ (⟨cob bel hHeld.2.2.2.2.2.2.2.2 hm5 hHeld.1, cob bel hHeld.2.2.2.2.2.2.2.2 hm5 hHeld.2.1, cob bel hHeld.2.2.2.2.2.2.2.2 hm5 hHeld.2.2.1, cob bel hHeld.2.2.2.2.2.2.2.2 hm5 hHeld.2.2.2.1, cob bel hHeld.2.2.2.2.2.2.2.2 hm5 hHeld.2.2.2.2.1, cob bel hHeld.2.2.2.2.2.2.2.2 hg5 hHeld.2.2.2.2.2.1, cob bel hHeld.2.2.2.2.2.2.2.2 hg5 hHeld.2.2.2.2.2.2.1, cob bel hHeld.2.2.2.2.2.2.2.2 hg5 hHeld.2.2.2.2.2.2.2.1, bel_tr hHeld.2.2.2.2.2.2.2.2 bel (Nat.le_refl _)⟩) (fun hHeld => ?_)
            clear hK K bel
            refine wpAnyH_take (i := 16) (v := ?v16c) rfl (by kernel_rfl) (by kernel_rfl) (by kernel_rfl) (fun _ _ _ h => h) (Or.inl ⟨by rfl, ?hy16c⟩) (by assumption) ?rest16c
            case hy16c => (intro zz hSw; (try dsimp only at hSw); go_simp; (try with_reducible rfl))
            change wpAnyH _ _ _ _ _ _ _ (Act.put _ (some 31) _) _
            simp only [Act.put, List.setIfInBounds_toArray, List.set_cons_zero, List.set_cons_succ]
            refine wpAnyH_take (i := 17) (v := ?v17c) rfl (by kernel_rfl) (by kernel_rfl) (by kernel_rfl) (fun _ _ _ h => h) (Or.inl ⟨by rfl, ?hy17c⟩) (by assumption) ?rest17c
            case hy17c => (intro zz hSw; (try dsimp only at hSw); go_simp; (try with_reducible rfl))
            change wpAnyH _ _ _ _ _ _ _ (Act.put _ (some 32) _) _
            simp only [Act.put, List.setIfInBounds_toArray, List.set_cons_zero, List.set_cons_succ]
            refine wpAnyH_take (i := 18) (v := ?v18c) rfl (by kernel_rfl) (by kernel_rfl) (by kernel_rfl) (fun _ _ _ h => h) (Or.inl ⟨by rfl, ?hy18c⟩) (by assumption) ?rest18c
            case hy18c => (intro zz hSw; (try dsimp only at hSw); go_simp; (try with_reducible rfl))
            change wpAnyH _ _ _ _ _ _ _ (Act.put _ (some 33) _) _
            simp only [Act.put, List.setIfInBounds_toArray, List.set_cons_zero, List.set_cons_succ]
            refine wpAnyH_done (by kernel_rfl) ?_ _
            have HG := Lib.hid (bel_tr HB5.out hHeld.2.2.2.2.2.2.2.2 (Nat.le_refl _)); clear hHeld HS
            go_wp2_with fail
            go_ret
            exact ⟨by rw [HN.out]; rfl, HG.out⟩
          · have HL := Lib.hid (keyLess_is hql)
            have HST2 := Lib.hid (HST.out.trans hql); clear hql
            refine wp_region_held_drew (S := fun z => z.cell? ⟨m, 0, none⟩ = some (.string c.r) ∧ z.cell? ⟨m, 1, none⟩ = some (.string c.b) ∧ z.cell? ⟨m, 2, none⟩ = some (.int .i64 c.t) ∧ z.cell? ⟨m, 3, none⟩ = some (.int .i64 c.v) ∧ z.cell? ⟨m, 4, none⟩ = some (.bool c.g) ∧ z.cell? ⟨g, o + j * 5, none⟩ = some (.string q.r) ∧ z.cell? ⟨g, o + j * 5 + 1, none⟩ = some (.string q.b) ∧ z.cell? ⟨g, o + j * 5 + 2, none⟩ = some (.int .i64 q.t) ∧ Below w5.heap.size w5 z) (by kernel_rfl) HS.out (fun hHeld => ?_)
            refine wpAnyH_take (i := 0) (v := ?v0d) rfl (by kernel_rfl) (by kernel_rfl) (by kernel_rfl) (fun _ _ _ h => h) (Or.inl ⟨by rfl, ?hy0d⟩) (by assumption) ?rest0d
            case hy0d => (intro zz hSw; (try dsimp only at hSw); go_simp; (try with_reducible rfl))
            change wpAnyH _ _ _ _ _ _ _ (Act.put _ (some 15) _) _
            simp only [Act.put, List.setIfInBounds_toArray, List.set_cons_zero, List.set_cons_succ]
            refine wpAnyH_ready (rs := [1]) (by kernel_rfl) (by simp) (AllReadyH.cons rfl (fun K hK => ?_) AllReadyH.nil)
            go_simp
            refine (HC.out _).mono ?_; rintro e w' ⟨rfl, bel⟩
            refine hK.out _ _ (⟨cob bel hHeld.2.2.2.2.2.2.2.2 hm5 hHeld.1, cob bel hHeld.2.2.2.2.2.2.2.2 hm5 hHeld.2.1, cob bel hHeld.2.2.2.2.2.2.2.2 hm5 hHeld.2.2.1, cob bel hHeld.2.2.2.2.2.2.2.2 hm5 hHeld.2.2.2.1, cob bel hHeld.2.2.2.2.2.2.2.2 hm5 hHeld.2.2.2.2.1, cob bel hHeld.2.2.2.2.2.2.2.2 hg5 hHeld.2.2.2.2.2.1, cob bel hHeld.2.2.2.2.2.2.2.2 hg5 hHeld.2.2.2.2.2.2.1, cob bel hHeld.2.2.2.2.2.2.2.2 hg5 hHeld.2.2.2.2.2.2.2.1, bel_tr hHeld.2.2.2.2.2.2.2.2 bel (Nat.le_refl _)⟩) (fun hHeld => ?_)
            clear hK K bel
            refine wpAnyH_take (i := 2) (v := ?v2d) rfl (by kernel_rfl) (by kernel_rfl) (by kernel_rfl) (fun _ _ _ h => h) (Or.inl ⟨by rfl, ?hy2d⟩) (by assumption) ?rest2d
            case hy2d => (intro zz hSw; (try dsimp only at hSw); go_simp; (try with_reducible rfl))
            change wpAnyH _ _ _ _ _ _ _ (Act.put _ (some 17) _) _
            simp only [Act.put, List.setIfInBounds_toArray, List.set_cons_zero, List.set_cons_succ]
            refine wpAnyH_take (i := 3) (v := ?v3d) rfl (by kernel_rfl) (by kernel_rfl) (by kernel_rfl) (fun _ _ _ h => h) (Or.inl ⟨by rfl, ?hy3d⟩) (by assumption) ?rest3d
            case hy3d => (intro zz hSw; (try dsimp only at hSw); go_simp; (try with_reducible rfl))
            change wpAnyH _ _ _ _ _ _ _ (Act.put _ (some 18) _) _
            simp only [Act.put, List.setIfInBounds_toArray, List.set_cons_zero, List.set_cons_succ]
            refine wpAnyH_take (i := 4) (v := ?v4d) rfl (by kernel_rfl) (by kernel_rfl) (by kernel_rfl) (fun _ _ _ h => h) (Or.inl ⟨by rfl, ?hy4d⟩) (by assumption) ?rest4d
            case hy4d => (intro zz hSw; (try dsimp only at hSw); go_simp; (try with_reducible rfl))
            change wpAnyH _ _ _ _ _ _ _ (Act.put _ (some 19) _) _
            simp only [Act.put, List.setIfInBounds_toArray, List.set_cons_zero, List.set_cons_succ]
            refine wpAnyH_take (i := 5) (v := ?v5d) rfl (by kernel_rfl) (by kernel_rfl) (by kernel_rfl) (fun _ _ _ h => h) (Or.inl ⟨by rfl, ?hy5d⟩) (by assumption) ?rest5d
            case hy5d => (intro zz hSw; (try dsimp only at hSw); go_simp; (try with_reducible rfl))
            change wpAnyH _ _ _ _ _ _ _ (Act.put _ (some 20) _) _
            simp only [Act.put, List.setIfInBounds_toArray, List.set_cons_zero, List.set_cons_succ]
            refine wpAnyH_take (i := 6) (v := ?v6d) rfl (by kernel_rfl) (by kernel_rfl) (by kernel_rfl) (fun _ _ _ h => h) (Or.inl ⟨by rfl, ?hy6d⟩) (by assumption) ?rest6d
            case hy6d => (intro zz hSw; (try dsimp only at hSw); go_simp; (try with_reducible rfl))
            change wpAnyH _ _ _ _ _ _ _ (Act.put _ (some 21) _) _
            simp only [Act.put, List.setIfInBounds_toArray, List.set_cons_zero, List.set_cons_succ]
            refine wpAnyH_take (i := 7) (v := ?v7d) rfl (by kernel_rfl) (by kernel_rfl) (by kernel_rfl) (fun _ _ _ h => h) (Or.inl ⟨by rfl, ?hy7d⟩) (by assumption) ?rest7d
            case hy7d => (intro zz hSw; (try dsimp only at hSw); go_simp; (try with_reducible rfl))
            change wpAnyH _ _ _ _ _ _ _ (Act.put _ (some 22) _) _
            simp only [Act.put, List.setIfInBounds_toArray, List.set_cons_zero, List.set_cons_succ]
            refine wpAnyH_take (i := 8) (v := ?v8d) rfl (by kernel_rfl) (by kernel_rfl) (by kernel_rfl) (fun _ _ _ h => h) (Or.inl ⟨by rfl, ?hy8d⟩) (by assumption) ?rest8d
            case hy8d => (intro zz hSw; (try dsimp only at hSw); go_simp; (try with_reducible rfl))
            change wpAnyH _ _ _ _ _ _ _ (Act.put _ (some 23) _) _
            simp only [Act.put, List.setIfInBounds_toArray, List.set_cons_zero, List.set_cons_succ]
            refine wpAnyH_take (i := 9) (v := ?v9d) rfl (by kernel_rfl) (by kernel_rfl) (by kernel_rfl) (fun _ _ _ h => h) (Or.inl ⟨by rfl, ?hy9d⟩) (by assumption) ?rest9d
            case hy9d => (intro zz hSw; (try dsimp only at hSw); go_simp; (try with_reducible rfl))
            change wpAnyH _ _ _ _ _ _ _ (Act.put _ (some 24) _) _
            simp only [Act.put, List.setIfInBounds_toArray, List.set_cons_zero, List.set_cons_succ]
            refine wpAnyH_take (i := 10) (v := ?v10d) rfl (by kernel_rfl) (by kernel_rfl) (by kernel_rfl) (fun _ _ _ h => h) (Or.inl ⟨by rfl, ?hy10d⟩) (by assumption) ?rest10d
            case hy10d => (intro zz hSw; (try dsimp only at hSw); go_simp; (try with_reducible rfl))
            change wpAnyH _ _ _ _ _ _ _ (Act.put _ (some 25) _) _
            simp only [Act.put, List.setIfInBounds_toArray, List.set_cons_zero, List.set_cons_succ]
            refine wpAnyH_take (i := 11) (v := ?v11d) rfl (by kernel_rfl) (by kernel_rfl) (by kernel_rfl) (fun _ _ _ h => h) (Or.inl ⟨by rfl, ?hy11d⟩) (by assumption) ?rest11d
            case hy11d => (intro zz hSw; (try dsimp only at hSw); go_simp; (try with_reducible rfl))
            change wpAnyH _ _ _ _ _ _ _ (Act.put _ (some 26) _) _
            simp only [Act.put, List.setIfInBounds_toArray, List.set_cons_zero, List.set_cons_succ]
            refine wpAnyH_take (i := 12) (v := ?v12d) rfl (by kernel_rfl) (by kernel_rfl) (by kernel_rfl) (fun _ _ _ h => h) (Or.inl ⟨by rfl, ?hy12d⟩) (by assumption) ?rest12d
            case hy12d => (intro zz hSw; (try dsimp only at hSw); go_simp; (try with_reducible rfl))
            change wpAnyH _ _ _ _ _ _ _ (Act.put _ (some 27) _) _
            simp only [Act.put, List.setIfInBounds_toArray, List.set_cons_zero, List.set_cons_succ]
            refine wpAnyH_take (i := 13) (v := ?v13d) rfl (by kernel_rfl) (by kernel_rfl) (by kernel_rfl) (fun _ _ _ h => h) (Or.inl ⟨by rfl, ?hy13d⟩) (by assumption) ?rest13d
            case hy13d => (intro zz hSw; (try dsimp only at hSw); go_simp; (try with_reducible rfl))
            change wpAnyH _ _ _ _ _ _ _ (Act.put _ (some 28) _) _
            simp only [Act.put, List.setIfInBounds_toArray, List.set_cons_zero, List.set_cons_succ]
            refine wpAnyH_take (i := 14) (v := ?v14d) rfl (by kernel_rfl) (by kernel_rfl) (by kernel_rfl) (fun _ _ _ h => h) (Or.inl ⟨by rfl, ?hy14d⟩) (by assumption) ?rest14d
            case hy14d => (intro zz hSw; (try dsimp only at hSw); go_simp; (try with_reducible rfl))
            change wpAnyH _ _ _ _ _ _ _ (Act.put _ (some 29) _) _
            simp only [Act.put, List.setIfInBounds_toArray, List.set_cons_zero, List.set_cons_succ]
            refine wpAnyH_ready (rs := [15]) (by kernel_rfl) (by simp) (AllReadyH.cons rfl (fun K hK => ?_) AllReadyH.nil)
            go_simp
            refine (HL.out _).mono ?_; rintro e w' ⟨rfl, bel⟩
            refine hK.out _ _ (⟨cob bel hHeld.2.2.2.2.2.2.2.2 hm5 hHeld.1, cob bel hHeld.2.2.2.2.2.2.2.2 hm5 hHeld.2.1, cob bel hHeld.2.2.2.2.2.2.2.2 hm5 hHeld.2.2.1, cob bel hHeld.2.2.2.2.2.2.2.2 hm5 hHeld.2.2.2.1, cob bel hHeld.2.2.2.2.2.2.2.2 hm5 hHeld.2.2.2.2.1, cob bel hHeld.2.2.2.2.2.2.2.2 hg5 hHeld.2.2.2.2.2.1, cob bel hHeld.2.2.2.2.2.2.2.2 hg5 hHeld.2.2.2.2.2.2.1, cob bel hHeld.2.2.2.2.2.2.2.2 hg5 hHeld.2.2.2.2.2.2.2.1, bel_tr hHeld.2.2.2.2.2.2.2.2 bel (Nat.le_refl _)⟩) (fun hHeld => ?_)
            clear hK K bel
            refine wpAnyH_take (i := 16) (v := ?v16d) rfl (by kernel_rfl) (by kernel_rfl) (by kernel_rfl) (fun _ _ _ h => h) (Or.inl ⟨by rfl, ?hy16d⟩) (by assumption) ?rest16d
            case hy16d => (intro zz hSw; (try dsimp only at hSw); go_simp; (try with_reducible rfl))
            change wpAnyH _ _ _ _ _ _ _ (Act.put _ (some 31) _) _
            simp only [Act.put, List.setIfInBounds_toArray, List.set_cons_zero, List.set_cons_succ]
            refine wpAnyH_take (i := 17) (v := ?v17d) rfl (by kernel_rfl) (by kernel_rfl) (by kernel_rfl) (fun _ _ _ h => h) (Or.inl ⟨by rfl, ?hy17d⟩) (by assumption) ?rest17d
            case hy17d => (intro zz hSw; (try dsimp only at hSw); go_simp; (try with_reducible rfl))
            change wpAnyH _ _ _ _ _ _ _ (Act.put _ (some 32) _) _
            simp only [Act.put, List.setIfInBounds_toArray, List.set_cons_zero, List.set_cons_succ]
            refine wpAnyH_take (i := 18) (v := ?v18d) rfl (by kernel_rfl) (by kernel_rfl) (by kernel_rfl) (fun _ _ _ h => h) (Or.inl ⟨by rfl, ?hy18d⟩) (by assumption) ?rest18d
            case hy18d => (intro zz hSw; (try dsimp only at hSw); go_simp; (try with_reducible rfl))
            change wpAnyH _ _ _ _ _ _ _ (Act.put _ (some 33) _) _
            simp only [Act.put, List.setIfInBounds_toArray, List.set_cons_zero, List.set_cons_succ]
            refine wpAnyH_done (by kernel_rfl) ?_ _
            have HG := Lib.hid (bel_tr HB5.out hHeld.2.2.2.2.2.2.2.2 (Nat.le_refl _)); clear hHeld HS
            go_wp2_with fail
            go_roundw
            case rel => exact ⟨j + 1 + 1, by omega, by go_num, (fun i hi => by
              by_cases he : i = j + 1
              · subst he; exact HST2.out
              · exact HO.out i (by omega)), HG.out⟩
            case measure => simp [intV]; omega
    · obtain rfl : k = n := by omega
      have HE := Lib.hid (okL_end (l := l) (by rw [hn]; exact HO.out))
      go_wp2_with fail
      go_ret
      exact ⟨by rw [HE.out, hn, decide_eq_true (by omega)]; rfl, HB.out⟩

end Go.Proofs.YtdalncgbbkeimaaDoor.Cl
