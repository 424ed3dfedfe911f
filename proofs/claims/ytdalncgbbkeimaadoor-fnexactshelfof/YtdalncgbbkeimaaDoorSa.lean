/-
  Contracts of spec.ShowCell and impl.ShowCell: the text 'shB' of a cell. (Made by gen_sa.py.)
-/
import Derived.Test.YtdalncgbbkeimaaDoorCt
import Derived.Lib.Join
namespace Go.Proofs.YtdalncgbbkeimaaDoor.Cl
open Go.RowKit Wd Rp Kp
set_option linter.unusedVariables false
theorem shB_no {r b : ByteArray} {t v : Int} {g : Bool} (h : cellB r b t v g = false) : shB r b t v g = [] := by unfold shB; rw [h]; rfl
theorem shB_yes {r b : ByteArray} {t v : Int} {g : Bool} (h : cellB r b t v g = true) : shB r b t v g = showB r.data.toList b.data.toList t v g := by unfold shB; rw [h]; rfl
theorem specOk_is {r b : ByteArray} {t v : Int} {g x : Bool} (h : cellB r b t v g = x) (w : World) (hr : r.size ≤ 9223372036854775806) (hb : b.size ≤ 9223372036854775806) :
    Calls Tryd.prog 70 #[.agg #[.string r, .string b, .int .i64 t, .int .i64 v, .bool g]] w fun e w' => e = .returned (.bool x) ∧ Below w.heap.size w w' :=
  (specCell_any r b t v g w hr hb).mono fun _ _ ⟨he, hw⟩ => ⟨by rw [he, h], hw⟩
theorem implOk_is {r b : ByteArray} {t v : Int} {g x : Bool} (h : cellB r b t v g = x) (w : World) :
    Calls Tryd.prog 31 #[.agg #[.string r, .string b, .int .i64 t, .int .i64 v, .bool g]] w fun e w' => e = .returned (.bool x) ∧ Below w.heap.size w w' :=
  (implCell_any r b t v g w).mono fun _ _ ⟨he, hw⟩ => ⟨by rw [he, h], hw⟩
set_option maxHeartbeats 4000000 in
theorem specShow_any (r b : ByteArray) (t v : Int) (g : Bool) (w : World) (hr : r.size ≤ 9223372036854775806) (hb : b.size ≤ 9223372036854775806) :
    Calls Tryd.prog 30 #[.agg #[.string r, .string b, .int .i64 t, .int .i64 v, .bool g]] w (ShPost r b t v g w) := by
  have HB := Lib.hid (bel1 w)
  have HX := Lib.hid (Bc.made r b t v g w)
  cases hc : cellB r b t v g
  · have HK := Lib.hid (shB_no hc)
    have HC := Lib.hid (fun w => specOk_is hc w hr hb); clear hc
    go_enter Tryd.func30, Tryd.ntmps30
    go_wp2_with fail
    refine (HC.out _).mono ?_; rintro e w2 ⟨rfl, b2⟩
    have B2 := Lib.hid (bel_tr (HB.out _) b2 (Nat.le_refl _)); clear b2
    go_wp2_with fail
    go_ret
    exact ⟨by rw [HK.out]; rfl, B2.out⟩
  · have HK := Lib.hid (shB_yes hc)
    have HC := Lib.hid (fun w => specOk_is hc w hr hb)
    have HS := Lib.hid (fun w => l4Show_any r b t v g w hc); clear hc
    go_enter Tryd.func30, Tryd.ntmps30
    go_wp2_with fail
    refine (HC.out _).mono ?_; rintro e w2 ⟨rfl, b2⟩
    obtain ⟨x0, x1, x2, x3, x4, -⟩ := (HX.out _).next b2
    have B2 := Lib.hid (bel_tr (HB.out _) b2 (Nat.le_refl _)); clear b2
    go_wp2_with fail
    refine (HS.out _).mono ?_; rintro e w3 ⟨rfl, b3⟩
    have B3 := Lib.hid (bel_tr B2.out b3 (Nat.le_refl _)); clear b3
    go_wp2_with fail
    go_ret
    exact ⟨by rw [HK.out]; rfl, B3.out⟩
theorem four_cells (w : World) (a b c d : ByteArray) : ∀ (j : Nat) (x : ByteArray), [a, b, c, d][j]? = some x → (w.alloc (.cells #[.string a, .string b, .string c, .string d] 9)).cell? ⟨w.heap.size, 0 + j, none⟩ = some (.string x) := by
  intro j x hj
  have hp : (w.alloc (.cells #[.string a, .string b, .string c, .string d] 9)).heap[w.heap.size]? = some (.cells #[.string a, .string b, .string c, .string d] 9) := by show (w.heap.push _)[w.heap.size]? = _; simp
  rw [Nat.zero_add]
  match j, hj with
  | 0, hj => cases hj; simp only [World.cell?, hp]; rfl
  | 1, hj => cases hj; simp only [World.cell?, hp]; rfl
  | 2, hj => cases hj; simp only [World.cell?, hp]; rfl
  | 3, hj => cases hj; simp only [World.cell?, hp]; rfl
  | j + 4, hj => simp at hj
theorem join4 (a b c d : ByteArray) : Lib.join ([a, b, c, d].map (·.data.toList)) (⟨#[32]⟩ : ByteArray).data.toList = a.data.toList ++ (32 :: (b.data.toList ++ (32 :: (c.data.toList ++ (32 :: d.data.toList))))) := by
  simp [Lib.join, List.intercalate]
set_option maxHeartbeats 4000000 in
theorem implShow_any (r b : ByteArray) (t v : Int) (g : Bool) (w : World) (hL : LibT w) :
    Calls Tryd.prog 26 #[.agg #[.string r, .string b, .int .i64 t, .int .i64 v, .bool g]] w (ShPost r b t v g w) := by
  have HL := Lib.hid hL; clear hL
  have HB := Lib.hid (bel1 w)
  have HX := Lib.hid (Bc.made r b t v g w)
  cases hc : cellB r b t v g
  · have HK := Lib.hid (shB_no hc)
    have HC := Lib.hid (implOk_is hc); clear hc
    go_enter Tryd.func26, Tryd.ntmps26
    go_wp2_with fail
    refine (HC.out _).mono ?_; rintro e w2 ⟨rfl, b2⟩
    have B2 := Lib.hid (bel_tr (HB.out _) b2 (Nat.le_refl _)); clear b2
    go_wp2_with fail
    go_ret
    exact ⟨by rw [HK.out]; rfl, B2.out⟩
  · have HK := Lib.hid (shB_yes hc)
    have HC := Lib.hid (implOk_is hc)
    obtain ⟨hr, hb, t0, t1, v0, v1⟩ := cell_facts hc
    clear hc
    have HV := Lib.hid (fmt_is v (by omega) (by omega))
    have HT := Lib.hid (fmt_is t (by omega) (by omega))
    have svz := itoa_size v (by omega) (by omega)
    have stz := itoa_size t (by omega) (by omega)
    have HJ : ∀ x : ByteArray, x = tx (valT v g) → tx (Lib.join ([r, b, tx (Lib.itoa t), x].map (·.data.toList)) (⟨#[32]⟩ : ByteArray).data.toList) = tx (showB r.data.toList b.data.toList t v g) := fun x hx => by
      rw [join4, hx, tx_data, tx_data]; rfl
    have hvf : g = false → tx (Lib.itoa v) = tx (valT v g) := fun e => by rw [e]; rfl
    have hvt : g = true → (⟨#[45]⟩ : ByteArray) = tx (valT v g) := fun e => by rw [e]; rfl
    generalize tx (Lib.itoa t) = st at HT stz HJ
    generalize tx (Lib.itoa v) = sv at HV svz hvf
    have hjl : ∀ x : ByteArray, x.size ≤ 21 → (Lib.join ([r, b, st, x].map (·.data.toList)) (⟨#[32]⟩ : ByteArray).data.toList).length ≤ 140737488355328 := fun x hx => by
      rw [join4]; simp only [List.length_append, List.length_cons, llen]; omega
    cases g
    · have HR := Lib.hid (HJ sv (hvf rfl))
      have HJL := Lib.hid (hjl sv svz); clear HJ hvf hvt hjl svz stz
      go_enter Tryd.func26, Tryd.ntmps26
      go_wp2_with fail
      refine (HC.out _).mono ?_; rintro e w2 ⟨rfl, b2⟩
      have X2 := (HX.out _).next b2
      have B2 := Lib.hid (bel_tr (HB.out _) b2 (Nat.le_refl _)); clear b2
      obtain ⟨x0, x1, x2, x3, x4, -⟩ := id X2
      go_wp2_with fail
      refine (HV.out _ (HL.out.next B2.out)).mono ?_; rintro e w3 ⟨rfl, b3⟩
      clear x0 x1 x2 x3 x4
      obtain ⟨x0, x1, x2, x3, x4, hq⟩ := X2.next b3
      have B3 := Lib.hid (bel_tr B2.out b3 (Nat.le_refl _)); clear b3 X2
      generalize w.heap.size = q at x0 x1 x2 x3 x4 hq ⊢
      have SOF := Lib.hid (show ∀ z, Below w3.heap.size w3 z → (z.cell? ⟨q, 0, none⟩ = some (.string r) ∧ z.cell? ⟨q, 1, none⟩ = some (.string b) ∧ z.cell? ⟨q, 2, none⟩ = some (.int .i64 t) ∧ Below w3.heap.size w3 z) from fun z hz => ⟨coc hz hq x0, coc hz hq x1, coc hz hq x2,  hz⟩)
      clear x0 x1 x2 x3
      go_wp2_with fail
      clear x4
      refine wp_region_held_drew (S := fun z => z.cell? ⟨q, 0, none⟩ = some (.string r) ∧ z.cell? ⟨q, 1, none⟩ = some (.string b) ∧ z.cell? ⟨q, 2, none⟩ = some (.int .i64 t) ∧ Below w3.heap.size w3 z) (by kernel_rfl) (SOF.out _ (Below.refl _ _).drew) (fun hHeld => ?_)
      refine wpAnyH_take (i := 0) (v := ?v0a) rfl (by kernel_rfl) (by kernel_rfl) (by kernel_rfl) (fun _ _ _ h => h) (Or.inl ⟨by rfl, ?hy0a⟩) (by assumption) ?rest0a
      case hy0a => (intro zz hSw; (try dsimp only at hSw); go_simp; (try with_reducible rfl))
      change wpAnyH _ _ _ _ _ _ _ (Act.put _ (some 12) _) _
      simp only [Act.put, List.setIfInBounds_toArray, List.set_cons_zero, List.set_cons_succ]
      refine wpAnyH_take (i := 1) (v := ?v1a) rfl (by kernel_rfl) (by kernel_rfl) (by kernel_rfl) (fun _ _ _ h => h) (Or.inl ⟨by rfl, ?hy1a⟩) (by assumption) ?rest1a
      case hy1a => (intro zz hSw; (try dsimp only at hSw); go_simp; (try with_reducible rfl))
      change wpAnyH _ _ _ _ _ _ _ (Act.put _ (some 13) _) _
      simp only [Act.put, List.setIfInBounds_toArray, List.set_cons_zero, List.set_cons_succ]
      refine wpAnyH_take (i := 2) (v := ?v2a) rfl (by kernel_rfl) (by kernel_rfl) (by kernel_rfl) (fun _ _ _ h => h) (Or.inl ⟨by rfl, ?hy2a⟩) (by assumption) ?rest2a
      case hy2a => (intro zz hSw; (try dsimp only at hSw); go_simp; (try with_reducible rfl))
      change wpAnyH _ _ _ _ _ _ _ (Act.put _ (some 14) _) _
      simp only [Act.put, List.setIfInBounds_toArray, List.set_cons_zero, List.set_cons_succ]
      refine wpAnyH_take (i := 3) (v := ?v3a) rfl (by kernel_rfl) (by kernel_rfl) (by kernel_rfl) (fun _ _ _ h => h) (Or.inl ⟨by rfl, ?hy3a⟩) (by assumption) ?rest3a
      case hy3a => (intro zz hSw; (try dsimp only at hSw); go_simp; (try with_reducible rfl))
      change wpAnyH _ _ _ _ _ _ _ (Act.put _ (some 15) _) _
      simp only [Act.put, List.setIfInBounds_toArray, List.set_cons_zero, List.set_cons_succ]
      refine wpAnyH_take (i := 4) (v := ?v4a) rfl (by kernel_rfl) (by kernel_rfl) (by kernel_rfl) (fun _ _ _ h => h) (Or.inl ⟨by rfl, ?hy4a⟩) (by assumption) ?rest4a
      case hy4a => (intro zz hSw; (try dsimp only at hSw); go_simp; (try with_reducible rfl))
      change wpAnyH _ _ _ _ _ _ _ (Act.put _ (some 16) _) _
      simp only [Act.put, List.setIfInBounds_toArray, List.set_cons_zero, List.set_cons_succ]
      refine wpAnyH_take (i := 5) (v := ?v5a) rfl (by kernel_rfl) (by kernel_rfl) (by kernel_rfl) (fun _ _ _ h => h) (Or.inl ⟨by rfl, ?hy5a⟩) (by assumption) ?rest5a
      case hy5a => (intro zz hSw; (try dsimp only at hSw); go_simp; (try with_reducible rfl))
      change wpAnyH _ _ _ _ _ _ _ (Act.put _ (some 17) _) _
      simp only [Act.put, List.setIfInBounds_toArray, List.set_cons_zero, List.set_cons_succ]
      refine wpAnyH_take (i := 6) (v := ?v6a) rfl (by kernel_rfl) (by kernel_rfl) (by kernel_rfl) (fun _ _ _ h => h) (Or.inl ⟨by rfl, ?hy6a⟩) (by assumption) ?rest6a
      case hy6a => (intro zz hSw; (try dsimp only at hSw); go_simp; (try with_reducible rfl))
      change wpAnyH _ _ _ _ _ _ _ (Act.put _ (some 18) _) _
      simp only [Act.put, List.setIfInBounds_toArray, List.set_cons_zero, List.set_cons_succ]
      refine wpAnyH_take (i := 7) (v := ?v7a) rfl (by kernel_rfl) (by kernel_rfl) (by kernel_rfl) (fun _ _ _ h => h) (Or.inl ⟨by rfl, ?hy7a⟩) (by assumption) ?rest7a
      case hy7a => (intro zz hSw; (try dsimp only at hSw); go_simp; (try with_reducible rfl))
      change wpAnyH _ _ _ _ _ _ _ (Act.put _ (some 19) _) _
      simp only [Act.put, List.setIfInBounds_toArray, List.set_cons_zero, List.set_cons_succ]
      refine wpAnyH_take (i := 8) (v := ?v8a) rfl (by kernel_rfl) (by kernel_rfl) (by kernel_rfl) (fun _ _ _ h => h) (Or.inl ⟨by rfl, ?hy8a⟩) (by assumption) ?rest8a
      case hy8a => (intro zz hSw; (try dsimp only at hSw); go_simp; (try with_reducible rfl))
      change wpAnyH _ _ _ _ _ _ _ (Act.put _ (some 20) _) _
      simp only [Act.put, List.setIfInBounds_toArray, List.set_cons_zero, List.set_cons_succ]
      refine wpAnyH_take (i := 10) (v := ?v10a) rfl (by kernel_rfl) (by kernel_rfl) (by kernel_rfl) (fun _ _ _ h => h) (Or.inl ⟨by rfl, ?hy10a⟩) (by assumption) ?rest10a
      case hy10a => (intro zz hSw; (try dsimp only at hSw); go_simp; (try with_reducible rfl))
      change wpAnyH _ _ _ _ _ _ _ (Act.put _ (some 22) _) _
      simp only [Act.put, List.setIfInBounds_toArray, List.set_cons_zero, List.set_cons_succ]
      refine wpAnyH_ready (rs := [9]) (by kernel_rfl) (by simp) (AllReadyH.cons rfl (fun K hK => ?_) (AllReadyH.nil))
      go_simp
      refine (HT.out _ (HL.out.next (bel_tr B3.out hHeld.2.2.2 (Nat.le_refl _)))).mono ?_; rintro e w4 ⟨rfl, bel⟩
      refine hK.out _ _ (SOF.out _ (bel_tr hHeld.2.2.2 bel (Nat.le_refl _))) (fun hHeld => ?_)
      clear hK K bel
      refine wpAnyH_ready (rs := [11]) (by kernel_rfl) (by simp) (AllReadyH.cons rfl (fun K hK => ?_) (AllReadyH.nil))
      go_simp
      have bel := bel1 w4 (.cells #[.string r, .string b, .string st, .string sv] 9)
      have HM := Lib.hid (four_cells w4 r b st sv)
      refine hK.out _ _ (SOF.out _ (bel_tr hHeld.2.2.2 bel (Nat.le_refl _))) (fun hHeld => ?_)
      clear hK K bel
      refine wpAnyH_ready (rs := [12]) (by kernel_rfl) (by simp) (AllReadyH.cons rfl (fun K hK => ?_) (AllReadyH.nil))
      go_simp
      refine (Tryd.strings_Join w4.heap.size 0 4 [r, b, st, sv] (⟨#[32]⟩ : ByteArray) _ HM.out (by simp) (by show 4 ≤ _; omega) (Nat.le_refl _) HJL.out).mono ?_; rintro e w5 ⟨rfl, bel⟩
      refine hK.out _ _ (SOF.out _ (bel_tr hHeld.2.2.2 bel (Nat.le_refl _))) (fun hHeld => ?_)
      clear hK K bel
      refine wpAnyH_take (i := 13) (v := ?v13a) rfl (by kernel_rfl) (by kernel_rfl) (by kernel_rfl) (fun _ _ _ h => h) (Or.inl ⟨by rfl, ?hy13a⟩) (by assumption) ?rest13a
      case hy13a => (intro zz hSw; (try dsimp only at hSw); go_simp; (try with_reducible rfl))
      change wpAnyH _ _ _ _ _ _ _ (Act.put _ (some 2) _) _
      simp only [Act.put, List.setIfInBounds_toArray, List.set_cons_zero, List.set_cons_succ]
      refine wpAnyH_done (by kernel_rfl) ?_ _
      have HG := Lib.hid (bel_tr B3.out hHeld.2.2.2 (Nat.le_refl _)); clear hHeld SOF
      go_wp2_with fail
      go_ret
      exact ⟨by rw [HK.out, ← HR.out]; rfl, HG.out⟩
    · have HR := Lib.hid (HJ (⟨#[45]⟩ : ByteArray) (hvt rfl))
      have HJL := Lib.hid (hjl (⟨#[45]⟩ : ByteArray) (by decide)); clear HJ hvf hvt hjl svz stz
      go_enter Tryd.func26, Tryd.ntmps26
      go_wp2_with fail
      refine (HC.out _).mono ?_; rintro e w2 ⟨rfl, b2⟩
      have X2 := (HX.out _).next b2
      have B2 := Lib.hid (bel_tr (HB.out _) b2 (Nat.le_refl _)); clear b2
      obtain ⟨x0, x1, x2, x3, x4, -⟩ := id X2
      go_wp2_with fail
      refine (HV.out _ (HL.out.next B2.out)).mono ?_; rintro e w3 ⟨rfl, b3⟩
      clear x0 x1 x2 x3 x4
      obtain ⟨x0, x1, x2, x3, x4, hq⟩ := X2.next b3
      have B3 := Lib.hid (bel_tr B2.out b3 (Nat.le_refl _)); clear b3 X2
      generalize w.heap.size = q at x0 x1 x2 x3 x4 hq ⊢
      have SOF := Lib.hid (show ∀ z, Below w3.heap.size w3 z → (z.cell? ⟨q, 0, none⟩ = some (.string r) ∧ z.cell? ⟨q, 1, none⟩ = some (.string b) ∧ z.cell? ⟨q, 2, none⟩ = some (.int .i64 t) ∧ Below w3.heap.size w3 z) from fun z hz => ⟨coc hz hq x0, coc hz hq x1, coc hz hq x2,  hz⟩)
      clear x0 x1 x2 x3
      go_wp2_with fail
      clear x4
      refine wp_region_held_drew (S := fun z => z.cell? ⟨q, 0, none⟩ = some (.string r) ∧ z.cell? ⟨q, 1, none⟩ = some (.string b) ∧ z.cell? ⟨q, 2, none⟩ = some (.int .i64 t) ∧ Below w3.heap.size w3 z) (by kernel_rfl) (SOF.out _ (Below.refl _ _).drew) (fun hHeld => ?_)
      refine wpAnyH_take (i := 0) (v := ?v0b) rfl (by kernel_rfl) (by kernel_rfl) (by kernel_rfl) (fun _ _ _ h => h) (Or.inl ⟨by rfl, ?hy0b⟩) (by assumption) ?rest0b
      case hy0b => (intro zz hSw; (try dsimp only at hSw); go_simp; (try with_reducible rfl))
      change wpAnyH _ _ _ _ _ _ _ (Act.put _ (some 12) _) _
      simp only [Act.put, List.setIfInBounds_toArray, List.set_cons_zero, List.set_cons_succ]
      refine wpAnyH_take (i := 1) (v := ?v1b) rfl (by kernel_rfl) (by kernel_rfl) (by kernel_rfl) (fun _ _ _ h => h) (Or.inl ⟨by rfl, ?hy1b⟩) (by assumption) ?rest1b
      case hy1b => (intro zz hSw; (try dsimp only at hSw); go_simp; (try with_reducible rfl))
      change wpAnyH _ _ _ _ _ _ _ (Act.put _ (some 13) _) _
      simp only [Act.put, List.setIfInBounds_toArray, List.set_cons_zero, List.set_cons_succ]
      refine wpAnyH_take (i := 2) (v := ?v2b) rfl (by kernel_rfl) (by kernel_rfl) (by kernel_rfl) (fun _ _ _ h => h) (Or.inl ⟨by rfl, ?hy2b⟩) (by assumption) ?rest2b
      case hy2b => (intro zz hSw; (try dsimp only at hSw); go_simp; (try with_reducible rfl))
      change wpAnyH _ _ _ _ _ _ _ (Act.put _ (some 14) _) _
      simp only [Act.put, List.setIfInBounds_toArray, List.set_cons_zero, List.set_cons_succ]
      refine wpAnyH_take (i := 3) (v := ?v3b) rfl (by kernel_rfl) (by kernel_rfl) (by kernel_rfl) (fun _ _ _ h => h) (Or.inl ⟨by rfl, ?hy3b⟩) (by assumption) ?rest3b
      case hy3b => (intro zz hSw; (try dsimp only at hSw); go_simp; (try with_reducible rfl))
      change wpAnyH _ _ _ _ _ _ _ (Act.put _ (some 15) _) _
      simp only [Act.put, List.setIfInBounds_toArray, List.set_cons_zero, List.set_cons_succ]
      refine wpAnyH_take (i := 4) (v := ?v4b) rfl (by kernel_rfl) (by kernel_rfl) (by kernel_rfl) (fun _ _ _ h => h) (Or.inl ⟨by rfl, ?hy4b⟩) (by assumption) ?rest4b
      case hy4b => (intro zz hSw; (try dsimp only at hSw); go_simp; (try with_reducible rfl))
      change wpAnyH _ _ _ _ _ _ _ (Act.put _ (some 16) _) _
      simp only [Act.put, List.setIfInBounds_toArray, List.set_cons_zero, List.set_cons_succ]
      refine wpAnyH_take (i := 5) (v := ?v5b) rfl (by kernel_rfl) (by kernel_rfl) (by kernel_rfl) (fun _ _ _ h => h) (Or.inl ⟨by rfl, ?hy5b⟩) (by assumption) ?rest5b
      case hy5b => (intro zz hSw; (try dsimp only at hSw); go_simp; (try with_reducible rfl))
      change wpAnyH _ _ _ _ _ _ _ (Act.put _ (some 17) _) _
      simp only [Act.put, List.setIfInBounds_toArray, List.set_cons_zero, List.set_cons_succ]
      refine wpAnyH_take (i := 6) (v := ?v6b) rfl (by kernel_rfl) (by kernel_rfl) (by kernel_rfl) (fun _ _ _ h => h) (Or.inl ⟨by rfl, ?hy6b⟩) (by assumption) ?rest6b
      case hy6b => (intro zz hSw; (try dsimp only at hSw); go_simp; (try with_reducible rfl))
      change wpAnyH _ _ _ _ _ _ _ (Act.put _ (some 18) _) _
      simp only [Act.put, List.setIfInBounds_toArray, List.set_cons_zero, List.set_cons_succ]
      refine wpAnyH_take (i := 7) (v := ?v7b) rfl (by kernel_rfl) (by kernel_rfl) (by kernel_rfl) (fun _ _ _ h => h) (Or.inl ⟨by rfl, ?hy7b⟩) (by assumption) ?rest7b
      case hy7b => (intro zz hSw; (try dsimp only at hSw); go_simp; (try with_reducible rfl))
      change wpAnyH _ _ _ _ _ _ _ (Act.put _ (some 19) _) _
      simp only [Act.put, List.setIfInBounds_toArray, List.set_cons_zero, List.set_cons_succ]
      refine wpAnyH_take (i := 8) (v := ?v8b) rfl (by kernel_rfl) (by kernel_rfl) (by kernel_rfl) (fun _ _ _ h => h) (Or.inl ⟨by rfl, ?hy8b⟩) (by assumption) ?rest8b
      case hy8b => (intro zz hSw; (try dsimp only at hSw); go_simp; (try with_reducible rfl))
      change wpAnyH _ _ _ _ _ _ _ (Act.put _ (some 20) _) _
      simp only [Act.put, List.setIfInBounds_toArray, List.set_cons_zero, List.set_cons_succ]
      refine wpAnyH_take (i := 10) (v := ?v10b) rfl (by kernel_rfl) (by kernel_rfl) (by kernel_rfl) (fun _ _ _ h => h) (Or.inl ⟨by rfl, ?hy10b⟩) (by assumption) ?rest10b
      case hy10b => (intro zz hSw; (try dsimp only at hSw); go_simp; (try with_reducible rfl))
      change wpAnyH _ _ _ _ _ _ _ (Act.put _ (some 22) _) _
      simp only [Act.put, List.setIfInBounds_toArray, List.set_cons_zero, List.set_cons_succ]
      refine wpAnyH_ready (rs := [9]) (by kernel_rfl) (by simp) (AllReadyH.cons rfl (fun K hK => ?_) (AllReadyH.nil))
      go_simp
      refine (HT.out _ (HL.out.next (bel_tr B3.out hHeld.2.2.2 (Nat.le_refl _)))).mono ?_; rintro e w4 ⟨rfl, bel⟩
      refine hK.out _ _ (SOF.out _ (bel_tr hHeld.2.2.2 bel (Nat.le_refl _))) (fun hHeld => ?_)
      clear hK K bel
      refine wpAnyH_ready (rs := [11]) (by kernel_rfl) (by simp) (AllReadyH.cons rfl (fun K hK => ?_) (AllReadyH.nil))
      go_simp
      have bel := bel1 w4 (.cells #[.string r, .string b, .string st, .string (⟨#[45]⟩ : ByteArray)] 9)
      have HM := Lib.hid (four_cells w4 r b st (⟨#[45]⟩ : ByteArray))
      refine hK.out _ _ (SOF.out _ (bel_tr hHeld.2.2.2 bel (Nat.le_refl _))) (fun hHeld => ?_)
      clear hK K bel
      refine wpAnyH_ready (rs := [12]) (by kernel_rfl) (by simp) (AllReadyH.cons rfl (fun K hK => ?_) (AllReadyH.nil))
      go_simp
      refine (Tryd.strings_Join w4.heap.size 0 4 [r, b, st, (⟨#[45]⟩ : ByteArray)] (⟨#[32]⟩ : ByteArray) _ HM.out (by simp) (by show 4 ≤ _; omega) (Nat.le_refl _) HJL.out).mono ?_; rintro e w5 ⟨rfl, bel⟩
      refine hK.out _ _ (SOF.out _ (bel_tr hHeld.2.2.2 bel (Nat.le_refl _))) (fun hHeld => ?_)
      clear hK K bel
      refine wpAnyH_take (i := 13) (v := ?v13b) rfl (by kernel_rfl) (by kernel_rfl) (by kernel_rfl) (fun _ _ _ h => h) (Or.inl ⟨by rfl, ?hy13b⟩) (by assumption) ?rest13b
      case hy13b => (intro zz hSw; (try dsimp only at hSw); go_simp; (try with_reducible rfl))
      change wpAnyH _ _ _ _ _ _ _ (Act.put _ (some 2) _) _
      simp only [Act.put, List.setIfInBounds_toArray, List.set_cons_zero, List.set_cons_succ]
      refine wpAnyH_done (by kernel_rfl) ?_ _
      have HG := Lib.hid (bel_tr B3.out hHeld.2.2.2 (Nat.le_refl _)); clear hHeld SOF
      go_wp2_with fail
      go_ret
      exact ⟨by rw [HK.out, ← HR.out]; rfl, HG.out⟩
end Go.Proofs.YtdalncgbbkeimaaDoor.Cl
