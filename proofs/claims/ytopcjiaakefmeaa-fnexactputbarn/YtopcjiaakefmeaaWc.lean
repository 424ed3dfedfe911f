/-
  The contract of spec.l6Put: a cell into the Hand of a store in a block. (Made by gen_wc.py.)
-/
import Derived.Test.YtopcjiaakefmeaaWb
import Derived.Test.YtopcjiaakefmeaaCk
namespace Go.Proofs.Ytopcjiaakefmeaa.Cl
open Go.RowKit Wd Rp Kp Ra
set_option linter.unusedVariables false
/-- What l6Put makes of Hand. -/
def putQ (h : List Cel) (c : Cel) : List Cel × Bool := if c.ok then (if 200 < (putL h c).length then (h, false) else (putL h c, true)) else (h, false)
/-- What l6Put leaves: the store's block alone has turned. -/
def PqPost (O : Nat) (hv sv : Value) (h : List Cel) (c : Cel) (w : World) (e : Ending) (w' : World) : Prop :=
  e = .returned (.bool (putQ h c).2) ∧ Kept (fun k => k = O) none w w' ∧ ∃ v', Bb O v' sv w' ∧ ((v' = hv ∧ (putQ h c).1 = h) ∨ OwC w.heap.size w' v' (putQ h c).1)
set_option maxRecDepth 100000 in
set_option maxHeartbeats 2000000 in
theorem l6Put_any (w : World) (O : Nat) (ha : Option Addr) (hn hc : Nat) (sv : Value) (h : List Cel) (c : Cel) (hb : Bb O (.slice ha hn hc) sv w) (hhn : h.length = hn) (hv : Vw w ha hc h) (hl : hn ≤ 200) (hm : c.mod) :
    Calls Try.prog 86 #[.pointer (some ⟨O, 0, none⟩), .agg #[.string c.r, .string c.b, .int .i64 c.t, .int .i64 c.v, .bool c.g]] w (PqPost O (.slice ha hn hc) sv h c w) := by
  have HV := Lib.hid hv; clear hv
  have HBB := Lib.hid hb; clear hb
  have H0 := Lib.hid (bel1 w (.cells #[.string c.r, .string c.b, .int .i64 c.t, .int .i64 c.v, .bool c.g] 33))
  have F0 := Lib.hid (Cb.made c w 33)
  have HCK := Lib.hid (specCell_any c.r c.b c.t c.v c.g (w.alloc (.cells #[.string c.r, .string c.b, .int .i64 c.t, .int .i64 c.v, .bool c.g] 33)) hm.1 hm.2)
  cases hok : c.ok
  · have HQ := Lib.hid (show putQ h c = (h, false) by unfold putQ; rw [hok]; rfl)
    have HC2 := Lib.hid (show Calls Try.prog 67 #[.agg #[.string c.r, .string c.b, .int .i64 c.t, .int .i64 c.v, .bool c.g]] (w.alloc (.cells #[.string c.r, .string c.b, .int .i64 c.t, .int .i64 c.v, .bool c.g] 33)) fun e w' => e = .returned (.bool false) ∧ Below _ _ w' from HCK.out.mono fun e w' ⟨he, hb⟩ => ⟨by rw [he, show cellB c.r c.b c.t c.v c.g = false from hok], hb⟩); clear HCK hok
    go_enter Try.func86, Try.ntmps86
    go_wp2_with fail
    refine HC2.out.mono ?_; rintro e w1 ⟨rfl, b1⟩
    have B1 := Lib.hid (bel_tr H0.out b1 (Nat.le_refl _)); clear b1
    go_wp2_with fail
    go_ret
    exact ⟨by rw [HQ.out]; rfl, Kept.of_below B1.out, _, HBB.out.next B1.out, Or.inl ⟨rfl, by rw [HQ.out]⟩⟩
  · have HC2 := Lib.hid (show Calls Try.prog 67 #[.agg #[.string c.r, .string c.b, .int .i64 c.t, .int .i64 c.v, .bool c.g]] (w.alloc (.cells #[.string c.r, .string c.b, .int .i64 c.t, .int .i64 c.v, .bool c.g] 33)) fun e w' => e = .returned (.bool true) ∧ Below _ _ w' from HCK.out.mono fun e w' ⟨he, hb⟩ => ⟨by rw [he, show cellB c.r c.b c.t c.v c.g = true from hok], hb⟩); clear HCK
    have hp2 : 200 < (putL h c).length ∨ ¬ 200 < (putL h c).length := Nat.lt_or_ge _ _ |>.imp id (fun h => Nat.not_lt.2 h)
    have HQ := Lib.hid (show putQ h c = if 200 < (putL h c).length then (h, false) else (putL h c, true) by unfold putQ; rw [hok]; rfl)
    clear hok
    go_enter Try.func86, Try.ntmps86
    go_wp2_with fail
    refine HC2.out.mono ?_; rintro e w1 ⟨rfl, b1⟩
    have B1 := Lib.hid (bel_tr H0.out b1 (Nat.le_refl _))
    have BB1 := Lib.hid (HBB.out.next B1.out)
    have CB1 := Lib.hid (F0.out.next b1); clear b1
    obtain ⟨h0, -, -, -, hO'⟩ := id BB1.out
    obtain ⟨⟨c0, c1, c2, c3, c4⟩, -, hq'⟩ := id CB1.out
    generalize hqq : w.heap.size = q at *
    have HQQ := Lib.hid hqq; clear hqq
    have HP := Lib.hid (fun z (hz : Below w1.heap.size w1 z) => l4Put_any' z ha hc h c hn hhn (HV.out.below (show Below w.heap.size w z by rw [HQQ.out]; exact bel_tr B1.out hz (Nat.le_of_eq HQQ.out.symm))) (by omega))
    have SOF := Lib.hid (show ∀ z, Below w1.heap.size w1 z → (z.cell? ⟨O, 0, none⟩ = some (.slice ha hn hc) ∧ z.cell? ⟨q, 0, none⟩ = some (.string c.r) ∧ z.cell? ⟨q, 1, none⟩ = some (.string c.b) ∧ z.cell? ⟨q, 2, none⟩ = some (.int .i64 c.t) ∧ z.cell? ⟨q, 3, none⟩ = some (.int .i64 c.v) ∧ z.cell? ⟨q, 4, none⟩ = some (.bool c.g) ∧ Below w1.heap.size w1 z) from fun z hz => ⟨coc hz hO' h0, coc hz hq' c0, coc hz hq' c1, coc hz hq' c2, coc hz hq' c3, coc hz hq' c4,  hz⟩)
    clear h0 c0 c1 c2 c3 c4
    go_wp2_with fail
    · skip
      refine wp_region_held_drew (S := fun z => z.cell? ⟨O, 0, none⟩ = some (.slice ha hn hc) ∧ z.cell? ⟨q, 0, none⟩ = some (.string c.r) ∧ z.cell? ⟨q, 1, none⟩ = some (.string c.b) ∧ z.cell? ⟨q, 2, none⟩ = some (.int .i64 c.t) ∧ z.cell? ⟨q, 3, none⟩ = some (.int .i64 c.v) ∧ z.cell? ⟨q, 4, none⟩ = some (.bool c.g) ∧ Below w1.heap.size w1 z) (by kernel_rfl) (SOF.out _ (Below.refl _ _).drew) (fun hHeld => ?_)
      refine wpAnyH_take (i := 0) (v := ?v0p) rfl (by kernel_rfl) (by kernel_rfl) (by kernel_rfl) (fun _ _ _ h => h) (Or.inl ⟨by rfl, ?hy0p⟩) (by assumption) ?rest0p
      case hy0p => (intro zz hSw; (try dsimp only at hSw); go_simp; (try with_reducible rfl))
      change wpAnyH _ _ _ _ _ _ _ (Act.put _ (some 9) _) _
      simp only [Act.put, List.setIfInBounds_toArray, List.set_cons_zero, List.set_cons_succ]
      refine wpAnyH_take (i := 1) (v := ?v1p) rfl (by kernel_rfl) (by kernel_rfl) (by kernel_rfl) (fun _ _ _ h => h) (Or.inl ⟨by rfl, ?hy1p⟩) (by assumption) ?rest1p
      case hy1p => (intro zz hSw; (try dsimp only at hSw); go_simp; (try with_reducible rfl))
      change wpAnyH _ _ _ _ _ _ _ (Act.put _ (some 10) _) _
      simp only [Act.put, List.setIfInBounds_toArray, List.set_cons_zero, List.set_cons_succ]
      refine wpAnyH_take (i := 2) (v := ?v2p) rfl (by kernel_rfl) (by kernel_rfl) (by kernel_rfl) (fun _ _ _ h => h) (Or.inl ⟨by rfl, ?hy2p⟩) (by assumption) ?rest2p
      case hy2p => (intro zz hSw; (try dsimp only at hSw); go_simp; (try with_reducible rfl))
      change wpAnyH _ _ _ _ _ _ _ (Act.put _ (some 11) _) _
      simp only [Act.put, List.setIfInBounds_toArray, List.set_cons_zero, List.set_cons_succ]
      refine wpAnyH_take (i := 3) (v := ?v3p) rfl (by kernel_rfl) (by kernel_rfl) (by kernel_rfl) (fun _ _ _ h => h) (Or.inl ⟨by rfl, ?hy3p⟩) (by assumption) ?rest3p
      case hy3p => (intro zz hSw; (try dsimp only at hSw); go_simp; (try with_reducible rfl))
      change wpAnyH _ _ _ _ _ _ _ (Act.put _ (some 12) _) _
      simp only [Act.put, List.setIfInBounds_toArray, List.set_cons_zero, List.set_cons_succ]
      refine wpAnyH_take (i := 4) (v := ?v4p) rfl (by kernel_rfl) (by kernel_rfl) (by kernel_rfl) (fun _ _ _ h => h) (Or.inl ⟨by rfl, ?hy4p⟩) (by assumption) ?rest4p
      case hy4p => (intro zz hSw; (try dsimp only at hSw); go_simp; (try with_reducible rfl))
      change wpAnyH _ _ _ _ _ _ _ (Act.put _ (some 13) _) _
      simp only [Act.put, List.setIfInBounds_toArray, List.set_cons_zero, List.set_cons_succ]
      refine wpAnyH_ready (rs := [5]) (by kernel_rfl) (by simp) (AllReadyH.cons rfl (fun K hK => ?_) AllReadyH.nil)
      go_simp
      refine (HP.out _ hHeld.2.2.2.2.2.2).mono ?_; rintro e w5 ⟨v5, rfl, o5, bel⟩; have O5 := Lib.hid o5; clear o5
      refine hK.out _ _ (SOF.out _ (bel_tr hHeld.2.2.2.2.2.2 bel (Nat.le_refl _))) (fun hHeld => ?_)
      clear hK K bel
      refine wpAnyH_take (i := 6) (v := ?v6p) rfl (by kernel_rfl) (by kernel_rfl) (by kernel_rfl) (fun _ _ _ h => h) (Or.inl ⟨by rfl, ?hy6p⟩) (by assumption) ?rest6p
      case hy6p => (intro zz hSw; (try dsimp only at hSw); go_simp; (try with_reducible rfl))
      change wpAnyH _ _ _ _ _ _ _ (Act.put _ (some 5) _) _
      simp only [Act.put, List.setIfInBounds_toArray, List.set_cons_zero, List.set_cons_succ]
      refine wpAnyH_done (by kernel_rfl) ?_ _
      have BX := Lib.hid hHeld.2.2.2.2.2.2; clear hHeld SOF
      have B5 := Lib.hid (bel_tr B1.out BX.out (Nat.le_of_eq HQQ.out.symm))
      have BB5 := Lib.hid (BB1.out.next BX.out)
      obtain ⟨va, vc, rfl, -, -⟩ := O5.out.view
      rcases hp2 with hb2 | hb2
      · have HQ2 := Lib.hid (show putQ h c = (h, false) by rw [HQ.out, if_pos hb2])
        have z1 : (200 : Int) < ((putL h c).length : Int) := by omega
        generalize (putL h c).length = pl at *
        go_wp2_with fail
        go_ret
        exact ⟨by rw [HQ2.out]; rfl, Kept.of_below (show Below w.heap.size w w5 by rw [HQQ.out]; exact B5.out), _, BB5.out, Or.inl ⟨rfl, by rw [HQ2.out]⟩⟩
      · have HQ2 := Lib.hid (show putQ h c = (putL h c, true) by rw [HQ.out, if_neg hb2])
        have z1 : ¬ (200 : Int) < ((putL h c).length : Int) := by omega
        have hOw : O < w.heap.size := HBB.out.2.2.2.2
        have OW := Lib.hid (show OwC w.heap.size w5 (.slice va (putL h c).length vc) (putL h c) from O5.out.mono B1.out.size)
        generalize (putL h c).length = pl at *
        obtain ⟨y0, y1, y2, y3, y4⟩ := id BB5.out
        go_wp2_with fail
        go_ret
        refine ⟨by rw [HQ2.out]; rfl, (Kept.of_below (show Below w.heap.size w w5 by rw [HQQ.out]; exact B5.out)).trans (Kept.set (F := fun k => k = O) (p := ⟨O, 0, none⟩) rfl _), _, BB5.out.set0 _, Or.inr ?_⟩
        rw [HQ2.out]
        exact OW.out.put (p := ⟨O, 0, none⟩) hOw _
end Go.Proofs.Ytopcjiaakefmeaa.Cl
