/-
  Recipes as trees: where the statements and blocks of a tree's text end, what is read of them ('Sm.det', 'Sl.det', 'blk_det', 'rd_tree').
-/
import Derived.Test.YtfnnoehpahdgcaaGreatDoorMm
namespace Go.Proofs.YtfnnoehpahdgcaaGreatDoor.Cl
open Go.RowKit Wd Rp Kp
set_option linter.unusedVariables false
theorem tkA_of {l : List Tk} {k : Nat} {s : Tk} {r : List Tk} (h : l.drop k = s :: r) : tkA l (k : Int) = some s := by rw [tkA_nat]; exact (drop_head h).1
theorem Sm.head (s : Sm) : ∃ t q, s.fl = t :: q ∧ t ≠ [93] := by
  cases s <;> exact ⟨_, _, rfl, by decide⟩
theorem nmA_of {l : List Tk} {k : Nat} {n : Tk} {r : List Tk} (h : l.drop k = n :: r) (hn : nmB n = true) : nmA l (k : Int) = true := by unfold nmA; rw [tkA_of h]; exact hn
theorem cutT_setT : (cutT = setT) = False := eq_false (by decide)
theorem stopT_setT : (stopT = setT) = False := eq_false (by decide)
theorem stopT_cutT : (stopT = cutT) = False := eq_false (by decide)
theorem ifT_setT : (ifT = setT) = False := eq_false (by decide)
theorem ifT_cutT : (ifT = cutT) = False := eq_false (by decide)
theorem ifT_stopT : (ifT = stopT) = False := eq_false (by decide)
theorem whT_setT : (whT = setT) = False := eq_false (by decide)
theorem whT_cutT : (whT = cutT) = False := eq_false (by decide)
theorem whT_stopT : (whT = stopT) = False := eq_false (by decide)
theorem whT_ifT : (whT = ifT) = False := eq_false (by decide)
/-- How a statement ends, how it is read, whatever its blocks. -/
theorem ddE_G (l : List Tk) : ∀ d : Nat, ∃ B R, ddE l d = ddG l B ∧ ddR l d = ddQ l B R
  | 0 => ⟨_, _, rfl, rfl⟩
  | d + 1 => ⟨_, _, rfl, rfl⟩
theorem blk_of {l : List Tk} {f : Int → Int} {R : Int → List Rc} (hA : ∀ i, Ahd l i (f i)) {a : List Tk} {rd : List Rc} {k : Nat} {r : List Tk} (hd : l.drop k = [91] :: (a ++ ([93] :: r)))
    (h : ∀ n, a.length < n → dlE l f n ((k + 1 : Nat) : Int) = ((k + 1 + a.length : Nat) : Int) ∧ dlR l f R n ((k + 1 : Nat) : Int) = rd) : blS l f (k : Int) = ((k + a.length + 2 : Nat) : Int) ∧ blR l f R (k : Int) = rd := by
  obtain ⟨h1, h2, h3⟩ := drop_head hd
  have hlen := congrArg List.length h3
  rw [List.length_drop, List.length_append, List.length_cons] at hlen
  obtain ⟨e1, e2⟩ := h (l.length + 1) (by omega)
  constructor
  · unfold blS
    rw [if_pos (tkA_of hd), show (k : Int) + 1 = ((k + 1 : Nat) : Int) by omega, ble_dl hA _ _ (by omega), e1, if_pos (tkA_of (drop_more h3))]
    omega
  · unfold blR
    rw [show (k : Int) + 1 = ((k + 1 : Nat) : Int) by omega]
    exact e2
mutual
theorem Sm.det (l : List Tk) : ∀ (s : Sm) (d k : Nat) (r : List Tk), s.wf d → l.drop k = s.fl ++ r → ddE l d (k : Int) = ((k + s.fl.length : Nat) : Int) ∧ ddR l d (k : Int) = s.rd
  | .set n e, d, k, r, hw, hd => by
    rw [Sm.wf] at hw
    obtain ⟨B, R, hB, hR⟩ := ddE_G l d
    rw [hB, hR]
    have hd1 : l.drop k = setT :: (n :: (e ++ r)) := by rw [hd]; rfl
    have hd2 := (drop_head hd1).2.2
    have hd3 := (drop_head hd2).2.2
    obtain ⟨h1, h2⟩ := sm_det hw.2 hd3
    rw [ddG_some (tkA_of hd1), ddQ_some (tkA_of hd1)]
    simp only [if_true, eq_self]
    rw [show (k : Int) + 1 = ((k + 1 : Nat) : Int) by omega, show (k : Int) + 2 = ((k + 1 + 1 : Nat) : Int) by omega, if_pos (nmA_of hd2 hw.1), h1, h2]
    refine ⟨by rw [Sm.fl]; simp only [List.length_cons]; omega, ?_⟩
    rw [Sm.rd]
    unfold tkN
    rw [tkA_of hd2]; rfl
  | .cut n, d, k, r, hw, hd => by
    rw [Sm.wf] at hw
    obtain ⟨B, R, hB, hR⟩ := ddE_G l d
    rw [hB, hR]
    have hd1 : l.drop k = cutT :: (n :: r) := by rw [hd]; rfl
    have hd2 := (drop_head hd1).2.2
    rw [ddG_some (tkA_of hd1), ddQ_some (tkA_of hd1)]
    simp only [cutT_setT, if_false, if_true, eq_self]
    rw [show (k : Int) + 1 = ((k + 1 : Nat) : Int) by omega, if_pos (nmA_of hd2 hw)]
    refine ⟨by rw [Sm.fl]; simp only [List.length_cons, List.length_nil]; omega, ?_⟩
    rw [Sm.rd]
    unfold tkN
    rw [tkA_of hd2]; rfl
  | .stop, d, k, r, hw, hd => by
    obtain ⟨B, R, hB, hR⟩ := ddE_G l d
    rw [hB, hR]
    have hd1 : l.drop k = stopT :: r := by rw [hd]; rfl
    rw [ddG_some (tkA_of hd1), ddQ_some (tkA_of hd1)]
    simp only [stopT_setT, stopT_cutT, if_false, if_true, eq_self]
    refine ⟨by rw [Sm.fl]; simp only [List.length_cons, List.length_nil]; omega, ?_⟩
    rw [Sm.rd]
  | .ifs e a b, 0, k, r, hw, hd => by rw [Sm.wf] at hw; exact hw.elim
  | .ifs e a b, d + 1, k, r, hw, hd => by
    rw [Sm.wf] at hw
    have hd1 : l.drop k = ifT :: (e ++ ([91] :: (a.fl ++ ([93] :: ([91] :: (b.fl ++ ([93] :: r))))))) := by rw [hd]; simp [Sm.fl]
    have hd2 := (drop_head hd1).2.2
    obtain ⟨h1, h2⟩ := sm_det hw.1 hd2
    have hd3 := drop_more hd2
    obtain ⟨h3, h4⟩ := blk_of (ddE_ahd l d) (R := ddR l d) (rd := a.rd) hd3 (fun n hn => Sl.det l a d _ _ n hw.2.1 (drop_head hd3).2.2 (Or.inr ⟨_, rfl⟩) hn)
    have hd4 : l.drop (k + 1 + e.length + a.fl.length + 2) = [91] :: (b.fl ++ ([93] :: r)) := by
      have := (drop_head (drop_more (drop_head hd3).2.2)).2.2
      rw [show k + 1 + e.length + a.fl.length + 2 = k + 1 + e.length + 1 + a.fl.length + 1 by omega]; exact this
    obtain ⟨h5, h6⟩ := blk_of (ddE_ahd l d) (R := ddR l d) (rd := b.rd) hd4 (fun n hn => Sl.det l b d _ _ n hw.2.2 (drop_head hd4).2.2 (Or.inr ⟨_, rfl⟩) hn)
    have hE : ddE l (d + 1) (k : Int) = ddG l (blS l (ddE l d)) (k : Int) := rfl
    have hR : ddR l (d + 1) (k : Int) = ddQ l (blS l (ddE l d)) (blR l (ddE l d) (ddR l d)) (k : Int) := rfl
    rw [hE, hR, ddG_some (tkA_of hd1), ddQ_some (tkA_of hd1)]
    simp only [ifT_setT, ifT_cutT, ifT_stopT, if_false, if_true, eq_self]
    rw [show (k : Int) + 1 = ((k + 1 : Nat) : Int) by omega, h1, h2, h3, h4, h5, h6]
    refine ⟨by rw [Sm.fl]; simp only [List.length_cons, List.length_nil, List.length_append]; omega, ?_⟩
    rw [Sm.rd]
  | .whl e a, 0, k, r, hw, hd => by rw [Sm.wf] at hw; exact hw.elim
  | .whl e a, d + 1, k, r, hw, hd => by
    rw [Sm.wf] at hw
    have hd1 : l.drop k = whT :: (e ++ ([91] :: (a.fl ++ ([93] :: r)))) := by rw [hd]; simp [Sm.fl]
    have hd2 := (drop_head hd1).2.2
    obtain ⟨h1, h2⟩ := sm_det hw.1 hd2
    have hd3 := drop_more hd2
    obtain ⟨h3, h4⟩ := blk_of (ddE_ahd l d) (R := ddR l d) (rd := a.rd) hd3 (fun n hn => Sl.det l a d _ _ n hw.2 (drop_head hd3).2.2 (Or.inr ⟨_, rfl⟩) hn)
    have hE : ddE l (d + 1) (k : Int) = ddG l (blS l (ddE l d)) (k : Int) := rfl
    have hR : ddR l (d + 1) (k : Int) = ddQ l (blS l (ddE l d)) (blR l (ddE l d) (ddR l d)) (k : Int) := rfl
    rw [hE, hR, ddG_some (tkA_of hd1), ddQ_some (tkA_of hd1)]
    simp only [whT_setT, whT_cutT, whT_stopT, whT_ifT, if_false, if_true, eq_self]
    rw [show (k : Int) + 1 = ((k + 1 : Nat) : Int) by omega, h1, h2, h3, h4]
    refine ⟨by rw [Sm.fl]; simp only [List.length_cons, List.length_nil, List.length_append]; omega, ?_⟩
    rw [Sm.rd]
theorem Sl.det (l : List Tk) : ∀ (a : Sl) (d k : Nat) (r : List Tk) (n : Nat), a.wf d → l.drop k = a.fl ++ r → (r = [] ∨ ∃ q, r = [93] :: q) → a.fl.length < n → dlE l (ddE l d) n (k : Int) = ((k + a.fl.length : Nat) : Int) ∧ dlR l (ddE l d) (ddR l d) n (k : Int) = a.rd
  | .nil, d, k, r, 0, hw, hd, hr, hn => by omega
  | .nil, d, k, r, n + 1, hw, hd, hr, hn => by
    have hd : l.drop k = r := hd
    rw [Sl.rd]
    have e0 : ((k + (Sl.fl .nil).length : Nat) : Int) = (k : Int) := by rw [Sl.fl]; simp
    rw [e0]
    rcases hr with rfl | ⟨q, rfl⟩
    · have hk : l.length ≤ k := List.drop_eq_nil_iff.1 hd
      rw [dlE, dlR, tkA_out (by omega)]
      exact ⟨rfl, rfl⟩
    · rw [dlE, dlR, tkA_of hd]
      exact ⟨if_pos rfl, if_pos rfl⟩
  | .cons s t, d, k, r, 0, hw, hd, hr, hn => by omega
  | .cons s t, d, k, r, n + 1, hw, hd, hr, hn => by
    rw [Sl.wf] at hw
    rw [Sl.fl, List.length_append] at hn
    have hd1 : l.drop k = s.fl ++ (t.fl ++ r) := by rw [hd, Sl.fl, List.append_assoc]
    obtain ⟨h1, h2⟩ := Sm.det l s d k _ hw.1 hd1
    obtain ⟨c, q, hq, hc⟩ := s.head
    have hp := s.pos
    obtain ⟨h3, h4⟩ := Sl.det l t d (k + s.fl.length) r n hw.2 (drop_more hd1) hr (by omega)
    have ht : tkA l (k : Int) = some c := tkA_of (by rw [hd1, hq]; rfl)
    rw [dlE, dlR, ht]
    dsimp only
    rw [if_neg hc, if_neg hc, h1, h2, h3, h4, Sl.fl, Sl.rd, List.length_append]
    exact ⟨by omega, rfl⟩
end
/-- A block's end, in a tree's text. -/
theorem blk_det {l : List Tk} {a : Sl} {d k : Nat} {r : List Tk} (hw : a.wf d) (hd : l.drop k = [91] :: (a.fl ++ ([93] :: r))) : blS l (ddE l d) (k : Int) = ((k + a.fl.length + 2 : Nat) : Int) :=
  (blk_of (ddE_ahd l d) (R := ddR l d) (rd := a.rd) hd (fun n hn => Sl.det l a d _ _ n hw (drop_head hd).2.2 (Or.inr ⟨_, rfl⟩) hn)).1
/-- What is read of a recipe. -/
theorem rd_tree {t : Sl} (hw : t.wf 5) : rcR t.fl = t.rd :=
  (Sl.det t.fl t 5 0 [] (t.fl.length + 1) hw (by simp) (Or.inl rfl) (by omega)).2
end Go.Proofs.YtfnnoehpahdgcaaGreatDoor.Cl
