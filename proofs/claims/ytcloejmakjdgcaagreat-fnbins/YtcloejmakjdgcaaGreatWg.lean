/-
  slices.Insert(s, 0, x) at slices of slices of cells, s a row of the call's own: the row with x ahead, in place or anew.
-/
import Derived.Test.YtcloejmakjdgcaaGreatBa
import Derived.Shelf.RegionOpenPlain
import Derived.Lib.Walk
import Derived.Lib.SliceRun
import Derived.Lib.JoinLaws
import Derived.Lib.AppendZeros
import Derived.Lib.AppendZerosOnto
import Derived.Lib.Overlaps
import Derived.Laws.Externs
import Derived.Laws.IdiomCopy
import Derived.Laws.NewBlocks
namespace Go.Proofs.YtcloejmakjdgcaaGreat.Cl
open Go.RowKit Wd Rp Kp Ra Go.Shelf Go.Lib
set_option linter.unusedVariables false
set_option linter.unusedSimpArgs false
/-- A copy whose run is known: one operation of the walk. -/
theorem wp_copied (w : World) {o : Oper} {a : Act} {K : Act → World → Prop} {Q : Exit → Act → World → Prop} (d s : Operand) (t t' : TypeId)
    (ho : o.op = .call { callee := .builtin .copy, args := #[d, s], argTypes := #[t, t'] }) (v u : Value) (hd : a.eval d = v) (hs : a.eval s = u) {v' : Value} {w' : World}
    (hr : (Builtin.copy_ #[t, t'] o.type #[v, u]).run Tryz.prog w = .ok v' w') (h : K (a.put o.dst v') w') : o.wp Tryz.prog a w K Q := by
  unfold Oper.wp execOp
  simp only [ho, resolve, invoke, builtin, Sem.run_bind, Sem.run_pure, Result.andThen_ok, List.map_toArray, List.map_cons, List.map_nil, hd, hs, hr]
  exact h
theorem wpList_copied (w : World) {ops : Array Oper} {rest : List Oper} {o : Oper} {a : Act} {Q : Exit → Act → World → Prop} (hgd : o.guard = none) (d s : Operand) (t t' : TypeId)
    (ho : o.op = .call { callee := .builtin .copy, args := #[d, s], argTypes := #[t, t'] }) (v u : Value) (hd : a.eval d = v) (hs : a.eval s = u) {v' : Value} {w' : World}
    (hr : (Builtin.copy_ #[t, t'] o.type #[v, u]).run Tryz.prog w = .ok v' w') (h : wpList Tryz.prog ops Q rest (a.put o.dst v') w') : wpList Tryz.prog ops Q (o :: rest) a w :=
  wpList_plain hgd fun _ hK => wp_copied w d s t t' ho v u hd hs hr (hK _ _ h)
theorem step_copied {ops : Array Oper} {o : Oper} {a : Act} {w : World} {K : Act → World → Prop} {Q : Exit → Act → World → Prop} {E : Prop}
    (hg : o.guard = none) (d x : Operand) (dT sT : TypeId) (hop : o.op = Op.call { callee := Callee.builtin Builtin.copy, args := #[d, x], argTypes := #[dT, sT] })
    (v u : Value) (hd : a.eval d = v) (hx : a.eval x = u) {v' : Value} {w' : World} (hr : (Builtin.copy_ #[dT, sT] o.type #[v, u]).run Tryz.prog w = .ok v' w') (hK : K (a.put o.dst v') w') :
    if Region.wanted o (yielded ops a.tmps) = true then Oper.wp Tryz.prog o a w K Q else E := by
  have hw : Region.wanted o (yielded ops a.tmps) = true := by simp [Region.wanted, hg]
  rw [if_pos hw]
  unfold Oper.wp
  simp [execOp, hop, resolve, invoke, builtin, hd, hx, hr, Result.andThen]
  exact hK
theorem some_setCells (b : Nat) (vs : List Value) (o : Nat) (w : World) (h : ∀ j, j < vs.length → (w.cell? ⟨b, o + j, none⟩).isSome = true) (k : Nat) (hk : (w.cell? ⟨b, k, none⟩).isSome = true) : ((w.setCells b o vs).cell? ⟨b, k, none⟩).isSome = true := by
  by_cases hin : o ≤ k ∧ k < o + vs.length
  · have := World.cell?_setCells_in b vs o w h (k - o) (by omega)
    rw [show o + (k - o) = k by omega] at this
    rw [this]; rfl
  · rw [World.cell?_setCells_out b vs o w ⟨b, k, none⟩ (fun _ _ => by show k < o ∨ o + vs.length ≤ k; omega)]
    exact hk
/-- Several stores into a row of the call's own. -/
def setL : List Value → Nat → List Value → List Value
  | xs, _, [] => xs
  | xs, o, v :: r => setL (xs.set o v) (o + 1) r
theorem setL_len : ∀ (vs : List Value) (xs : List Value) (o : Nat), (setL xs o vs).length = xs.length
  | [], _, _ => rfl
  | v :: r, xs, o => by rw [setL, setL_len r]; simp
theorem setL_is : ∀ (vs : List Value) (xs : List Value) (o : Nat), o + vs.length ≤ xs.length → setL xs o vs = xs.take o ++ vs ++ xs.drop (o + vs.length)
  | [], xs, o, h => by simp [setL]
  | v :: r, xs, o, h => by
    rw [List.length_cons] at h
    rw [setL, setL_is r (xs.set o v) (o + 1) (by rw [List.length_set]; omega), take_set (by omega)]
    rw [List.drop_set_of_lt (by omega)]
    simp [Nat.add_assoc, Nat.add_comm 1]
theorem RowS.sets {B : Nat} {g n cap : Nat} : ∀ (vs us : List Value) (o : Nat) (w : World), RowS B w (.slice (some ⟨g, 0, none⟩) n cap) us → n = us.length → RowS B (w.setCells g o vs) (.slice (some ⟨g, 0, none⟩) n cap) (setL us o vs) ∧ w.grownBy (w.setCells g o vs) (some g)
  | [], us, o, w, h, hn => ⟨h, World.grownBy.refl _ _⟩
  | v :: r, us, o, w, h, hn => by
    obtain ⟨h1, g1⟩ := RowS.set h hn o v
    obtain ⟨h2, g2⟩ := RowS.sets r (us.set o v) (o + 1) _ h1 (by rw [List.length_set]; exact hn)
    exact ⟨h2, g1.trans g2⟩
theorem RowS.more {B : Nat} {w : World} {g n cap : Nat} {us : List Value} (h : RowS B w (.slice (some ⟨g, 0, none⟩) n cap) us) (hn : n = us.length) (hc : n < cap) : ∃ x, RowS B w (.slice (some ⟨g, 0, none⟩) (n + 1) cap) (us ++ [x]) ∧ (∀ j, j < n + 1 → (w.cell? ⟨g, j, none⟩).isSome = true) ∧ (∀ j, w.frozen? ⟨g, j, none⟩ = false) ∧ w.shape? g = some (24, cap) := by
  subst hn
  obtain ⟨h1, h2⟩ := h
  rcases h2 with ⟨e, -⟩ | ⟨g', cap', cur, e, hB, hg, hnc, hcm, hsz, hxs⟩
  · cases e
  · cases e
    have hs2 : cur.size = cap := by rw [hsz, Nat.mul_one]
    have hlt : us.length < cur.toList.length := by rw [show cur.toList.length = cur.size from Array.length_toList]; omega
    refine ⟨cur.toList[us.length], ⟨by simp, .inr ⟨g, cap, cur, by simp, hB, hg, by simp; omega, hcm, hsz, ?_⟩⟩, fun j hj => ?_, fun j => by simp [World.frozen?, hg], by simp [World.shape?, hg, hs2]⟩
    · rw [Nat.mul_one] at hxs ⊢
      rw [List.length_append, List.length_singleton, take_at (List.getElem?_eq_getElem hlt), hxs]
    · simp only [World.cell?, hg]
      rw [Array.getElem?_eq_getElem (by omega)]; rfl
def InPost (B : Nat) (sv u : Value) (us : List Value) (w : World) (e : Ending) (w' : World) : Prop := ∃ sv', e = .returned sv' ∧ RowS B w' sv' (u :: us) ∧ w.grownBy w' sv.ownBlock ∧ (sv'.ownBlock = sv.ownBlock ∨ sv'.ownBlock = some w.heap.size)
theorem setL_ins {us : List Value} {x u : Value} : setL (setL (us ++ [x]) 1 us) 0 [u] = u :: us := by
  rw [setL_is us (us ++ [x]) 1 (by rw [List.length_append, List.length_singleton]; omega), setL_is [u] _ 0 (by simp)]
  cases us with
  | nil => simp
  | cons y r => simp [Nat.add_comm 1]
theorem one_of_heads {us : List Value} {hs : List Hd} (e : us = hs.map Hd.val) : ∀ v ∈ us, v.oneCell' = true := fun v hv => by
  rw [e] at hv
  obtain ⟨x, -, rfl⟩ := List.mem_map.1 hv
  rfl
theorem drew_grown (w : World) (row : Option Nat) : w.grownBy w.drew row := ⟨rfl, rfl, rfl, Nat.le_refl _, fun _ _ _ => rfl⟩
end Go.Proofs.YtcloejmakjdgcaaGreat.Cl
