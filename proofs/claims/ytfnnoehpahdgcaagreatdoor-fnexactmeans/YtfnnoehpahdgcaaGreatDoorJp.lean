/-
  Plain facts on bins set and removed (split out of Jg).
-/
import Derived.Test.YtfnnoehpahdgcaaGreatDoorJa
namespace Go.Proofs.YtfnnoehpahdgcaaGreatDoor.Cl
open Go.RowKit Wd Rp Kp
set_option linter.unusedVariables false
theorem take_less {l : List Bi} {n : ByteArray} : ∀ c ∈ l.take (cntI n l), Op.bytesLess c.n.toList n.toList = true := fun c hc => by
  obtain ⟨k, hk⟩ := List.mem_iff_getElem?.1 hc
  rw [List.getElem?_take] at hk
  split at hk
  · rename_i h; exact cntI_lt h hk
  · cases hk
theorem beh_more {l : List Bi} {n : ByteArray} (ha : Asc l) : ∀ c ∈ behI n l, Op.bytesLess n.toList c.n.toList = true := fun c hc => by
  obtain ⟨k, hk⟩ := List.mem_iff_getElem?.1 hc
  unfold behI at hk
  rw [List.getElem?_drop] at hk
  have h3 := bl_three c.n.toList n.toList
  cases hat : isAt n l
  · rw [hat, if_neg (by decide)] at hk
    have h1 := cntI_ge ha (show cntI n l ≤ cntI n l + k by omega) hk
    rw [h1, Bool.false_or] at h3
    rw [h3]
    by_cases e : c.n.toList = n.toList
    · cases k with
      | zero => rw [isAt_some hk, e] at hat; simp at hat
      | succ k =>
        have hl := (List.getElem?_eq_some_iff.1 hk).1
        have hd := List.getElem?_eq_getElem (l := l) (i := cntI n l) (by omega)
        have h2 := asc_lt ha (show cntI n l < cntI n l + (k + 1) by omega) hd hk
        rw [e] at h2
        rw [cntI_at hd] at h2; cases h2
    · simpa using e
  · rw [hat, if_pos rfl] at hk
    have hl := isAt_lt hat
    have hd := List.getElem?_eq_getElem (l := l) (i := cntI n l) hl
    have h2 := asc_lt ha (show cntI n l < cntI n l + 1 + k by omega) hd hk
    rw [isAt_some hd] at hat
    rw [← beq_iff_eq.1 hat]; exact h2
theorem mem_parts {l : List Bi} {n : ByteArray} {c : Bi} (hc : c ∈ l) (hn : c.n.toList ≠ n.toList) : c ∈ l.take (cntI n l) ∨ c ∈ behI n l := by
  obtain ⟨k, hk⟩ := List.mem_iff_getElem?.1 hc
  by_cases h : k < cntI n l
  · exact Or.inl (List.mem_iff_getElem?.2 ⟨k, by rw [List.getElem?_take, if_pos h]; exact hk⟩)
  · right
    unfold behI
    cases hat : isAt n l
    · rw [if_neg (by decide)]
      exact List.mem_iff_getElem?.2 ⟨k - cntI n l, by rw [List.getElem?_drop, show cntI n l + (k - cntI n l) = k by omega]; exact hk⟩
    · rw [if_pos rfl]
      have hne : k ≠ cntI n l := fun e => by
        subst e
        rw [isAt_some hk] at hat
        exact hn (beq_iff_eq.1 hat)
      exact List.mem_iff_getElem?.2 ⟨k - (cntI n l + 1), by rw [List.getElem?_drop, show cntI n l + 1 + (k - (cntI n l + 1)) = k by omega]; exact hk⟩
theorem beh_mem {l : List Bi} {n : ByteArray} {c : Bi} (h : c ∈ behI n l) : c ∈ l := List.mem_of_mem_drop h
theorem asc_ct {l : List Bi} {n : ByteArray} (ha : Asc l) : Asc (ctI l n) := by
  unfold ctI
  refine List.pairwise_append.2 ⟨ha.sublist (List.take_sublist _ _), ha.sublist (List.drop_sublist _ _), fun c hc d hd => ?_⟩
  exact bl_tr (take_less c hc) (beh_more ha d hd)
theorem asc_st {l : List Bi} {n : ByteArray} {v : Int} (ha : Asc l) : Asc (stI l n v) := by
  unfold stI
  refine List.pairwise_append.2 ⟨ha.sublist (List.take_sublist _ _), ?_, fun c hc d hd => ?_⟩
  · refine List.pairwise_append.2 ⟨List.pairwise_singleton _ _, ha.sublist (List.drop_sublist _ _), fun c hc d hd => ?_⟩
    rw [List.mem_singleton] at hc; subst hc
    exact beh_more ha d hd
  · rcases List.mem_append.1 hd with e | e
    · rw [List.mem_singleton] at e; subst e; exact take_less c hc
    · exact bl_tr (take_less c hc) (beh_more ha d e)
theorem bl_ne {x y : List UInt8} (h : Op.bytesLess x y = true) : (x == y) = false := by
  cases e : (x == y) with
  | false => rfl
  | true => rw [beq_iff_eq.1 e, bl_irr] at h; cases h
/-- In ascending bins a name is there once. -/
theorem valL_mem {l : List Bi} (ha : Asc l) {c : Bi} (hc : c ∈ l) {n : ByteArray} (hn : c.n.toList = n.toList) : valL n l = (c.v, true) := by
  obtain ⟨k, hk⟩ := List.mem_iff_getElem?.1 hc
  refine valL_at hk (fun j d hj hd => ?_) (by simp [hn])
  rw [← hn]
  exact bl_ne (asc_lt ha hj hd hk)
theorem valL_out {l : List Bi} {n : ByteArray} (h : ∀ c ∈ l, c.n.toList ≠ n.toList) : valL n l = (0, false) := valL_none fun j d hd => by
  have := h d (List.mem_of_getElem? hd)
  simpa using this
/-- What ValueIn gives behind CutBin. -/
theorem cut_val {l : List Bi} (hok : okI l = true) {c : Bi} (hc : c ∈ l) (g : ByteArray) : valL c.n (cbP l g) = if (c.n.toList == g.toList) = true then (0, false) else (c.v, true) := by
  have ha := (okI_iff.1 hok).2.1
  rw [cbP_yes hok]
  split
  · rename_i e
    have e' := beq_iff_eq.1 e
    refine valL_out fun d hd => ?_
    rw [e']
    unfold ctI at hd
    rcases List.mem_append.1 hd with hd | hd
    · have := bl_ne (take_less d hd); simpa using this
    · have := bl_ne (beh_more ha d hd)
      intro e2; rw [e2] at this; simp at this
  · rename_i e
    refine valL_mem (asc_ct ha) ?_ rfl
    unfold ctI
    exact List.mem_append.2 (mem_parts hc (by simpa using e))
/-- .. and behind SetBin. -/
theorem set_val {l : List Bi} (ha : Asc l) {c : Bi} (hc : c ∈ l) (n : ByteArray) (v : Int) : valL c.n (stI l n v) = if (c.n.toList == n.toList) = true then (v, true) else (c.v, true) := by
  split
  · rename_i e
    exact valL_mem (asc_st ha) (c := ⟨n, v⟩) (by unfold stI; simp) (beq_iff_eq.1 e).symm
  · rename_i e
    refine valL_mem (asc_st ha) ?_ rfl
    unfold stI
    rcases mem_parts hc (n := n) (by simpa using e) with h | h
    · exact List.mem_append.2 (Or.inl h)
    · exact List.mem_append.2 (Or.inr (List.mem_append.2 (Or.inr h)))
theorem set_self {l : List Bi} (ha : Asc l) (n : ByteArray) (v : Int) : valL n (stI l n v) = (v, true) := valL_mem (asc_st ha) (c := ⟨n, v⟩) (by unfold stI; simp) rfl
theorem set_ok {l : List Bi} {n : ByteArray} {v : Int} (hok : okI l = true) (h : (nmB n.data.toList && isW v) = true) (h12 : (stI l n v).length ≤ 12) : okI (stI l n v) = true := by
  obtain ⟨h1, h2, h3⟩ := okI_iff.1 hok
  refine okI_iff.2 ⟨h12, asc_st h2, fun c hc => ?_⟩
  unfold stI at hc
  rcases List.mem_append.1 hc with hc | hc
  · exact h3 c (List.mem_of_mem_take hc)
  · rcases List.mem_append.1 hc with hc | hc
    · rw [List.mem_singleton] at hc; subst hc; exact h
    · exact h3 c (beh_mem hc)
/-- How SetBin may end. -/
theorem sb_cases (l : List Bi) (n : ByteArray) (v : Int) : (okI l = false ∧ sbP l n v = ([], false)) ∨ (okI l = true ∧ sbP l n v = (l, false)) ∨ (okI l = true ∧ sbP l n v = (stI l n v, true) ∧ okI (stI l n v) = true) := by
  cases hok : okI l with
  | false => exact .inl ⟨rfl, sbP_no hok⟩
  | true =>
    cases hb : (nmB n.data.toList && isW v) with
    | false => exact .inr (.inl ⟨rfl, sbP_bad hok hb⟩)
    | true =>
      by_cases h12 : (stI l n v).length ≤ 12
      · exact .inr (.inr ⟨rfl, sbP_yes hok hb h12, set_ok hok hb h12⟩)
      · exact .inr (.inl ⟨rfl, sbP_long hok h12⟩)
end Go.Proofs.YtfnnoehpahdgcaaGreatDoor.Cl
