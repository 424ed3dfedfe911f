/-
  What Means gives, plain: nothing by halves, more fuel, one after the other.
-/
import Derived.Test.YtfnnoehpahdgcaaGreatDoorHe
namespace Go.Proofs.YtfnnoehpahdgcaaGreatDoor.Cl
open Go.RowKit Wd Rp Cu Kp
set_option linter.unusedVariables false
theorem meB_parts {l : List Tk} {bs : List Bi} {gs : List Int} {f : Int} (h : meB l bs gs f = true) : rcB l = true ∧ okI bs = true ∧ thB gs = true ∧ 0 ≤ f ∧ f ≤ 400 := by
  unfold meB at h
  rw [Bool.and_eq_true, Bool.and_eq_true, Bool.and_eq_true] at h
  obtain ⟨h1, h2, h3, h4⟩ := h
  unfold inB at h4
  rw [Bool.and_eq_true, decide_eq_true_eq, decide_eq_true_eq] at h4
  exact ⟨h1, h2, h3, h4.1, h4.2⟩
theorem meB_of {l : List Tk} {bs : List Bi} {gs : List Int} {f : Int} (h1 : rcB l = true) (h2 : okI bs = true) (h3 : thB gs = true) (h4 : 0 ≤ f ∧ f ≤ 400) : meB l bs gs f = true := by
  unfold meB inB
  rw [h1, h2, h3, decide_eq_true h4.1, decide_eq_true h4.2]; rfl
theorem wf_ok {t : Sl} (hw : t.wf 5) : t.ok := Sl.wf_all t hw
theorem end_c {t : Sl} {gs : List Int} {bs : List Bi} {f : Int} : (t.end_ gs bs f).c = (t.run gs ⟨0, bs, f⟩).c := by
  unfold Sl.end_
  split <;> rfl
theorem end_0 {t : Sl} {gs : List Int} {bs : List Bi} {f : Int} (h : (t.run gs ⟨0, bs, f⟩).c = 0) : t.end_ gs bs f = t.run gs ⟨0, bs, f⟩ := if_pos h
theorem end_1 {t : Sl} {gs : List Int} {bs : List Bi} {f : Int} (h : (t.run gs ⟨0, bs, f⟩).c ≠ 0) : t.end_ gs bs f = ⟨(t.run gs ⟨0, bs, f⟩).c, bs, 0⟩ := if_neg h
theorem meV_back {l : List Tk} {bs : List Bi} {gs : List Int} {f : Int} (h : (meV l bs gs f).c ≠ 0) : (meV l bs gs f).b = bs ∧ (meV l bs gs f).f = 0 := by
  cases hm : meB l bs gs f with
  | false => rw [meV_no hm]; exact ⟨rfl, rfl⟩
  | true =>
    obtain ⟨t, hw, ht, e⟩ := meB_tree hm
    rw [e] at h ⊢
    rw [end_c] at h
    rw [end_1 h]
    exact ⟨rfl, rfl⟩
theorem meV_okB {l : List Tk} {bs : List Bi} {gs : List Int} {f : Int} (h : meB l bs gs f = true) : okI (meV l bs gs f).b = true := by
  obtain ⟨h1, h2, h3, h4⟩ := meB_parts h
  obtain ⟨t, hw, ht, e⟩ := meB_tree h
  rw [e]
  by_cases h0 : (t.run gs ⟨0, bs, f⟩).c = 0
  · rw [end_0 h0]; exact Sl.run_ok h3 t ⟨0, bs, f⟩ (wf_ok hw) h2
  · rw [end_1 h0]; exact h2
theorem meV_len {l : List Tk} {bs : List Bi} {gs : List Int} {f : Int} {n : Nat} (hb : bs.length ≤ n) (h12 : 12 ≤ n) : (meV l bs gs f).b.length ≤ n := by
  cases hm : meB l bs gs f with
  | false => rw [meV_no hm]; exact hb
  | true => have := (okI_iff.1 (meV_okB hm)).1; omega
theorem meV_good {l : List Tk} {bs : List Bi} {gs : List Int} {f : Int} (h : (meV l bs gs f).c ≠ 5) : meB l bs gs f = true := by
  cases hm : meB l bs gs f with
  | false => rw [meV_no hm] at h; exact absurd rfl h
  | true => rfl
theorem meV_fuel {l : List Tk} {bs : List Bi} {gs : List Int} {f : Int} (h : (meV l bs gs f).c = 0) : 0 ≤ (meV l bs gs f).f ∧ (meV l bs gs f).f ≤ f ∧ f ≤ 400 := by
  have hm := meV_good (l := l) (bs := bs) (gs := gs) (f := f) (by rw [h]; decide)
  obtain ⟨h1, h2, h3, h4, h5⟩ := meB_parts hm
  obtain ⟨t, hw, ht, e⟩ := meB_tree hm
  rw [e] at h ⊢
  rw [end_c] at h
  rw [end_0 h]
  have := Sl.run_fuel gs t ⟨0, bs, f⟩ h4
  exact ⟨this.1, this.2, h5⟩
theorem meV_wrap {l : List Tk} {bs : List Bi} {gs : List Int} {f : Int} (h : (meV l bs gs f).c = 0) : IntKind.i64.wrap (f - (meV l bs gs f).f) = f - (meV l bs gs f).f := by
  have := meV_fuel h
  rw [IntKind.wrap_i64]; omega
/-- More fuel leaves more, and changes nothing else. -/
theorem meV_more {l : List Tk} {bs : List Bi} {gs : List Int} {f k : Int} (hk : 0 ≤ k) (h400 : f + k ≤ 400) (h5 : (meV l bs gs f).c ≠ 5) (h3 : (meV l bs gs f).c ≠ 3) :
    (meV l bs gs (f + k)).c = (meV l bs gs f).c ∧ (meV l bs gs (f + k)).b = (meV l bs gs f).b ∧ ((meV l bs gs f).c = 0 → (meV l bs gs (f + k)).f = (meV l bs gs f).f + k) := by
  have hm := meV_good h5
  obtain ⟨g1, g2, g3, g4, g5⟩ := meB_parts hm
  obtain ⟨t, hw, ht, e⟩ := meB_tree hm
  have hm2 := meB_of (l := l) (bs := bs) (gs := gs) (f := f + k) g1 g2 g3 ⟨by omega, h400⟩
  obtain ⟨t2, hw2, ht2, e2⟩ := meB_tree hm2
  have et : t2 = t := by rw [← T.rc_det hw2, ← ht2, ht, T.rc_det hw]
  subst et
  rw [e] at h3 ⊢
  rw [e2]
  rw [end_c] at h3
  have hu : t2.run gs ⟨0, bs, f + k⟩ = (t2.run gs ⟨0, bs, f⟩).up k := Sl.run_up gs hk t2 ⟨0, bs, f⟩ g4 h3
  by_cases h0 : (t2.run gs ⟨0, bs, f⟩).c = 0
  · rw [end_0 h0, end_0 (by rw [hu]; exact h0), hu]
    exact ⟨rfl, rfl, fun _ => rfl⟩
  · rw [end_1 h0, end_1 (by rw [hu]; exact h0), hu]
    exact ⟨rfl, rfl, fun e => absurd e h0⟩
/-- Two recipes one after the other. -/
theorem meV_both {l : List Tk} {bs : List Bi} {gs : List Int} {f : Int} (h : (meV l bs gs f).c = 0) (hb : rcB (l ++ l) = true) :
    (meV (l ++ l) bs gs f).c = (meV l (meV l bs gs f).b gs (meV l bs gs f).f).c ∧ ((meV l (meV l bs gs f).b gs (meV l bs gs f).f).c = 0 → meV (l ++ l) bs gs f = meV l (meV l bs gs f).b gs (meV l bs gs f).f) := by
  have hm := meV_good (l := l) (bs := bs) (gs := gs) (f := f) (by rw [h]; decide)
  obtain ⟨g1, g2, g3, g4, g5⟩ := meB_parts hm
  have hf := meV_fuel h
  have hok := meV_okB hm
  obtain ⟨t, hw, ht, e⟩ := meB_tree hm
  have hm2 := meB_of (l := l ++ l) (bs := bs) (gs := gs) (f := f) hb g2 g3 ⟨g4, g5⟩
  obtain ⟨t2, hw2, ht2, e2⟩ := meB_tree hm2
  have et : t2 = t.app t := by rw [← T.rc_det hw2, ← ht2, ht, ← Sl.fl_app, T.rc_det (Sl.wf_app hw hw)]
  subst et
  have hm3 := meB_of (l := l) (bs := (meV l bs gs f).b) (gs := gs) (f := (meV l bs gs f).f) g1 hok g3 ⟨hf.1, by omega⟩
  obtain ⟨t3, hw3, ht3, e3⟩ := meB_tree hm3
  have et3 : t3 = t := by rw [← T.rc_det hw3, ← ht3, ht, T.rc_det hw]
  subst et3
  rw [e3, e2]
  have hr : meV l bs gs f = t3.run gs ⟨0, bs, f⟩ := by
    rw [e] at h ⊢
    rw [end_c] at h
    exact end_0 h
  have hr2 : (⟨0, (meV l bs gs f).b, (meV l bs gs f).f⟩ : St0) = t3.run gs ⟨0, bs, f⟩ := by
    rw [← hr]
    have : (meV l bs gs f) = ⟨(meV l bs gs f).c, (meV l bs gs f).b, (meV l bs gs f).f⟩ := rfl
    rw [h] at this
    exact this.symm
  have hra : (t3.app t3).run gs ⟨0, bs, f⟩ = t3.run gs ⟨0, (meV l bs gs f).b, (meV l bs gs f).f⟩ := by
    rw [Sl.run_app gs t3 t3 ⟨0, bs, f⟩ rfl, if_pos (by rw [← hr]; exact h), hr2]
  rw [end_c, end_c, hra]
  refine ⟨rfl, fun h0 => ?_⟩
  rw [end_0 (by rw [hra]; exact h0), end_0 h0, hra]
end Go.Proofs.YtfnnoehpahdgcaaGreatDoor.Cl
