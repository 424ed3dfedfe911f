/-
  The contracts of spec.Laid and impl.Laid: 'ldH', 'ldS', 'ldB'.
-/
import Derived.Test.YtcloejmakjdgcaaGreatWh
namespace Go.Proofs.YtcloejmakjdgcaaGreat.Cl
open Go.RowKit Wd Rp Kp Ra
set_option linter.unusedVariables false
/-- What Laid gives. -/
def ldH (h : List Cel) (ss : List (List Cel)) : List Cel := if okB h ss then lyH h ss else []
def ldS (h : List Cel) (ss : List (List Cel)) : List (List Cel) := if okB h ss then lyS h ss else []
def ldB (h : List Cel) (ss : List (List Cel)) : Bool := if okB h ss then lyB h ss else false
/-- The blocks: the store, the result. -/
def LdF (q : Nat) (u v : Value) (w : World) : Prop := Bb q u v w ∧ Bb (q + 1) (.slice none 0 0) (.slice none 0 0) w
theorem LdF.next {q : Nat} {u v : Value} {w w' : World} (h : LdF q u v w) (hb : Below w.heap.size w w') : LdF q u v w' := ⟨h.1.next hb, h.2.next hb⟩
theorem LdF.made (u v : Value) (w : World) : LdF w.heap.size u v ((w.alloc (.cells #[u, v] 27)).alloc (.cells #[.slice none 0 0, .slice none 0 0] 27)) := by
  refine ⟨(Bb.made u v w _).next (bel1 _ _), ?_⟩
  have := Bb.made (.slice none 0 0) (.slice none 0 0) (w.alloc (.cells #[u, v] 27)) 27
  rwa [World.size_alloc] at this
theorem LdF.kept {q O : Nat} {u v : Value} {w w' : World} (f : LdF q u v w) (h : Kept (fun k => k = O) none w w') (hO : q + 1 < O) : LdF q u v w' := by
  have key : ∀ k, k < w.heap.size → k ≤ q + 1 → w'.heap[k]? = w.heap[k]? := fun k hk hq => h.block k hk (fun e => by have : k = O := e; omega) (by simp)
  exact ⟨f.1.same' (key _ f.1.2.2.2.2 (by omega)), f.2.same' (key _ f.2.2.2.2.2 (by omega))⟩
theorem ld_end {q : Nat} {u v hv sv : Value} {h : List Cel} {ss : List (List Cel)} {w z : World} (hq : w.heap.size = q) (f : LdF q u v z) (o : OwB (q + 2) z hv sv h ss) (hb : Below q w z) :
    ((z.setCell ⟨q + 1, 0, none⟩ hv).setCell ⟨q + 1, 1, none⟩ sv).cell? ⟨q + 1, 0, none⟩ = some hv ∧ ((z.setCell ⟨q + 1, 0, none⟩ hv).setCell ⟨q + 1, 1, none⟩ sv).cell? ⟨q + 1, 1, none⟩ = some sv ∧ OwB w.heap.size ((z.setCell ⟨q + 1, 0, none⟩ hv).setCell ⟨q + 1, 1, none⟩ sv) hv sv h ss ∧ Below w.heap.size w ((z.setCell ⟨q + 1, 0, none⟩ hv).setCell ⟨q + 1, 1, none⟩ sv) := by
  subst hq
  have k := (f.2.set0 hv).set1 sv
  refine ⟨k.1, k.2.1, ((o.put (p := ⟨w.heap.size + 1, 0, none⟩) (by show w.heap.size + 1 < w.heap.size + 2; omega) _).put (p := ⟨w.heap.size + 1, 1, none⟩) (by show w.heap.size + 1 < w.heap.size + 2; omega) _).mono (by omega), ?_⟩
  exact (hb.setCell (p := ⟨w.heap.size + 1, 0, none⟩) (by show w.heap.size ≤ w.heap.size + 1; omega) _).setCell (p := ⟨w.heap.size + 1, 1, none⟩) (by show w.heap.size ≤ w.heap.size + 1; omega) _
theorem LdF.grown {q : Nat} {u v : Value} {w w' : World} {row : Option Nat} (f : LdF q u v w) (h : w.grownBy w' row) (hr : ∀ k, row = some k → q + 1 < k) : LdF q u v w' := by
  have key : ∀ k, k < w.heap.size → k ≤ q + 1 → w'.heap[k]? = w.heap[k]? := fun k hk hq => h.block k hk (fun e => by have := hr k e.symm; omega)
  exact ⟨f.1.same' (key _ f.1.2.2.2.2 (by omega)), f.2.same' (key _ f.2.2.2.2.2 (by omega))⟩
theorem OwB.laid {B C : Nat} {w w' : World} {hv sv sv' : Value} {us : List Value} {h : List Cel} {ss : List (List Cel)} (hr : RowS B w sv us) (hl : OwL B w (hv :: us) (h :: ss)) (r : RowS B w' sv' (hv :: us)) (g : w.grownBy w' sv.ownBlock) (hC : C ≤ B) : OwB C w' (.slice none 0 0) sv' [] (h :: ss) :=
  OwB.mk (OwC.nothing _ _) (r.mono hC) ((hl.grown g (fun x hx k hk e => hr.apart hl x hx k hk e)).mono hC) (fun x hx k hk => by simp [Value.ownBlock] at hk)
theorem ld_low (h : List Cel) (ss : List (List Cel)) : Low (ldH h ss) (ldS h ss) ∧ (ldH h ss).length + tott (ldS h ss) ≤ 1048576 := by
  unfold ldH ldS
  cases hok : okB h ss
  · exact ⟨⟨by simp, by simp, fun l hl => by simp at hl⟩, by simp [tott]⟩
  · obtain ⟨h1, h2⟩ := okB_tot hok
    obtain ⟨-, h3, h4⟩ := okB_iff.1 hok
    have h5 : ∀ l ∈ ss, l.length ≤ 200 := fun l hl => (okL_iff.1 (h4 l hl).2).2
    simp only [if_true]
    unfold lyH lyS
    cases lyB h ss
    · exact ⟨⟨by simp; omega, by simp; omega, fun l hl => by have := h5 l (by simpa using hl); omega⟩, by simp; omega⟩
    · refine ⟨⟨by simp, by simp; omega, fun l hl => ?_⟩, by simp [tott_cons]; omega⟩
      rcases List.mem_cons.1 (show l ∈ h :: ss by simpa using hl) with rfl | hl
      · omega
      · have := h5 l hl; omega
end Go.Proofs.YtcloejmakjdgcaaGreat.Cl
