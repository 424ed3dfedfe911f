/-
  The contracts of impl.PutBarn and spec.PutBarn: 'pbH', 'pbS', 'pbB'.
  The contract of spec.PutBarn: 'pbH', 'pbS', 'pbB'.
-/
import Derived.Test.YtcloejmakjdgcaaGreatWa
import Derived.Test.YtcloejmakjdgcaaGreatCn
import Derived.Test.YtcloejmakjdgcaaGreatRe
namespace Go.Proofs.YtcloejmakjdgcaaGreat.Cl
open Go.RowKit Wd Rp Kp Ra
set_option linter.unusedVariables false
/-- What PutBarn gives. -/
def pbH (h : List Cel) (ss : List (List Cel)) (c : Cel) : List Cel := if okB h ss then (putQ h c).1 else []
def pbS (h : List Cel) (ss : List (List Cel)) : List (List Cel) := if okB h ss then ss else []
def pbB (h : List Cel) (ss : List (List Cel)) (c : Cel) : Bool := if okB h ss then (putQ h c).2 else false
def PbPost (h' : List Cel) (ss' : List (List Cel)) (b : Bool) (w : World) (e : Ending) (w' : World) : Prop := ∃ hv sv, e = .returned (.tuple #[.agg #[hv, sv], .bool b]) ∧ OwB w.heap.size w' hv sv h' ss' ∧ Below w.heap.size w w'
theorem putP_Q {h : List Cel} {c : Cel} (hk : okL h = true) : putP h c = putQ h c := by unfold putP putQ; rw [hk]; rfl
theorem OwT.hand {B T C : Nat} {w : World} {hv sv v' : Value} {h h' : List Cel} {ss : List (List Cel)} (o : OwT B T w hv sv h ss) (ov : OwC C w v' h') (hB : B ≤ C) (hT : T ≤ C) : OwB B w v' sv h' ss := by
  obtain ⟨us, h1, h2, h3⟩ := o
  refine OwB.mk (ov.mono hB) h1 ⟨by have := h2.1; simpa using this, fun j u l k1 k2 => h2.2.1 (j + 1) u l (by simpa using k1) (by simpa using k2), (List.pairwise_cons.1 h2.2.2).2⟩ (fun x hx k hk e => ?_)
  have a1 := OwC.lt ov k hk
  have a2 := h3 x (by simp [hx]) k e
  omega
theorem OwB.nothing (B : Nat) (w : World) : OwB B w (.slice none 0 0) (.slice none 0 0) [] [] := OwB.mk (OwC.nothing _ _) (RowS.nothing _ _) ⟨rfl, fun j u l h1 => by simp at h1, List.Pairwise.nil⟩ (fun x hx => by cases hx)
/-- The three blocks of PutBarn: the store, the cell, the result. -/
def PbF (q : Nat) (u v : Value) (c : Cel) (w : World) : Prop := Bb q u v w ∧ Cb (q + 1) c w ∧ Bb (q + 2) (.slice none 0 0) (.slice none 0 0) w
theorem PbF.next {q : Nat} {u v : Value} {c : Cel} {w w' : World} (h : PbF q u v c w) (hb : Below w.heap.size w w') : PbF q u v c w' := ⟨h.1.next hb, h.2.1.next hb, h.2.2.next hb⟩
theorem PbF.made (u v : Value) (c : Cel) (w : World) : PbF w.heap.size u v c (((w.alloc (.cells #[u, v] 27)).alloc (.cells #[.string c.r, .string c.b, .int .i64 c.t, .int .i64 c.v, .bool c.g] 44)).alloc (.cells #[.slice none 0 0, .slice none 0 0] 27)) := by
  refine ⟨(Bb.made u v w _).next (bel2 _ _ _), ?_, ?_⟩
  · have := (Cb.made c (w.alloc (.cells #[u, v] 27)) 44).next (bel1 _ (.cells #[.slice none 0 0, .slice none 0 0] 27))
    rwa [World.size_alloc] at this
  · have := Bb.made (.slice none 0 0) (.slice none 0 0) ((w.alloc (.cells #[u, v] 27)).alloc (.cells #[.string c.r, .string c.b, .int .i64 c.t, .int .i64 c.v, .bool c.g] 44)) 27
    rwa [World.size_alloc, World.size_alloc] at this
theorem pb_end {q O : Nat} {u v hv sv : Value} {c : Cel} {h : List Cel} {ss : List (List Cel)} {w z : World} (hq : w.heap.size = q) (f : PbF q u v c z) (o : OwB (q + 3) z hv sv h ss) (hb : Below q w z) :
    ((z.setCell ⟨q + 2, 0, none⟩ hv).setCell ⟨q + 2, 1, none⟩ sv).cell? ⟨q + 2, 0, none⟩ = some hv ∧ ((z.setCell ⟨q + 2, 0, none⟩ hv).setCell ⟨q + 2, 1, none⟩ sv).cell? ⟨q + 2, 1, none⟩ = some sv ∧ OwB w.heap.size ((z.setCell ⟨q + 2, 0, none⟩ hv).setCell ⟨q + 2, 1, none⟩ sv) hv sv h ss ∧ Below w.heap.size w ((z.setCell ⟨q + 2, 0, none⟩ hv).setCell ⟨q + 2, 1, none⟩ sv) := by
  subst hq
  have k := (f.2.2.set0 hv).set1 sv
  refine ⟨k.1, k.2.1, ((o.put (p := ⟨w.heap.size + 2, 0, none⟩) (by show w.heap.size + 2 < w.heap.size + 3; omega) _).put (p := ⟨w.heap.size + 2, 1, none⟩) (by show w.heap.size + 2 < w.heap.size + 3; omega) _).mono (by omega), ?_⟩
  exact (hb.setCell (p := ⟨w.heap.size + 2, 0, none⟩) (by show w.heap.size ≤ w.heap.size + 2; omega) _).setCell (p := ⟨w.heap.size + 2, 1, none⟩) (by show w.heap.size ≤ w.heap.size + 2; omega) _
end Go.Proofs.YtcloejmakjdgcaaGreat.Cl
namespace Go.Proofs.YtcloejmakjdgcaaGreat.Cl
open Go.RowKit Wd Rp Kp Ra
set_option linter.unusedVariables false
theorem kept_ins {O : Nat} {w w' : World} (h : Kept (fun k => k = O) none w w') : Ins O (O + 1) w w' := ⟨h.os, h.tape, h.output, h.size, fun k hk hb => h.block k hk (fun e => by have : k = O := e; omega) (by simp)⟩
theorem PbF.kept {q O : Nat} {u v : Value} {c : Cel} {w w' : World} (f : PbF q u v c w) (h : Kept (fun k => k = O) none w w') (hO : q + 2 < O) : PbF q u v c w' := by
  have key : ∀ k, k < w.heap.size → k ≤ q + 2 → w'.heap[k]? = w.heap[k]? := fun k hk hq => h.block k hk (fun e => by have : k = O := e; omega) (by simp)
  exact ⟨f.1.same' (key _ f.1.2.2.2.2 (by omega)), f.2.1.same (key _ f.2.1.2.2 (by omega)), f.2.2.same' (key _ f.2.2.2.2.2.2 (by omega))⟩
end Go.Proofs.YtcloejmakjdgcaaGreat.Cl
