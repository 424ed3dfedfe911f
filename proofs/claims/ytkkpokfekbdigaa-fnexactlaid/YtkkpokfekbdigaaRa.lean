/-
  A range over a function whose iterator may hold such a loop of its own, and blocks of its own: what an iterator promises ('Hands'), and the law of the loop over it ('loop_hands').
  slices.Values over a slice of slices, impl.shelvesOf: what they hand over.
  impl.tablesOf: its iterator hands over Hand, then the shelves.
-/
import Derived.Test.YtkkpokfekbdigaaWd
import Derived.RangeFuncWrites
import Derived.RangeFuncCalls
import Derived.RangeFuncBox
import Derived.RangeFuncNested
import Derived.RangeFuncLeaves
import Derived.Shelf.Abstract
import Derived.Shelf.RegionOpen
import Derived.WalkKit
import Derived.OwnWalkIn
import Derived.TacticsInMore
import Derived.LoopNIn
import Derived.LoopIn
namespace Go.Proofs.Ytkkpokfekbdigaa.Ra
open Go.RowKit
set_option linter.unusedVariables false
/-- Nothing that lay has turned but what F names, and the block g. -/
structure Kept (F : Nat → Prop) (g : Option Nat) (w w' : World) : Prop where
  os : w'.os = w.os
  tape : w'.tape = w.tape
  output : w'.output = w.output
  size : w.heap.size ≤ w'.heap.size
  block : ∀ k, k < w.heap.size → ¬ F k → g ≠ some k → w'.heap[k]? = w.heap[k]?
  other : ∀ (k : Nat) (o : Obj), w.heap[k]? = some o → o.isCells = false → ¬ F k → w'.heap[k]? = some o
theorem Kept.refl (F : Nat → Prop) (g : Option Nat) (w : World) : Kept F g w w := ⟨rfl, rfl, rfl, Nat.le_refl _, fun _ _ _ _ => rfl, fun _ _ h _ _ => h⟩
theorem Kept.trans {F : Nat → Prop} {g : Option Nat} {x y z : World} (h : Kept F g x y) (k : Kept F g y z) : Kept F g x z :=
  ⟨k.os.trans h.os, k.tape.trans h.tape, k.output.trans h.output, Nat.le_trans h.size k.size, fun i hi hf hg => (k.block i (Nat.lt_of_lt_of_le hi h.size) hf hg).trans (h.block i hi hf hg), fun i o hi ho hf => k.other i o (h.other i o hi ho hf) ho hf⟩
theorem Kept.wider {F G : Nat → Prop} {g : Option Nat} {x y : World} (h : Kept F g x y) (hF : ∀ k, F k → G k) : Kept G g x y := ⟨h.os, h.tape, h.output, h.size, fun i hi hf hg => h.block i hi (fun e => hf (hF i e)) hg, fun i o hi ho hf => h.other i o hi ho (fun e => hf (hF i e))⟩
theorem Kept.of_below {F : Nat → Prop} {g : Option Nat} {x y : World} (h : Below x.heap.size x y) : Kept F g x y := ⟨h.os, h.tape, h.output, h.size, fun i hi _ _ => h.block i hi, fun i o hi _ _ => (h.block i (Array.getElem?_eq_some_iff.1 hi).1).trans hi⟩
theorem Kept.of_grown {F : Nat → Prop} {g : Option Nat} {x y : World} {row : Option Nat} (h : x.grownBy y row) (hr : ∀ k, row = some k → F k ∨ (g = some k ∧ ∀ o, x.heap[k]? = some o → o.isCells = true)) : Kept F g x y :=
  ⟨h.os, h.tape, h.output, h.size, fun i hi hf hg => h.block i hi (fun e => (hr i e.symm).elim hf (fun q => hg q.1)), fun i o hi ho hf => (h.block i (Array.getElem?_eq_some_iff.1 hi).1 (fun e => (hr i e.symm).elim hf (fun q => by rw [q.2 o hi] at ho; cases ho))).trans hi⟩
theorem Kept.keeps {F : Nat → Prop} {g : Option Nat} {x y : World} {B : Nat} (h : Kept F g x y) (hF : ∀ k, F k → k < B) : KeepsFrom B x y := ⟨h.size, fun k o hk ho hc => h.other k o ho hc (fun e => by have := hF k e; omega)⟩
theorem Kept.below {F : Nat → Prop} {g : Option Nat} {x y : World} {B : Nat} (h : Kept F g x y) (hB : B ≤ x.heap.size) (hF : ∀ k, F k → B ≤ k) (hg : ∀ k, g = some k → B ≤ k) : Below B x y :=
  ⟨h.os, h.tape, h.output, h.size, fun i hi => h.block i (by omega) (fun e => by have := hF i e; omega) (fun e => by have := hg i e; omega)⟩
theorem Kept.set {F : Nat → Prop} {g : Option Nat} {w : World} {p : Addr} (h : F p.block) (v : Value) : Kept F g w (w.setCell p v) :=
  ⟨rfl, rfl, rfl, by rw [World.size_setCell]; exact Nat.le_refl _, fun k _ hf _ => Below.heap_setCell _ _ _ k (fun e => hf (by rw [e]; exact h)), fun k o hk _ hf => (Below.heap_setCell _ _ _ k (fun e => hf (by rw [e]; exact h))).trans hk⟩
/-- A block of the caller's own, if there is one, is the one that it had or a new one. -/
def Newer (n m : Nat) (g g' : Option Nat) : Prop := g' = g ∨ ∃ k, g' = some k ∧ n ≤ k ∧ k < m
/-- The function value (f, lb) hands over the values xs one after the other, until it is told to stop; a round turns what F names, and the block g. -/
def Hands (P : Program) (f : Nat) (lb : Array Value) (F : Nat → Prop) (xs : List Value) (w : World) : Prop :=
  ∀ (l : Nat) (J : List Value × Option Nat → World → Prop) (Jx : List Value → World → Prop) (W : World), Below w.heap.size w W → w.heap.size ≤ l → l < W.heap.size → (∀ k, F k → k < l) → OwnFrom W.heap.size J → OwnFrom W.heap.size Jx →
    (∀ pre x, (pre ++ [x]) <+: xs → ∀ g W1 m, J (pre, g) W1 → YieldAt Fence.wide m P l #[x] W1 fun e W' =>
      (e = .returned (.bool true) ∧ ∃ g', J (pre ++ [x], g') W' ∧ Newer W1.heap.size W'.heap.size g g' ∧ Kept (fun k => F k ∨ k = l) g W1 W') ∨ (e = .returned (.bool false) ∧ Jx (pre ++ [x]) W' ∧ KeepsFrom (l + 1) W1 W')) →
    J ([], none) W → ∀ n, CallsIn Fence.wide n P f (#[.func (.yield l) #[] #[]] ++ lb) W fun e W' => (∃ v, e = .returned v) ∧ ((∃ g, J (xs, g) W') ∨ ∃ pre, pre <+: xs ∧ Jx pre W')
theorem Hands.later {P : Program} {f : Nat} {lb : Array Value} {F : Nat → Prop} {xs : List Value} {w w' : World} (h : Hands P f lb F xs w) (hb : Below w.heap.size w w') : Hands P f lb F xs w' :=
  fun l J Jx W hW hl => h l J Jx W (hb.trans (hW.mono hb.size)) (Nat.le_trans hb.size hl)
theorem OwnFrom.wider {β : Type} {B C : Nat} {I : β → World → Prop} (h : OwnFrom B I) (hBC : B ≤ C) : OwnFrom C I :=
  fun s W W' row hs hg hr => h s W W' row hs hg fun r e => ⟨Nat.le_trans hBC (hr r e).1, (hr r e).2⟩
theorem KeepsFrom.wider {B C : Nat} {W W' : World} (h : KeepsFrom B W W') (hBC : B ≤ C) : KeepsFrom C W W' := ⟨h.size, fun k o hk => h.same k o (Nat.le_trans hBC hk)⟩
theorem Below.keeps {B : Nat} {W W' : World} (h : Below W.heap.size W W') : KeepsFrom B W W' := ⟨h.size, fun k o _ hk _ => (h.block k (Array.getElem?_eq_some_iff.1 hk).1).trans hk⟩
/-- The two blocks of a loop's own: the record, and the one for deferred calls. -/
def Two (D : Nat) (r : Loop) (W : World) : Prop := W.heap[D + 1]? = some (.loop r) ∧ W.heap[D]? = some (.deferred (some []))
theorem Two.put {D : Nat} {r : Loop} {W : World} (h : Two D r W) (r' : Loop) : Two D r' (W.putObj (D + 1) (.loop r')) :=
  ⟨World.putObj_heap_same (Array.getElem?_eq_some_iff.1 h.1).1, (World.putObj_heap_other (by omega)).trans h.2⟩
theorem Two.own (D : Nat) (r : Loop) {B : Nat} (hB : D + 2 ≤ B) {β : Type} : OwnFrom B (fun (_ : β) W => Two D r W) := fun _ W W' row hs hg hr => by
  have key : ∀ k o, k < B → W.heap[k]? = some o → W'.heap[k]? = some o := fun k o hk ho =>
    (hg.block k (Array.getElem?_eq_some_iff.1 ho).1 (fun e => by have := (hr k e.symm).1; omega)).trans ho
  exact ⟨key _ _ (by omega) hs.1, key _ _ (by omega) hs.2⟩
theorem Two.keeps {D B : Nat} {r : Loop} {W W' : World} (h : Two D r W) (hk : KeepsFrom B W W') (hB : B ≤ D) : Two D r W' := ⟨hk.same _ _ (by omega) h.1 rfl, hk.same _ _ hB h.2 rfl⟩
theorem put_kept {F : Nat → Prop} {g : Option Nat} {l : Nat} {W : World} {o : Obj} (h : F l) : Kept F g W (W.putObj l o) :=
  ⟨rfl, rfl, rfl, by simp, fun k _ hf _ => World.putObj_heap_other (fun e => hf (by rw [e]; exact h)), fun k o hk _ hf => (World.putObj_heap_other (fun e => hf (by rw [e]; exact h))).trans hk⟩
theorem put_below {n₀ l : Nat} {W : World} {o : Obj} (h : n₀ ≤ l) (hn : n₀ ≤ W.heap.size) : Below n₀ W (W.putObj l o) :=
  (Below.refl n₀ W).grown (grownBy_putObj' W l o) hn (fun k e => by cases e; exact h)
theorem put_keeps {B l : Nat} {W : World} {o : Obj} (h : l < B) : KeepsFrom B W (W.putObj l o) := ⟨by simp, fun k o' hk ho _ => (World.putObj_heap_other (by omega)).trans ho⟩
theorem put_keeps' {l : Nat} {W W2 : World} {o : Obj} (h : W.putObj l o = W2) : KeepsFrom (l + 1) W W2 := by rw [← h]; exact put_keeps (by omega)
/-- How a round of mine ends. -/
def Rounds (B : Nat) (F : Nat → Prop) (I : List Value × Option Nat → World → Prop) (Ix : Code → List Value → World → Prop) (xs : List Value) (g : Option Nat) (W : World) : Exit → Act → World → Prop
  | .normal, _, W' => KeepsFrom B W W' ∧ Kept F g W W' ∧ ∃ g', Newer W.heap.size W'.heap.size g g' ∧ I (xs, g') W'
  | .ret, _, W' => KeepsFrom B W W' ∧ Ix .ret xs W'
  | .exit id, _, W' => KeepsFrom B W W' ∧ Ix (.exit id) xs W'
  | .goto t, _, W' => KeepsFrom B W W' ∧ Ix (.goto t) xs W'
  | .panic _, _, _ => False
  | .outgrown, _, _ => False
/-- The law of the loop. -/
theorem loop_hands {P : Program} {n : Nat} {g : Operand} {ps : Array Tmp} {assign body : Code} {Q : Exit → Act → World → Prop} {a : Act} {w : World}
    {gf : Nat} {lb : Array Value} (hg : a.eval g = .func (.func gf) #[] lb) (eg : ∀ args w, (callFunc gf args).run P w = .ok (.enter gf args) w)
    {F : Nat → Prop} {xs : List Value} {w0 : World} (hseq : Hands P gf lb F xs w0) (hb0 : Below w0.heap.size w0 w) (hF : ∀ k, F k → k < w.heap.size) (hps : ps.size = 1)
    (I : List Value × Option Nat → World → Prop) (Ix : Code → List Value → World → Prop) (hI : OwnFrom w.heap.size I) (hIx : ∀ c, OwnFrom w.heap.size (Ix c)) (h0 : I ([], none) w) (a₁ : Value → Act)
    (hassign : ∀ (l m : Nat) (x : Value) (W : World) (K : Act → World → Prop), K (a₁ x) W →
      assign.wpIn (Fence.wide.inRound l) m P (Exit.then K (fun _ _ _ => False)) { tmps := (ps.zip #[x]).foldl (fun t (p, v) => t.setIfInBounds p v) a.tmps, defers := [] } W)
    (hbody : ∀ (l m : Nat) (pre : List Value) (x : Value) (g : Option Nat) (W : World), (pre ++ [x]) <+: xs → w.heap.size ≤ W.heap.size → I (pre, g) W → body.wpIn (Fence.wide.inRound l) m P (Rounds w.heap.size F I Ix (pre ++ [x]) g W) (a₁ x) W)
    (hdone : ∀ (D : Nat) (g : Option Nat) (W : World), w.heap.size ≤ D → I (xs, g) W → W.heap[D]? = some (.deferred (some [])) → Q .normal { a with defers := { target := .collected D, args := #[] } :: a.defers } W)
    (hstop : ∀ (D : Nat) (c : Code) (pre : List Value) (W : World), w.heap.size ≤ D → pre <+: xs → Ix c pre W → W.heap[D]? = some (.deferred (some [])) → c.wpIn Fence.wide n P Q { a with defers := { target := .collected D, args := #[] } :: a.defers } W) :
    (Code.rangeFunc g ps assign body).wpIn Fence.wide n P Q a w := by
  refine wpIn_rangeFunc fun fn _ => ?_
  generalize hD : w.heap.size = D at *
  have hrc : ∃ rc : LoopState → Option Code → Loop, rc = fun st pe => { state := st, pending := pe, fn, tmps := a.tmps, params := ps, assign, body, defers := D } := ⟨_, rfl⟩
  obtain ⟨rc, hrc⟩ := hrc
  have hent := run_enterLoop_outer (P := P) (w := w) fn a.tmps ps assign body
  rw [hD] at hent
  have hW1 : ∃ W1, W1 = (w.alloc (.deferred (some []))).alloc (.loop (rc .ready none)) := ⟨_, rfl⟩
  obtain ⟨W1, hW1⟩ := hW1
  have s1 : W1.heap.size = D + 2 := by rw [hW1]; simp [hD]
  have t1 : Two D (rc .ready none) W1 := by
    have e2 := World.alloc_heap_new (w.alloc (.deferred (some []))) (.loop (rc .ready none))
    have e1 := World.alloc_heap_new w (.deferred (some []))
    rw [World.size_alloc, hD] at e2
    rw [hD] at e1
    rw [hW1]
    exact ⟨e2, (Below.heap_alloc _ _ D (by simp [hD])).trans e1⟩
  have i1 : I ([], none) W1 := by rw [hW1]; exact hI.alloc _ (hI.alloc _ h0)
  have b1 : Below w0.heap.size w0 W1 := by
    have := hb0.size
    rw [hW1]; exact hb0.trans ((((Below.refl _ w).alloc (Nat.le_refl _) _).alloc (by simp) _).mono this)
  have hend := fun (st : LoopState) (pe : Option Code) (h : (rc st pe).state ≠ .busy) (W : World) (t : Two D (rc st pe) W) => run_endLoop (P := P) t.1 h
  refine ⟨D + 1, [{ target := .collected D, args := #[] }], W1, { target := .fn (.func gf) lb, args := #[.func (.yield (D + 1)) #[] #[]] }, W1, gf, #[.func (.yield (D + 1)) #[] #[]] ++ lb, W1, ?_, ?_, fun _ _ => trivial, ?_, fun h => (by cases h), ?_⟩
  · rw [hW1, hrc]; exact hent
  · simp only [resolve, hg]; simp [go_sem]
  · simp [invoke, go_sem, eg]
  refine (hseq (D + 1) (fun s W => I s W ∧ Two D (rc .ready none) W) (fun pre W => ∃ c, Ix c pre W ∧ Two D (rc .done (some c)) W) W1 b1 (by have := hb0.size; omega) (by omega) (fun k hk => by have := hF k hk; omega) ?_ ?_ ?_ ⟨i1, t1⟩ (n - 1)).mono ?_
  · exact OwnFrom.and (OwnFrom.wider hI (by omega)) (Two.own D _ (by omega))
  · rintro pre W W' row ⟨c, hc, ht⟩ hgr hr
    exact ⟨c, OwnFrom.wider (hIx c) (by omega) pre W W' row hc hgr hr, Two.own D _ (Nat.le_of_eq s1.symm) pre W W' row ht hgr hr⟩
  · rintro pre x hx gg W m ⟨hi, ht⟩
    have hlt : D + 1 < W.heap.size := (Array.getElem?_eq_some_iff.1 ht.1).1
    have hy := run_yield (P := P) (args := #[x]) ht.1 (by rw [hrc]; exact hps.symm)
    have hbe := run_beginRound (P := P) ht.1 (by rw [hrc])
    have t2 := ht.put { rc .ready none with state := .busy }
    have i2 : I (pre, gg) (W.putObj (D + 1) (.loop { rc .ready none with state := .busy })) := hI.putObj _ hi (by omega) ht.1 rfl
    have k2 : Kept (fun k => F k ∨ k = D + 1) gg W (W.putObj (D + 1) (.loop { rc .ready none with state := .busy })) := put_kept (Or.inr rfl)
    have z2 : (W.putObj (D + 1) (.loop { rc .ready none with state := .busy })).heap.size = W.heap.size := by simp
    rw [hrc] at hy
    refine ⟨fn, _, assign, body, hy, roundIn_of_wpIn trivial (hassign (D + 1) m x W _ ⟨_, hbe, ?_⟩)⟩
    generalize hW2 : W.putObj (D + 1) (.loop { rc .ready none with state := .busy }) = W2 at t2 i2 k2 z2 ⊢
    have l2 : D + 1 < W2.heap.size := (Array.getElem?_eq_some_iff.1 t2.1).1
    refine wpIn_mono (hbody (D + 1) m pre x gg W2 hx (by omega) i2) ?_
    have out : ∀ (c : Code) (W3 : World), KeepsFrom D W2 W3 → Ix c (pre ++ [x]) W3 → ∃ v w', (Instr.endRound (D + 1) (some c)).run P W3 = .ok v w' ∧ ((Ending.returned v = .returned (.bool true) ∧ ∃ g', (I (pre ++ [x], g') w' ∧ Two D (rc .ready none) w') ∧ Newer W.heap.size w'.heap.size gg g' ∧ Kept (fun k => F k ∨ k = D + 1) gg W w') ∨ (Ending.returned v = .returned (.bool false) ∧ (∃ c, Ix c (pre ++ [x]) w' ∧ Two D (rc .done (some c)) w') ∧ KeepsFrom (D + 1 + 1) W w')) := fun c W3 hk hix => by
      have t3 := t2.keeps hk (Nat.le_refl _)
      refine ⟨_, _, run_endRound (P := P) (some c) t3.1, .inr ⟨rfl, ⟨c, (hIx c).putObj _ hix (by omega) t3.1 rfl, ?_⟩, ((put_keeps' hW2).trans (KeepsFrom.wider hk (by omega))).trans (put_keeps (by omega))⟩⟩
      have := t3.put (rc .done (some c))
      rw [hrc] at this ⊢; exact this
    rintro e a3 W3 hp
    cases e with
    | normal =>
      obtain ⟨hk, hb, g', hn', hi3⟩ := hp
      have t3 := t2.keeps hk (Nat.le_refl _)
      have l3 : D + 1 < W3.heap.size := (Array.getElem?_eq_some_iff.1 t3.1).1
      refine ⟨_, _, run_endRound (P := P) none t3.1, .inl ⟨rfl, g', ⟨hI.putObj _ hi3 (by omega) t3.1 rfl, ?_⟩, by rw [← z2, World.putObj_size]; exact hn', (k2.trans (hb.wider fun _ h => Or.inl h)).trans (put_kept (Or.inr rfl))⟩⟩
      have := t3.put (rc .ready none)
      rw [hrc] at this ⊢; exact this
    | ret => exact out _ W3 hp.1 hp.2
    | exit id => exact out _ W3 hp.1 hp.2
    | goto t => exact out _ W3 hp.1 hp.2
    | panic ch => exact hp.elim
    | outgrown => exact hp.elim
  · rintro e W2 ⟨⟨v, rfl⟩, ⟨gg, hi, ht⟩ | ⟨pre, hpre, c, hi, ht⟩⟩
    · refine ⟨none, W2.putObj (D + 1) (.loop { rc .ready none with state := .exhausted }), ?_, hdone D gg _ (Nat.le_refl _) (hI.putObj _ hi (by omega) ht.1 rfl) ((World.putObj_heap_other (by omega)).trans ht.2)⟩
      have := hend .ready none (by rw [hrc]; simp) W2 ht
      rw [hrc] at this ⊢; exact this
    · refine ⟨some c, W2.putObj (D + 1) (.loop { rc .done (some c) with state := .exhausted }), ?_, hstop D c pre _ (Nat.le_refl _) hpre ((hIx c).putObj _ hi (by omega) ht.1 rfl) ((World.putObj_heap_other (by omega)).trans ht.2)⟩
      have := hend .done (some c) (by rw [hrc]; simp) W2 ht
      rw [hrc] at this ⊢; exact this
/-- The same, where a round begins with 'd := p', p the parameter. -/
theorem loop_hands1 (p d : Nat) {P : Program} {n : Nat} {g : Operand} {assign body : Code} {Q : Exit → Act → World → Prop} {a : Act} {w : World}
    {gf : Nat} {lb : Array Value} (hg : a.eval g = .func (.func gf) #[] lb) (eg : ∀ args w, (callFunc gf args).run P w = .ok (.enter gf args) w)
    {F : Nat → Prop} {xs : List Value} {w0 : World} (hseq : Hands P gf lb F xs w0) (hb0 : Below w0.heap.size w0 w) (hF : ∀ k, F k → k < w.heap.size)
    (I : List Value × Option Nat → World → Prop) (Ix : Code → List Value → World → Prop) (hI : OwnFrom w.heap.size I) (hIx : ∀ c, OwnFrom w.heap.size (Ix c)) (h0 : I ([], none) w)
    (hassign : ∀ (l m : Nat) (x : Value) (W : World) (K : Act → World → Prop), K { tmps := (a.tmps.setIfInBounds p x).setIfInBounds d x, defers := [] } W →
      assign.wpIn (Fence.wide.inRound l) m P (Exit.then K (fun _ _ _ => False)) { tmps := a.tmps.setIfInBounds p x, defers := [] } W)
    (hbody : ∀ (l m : Nat) (pre : List Value) (x : Value) (g : Option Nat) (W : World), (pre ++ [x]) <+: xs → w.heap.size ≤ W.heap.size → I (pre, g) W → body.wpIn (Fence.wide.inRound l) m P (Rounds w.heap.size F I Ix (pre ++ [x]) g W) { tmps := (a.tmps.setIfInBounds p x).setIfInBounds d x, defers := [] } W)
    (hdone : ∀ (D : Nat) (g : Option Nat) (W : World), w.heap.size ≤ D → I (xs, g) W → W.heap[D]? = some (.deferred (some [])) → Q .normal { a with defers := { target := .collected D, args := #[] } :: a.defers } W)
    (hstop : ∀ (D : Nat) (c : Code) (pre : List Value) (W : World), w.heap.size ≤ D → pre <+: xs → Ix c pre W → W.heap[D]? = some (.deferred (some [])) → c.wpIn Fence.wide n P Q { a with defers := { target := .collected D, args := #[] } :: a.defers } W) :
    (Code.rangeFunc g #[p] assign body).wpIn Fence.wide n P Q a w :=
  loop_hands hg eg hseq hb0 hF rfl I Ix hI hIx h0 (fun x => { tmps := (a.tmps.setIfInBounds p x).setIfInBounds d x, defers := [] }) (fun l m x W K hK => by simpa using hassign l m x W K hK) hbody hdone hstop
/-- What a step that leaves all below B as it lay cannot turn. -/
theorem own_of {β : Type} {B : Nat} {I : β → World → Prop} (h1 : ∀ s W, I s W → B ≤ W.heap.size) (h2 : ∀ s W W', I s W → Below B W W' → I s W') : OwnFrom B I :=
  fun s W W' row hs hg hr => h2 s W W' hs ((Below.refl B W).grown hg (h1 s W hs) (fun k e => (hr k e).1))
end Go.Proofs.Ytkkpokfekbdigaa.Ra
namespace Go.Proofs.Ytkkpokfekbdigaa.Ra
open Go.RowKit Go.Shelf
attribute [local go_sem] Oper.semAt_some
set_option linter.unusedVariables false
/-- The header of a slice. -/
structure Hd where
  a : Option Addr
  n : Nat
  c : Nat
def Hd.val (h : Hd) : Value := .slice h.a h.n h.c
/-- The slice at a reads, below n₀, as these headers. -/
def Hds (n₀ : Nat) (w : World) (a : Option Addr) (hs : List Hd) : Prop := ∀ (j : Nat) (h : Hd), hs[j]? = some h → ∃ g o, a = some ⟨g, o, none⟩ ∧ g < n₀ ∧ w.cell? ⟨g, o + j, none⟩ = some (.slice h.a h.n h.c)
theorem Hds.below {n₀ : Nat} {w w' : World} {a : Option Addr} {hs : List Hd} (h : Hds n₀ w a hs) (hb : Below n₀ w w') : Hds n₀ w' a hs := fun j x hx => by
  obtain ⟨g, o, e, hg, hc⟩ := h j x hx
  exact ⟨g, o, e, hg, (hb.cell (p := ⟨g, o + j, none⟩) hg).trans hc⟩
theorem next_pre {xs : List Value} {k : Nat} {x : Value} (h : xs[k]? = some x) : xs.take (k + 1) = xs.take k ++ [x] := by
  rw [List.take_succ_eq_append_getElem (List.getElem?_eq_some_iff.1 h).1, (List.getElem?_eq_some_iff.1 h).2]
theorem pre_at {hs : List Hd} {pre : List Value} {x : Value} (h : pre ++ [x] <+: hs.map Hd.val) : ∃ y : Hd, hs[pre.length]? = some y ∧ x = .slice y.a y.n y.c := by
  obtain ⟨r, hr⟩ := h
  have : (hs.map Hd.val)[pre.length]? = some x := by rw [← hr]; simp
  rw [List.getElem?_map] at this
  cases e : hs[pre.length]? with
  | none => rw [e] at this; cases this
  | some y => rw [e] at this; exact ⟨y, rfl, (Option.some.inj this).symm⟩
theorem pre_len {hs : List Hd} {pre : List Value} (h : pre <+: hs.map Hd.val) : pre.length ≤ hs.length := by have := h.length_le; simpa using this
set_option maxRecDepth 100000 in
set_option maxHeartbeats 2000000 in
theorem values1_hands (F : Nat → Prop) (n₀ B : Nat) (a : Option Addr) (cap N : Nat) (hs : List Hd) (hN : hs.length = N) (hlen : N ≤ 1000000) (w : World) (hB : B < w.heap.size) (hn : n₀ ≤ w.heap.size)
    (hbox : w.cell? ⟨B, 0, none⟩ = some (.slice a N cap)) (hx : Hds n₀ w a hs) (hF : ∀ g o, a = some ⟨g, o, none⟩ → hs ≠ [] → ¬ F g) :
    Hands Try.prog 125 #[.pointer (some ⟨B, 0, none⟩)] F (hs.map Hd.val) w := by
  intro l J Jx W hW hl0 hl hFk hJ hJx hY h0 n
  clear hFk
  have hc0 := (hW.cell (p := ⟨B, 0, none⟩) hB).trans hbox
  have hx0 := Lib.hid (hx.below (hW.mono hn)); clear hx hbox
  have hws := hW.size
  clear hW
  have HY := Lib.hid hY; clear hY
  have HF := Lib.hid hF; clear hF
  have HL := Lib.hid (show (hs.map Hd.val).length = N by simpa using hN); clear hN
  refine callsIn_of_wp Try.func125 rfl trivial ?_ rfl
  simp only [Try.ntmps125, List.size_toArray, List.length_cons, List.length_nil, Nat.reduceAdd, Nat.reduceSub, Array.replicate_succ, Array.replicate_zero, List.push_toArray, List.append_toArray, List.nil_append, List.cons_append]
  gi_wp2
  gi_loopw [7] (fun i wr => ∃ (k : Nat) (gg : Option Nat), k ≤ N ∧ i = .int .i64 k ∧ J ((hs.map Hd.val).take k, gg) wr ∧ (∀ q, gg = some q → W.heap.size ≤ q) ∧ W.heap.size ≤ wr.heap.size ∧ ∀ q, q < n₀ → ¬ F q → wr.heap[q]? = W.heap[q]?) (fun i _ => N - (intOf i).toNat)
  case atStart => exact ⟨0, none, Nat.zero_le _, rfl, h0, (fun q e => by cases e), Nat.le_refl _, fun _ _ _ => rfl⟩
  case round =>
    obtain ⟨k, gg, hk, rfl, hJs, hgg, hsz, hnx⟩ := hrel
    by_cases hlt : k < N
    · obtain ⟨h, hh⟩ : ∃ h, hs[k]? = some h := ⟨hs[k]'(by have := HL.out; rw [List.length_map] at this; omega), List.getElem?_eq_getElem _⟩
      have hv : (hs.map Hd.val)[k]? = some (.slice h.a h.n h.c) := by rw [List.getElem?_map, hh]; rfl
      obtain ⟨g, o, rfl, hg, hc⟩ := hx0.out k h hh
      have hcx : wr.cell? ⟨g, o + k, none⟩ = some (.slice h.a h.n h.c) := (World.cell?_of_block (hnx g hg (HF.out g o rfl (fun e => by rw [e] at hh; simp at hh)))).trans hc
      obtain ⟨fn, tmps, assign, body, hy, hR⟩ := HY.out _ _ (by rw [← next_pre hv]; exact List.take_prefix _ _) gg wr (n - 1) hJs
      rw [← next_pre hv] at hR
      have HNX := Lib.hid hnx; clear hnx
      have HGG := Lib.hid hgg; clear hgg
      clear hc hh hv
      gi_wp2
      refine ⟨fun h => (by cases h), hR.mono ?_⟩
      rintro e W3 (⟨rfl, g', hJ3, hn3, hk3⟩ | ⟨rfl, hJx3, -⟩)
      · have K3 := Lib.hid (And.intro hn3 hk3); clear hn3 hk3
        gi_wp2
        go_roundw
        case rel =>
          refine ⟨k + 1, g', by omega, by simp, hJ3, fun q hq => ?_, Nat.le_trans hsz K3.out.2.size, fun q hq hf => (K3.out.2.block q (by omega) (fun e => e.elim hf (fun e => by omega)) (fun e => by have := HGG.out q e; omega)).trans (HNX.out q hq hf)⟩
          rcases K3.out.1 with e | ⟨q', e, h', -⟩
          · exact HGG.out q (by rw [← e]; exact hq)
          · rw [e] at hq; cases hq; omega
        case measure => simp [intOf]; omega
      · gi_wp2
        refine bodyPost_ret (results_none rfl _ _ _) rfl ?_
        exact ⟨⟨_, rfl⟩, .inr ⟨_, List.take_prefix _ _, hJx3⟩⟩
    · obtain rfl : k = N := by omega
      rw [List.take_of_length_le (by rw [HL.out]; exact Nat.le_refl _)] at hJs
      have HJ := Lib.hid hJs; clear hJs hnx hgg
      gi_wp2
      go_end0
      exact ⟨⟨_, rfl⟩, .inl ⟨gg, HJ.out⟩⟩
set_option maxHeartbeats 1000000 in
theorem values_any (a : Option Addr) (n cap : Nat) (w : World) : Calls Try.prog 114 #[.slice a n cap] w fun e w' =>
    e = .returned (.func (.func 125) #[] #[.pointer (some ⟨w.heap.size, 0, none⟩)]) ∧ w' = w.alloc (.cells #[.slice a n cap] 43) := by
  go_enter Try.func114, Try.ntmps114
  go_wp2
  go_ret
  exact ⟨rfl, rfl⟩
/-- An iterator, for whatever a later loop may turn. -/
def IterA (F0 : Nat → Prop) (xs : List Value) (w : World) (e : Ending) (w' : World) : Prop := ∃ g lb, e = .returned (.func (.func g) #[] lb) ∧ (∀ args z, (callFunc g args).run Try.prog z = .ok (.enter g args) z) ∧ (∀ F : Nat → Prop, (∀ k, F k → F0 k ∨ w'.heap.size ≤ k) → Hands Try.prog g lb F xs w') ∧ Below w.heap.size w w'
/-- What shelvesOf hands back: an iterator over the shelves. -/
def Iter (F : Nat → Prop) (xs : List Value) (w : World) (e : Ending) (w' : World) : Prop := ∃ g lb, e = .returned (.func (.func g) #[] lb) ∧ (∀ args z, (callFunc g args).run Try.prog z = .ok (.enter g args) z) ∧ Hands Try.prog g lb F xs w' ∧ Below w.heap.size w w'
set_option maxHeartbeats 1000000 in
theorem shelvesOf_any (F : Nat → Prop) (n₀ : Nat) (hv : Value) (hv1 : ∃ a n c, hv = .slice a n c) (a : Option Addr) (n cap : Nat) (hs : List Hd) (hn : hs.length = n) (hl : n ≤ 1000000) (w : World) (hx : Hds n₀ w a hs) (h0 : n₀ ≤ w.heap.size) (hF : ∀ g o, a = some ⟨g, o, none⟩ → hs ≠ [] → ¬ F g) :
    Calls Try.prog 86 #[.agg #[hv, .slice a n cap]] w (Iter F (hs.map Hd.val) w) := by
  have HX := Lib.hid hx; clear hx
  have hsz : (w.alloc (.cells #[hv, .slice a n cap] 45)).heap.size = w.heap.size + 1 := by simp
  have HB := Lib.hid (show Below w.heap.size w ((w.alloc (.cells #[hv, .slice a n cap] 45)).alloc (.cells #[.slice a n cap] 43)) from ((Below.refl _ w).alloc (Nat.le_refl _) _).alloc (by simp) _)
  have HW := Lib.hid (values1_hands F n₀ (w.heap.size + 1) a cap n hs hn hl ((w.alloc (.cells #[hv, .slice a n cap] 45)).alloc (.cells #[.slice a n cap] 43)) (by simp) (by simp; omega) (by
      have := (Boxed.new (w.alloc (.cells #[hv, .slice a n cap] 45)) 43 (.slice a n cap)).cell
      rwa [World.size_alloc] at this) (HX.out.below (HB.out.mono h0)) hF)
  clear hF
  obtain ⟨va, vn, vc, rfl⟩ := hv1
  go_enter Try.func86, Try.ntmps86
  go_wp2_with fail
  refine (values_any _ _ _ _).mono ?_; rintro e w1 ⟨rfl, rfl⟩
  rw [hsz]
  go_wp2_with fail
  go_ret
  exact ⟨_, _, rfl, enters_of Try.func125 (by kernel_rfl) rfl, HW.out, HB.out⟩
end Go.Proofs.Ytkkpokfekbdigaa.Ra
namespace Go.Proofs.Ytkkpokfekbdigaa.Ra
open Go.RowKit Go.Shelf
attribute [local go_sem] Oper.semAt_some
set_option linter.unusedVariables false
theorem cell_block {w w' : World} {q o : Nat} {v : Value} (e : w'.heap[q]? = w.heap[q]?) (h : w.cell? ⟨q, o, none⟩ = some v) : w'.cell? ⟨q, o, none⟩ = some v := (World.cell?_of_block (w := w) e).trans h
theorem cell_lt {w : World} {p : Addr} {v : Value} (h : w.cell? p = some v) : p.block < w.heap.size := by
  unfold World.cell? at h
  cases ho : w.heap[p.block]? with
  | none => simp [ho] at h
  | some o => exact (Array.getElem?_eq_some_iff.1 ho).1
/-- What tablesOf's iterator holds: its variable, the store, the shelves' headers. -/
def Mine (Y B : Nat) (l n c sn sc : Nat) (a sa : Option Addr) (hs : List Hd) (n₀ : Nat) (W : World) : Prop :=
  W.cell? ⟨Y, 0, none⟩ = some (.func (.yield l) #[] #[]) ∧ W.cell? ⟨B, 0, none⟩ = some (.slice a n c) ∧ W.cell? ⟨B, 1, none⟩ = some (.slice sa sn sc) ∧ Hds n₀ W sa hs
theorem Mine.kept {Y B l n c sn sc n₀ : Nat} {a sa : Option Addr} {hs : List Hd} {W W' : World} {F : Nat → Prop} {g : Option Nat} (h : Mine Y B l n c sn sc a sa hs n₀ W) (hk : Kept F g W W') (hY : ¬ F Y) (hB : ¬ F B) (hS : ∀ g o, sa = some ⟨g, o, none⟩ → hs ≠ [] → ¬ F g) (gY : g ≠ some Y) (gB : g ≠ some B) (gS : ∀ q, g = some q → n₀ ≤ q) : Mine Y B l n c sn sc a sa hs n₀ W' := by
  obtain ⟨h1, h2, h3, h4⟩ := h
  refine ⟨cell_block (hk.block Y (cell_lt h1) hY gY) h1, cell_block (hk.block B (cell_lt h2) hB gB) h2, cell_block (hk.block B (cell_lt h2) hB gB) h3, fun j x hx => ?_⟩
  obtain ⟨q, o, e, hq, hc⟩ := h4 j x hx
  exact ⟨q, o, e, hq, cell_block (hk.block q (cell_lt hc) (hS q o e (fun e => by rw [e] at hx; simp at hx)) (fun e => by have := gS q e; omega)) hc⟩
theorem Mine.below {Y B l n c sn sc n₀ m : Nat} {a sa : Option Addr} {hs : List Hd} {W W' : World} (h : Mine Y B l n c sn sc a sa hs n₀ W) (hb : Below m W W') (hY : Y < m) (hB : B < m) (hn : n₀ ≤ m) : Mine Y B l n c sn sc a sa hs n₀ W' := by
  obtain ⟨h1, h2, h3, h4⟩ := h
  refine ⟨cell_block (hb.block Y hY) h1, cell_block (hb.block B hB) h2, cell_block (hb.block B hB) h3, fun j x hx => ?_⟩
  obtain ⟨q, o, e, hq, hc⟩ := h4 j x hx
  exact ⟨q, o, e, hq, cell_block (hb.block q (by omega)) hc⟩
theorem pre_cons {x : Value} {pre xs : List Value} (h : pre <+: xs) : (x :: pre) <+: (x :: xs) := by
  obtain ⟨r, rfl⟩ := h
  exact ⟨r, rfl⟩
set_option maxRecDepth 100000 in
set_option maxHeartbeats 4000000 in
theorem tables1_hands (F : Nat → Prop) (n₀ B : Nat) (a sa : Option Addr) (n c sn sc : Nat) (hs : List Hd) (hN : hs.length = sn) (hlen : sn ≤ 1000000) (w : World) (hn : n₀ ≤ w.heap.size)
    (hbox : w.cell? ⟨B, 0, none⟩ = some (.slice a n c)) (hbox1 : w.cell? ⟨B, 1, none⟩ = some (.slice sa sn sc)) (hx : Hds n₀ w sa hs) (hFB : ¬ F B) (hF : ∀ g o, sa = some ⟨g, o, none⟩ → hs ≠ [] → ¬ F g) :
    Hands Try.prog 113 #[.pointer (some ⟨B, 0, none⟩)] F (.slice a n c :: hs.map Hd.val) w := by
  intro l J Jx W hW hl0 hl hFl hJ hJx hY h0 k
  have hBw := cell_lt hbox
  replace hBw : B < w.heap.size := hBw
  have M0 := Lib.hid (show Mine W.heap.size B l n c sn sc a sa hs n₀ (W.alloc (.cells #[.func (.yield l) #[] #[]] 38)) from by
    refine ⟨(Boxed.new W _ _).cell, ?_, ?_, ?_⟩
    · exact cell_block (Below.heap_alloc _ _ B (Nat.lt_of_lt_of_le hBw hW.size)) ((hW.cell (p := ⟨B, 0, none⟩) hBw).trans hbox)
    · exact cell_block (Below.heap_alloc _ _ B (Nat.lt_of_lt_of_le hBw hW.size)) ((hW.cell (p := ⟨B, 1, none⟩) hBw).trans hbox1)
    · exact (hx.below (hW.mono hn)).below (((Below.refl _ W).alloc (Nat.le_refl _) _).mono (Nat.le_trans hn hW.size)))
  have J0 := hJ.alloc (.cells #[.func (.yield l) #[] #[]] 38) h0
  have s0 : (W.alloc (.cells #[.func (.yield l) #[] #[]] 38)).heap.size = W.heap.size + 1 := by simp
  have hws := hW.size
  clear hbox hbox1 hx hW h0
  have HY := Lib.hid hY; clear hY
  have HF := Lib.hid (And.intro hFB (And.intro hF hFl)); clear hFB hF hFl
  generalize hW0 : W.alloc (.cells #[.func (.yield l) #[] #[]] 38) = W0 at *
  have HS0 := Lib.hid (show ∀ q o, sa = some ⟨q, o, none⟩ → hs ≠ [] → q < n₀ from fun q o e hne => by
    obtain ⟨x, r, hr⟩ := List.exists_cons_of_ne_nil hne
    obtain ⟨g2, o2, e3, hg2, -⟩ := M0.out.2.2.2 0 x (by rw [hr]; rfl)
    rw [e] at e3
    cases e3
    exact hg2)
  obtain ⟨fn, tmps, assign, body, hy, hR⟩ := HY.out [] (.slice a n c) (List.prefix_append [_] _) none W0 (k - 1) J0
  refine callsIn_of_wp_marks Try.func113 rfl trivial ?_ rfl
  simp only [Try.ntmps113, List.size_toArray, List.length_cons, List.length_nil, Nat.reduceAdd, Nat.reduceSub, Array.replicate_succ, Array.replicate_zero, List.push_toArray, List.append_toArray, List.nil_append, List.cons_append]
  obtain ⟨m0, m1, m2, -⟩ := id M0.out
  subst hW0
  gi_wp2_with fail
  refine ⟨fun h => (by cases h), hR.mono ?_⟩
  rintro e W3 (⟨rfl, g', hJ3, hn3, hk3⟩ | ⟨rfl, hJx3, -⟩)
  · have M3 := Lib.hid (M0.out.kept hk3 (fun e => e.elim (fun e => by have := HF.out.2.2 _ e; omega) (fun e => by omega)) (fun e => e.elim HF.out.1 (fun e => by omega)) (fun q o e hne h => h.elim (HF.out.2.1 q o e hne) (fun e2 => by have := HS0.out q o e hne; omega)) (by simp) (by simp) (fun q e => by cases e))
    have z3 := hk3.size
    have HGL := Lib.hid (show ∀ q, g' = some q → q < W3.heap.size from fun q hq => by
      rcases hn3 with e | ⟨q', e, -, h'⟩
      · rw [e] at hq; cases hq
      · rw [e] at hq; cases hq; exact h')
    have hg' : ∀ q, g' = some q → W.heap.size + 1 ≤ q := fun q hq => by
      rcases hn3 with e | ⟨q', e, h', -⟩
      · rw [e] at hq; cases hq
      · rw [e] at hq; cases hq; omega
    clear hk3 hn3 m0 m1 m2 hy hR
    obtain ⟨m0, m1, m2, m3⟩ := id M3.out
    gi_wp2_with fail
    refine ⟨trivial, fun h => (by cases h), (callsIn_wide.2 (shelvesOf_any (fun q => (F q ∨ q = l) ∨ g' = some q) n₀ (.slice a n c) ⟨_, _, _, rfl⟩ sa sn sc hs hN hlen W3 m3 (by omega) (fun q o e hne h => h.elim (fun h => h.elim (HF.out.2.1 q o e hne) (fun e2 => by have := HS0.out q o e hne; omega)) (fun e2 => by have := HS0.out q o e hne; have := hg' q e2; omega)))).mono ?_⟩
    rintro e W4 ⟨gf, lb, rfl, hen, hha, b4⟩
    have M4 := Lib.hid (M3.out.below b4 (by omega) (by omega) (by omega))
    have J4 := Lib.hid (hJ _ W3 W4 none hJ3 ⟨b4.os, b4.tape, b4.output, b4.size, fun q hq _ => b4.block q hq⟩ (fun r e => by cases e))
    have z4 := b4.size
    have HG := Lib.hid hg'; clear b4 hJ3 m0 m1 m2 m3 M3 hg'
    gi_wp2_with fail
    refine loop_hands1 11 3 rfl hen hha (Below.refl _ _) (fun q h => h.elim (fun h => h.elim (fun h => by have := HF.out.2.2 q h; omega) (fun h => by omega)) (fun h => by have := HGL.out q h; omega))
      (fun s Z => W4.heap.size ≤ Z.heap.size ∧ Mine W.heap.size B l n c sn sc a sa hs n₀ Z ∧ ∃ g, J (.slice a n c :: s.1, g) Z ∧ ((g = g' ∧ s.2 = none) ∨ (g = s.2 ∧ ∃ q, s.2 = some q ∧ W4.heap.size ≤ q)))
      (fun k pre Z => k = .ret ∧ Jx (.slice a n c :: pre) Z) ?_ ?_ ?_ ?_ ?_ ?_ ?_
    · rintro s Z Z' row ⟨h1, h2, g, h3, h4⟩ hg hr
      refine ⟨Nat.le_trans h1 hg.size, h2.below ((Below.refl W4.heap.size Z).grown hg h1 (fun k e => (hr k e).1)) (by omega) (by omega) (by omega), g, OwnFrom.wider hJ (by omega) _ _ _ row h3 hg hr, h4⟩
    · rintro k s Z Z' row ⟨h1, h2⟩ hg hr
      exact ⟨h1, OwnFrom.wider hJx (by omega) _ _ _ row h2 hg hr⟩
    · exact ⟨Nat.le_refl _, M4.out, g', J4.out, Or.inl ⟨rfl, rfl⟩⟩
    · intro l m x Z K hK
      simp only [List.setIfInBounds_toArray, List.set_cons_zero, List.set_cons_succ] at hK ⊢
      gi_wp2
      exact hK
    · rintro l2 m pre x gi Z hpre hsz ⟨hs1, hm, g, hJg, hgi⟩
      simp only [List.setIfInBounds_toArray, List.set_cons_zero, List.set_cons_succ]
      obtain ⟨y, hy, rfl⟩ := pre_at hpre
      obtain ⟨fn2, tmps2, assign2, body2, hy2, hR2⟩ := HY.out (.slice a n c :: pre) (.slice y.a y.n y.c) (pre_cons hpre) g Z (m - 1) hJg
      have HM := Lib.hid hm
      obtain ⟨m0, -, -, -⟩ := hm
      have HGI := Lib.hid hgi; clear hgi hy hJg
      have hgb : ∀ q, g = some q → W.heap.size + 1 ≤ q := fun q hq => by
        rcases HGI.out with ⟨e, -⟩ | ⟨e, q', e2, h2⟩
        · rw [e] at hq; exact HG.out q hq
        · replace e2 : gi = some q' := e2
          replace e : g = gi := e
          rw [e, e2] at hq; cases hq; omega
      gi_wp2_with fail
      refine ⟨fun h => (by cases h), RoundIn.mono (F := Fence.wide.inRound l2) hR2 ?_⟩
      rintro e Z2 (⟨rfl, g2, hJ2, hn2, hk2⟩ | ⟨rfl, hJx2, hkf⟩)
      · have K2 := Lib.hid (And.intro hJ2 (And.intro hn2 hk2)); clear hJ2 hn2 hk2 hy2 hR2
        clear m0
        gi_wp2_with fail
        obtain ⟨hJ2, hn2, hk2⟩ := K2.out
        have hFl : ∀ q, (F q ∨ q = l) → q < W4.heap.size := fun q h => h.elim (fun h => by have := HF.out.2.2 q h; omega) (fun h => by omega)
        have hm2 := HM.out.kept hk2 (fun e => e.elim (fun e => by have := HF.out.2.2 _ e; omega) (fun e => by omega)) (fun e => e.elim HF.out.1 (fun e => by omega)) (fun q o e hne h => h.elim (HF.out.2.1 q o e hne) (fun e2 => by have := HS0.out q o e hne; omega)) (fun e => by have := hgb _ e; omega) (fun e => by have := hgb _ e; omega) (fun q e => by have := hgb q e; omega)
        have hkk : Kept (fun q => (F q ∨ q = l) ∨ g' = some q) gi Z Z2 := ⟨hk2.os, hk2.tape, hk2.output, hk2.size, fun q hq hf hg => hk2.block q hq (fun e => hf (Or.inl e)) (fun e => by
            rcases HGI.out with ⟨e1, -⟩ | ⟨e1, -⟩
            · exact hf (Or.inr (by rw [← e1]; exact e))
            · exact hg (by rw [← show g = gi from e1]; exact e)), fun q o ho hc hf => hk2.other q o ho hc (fun e => hf (Or.inl e))⟩
        refine ⟨hk2.keeps hFl, hkk, ?_⟩
        have zz := hk2.size
        rcases hn2 with e | ⟨q, e, hq, hq2⟩
        · exact ⟨gi, Or.inl rfl, Nat.le_trans hs1 zz, hm2, g, by rw [e] at hJ2; exact hJ2, HGI.out⟩
        · exact ⟨g2, Or.inr ⟨q, e, hq, hq2⟩, Nat.le_trans hs1 zz, hm2, g2, hJ2, Or.inr ⟨rfl, q, e, by omega⟩⟩
      · have K2 := Lib.hid (And.intro hJx2 hkf); clear hJx2 hkf hy2 hR2
        clear m0
        gi_wp2_with fail
        exact ⟨KeepsFrom.wider K2.out.2 (by omega), rfl, K2.out.1⟩
    · rintro D gi Z hD ⟨hs1, hm, g, hJg, hgi⟩ hK
      have HJG := Lib.hid hJg; clear hJg hm hgi
      gi_wp2_with fail
      refine ⟨by simp, .inl ⟨_, _, rfl, run_takeDeferred hK, ?_⟩⟩
      exact ⟨_, results_none rfl _ _ _, ⟨_, rfl⟩, .inl ⟨g, hJ.putObj _ HJG.out (by omega) hK rfl⟩⟩
    · rintro D k pre Z hD hpre ⟨rfl, hJg⟩ hK
      have HJG := Lib.hid hJg; clear hJg
      gi_wp2_with fail
      refine ⟨by simp, .inl ⟨_, _, rfl, run_takeDeferred hK, ?_⟩⟩
      exact ⟨_, results_none rfl _ _ _, ⟨_, rfl⟩, .inr ⟨_, pre_cons hpre, hJx.putObj _ HJG.out (by omega) hK rfl⟩⟩
  · clear m0 m1 m2 hy hR
    gi_wp2_with fail
    exact ⟨_, results_none rfl _ _ _, ⟨_, rfl⟩, .inr ⟨_, List.prefix_append [_] _, hJx3⟩⟩
set_option maxHeartbeats 1000000 in
theorem tablesOf_any (F0 : Nat → Prop) (n₀ : Nat) (a sa : Option Addr) (n c sn sc : Nat) (hs : List Hd) (hn : hs.length = sn) (hl : sn ≤ 1000000) (w : World) (hx : Hds n₀ w sa hs) (h0 : n₀ ≤ w.heap.size) (hF : ∀ g o, sa = some ⟨g, o, none⟩ → hs ≠ [] → ¬ F0 g) (hFl : ∀ k, F0 k → k < w.heap.size) :
    Calls Try.prog 76 #[.agg #[.slice a n c, .slice sa sn sc]] w (IterA F0 (.slice a n c :: hs.map Hd.val) w) := by
  have HB := Lib.hid (show Below w.heap.size w (w.alloc (.cells #[.slice a n c, .slice sa sn sc] 45)) from (Below.refl _ w).alloc (Nat.le_refl _) _)
  have hp : (w.alloc (.cells #[.slice a n c, .slice sa sn sc] 45)).heap[w.heap.size]? = some (.cells #[.slice a n c, .slice sa sn sc] 45 (0, 0)) := World.alloc_heap_new w _
  have HW := Lib.hid (fun (F : Nat → Prop) (hFF : ∀ k, F k → F0 k ∨ (w.alloc (.cells #[.slice a n c, .slice sa sn sc] 45)).heap.size ≤ k) => tables1_hands F n₀ w.heap.size a sa n c sn sc hs hn hl (w.alloc (.cells #[.slice a n c, .slice sa sn sc] 45)) (by simp; omega) (by simp only [World.cell?, hp]; rfl) (by simp only [World.cell?, hp]; rfl) (hx.below (HB.out.mono h0))
    (fun e => (hFF _ e).elim (fun e => by have := hFl _ e; omega) (fun e => by simp at e; omega)) (fun g o e hne hg => (hFF _ hg).elim (hF g o e hne) (fun e2 => by
      obtain ⟨x, r, hr⟩ := List.exists_cons_of_ne_nil hne
      obtain ⟨g2, o2, e3, hg2, -⟩ := hx 0 x (by rw [hr]; rfl)
      rw [e] at e3
      cases e3
      simp at e2
      omega)))
  clear hF hFl hx hp
  go_enter Try.func76, Try.ntmps76
  go_wp2_with fail
  go_ret
  exact ⟨_, _, rfl, enters_of Try.func113 (by kernel_rfl) rfl, HW.out, HB.out⟩
end Go.Proofs.Ytkkpokfekbdigaa.Ra
