/-
  A range over a function whose iterator may hold such a loop of its own, and blocks of its own: what an iterator promises ('Hands'), and the law of the loop over it ('loop_hands').
  slices.Values over a slice of slices, impl.shelvesOf: what they hand over.
  impl.tablesOf: its iterator hands over Hand, then the shelves.
-/
import Derived.Test.YtfnnoehpahdgcaaGreatDoorWd
import Derived.RangeFuncWrites
import Derived.RangeFuncCalls
import Derived.RangeFuncBox
import Derived.RangeFuncNested
import Derived.RangeFuncLeaves
import Derived.Shelf.Abstract
import Derived.Shelf.RegionOpen
import Derived.WalkKit
import Derived.OwnWalkIn
import Derived.TacticsInMore
import Derived.LoopNIn
import Derived.LoopIn
namespace Go.Proofs.YtfnnoehpahdgcaaGreatDoor.Ra
open Go.RowKit
set_option linter.unusedVariables false
/-- Nothing that lay has turned but what F names, and the block g. -/
structure Kept (F : Nat → Prop) (g : Option Nat) (w w' : World) : Prop where
  os : w'.os = w.os
  tape : w'.tape = w.tape
  output : w'.output = w.output
  size : w.heap.size ≤ w'.heap.size
  block : ∀ k, k < w.heap.size → ¬ F k → g ≠ some k → w'.heap[k]? = w.heap[k]?
  other : ∀ (k : Nat) (o : Obj), w.heap[k]? = some o → o.isCells = false → ¬ F k → w'.heap[k]? = some o
theorem Kept.refl (F : Nat → Prop) (g : Option Nat) (w : World) : Kept F g w w := ⟨rfl, rfl, rfl, Nat.le_refl _, fun _ _ _ _ => rfl, fun _ _ h _ _ => h⟩
theorem Kept.trans {F : Nat → Prop} {g : Option Nat} {x y z : World} (h : Kept F g x y) (k : Kept F g y z) : Kept F g x z :=
  ⟨k.os.trans h.os, k.tape.trans h.tape, k.output.trans h.output, Nat.le_trans h.size k.size, fun i hi hf hg => (k.block i (Nat.lt_of_lt_of_le hi h.size) hf hg).trans (h.block i hi hf hg), fun i o hi ho hf => k.other i o (h.other i o hi ho hf) ho hf⟩
theorem Kept.wider {F G : Nat → Prop} {g : Option Nat} {x y : World} (h : Kept F g x y) (hF : ∀ k, F k → G k) : Kept G g x y := ⟨h.os, h.tape, h.output, h.size, fun i hi hf hg => h.block i hi (fun e => hf (hF i e)) hg, fun i o hi ho hf => h.other i o hi ho (fun e => hf (hF i e))⟩
theorem Kept.of_below {F : Nat → Prop} {g : Option Nat} {x y : World} (h : Below x.heap.size x y) : Kept F g x y := ⟨h.os, h.tape, h.output, h.size, fun i hi _ _ => h.block i hi, fun i o hi _ _ => (h.block i (Array.getElem?_eq_some_iff.1 hi).1).trans hi⟩
theorem Kept.of_grown {F : Nat → Prop} {g : Option Nat} {x y : World} {row : Option Nat} (h : x.grownBy y row) (hr : ∀ k, row = some k → F k ∨ (g = some k ∧ ∀ o, x.heap[k]? = some o → o.isCells = true)) : Kept F g x y :=
  ⟨h.os, h.tape, h.output, h.size, fun i hi hf hg => h.block i hi (fun e => (hr i e.symm).elim hf (fun q => hg q.1)), fun i o hi ho hf => (h.block i (Array.getElem?_eq_some_iff.1 hi).1 (fun e => (hr i e.symm).elim hf (fun q => by rw [q.2 o hi] at ho; cases ho))).trans hi⟩
theorem Kept.keeps {F : Nat → Prop} {g : Option Nat} {x y : World} {B : Nat} (h : Kept F g x y) (hF : ∀ k, F k → k < B) : KeepsFrom B x y := ⟨h.size, fun k o hk ho hc => h.other k o ho hc (fun e => by have := hF k e; omega)⟩
theorem Kept.below {F : Nat → Prop} {g : Option Nat} {x y : World} {B : Nat} (h : Kept F g x y) (hB : B ≤ x.heap.size) (hF : ∀ k, F k → B ≤ k) (hg : ∀ k, g = some k → B ≤ k) : Below B x y :=
  ⟨h.os, h.tape, h.output, h.size, fun i hi => h.block i (by omega) (fun e => by have := hF i e; omega) (fun e => by have := hg i e; omega)⟩
theorem Kept.set {F : Nat → Prop} {g : Option Nat} {w : World} {p : Addr} (h : F p.block) (v : Value) : Kept F g w (w.setCell p v) :=
  ⟨rfl, rfl, rfl, by rw [World.size_setCell]; exact Nat.le_refl _, fun k _ hf _ => Below.heap_setCell _ _ _ k (fun e => hf (by rw [e]; exact h)), fun k o hk _ hf => (Below.heap_setCell _ _ _ k (fun e => hf (by rw [e]; exact h))).trans hk⟩
/-- A block of the caller's own, if there is one, is the one that it had or a new one. -/
def Newer (n m : Nat) (g g' : Option Nat) : Prop := g' = g ∨ ∃ k, g' = some k ∧ n ≤ k ∧ k < m
/-- The function value (f, lb) hands over the values xs one after the other, until it is told to stop; a round turns what F names, and the block g. -/
def Hands (P : Program) (f : Nat) (lb : Array Value) (F : Nat → Prop) (xs : List Value) (w : World) : Prop :=
  ∀ (l : Nat) (J : List Value × Option Nat → World → Prop) (Jx : List Value → World → Prop) (W : World), Below w.heap.size w W → w.heap.size ≤ l → l < W.heap.size → (∀ k, F k → k < l) → OwnFrom W.heap.size J → OwnFrom W.heap.size Jx →
    (∀ pre x, (pre ++ [x]) <+: xs → ∀ g W1 m, J (pre, g) W1 → YieldAt Fence.wide m P l #[x] W1 fun e W' =>
      (e = .returned (.bool true) ∧ ∃ g', J (pre ++ [x], g') W' ∧ Newer W1.heap.size W'.heap.size g g' ∧ Kept (fun k => F k ∨ k = l) g W1 W') ∨ (e = .returned (.bool false) ∧ Jx (pre ++ [x]) W' ∧ KeepsFrom (l + 1) W1 W')) →
    J ([], none) W → ∀ n, CallsIn Fence.wide n P f (#[.func (.yield l) #[] #[]] ++ lb) W fun e W' => (∃ v, e = .returned v) ∧ ((∃ g, J (xs, g) W') ∨ ∃ pre, pre <+: xs ∧ Jx pre W')
theorem Hands.later {P : Program} {f : Nat} {lb : Array Value} {F : Nat → Prop} {xs : List Value} {w w' : World} (h : Hands P f lb F xs w) (hb : Below w.heap.size w w') : Hands P f lb F xs w' :=
  fun l J Jx W hW hl => h l J Jx W (hb.trans (hW.mono hb.size)) (Nat.le_trans hb.size hl)
theorem OwnFrom.wider {β : Type} {B C : Nat} {I : β → World → Prop} (h : OwnFrom B I) (hBC : B ≤ C) : OwnFrom C I :=
  fun s W W' row hs hg hr => h s W W' row hs hg fun r e => ⟨Nat.le_trans hBC (hr r e).1, (hr r e).2⟩
theorem KeepsFrom.wider {B C : Nat} {W W' : World} (h : KeepsFrom B W W') (hBC : B ≤ C) : KeepsFrom C W W' := ⟨h.size, fun k o hk => h.same k o (Nat.le_trans hBC hk)⟩
theorem Below.keeps {B : Nat} {W W' : World} (h : Below W.heap.size W W') : KeepsFrom B W W' := ⟨h.size, fun k o _ hk _ => (h.block k (Array.getElem?_eq_some_iff.1 hk).1).trans hk⟩
/-- The two blocks of a loop's own: the record, and the one for deferred calls. -/
def Two (D : Nat) (r : Loop) (W : World) : Prop := W.heap[D + 1]? = some (.loop r) ∧ W.heap[D]? = some (.deferred (some []))
theorem Two.put {D : Nat} {r : Loop} {W : World} (h : Two D r W) (r' : Loop) : Two D r' (W.putObj (D + 1) (.loop r')) :=
  ⟨World.putObj_heap_same (Array.getElem?_eq_some_iff.1 h.1).1, (World.putObj_heap_other (by omega)).trans h.2⟩
theorem Two.own (D : Nat) (r : Loop) {B : Nat} (hB : D + 2 ≤ B) {β : Type} : OwnFrom B (fun (_ : β) W => Two D r W) := fun _ W W' row hs hg hr => by
  have key : ∀ k o, k < B → W.heap[k]? = some o → W'.heap[k]? = some o := fun k o hk ho =>
    (hg.block k (Array.getElem?_eq_some_iff.1 ho).1 (fun e => by have := (hr k e.symm).1; omega)).trans ho
  exact ⟨key _ _ (by omega) hs.1, key _ _ (by omega) hs.2⟩
theorem Two.keeps {D B : Nat} {r : Loop} {W W' : World} (h : Two D r W) (hk : KeepsFrom B W W') (hB : B ≤ D) : Two D r W' := ⟨hk.same _ _ (by omega) h.1 rfl, hk.same _ _ hB h.2 rfl⟩
theorem put_kept {F : Nat → Prop} {g : Option Nat} {l : Nat} {W : World} {o : Obj} (h : F l) : Kept F g W (W.putObj l o) :=
  ⟨rfl, rfl, rfl, by simp, fun k _ hf _ => World.putObj_heap_other (fun e => hf (by rw [e]; exact h)), fun k o hk _ hf => (World.putObj_heap_other (fun e => hf (by rw [e]; exact h))).trans hk⟩
theorem put_below {n₀ l : Nat} {W : World} {o : Obj} (h : n₀ ≤ l) (hn : n₀ ≤ W.heap.size) : Below n₀ W (W.putObj l o) :=
  (Below.refl n₀ W).grown (grownBy_putObj' W l o) hn (fun k e => by cases e; exact h)
theorem put_keeps {B l : Nat} {W : World} {o : Obj} (h : l < B) : KeepsFrom B W (W.putObj l o) := ⟨by simp, fun k o' hk ho _ => (World.putObj_heap_other (by omega)).trans ho⟩
theorem put_keeps' {l : Nat} {W W2 : World} {o : Obj} (h : W.putObj l o = W2) : KeepsFrom (l + 1) W W2 := by rw [← h]; exact put_keeps (by omega)
/-- How a round of mine ends. -/
def Rounds (B : Nat) (F : Nat → Prop) (I : List Value × Option Nat → World → Prop) (Ix : Code → List Value → World → Prop) (xs : List Value) (g : Option Nat) (W : World) : Exit → Act → World → Prop
  | .normal, _, W' => KeepsFrom B W W' ∧ Kept F g W W' ∧ ∃ g', Newer W.heap.size W'.heap.size g g' ∧ I (xs, g') W'
  | .ret, _, W' => KeepsFrom B W W' ∧ Ix .ret xs W'
  | .exit id, _, W' => KeepsFrom B W W' ∧ Ix (.exit id) xs W'
  | .goto t, _, W' => KeepsFrom B W W' ∧ Ix (.goto t) xs W'
  | .panic _, _, _ => False
  | .outgrown, _, _ => False
/-- The law of the loop. -/
theorem loop_hands {P : Program} {n : Nat} {g : Operand} {ps : Array Tmp} {assign body : Code} {Q : Exit → Act → World → Prop} {a : Act} {w : World}
    {gf : Nat} {lb : Array Value} (hg : a.eval g = .func (.func gf) #[] lb) (eg : ∀ args w, (callFunc gf args).run P w = .ok (.enter gf args) w)
    {F : Nat → Prop} {xs : List Value} {w0 : World} (hseq : Hands P gf lb F xs w0) (hb0 : Below w0.heap.size w0 w) (hF : ∀ k, F k → k < w.heap.size) (hps : ps.size = 1)
    (I : List Value × Option Nat → World → Prop) (Ix : Code → List Value → World → Prop) (hI : OwnFrom w.heap.size I) (hIx : ∀ c, OwnFrom w.heap.size (Ix c)) (h0 : I ([], none) w) (a₁ : Value → Act)
    (hassign : ∀ (l m : Nat) (x : Value) (W : World) (K : Act → World → Prop), K (a₁ x) W →
      assign.wpIn (Fence.wide.inRound l) m P (Exit.then K (fun _ _ _ => False)) { tmps := (ps.zip #[x]).foldl (fun t (p, v) => t.setIfInBounds p v) a.tmps, defers := [] } W)
    (hbody : ∀ (l m : Nat) (pre : List Value) (x : Value) (g : Option Nat) (W : World), (pre ++ [x]) <+: xs → w.heap.size ≤ W.heap.size → I (pre, g) W → body.wpIn (Fence.wide.inRound l) m P (Rounds w.heap.size F I Ix (pre ++ [x]) g W) (a₁ x) W)
    (hdone : ∀ (D : Nat) (g : Option Nat) (W : World), w.heap.size ≤ D → I (xs, g) W → W.heap[D]? = some (.deferred (some [])) → Q .normal { a with defers := { target := .collected D, args := #[] } :: a.defers } W)
    (hstop : ∀ (D : Nat) (c : Code) (pre : List Value) (W : World), w.heap.size ≤ D → pre <+: xs → Ix c pre W → W.heap[D]? = some (.deferred (some [])) → c.wpIn Fence.wide n P Q { a with defers := { target := .collected D, args := #[] } :: a.defers } W) :
    (Code.rangeFunc g ps assign body).wpIn Fence.wide n P Q a w := by
  refine wpIn_rangeFunc fun fn _ => ?_
  generalize hD : w.heap.size = D at *
  have hrc : ∃ rc : LoopState → Option Code → Loop, rc = fun st pe => { state := st, pending := pe, fn, tmps := a.tmps, params := ps, assign, body, defers := D } := ⟨_, rfl⟩
  obtain ⟨rc, hrc⟩ := hrc
  have hent := run_enterLoop_outer (P := P) (w := w) fn a.tmps ps assign body
  rw [hD] at hent
  have hW1 : ∃ W1, W1 = (w.alloc (.deferred (some []))).alloc (.loop (rc .ready none)) := ⟨_, rfl⟩
  obtain ⟨W1, hW1⟩ := hW1
  have s1 : W1.heap.size = D + 2 := by rw [hW1]; simp [hD]
  have t1 : Two D (rc .ready none) W1 := by
    have e2 := World.alloc_heap_new (w.alloc (.deferred (some []))) (.loop (rc .ready none))
    have e1 := World.alloc_heap_new w (.deferred (some []))
    rw [World.size_alloc, hD] at e2
    rw [hD] at e1
    rw [hW1]
    exact ⟨e2, (Below.heap_alloc _ _ D (by simp [hD])).trans e1⟩
  have i1 : I ([], none) W1 := by rw [hW1]; exact hI.alloc _ (hI.alloc _ h0)
  have b1 : Below w0.heap.size w0 W1 := by
    have := hb0.size
    rw [hW1]; exact hb0.trans ((((Below.refl _ w).alloc (Nat.le_refl _) _).alloc (by simp) _).mono this)
  have hend := fun (st : LoopState) (pe : Option Code) (h : (rc st pe).state ≠ .busy) (W : World) (t : Two D (rc st pe) W) => run_endLoop (P := P) t.1 h
  refine ⟨D + 1, [{ target := .collected D, args := #[] }], W1, { target := .fn (.func gf) lb, args := #[.func (.yield (D + 1)) #[] #[]] }, W1, gf, #[.func (.yield (D + 1)) #[] #[]] ++ lb, W1, ?_, ?_, fun _ _ => trivial, ?_, fun h => (by cases h), ?_⟩
  · rw [hW1, hrc]; exact hent
  · simp only [resolve, hg]; simp [go_sem]
  · simp [invoke, go_sem, eg]
  refine (hseq (D + 1) (fun s W => I s W ∧ Two D (rc .ready none) W) (fun pre W => ∃ c, Ix c pre W ∧ Two D (rc .done (some c)) W) W1 b1 (by have := hb0.size; omega) (by omega) (fun k hk => by have := hF k hk; omega) ?_ ?_ ?_ ⟨i1, t1⟩ (n - 1)).mono ?_
  · exact OwnFrom.and (OwnFrom.wider hI (by omega)) (Two.own D _ (by omega))
  · rintro pre W W' row ⟨c, hc, ht⟩ hgr hr
    exact ⟨c, OwnFrom.wider (hIx c) (by omega) pre W W' row hc hgr hr, Two.own D _ (Nat.le_of_eq s1.symm) pre W W' row ht hgr hr⟩
  · rintro pre x hx gg W m ⟨hi, ht⟩
    have hlt : D + 1 < W.heap.size := (Array.getElem?_eq_some_iff.1 ht.1).1
    have hy := run_yield (P := P) (args := #[x]) ht.1 (by rw [hrc]; exact hps.symm)
    have hbe := run_beginRound (P := P) ht.1 (by rw [hrc])
    have t2 := ht.put { rc .ready none with state := .busy }
    have i2 : I (pre, gg) (W.putObj (D + 1) (.loop { rc .ready none with state := .busy })) := hI.putObj _ hi (by omega) ht.1 rfl
    have k2 : Kept (fun k => F k ∨ k = D + 1) gg W (W.putObj (D + 1) (.loop { rc .ready none with state := .busy })) := put_kept (Or.inr rfl)
    have z2 : (W.putObj (D + 1) (.loop { rc .ready none with state := .busy })).heap.size = W.heap.size := by simp
    rw [hrc] at hy
    refine ⟨fn, _, assign, body, hy, roundIn_of_wpIn trivial (hassign (D + 1) m x W _ ⟨_, hbe, ?_⟩)⟩
    generalize hW2 : W.putObj (D + 1) (.loop { rc .ready none with state := .busy }) = W2 at t2 i2 k2 z2 ⊢
    have l2 : D + 1 < W2.heap.size := (Array.getElem?_eq_some_iff.1 t2.1).1
    refine wpIn_mono (hbody (D + 1) m pre x gg W2 hx (by omega) i2) ?_
    have out : ∀ (c : Code) (W3 : World), KeepsFrom D W2 W3 → Ix c (pre ++ [x]) W3 → ∃ v w', (Instr.endRound (D + 1) (some c)).run P W3 = .ok v w' ∧ ((Ending.returned v = .returned (.bool true) ∧ ∃ g', (I (pre ++ [x], g') w' ∧ Two D (rc .ready none) w') ∧ Newer W.heap.size w'.heap.size gg g' ∧ Kept (fun k => F k ∨ k = D + 1) gg W w') ∨ (Ending.returned v = .returned (.bool false) ∧ (∃ c, Ix c (pre ++ [x]) w' ∧ Two D (rc .done (some c)) w') ∧ KeepsFrom (D + 1 + 1) W w')) := fun c W3 hk hix => by
      have t3 := t2.keeps hk (Nat.le_refl _)
      refine ⟨_, _, run_endRound (P := P) (some c) t3.1, .inr ⟨rfl, ⟨c, (hIx c).putObj _ hix (by omega) t3.1 rfl, ?_⟩, ((put_keeps' hW2).trans (KeepsFrom.wider hk (by omega))).trans (put_keeps (by omega))⟩⟩
      have := t3.put (rc .done (some c))
      rw [hrc] at this ⊢; exact this
    rintro e a3 W3 hp
    cases e with
    | normal =>
      obtain ⟨hk, hb, g', hn', hi3⟩ := hp
      have t3 := t2.keeps hk (Nat.le_refl _)
      have l3 : D + 1 < W3.heap.size := (Array.getElem?_eq_some_iff.1 t3.1).1
      refine ⟨_, _, run_endRound (P := P) none t3.1, .inl ⟨rfl, g', ⟨hI.putObj _ hi3 (by omega) t3.1 rfl, ?_⟩, by rw [← z2, World.putObj_size]; exact hn', (k2.trans (hb.wider fun _ h => Or.inl h)).trans (put_kept (Or.inr rfl))⟩⟩
      have := t3.put (rc .ready none)
      rw [hrc] at this ⊢; exact this
    | ret => exact out _ W3 hp.1 hp.2
    | exit id => exact out _ W3 hp.1 hp.2
    | goto t => exact out _ W3 hp.1 hp.2
    | panic ch => exact hp.elim
    | outgrown => exact hp.elim
  · rintro e W2 ⟨⟨v, rfl⟩, ⟨gg, hi, ht⟩ | ⟨pre, hpre, c, hi, ht⟩⟩
    · refine ⟨none, W2.putObj (D + 1) (.loop { rc .ready none with state := .exhausted }), ?_, hdone D gg _ (Nat.le_refl _) (hI.putObj _ hi (by omega) ht.1 rfl) ((World.putObj_heap_other (by omega)).trans ht.2)⟩
      have := hend .ready none (by rw [hrc]; simp) W2 ht
      rw [hrc] at this ⊢; exact this
    · refine ⟨some c, W2.putObj (D + 1) (.loop { rc .done (some c) with state := .exhausted }), ?_, hstop D c pre _ (Nat.le_refl _) hpre ((hIx c).putObj _ hi (by omega) ht.1 rfl) ((World.putObj_heap_other (by omega)).trans ht.2)⟩
      have := hend .done (some c) (by rw [hrc]; simp) W2 ht
      rw [hrc] at this ⊢; exact this
/-- The same, where a round begins with 'd := p', p the parameter. -/
theorem loop_hands1 (p d : Nat) {P : Program} {n : Nat} {g : Operand} {assign body : Code} {Q : Exit → Act → World → Prop} {a : Act} {w : World}
    {gf : Nat} {lb : Array Value} (hg : a.eval g = .func (.func gf) #[] lb) (eg : ∀ args w, (callFunc gf args).run P w = .ok (.enter gf args) w)
    {F : Nat → Prop} {xs : List Value} {w0 : World} (hseq : Hands P gf lb F xs w0) (hb0 : Below w0.heap.size w0 w) (hF : ∀ k, F k → k < w.heap.size)
    (I : List Value × Option Nat → World → Prop) (Ix : Code → List Value → World → Prop) (hI : OwnFrom w.heap.size I) (hIx : ∀ c, OwnFrom w.heap.size (Ix c)) (h0 : I ([], none) w)
    (hassign : ∀ (l m : Nat) (x : Value) (W : World) (K : Act → World → Prop), K { tmps := (a.tmps.setIfInBounds p x).setIfInBounds d x, defers := [] } W →
      assign.wpIn (Fence.wide.inRound l) m P (Exit.then K (fun _ _ _ => False)) { tmps := a.tmps.setIfInBounds p x, defers := [] } W)
    (hbody : ∀ (l m : Nat) (pre : List Value) (x : Value) (g : Option Nat) (W : World), (pre ++ [x]) <+: xs → w.heap.size ≤ W.heap.size → I (pre, g) W → body.wpIn (Fence.wide.inRound l) m P (Rounds w.heap.size F I Ix (pre ++ [x]) g W) { tmps := (a.tmps.setIfInBounds p x).setIfInBounds d x, defers := [] } W)
    (hdone : ∀ (D : Nat) (g : Option Nat) (W : World), w.heap.size ≤ D → I (xs, g) W → W.heap[D]? = some (.deferred (some [])) → Q .normal { a with defers := { target := .collected D, args := #[] } :: a.defers } W)
    (hstop : ∀ (D : Nat) (c : Code) (pre : List Value) (W : World), w.heap.size ≤ D → pre <+: xs → Ix c pre W → W.heap[D]? = some (.deferred (some [])) → c.wpIn Fence.wide n P Q { a with defers := { target := .collected D, args := #[] } :: a.defers } W) :
    (Code.rangeFunc g #[p] assign body).wpIn Fence.wide n P Q a w :=
  loop_hands hg eg hseq hb0 hF rfl I Ix hI hIx h0 (fun x => { tmps := (a.tmps.setIfInBounds p x).setIfInBounds d x, defers := [] }) (fun l m x W K hK => by simpa using hassign l m x W K hK) hbody hdone hstop
/-- What a step that leaves all below B as it lay cannot turn. -/
theorem own_of {β : Type} {B : Nat} {I : β → World → Prop} (h1 : ∀ s W, I s W → B ≤ W.heap.size) (h2 : ∀ s W W', I s W → Below B W W' → I s W') : OwnFrom B I :=
  fun s W W' row hs hg hr => h2 s W W' hs ((Below.refl B W).grown hg (h1 s W hs) (fun k e => (hr k e).1))
end Go.Proofs.YtfnnoehpahdgcaaGreatDoor.Ra
namespace Go.Proofs.YtfnnoehpahdgcaaGreatDoor.Ra
open Go.RowKit Go.Shelf
attribute [local go_sem] Oper.semAt_some
set_option linter.unusedVariables false
/-- The header of a slice. -/
structure Hd where
  a : Option Addr
  n : Nat
  c : Nat
def Hd.val (h : Hd) : Value := .slice h.a h.n h.c
/-- The slice at a reads, below n₀, as these headers. -/
def Hds (n₀ : Nat) (w : World) (a : Option Addr) (hs : List Hd) : Prop := ∀ (j : Nat) (h : Hd), hs[j]? = some h → ∃ g o, a = some ⟨g, o, none⟩ ∧ g < n₀ ∧ w.cell? ⟨g, o + j, none⟩ = some (.slice h.a h.n h.c)
theorem Hds.below {n₀ : Nat} {w w' : World} {a : Option Addr} {hs : List Hd} (h : Hds n₀ w a hs) (hb : Below n₀ w w') : Hds n₀ w' a hs := fun j x hx => by
  obtain ⟨g, o, e, hg, hc⟩ := h j x hx
  exact ⟨g, o, e, hg, (hb.cell (p := ⟨g, o + j, none⟩) hg).trans hc⟩
theorem next_pre {xs : List Value} {k : Nat} {x : Value} (h : xs[k]? = some x) : xs.take (k + 1) = xs.take k ++ [x] := by
  rw [List.take_succ_eq_append_getElem (List.getElem?_eq_some_iff.1 h).1, (List.getElem?_eq_some_iff.1 h).2]
theorem pre_at {hs : List Hd} {pre : List Value} {x : Value} (h : pre ++ [x] <+: hs.map Hd.val) : ∃ y : Hd, hs[pre.length]? = some y ∧ x = .slice y.a y.n y.c := by
  obtain ⟨r, hr⟩ := h
  have : (hs.map Hd.val)[pre.length]? = some x := by rw [← hr]; simp
  rw [List.getElem?_map] at this
  cases e : hs[pre.length]? with
  | none => rw [e] at this; cases this
  | some y => rw [e] at this; exact ⟨y, rfl, (Option.some.inj this).symm⟩
theorem pre_len {hs : List Hd} {pre : List Value} (h : pre <+: hs.map Hd.val) : pre.length ≤ hs.length := by have := h.length_le; simpa using this
/-- An iterator, for whatever a later loop may turn. -/
def IterA (F0 : Nat → Prop) (xs : List Value) (w : World) (e : Ending) (w' : World) : Prop := ∃ g lb, e = .returned (.func (.func g) #[] lb) ∧ (∀ args z, (callFunc g args).run Tryz.prog z = .ok (.enter g args) z) ∧ (∀ F : Nat → Prop, (∀ k, F k → F0 k ∨ w'.heap.size ≤ k) → Hands Tryz.prog g lb F xs w') ∧ Below w.heap.size w w'
/-- What shelvesOf hands back: an iterator over the shelves. -/
def Iter (F : Nat → Prop) (xs : List Value) (w : World) (e : Ending) (w' : World) : Prop := ∃ g lb, e = .returned (.func (.func g) #[] lb) ∧ (∀ args z, (callFunc g args).run Tryz.prog z = .ok (.enter g args) z) ∧ Hands Tryz.prog g lb F xs w' ∧ Below w.heap.size w w'
end Go.Proofs.YtfnnoehpahdgcaaGreatDoor.Ra
namespace Go.Proofs.YtfnnoehpahdgcaaGreatDoor.Ra
open Go.RowKit Go.Shelf
attribute [local go_sem] Oper.semAt_some
set_option linter.unusedVariables false
theorem cell_block {w w' : World} {q o : Nat} {v : Value} (e : w'.heap[q]? = w.heap[q]?) (h : w.cell? ⟨q, o, none⟩ = some v) : w'.cell? ⟨q, o, none⟩ = some v := (World.cell?_of_block (w := w) e).trans h
theorem cell_lt {w : World} {p : Addr} {v : Value} (h : w.cell? p = some v) : p.block < w.heap.size := by
  unfold World.cell? at h
  cases ho : w.heap[p.block]? with
  | none => simp [ho] at h
  | some o => exact (Array.getElem?_eq_some_iff.1 ho).1
/-- What tablesOf's iterator holds: its variable, the store, the shelves' headers. -/
def Mine (Y B : Nat) (l n c sn sc : Nat) (a sa : Option Addr) (hs : List Hd) (n₀ : Nat) (W : World) : Prop :=
  W.cell? ⟨Y, 0, none⟩ = some (.func (.yield l) #[] #[]) ∧ W.cell? ⟨B, 0, none⟩ = some (.slice a n c) ∧ W.cell? ⟨B, 1, none⟩ = some (.slice sa sn sc) ∧ Hds n₀ W sa hs
theorem Mine.kept {Y B l n c sn sc n₀ : Nat} {a sa : Option Addr} {hs : List Hd} {W W' : World} {F : Nat → Prop} {g : Option Nat} (h : Mine Y B l n c sn sc a sa hs n₀ W) (hk : Kept F g W W') (hY : ¬ F Y) (hB : ¬ F B) (hS : ∀ g o, sa = some ⟨g, o, none⟩ → hs ≠ [] → ¬ F g) (gY : g ≠ some Y) (gB : g ≠ some B) (gS : ∀ q, g = some q → n₀ ≤ q) : Mine Y B l n c sn sc a sa hs n₀ W' := by
  obtain ⟨h1, h2, h3, h4⟩ := h
  refine ⟨cell_block (hk.block Y (cell_lt h1) hY gY) h1, cell_block (hk.block B (cell_lt h2) hB gB) h2, cell_block (hk.block B (cell_lt h2) hB gB) h3, fun j x hx => ?_⟩
  obtain ⟨q, o, e, hq, hc⟩ := h4 j x hx
  exact ⟨q, o, e, hq, cell_block (hk.block q (cell_lt hc) (hS q o e (fun e => by rw [e] at hx; simp at hx)) (fun e => by have := gS q e; omega)) hc⟩
theorem Mine.below {Y B l n c sn sc n₀ m : Nat} {a sa : Option Addr} {hs : List Hd} {W W' : World} (h : Mine Y B l n c sn sc a sa hs n₀ W) (hb : Below m W W') (hY : Y < m) (hB : B < m) (hn : n₀ ≤ m) : Mine Y B l n c sn sc a sa hs n₀ W' := by
  obtain ⟨h1, h2, h3, h4⟩ := h
  refine ⟨cell_block (hb.block Y hY) h1, cell_block (hb.block B hB) h2, cell_block (hb.block B hB) h3, fun j x hx => ?_⟩
  obtain ⟨q, o, e, hq, hc⟩ := h4 j x hx
  exact ⟨q, o, e, hq, cell_block (hb.block q (by omega)) hc⟩
theorem pre_cons {x : Value} {pre xs : List Value} (h : pre <+: xs) : (x :: pre) <+: (x :: xs) := by
  obtain ⟨r, rfl⟩ := h
  exact ⟨r, rfl⟩
end Go.Proofs.YtfnnoehpahdgcaaGreatDoor.Ra
