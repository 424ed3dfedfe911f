/-
  A range over a function that hands over more than one value a round: what an iterator promises ('Hands2'), the law of the loop over it ('loop_hands2'): Ra's, for arrays. slices.Backward over a slice of texts. (Made by gen_yh.py.)
-/
import Derived.Test.YtfnnoehpahdgcaaGreatDoorRa
import Derived.Test.YtfnnoehpahdgcaaGreatDoorYb
namespace Go.Proofs.YtfnnoehpahdgcaaGreatDoor.Ra
open Go.RowKit
set_option linter.unusedVariables false
/-- The function value (f, lb) hands over the values xs one after the other, until it is told to stop; a round turns what F names, and the block g. -/
def Hands2 (P : Program) (f : Nat) (lb : Array Value) (F : Nat → Prop) (xs : List (Array Value)) (w : World) : Prop :=
  ∀ (l : Nat) (J : List (Array Value) × Option Nat → World → Prop) (Jx : List (Array Value) → World → Prop) (W : World), Below w.heap.size w W → w.heap.size ≤ l → l < W.heap.size → (∀ k, F k → k < l) → OwnFrom W.heap.size J → OwnFrom W.heap.size Jx →
    (∀ pre x, (pre ++ [x]) <+: xs → ∀ g W1 m, J (pre, g) W1 → YieldAt Fence.wide m P l x W1 fun e W' =>
      (e = .returned (.bool true) ∧ ∃ g', J (pre ++ [x], g') W' ∧ Newer W1.heap.size W'.heap.size g g' ∧ Kept (fun k => F k ∨ k = l) g W1 W') ∨ (e = .returned (.bool false) ∧ Jx (pre ++ [x]) W' ∧ KeepsFrom (l + 1) W1 W')) →
    J ([], none) W → ∀ n, CallsIn Fence.wide n P f (#[.func (.yield l) #[] #[]] ++ lb) W fun e W' => (∃ v, e = .returned v) ∧ ((∃ g, J (xs, g) W') ∨ ∃ pre, pre <+: xs ∧ Jx pre W')
theorem Hands2.later {P : Program} {f : Nat} {lb : Array Value} {F : Nat → Prop} {xs : List (Array Value)} {w w' : World} (h : Hands2 P f lb F xs w) (hb : Below w.heap.size w w') : Hands2 P f lb F xs w' :=
  fun l J Jx W hW hl => h l J Jx W (hb.trans (hW.mono hb.size)) (Nat.le_trans hb.size hl)
/-- How a round of mine ends. -/
def Rounds2 (B : Nat) (F : Nat → Prop) (I : List (Array Value) × Option Nat → World → Prop) (Ix : Code → List (Array Value) → World → Prop) (xs : List (Array Value)) (g : Option Nat) (W : World) : Exit → Act → World → Prop
  | .normal, _, W' => KeepsFrom B W W' ∧ Kept F g W W' ∧ ∃ g', Newer W.heap.size W'.heap.size g g' ∧ I (xs, g') W'
  | .ret, _, W' => KeepsFrom B W W' ∧ Ix .ret xs W'
  | .exit id, _, W' => KeepsFrom B W W' ∧ Ix (.exit id) xs W'
  | .goto t, _, W' => KeepsFrom B W W' ∧ Ix (.goto t) xs W'
  | .panic _, _, _ => False
  | .outgrown, _, _ => False
/-- The law of the loop. -/
theorem loop_hands2 {P : Program} {n : Nat} {g : Operand} {ps : Array Tmp} {assign body : Code} {Q : Exit → Act → World → Prop} {a : Act} {w : World}
    {gf : Nat} {lb : Array Value} (hg : a.eval g = .func (.func gf) #[] lb) (eg : ∀ args w, (callFunc gf args).run P w = .ok (.enter gf args) w)
    {F : Nat → Prop} {xs : List (Array Value)} {w0 : World} (hseq : Hands2 P gf lb F xs w0) (hb0 : Below w0.heap.size w0 w) (hF : ∀ k, F k → k < w.heap.size) (hps : ∀ x ∈ xs, ps.size = x.size)
    (I : List (Array Value) × Option Nat → World → Prop) (Ix : Code → List (Array Value) → World → Prop) (hI : OwnFrom w.heap.size I) (hIx : ∀ c, OwnFrom w.heap.size (Ix c)) (h0 : I ([], none) w) (a₁ : Array Value → Act)
    (hassign : ∀ (l m : Nat) (x : Array Value), x ∈ xs → ∀ (W : World) (K : Act → World → Prop), K (a₁ x) W →
      assign.wpIn (Fence.wide.inRound l) m P (Exit.then K (fun _ _ _ => False)) { tmps := (ps.zip x).foldl (fun t (p, v) => t.setIfInBounds p v) a.tmps, defers := [] } W)
    (hbody : ∀ (l m : Nat) (pre : List (Array Value)) (x : Array Value) (g : Option Nat) (W : World), (pre ++ [x]) <+: xs → w.heap.size ≤ W.heap.size → I (pre, g) W → body.wpIn (Fence.wide.inRound l) m P (Rounds2 w.heap.size F I Ix (pre ++ [x]) g W) (a₁ x) W)
    (hdone : ∀ (D : Nat) (g : Option Nat) (W : World), w.heap.size ≤ D → I (xs, g) W → W.heap[D]? = some (.deferred (some [])) → Q .normal { a with defers := { target := .collected D, args := #[] } :: a.defers } W)
    (hstop : ∀ (D : Nat) (c : Code) (pre : List (Array Value)) (W : World), w.heap.size ≤ D → pre <+: xs → Ix c pre W → W.heap[D]? = some (.deferred (some [])) → c.wpIn Fence.wide n P Q { a with defers := { target := .collected D, args := #[] } :: a.defers } W) :
    (Code.rangeFunc g ps assign body).wpIn Fence.wide n P Q a w := by
  refine wpIn_rangeFunc fun fn _ => ?_
  generalize hD : w.heap.size = D at *
  have hrc : ∃ rc : LoopState → Option Code → Loop, rc = fun st pe => { state := st, pending := pe, fn, tmps := a.tmps, params := ps, assign, body, defers := D } := ⟨_, rfl⟩
  obtain ⟨rc, hrc⟩ := hrc
  have hent := run_enterLoop_outer (P := P) (w := w) fn a.tmps ps assign body
  rw [hD] at hent
  have hW1 : ∃ W1, W1 = (w.alloc (.deferred (some []))).alloc (.loop (rc .ready none)) := ⟨_, rfl⟩
  obtain ⟨W1, hW1⟩ := hW1
  have s1 : W1.heap.size = D + 2 := by rw [hW1]; simp [hD]
  have t1 : Two D (rc .ready none) W1 := by
    have e2 := World.alloc_heap_new (w.alloc (.deferred (some []))) (.loop (rc .ready none))
    have e1 := World.alloc_heap_new w (.deferred (some []))
    rw [World.size_alloc, hD] at e2
    rw [hD] at e1
    rw [hW1]
    exact ⟨e2, (Below.heap_alloc _ _ D (by simp [hD])).trans e1⟩
  have i1 : I ([], none) W1 := by rw [hW1]; exact hI.alloc _ (hI.alloc _ h0)
  have b1 : Below w0.heap.size w0 W1 := by
    have := hb0.size
    rw [hW1]; exact hb0.trans ((((Below.refl _ w).alloc (Nat.le_refl _) _).alloc (by simp) _).mono this)
  have hend := fun (st : LoopState) (pe : Option Code) (h : (rc st pe).state ≠ .busy) (W : World) (t : Two D (rc st pe) W) => run_endLoop (P := P) t.1 h
  refine ⟨D + 1, [{ target := .collected D, args := #[] }], W1, { target := .fn (.func gf) lb, args := #[.func (.yield (D + 1)) #[] #[]] }, W1, gf, #[.func (.yield (D + 1)) #[] #[]] ++ lb, W1, ?_, ?_, fun _ _ => trivial, ?_, fun h => (by cases h), ?_⟩
  · rw [hW1, hrc]; exact hent
  · simp only [resolve, hg]; simp [go_sem]
  · simp [invoke, go_sem, eg]
  refine (hseq (D + 1) (fun s W => I s W ∧ Two D (rc .ready none) W) (fun pre W => ∃ c, Ix c pre W ∧ Two D (rc .done (some c)) W) W1 b1 (by have := hb0.size; omega) (by omega) (fun k hk => by have := hF k hk; omega) ?_ ?_ ?_ ⟨i1, t1⟩ (n - 1)).mono ?_
  · exact OwnFrom.and (OwnFrom.wider hI (by omega)) (Two.own D _ (by omega))
  · rintro pre W W' row ⟨c, hc, ht⟩ hgr hr
    exact ⟨c, OwnFrom.wider (hIx c) (by omega) pre W W' row hc hgr hr, Two.own D _ (Nat.le_of_eq s1.symm) pre W W' row ht hgr hr⟩
  · rintro pre x hx gg W m ⟨hi, ht⟩
    have hlt : D + 1 < W.heap.size := (Array.getElem?_eq_some_iff.1 ht.1).1
    have hy := run_yield (P := P) (args := x) ht.1 (by rw [hrc]; exact (hps x (hx.subset (by simp))).symm)
    have hbe := run_beginRound (P := P) ht.1 (by rw [hrc])
    have t2 := ht.put { rc .ready none with state := .busy }
    have i2 : I (pre, gg) (W.putObj (D + 1) (.loop { rc .ready none with state := .busy })) := hI.putObj _ hi (by omega) ht.1 rfl
    have k2 : Kept (fun k => F k ∨ k = D + 1) gg W (W.putObj (D + 1) (.loop { rc .ready none with state := .busy })) := put_kept (Or.inr rfl)
    have z2 : (W.putObj (D + 1) (.loop { rc .ready none with state := .busy })).heap.size = W.heap.size := by simp
    rw [hrc] at hy
    refine ⟨fn, _, assign, body, hy, roundIn_of_wpIn trivial (hassign (D + 1) m x (hx.subset (by simp)) W _ ⟨_, hbe, ?_⟩)⟩
    generalize hW2 : W.putObj (D + 1) (.loop { rc .ready none with state := .busy }) = W2 at t2 i2 k2 z2 ⊢
    have l2 : D + 1 < W2.heap.size := (Array.getElem?_eq_some_iff.1 t2.1).1
    refine wpIn_mono (hbody (D + 1) m pre x gg W2 hx (by omega) i2) ?_
    have out : ∀ (c : Code) (W3 : World), KeepsFrom D W2 W3 → Ix c (pre ++ [x]) W3 → ∃ v w', (Instr.endRound (D + 1) (some c)).run P W3 = .ok v w' ∧ ((Ending.returned v = .returned (.bool true) ∧ ∃ g', (I (pre ++ [x], g') w' ∧ Two D (rc .ready none) w') ∧ Newer W.heap.size w'.heap.size gg g' ∧ Kept (fun k => F k ∨ k = D + 1) gg W w') ∨ (Ending.returned v = .returned (.bool false) ∧ (∃ c, Ix c (pre ++ [x]) w' ∧ Two D (rc .done (some c)) w') ∧ KeepsFrom (D + 1 + 1) W w')) := fun c W3 hk hix => by
      have t3 := t2.keeps hk (Nat.le_refl _)
      refine ⟨_, _, run_endRound (P := P) (some c) t3.1, .inr ⟨rfl, ⟨c, (hIx c).putObj _ hix (by omega) t3.1 rfl, ?_⟩, ((put_keeps' hW2).trans (KeepsFrom.wider hk (by omega))).trans (put_keeps (by omega))⟩⟩
      have := t3.put (rc .done (some c))
      rw [hrc] at this ⊢; exact this
    rintro e a3 W3 hp
    cases e with
    | normal =>
      obtain ⟨hk, hb, g', hn', hi3⟩ := hp
      have t3 := t2.keeps hk (Nat.le_refl _)
      have l3 : D + 1 < W3.heap.size := (Array.getElem?_eq_some_iff.1 t3.1).1
      refine ⟨_, _, run_endRound (P := P) none t3.1, .inl ⟨rfl, g', ⟨hI.putObj _ hi3 (by omega) t3.1 rfl, ?_⟩, by rw [← z2, World.putObj_size]; exact hn', (k2.trans (hb.wider fun _ h => Or.inl h)).trans (put_kept (Or.inr rfl))⟩⟩
      have := t3.put (rc .ready none)
      rw [hrc] at this ⊢; exact this
    | ret => exact out _ W3 hp.1 hp.2
    | exit id => exact out _ W3 hp.1 hp.2
    | goto t => exact out _ W3 hp.1 hp.2
    | panic ch => exact hp.elim
    | outgrown => exact hp.elim
  · rintro e W2 ⟨⟨v, rfl⟩, ⟨gg, hi, ht⟩ | ⟨pre, hpre, c, hi, ht⟩⟩
    · refine ⟨none, W2.putObj (D + 1) (.loop { rc .ready none with state := .exhausted }), ?_, hdone D gg _ (Nat.le_refl _) (hI.putObj _ hi (by omega) ht.1 rfl) ((World.putObj_heap_other (by omega)).trans ht.2)⟩
      have := hend .ready none (by rw [hrc]; simp) W2 ht
      rw [hrc] at this ⊢; exact this
    · refine ⟨some c, W2.putObj (D + 1) (.loop { rc .done (some c) with state := .exhausted }), ?_, hstop D c pre _ (Nat.le_refl _) hpre ((hIx c).putObj _ hi (by omega) ht.1 rfl) ((World.putObj_heap_other (by omega)).trans ht.2)⟩
      have := hend .done (some c) (by rw [hrc]; simp) W2 ht
      rw [hrc] at this ⊢; exact this
/-- The same, where a round begins with 'd := p2', p1 and p2 the parameters. -/
theorem loop_hands22 (p1 p2 d : Nat) {P : Program} {n : Nat} {g : Operand} {assign body : Code} {Q : Exit → Act → World → Prop} {a : Act} {w : World}
    {gf : Nat} {lb : Array Value} (hg : a.eval g = .func (.func gf) #[] lb) (eg : ∀ args w, (callFunc gf args).run P w = .ok (.enter gf args) w)
    {F : Nat → Prop} {xs : List (Array Value)} {w0 : World} (hx2 : ∀ x ∈ xs, ∃ y z, x = #[y, z]) (hseq : Hands2 P gf lb F xs w0) (hb0 : Below w0.heap.size w0 w) (hF : ∀ k, F k → k < w.heap.size)
    (I : List (Array Value) × Option Nat → World → Prop) (Ix : Code → List (Array Value) → World → Prop) (hI : OwnFrom w.heap.size I) (hIx : ∀ c, OwnFrom w.heap.size (Ix c)) (h0 : I ([], none) w)
    (hassign : ∀ (l m : Nat) (x y : Value) (W : World) (K : Act → World → Prop), K { tmps := (((a.tmps.setIfInBounds p1 x).setIfInBounds p2 y)).setIfInBounds d y, defers := [] } W →
      assign.wpIn (Fence.wide.inRound l) m P (Exit.then K (fun _ _ _ => False)) { tmps := (a.tmps.setIfInBounds p1 x).setIfInBounds p2 y, defers := [] } W)
    (hbody : ∀ (l m : Nat) (pre : List (Array Value)) (x y : Value) (g : Option Nat) (W : World), (pre ++ [#[x, y]]) <+: xs → w.heap.size ≤ W.heap.size → I (pre, g) W → body.wpIn (Fence.wide.inRound l) m P (Rounds2 w.heap.size F I Ix (pre ++ [#[x, y]]) g W) { tmps := ((a.tmps.setIfInBounds p1 x).setIfInBounds p2 y).setIfInBounds d y, defers := [] } W)
    (hdone : ∀ (D : Nat) (g : Option Nat) (W : World), w.heap.size ≤ D → I (xs, g) W → W.heap[D]? = some (.deferred (some [])) → Q .normal { a with defers := { target := .collected D, args := #[] } :: a.defers } W)
    (hstop : ∀ (D : Nat) (c : Code) (pre : List (Array Value)) (W : World), w.heap.size ≤ D → pre <+: xs → Ix c pre W → W.heap[D]? = some (.deferred (some [])) → c.wpIn Fence.wide n P Q { a with defers := { target := .collected D, args := #[] } :: a.defers } W) :
    (Code.rangeFunc g #[p1, p2] assign body).wpIn Fence.wide n P Q a w := by
  refine loop_hands2 hg eg hseq hb0 hF (fun x hx => by obtain ⟨y, z, rfl⟩ := hx2 x hx; rfl) I Ix hI hIx h0 (fun x => { tmps := ((a.tmps.setIfInBounds p1 (x.getD 0 undef)).setIfInBounds p2 (x.getD 1 undef)).setIfInBounds d (x.getD 1 undef), defers := [] }) ?_ ?_ hdone hstop
  · intro l m x hx W K hK
    obtain ⟨y, z, rfl⟩ := hx2 x hx
    have := hassign l m y z W K hK
    simpa using this
  · intro l m pre x g W hx hw hi
    obtain ⟨y, z, rfl⟩ := hx2 x (hx.subset (by simp))
    exact hbody l m pre y z g W hx hw hi
end Go.Proofs.YtfnnoehpahdgcaaGreatDoor.Ra
namespace Go.Proofs.YtfnnoehpahdgcaaGreatDoor.Cl
open Go.RowKit Wd Rp Kp Ra Go.Shelf
attribute [local go_sem] Oper.semAt_some
set_option linter.unusedVariables false
/-- What Backward hands over. -/
def bkI (l : List Tk) (j : Nat) : Array Value := #[.int .i64 ((l.length - 1 - j : Nat) : Int), tv (l.getD (l.length - 1 - j) [])]
def bkL (l : List Tk) : List (Array Value) := (List.range l.length).map (bkI l)
theorem bkL_len (l : List Tk) : (bkL l).length = l.length := by unfold bkL; rw [List.length_map, List.length_range]
theorem bkL_get {l : List Tk} {k : Nat} (h : k < l.length) : (bkL l)[k]? = some (bkI l k) := by unfold bkL; rw [List.getElem?_map, List.getElem?_range h]; rfl
theorem bkL_two (l : List Tk) : ∀ x ∈ bkL l, ∃ y z, x = #[y, z] := fun x hx => by
  unfold bkL at hx
  rw [List.mem_map] at hx
  obtain ⟨k, -, rfl⟩ := hx
  exact ⟨_, _, rfl⟩
theorem pre_bk {l : List Tk} {pre : List (Array Value)} {x : Array Value} (h : (pre ++ [x]) <+: bkL l) : pre.length < l.length ∧ x = bkI l pre.length := by
  obtain ⟨r, hr⟩ := h
  have h1 : (bkL l)[pre.length]? = some x := by rw [← hr]; simp
  have h2 := (List.getElem?_eq_some_iff.1 h1).1
  rw [bkL_len] at h2
  rw [bkL_get h2] at h1
  exact ⟨h2, (Option.some.inj h1).symm⟩
theorem pre_bk_take {l : List Tk} {pre : List (Array Value)} (h : pre <+: bkL l) : pre.length ≤ l.length := by have := h.length_le; rwa [bkL_len] at this
theorem next_bk {xs : List (Array Value)} {k : Nat} {x : Array Value} (h : xs[k]? = some x) : xs.take (k + 1) = xs.take k ++ [x] := by
  rw [List.take_succ_eq_append_getElem (List.getElem?_eq_some_iff.1 h).1, (List.getElem?_eq_some_iff.1 h).2]
set_option maxRecDepth 100000 in
set_option maxHeartbeats 2000000 in
theorem backward1_hands (F : Nat → Prop) (n₀ B : Nat) (a : Option Addr) (cap N : Nat) (ts : List Tk) (hN : ts.length = N) (hlen : N ≤ 4194304) (w : World) (hB : B < w.heap.size) (hn : n₀ ≤ w.heap.size)
    (hbox : w.cell? ⟨B, 0, none⟩ = some (.slice a N cap)) (hx : ∀ k c, ts[k]? = some c → ∃ g o, a = some ⟨g, o, none⟩ ∧ g < n₀ ∧ w.cell? ⟨g, o + k, none⟩ = some (.string (tx c))) (hF : ∀ g o, a = some ⟨g, o, none⟩ → ts ≠ [] → ¬ F g) (hFB : ¬ F B) (hB0 : B < n₀) :
    Hands2 Tryz.prog 159 #[.pointer (some ⟨B, 0, none⟩)] F (bkL ts) w := by
  intro l J Jx W hW hl0 hl hFk hJ hJx hY h0 n
  clear hFk
  have hc0 := Lib.hid ((hW.cell (p := ⟨B, 0, none⟩) hB).trans hbox)
  have hx0 := Lib.hid (show ∀ k c, ts[k]? = some c → ∃ g o, a = some ⟨g, o, none⟩ ∧ g < n₀ ∧ W.cell? ⟨g, o + k, none⟩ = some (.string (tx c)) from fun k c hk => by
    obtain ⟨g, o, e, hg, hc⟩ := hx k c hk
    exact ⟨g, o, e, hg, (hW.cell (p := ⟨g, o + k, none⟩) (Nat.lt_of_lt_of_le hg hn)).trans hc⟩); clear hx hbox
  have hws := hW.size
  clear hW
  have HY := Lib.hid hY; clear hY
  have HF := Lib.hid (And.intro hF hFB); clear hF hFB
  have HL := Lib.hid hN
  have hcw := hc0.out
  refine callsIn_of_wp Tryz.func159 rfl trivial ?_ rfl
  simp only [Tryz.ntmps159, List.size_toArray, List.length_cons, List.length_nil, Nat.reduceAdd, Nat.reduceSub, Array.replicate_succ, Array.replicate_zero, List.push_toArray, List.append_toArray, List.nil_append, List.cons_append]
  gi_wp2
  gi_loopw [3] (fun i wr => ∃ (k m : Nat) (gg : Option Nat), k + m = N ∧ i = .int .i64 ((m : Int) - 1) ∧ J ((bkL ts).take k, gg) wr ∧ (∀ q, gg = some q → W.heap.size ≤ q) ∧ W.heap.size ≤ wr.heap.size ∧ ∀ q, q < n₀ → ¬ F q → wr.heap[q]? = W.heap[q]?) (fun i _ => (intOf i + 1).toNat)
  case atStart => exact ⟨0, N, none, by omega, rfl, h0, (fun q e => by cases e), Nat.le_refl _, fun _ _ _ => rfl⟩
  case round =>
    obtain ⟨k, m, gg, hk, rfl, hJs, hgg, hsz, hnx⟩ := hrel
    clear hcw
    cases m with
    | succ m =>
      have hmi : ((m + 1 : Nat) : Int) - 1 = (m : Int) := by omega
      rw [hmi]
      obtain ⟨c, hc⟩ : ∃ c, ts[m]? = some c := ⟨ts[m]'(by omega), List.getElem?_eq_getElem _⟩
      have hv : (bkL ts)[k]? = some #[.int .i64 (m : Int), .string (tx c)] := by
        rw [bkL_get (by omega)]
        unfold bkI
        rw [show ts.length - 1 - k = m by omega, List.getD_eq_getElem?_getD, hc]; rfl
      obtain ⟨g, o, rfl, hg, hgc⟩ := hx0.out m c hc
      have hcx : wr.cell? ⟨g, o + m, none⟩ = some (.string (tx c)) := (World.cell?_of_block (hnx g hg (HF.out.1 g o rfl (fun e => by rw [e] at hc; simp at hc)))).trans hgc
      have hcb : wr.cell? ⟨B, 0, none⟩ = some (.slice (some ⟨g, o, none⟩) N cap) := (World.cell?_of_block (hnx B hB0 HF.out.2)).trans hc0.out
      obtain ⟨fn, tmps, assign, body, hy, hR⟩ := HY.out _ _ (by rw [← next_bk hv]; exact List.take_prefix _ _) gg wr (n - 1) hJs
      rw [← next_bk hv] at hR
      have HNX := Lib.hid hnx; clear hnx
      have HGG := Lib.hid hgg; clear hgg
      clear hgc hc hv hmi
      generalize tx c = s at *
      gi_wp2
      refine ⟨fun h => (by cases h), hR.mono ?_⟩
      rintro e W3 (⟨rfl, g', hJ3, hn3, hk3⟩ | ⟨rfl, hJx3, -⟩)
      · have K3 := Lib.hid (And.intro hn3 hk3); clear hn3 hk3
        gi_wp2
        go_roundw
        case rel =>
          refine ⟨k + 1, m, g', by omega, rfl, hJ3, fun q hq => ?_, Nat.le_trans hsz K3.out.2.size, fun q hq hf => (K3.out.2.block q (by omega) (fun e => e.elim hf (fun e => by omega)) (fun e => by have := HGG.out q e; omega)).trans (HNX.out q hq hf)⟩
          rcases K3.out.1 with e | ⟨q', e, h', -⟩
          · exact HGG.out q (by rw [← e]; exact hq)
          · rw [e] at hq; cases hq; omega
        case measure => simp [intOf]
      · gi_wp2
        refine bodyPost_ret (results_none rfl _ _ _) rfl ?_
        exact ⟨⟨_, rfl⟩, .inr ⟨_, List.take_prefix _ _, hJx3⟩⟩
    | zero =>
      obtain rfl : k = N := by omega
      rw [List.take_of_length_le (by rw [bkL_len, HL.out]; exact Nat.le_refl _)] at hJs
      have HJ := Lib.hid hJs; clear hJs hnx hgg
      gi_wp2
      go_end0
      exact ⟨⟨_, rfl⟩, .inl ⟨gg, HJ.out⟩⟩
set_option maxHeartbeats 1000000 in
theorem backward_any (a : Option Addr) (n cap : Nat) (w : World) : Calls Tryz.prog 149 #[.slice a n cap] w fun e w' =>
    e = .returned (.func (.func 159) #[] #[.pointer (some ⟨w.heap.size, 0, none⟩)]) ∧ w' = w.alloc (.cells #[.slice a n cap] 24) := by
  go_enter Tryz.func149, Tryz.ntmps149
  go_wp2
  go_ret
  exact ⟨rfl, rfl⟩
end Go.Proofs.YtfnnoehpahdgcaaGreatDoor.Cl
