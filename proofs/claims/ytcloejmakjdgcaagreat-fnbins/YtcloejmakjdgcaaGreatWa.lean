/-
  The contracts of spec.l6Copy: a store of the call's own with the same cells. (Made by gen_wa.py.)
  The contract of impl.copyOfBarn: a store of the call's own with the same cells.
  The contract of spec.l6Put: a cell into the Hand of a store in a block. (Made by gen_wc.py.)
-/
import Derived.Test.YtcloejmakjdgcaaGreatBa
import Derived.Test.YtcloejmakjdgcaaGreatRe
import Derived.Test.YtcloejmakjdgcaaGreatCe
import Derived.Test.YtcloejmakjdgcaaGreatCk
namespace Go.Proofs.YtcloejmakjdgcaaGreat.Cl
open Go.RowKit Wd Rp Kp Ra
set_option linter.unusedVariables false
theorem cnx {x y : World} {p : Addr} {v : Value} (bel : Below x.heap.size x y) (h : x.cell? p = some v) : y.cell? p = some v := (World.cell?_of_block (w := x) (bel.block p.block (cell_lt h))).trans h
theorem cgr {x y : World} {p : Addr} {v : Value} {row : Option Nat} (g : x.grownBy y row) (hne : row ≠ some p.block) (h : x.cell? p = some v) : y.cell? p = some v := (World.cell?_of_block (w := x) (g.block p.block (cell_lt h) (fun e => hne e.symm))).trans h
theorem cst {x : World} {p a : Addr} {v u : Value} (hne : p.block ≠ a.block) (h : x.cell? p = some v) : (x.setCell a u).cell? p = some v := (World.cell?_of_block (w := x) (Below.heap_setCell _ _ _ _ hne)).trans h
theorem step_append_row {ops : Array Oper} {o : Oper} {a : Act} {Q : Exit → Act → World → Prop} {K : Act → World → Prop} {w : World} (hw : Region.wanted o (yielded ops a.tmps) = true) (s x : Operand)
    (ho : o.op = .call { callee := .builtin .append, args := #[s, x], argTypes := #[25, 25] })
    {base : Nat} {v u : Value} {us : List Value} {ad : Addr} (hs : a.eval s = v) (hx : a.eval x = .slice (some ad) 1 1) (hown : RowS base w v us) (hu : ∃ a n c, u = .slice a n c) (hlen : us.length ≤ 1000000) (hbase : base ≤ w.heap.size) (hc : w.cell? ad = some u)
    (h : ∀ v' w', RowS base w' v' (us ++ [u]) → w.grownBy w' v.ownBlock → (v'.ownBlock = v.ownBlock ∨ v'.ownBlock = some w.heap.size) → K (a.put o.dst v') w') :
    if Region.wanted o (yielded ops a.tmps) = true then Oper.wp Tryz.prog o a w K Q else K (a.put o.dst undef) w := by
  rw [if_pos hw]
  obtain ⟨v', w', hr, h2, h3, h4⟩ := run_append_row o.type hown hu hlen hbase ad hc
  unfold Oper.wp execOp
  simp only [ho, resolve, invoke, builtin, Sem.run_bind, Sem.run_pure, Result.andThen_ok, List.map_toArray, List.map_cons, List.map_nil, hs, hx, hr]
  exact h v' w' h2 h3 h4
/-- The blocks of a copy under way: the store, the result, what is made. -/
def CpF (q O : Nat) (bh bs hv sv : Value) (us : List Value) (ts : List (List Cel)) (z : World) : Prop :=
  Bb q bh bs z ∧ Bb (q + 1) (.slice none 0 0) (.slice none 0 0) z ∧ Bb O hv sv z ∧ RowS (q + 2) z sv us ∧ OwL (q + 2) z (hv :: us) ts ∧ ∀ x ∈ sv :: hv :: us, x.ownBlock ≠ some O
theorem CpF.next {q O : Nat} {bh bs hv sv : Value} {us : List Value} {ts : List (List Cel)} {z z' : World} (h : CpF q O bh bs hv sv us ts z) (hb : Below z.heap.size z z') : CpF q O bh bs hv sv us ts z' :=
  ⟨h.1.next hb, h.2.1.next hb, h.2.2.1.next hb, h.2.2.2.1.next hb, h.2.2.2.2.1.next hb, h.2.2.2.2.2⟩
/-- One list more. -/
theorem cp_step {q O k m : Nat} {bh bs hv sv v6 u : Value} {us : List Value} {h t : List Cel} {ss : List (List Cel)} {z z' : World} (f : CpF q O bh bs hv sv us (h :: ss.take k) z) (ou : OwC m z u t) (ht : ss[k]? = some t) (hO : q + 1 < O) (hm : O < m) (hlo : ∀ x ∈ hv :: us, ∀ i, x.ownBlock = some i → i < m) (r6 : RowS (q + 2) z' v6 (us ++ [u])) (g6 : z.grownBy z' sv.ownBlock) (n6 : v6.ownBlock = sv.ownBlock ∨ v6.ownBlock = some z.heap.size) :
    z'.frozen? ⟨O, 1, none⟩ = false ∧ z'.cell? ⟨O, 1, none⟩ = some sv ∧ CpF q O bh bs hv v6 (us ++ [u]) (h :: ss.take (k + 1)) (z'.setCell ⟨O, 1, none⟩ v6) := by
  obtain ⟨f1, f2, f3, f4, f5, f6⟩ := f
  have hrow : ∀ i, i ≤ q + 1 ∨ i = O → sv.ownBlock ≠ some i := fun i hi e => by
    rcases hi with hi | hi
    · have := RowS.lt f4 i e; omega
    · subst hi; exact f6 sv (by simp) e
  have hB : ∀ (i : Nat) (a b : Value), i ≤ q + 1 ∨ i = O → Bb i a b z → Bb i a b z' := fun i a b hi hb => by
    obtain ⟨h0, h1, h2, h3, h4⟩ := hb
    have e := g6.block i h4 (fun e => hrow i hi e.symm)
    exact ⟨(World.cell?_of_block (w := z) e).trans h0, (World.cell?_of_block (w := z) e).trans h1, (World.frozen?_of_block (w := z) e).trans h2, (World.frozen?_of_block (w := z) e).trans h3, Nat.lt_of_lt_of_le h4 g6.size⟩
  have k1 := hB q _ _ (Or.inl (by omega)) f1
  have k2 := hB (q + 1) _ _ (Or.inl (Nat.le_refl _)) f2
  have k3 := hB O _ _ (Or.inr rfl) f3
  have hu : ∀ i, u.ownBlock = some i → m ≤ i := OwC.lt ou
  have hmz : ∀ x ∈ hv :: us, ∀ i, x.ownBlock = some i → u.ownBlock ≠ some i := fun x hx i hi e => by have := hlo x hx i hi; have := hu i e; omega
  have o6 : OwL (q + 2) z' ((hv :: us) ++ [u]) ((h :: ss.take k) ++ [t]) :=
    OwL.snoc (f5.grown g6 (fun x hx i hi e => RowS.apart f4 f5 x hx i hi e)) (ou.grown g6 (fun i hi e => own_ne ou f4 (by decide) i hi e)) (by omega) hmz
  refine ⟨k3.2.2.2.1, k3.2.1, k1.put (by show O ≠ q; omega) _, k2.put (by show O ≠ q + 1; omega) _, k3.set1 _, ?_, ?_, ?_⟩
  · exact row_next r6 fun g hg _ => Below.heap_setCell _ _ _ g (fun e => by
      rcases n6 with e2 | e2
      · exact f6 sv (by simp) (by rw [← e2, hg, e])
      · rw [hg] at e2; cases e2; have := f3.2.2.2.2; simp at e; omega)
  · rw [take_at ht]
    refine ⟨o6.1, fun j x l h1 h2 => row_next (o6.2.1 j x l h1 h2) fun g hg _ => Below.heap_setCell _ _ _ g (fun e => ?_), o6.2.2⟩
    have hx := List.mem_of_getElem? h1
    rcases List.mem_append.1 (show x ∈ (hv :: us) ++ [u] from hx) with hx | hx
    · exact f6 x (List.mem_cons_of_mem _ hx) (by rw [hg, e])
    · rw [List.mem_singleton.1 hx] at hg; have := hu g hg; simp at e; omega
  · intro x hx e
    rcases List.mem_cons.1 hx with rfl | hx
    · rcases n6 with e2 | e2
      · exact f6 sv (by simp) (by rw [← e2]; exact e)
      · rw [e] at e2; cases e2; exact absurd f3.2.2.2.2 (by omega)
    · rcases List.mem_append.1 (show x ∈ (hv :: us) ++ [u] from hx) with hx | hx
      · exact f6 x (List.mem_cons_of_mem _ hx) e
      · rw [List.mem_singleton.1 hx] at e; have := hu O e; omega
theorem CpF.drew {q O : Nat} {bh bs hv sv : Value} {us : List Value} {ts : List (List Cel)} {z : World} (h : CpF q O bh bs hv sv us ts z) : CpF q O bh bs hv sv us ts z.drew := h.next (Below.refl _ _).drew
/-- What a copy gives. -/
def CpPost (h : List Cel) (ss : List (List Cel)) (w : World) (e : Ending) (w' : World) : Prop := ∃ hv sv, e = .returned (.agg #[hv, sv]) ∧ OwB w.heap.size w' hv sv h ss ∧ Below w.heap.size w w'
/-- The start: Hand is copied. -/
theorem cp_start {w w1 : World} {q : Nat} {bh bs v : Value} {h : List Cel} (hq : w.heap.size = q) (f1 : Bb q bh bs w1) (f2 : Bb (q + 1) (.slice none 0 0) (.slice none 0 0) w1) (o : OwC (q + 2) w1 v h) : CpF q w1.heap.size bh bs v (.slice none 0 0) [] [h] (w1.alloc (.cells #[v, .slice none 0 0] 27)) := by
  refine ⟨f1.next (bel1 _ _), f2.next (bel1 _ _), Bb.made _ _ w1 _, RowS.nothing _ _, ⟨rfl, fun j u l h1 h2 => ?_, by unfold Dis; simp⟩, fun x hx e => ?_⟩
  · cases j with
    | zero =>
      obtain rfl : v = u := by simpa using h1
      obtain rfl : h = l := by simpa using h2
      exact o.next (bel1 _ _)
    | succ j => simp at h1
  · rcases List.mem_cons.1 hx with rfl | hx
    · simp [Value.ownBlock] at e
    · rw [List.mem_singleton.1 hx] at e
      have := OwC.low o _ e; omega
theorem cp_end {q O : Nat} {bh bs hv sv : Value} {us : List Value} {h : List Cel} {ss : List (List Cel)} {w z : World} (hq : w.heap.size = q) (f : CpF q O bh bs hv sv us (h :: ss) z) (hb : Below q w z) : OwB w.heap.size ((z.setCell ⟨q + 1, 0, none⟩ hv).setCell ⟨q + 1, 1, none⟩ sv) hv sv h ss ∧ Below w.heap.size w ((z.setCell ⟨q + 1, 0, none⟩ hv).setCell ⟨q + 1, 1, none⟩ sv) := by
  subst hq
  refine ⟨((OwB.put (B := w.heap.size + 2) ⟨us, f.2.2.2.1, f.2.2.2.2.1⟩ (p := ⟨w.heap.size + 1, 0, none⟩) (by show w.heap.size + 1 < w.heap.size + 2; omega) _).put (p := ⟨w.heap.size + 1, 1, none⟩) (by show w.heap.size + 1 < w.heap.size + 2; omega) _).mono (by omega), ?_⟩
  exact (hb.setCell (p := ⟨w.heap.size + 1, 0, none⟩) (by show w.heap.size ≤ w.heap.size + 1; omega) _).setCell (p := ⟨w.heap.size + 1, 1, none⟩) (by show w.heap.size ≤ w.heap.size + 1; omega) _
end Go.Proofs.YtcloejmakjdgcaaGreat.Cl
namespace Go.Proofs.YtcloejmakjdgcaaGreat.Cl
open Go.RowKit Wd Rp Kp Ra Go.Shelf
attribute [local go_sem] Oper.semAt_some
set_option linter.unusedVariables false
theorem cells_of_cell {w : World} {p : Addr} {v : Value} (h : w.cell? p = some v) : ∃ o : Obj, w.heap[p.block]? = some o ∧ o.isCells = true := by
  unfold World.cell? at h
  cases ho : w.heap[p.block]? with
  | none => simp [ho] at h
  | some o => exact ⟨o, rfl, by cases o <;> simp_all [Obj.isCells]⟩
theorem cells_own {B e k n : Nat} {w : World} {v : Value} {xs : List Value} (h : w.ownsRow B e k v n xs) {i : Nat} (hi : v.ownBlock = some i) : ∃ o : Obj, w.heap[i]? = some o ∧ o.isCells = true := by
  rcases h.2 with ⟨rfl, -⟩ | ⟨g, cap, cur, rfl, -, hg, -⟩
  · simp [Value.ownBlock] at hi
  · obtain rfl : g = i := by simpa [Value.ownBlock] using hi
    exact ⟨_, hg, rfl⟩
theorem CpF.same {q O : Nat} {bh bs hv sv : Value} {us : List Value} {ts : List (List Cel)} {z z' : World} (h : CpF q O bh bs hv sv us ts z) (hb : ∀ (k : Nat) (o : Obj), z.heap[k]? = some o → o.isCells = true → z'.heap[k]? = z.heap[k]?) : CpF q O bh bs hv sv us ts z' := by
  have bb : ∀ {i : Nat} {a b : Value}, Bb i a b z → Bb i a b z' := fun {i a b} hB => by
    obtain ⟨o, ho, hc⟩ := cells_of_cell hB.1
    have e := hb i o ho hc
    obtain ⟨h0, h1, h2, h3, h4⟩ := hB
    have hl' : i < z'.heap.size := by rw [Array.getElem?_eq_getElem h4] at e; exact (Array.getElem?_eq_some_iff.1 e).1
    exact ⟨(World.cell?_of_block (w := z) e).trans h0, (World.cell?_of_block (w := z) e).trans h1, (World.frozen?_of_block (w := z) e).trans h2, (World.frozen?_of_block (w := z) e).trans h3, hl'⟩
  obtain ⟨f1, f2, f3, f4, f5, f6⟩ := h
  refine ⟨bb f1, bb f2, bb f3, row_next f4 fun g hg _ => ?_, ⟨f5.1, fun j u l h1 h2 => row_next (f5.2.1 j u l h1 h2) fun g hg _ => ?_, f5.2.2⟩, f6⟩
  · obtain ⟨o, ho, hc⟩ := cells_own f4 hg; exact hb g o ho hc
  · obtain ⟨o, ho, hc⟩ := cells_own (f5.2.1 j u l h1 h2) hg; exact hb g o ho hc
theorem stepIn_append_row {F : Fence} {n : Nat} {ops : Array Oper} {o : Oper} {a : Act} {Q : Exit → Act → World → Prop} {K : Act → World → Prop} {w : World} (hg : o.guard = none) (hw : Region.wanted o (yielded ops a.tmps) = true) (s x : Operand)
    (hop : o.op = .call { callee := .builtin .append, args := #[s, x], argTypes := #[25, 25] })
    {base : Nat} {v u : Value} {us : List Value} {ad : Addr} (hs : a.eval s = v) (hx : a.eval x = .slice (some ad) 1 1) (hown : RowS base w v us) (hu : ∃ a n c, u = .slice a n c) (hlen : us.length ≤ 1000000) (hbase : base ≤ w.heap.size) (hc : w.cell? ad = some u)
    (h : ∀ v' w', RowS base w' v' (us ++ [u]) → w.grownBy w' v.ownBlock → (v'.ownBlock = v.ownBlock ∨ v'.ownBlock = some w.heap.size) → K (a.put o.dst v') w') {E : Prop} :
    if Region.wanted o (yielded ops a.tmps) = true then Oper.wpIn F n Tryz.prog o a w K Q else E := by
  rw [if_pos hw]
  obtain ⟨v', w', hrun, r1, r2, r3⟩ := run_append_row o.type hown hu hlen hbase ad hc
  unfold Oper.wpIn
  refine ⟨?_, ?_⟩
  · simp [Oper.about, hop, resolve, Target.leads, Sem.run_pure]
  · rw [Oper.semAt_plain F _ _ (by rw [hop]; intro c hc'; cases hc')]
    simp [execOp, hop, resolve, invoke, builtin, hs, hx, hrun, Result.andThen]
    exact h v' w' r1 r2 r3
theorem cp_round {w W z z' : World} {n3 q O : Nat} {gg : Option Nat} {sv v6 u : Value} {us : List Value} (K5 : Below W.heap.size W z) (r5 : RowS (q + 2) z sv us) (g6 : z.grownBy z' sv.ownBlock) (n6 : v6.ownBlock = sv.ownBlock ∨ v6.ownBlock = some z.heap.size) (r6 : RowS (q + 2) z' v6 (us ++ [u])) (hb : Below q w W) (hg : sv.ownBlock = gg) (hs1 : n3 ≤ W.heap.size) (hqO : q + 1 < O) (hO : O < n3) :
    KeepsFrom n3 W (z'.setCell ⟨O, 1, none⟩ v6) ∧ Kept (fun k => k = O) gg W (z'.setCell ⟨O, 1, none⟩ v6) ∧ Newer W.heap.size (z'.setCell ⟨O, 1, none⟩ v6).heap.size gg v6.ownBlock ∧ n3 ≤ (z'.setCell ⟨O, 1, none⟩ v6).heap.size ∧ Below q w (z'.setCell ⟨O, 1, none⟩ v6) := by
  have h1 := K5.size
  have h2 := g6.size
  have K : Kept (fun k => k = O) gg W (z'.setCell ⟨O, 1, none⟩ v6) := ((Kept.of_below K5).trans (Kept.of_grown g6 (fun k hk => Or.inr ⟨by rw [← hg]; exact hk, cells_of_row r5 hk⟩))).trans (Kept.set (F := fun k => k = O) (p := ⟨O, 1, none⟩) rfl _)
  refine ⟨K.keeps (fun k hk => by have : k = O := hk; omega), K, ?_, by rw [World.size_setCell]; omega, ?_⟩
  · rw [World.size_setCell]
    rcases n6 with e | e
    · exact Or.inl (e.trans hg)
    · exact Or.inr ⟨_, e, h1, (World.ownsRow.lt r6 _ e).2⟩
  · exact ((hb.trans (K5.mono (by omega))).grown g6 (by omega) (fun k hk => by have := RowS.lt r5 k hk; omega)).setCell (p := ⟨O, 1, none⟩) (by show q ≤ O; omega) _
theorem OwB.putD {B D : Nat} {w : World} {hv sv : Value} {h : List Cel} {ss : List (List Cel)} {o' : Obj} (o : OwB B w hv sv h ss) (hD : w.heap[D]? = some (.deferred (some []))) : OwB B (w.putObj D o') hv sv h ss := by
  obtain ⟨us, h1, h2⟩ := o
  have key : ∀ g (o : Obj), w.heap[g]? = some o → o.isCells = true → (w.putObj D o').heap[g]? = w.heap[g]? := fun g o ho hc => World.putObj_heap_other (fun e => by rw [e, hD] at ho; cases ho; cases hc)
  refine ⟨us, row_next h1 fun g hg _ => ?_, ⟨h2.1, fun j u l k1 k2 => row_next (h2.2.1 j u l k1 k2) fun g hg _ => ?_, h2.2.2⟩⟩
  · obtain ⟨o, ho, hc⟩ := cells_own h1 hg; exact key g o ho hc
  · obtain ⟨o, ho, hc⟩ := cells_own (h2.2.1 j u l k1 k2) hg; exact key g o ho hc
end Go.Proofs.YtcloejmakjdgcaaGreat.Cl
namespace Go.Proofs.YtcloejmakjdgcaaGreat.Cl
open Go.RowKit Wd Rp Kp Ra
set_option linter.unusedVariables false
/-- What l6Put makes of Hand. -/
def putQ (h : List Cel) (c : Cel) : List Cel × Bool := if c.ok then (if 200 < (putL h c).length then (h, false) else (putL h c, true)) else (h, false)
/-- What l6Put leaves: the store's block alone has turned. -/
def PqPost (O : Nat) (hv sv : Value) (h : List Cel) (c : Cel) (w : World) (e : Ending) (w' : World) : Prop :=
  e = .returned (.bool (putQ h c).2) ∧ Kept (fun k => k = O) none w w' ∧ ∃ v', Bb O v' sv w' ∧ ((v' = hv ∧ (putQ h c).1 = h) ∨ OwC w.heap.size w' v' (putQ h c).1)
set_option maxRecDepth 100000 in
set_option maxHeartbeats 2000000 in
theorem l6Put_any (w : World) (O : Nat) (ha : Option Addr) (hn hc : Nat) (sv : Value) (h : List Cel) (c : Cel) (hb : Bb O (.slice ha hn hc) sv w) (hhn : h.length = hn) (hv : Vw w ha hc h) (hl : hn ≤ 200) (hm : c.mod) :
    Calls Tryz.prog 94 #[.pointer (some ⟨O, 0, none⟩), .agg #[.string c.r, .string c.b, .int .i64 c.t, .int .i64 c.v, .bool c.g]] w (PqPost O (.slice ha hn hc) sv h c w) := by
  have HV := Lib.hid hv; clear hv
  have HBB := Lib.hid hb; clear hb
  have H0 := Lib.hid (bel1 w (.cells #[.string c.r, .string c.b, .int .i64 c.t, .int .i64 c.v, .bool c.g] 44))
  have F0 := Lib.hid (Cb.made c w 44)
  have HCK := Lib.hid (specCell_any c.r c.b c.t c.v c.g (w.alloc (.cells #[.string c.r, .string c.b, .int .i64 c.t, .int .i64 c.v, .bool c.g] 44)) hm.1 hm.2)
  cases hok : c.ok
  · have HQ := Lib.hid (show putQ h c = (h, false) by unfold putQ; rw [hok]; rfl)
    have HC2 := Lib.hid (show Calls Tryz.prog 92 #[.agg #[.string c.r, .string c.b, .int .i64 c.t, .int .i64 c.v, .bool c.g]] (w.alloc (.cells #[.string c.r, .string c.b, .int .i64 c.t, .int .i64 c.v, .bool c.g] 44)) fun e w' => e = .returned (.bool false) ∧ Below _ _ w' from HCK.out.mono fun e w' ⟨he, hb⟩ => ⟨by rw [he, show cellB c.r c.b c.t c.v c.g = false from hok], hb⟩); clear HCK hok
    go_enter Tryz.func94, Tryz.ntmps94
    go_wp2_with fail
    refine HC2.out.mono ?_; rintro e w1 ⟨rfl, b1⟩
    have B1 := Lib.hid (bel_tr H0.out b1 (Nat.le_refl _)); clear b1
    go_wp2_with fail
    go_ret
    exact ⟨by rw [HQ.out]; rfl, Kept.of_below B1.out, _, HBB.out.next B1.out, Or.inl ⟨rfl, by rw [HQ.out]⟩⟩
  · have HC2 := Lib.hid (show Calls Tryz.prog 92 #[.agg #[.string c.r, .string c.b, .int .i64 c.t, .int .i64 c.v, .bool c.g]] (w.alloc (.cells #[.string c.r, .string c.b, .int .i64 c.t, .int .i64 c.v, .bool c.g] 44)) fun e w' => e = .returned (.bool true) ∧ Below _ _ w' from HCK.out.mono fun e w' ⟨he, hb⟩ => ⟨by rw [he, show cellB c.r c.b c.t c.v c.g = true from hok], hb⟩); clear HCK
    have hp2 : 200 < (putL h c).length ∨ ¬ 200 < (putL h c).length := Nat.lt_or_ge _ _ |>.imp id (fun h => Nat.not_lt.2 h)
    have HQ := Lib.hid (show putQ h c = if 200 < (putL h c).length then (h, false) else (putL h c, true) by unfold putQ; rw [hok]; rfl)
    clear hok
    go_enter Tryz.func94, Tryz.ntmps94
    go_wp2_with fail
    refine HC2.out.mono ?_; rintro e w1 ⟨rfl, b1⟩
    have B1 := Lib.hid (bel_tr H0.out b1 (Nat.le_refl _))
    have BB1 := Lib.hid (HBB.out.next B1.out)
    have CB1 := Lib.hid (F0.out.next b1); clear b1
    obtain ⟨h0, -, -, -, hO'⟩ := id BB1.out
    obtain ⟨⟨c0, c1, c2, c3, c4⟩, -, hq'⟩ := id CB1.out
    generalize hqq : w.heap.size = q at *
    have HQQ := Lib.hid hqq; clear hqq
    have HP := Lib.hid (fun z (hz : Below w1.heap.size w1 z) => l4Put_any' z ha hc h c hn hhn (HV.out.below (show Below w.heap.size w z by rw [HQQ.out]; exact bel_tr B1.out hz (Nat.le_of_eq HQQ.out.symm))) (by omega))
    have SOF := Lib.hid (show ∀ z, Below w1.heap.size w1 z → (z.cell? ⟨O, 0, none⟩ = some (.slice ha hn hc) ∧ z.cell? ⟨q, 0, none⟩ = some (.string c.r) ∧ z.cell? ⟨q, 1, none⟩ = some (.string c.b) ∧ z.cell? ⟨q, 2, none⟩ = some (.int .i64 c.t) ∧ z.cell? ⟨q, 3, none⟩ = some (.int .i64 c.v) ∧ z.cell? ⟨q, 4, none⟩ = some (.bool c.g) ∧ Below w1.heap.size w1 z) from fun z hz => ⟨coc hz hO' h0, coc hz hq' c0, coc hz hq' c1, coc hz hq' c2, coc hz hq' c3, coc hz hq' c4,  hz⟩)
    clear h0 c0 c1 c2 c3 c4
    go_wp2_with fail
    · skip
      refine wp_region_held_drew (S := fun z => z.cell? ⟨O, 0, none⟩ = some (.slice ha hn hc) ∧ z.cell? ⟨q, 0, none⟩ = some (.string c.r) ∧ z.cell? ⟨q, 1, none⟩ = some (.string c.b) ∧ z.cell? ⟨q, 2, none⟩ = some (.int .i64 c.t) ∧ z.cell? ⟨q, 3, none⟩ = some (.int .i64 c.v) ∧ z.cell? ⟨q, 4, none⟩ = some (.bool c.g) ∧ Below w1.heap.size w1 z) (by kernel_rfl) (SOF.out _ (Below.refl _ _).drew) (fun hHeld => ?_)
      refine wpAnyH_take (i := 0) (v := ?v0p) rfl (by kernel_rfl) (by kernel_rfl) (by kernel_rfl) (fun _ _ _ h => h) (Or.inl ⟨by rfl, ?hy0p⟩) (by assumption) ?rest0p
      case hy0p => (intro zz hSw; (try dsimp only at hSw); go_simp; (try with_reducible rfl))
      change wpAnyH _ _ _ _ _ _ _ (Act.put _ (some 9) _) _
      simp only [Act.put, List.setIfInBounds_toArray, List.set_cons_zero, List.set_cons_succ]
      refine wpAnyH_take (i := 1) (v := ?v1p) rfl (by kernel_rfl) (by kernel_rfl) (by kernel_rfl) (fun _ _ _ h => h) (Or.inl ⟨by rfl, ?hy1p⟩) (by assumption) ?rest1p
      case hy1p => (intro zz hSw; (try dsimp only at hSw); go_simp; (try with_reducible rfl))
      change wpAnyH _ _ _ _ _ _ _ (Act.put _ (some 10) _) _
      simp only [Act.put, List.setIfInBounds_toArray, List.set_cons_zero, List.set_cons_succ]
      refine wpAnyH_take (i := 2) (v := ?v2p) rfl (by kernel_rfl) (by kernel_rfl) (by kernel_rfl) (fun _ _ _ h => h) (Or.inl ⟨by rfl, ?hy2p⟩) (by assumption) ?rest2p
      case hy2p => (intro zz hSw; (try dsimp only at hSw); go_simp; (try with_reducible rfl))
      change wpAnyH _ _ _ _ _ _ _ (Act.put _ (some 11) _) _
      simp only [Act.put, List.setIfInBounds_toArray, List.set_cons_zero, List.set_cons_succ]
      refine wpAnyH_take (i := 3) (v := ?v3p) rfl (by kernel_rfl) (by kernel_rfl) (by kernel_rfl) (fun _ _ _ h => h) (Or.inl ⟨by rfl, ?hy3p⟩) (by assumption) ?rest3p
      case hy3p => (intro zz hSw; (try dsimp only at hSw); go_simp; (try with_reducible rfl))
      change wpAnyH _ _ _ _ _ _ _ (Act.put _ (some 12) _) _
      simp only [Act.put, List.setIfInBounds_toArray, List.set_cons_zero, List.set_cons_succ]
      refine wpAnyH_take (i := 4) (v := ?v4p) rfl (by kernel_rfl) (by kernel_rfl) (by kernel_rfl) (fun _ _ _ h => h) (Or.inl ⟨by rfl, ?hy4p⟩) (by assumption) ?rest4p
      case hy4p => (intro zz hSw; (try dsimp only at hSw); go_simp; (try with_reducible rfl))
      change wpAnyH _ _ _ _ _ _ _ (Act.put _ (some 13) _) _
      simp only [Act.put, List.setIfInBounds_toArray, List.set_cons_zero, List.set_cons_succ]
      refine wpAnyH_ready (rs := [5]) (by kernel_rfl) (by simp) (AllReadyH.cons rfl (fun K hK => ?_) AllReadyH.nil)
      go_simp
      refine (HP.out _ hHeld.2.2.2.2.2.2).mono ?_; rintro e w5 ⟨v5, rfl, o5, bel⟩; have O5 := Lib.hid o5; clear o5
      refine hK.out _ _ (SOF.out _ (bel_tr hHeld.2.2.2.2.2.2 bel (Nat.le_refl _))) (fun hHeld => ?_)
      clear hK K bel
      refine wpAnyH_take (i := 6) (v := ?v6p) rfl (by kernel_rfl) (by kernel_rfl) (by kernel_rfl) (fun _ _ _ h => h) (Or.inl ⟨by rfl, ?hy6p⟩) (by assumption) ?rest6p
      case hy6p => (intro zz hSw; (try dsimp only at hSw); go_simp; (try with_reducible rfl))
      change wpAnyH _ _ _ _ _ _ _ (Act.put _ (some 5) _) _
      simp only [Act.put, List.setIfInBounds_toArray, List.set_cons_zero, List.set_cons_succ]
      refine wpAnyH_done (by kernel_rfl) ?_ _
      have BX := Lib.hid hHeld.2.2.2.2.2.2; clear hHeld SOF
      have B5 := Lib.hid (bel_tr B1.out BX.out (Nat.le_of_eq HQQ.out.symm))
      have BB5 := Lib.hid (BB1.out.next BX.out)
      obtain ⟨va, vc, rfl, -, -⟩ := O5.out.view
      rcases hp2 with hb2 | hb2
      · have HQ2 := Lib.hid (show putQ h c = (h, false) by rw [HQ.out, if_pos hb2])
        have z1 : (200 : Int) < ((putL h c).length : Int) := by omega
        generalize (putL h c).length = pl at *
        go_wp2_with fail
        go_ret
        exact ⟨by rw [HQ2.out]; rfl, Kept.of_below (show Below w.heap.size w w5 by rw [HQQ.out]; exact B5.out), _, BB5.out, Or.inl ⟨rfl, by rw [HQ2.out]⟩⟩
      · have HQ2 := Lib.hid (show putQ h c = (putL h c, true) by rw [HQ.out, if_neg hb2])
        have z1 : ¬ (200 : Int) < ((putL h c).length : Int) := by omega
        have hOw : O < w.heap.size := HBB.out.2.2.2.2
        have OW := Lib.hid (show OwC w.heap.size w5 (.slice va (putL h c).length vc) (putL h c) from O5.out.mono B1.out.size)
        generalize (putL h c).length = pl at *
        obtain ⟨y0, y1, y2, y3, y4⟩ := id BB5.out
        go_wp2_with fail
        go_ret
        refine ⟨by rw [HQ2.out]; rfl, (Kept.of_below (show Below w.heap.size w w5 by rw [HQQ.out]; exact B5.out)).trans (Kept.set (F := fun k => k = O) (p := ⟨O, 0, none⟩) rfl _), _, BB5.out.set0 _, Or.inr ?_⟩
        rw [HQ2.out]
        exact OW.out.put (p := ⟨O, 0, none⟩) hOw _
end Go.Proofs.YtcloejmakjdgcaaGreat.Cl
