/-
  Statements in memory: 'Dv', rows of them, what they read ('DdM', 'DM').
-/
import Derived.Test.YtkhmbmcomgclaaaDoorNa
namespace Go.Proofs.YtkhmbmcomgclaaaDoor.Cl
open Go.RowKit Wd Rp Cu Kp
set_option linter.unusedVariables false
/-- A statement in memory: its head, its name, the slice of its expression, the slice of its blocks. -/
structure Dv where
  h : Tk
  n : Tk
  sa : Option Addr
  sn : Nat
  sc : Nat
  ba : Option Addr
  bn : Nat
  bc : Nat
def Dv.cells (d : Dv) : List Value := [.string (tx d.h), .string (tx d.n), .slice d.sa d.sn d.sc, .slice d.ba d.bn d.bc]
def Dv.v (d : Dv) : Value := .agg #[.string (tx d.h), .string (tx d.n), .slice d.sa d.sn d.sc, .slice d.ba d.bn d.bc]
def flatD (ds : List Dv) : List Value := ds.flatMap Dv.cells
theorem flatD_len (ds : List Dv) : (flatD ds).length = ds.length * 4 := by
  induction ds with
  | nil => rfl
  | cons d ds ih => unfold flatD at *; rw [List.flatMap_cons, List.length_append, ih, List.length_cons]; simp [Dv.cells]; omega
theorem flatD_app (l m : List Dv) : flatD (l ++ m) = flatD l ++ flatD m := List.flatMap_append
theorem flatD_one : ∀ (l : List Dv), ∀ u ∈ flatD l, u.oneCell' = true := fun l u hu => by
  unfold flatD at hu
  rw [List.mem_flatMap] at hu
  obtain ⟨d, -, h⟩ := hu
  simp [Dv.cells] at h
  rcases h with rfl | rfl | rfl | rfl <;> rfl
theorem flatD_get {ds : List Dv} {k : Nat} {d : Dv} (h : ds[k]? = some d) {j : Nat} {x : Value} (hj : d.cells[j]? = some x) : (flatD ds)[k * 4 + j]? = some x := by
  induction ds generalizing k with
  | nil => simp at h
  | cons e ds ih =>
    have hl : e.cells.length = 4 := rfl
    have hjl : j < 4 := (List.getElem?_eq_some_iff.1 hj).1
    unfold flatD at *
    rw [List.flatMap_cons]
    cases k with
    | zero =>
      simp at h; subst h
      rw [Nat.zero_mul, Nat.zero_add, List.getElem?_append_left (by omega)]; exact hj
    | succ k =>
      rw [List.getElem?_append_right (by omega), hl, show (k + 1) * 4 + j - 4 = k * 4 + j by omega]
      exact ih (by simpa using h)
/-- Statements in a row of a call's own. -/
def OwD (B : Nat) (w : World) (v : Value) (ds : List Dv) : Prop := w.ownsRow B 39 4 v ds.length (flatD ds)
theorem OwD.lt {B : Nat} {w : World} {v : Value} {l : List Dv} (h : OwD B w v l) : ∀ k, v.ownBlock = some k → B ≤ k := fun k hk => (World.ownsRow.lt h k hk).1
theorem OwD.low {B : Nat} {w : World} {v : Value} {l : List Dv} (h : OwD B w v l) : ∀ k, v.ownBlock = some k → k < w.heap.size := fun k hk => (World.ownsRow.lt h k hk).2
theorem OwD.same {B : Nat} {w w' : World} {v : Value} {l : List Dv} (h : OwD B w v l) (he : ∀ k, v.ownBlock = some k → w'.heap[k]? = w.heap[k]?) : OwD B w' v l := row_next h fun g hg _ => he g hg
theorem OwD.mono {B C : Nat} {w : World} {v : Value} {l : List Dv} (h : OwD B w v l) (hC : ∀ k, v.ownBlock = some k → C ≤ k) : OwD C w v l := by
  obtain ⟨h1, h2⟩ := h
  refine ⟨h1, ?_⟩
  rcases h2 with h2 | ⟨g, cap, cur, rfl, hB, h3⟩
  · exact .inl h2
  · exact .inr ⟨g, cap, cur, rfl, hC g rfl, h3⟩
theorem OwD.form {B : Nat} {w : World} {v : Value} {l : List Dv} (h : OwD B w v l) : ∃ a cap, v = .slice a l.length cap ∧ l.length ≤ cap ∧ cap ≤ maxLen := by
  rcases h.2 with ⟨rfl, hn⟩ | ⟨g, cap, cur, rfl, hB, hg, hn, hc, -⟩
  · exact ⟨none, 0, by rw [hn], by omega, by decide⟩
  · exact ⟨_, cap, rfl, hn, hc⟩
theorem OwD.cell {B : Nat} {w : World} {v : Value} {l : List Dv} (h : OwD B w v l) {k : Nat} {d : Dv} (hk : l[k]? = some d) : ∃ g cap, v = .slice (some ⟨g, 0, none⟩) l.length cap ∧ g < w.heap.size ∧ ∀ j x, d.cells[j]? = some x → w.cell? ⟨g, k * 4 + j, none⟩ = some x := by
  have hkl := (List.getElem?_eq_some_iff.1 hk).1
  rcases h.2 with ⟨rfl, hn⟩ | ⟨g, cap, cur, rfl, hB, hg, hn, hc, hsz, hxs⟩
  · omega
  · refine ⟨g, cap, rfl, (Array.getElem?_eq_some_iff.1 hg).1, fun j x hj => ?_⟩
    have hjl : j < 4 := (List.getElem?_eq_some_iff.1 hj).1
    have e1 := flatD_get hk hj
    rw [← hxs, List.getElem?_take_of_lt (by omega)] at e1
    rw [← e1]
    simp [World.cell?, hg]
theorem OwD.nothing (B : Nat) (w : World) : OwD B w (.slice none 0 0) [] := World.ownsRow_nil w B _ _
theorem infoD : (Tryd.prog.info? 39).map (fun i => (i.zero, i.size, i.bytes)) = some (some (.agg #[.string ⟨#[]⟩, .string ⟨#[]⟩, .slice none 0 0, .slice none 0 0]), 4, 80) := by kernel_rfl
/-- A slice that reads as so many statements. -/
def VD (w : World) (a : Option Addr) (cap : Nat) (ds : List Dv) : Prop := ds.length ≤ cap ∧ cap ≤ maxLen ∧ (a = none → cap = 0) ∧ ∀ k x, (flatD ds)[k]? = some x → ∃ g o, a = some ⟨g, o, none⟩ ∧ g < w.heap.size ∧ w.cell? ⟨g, o + k, none⟩ = some x
theorem vd_cells {w : World} {ad : Addr} {cap : Nat} {m : List Dv} (h : VD w (some ad) cap m) : ∀ j u, (flatD m)[j]? = some u → w.cell? (ad.add j) = some u := fun j u hj => by
  obtain ⟨g, o, e, -, hc⟩ := h.2.2.2 j u hj
  cases e
  have hadd : (⟨g, o, none⟩ : Addr).add j = ⟨g, o + j, none⟩ := by cases j <;> simp [Addr.add]
  rw [hadd]; exact hc
theorem OwD.view {B : Nat} {w : World} {v : Value} {l : List Dv} (h : OwD B w v l) : ∃ a cap, v = .slice a l.length cap ∧ VD w a cap l := by
  rcases h.2 with ⟨rfl, hn⟩ | ⟨g, cap, cur, rfl, hB, hg, hn, hc, hsz, hxs⟩
  · refine ⟨none, 0, by rw [hn], by omega, by decide, fun _ => rfl, fun k c hk => ?_⟩
    have := (List.getElem?_eq_some_iff.1 hk).1
    rw [flatD_len] at this; omega
  · refine ⟨_, cap, rfl, hn, hc, (fun e => by cases e), fun k c hk => ⟨g, 0, rfl, (Array.getElem?_eq_some_iff.1 hg).1, ?_⟩⟩
    have hkl := (List.getElem?_eq_some_iff.1 hk).1
    rw [flatD_len] at hkl
    have e1 := hk
    rw [← hxs, List.getElem?_take_of_lt (by omega)] at e1
    rw [← e1, Nat.zero_add]
    simp [World.cell?, hg]
theorem run_append_deeds {w : World} {base : Nat} {v : Value} {a : Option Addr} {cap : Nat} {l m : List Dv} (ty : TypeId) (hown : OwD base w v l) (hy : VD w a cap m) (hlen : l.length + m.length ≤ 10000000) (hbase : base ≤ w.heap.size) :
    ∃ v' w', (Builtin.append_ #[41, 41] ty #[v, .slice a m.length cap]).run Tryd.prog w = .ok v' w' ∧ OwD base w' v' (l ++ m) ∧ w.grownBy w' v.ownBlock ∧ (v'.ownBlock = v.ownBlock ∨ v'.ownBlock = some w.heap.size) := by
  obtain ⟨i0, hi, hz0, hz1, hz2⟩ := info_parts infoD
  cases a with
  | none =>
    have hc := hy.2.2.1 rfl
    have hm : m = [] := List.length_eq_zero_iff.1 (by have := hy.1; omega)
    subst hm hc
    rw [List.append_nil]
    exact ⟨v, w, run_append_owned_none w base 41 ty 39 i0 4 Tryd.underlying41 hi v _ _ hown, hown, World.grownBy.refl _ _, Or.inl rfl⟩
  | some ad =>
    obtain ⟨v', w', hr, h2, h3, h4, h5⟩ := run_append_own_at (P := Tryd.prog) w base 41 ty 39 i0 _ 4 80 Tryd.underlying41 hi hz0 hz1 hz2 rfl (by decide) v l.length (flatD l) hown
      ad m.length cap (flatD m) (flatD_len m) (vd_cells hy) (flatD_one m) (by unfold maxLen; omega) (by omega) hbase
    refine ⟨v', w', hr, ?_, h3, h5⟩
    unfold OwD
    rw [List.length_append, flatD_app]; exact h2
theorem step_append_deeds {ops : Array Oper} {o : Oper} {a : Act} {Q : Exit → Act → World → Prop} {K : Act → World → Prop} {w : World} (hw : Region.wanted o (yielded ops a.tmps) = true) (s x : Operand)
    (ho : o.op = .call { callee := .builtin .append, args := #[s, x], argTypes := #[41, 41] })
    {base : Nat} {v : Value} {ad : Option Addr} {cap n : Nat} {l m : List Dv} (hs : a.eval s = v) (hx : a.eval x = .slice ad n cap) (hmn : m.length = n) (hown : OwD base w v l) (hy : VD w ad cap m) (hlen : l.length + m.length ≤ 10000000) (hbase : base ≤ w.heap.size)
    (h : ∀ v' w', OwD base w' v' (l ++ m) → w.grownBy w' v.ownBlock → (v'.ownBlock = v.ownBlock ∨ v'.ownBlock = some w.heap.size) → K (a.put o.dst v') w') :
    if Region.wanted o (yielded ops a.tmps) = true then Oper.wp Tryd.prog o a w K Q else K (a.put o.dst undef) w := by
  rw [if_pos hw]
  subst hmn
  obtain ⟨v', w', hr, h2, h3, h4⟩ := run_append_deeds o.type hown hy hlen hbase
  unfold Oper.wp execOp
  simp only [ho, resolve, invoke, builtin, Sem.run_bind, Sem.run_pure, Result.andThen_ok, List.map_toArray, List.map_cons, List.map_nil, hs, hx, hr]
  exact h v' w' h2 h3 h4
/-- What a statement in memory reads: its name and its expression, then what its blocks read. -/
def DdM (w0 : World) (K : Nat → Prop) (w : World) (sub : Value → List Rc → Prop) (d : Dv) (f : List Rc) : Prop :=
  ∃ (sm : List Tk) (bs : List Value) (gs : List (List Rc)), d.sn = sm.length ∧ V1 w0 d.sa d.sc (txL sm) ∧ d.bn = bs.length ∧ V1 w d.ba d.bc bs ∧ (∀ g o, d.ba = some ⟨g, o, none⟩ → K g ∧ g < w.heap.size) ∧ bs.length = gs.length ∧
    (∀ (k : Nat) (b : Value) (g : List Rc), bs[k]? = some b → gs[k]? = some g → sub b g) ∧ f = (d.n, sm) :: gs.flatten
/-- What a slice of statements reads, brackets so deep. -/
def DM (w0 : World) (K : Nat → Prop) (w : World) : Nat → Value → List Rc → Prop
  | 0 => fun _ _ => False
  | D + 1 => fun v F => ∃ (ds : List Dv) (fs : List (List Rc)), OwD 0 w v ds ∧ (∀ k, v.ownBlock = some k → K k) ∧ ds.length = fs.length ∧ (∀ (k : Nat) (d : Dv) (f : List Rc), ds[k]? = some d → fs[k]? = some f → DdM w0 K w (DM w0 K w D) d f) ∧ F = fs.flatten
theorem V1.keep {w w' : World} {a : Option Addr} {cap : Nat} {l : List Value} (h : V1 w a cap l) (hs : w.heap.size ≤ w'.heap.size) (hk : ∀ g o, a = some ⟨g, o, none⟩ → g < w.heap.size → w'.heap[g]? = w.heap[g]?) : V1 w' a cap l := by
  obtain ⟨h1, h2, h3, h4⟩ := h
  refine ⟨h1, h2, h3, fun k c hc => ?_⟩
  obtain ⟨g, o, e, hg, hx⟩ := h4 k c hc
  exact ⟨g, o, e, Nat.lt_of_lt_of_le hg hs, (World.cell?_of_block (w := w) (hk g o e hg)).trans hx⟩
theorem DdM.keep {w0 w w' : World} {K K' : Nat → Prop} (hs : w.heap.size ≤ w'.heap.size) (hk : ∀ g, K g → g < w.heap.size → w'.heap[g]? = w.heap[g]?) (hK : ∀ g, K g → g < w.heap.size → K' g) {sub sub' : Value → List Rc → Prop} (hsub : ∀ v f, sub v f → sub' v f) {d : Dv} {f : List Rc} (h : DdM w0 K w sub d f) : DdM w0 K' w' sub' d f := by
  obtain ⟨sm, bs, gs, h1, h2, h3, h4, h5, h6, h7, h8⟩ := h
  exact ⟨sm, bs, gs, h1, h2, h3, h4.keep hs (fun g o e hg => hk g (h5 g o e).1 hg), (fun g o e => ⟨hK g (h5 g o e).1 (h5 g o e).2, Nat.lt_of_lt_of_le (h5 g o e).2 hs⟩), h6, fun k b g hb hg => hsub _ _ (h7 k b g hb hg), h8⟩
theorem DM.keep {w0 w w' : World} {K K' : Nat → Prop} (hs : w.heap.size ≤ w'.heap.size) (hk : ∀ g, K g → g < w.heap.size → w'.heap[g]? = w.heap[g]?) (hK : ∀ g, K g → g < w.heap.size → K' g) : ∀ (D : Nat) (v : Value) (F : List Rc), DM w0 K w D v F → DM w0 K' w' D v F
  | 0, v, F, h => by cases h
  | D + 1, v, F, h => by
    obtain ⟨ds, fs, h1, h2, h3, h4, h5⟩ := h
    exact ⟨ds, fs, h1.same fun k hk' => hk k (h2 k hk') (h1.low k hk'), fun k hk' => hK k (h2 k hk') (h1.low k hk'), h3, fun k d f hd hf => (h4 k d f hd hf).keep hs hk hK (fun v f => DM.keep hs hk hK D v f), h5⟩
theorem append_deeds {ops : Array Oper} {rest : List Oper} {o : Oper} {a : Act} {Q : Exit → Act → World → Prop} {w : World} (hw : Region.wanted o (yielded ops a.tmps) = true) (s x : Operand)
    (ho : o.op = .call { callee := .builtin .append, args := #[s, x], argTypes := #[41, 41] })
    {base : Nat} {v : Value} {ad : Option Addr} {cap n : Nat} {l m : List Dv} (hs : a.eval s = v) (hx : a.eval x = .slice ad n cap) (hmn : m.length = n) (hown : OwD base w v l) (hy : VD w ad cap m) (hlen : l.length + m.length ≤ 10000000) (hbase : base ≤ w.heap.size)
    (h : ∀ v' w', OwD base w' v' (l ++ m) → w.grownBy w' v.ownBlock → (v'.ownBlock = v.ownBlock ∨ v'.ownBlock = some w.heap.size) → wpList Tryd.prog ops Q rest (a.put o.dst v') w') : wpList Tryd.prog ops Q (o :: rest) a w := by
  refine BigFrame.wpList_want hw fun K hK => ?_
  subst hmn
  obtain ⟨v', w', hr, h2, h3, h4⟩ := run_append_deeds o.type hown hy hlen hbase
  unfold Oper.wp execOp
  simp only [ho, resolve, invoke, builtin, Sem.run_bind, Sem.run_pure, Result.andThen_ok, List.map_toArray, List.map_cons, List.map_nil, hs, hx, hr]
  exact hK _ _ (h v' w' h2 h3 h4)
theorem litD (w : World) (d : Dv) : VD (w.alloc (.cells #[.string (tx d.h), .string (tx d.n), .slice d.sa d.sn d.sc, .slice d.ba d.bn d.bc] 39)) (some ⟨w.heap.size, 0, none⟩) 1 [d] := by
  have h := World.ownsRow_lit (base := 0) (e := 39) (size := 4) w #[.string (tx d.h), .string (tx d.n), .slice d.sa d.sn d.sc, .slice d.ba d.bn d.bc] 1 (Nat.zero_le _) (by decide) rfl
  obtain ⟨a, cap, e, hv⟩ := OwD.view (B := 0) (l := [d]) h
  cases e
  exact hv
end Go.Proofs.YtkhmbmcomgclaaaDoor.Cl
