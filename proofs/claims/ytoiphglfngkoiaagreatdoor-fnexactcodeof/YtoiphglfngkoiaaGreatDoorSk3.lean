/-
  Texts of mine, joined (part 3 of 7): what the law at hand reaches of them; each text's own words stand in the verifier's repo.
-/
import Derived.Test.YtoiphglfngkoiaaGreatDoorSk2
import Derived.Test.YtoiphglfngkoiaaGreatDoorRows
import Derived.WalkKit
import Derived.IntWalk
import Derived.Laws.Bits128
import Derived.Lib.Hide
import Derived.Lib.ParseIntBTie
import Derived.Lib.ParseIntBCases
import Derived.Lib.ItoaMem
import Derived.Lib.IndexMore
import Derived.Lib.Repeat
import Derived.WalkSpells
import Derived.Below
import Derived.Carry
import Derived.WalkSmall
import Derived.Laws.Closers25b
import Derived.Lib.Strings
import Derived.Lib.SmallJoins
import Derived.Lib.AppendIntMem
import Derived.Maps.AppendAt
import Derived.OwnWalk
import Derived.WalkLawsBesides
import Derived.Deep.QuietTactic
import Derived.BigQuiet
import Derived.Deep.RegionHeld3
import Derived.Laws.OwnMore
import Derived.Laws.StructEq
import Derived.BigFrame
import Derived.Deep.Upon
import Derived.Laws.CopyRow
import Derived.Laws.BytesArg
import Derived.RowKit3
import Derived.Shelf.Strconv.Itoa4
import Derived.Shelf.Strconv.ParseIntPublic10
import Derived.Shelf.Strconv.ErrVarParseInt
import Derived.Test.YtoiphglfngkoiaaGreatDoorProg
import Derived.LaidMore
import Derived.Stop.LaidErr
import Derived.Lib.LaidTab
import Derived.Deep.LoopGhost
import Derived.RangeFuncWrites
import Derived.RangeFuncCalls
import Derived.RangeFuncBox
import Derived.RangeFuncNested
import Derived.RangeFuncLeaves
import Derived.Shelf.Abstract
import Derived.Shelf.RegionOpen
import Derived.OwnWalkIn
import Derived.TacticsInMore
import Derived.LoopNIn
import Derived.LoopIn
import Derived.Lib.AtoiErrMem
import Derived.OpenShut
import Derived.Lib.ConvBytes
import Derived.Deep.RegionLaw
import Derived.Deep.AppendLies
import Derived.Lib.AppendZeros
import Derived.ProofKit
import Derived.Handed
import Derived.SizedLaws
import Derived.ShutString
import Derived.Deep.Slices
import Derived.Deep.Fields
import Derived.ChangeSame
namespace Go.Proofs.YtoiphglfngkoiaaGreatDoor.Cl
set_option linter.unusedVariables false
open Go.RowKit Wd Rp Kp Ra Go.Shelf
attribute [local go_sem] Oper.semAt_some
theorem cells_of_row {w : World} {B k n q : Nat} {e : TypeId} {v : Value} {xs : List Value} (h : w.ownsRow B e k v n xs) (hk : v.ownBlock = some q) : ∀ o, w.heap[q]? = some o → o.isCells = true := fun o ho => by
  obtain ⟨-, h2⟩ := h
  rcases h2 with ⟨rfl, -⟩ | ⟨g, cap, cur, rfl, -, hg, -⟩
  · cases hk
  · cases hk
    rw [hg] at ho; cases ho; rfl
def Bq (q : Nat) (v : Value) (w : World) : Prop := w.cell? ⟨q, 0, none⟩ = some v ∧ w.frozen? ⟨q, 0, none⟩ = false ∧ q < w.heap.size
theorem Bq.of {q T : Nat} {v : Value} {w : World} (e : w.heap[q]? = some (.cells #[v] T (0, 0))) : Bq q v w := ⟨by simp only [World.cell?, e]; rfl, by simp only [World.frozen?, e]; rfl, (Array.getElem?_eq_some_iff.1 e).1⟩
theorem Bq.same {q : Nat} {v : Value} {w w' : World} (h : Bq q v w) (e : w'.heap[q]? = w.heap[q]?) : Bq q v w' := by
  refine ⟨(World.cell?_of_block (w := w) e).trans h.1, ?_, ?_⟩
  · have := h.2.1; unfold World.frozen? at this ⊢; rw [e]; exact this
  · have h3 := h.2.2
    rcases Nat.lt_or_ge q w'.heap.size with h4 | h4
    · exact h4
    · rw [Array.getElem?_eq_none h4] at e; have := Array.getElem?_eq_none_iff.1 e.symm; omega
theorem Bq.drew {q : Nat} {v : Value} {w : World} (h : Bq q v w) : Bq q v w.drew := h
theorem Bq.set {q : Nat} {v : Value} {w : World} (h : Bq q v w) (x : Value) : Bq q x (w.setCell ⟨q, 0, none⟩ x) := ⟨World.cell?_setCell_same' _ _ _ (by rw [h.1]; rfl), by rw [World.frozen?_setCell]; exact h.2.1, by rw [World.size_setCell]; exact h.2.2⟩
theorem Bq.next {q : Nat} {v : Value} {w w' : World} (h : Bq q v w) (hb : Below w.heap.size w w') : Bq q v w' := h.same (hb.block q h.2.2)
theorem gcellq {w w' : World} {row : Option Nat} {q : Nat} {v : Value} (h : w.grownBy w' row) (hp : q < w.heap.size) (hne : some q ≠ row) (hc : w.cell? ⟨q, 0, none⟩ = some v) : w'.cell? ⟨q, 0, none⟩ = some v := (World.cell?_of_block (w := w) (h.block _ hp hne)).trans hc
theorem csetq {w : World} {p r o : Nat} {v x : Value} (h : p ≠ r) (hc : w.cell? ⟨p, 0, none⟩ = some v) : (w.setCell ⟨r, o, none⟩ x).cell? ⟨p, 0, none⟩ = some v := (World.cell?_of_block (w := w) (Below.heap_setCell _ _ _ p (fun e => h e))).trans hc
theorem grown_setq {w : World} {g o : Nat} {v : Value} : w.grownBy (w.setCell ⟨g, o, none⟩ v) (some g) := ⟨rfl, rfl, rfl, by rw [World.size_setCell]; exact Nat.le_refl _, fun k hk hne => Below.heap_setCell _ _ _ k (fun e => hne (by rw [e]))⟩
theorem step_append_row {ops : Array Oper} {o : Oper} {a : Act} {Q : Exit → Act → World → Prop} {K : Act → World → Prop} {w : World} (hw : Region.wanted o (yielded ops a.tmps) = true) (s x : Operand) (S E : TypeId) (i0 : TypeInfo) (z : Value) (size bytes : Nat)
    (hS : Tryz.prog.underlying S = some (.slice E)) (hi : Tryz.prog.info? E = some i0) (hz : i0.zero = some z) (hsz : i0.size = size) (hby : i0.bytes = bytes) (hzs : z.cells.size = size) (h0 : 0 < size)
    (ho : o.op = .call { callee := .builtin .append, args := #[s, x], argTypes := #[S, S] })
    {base : Nat} {v : Value} {ad : Addr} {cap n m : Nat} {xs news : List Value} (hs : a.eval s = v) (hx : a.eval x = .slice (some ad) m cap) (hown : w.ownsRow base E size v n xs) (hl : news.length = m * size) (hnews : ∀ j u, news[j]? = some u → w.cell? (ad.add j) = some u) (h1 : ∀ u ∈ news, u.oneCell' = true)
    (h63 : n + m ≤ maxLen) (hbytes : (n + m) * bytes ≤ 140737488355328) (hbase : base ≤ w.heap.size)
    (h : ∀ v' w', w'.ownsRow base E size v' (n + m) (xs ++ news) → w.grownBy w' v.ownBlock → (v'.ownBlock = v.ownBlock ∨ v'.ownBlock = some w.heap.size) → K (a.put o.dst v') w') :
    if Region.wanted o (yielded ops a.tmps) = true then Oper.wp Tryz.prog o a w K Q else K (a.put o.dst undef) w := by
  rw [if_pos hw]
  obtain ⟨v', w', hr, h2, h3, h4, h5⟩ := run_append_own_at (P := Tryz.prog) w base S o.type E i0 z size bytes hS hi hz hsz hby hzs h0 v n xs hown ad m cap news hl hnews h1 h63 hbytes hbase
  unfold Oper.wp execOp
  simp only [ho, resolve, invoke, builtin, Sem.run_bind, Sem.run_pure, Result.andThen_ok, List.map_toArray, List.map_cons, List.map_nil, hs, hx, hr]
  exact h v' w' h2 h3 h5
def Fld {R : Type} (T : TypeId) (K : Nat) (cs : R → List Value) (P : Nat → List R) (q M n0 : Nat) (F1 F2 : Value) (w W0 : World) (s : List (Array Value) × Option Nat) (W : World) : Prop :=
  n0 ≤ W.heap.size ∧ ∃ sv, Bq M sv W ∧ W.ownsRow n0 T K sv (P s.1.length).length ((P s.1.length).flatMap cs) ∧ sv.ownBlock = s.2 ∧ Below q w W ∧ W.cell? ⟨q, 0, none⟩ = some F1 ∧ W.cell? ⟨q + 1, 0, none⟩ = some F2 ∧ ∀ k, k < n0 → k ≠ M → W.heap[k]? = W0.heap[k]?
theorem fl_end {R : Type} {T : TypeId} {K : Nat} {cs : R → List Value} {P : Nat → List R} {q M n0 : Nat} {F1 F2 : Value} {w W0 W w5 w8 : World} {pre : List (Array Value)} {x : Array Value} {sv nv : Value} {gg : Option Nat} {n m : Nat} {xs ys : List Value} (a : Act)
    (hb : Below W.heap.size W w5) (hs1 : n0 ≤ W.heap.size) (ho : Bq M sv W) (hr : W.ownsRow n0 T K sv n xs) (hg : sv.ownBlock = gg) (hw : Below q w W) (hc0 : W.cell? ⟨q, 0, none⟩ = some F1) (hc1 : W.cell? ⟨q + 1, 0, none⟩ = some F2) (hsm : ∀ k, k < n0 → k ≠ M → W.heap[k]? = W0.heap[k]?) (hM : M < n0) (hqM : q + 1 < M)
    (h8 : w8.ownsRow n0 T K nv m ys) (g8 : w5.grownBy w8 sv.ownBlock) (n8 : nv.ownBlock = sv.ownBlock ∨ nv.ownBlock = some w5.heap.size) (hm : (P (pre.length + 1)).length = m) (hys : (P (pre.length + 1)).flatMap cs = ys) :
    Rounds2 n0 (fun k => k = M) (Fld T K cs P q M n0 F1 F2 w W0) (fun _ _ _ => False) (pre ++ [x]) gg W .normal a (w8.setCell ⟨M, 0, none⟩ nv) := by
  have hr5 : w5.ownsRow n0 T K sv n xs := row_next hr fun g _ hg => hb.block g hg
  have K5 : Kept (fun k => k = M) gg W w5 := Kept.of_below hb
  have K8 : Kept (fun k => k = M) gg W w8 := K5.trans (Kept.of_grown g8 fun k hk => Or.inr ⟨by rw [← hg]; exact hk, cells_of_row hr5 hk⟩)
  have K9 : Kept (fun k => k = M) gg W (w8.setCell ⟨M, 0, none⟩ nv) := K8.trans (Kept.set (F := fun k => k = M) (p := ⟨M, 0, none⟩) rfl _)
  have hlt : ∀ k, sv.ownBlock = some k → n0 ≤ k := fun k hk => (World.ownsRow.lt hr k hk).1
  have hz5 := hb.size
  have hz8 : w5.heap.size ≤ w8.heap.size := g8.size
  have hblk : ∀ k, k < n0 → k ≠ M → (w8.setCell ⟨M, 0, none⟩ nv).heap[k]? = W.heap[k]? := fun k hk hne =>
    (Below.heap_setCell _ _ _ k (fun e => hne e)).trans ((g8.block k (by omega) (fun e => by have := hlt k e.symm; omega)).trans (hb.block k (by omega)))
  refine ⟨K9.keeps (fun k hk => by have : k = M := hk; omega), K9, nv.ownBlock, ?_, ?_, _, ((ho.same (hb.block M (by omega))).same (g8.block M (by omega) (fun e => by have := hlt M e.symm; omega))).set _, ?_, rfl, ?_, ?_, ?_, fun k hk hne => (hblk k hk hne).trans (hsm k hk hne)⟩
  · rw [World.size_setCell]
    rcases n8 with e | e
    · exact Or.inl (e.trans hg)
    · exact Or.inr ⟨w5.heap.size, e, hz5, (World.ownsRow.lt h8 _ e).2⟩
  · rw [World.size_setCell]; omega
  · rw [show ((pre ++ [x], nv.ownBlock) : List (Array Value) × Option Nat).1.length = pre.length + 1 by simp, hm, hys]
    exact row_next h8 fun g hgb _ => Below.heap_setCell _ _ _ _ (fun e => by have := (World.ownsRow.lt h8 g hgb).1; have e' : g = M := e; omega)
  · exact ((Below.trans hw (hb.mono (by have := hw.size; omega))).grown g8 (by have := hw.size; omega) (fun k hk => by have := hlt k hk; omega)).setCell (p := ⟨M, 0, none⟩) (by show q ≤ M; omega) _
  · exact (World.cell?_of_block (w := W) (hblk q (by omega) (by omega))).trans hc0
  · exact (World.cell?_of_block (w := W) (hblk (q + 1) (by omega) (by omega))).trans hc1
theorem row_cut {w : World} {B K g n cap m : Nat} {T : TypeId} {xs : List Value} (h : w.ownsRow B T K (.slice (some ⟨g, 0, none⟩) n cap) n xs) (hm : m ≤ n) : w.ownsRow B T K (.slice (some ⟨g, 0, none⟩) m cap) m (xs.take (m * K)) := by
  obtain ⟨h1, h2⟩ := h
  rcases h2 with ⟨e, -⟩ | ⟨g', cap', cur, e, hB, hg, hn, hc, hsz, hxs⟩
  · cases e
  · cases e
    have hmk : m * K ≤ n * K := Nat.mul_le_mul_right K hm
    refine ⟨by rw [List.length_take, h1]; omega, .inr ⟨g, cap, cur, rfl, hB, hg, by omega, hc, hsz, ?_⟩⟩
    rw [← hxs, List.take_take, Nat.min_eq_left hmk]
def plP {R : Type} (f : Tk → R) (g : Nat → R → R → R) (t : List Tk) (j : Nat) : List R := (stk f g (t.drop (t.length - j))).reverse
theorem plP_len {R : Type} (f : Tk → R) (g : Nat → R → R → R) (t : List Tk) (j : Nat) : (plP f g t j).length ≤ t.length := by
  unfold plP
  rw [List.length_reverse]
  have := stk_len f g (t.drop (t.length - j))
  rw [List.length_drop] at this
  omega
theorem plP_zero {R : Type} (f : Tk → R) (g : Nat → R → R → R) (t : List Tk) : plP f g t 0 = [] := by unfold plP; rw [Nat.sub_zero, List.drop_length]; rfl
theorem plP_all {R : Type} (f : Tk → R) (g : Nat → R → R → R) (t : List Tk) : plP f g t t.length = (stk f g t).reverse := by unfold plP; rw [Nat.sub_self, List.drop_zero]
theorem plP_step {t : List Tk} {j : Nat} {c : Tk} (hj : j < t.length) (hc : t[t.length - 1 - j]? = some c) : t.drop (t.length - (j + 1)) = c :: t.drop (t.length - j) := by
  obtain ⟨h1, h2⟩ := List.getElem?_eq_some_iff.1 hc
  have e : t.length - (j + 1) = t.length - 1 - j := by omega
  have e2 : t.length - j = t.length - 1 - j + 1 := by omega
  rw [e, e2, List.drop_eq_getElem_cons h1, h2]
theorem plP_leaf {R : Type} (f : Tk → R) (g : Nat → R → R → R) {t : List Tk} {j : Nat} {c : Tk} (hj : j < t.length) (hc : t[t.length - 1 - j]? = some c) (h : isO c = false) : plP f g t (j + 1) = plP f g t j ++ [f c] := by
  unfold plP
  rw [plP_step hj hc, stk_leaf h, List.reverse_cons]
theorem plP_op {R : Type} (f : Tk → R) (g : Nat → R → R → R) {t : List Tk} {j : Nat} {c : Tk} (hen : en t 1 = some t.length) (hj : j < t.length) (hc : t[t.length - 1 - j]? = some c) (h : isO c = true) : ∃ a b r, plP f g t j = r ++ [b, a] ∧ plP f g t (j + 1) = r ++ [g (opN c) a b] := by
  obtain ⟨a, b, r, e⟩ := ((stk_two f g hen).2 _ c hc).1 h
  have e2 : t.length - 1 - j + 1 = t.length - j := by omega
  rw [e2] at e
  refine ⟨a, b, r.reverse, ?_, ?_⟩
  · unfold plP; rw [e]; simp
  · unfold plP; rw [plP_step hj hc, stk_op h e, List.reverse_cons]
theorem lit_news1 (w : World) (x : Value) (T : TypeId) : ∀ (j : Nat) (u : Value), [x][j]? = some u → (w.alloc (.cells #[x] T)).cell? ((⟨w.heap.size, 0, none⟩ : Addr).add j) = some u := fun j u hj => by
  cases j with
  | zero =>
    simp at hj; subst hj
    exact (Bq.of (new_of w (.cells #[x] T))).1
  | succ j => simp at hj
theorem row_own {w : World} {B K n : Nat} {e : TypeId} {v : Value} {xs : List Value} (h : w.ownsRow B e K v (n + 1) xs) : ∃ g cap, v = .slice (some ⟨g, 0, none⟩) (n + 1) cap ∧ B ≤ g ∧ g < w.heap.size := by
  rcases h.2 with ⟨rfl, hn⟩ | ⟨g, cap, cur, rfl, hB, hg, -⟩
  · cases hn
  · exact ⟨g, cap, rfl, hB, (Array.getElem?_eq_some_iff.1 hg).1⟩
theorem row_view {w : World} {B k n : Nat} {e : TypeId} {v : Value} {xs : List Value} (h : w.ownsRow B e k v n xs) : ∃ a cap, v = .slice a n cap := by
  rcases h.2 with ⟨rfl, hn⟩ | ⟨g, cap, cur, rfl, -⟩
  · exact ⟨none, 0, by rw [hn]⟩
  · exact ⟨_, _, rfl⟩
def csN (n : Int) : List Value := [.int .i64 n]
theorem topN {w : World} {B g k cap : Nat} {T : TypeId} {r : List Int} {a b : Int} (h : w.ownsRow B T 1 (.slice (some ⟨g, 0, none⟩) (k + 1 + 1) cap) (k + 1 + 1) ((r ++ [b, a]).flatMap csN)) (hk : r.length = k) :
    w.cell? ⟨g, k + 1, none⟩ = some (.int .i64 a) ∧ w.cell? ⟨g, k, none⟩ = some (.int .i64 b) ∧ w.frozen? ⟨g, k, none⟩ = false := by
  have hf : ∀ l : List Int, l.flatMap csN = l.map iv := fun l => by induction l with
    | nil => rfl
    | cons x l ih => rw [List.flatMap_cons, ih]; rfl
  rw [hf] at h
  refine ⟨?_, ?_, World.ownsRow.frozenAt h k⟩
  · rw [World.ownsRow.cellAt h (k + 1) (by omega), List.getElem?_map, List.getElem?_append_right (by omega), show k + 1 - r.length = 1 by omega]; rfl
  · rw [World.ownsRow.cellAt h k (by omega), List.getElem?_map, List.getElem?_append_right (by omega), show k - r.length = 0 by omega]; rfl
theorem putN {k : Nat} {r : List Int} {a b x : Int} (hk : r.length = k) : (r ++ [x]).flatMap csN = (((r ++ [b, a]).flatMap csN).set k (.int .i64 x)).take ((k + 1) * 1) := by
  have hf : ∀ l : List Int, l.flatMap csN = l.map iv := fun l => by induction l with
    | nil => rfl
    | cons x l ih => rw [List.flatMap_cons, ih]; rfl
  subst hk
  rw [hf, hf, Nat.mul_one, List.map_append, List.map_append, List.set_append_right _ _ (by simp), List.length_map, Nat.sub_self, ← List.length_map (f := iv), List.take_length_add_append]; rfl
theorem coff {w : World} {g i j : Nat} {u v : Value} (h : i ≠ j) (hc : w.cell? ⟨g, i, none⟩ = some v) : (w.setCell ⟨g, j, none⟩ u).cell? ⟨g, i, none⟩ = some v := (World.cell?_setCell_other w ⟨g, j, none⟩ ⟨g, i, none⟩ u (fun e => h (by cases e; rfl))).trans hc
set_option maxRecDepth 100000 in
theorem cut_toK (T : TypeId) (K : Nat) (hu : Tryz.prog.underlying T = some (.slice (Tryz.prog.elem T))) (hs : ∀ w, (sizeOf (Tryz.prog.elem T)).run Tryz.prog w = .ok K w) (a : Option Addr) (n cap j : Nat) (hj : j ≤ n) (hc : n ≤ cap) (w : World) : (Instr.slice T (.slice a n cap) none (some (.int .i64 (j : Int))) none).run Tryz.prog w = .ok (.slice a j cap) w := by
  rw [run_slice_h w T a n cap hu .i64 (j : Int) (by omega) (by omega), hs]
  show Result.ok (Value.slice (if cap = 0 then a else a.map (·.add (0 * K))) (j - 0) (cap - 0)) w = _
  congr 2
  split
  · rfl
  · cases a <;> simp [Addr.add]
theorem row_cap {w : World} {B K g n m cap : Nat} {T : TypeId} {xs : List Value} (h : w.ownsRow B T K (.slice (some ⟨g, 0, none⟩) n cap) m xs) : m ≤ cap := by
  rcases h.2 with ⟨e, -⟩ | ⟨g', cap', cur, e, hB, hg, hn, -⟩
  · cases e
  · cases e; exact hn
theorem infoIntP : (Tryz.prog.info? 2).map (fun i => (i.zero, i.size, i.bytes)) = some (some (.int .i64 0), 1, 8) := by kernel_rfl
set_option maxHeartbeats 8000000 in
set_option maxRecDepth 100000 in
theorem foldedInt_any (f : Tk → Int) (g : Nat → Int → Int → Int) (w : World) (a : Option Addr) (cap n : Nat) (t : List Tk) (hn : t.length = n) (hv : V1 w a cap (txL t)) (hl : n ≤ 4194304) (hm : ∀ s ∈ t, s.length ≤ 4194304) (hL : Lib3 w) (hen : en t 1 = some t.length)
    (f1 f2 : Nat) (lb1 : Array Value) (he1 : ∀ args z, (callFunc f1 args).run Tryz.prog z = .ok (.enter f1 args) z) (he2 : ∀ args z, (callFunc f2 args).run Tryz.prog z = .ok (.enter f2 args) z)
    (hone : ∀ (s : Tk) (W : World), s ∈ t → isL s = true → Below w.heap.size w W → Calls Tryz.prog f1 (#[sgV s] ++ lb1) W fun e w' => e = .returned (.int .i64 (f s)) ∧ Below W.heap.size W w')
    (htwo : ∀ (o : Nat) (x y : Int) (W : World), 1 ≤ o → o ≤ 7 → Calls Tryz.prog f2 #[.int .i64 o, .int .i64 x, .int .i64 y] W fun e w' => e = .returned (.int .i64 (g o x y)) ∧ Below W.heap.size W w') :
    Calls Tryz.prog 64 #[.slice a n cap, .func (.func f1) #[] lb1, .func (.func f2) #[] #[]] w fun e w' => ∃ r, stk f g t = [r] ∧ e = .returned (.int .i64 r) ∧ Below w.heap.size w w' := by
  have HN := Lib.hid hn
  have HV := Lib.hid hv
  have HM := Lib.hid hm
  have HL := Lib.hid hL
  have HEN := Lib.hid hen
  have HONE := Lib.hid hone
  have HTWO := Lib.hid htwo
  have hn1 : 1 ≤ n := by have := en_pos hen; omega
  clear hv hm hL hen hone htwo
  obtain ⟨i0, hi, hz0, hz1, hz2⟩ := info_parts infoIntP
  obtain ⟨c00, hc00⟩ : ∃ c, t[0]? = some c := ⟨t[0]'(by omega), List.getElem?_eq_getElem _⟩
  obtain ⟨ga, go, rfl, hga, -⟩ := HV.out.tx hc00
  clear hc00
  have qn0 : ((n : Int) == 0) = false := by rw [beq_eq_false_iff_ne]; omega
  generalize hq : w.heap.size = q at *
  generalize hF1 : Value.func (Fn.func f1) #[] lb1 = F1
  generalize hF2 : Value.func (Fn.func f2) #[] #[] = F2
  have H0 := Lib.hid (bel3 w (.cells #[F1] 94) (.cells #[F2] 95) (.cells #[.slice none 0 0] 99))
  have hz3 : (((w.alloc (.cells #[F1] 94)).alloc (.cells #[F2] 95)).alloc (.cells #[.slice none 0 0] 99)).heap.size = q + 3 := by simp [hq]
  have hb3 : (((w.alloc (.cells #[F1] 94)).alloc (.cells #[F2] 95)).alloc (.cells #[.slice none 0 0] 99)).heap[q]? = some (.cells #[F1] 94 (0, 0)) ∧
      (((w.alloc (.cells #[F1] 94)).alloc (.cells #[F2] 95)).alloc (.cells #[.slice none 0 0] 99)).heap[q + 1]? = some (.cells #[F2] 95 (0, 0)) ∧
      (((w.alloc (.cells #[F1] 94)).alloc (.cells #[F2] 95)).alloc (.cells #[.slice none 0 0] 99)).heap[q + 1 + 1]? = some (.cells #[.slice none 0 0] 99 (0, 0)) := by
    subst hq
    have e0 := new_of w (.cells #[F1] 94)
    have e1 := new_of (w.alloc (.cells #[F1] 94)) (.cells #[F2] 95)
    have e2 := new_of ((w.alloc (.cells #[F1] 94)).alloc (.cells #[F2] 95)) (.cells #[.slice none 0 0] 99)
    have b1 := bel1 (w.alloc (.cells #[F1] 94)) (.cells #[F2] 95)
    have b2 := bel1 ((w.alloc (.cells #[F1] 94)).alloc (.cells #[F2] 95)) (.cells #[.slice none 0 0] 99)
    simp only [World.size_alloc] at e1 e2 b1 b2
    exact ⟨((b2.block _ (by omega)).trans ((b1.block _ (by omega)).trans e0)), ((b2.block _ (by omega)).trans e1), e2⟩
  have HB3 := Lib.hid hb3; clear hb3
  rw [hq] at H0
  generalize hw3 : (((w.alloc (.cells #[F1] 94)).alloc (.cells #[F2] 95)).alloc (.cells #[.slice none 0 0] 99)) = w3 at *
  have hb4 := bel1 w3 (.cells #[.slice (some ⟨ga, go, none⟩) n cap] 22)
  have hz4 : (w3.alloc (.cells #[.slice (some ⟨ga, go, none⟩) n cap] 22)).heap.size = q + 3 + 1 := by simp [hz3]
  have HX4 := Lib.hid (new_of w3 (.cells #[.slice (some ⟨ga, go, none⟩) n cap] 22))
  generalize hw4 : w3.alloc (.cells #[.slice (some ⟨ga, go, none⟩) n cap] 22) = w4 at *
  rw [hz3] at hb4 HX4
  have B4 := Lib.hid (H0.out.trans (hb4.mono (by omega)))
  obtain ⟨x0, x1, x2⟩ := HB3.out
  have C0 := Lib.hid ((Bq.of x0).same (hb4.block _ (by omega))).1
  have C1 := Lib.hid ((Bq.of x1).same (hb4.block _ (by omega))).1
  have XM := Lib.hid ((Bq.of x2).same (hb4.block _ (by omega)))
  have HHA := Lib.hid (backward1_hands (fun k => k = q + 1 + 1) w4.heap.size (q + 3) (some ⟨ga, go, none⟩) cap n t HN.out hl w4 (by omega) (Nat.le_refl _) (Bq.of HX4.out).1 (fun k c hk => by
      obtain ⟨g', o', e, hg, hc⟩ := HV.out.tx hk
      exact ⟨g', o', e, by omega, (World.cell?_of_block (w := w) (B4.out.block g' (by rw [hq] at hg; exact hg))).trans hc⟩) (fun g' o' e _ e2 => by cases e; omega) (by omega) (by omega))
  clear x0 x1 x2 HB3 H0 HX4 hb4
  have HWE := Lib.hid (show w3.alloc (.cells #[.slice (some ⟨ga, go, none⟩) n cap] 22) = w4 from hw4)
  have HBK := Lib.hid (backward_any (some ⟨ga, go, none⟩) n cap w3)
  rw [HWE.out, hz3] at HBK
  refine (callsIn_wide (n := 9)).1 (callsIn_of_wp_marks Tryz.func64 rfl trivial ?_ rfl)
  simp only [Tryz.ntmps64, List.size_toArray, List.length_cons, List.length_nil, Nat.reduceAdd, Nat.reduceSub, Array.replicate_succ, Array.replicate_zero, List.push_toArray, List.append_toArray, List.nil_append, List.cons_append]
  gi_wp2_with fail
  rw [hw3]
  refine ⟨trivial, (callsIn_wide.2 HBK.out).mono ?_⟩
  rintro e w5 ⟨rfl, rfl⟩
  clear hw3 hw4 HWE HBK
  gi_wp2_with fail
  refine loop_hands22 20 21 10 rfl (enters_of Tryz.func69 (by kernel_rfl) rfl) (bkL_two t) HHA.out (Below.refl _ _) (fun k hk => by have : k = q + 1 + 1 := hk; omega) (Fld 2 1 csN (plP f g t) q (q + 1 + 1) w5.heap.size F1 F2 w w5) (fun _ _ _ => False) ?_ ?_ ?_ ?_ ?_ ?_ ?_
  · rintro s W W' row ⟨h1, sv, ho, hr, hg, hb, hc0, hc1, hsm⟩ hgr hrow
    have hbb : Below w5.heap.size W W' := (Below.refl _ W).grown hgr h1 (fun k e => (hrow k e).1)
    refine ⟨Nat.le_trans h1 hgr.size, sv, ho.same (hbb.block _ (by omega)), row_next hr fun k hk hlt => hgr.block k hlt (fun e => ?_), hg, hb.trans (hbb.mono (by omega)), (World.cell?_of_block (w := W) (hbb.block q (by omega))).trans hc0, (World.cell?_of_block (w := W) (hbb.block (q + 1) (by omega))).trans hc1, fun k hk hne => (hbb.block k hk).trans (hsm k hk hne)⟩
    obtain ⟨-, o, ho2, hc⟩ := hrow k e.symm
    rw [cells_of_row hr hk o ho2] at hc; cases hc
  · exact fun k => fun _ _ _ _ h _ _ => h
  · exact ⟨Nat.le_refl _, .slice none 0 0, XM.out, (show w5.ownsRow w5.heap.size 2 1 (.slice none 0 0) (plP f g t 0).length ((plP f g t 0).flatMap csN) from by rw [plP_zero]; exact World.ownsRow_nil w5 _ _ _), rfl, B4.out, C0.out, C1.out, fun _ _ _ => rfl⟩
  · intro l m x y W K hK
    simp only [List.setIfInBounds_toArray, List.set_cons_zero, List.set_cons_succ] at hK ⊢
    gi_wp2
    exact hK
  · rintro l2 m pre x y gg W hpre hsz1 ⟨hs1, sv, ho, hr, hg, hb, hc0, hc1, hsm⟩
    obtain ⟨hj, hxy⟩ := pre_bk hpre
    replace hg : sv.ownBlock = gg := hg
    replace hr : W.ownsRow w5.heap.size 2 1 sv (plP f g t pre.length).length ((plP f g t pre.length).flatMap csN) := hr
    simp only [List.setIfInBounds_toArray, List.set_cons_zero, List.set_cons_succ]
    obtain ⟨c, hc⟩ : ∃ c, t[t.length - 1 - pre.length]? = some c := ⟨t[t.length - 1 - pre.length]'(by omega), List.getElem?_eq_getElem _⟩
    obtain rfl : y = .string (tx c) := by
      unfold bkI at hxy
      rw [List.getD_eq_getElem?_getD, hc] at hxy
      have := congrArg (fun z : Array Value => z[1]?) hxy
      simpa [tv] using this
    have hcm := List.mem_of_getElem? hc
    have HS := Lib.hid (signOf_any c W (HL.out.carry hb (by rw [← hq]; exact ⟨HL.out.2.2.2.1, HL.out.2.2.2.2.1, HL.out.2.2.2.2.2⟩)) (HM.out c hcm))
    have HPL := Lib.hid (plP_len f g t pre.length)
    have HO := Lib.hid ho
    have HR := Lib.hid hr
    have HB := Lib.hid hb
    have HG := Lib.hid hg
    have HC0 := Lib.hid hc0
    have HC1 := Lib.hid hc1
    have HSM := Lib.hid hsm; clear hsm
    clear ho hr hb hg hc0 hc1 hxy
    cases hio : isO c
    · have hil := ((stk_two f g HEN.out).2 _ c hc).2 hio
      obtain ⟨Ts, vs, hsv, hta⟩ := sgV_leaf hil
      have HF := Lib.hid (fun W' (hW : Below q w W') => HONE.out c W' hcm hil hW)
      rw [hsv] at HS HF
      have HP1 := Lib.hid (plP_leaf f g hj hc hio)
      have HGI := Lib.hid (And.intro hj hc)
      clear hsv hil hio hcm hc
      generalize plP f g t pre.length = pl at *
      generalize tx c = xs at *
      gi_wp2_with fail
      refine ⟨trivial, (fun h => by cases h), (CallsIn.inRound l2 (callsIn_wide.2 HS.out)).mono ?_⟩
      rintro e w6 ⟨rfl, b6⟩
      have B6 := Lib.hid b6; clear b6
      gi_wp2_with fail
      subst hF1
      have O6 := Lib.hid (HO.out.same (B6.out.block (q + 1 + 1) (by omega)))
      have R6 := Lib.hid (row_next HR.out fun g _ hlt => B6.out.block g hlt)
      have z6 := B6.out.size
      have D6 := Lib.hid (bel_drewN B6.out 1)
      have hf6 := HF.out w6.drew (HB.out.trans (D6.out.mono (by omega)))
      have HF6 := Lib.hid hf6; clear hf6
      have HS6 := Lib.hid (show w6.drew.cell? ⟨q, 0, none⟩ = some (.func (.func f1) #[] lb1) from (World.cell?_of_block (w := W) (B6.out.block q (by omega))).trans HC0.out)
      refine wpIn_region_held (S := fun z => z.cell? ⟨q, 0, none⟩ = some (.func (.func f1) #[] lb1)) (by kernel_rfl) (defers_none (by kernel_rfl)) (fun _ _ h => h) HS6.out (fun hHeld => ?_)
      refine wpAnyH_take (i := 1) (v := ?v1t) rfl (by kernel_rfl) (by kernel_rfl) (by kernel_rfl) (fun _ _ _ h => h) (Or.inl ⟨by rfl, ?hy1t⟩) (by assumption) ?rest1t
      case hy1t => (intro zz hSw; (try dsimp only at hSw); go_simp; (try with_reducible rfl))
      change wpAnyH _ _ _ _ _ _ _ (Act.put _ (some 25) _) _
      simp only [Act.put, List.setIfInBounds_toArray, List.set_cons_zero, List.set_cons_succ]
      refine wpAnyH_take (i := 2) (v := ?v2t) rfl (by kernel_rfl) (by kernel_rfl) (by kernel_rfl) (fun _ _ _ h => h) (Or.inl ⟨by rfl, ?hy2t⟩) (by assumption) ?rest2t
      case hy2t => (intro zz hSw; (try dsimp only at hSw); go_simp; (try with_reducible rfl))
      change wpAnyH _ _ _ _ _ _ _ (Act.put _ (some 26) _) _
      simp only [Act.put, List.setIfInBounds_toArray, List.set_cons_zero, List.set_cons_succ]
      refine wpAnyH_ready (rs := [0, 3]) (by kernel_rfl) (by simp) (AllReadyH.cons rfl (fun K hK => ?_) (AllReadyH.cons rfl (fun K hK => ?_) (AllReadyH.nil)))
      · skip
        obtain ⟨lo, -, -⟩ := O6.out.drew
        go_simp
        refine hK.out _ _ hHeld (fun hHeld => ?_)
        clear hK K lo
        refine wpAnyH_ready (rs := [3]) (by kernel_rfl) (by simp) (AllReadyH.cons rfl (fun K hK => ?_) (AllReadyH.nil))
        go_simp
        refine HF6.out.mono ?_; rintro e w7 ⟨rfl, b7⟩
        have B7 := Lib.hid (bel_tr D6.out b7 (Nat.le_refl _))
        have z7 : w6.heap.size ≤ w7.heap.size := b7.size
        have O7 := Lib.hid (O6.out.drew.next b7)
        have R7 := Lib.hid (row_next R6.out fun g _ hlt => b7.block g hlt)
        have HS7 := Lib.hid ((World.cell?_of_block (w := w6.drew) (b7.block q (show q < w6.heap.size by omega))).trans HS6.out)
        have B8 := Lib.hid (bel_tr B7.out (bel1 w7 (.cells #[.int .i64 (f c)] 2)) (Nat.le_refl _))
        have O8 := Lib.hid (O7.out.next (bel1 w7 (.cells #[.int .i64 (f c)] 2)))
        have R8 := Lib.hid (row_next R7.out fun g _ hlt => (bel1 w7 (.cells #[.int .i64 (f c)] 2)).block g hlt)
        have N8 := Lib.hid (new_of w7 (.cells #[.int .i64 (f c)] 2))
        have HS8 := Lib.hid ((World.cell?_of_block (w := w7) ((bel1 w7 (.cells #[.int .i64 (f c)] 2)).block q (show q < w7.heap.size by omega))).trans HS7.out)
        clear b7
        refine hK.out _ _ HS7.out (fun hHeld => ?_)
        clear hK K
        refine wpAnyH_ready (rs := [4]) (by kernel_rfl) (by simp) (AllReadyH.cons rfl (fun K hK => ?_) (AllReadyH.nil))
        go_simp
        refine hK.out _ _ HS8.out (fun hHeld => ?_)
        clear hK K
        refine wpAnyH_ready (rs := [5]) (by kernel_rfl) (by simp) (AllReadyH.cons rfl (fun K hK => ?_) (AllReadyH.nil))
        refine step_append_row rfl (.tmp 24) (.tmp 28) 99 2 i0 _ 1 _ Tryz.underlying99 hi hz0 hz1 hz2 rfl (by decide) rfl (base := w5.heap.size) (v := sv) (ad := ⟨w7.heap.size, 0, none⟩) (n := pl.length) (m := 1) (news := csN (f c)) rfl rfl R8.out rfl (by exact lit_news1 w7 _ _) (by intro u hu; simp [csN] at hu; subst hu; rfl) (by have := HPL.out; unfold maxLen; omega) (by have := HPL.out; omega) (by simp; omega) ?_
        intro v9 w9 r9 g9 n9
        obtain ⟨v9a, v9c, ev⟩ := row_view r9
        subst ev
        have N9 := Lib.hid (And.intro r9 (And.intro g9 n9))
        have O9 := Lib.hid (O8.out.same (g9.block _ (show q + 1 + 1 < (w7.alloc (.cells #[.int .i64 (f c)] 2)).heap.size by simp; omega) (fun e => by have := (World.ownsRow.lt HR.out _ e.symm).1; omega)))
        have HS9 := Lib.hid (gcellq g9 (show q < (w7.alloc (.cells #[.int .i64 (f c)] 2)).heap.size by simp; omega) (fun e => by have := (World.ownsRow.lt HR.out _ e.symm).1; omega) HS8.out)
        clear r9 g9 n9
        refine hK.out _ _ HS9.out (fun hHeld => ?_)
        clear hK K
        change wpAnyH _ _ _ _ _ _ _ (Act.put _ (some 29) _) _
        simp only [Act.put, List.setIfInBounds_toArray, List.set_cons_zero, List.set_cons_succ]
        refine wpAnyH_ready (rs := [6]) (by kernel_rfl) (by simp) (AllReadyH.cons rfl (fun K hK => ?_) (AllReadyH.nil))
        have hcz := O9.out.1
        have hfz := O9.out.2.1
        go_simp
        refine hK.out _ _ (csetq (show q ≠ q + 1 + 1 by omega) HS9.out) (fun hHeld => ?_)
        clear hK K hcz hfz
        refine wpAnyH_done (by kernel_rfl) ?_ _
        exact fl_end { tmps := #[], defers := [] } B8.out hs1 HO.out HR.out HG.out HB.out HC0.out HC1.out HSM.out (by omega) (by omega) N9.out.1 N9.out.2.1 N9.out.2.2 (by rw [HP1.out, List.length_append]; rfl) (by rw [HP1.out, List.flatMap_append]; simp)
      · skip
        go_simp
        refine HF6.out.mono ?_; rintro e w7 ⟨rfl, b7⟩
        have B7 := Lib.hid (bel_tr D6.out b7 (Nat.le_refl _))
        have z7 : w6.heap.size ≤ w7.heap.size := b7.size
        have O7 := Lib.hid (O6.out.drew.next b7)
        have R7 := Lib.hid (row_next R6.out fun g _ hlt => b7.block g hlt)
        have HS7 := Lib.hid ((World.cell?_of_block (w := w6.drew) (b7.block q (show q < w6.heap.size by omega))).trans HS6.out)
        have B8 := Lib.hid (bel_tr B7.out (bel1 w7 (.cells #[.int .i64 (f c)] 2)) (Nat.le_refl _))
        have O8 := Lib.hid (O7.out.next (bel1 w7 (.cells #[.int .i64 (f c)] 2)))
        have R8 := Lib.hid (row_next R7.out fun g _ hlt => (bel1 w7 (.cells #[.int .i64 (f c)] 2)).block g hlt)
        have N8 := Lib.hid (new_of w7 (.cells #[.int .i64 (f c)] 2))
        have HS8 := Lib.hid ((World.cell?_of_block (w := w7) ((bel1 w7 (.cells #[.int .i64 (f c)] 2)).block q (show q < w7.heap.size by omega))).trans HS7.out)
        clear b7
        refine hK.out _ _ HS7.out (fun hHeld => ?_)
        clear hK K
        refine wpAnyH_ready (rs := [0, 4]) (by kernel_rfl) (by simp) (AllReadyH.cons rfl (fun K hK => ?_) (AllReadyH.cons rfl (fun K hK => ?_) (AllReadyH.nil)))
        · skip
          obtain ⟨lo, -, -⟩ := O7.out
          go_simp
          refine hK.out _ _ hHeld (fun hHeld => ?_)
          clear hK K lo
          refine wpAnyH_ready (rs := [4]) (by kernel_rfl) (by simp) (AllReadyH.cons rfl (fun K hK => ?_) (AllReadyH.nil))
          go_simp
          refine hK.out _ _ HS8.out (fun hHeld => ?_)
          clear hK K
          refine wpAnyH_ready (rs := [5]) (by kernel_rfl) (by simp) (AllReadyH.cons rfl (fun K hK => ?_) (AllReadyH.nil))
          refine step_append_row rfl (.tmp 24) (.tmp 28) 99 2 i0 _ 1 _ Tryz.underlying99 hi hz0 hz1 hz2 rfl (by decide) rfl (base := w5.heap.size) (v := sv) (ad := ⟨w7.heap.size, 0, none⟩) (n := pl.length) (m := 1) (news := csN (f c)) rfl rfl R8.out rfl (by exact lit_news1 w7 _ _) (by intro u hu; simp [csN] at hu; subst hu; rfl) (by have := HPL.out; unfold maxLen; omega) (by have := HPL.out; omega) (by simp; omega) ?_
          intro v9 w9 r9 g9 n9
          obtain ⟨v9a, v9c, ev⟩ := row_view r9
          subst ev
          have N9 := Lib.hid (And.intro r9 (And.intro g9 n9))
          have O9 := Lib.hid (O8.out.same (g9.block _ (show q + 1 + 1 < (w7.alloc (.cells #[.int .i64 (f c)] 2)).heap.size by simp; omega) (fun e => by have := (World.ownsRow.lt HR.out _ e.symm).1; omega)))
          have HS9 := Lib.hid (gcellq g9 (show q < (w7.alloc (.cells #[.int .i64 (f c)] 2)).heap.size by simp; omega) (fun e => by have := (World.ownsRow.lt HR.out _ e.symm).1; omega) HS8.out)
          clear r9 g9 n9
          refine hK.out _ _ HS9.out (fun hHeld => ?_)
          clear hK K
          change wpAnyH _ _ _ _ _ _ _ (Act.put _ (some 29) _) _
          simp only [Act.put, List.setIfInBounds_toArray, List.set_cons_zero, List.set_cons_succ]
          refine wpAnyH_ready (rs := [6]) (by kernel_rfl) (by simp) (AllReadyH.cons rfl (fun K hK => ?_) (AllReadyH.nil))
          have hcz := O9.out.1
          have hfz := O9.out.2.1
          go_simp
          refine hK.out _ _ (csetq (show q ≠ q + 1 + 1 by omega) HS9.out) (fun hHeld => ?_)
          clear hK K hcz hfz
          refine wpAnyH_done (by kernel_rfl) ?_ _
          exact fl_end { tmps := #[], defers := [] } B8.out hs1 HO.out HR.out HG.out HB.out HC0.out HC1.out HSM.out (by omega) (by omega) N9.out.1 N9.out.2.1 N9.out.2.2 (by rw [HP1.out, List.length_append]; rfl) (by rw [HP1.out, List.flatMap_append]; simp)
        · skip
          go_simp
          refine hK.out _ _ HS8.out (fun hHeld => ?_)
          clear hK K
          refine wpAnyH_ready (rs := [0]) (by kernel_rfl) (by simp) (AllReadyH.cons rfl (fun K hK => ?_) (AllReadyH.nil))
          obtain ⟨lo, -, -⟩ := O8.out
          go_simp
          refine hK.out _ _ hHeld (fun hHeld => ?_)
          clear hK K lo
          refine wpAnyH_ready (rs := [5]) (by kernel_rfl) (by simp) (AllReadyH.cons rfl (fun K hK => ?_) (AllReadyH.nil))
          refine step_append_row rfl (.tmp 24) (.tmp 28) 99 2 i0 _ 1 _ Tryz.underlying99 hi hz0 hz1 hz2 rfl (by decide) rfl (base := w5.heap.size) (v := sv) (ad := ⟨w7.heap.size, 0, none⟩) (n := pl.length) (m := 1) (news := csN (f c)) rfl rfl R8.out rfl (by exact lit_news1 w7 _ _) (by intro u hu; simp [csN] at hu; subst hu; rfl) (by have := HPL.out; unfold maxLen; omega) (by have := HPL.out; omega) (by simp; omega) ?_
          intro v9 w9 r9 g9 n9
          obtain ⟨v9a, v9c, ev⟩ := row_view r9
          subst ev
          have N9 := Lib.hid (And.intro r9 (And.intro g9 n9))
          have O9 := Lib.hid (O8.out.same (g9.block _ (show q + 1 + 1 < (w7.alloc (.cells #[.int .i64 (f c)] 2)).heap.size by simp; omega) (fun e => by have := (World.ownsRow.lt HR.out _ e.symm).1; omega)))
          have HS9 := Lib.hid (gcellq g9 (show q < (w7.alloc (.cells #[.int .i64 (f c)] 2)).heap.size by simp; omega) (fun e => by have := (World.ownsRow.lt HR.out _ e.symm).1; omega) HS8.out)
          clear r9 g9 n9
          refine hK.out _ _ HS9.out (fun hHeld => ?_)
          clear hK K
          change wpAnyH _ _ _ _ _ _ _ (Act.put _ (some 29) _) _
          simp only [Act.put, List.setIfInBounds_toArray, List.set_cons_zero, List.set_cons_succ]
          refine wpAnyH_ready (rs := [6]) (by kernel_rfl) (by simp) (AllReadyH.cons rfl (fun K hK => ?_) (AllReadyH.nil))
          have hcz := O9.out.1
          have hfz := O9.out.2.1
          go_simp
          refine hK.out _ _ (csetq (show q ≠ q + 1 + 1 by omega) HS9.out) (fun hHeld => ?_)
          clear hK K hcz hfz
          refine wpAnyH_done (by kernel_rfl) ?_ _
          exact fl_end { tmps := #[], defers := [] } B8.out hs1 HO.out HR.out HG.out HB.out HC0.out HC1.out HSM.out (by omega) (by omega) N9.out.1 N9.out.2.1 N9.out.2.2 (by rw [HP1.out, List.length_append]; rfl) (by rw [HP1.out, List.flatMap_append]; simp)
    · obtain ⟨va, vb, r, e1, e2⟩ := plP_op f g HEN.out hj hc hio
      have ho1 : 1 ≤ opN c := by have := isO_ne hio; omega
      have ho7 := opN_le c
      rw [sgV_op hio] at HS
      have hta := ta_op (.int .i64 (opN c))
      have HP1 := Lib.hid e2
      rw [e1] at HR HPL
      have hlen : (r ++ [vb, va]).length = r.length + 2 := by simp
      rw [hlen] at HR HPL
      obtain ⟨pb, pc, hsv, hpb, hpl⟩ := row_own HR.out
      subst hsv
      have HTW := Lib.hid (fun W' => HTWO.out (opN c) va vb W' ho1 ho7)
      clear hlen e1 e2 hio hcm hc
      generalize plP f g t pre.length = pl at *
      generalize tx c = xs at *
      generalize opN c = o at *
      generalize hk : r.length = k at *
      have HR0 := Lib.hid hk; clear hk
      have kb : k ≤ 4194304 := by have := HPL.out; omega
      have i1 : (0 : Int) ≤ (k : Int) + 1 := by omega
      have i2 : (k : Int) < (k : Int) + 1 := by omega
      have i3 : (k : Int) < (k : Int) + 1 + 1 := by omega
      have i4 : (0 : Int) ≤ (k : Int) := by omega
      have hwk : IntKind.i64.wrap (k : Int) = (k : Int) := by rw [IntKind.wrap_i64]; omega
      gi_wp2_with fail
      refine ⟨trivial, (fun h => by cases h), (CallsIn.inRound l2 (callsIn_wide.2 HS.out)).mono ?_⟩
      rintro e w6 ⟨rfl, b6⟩
      have B6 := Lib.hid b6; clear b6
      have O6 := Lib.hid (HO.out.same (B6.out.block (q + 1 + 1) (by omega)))
      have hm6 := O6.out.1
      have kb1 : (k : Int) + 1 ≤ 4194305 := by omega
      gi_wp2_with fail
      subst hF2
      clear hm6
      have R6 := Lib.hid (row_next HR.out fun g _ hlt => B6.out.block g hlt)
      have z6 := B6.out.size
      have D6 := Lib.hid (bel_drewN B6.out 1)
      have HT6 := Lib.hid (HTW.out w6.drew)
      have HTP := Lib.hid (topN R6.out HR0.out)
      have HS6 := Lib.hid (show w6.drew.cell? ⟨q + 1 + 1, 0, none⟩ = some (.slice (some ⟨pb, 0, none⟩) (k + 1 + 1) pc) ∧ w6.drew.cell? ⟨q + 1, 0, none⟩ = some (.func (.func f2) #[] #[]) ∧ w6.drew.cell? ⟨pb, k + 1, none⟩ = some (.int .i64 va) from ⟨O6.out.1, (World.cell?_of_block (w := W) (B6.out.block (q + 1) (by omega))).trans HC1.out, HTP.out.1⟩)
      refine wpIn_region_held (S := fun z => z.cell? ⟨q + 1 + 1, 0, none⟩ = some (.slice (some ⟨pb, 0, none⟩) (k + 1 + 1) pc) ∧ z.cell? ⟨q + 1, 0, none⟩ = some (.func (.func f2) #[] #[]) ∧ z.cell? ⟨pb, k + 1, none⟩ = some (.int .i64 va)) (by kernel_rfl) (defers_none (by kernel_rfl)) (fun _ _ h => h) HS6.out (fun hHeld => ?_)
      refine wpAnyH_take (i := 0) (v := ?v0u) rfl (by kernel_rfl) (by kernel_rfl) (by kernel_rfl) (fun _ _ _ h => h) (Or.inl ⟨by rfl, ?hy0u⟩) (by assumption) ?rest0u
      case hy0u => (intro zz hSw; (try dsimp only at hSw); go_simp; (try with_reducible rfl))
      change wpAnyH _ _ _ _ _ _ _ (Act.put _ (some 36) _) _
      simp only [Act.put, List.setIfInBounds_toArray, List.set_cons_zero, List.set_cons_succ]
      refine wpAnyH_take (i := 1) (v := ?v1u) rfl (by kernel_rfl) (by kernel_rfl) (by kernel_rfl) (fun _ _ _ h => h) (Or.inl ⟨by rfl, ?hy1u⟩) (by assumption) ?rest1u
      case hy1u => (intro zz hSw; (try dsimp only at hSw); go_simp; (try with_reducible rfl))
      change wpAnyH _ _ _ _ _ _ _ (Act.put _ (some 37) _) _
      simp only [Act.put, List.setIfInBounds_toArray, List.set_cons_zero, List.set_cons_succ]
      refine wpAnyH_take (i := 2) (v := ?v2u) rfl (by kernel_rfl) (by kernel_rfl) (by kernel_rfl) (fun _ _ _ h => h) (Or.inl ⟨by rfl, ?hy2u⟩) (by assumption) ?rest2u
      case hy2u => (intro zz hSw; (try dsimp only at hSw); go_simp; (try with_reducible rfl))
      change wpAnyH _ _ _ _ _ _ _ (Act.put _ (some 38) _) _
      simp only [Act.put, List.setIfInBounds_toArray, List.set_cons_zero, List.set_cons_succ]
      refine wpAnyH_take (i := 3) (v := ?v3u) rfl (by kernel_rfl) (by kernel_rfl) (by kernel_rfl) (fun _ _ _ h => h) (Or.inl ⟨by rfl, ?hy3u⟩) (by assumption) ?rest3u
      case hy3u => (intro zz hSw; (try dsimp only at hSw); go_simp; (try with_reducible rfl))
      change wpAnyH _ _ _ _ _ _ _ (Act.put _ (some 39) _) _
      simp only [Act.put, List.setIfInBounds_toArray, List.set_cons_zero, List.set_cons_succ]
      refine wpAnyH_take (i := 4) (v := ?v4u) rfl (by kernel_rfl) (by kernel_rfl) (by kernel_rfl) (fun _ _ _ h => h) (Or.inl ⟨by rfl, ?hy4u⟩) (by assumption) ?rest4u
      case hy4u => (intro zz hSw; (try dsimp only at hSw); go_simp; (try with_reducible rfl))
      change wpAnyH _ _ _ _ _ _ _ (Act.put _ (some 40) _) _
      simp only [Act.put, List.setIfInBounds_toArray, List.set_cons_zero, List.set_cons_succ]
      refine wpAnyH_take (i := 5) (v := ?v5u) rfl (by kernel_rfl) (by kernel_rfl) (by kernel_rfl) (fun _ _ _ h => h) (Or.inl ⟨by rfl, ?hy5u⟩) (by assumption) ?rest5u
      case hy5u => (intro zz hSw; (try dsimp only at hSw); go_simp; (try with_reducible rfl))
      change wpAnyH _ _ _ _ _ _ _ (Act.put _ (some 41) _) _
      simp only [Act.put, List.setIfInBounds_toArray, List.set_cons_zero, List.set_cons_succ]
      refine wpAnyH_take (i := 6) (v := ?v6u) rfl (by kernel_rfl) (by kernel_rfl) (by kernel_rfl) (fun _ _ _ h => h) (Or.inl ⟨by rfl, ?hy6u⟩) (by assumption) ?rest6u
      case hy6u => (intro zz hSw; (try dsimp only at hSw); go_simp; (try with_reducible rfl))
      change wpAnyH _ _ _ _ _ _ _ (Act.put _ (some 42) _) _
      simp only [Act.put, List.setIfInBounds_toArray, List.set_cons_zero, List.set_cons_succ]
      refine wpAnyH_take (i := 7) (v := ?v7u) rfl (by kernel_rfl) (by kernel_rfl) (by kernel_rfl) (fun _ _ _ h => h) (Or.inl ⟨by rfl, ?hy7u⟩) (by assumption) ?rest7u
      case hy7u => (intro zz hSw; (try dsimp only at hSw); go_simp; (try with_reducible rfl))
      change wpAnyH _ _ _ _ _ _ _ (Act.put _ (some 43) _) _
      simp only [Act.put, List.setIfInBounds_toArray, List.set_cons_zero, List.set_cons_succ]
      refine wpAnyH_take (i := 8) (v := ?v8u) rfl (by kernel_rfl) (by kernel_rfl) (by kernel_rfl) (fun _ _ _ h => h) (Or.inl ⟨by rfl, ?hy8u⟩) (by assumption) ?rest8u
      case hy8u => (intro zz hSw; (try dsimp only at hSw); go_simp; (try with_reducible rfl))
      change wpAnyH _ _ _ _ _ _ _ (Act.put _ (some 44) _) _
      simp only [Act.put, List.setIfInBounds_toArray, List.set_cons_zero, List.set_cons_succ]
      refine wpAnyH_take (i := 9) (v := ?v9u) rfl (by kernel_rfl) (by kernel_rfl) (by kernel_rfl) (fun _ _ _ h => h) (Or.inl ⟨by rfl, ?hy9u⟩) (by assumption) ?rest9u
      case hy9u => (intro zz hSw; (try dsimp only at hSw); go_simp; (try with_reducible rfl))
      change wpAnyH _ _ _ _ _ _ _ (Act.put _ (some 45) _) _
      simp only [Act.put, List.setIfInBounds_toArray, List.set_cons_zero, List.set_cons_succ]
      refine wpAnyH_take (i := 10) (v := ?v10u) rfl (by kernel_rfl) (by kernel_rfl) (by kernel_rfl) (fun _ _ _ h => h) (Or.inl ⟨by rfl, ?hy10u⟩) (by assumption) ?rest10u
      case hy10u => (intro zz hSw; (try dsimp only at hSw); go_simp; (try with_reducible rfl))
      change wpAnyH _ _ _ _ _ _ _ (Act.put _ (some 46) _) _
      simp only [Act.put, List.setIfInBounds_toArray, List.set_cons_zero, List.set_cons_succ]
      refine wpAnyH_take (i := 11) (v := ?v11u) rfl (by kernel_rfl) (by kernel_rfl) (by kernel_rfl) (fun _ _ _ h => h) (Or.inl ⟨by rfl, ?hy11u⟩) (by assumption) ?rest11u
      case hy11u => (intro zz hSw; (try dsimp only at hSw); go_simp; (try with_reducible rfl))
      change wpAnyH _ _ _ _ _ _ _ (Act.put _ (some 47) _) _
      simp only [Act.put, List.setIfInBounds_toArray, List.set_cons_zero, List.set_cons_succ]
      refine wpAnyH_take (i := 12) (v := ?v12u) rfl (by kernel_rfl) (by kernel_rfl) (by kernel_rfl) (fun _ _ _ h => h) (Or.inl ⟨by rfl, ?hy12u⟩) (by assumption) ?rest12u
      case hy12u => (intro zz hSw; (try dsimp only at hSw); go_simp; (try with_reducible rfl))
      change wpAnyH _ _ _ _ _ _ _ (Act.put _ (some 48) _) _
      simp only [Act.put, List.setIfInBounds_toArray, List.set_cons_zero, List.set_cons_succ]
      refine wpAnyH_ready (rs := [13]) (by kernel_rfl) (by simp) (AllReadyH.cons rfl (fun K hK => ?_) (AllReadyH.nil))
      obtain lo0 := HTP.out.2.1
      go_simp
      refine hK.out _ _ hHeld (fun hHeld => ?_)
      clear hK K lo0
      refine wpAnyH_ready (rs := [14]) (by kernel_rfl) (by simp) (AllReadyH.cons rfl (fun K hK => ?_) (AllReadyH.nil))
      go_simp
      refine HT6.out.mono ?_; rintro e w7 ⟨rfl, b7⟩
      have B7 := Lib.hid (bel_tr D6.out b7 (Nat.le_refl _))
      have z7 : w6.heap.size ≤ w7.heap.size := b7.size
      have O7 := Lib.hid (O6.out.drew.next b7)
      have R7 := Lib.hid (row_next R6.out fun g _ hlt => b7.block g hlt)
      have HTP7 := Lib.hid (topN R7.out HR0.out)
      have HS7 := Lib.hid (show w7.cell? ⟨q + 1 + 1, 0, none⟩ = some (.slice (some ⟨pb, 0, none⟩) (k + 1 + 1) pc) ∧ w7.cell? ⟨q + 1, 0, none⟩ = some (.func (.func f2) #[] #[]) ∧ w7.cell? ⟨pb, k + 1, none⟩ = some (.int .i64 va) from ⟨O7.out.1, (World.cell?_of_block (w := w6.drew) (b7.block (q + 1) (show q + 1 < w6.heap.size by omega))).trans HS6.out.2.1, HTP7.out.1⟩)
      clear b7
      refine hK.out _ _ HS7.out (fun hHeld => ?_)
      clear hK K
      refine wpAnyH_take (i := 15) (v := ?v15u) rfl (by kernel_rfl) (by kernel_rfl) (by kernel_rfl) (fun _ _ _ h => h) (Or.inl ⟨by rfl, ?hy15u⟩) (by assumption) ?rest15u
      case hy15u => (intro zz hSw; (try dsimp only at hSw); go_simp; (try with_reducible rfl))
      change wpAnyH _ _ _ _ _ _ _ (Act.put _ (some 51) _) _
      simp only [Act.put, List.setIfInBounds_toArray, List.set_cons_zero, List.set_cons_succ]
      refine wpAnyH_ready (rs := [16]) (by kernel_rfl) (by simp) (AllReadyH.cons rfl (fun K hK => ?_) (AllReadyH.nil))
      obtain ⟨-, hcz, hfz⟩ := HTP7.out
      go_simp
      have HS8 := Lib.hid (show (w7.setCell ⟨pb, k, none⟩ (.int .i64 (g o va vb))).cell? ⟨q + 1 + 1, 0, none⟩ = some (.slice (some ⟨pb, 0, none⟩) (k + 1 + 1) pc) ∧ (w7.setCell ⟨pb, k, none⟩ (.int .i64 (g o va vb))).cell? ⟨q + 1, 0, none⟩ = some (.func (.func f2) #[] #[]) ∧ (w7.setCell ⟨pb, k, none⟩ (.int .i64 (g o va vb))).cell? ⟨pb, k + 1, none⟩ = some (.int .i64 va) from ⟨csetq (show q + 1 + 1 ≠ pb by omega) HS7.out.1, csetq (show q + 1 ≠ pb by omega) HS7.out.2.1, coff (by omega) HS7.out.2.2⟩)
      refine hK.out _ _ HS8.out (fun hHeld => ?_)
      clear hK K hcz hfz
      refine wpAnyH_done (by kernel_rfl) ?_ _
      have O8 := Lib.hid (O7.out.same (Below.heap_setCell _ ⟨pb, k, none⟩ (.int .i64 (g o va vb)) (q + 1 + 1) (fun e => by have e' : q + 1 + 1 = pb := e; omega)))
      have R8 := Lib.hid (row_cut ((World.ownsRow.stored R7.out k (.int .i64 (g o va vb))).1) (m := k + 1) (by omega))
      have G8 := Lib.hid (show w7.grownBy (w7.setCell ⟨pb, k, none⟩ (.int .i64 (g o va vb))) (Value.slice (some ⟨pb, 0, none⟩) (k + 1 + 1) pc).ownBlock from grown_setq)
      clear hHeld HS8
      generalize (w7.setCell ⟨pb, k, none⟩ (.int .i64 (g o va vb))) = w8 at *
      obtain ⟨hm8, hf8, -⟩ := id O8.out
      have hcut : ∀ w, (Instr.slice 99 (.slice (some ⟨pb, 0, none⟩) (k + 1 + 1) pc) none (some (.int .i64 ((k : Int) + 1))) none).run Tryz.prog w = .ok (.slice (some ⟨pb, 0, none⟩) (k + 1) pc) w := cut_toK 99 1 (by kernel_rfl) (by intro w; exact Tryz.sizeOf2 w) (some ⟨pb, 0, none⟩) (k + 1 + 1) pc (k + 1) (by omega) (row_cap R7.out)
      clear i1 i2 i3 i4 hwk kb1
      gi_wp2_with fail
      exact fl_end { tmps := #[], defers := [] } B7.out hs1 HO.out HR.out HG.out HB.out HC0.out HC1.out HSM.out (by omega) (by omega) R8.out G8.out (Or.inl rfl) (by rw [HP1.out, List.length_append, HR0.out]; rfl) (by rw [HP1.out]; exact putN HR0.out)
  · rintro D gg W hD ⟨hs1, sv, ho, hr, hg, hb, hc0, hc1, hsm⟩ hK
    obtain ⟨r, hrs⟩ : ∃ r, stk f g t = [r] := by
      have := (stk_two f g HEN.out).1
      match hs : stk f g t, this with
      | [r], _ => exact ⟨r, rfl⟩
    rw [show ((bkL t, gg) : List (Array Value) × Option Nat).1.length = t.length from bkL_len t, plP_all, hrs] at hr
    obtain ⟨pb, pc, hsv, hpb, hpl⟩ := row_own (n := 0) hr
    subst hsv
    have HB := Lib.hid hb
    have l0 : W.cell? ⟨pb, 0, none⟩ = some (.int .i64 r) := World.ownsRow.cellAt hr 0 (by decide)
    obtain ⟨o1, o2, o3⟩ := ho
    have HRS := Lib.hid hrs
    clear hr hb hg hc0 hc1 hrs
    have PB := Lib.hid (put_below (n₀ := q) (l := D) (W := W) (o := .deferred none) (by omega) (by omega))
    gi_wp2_with fail
    refine ⟨by simp, .inl ⟨_, _, rfl, run_takeDeferred hK, ?_⟩⟩
    exact ⟨_, results_tmp rfl _ _ _, r, HRS.out, rfl, HB.out.trans PB.out⟩
  · rintro D k pre W hD hpre hf hK
    exact hf.elim
end Go.Proofs.YtoiphglfngkoiaaGreatDoor.Cl
namespace Go.Proofs.YtoiphglfngkoiaaGreatDoor.Cl
set_option linter.unusedVariables false
open Go.RowKit Wd Rp Kp Ra Go.Shelf
theorem edV_no {l : List Tk} {i : Int} (h : enA l i = none) : edV l i = -1 := by unfold edV; rw [h]
theorem edV_at {l : List Tk} {i : Int} {m : Nat} (h : enA l i = some m) : edV l i = i + m := by unfold edV; rw [h]
theorem enA_piece {l : List Tk} {i : Int} {m : Nat} (h : enA l i = some m) : ∃ k : Nat, i = (k : Int) ∧ k + m ≤ l.length ∧ ((l.drop k).take m).length = m ∧ en ((l.drop k).take m) 1 = some m ∧ 1 ≤ m := by
  have h0 : 0 ≤ i := by
    apply Decidable.byContradiction; intro h1
    rw [enA_neg (by omega)] at h; cases h
  obtain ⟨k, rfl⟩ : ∃ k : Nat, i = k := ⟨i.toNat, by omega⟩
  rw [enA_nat] at h
  have h1 := en_le h
  have h2 := en_pos h
  rw [List.length_drop] at h1
  exact ⟨k, rfl, by omega, by rw [List.length_take, List.length_drop]; omega, en_take h, h2⟩
theorem mem_piece {l : List Tk} {k m : Nat} {s : Tk} (h : s ∈ (l.drop k).take m) : s ∈ l := List.mem_of_mem_drop (List.mem_of_mem_take h)
set_option maxHeartbeats 4000000 in
set_option maxRecDepth 100000 in
theorem sumAt_none (w : World) (a : Option Addr) (cap : Nat) (l : List Tk) (n : Nat) (i : Int) (hi : I64 i) (hn : l.length = n) (hv : V1 w a cap (txL l)) (hl : n ≤ 4194304) (hm : ∀ s ∈ l, s.length ≤ 4194304) (hL : Lib3 w) (he : enA l i = none) :
    Calls Tryz.prog 56 #[.slice a n cap, .int .i64 i] w fun e w' => e = .returned (.slice none 0 0) ∧ Below w.heap.size w w' := by
  have HE := Lib.hid (implEnd_any w a cap l n i hi hn hv hl hm hL)
  rw [edV_no he] at HE
  go_enter Tryz.func56, Tryz.ntmps56
  go_wp2_with fail
  refine HE.out.mono ?_; rintro e w1 ⟨rfl, b1⟩
  have B1 := Lib.hid b1; clear b1
  go_wp2_with fail
  go_ret
  exact ⟨rfl, B1.out⟩
set_option maxHeartbeats 4000000 in
set_option maxRecDepth 100000 in
theorem sumAt_some (w : World) (a : Option Addr) (cap : Nat) (l : List Tk) (n k m : Nat) (hi : I64 (k : Int)) (hn : l.length = n) (hv : V1 w a cap (txL l)) (hl : n ≤ 4194304) (hm : ∀ s ∈ l, s.length ≤ 4194304) (hL : Lib3 w) (he : enA l (k : Int) = some m) (hkm : k + m ≤ n) :
    Calls Tryz.prog 56 #[.slice a n cap, .int .i64 (k : Int)] w fun e w' => ∃ b cb, e = .returned (.slice b m cb) ∧ V1 w' b cb (txL ((l.drop k).take m)) ∧ Below w.heap.size w w' := by
  have HE := Lib.hid (implEnd_any w a cap l n k hi hn hv hl hm hL)
  rw [edV_at he] at HE
  obtain ⟨b, cb, hrun, hvv⟩ := cut1 22 (by kernel_rfl) (fun w => by exact Tryz.sizeOf9 w) a n cap k (k + m) (by omega) hkm (by have := hv.1; rw [txL_len] at this; omega)
  rw [show k + m - k = m by omega] at hrun hvv
  have hr : ∀ w, (Instr.slice 22 (.slice a n cap) (some (.int .i64 (k : Int))) (some (.int .i64 ((k : Int) + (m : Int)))) none).run Tryz.prog w = .ok (.slice b m cb) w := hrun
  have HV := Lib.hid (fun w1 (hb : Below w.heap.size w w1) => (show V1 w1 b cb (txL ((l.drop k).take m)) from by
    have := hvv w1 (txL l) (hv.below hb) (by rw [txL_len]; exact hn)
    unfold txL at this ⊢
    rw [← List.map_drop, ← List.map_take] at this; exact this))
  clear hrun hvv hv
  have p0 : ¬ (k : Int) + (m : Int) < 0 := by omega
  go_enter Tryz.func56, Tryz.ntmps56
  go_wp2_with fail
  refine HE.out.mono ?_; rintro e w1 ⟨rfl, b1⟩
  have B1 := Lib.hid b1; clear b1
  go_wp2_with fail
  go_ret
  exact ⟨b, cb, rfl, HV.out _ B1.out, B1.out⟩
theorem oneKind_any (v : Value) (w : World) : Calls Tryz.prog 65 #[v] w fun e w' => e = .returned (.int .i64 1) ∧ w = w' := by
  go_enter Tryz.func65, Tryz.ntmps65
  go_wp2_with fail
  go_ret
  exact ⟨rfl, rfl⟩
theorem oneDepth_any (v : Value) (w : World) : Calls Tryz.prog 67 #[v] w fun e w' => e = .returned (.int .i64 1) ∧ w = w' := by
  go_enter Tryz.func67, Tryz.ntmps67
  go_wp2_with fail
  go_ret
  exact ⟨rfl, rfl⟩
theorem takes_any (o : Nat) (w : World) : Calls Tryz.prog 73 #[.int .i64 o] w fun e w' => e = .returned (.int .i64 (tkK o)) ∧ w = w' := by
  by_cases h : o = 7
  · subst h
    go_enter Tryz.func73, Tryz.ntmps73
    go_wp2_with fail
    go_ret
    exact ⟨rfl, rfl⟩
  · have q : ((o : Int) == 7) = false := by rw [beq_eq_false_iff_ne]; omega
    have HE := Lib.hid (show tkK o = 1 by unfold tkK; rw [if_neg h])
    go_enter Tryz.func73, Tryz.ntmps73
    go_wp2_with fail
    go_ret
    exact ⟨by rw [HE.out]; rfl, rfl⟩
theorem yields_any (o : Nat) (ho : o ≤ 7) (w : World) : Calls Tryz.prog 74 #[.int .i64 o] w fun e w' => e = .returned (.int .i64 (ylK o)) ∧ w = w' := by
  by_cases h : 5 ≤ o
  · have h2 : o = 5 ∨ o = 6 ∨ o = 7 := by omega
    rcases h2 with rfl | rfl | rfl <;>
    · go_enter Tryz.func74, Tryz.ntmps74
      go_wp2_with fail
      go_ret
      exact ⟨rfl, rfl⟩
  · have q5 : ((o : Int) == 5) = false := by rw [beq_eq_false_iff_ne]; omega
    have q6 : ((o : Int) == 6) = false := by rw [beq_eq_false_iff_ne]; omega
    have q7 : ((o : Int) == 7) = false := by rw [beq_eq_false_iff_ne]; omega
    have HE := Lib.hid (show ylK o = 1 by unfold ylK; rw [if_neg h])
    go_enter Tryz.func74, Tryz.ntmps74
    go_wp2_with fail
    go_ret
    exact ⟨by rw [HE.out]; rfl, rfl⟩
theorem kind_any (o : Nat) (ho : o ≤ 7) (a b : Int) (w : World) : Calls Tryz.prog 66 #[.int .i64 o, .int .i64 a, .int .i64 b] w fun e w' => e = .returned (.int .i64 (kdG o a b)) ∧ w = w' := by
  have HT := Lib.hid (takes_any o)
  have HY := Lib.hid (yields_any o ho)
  have HK := Lib.hid (show kdG o a b = if a = tkK o ∧ b = tkK o then ylK o else 0 from rfl)
  generalize kdG o a b = r at *
  generalize ylK o = y at *
  generalize tkK o = t at *
  by_cases h1 : a = t
  · have q1 : (a != t) = false := by simpa using h1
    by_cases h2 : b = t
    · have q2 : (b != t) = false := by simpa using h2
      have HE := Lib.hid (HK.out.trans (if_pos ⟨h1, h2⟩)); clear h1 h2
      go_enter Tryz.func66, Tryz.ntmps66
      go_wp2_with fail
      refine (HT.out _).mono ?_; rintro e w1 ⟨rfl, rfl⟩
      go_wp2_with fail
      refine (HT.out _).mono ?_; rintro e w1 ⟨rfl, rfl⟩
      go_wp2_with fail
      refine (HY.out _).mono ?_; rintro e w1 ⟨rfl, rfl⟩
      go_wp2_with fail
      go_ret
      exact ⟨by rw [HE.out]; rfl, rfl⟩
    · have q2 : (b != t) = true := by simpa using h2
      have HE := Lib.hid (HK.out.trans (if_neg (by rintro ⟨-, h⟩; exact h2 h))); clear h1 h2
      go_enter Tryz.func66, Tryz.ntmps66
      go_wp2_with fail
      refine (HT.out _).mono ?_; rintro e w1 ⟨rfl, rfl⟩
      go_wp2_with fail
      refine (HT.out _).mono ?_; rintro e w1 ⟨rfl, rfl⟩
      go_wp2_with fail
      go_ret
      exact ⟨by rw [HE.out]; rfl, rfl⟩
  · have q1 : (a != t) = true := by simpa using h1
    have HE := Lib.hid (HK.out.trans (if_neg (by rintro ⟨h, -⟩; exact h1 h))); clear h1
    go_enter Tryz.func66, Tryz.ntmps66
    go_wp2_with fail
    refine (HT.out _).mono ?_; rintro e w1 ⟨rfl, rfl⟩
    go_wp2_with fail
    go_ret
    exact ⟨by rw [HE.out]; rfl, rfl⟩
theorem depth_any (o : Nat) (a b : Int) (w : World) : Calls Tryz.prog 68 #[.int .i64 o, .int .i64 a, .int .i64 b] w fun e w' => e = .returned (.int .i64 (dpG o a b)) ∧ w = w' := by
  have HK := Lib.hid (show dpG o a b = wrap64 (1 + mxI a b) from rfl)
  have HM := Lib.hid (show mxI a b = max a b by unfold mxI; split <;> omega)
  go_enter Tryz.func68, Tryz.ntmps68
  go_wp2_with fail
  go_ret
  exact ⟨by rw [HK.out, HM.out]; rfl, rfl⟩
set_option maxHeartbeats 4000000 in
set_option maxRecDepth 100000 in
theorem foldedInt_nil (f1 f2 : Nat) (lb1 : Array Value) (w : World) : Calls Tryz.prog 64 #[.slice none 0 0, .func (.func f1) #[] lb1, .func (.func f2) #[] #[]] w fun e w' => e = .returned (.int .i64 0) ∧ Below w.heap.size w w' := by
  have HB := Lib.hid (bel2 w (.cells #[.func (.func f1) #[] lb1] 94) (.cells #[.func (.func f2) #[] #[]] 95))
  go_enter Tryz.func64, Tryz.ntmps64
  go_wp2_with fail
  go_ret
  exact ⟨rfl, HB.out⟩
set_option maxHeartbeats 4000000 in
set_option maxRecDepth 100000 in
theorem implKind_any (w : World) (a : Option Addr) (cap : Nat) (l : List Tk) (n : Nat) (i : Int) (hi : I64 i) (hn : l.length = n) (hv : V1 w a cap (txL l)) (hl : n ≤ 4194304) (hm : ∀ s ∈ l, s.length ≤ 4194304) (hL : Lib3 w) :
    Calls Tryz.prog 57 #[.slice a n cap, .int .i64 i] w fun e w' => e = .returned (.int .i64 (kdV l i)) ∧ Below w.heap.size w w' := by
  cases he : enA l i with
  | none =>
    have HS := Lib.hid (sumAt_none w a cap l n i hi hn hv hl hm hL he)
    have HE := Lib.hid (show kdV l i = 0 from foV_none _ _ _ he)
    clear hv hL he
    go_enter Tryz.func57, Tryz.ntmps57
    go_wp2_with fail
    refine HS.out.mono ?_; rintro e w1 ⟨rfl, b1⟩
    have B1 := Lib.hid b1; clear b1
    go_wp2_with fail
    refine (foldedInt_nil _ _ _ _).mono ?_; rintro e w2 ⟨rfl, b2⟩
    have B2 := Lib.hid (bel_tr B1.out b2 (Nat.le_refl _)); clear b2
    go_wp2_with fail
    go_ret
    exact ⟨by rw [HE.out]; rfl, B2.out⟩
  | some m =>
    obtain ⟨k, rfl, hkm, hlen, hent, hm1⟩ := enA_piece he
    have HS := Lib.hid (sumAt_some w a cap l n k m hi hn hv hl hm hL he (by omega))
    have HE := Lib.hid (show kdV l (k : Int) = (stk kdF kdG ((l.drop k).take m)).headD 0 by unfold kdV foV; rw [he]; rfl)
    have HF := Lib.hid (fun w1 b cb (hb : Below w.heap.size w w1) (hvb : V1 w1 b cb (txL ((l.drop k).take m))) => foldedInt_any kdF kdG w1 b cb m ((l.drop k).take m) hlen hvb (by omega) (fun s hs => hm s (mem_piece hs)) (lib3_below hL hb) (by rw [hlen]; exact hent)
      65 66 #[] (enters_of Tryz.func65 (by kernel_rfl) rfl) (enters_of Tryz.func66 (by kernel_rfl) rfl)
      (fun s W _ _ _ => by rw [Array.append_empty]; exact (oneKind_any _ W).mono fun e w' ⟨h1, h2⟩ => ⟨h1, by rw [← h2]; exact Below.refl _ _⟩)
      (fun o x y W h1 h2 => (kind_any o h2 x y W).mono fun e w' ⟨h1, h2⟩ => ⟨h1, by rw [← h2]; exact Below.refl _ _⟩))
    clear hv hL he hent hlen
    generalize stk kdF kdG ((l.drop k).take m) = st at *
    go_enter Tryz.func57, Tryz.ntmps57
    go_wp2_with fail
    refine HS.out.mono ?_; rintro e w1 ⟨b, cb, rfl, hvb, b1⟩
    have B1 := Lib.hid b1; clear b1
    have HF1 := Lib.hid (HF.out w1 b cb B1.out hvb); clear hvb
    go_wp2_with fail
    refine HF1.out.mono ?_; rintro e w2 ⟨r, hr, rfl, b2⟩
    have B2 := Lib.hid (bel_tr B1.out b2 (Nat.le_refl _)); clear b2
    have HE2 := Lib.hid (HE.out.trans (by rw [hr]; rfl : _ = r)); clear HE hr
    go_wp2_with fail
    go_ret
    exact ⟨by rw [HE2.out]; rfl, B2.out⟩
set_option maxHeartbeats 4000000 in
set_option maxRecDepth 100000 in
theorem implDepth_any (w : World) (a : Option Addr) (cap : Nat) (l : List Tk) (n : Nat) (i : Int) (hi : I64 i) (hn : l.length = n) (hv : V1 w a cap (txL l)) (hl : n ≤ 4194304) (hm : ∀ s ∈ l, s.length ≤ 4194304) (hL : Lib3 w) :
    Calls Tryz.prog 58 #[.slice a n cap, .int .i64 i] w fun e w' => e = .returned (.int .i64 (dpV l i)) ∧ Below w.heap.size w w' := by
  cases he : enA l i with
  | none =>
    have HS := Lib.hid (sumAt_none w a cap l n i hi hn hv hl hm hL he)
    have HE := Lib.hid (show dpV l i = 0 from foV_none _ _ _ he)
    clear hv hL he
    go_enter Tryz.func58, Tryz.ntmps58
    go_wp2_with fail
    refine HS.out.mono ?_; rintro e w1 ⟨rfl, b1⟩
    have B1 := Lib.hid b1; clear b1
    go_wp2_with fail
    refine (foldedInt_nil _ _ _ _).mono ?_; rintro e w2 ⟨rfl, b2⟩
    have B2 := Lib.hid (bel_tr B1.out b2 (Nat.le_refl _)); clear b2
    go_wp2_with fail
    go_ret
    exact ⟨by rw [HE.out]; rfl, B2.out⟩
  | some m =>
    obtain ⟨k, rfl, hkm, hlen, hent, hm1⟩ := enA_piece he
    have HS := Lib.hid (sumAt_some w a cap l n k m hi hn hv hl hm hL he (by omega))
    have HE := Lib.hid (show dpV l (k : Int) = (stk dpF dpG ((l.drop k).take m)).headD 0 by unfold dpV foV; rw [he]; rfl)
    have HF := Lib.hid (fun w1 b cb (hb : Below w.heap.size w w1) (hvb : V1 w1 b cb (txL ((l.drop k).take m))) => foldedInt_any dpF dpG w1 b cb m ((l.drop k).take m) hlen hvb (by omega) (fun s hs => hm s (mem_piece hs)) (lib3_below hL hb) (by rw [hlen]; exact hent)
      67 68 #[] (enters_of Tryz.func67 (by kernel_rfl) rfl) (enters_of Tryz.func68 (by kernel_rfl) rfl)
      (fun s W _ _ _ => by rw [Array.append_empty]; exact (oneDepth_any _ W).mono fun e w' ⟨h1, h2⟩ => ⟨h1, by rw [← h2]; exact Below.refl _ _⟩)
      (fun o x y W h1 h2 => (depth_any o x y W).mono fun e w' ⟨h1, h2⟩ => ⟨h1, by rw [← h2]; exact Below.refl _ _⟩))
    clear hv hL he hent hlen
    generalize stk dpF dpG ((l.drop k).take m) = st at *
    go_enter Tryz.func58, Tryz.ntmps58
    go_wp2_with fail
    refine HS.out.mono ?_; rintro e w1 ⟨b, cb, rfl, hvb, b1⟩
    have B1 := Lib.hid b1; clear b1
    have HF1 := Lib.hid (HF.out w1 b cb B1.out hvb); clear hvb
    go_wp2_with fail
    refine HF1.out.mono ?_; rintro e w2 ⟨r, hr, rfl, b2⟩
    have B2 := Lib.hid (bel_tr B1.out b2 (Nat.le_refl _)); clear b2
    have HE2 := Lib.hid (HE.out.trans (by rw [hr]; rfl : _ = r)); clear HE hr
    go_wp2_with fail
    go_ret
    exact ⟨by rw [HE2.out]; rfl, B2.out⟩
end Go.Proofs.YtoiphglfngkoiaaGreatDoor.Cl
namespace Go.Proofs.YtoiphglfngkoiaaGreatDoor.Cu
set_option linter.unusedVariables false
open Go.RowKit
structure But (b : Nat) (w w' : World) : Prop where
  os : w'.os = w.os
  tape : w'.tape = w.tape
  output : w'.output = w.output
  size : w.heap.size ≤ w'.heap.size
  block : ∀ k, k < w.heap.size → k ≠ b → w'.heap[k]? = w.heap[k]?
theorem But.refl (b : Nat) (w : World) : But b w w := ⟨rfl, rfl, rfl, Nat.le_refl _, fun _ _ _ => rfl⟩
theorem But.trans {b : Nat} {x y z : World} (h : But b x y) (k : But b y z) : But b x z :=
  ⟨k.os.trans h.os, k.tape.trans h.tape, k.output.trans h.output, Nat.le_trans h.size k.size, fun i hi hb => (k.block i (Nat.lt_of_lt_of_le hi h.size) hb).trans (h.block i hi hb)⟩
theorem But.drew {b : Nat} {x w : World} (h : But b x w) : But b x w.drew := ⟨h.os, h.tape, h.output, h.size, h.block⟩
theorem But.drewN {b : Nat} {x w : World} (h : But b x w) (n : Nat) : But b x (w.drewN n) := ⟨h.os, h.tape, h.output, h.size, h.block⟩
theorem But.setCell {b : Nat} {x w : World} (h : But b x w) {p : Addr} (hp : p.block = b) (u : Value) : But b x (w.setCell p u) :=
  h.trans ⟨rfl, rfl, rfl, by simp [World.setCell], fun k _ hk => Below.heap_setCell _ _ _ _ (by omega)⟩
theorem But.alloc {b : Nat} {x w : World} (h : But b x w) (o : Obj) : But b x (w.alloc o) :=
  h.trans ⟨rfl, rfl, rfl, by simp, fun k hk _ => Below.heap_alloc _ _ _ hk⟩
theorem But.below {b B : Nat} {w w' : World} (h : But b w w') (hB : B ≤ b) (hs : B ≤ w.heap.size) : Below B w w' :=
  ⟨h.os, h.tape, h.output, h.size, fun k hk => h.block k (by omega) (by omega)⟩
theorem But.cell {b : Nat} {w w' : World} (h : But b w w') {p : Addr} (hp : p.block < w.heap.size) (hb : p.block ≠ b) : w'.cell? p = w.cell? p := World.cell?_of_block (w := w) (h.block p.block hp hb)
theorem But.frozen {b : Nat} {w w' : World} (h : But b w w') {p : Addr} (hp : p.block < w.heap.size) (hb : p.block ≠ b) : w'.frozen? p = w.frozen? p := World.frozen?_of_block (w := w) (h.block p.block hp hb)

def Bytes (w : World) (B : Nat) (a : Option Addr) (len : Nat) : Prop :=
  0 < len → ∃ ab ao, a = some ⟨ab, ao, none⟩ ∧ ab < B ∧ ∀ k, k < len → ∃ z : Int, w.cell? ⟨ab, ao + k, none⟩ = some (.int .u8 z) ∧ 0 ≤ z ∧ z ≤ 255
theorem Bytes.carry {w w' : World} {B : Nat} {a : Option Addr} {len : Nat} (h : Bytes w B a len) (hb : ∀ k, k < B → w'.heap[k]? = w.heap[k]?) : Bytes w' B a len := by
  intro hl
  obtain ⟨ab, ao, h1, h2, h3⟩ := h hl
  refine ⟨ab, ao, h1, h2, fun k hk => ?_⟩
  obtain ⟨z, h4, h5⟩ := h3 k hk
  exact ⟨z, (World.cell?_of_block (w := w) (hb ab h2)).trans h4, h5⟩
end Go.Proofs.YtoiphglfngkoiaaGreatDoor.Cu
namespace Go.Proofs.YtoiphglfngkoiaaGreatDoor.Cu
set_option linter.unusedVariables false
open Go.RowKit
end Go.Proofs.YtoiphglfngkoiaaGreatDoor.Cu
namespace Go.Proofs.YtoiphglfngkoiaaGreatDoor.Cu
set_option linter.unusedVariables false
open Go.RowKit
end Go.Proofs.YtoiphglfngkoiaaGreatDoor.Cu
namespace Go.Proofs.YtoiphglfngkoiaaGreatDoor.Cu
set_option linter.unusedVariables false
open Go.RowKit
end Go.Proofs.YtoiphglfngkoiaaGreatDoor.Cu
namespace Go.Proofs.YtoiphglfngkoiaaGreatDoor.Cu
set_option linter.unusedVariables false
open Go.RowKit
end Go.Proofs.YtoiphglfngkoiaaGreatDoor.Cu
namespace Go.Proofs.YtoiphglfngkoiaaGreatDoor.Cu
set_option linter.unusedVariables false
open Go.RowKit
theorem But.setNew {b : Nat} {x w : World} (h : But b x w) {p : Addr} (hp : x.heap.size ≤ p.block) (u : Value) : But b x (w.setCell p u) :=
  ⟨h.os, h.tape, h.output, by have := h.size; simpa [World.setCell] using this, fun k hk hb => (Below.heap_setCell _ _ _ _ (by omega)).trans (h.block k hk hb)⟩
theorem But.grown {b : Nat} {x w w' : World} {row : Option Nat} (h : But b x w) (hg : w.grownBy w' row) (hr : ∀ k, row = some k → x.heap.size ≤ k) : But b x w' :=
  ⟨hg.os.trans h.os, hg.tape.trans h.tape, hg.output.trans h.output, Nat.le_trans h.size hg.size, fun k hk hb => (hg.block k (Nat.lt_of_lt_of_le hk h.size) (fun e => by have := hr k e.symm; omega)).trans (h.block k hk hb)⟩
theorem But.below' {b : Nat} {x w w' : World} (h : But b x w) (hw : Below w.heap.size w w') : But b x w' :=
  ⟨hw.os.trans h.os, hw.tape.trans h.tape, hw.output.trans h.output, Nat.le_trans h.size hw.size, fun k hk hb => (hw.block k (Nat.lt_of_lt_of_le hk h.size)).trans (h.block k hk hb)⟩

def Src (w : World) (ad : Addr) (m : Nat) : Prop := ∀ j, j < m → ∃ z : Int, w.cell? (ad.add j) = some (.int .u8 z) ∧ 0 ≤ z ∧ z ≤ 255
def IsB (u : Value) : Prop := ∃ z : Int, u = .int .u8 z ∧ 0 ≤ z ∧ z ≤ 255
theorem Src.carry {w w' : World} {ad : Addr} {m : Nat} (h : Src w ad m) (hb : w'.heap[ad.block]? = w.heap[ad.block]?) : Src w' ad m := fun j hj => by
  obtain ⟨z, hz, hr⟩ := h j hj
  have hbl : (ad.add j).block = ad.block := by unfold Addr.add; split <;> rfl
  exact ⟨z, (World.cell?_of_block (w := w) (by rw [hbl]; exact hb)).trans hz, hr⟩

def OwnB (w0 w : World) (v : Value) (n : Nat) : Prop := v ≠ .slice none 0 0 ∧ ∃ xs, w.ownsRow w0.heap.size 5 1 v n xs ∧ ∀ u ∈ xs, IsB u
theorem OwnB.carry {w0 w w' : World} {v : Value} {n : Nat} {row : Option Nat} (h : OwnB w0 w v n) (hg : w.grownBy w' row) (hne : v.ownBlock ≠ row) : OwnB w0 w' v n := by
  obtain ⟨h0, xs, h1, h2⟩ := h
  exact ⟨h0, xs, h1.kept hg (Or.inr hne), h2⟩
theorem But.grownBy {b : Nat} {w w' : World} (h : But b w w') : w.grownBy w' (some b) := ⟨h.os, h.tape, h.output, h.size, fun k hk hne => h.block k hk (fun e => hne (by rw [e]))⟩
theorem OwnB.alloc {w0 w : World} {v : Value} {n : Nat} (h : OwnB w0 w v n) (o : Obj) : OwnB w0 (w.alloc o) v n := by
  obtain ⟨h0, xs, h1, h2⟩ := h
  exact ⟨h0, xs, h1.alloc o, h2⟩
theorem OwnB.drew {w0 w : World} {v : Value} {n : Nat} (h : OwnB w0 w v n) : OwnB w0 w.drew v n := h
theorem OwnB.drewN {w0 w : World} {v : Value} {n : Nat} (h : OwnB w0 w v n) (k : Nat) : OwnB w0 (w.drewN k) v n := h
theorem OwnB.start {w0 w : World} (h : w0.heap.size ≤ w.heap.size) : OwnB w0 (w.alloc (.cells #[] 5)) (.slice (some ⟨w.heap.size, 0, none⟩) 0 0) 0 :=
  ⟨(fun e => by cases e), [], World.ownsRow_made w #[] 0 h (by decide) rfl, fun u hu => by cases hu⟩
theorem OwnB.form {w0 w : World} {v : Value} {n : Nat} (h : OwnB w0 w v n) : ∃ g cap, v = .slice (some ⟨g, 0, none⟩) n cap ∧ w0.heap.size ≤ g ∧ g < w.heap.size ∧ n ≤ cap ∧ cap ≤ maxLen ∧ ∀ k, k < n → (∃ z : Int, w.cell? ⟨g, k, none⟩ = some (.int .u8 z) ∧ 0 ≤ z ∧ z ≤ 255) ∧ w.frozen? ⟨g, k, none⟩ = false := by
  obtain ⟨h0, xs, ⟨hl, h1⟩, h2⟩ := h
  rcases h1 with ⟨rfl, _⟩ | ⟨g, cap, cur, rfl, hb, hg, hn, hc, hsz, hxs⟩
  · exact absurd rfl h0
  · refine ⟨g, cap, rfl, hb, (Array.getElem?_eq_some_iff.1 hg).1, hn, hc, fun k hk => ⟨?_, by simp [World.frozen?, hg]⟩⟩
    have hk' : k < xs.length := by omega
    have hm := h2 _ (List.getElem_mem hk')
    obtain ⟨z, hz, z0, z1⟩ := hm
    refine ⟨z, ?_, z0, z1⟩
    have e1 : xs[k]? = some (.int .u8 z) := by rw [List.getElem?_eq_getElem hk', hz]
    rw [← hxs, List.getElem?_take_of_lt (by omega)] at e1
    simpa [World.cell?, hg] using e1

end Go.Proofs.YtoiphglfngkoiaaGreatDoor.Cu
