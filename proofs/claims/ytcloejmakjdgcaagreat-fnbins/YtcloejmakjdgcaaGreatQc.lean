/-
  The contracts of spec.l5Alike, spec.l5Thin and spec.Thinned: 'al', 'thinL', 'thP'. (Made by gen_qc.py.)
-/
import Derived.Test.YtcloejmakjdgcaaGreatQa
import Derived.Test.YtcloejmakjdgcaaGreatCo
namespace Go.Proofs.YtcloejmakjdgcaaGreat.Cl
open Go.RowKit Wd Rp Kp
set_option linter.unusedVariables false
theorem append_at {ops : Array Oper} {rest : List Oper} {o : Oper} {a : Act} {Q : Exit → Act → World → Prop} {w : World} (hw : Region.wanted o (yielded ops a.tmps) = true) (s x : Operand)
    (ho : o.op = .call { callee := .builtin .append, args := #[s, x], argTypes := #[24, 24] })
    {base : Nat} {v : Value} {ad : Option Addr} {cap n : Nat} {l m : List Cel} (hs : a.eval s = v) (hx : a.eval x = .slice ad n cap) (hmn : m.length = n) (hown : OwC base w v l) (hy : Vw w ad cap m) (hlen : l.length + m.length ≤ 10000000) (hbase : base ≤ w.heap.size)
    (h : ∀ v' w', OwC base w' v' (l ++ m) → w.grownBy w' v.ownBlock → (v'.ownBlock = v.ownBlock ∨ v'.ownBlock = some w.heap.size) → wpList Tryz.prog ops Q rest (a.put o.dst v') w') : wpList Tryz.prog ops Q (o :: rest) a w := by
  refine BigFrame.wpList_want hw fun K hK => ?_
  subst hmn
  obtain ⟨v', w', hr, h2, h3, h4⟩ := run_append_cells o.type hown hy hlen hbase
  unfold Oper.wp execOp
  simp only [ho, resolve, invoke, builtin, Sem.run_bind, Sem.run_pure, Result.andThen_ok, List.map_toArray, List.map_cons, List.map_nil, hs, hx, hr]
  exact hK _ _ (h v' w' h2 h3 h4)
theorem inB_iff {x lo hi : Int} : inB x lo hi = true ↔ lo ≤ x ∧ x ≤ hi := by unfold inB; simp
theorem inB_yes {x lo hi : Int} (h : lo ≤ x ∧ x ≤ hi) : inB x lo hi = true := inB_iff.2 h
theorem l1In_is {x lo hi : Int} {y : Bool} (h : inB x lo hi = y) (w : World) : Calls Tryz.prog 65 #[.int .i64 x, .int .i64 lo, .int .i64 hi] w fun e w' => e = .returned (.bool y) ∧ w = w' := by
  subst h
  exact l1In_any x lo hi w
theorem thin_round {K : Nat} {f : Int} {l r o0 o q : List Cel} {c : Cel} {i e j : Nat} (hs : Srt (l.drop i)) (hd : l.drop i = c :: r) (hg : grp (c :: r) = e - i) (hie : i ≤ e) (hf : (o, q) = ((c :: r).take (e - i)).foldl (stp K f) (o0, [])) (hj : trim q 0 q.length = j) (heq : o0 ++ thinL K f (l.drop i) = thinL K f l) :
    (o ++ q.take j) ++ thinL K f (l.drop e) = thinL K f l := by
  have hde : l.drop e = (c :: r).drop (e - i) := by rw [← hd, List.drop_drop]; congr 1; omega
  have h1 := stp_all (one_grp (l := c :: r) (by rw [← hd]; exact hs)) K f o0
  rw [hg] at h1
  rw [h1] at hf
  obtain ⟨rfl, rfl⟩ := Prod.mk.inj hf
  rw [← heq, hd, thinL_cons (l := c :: r) (by simp), thinG_is, hg, hde, ← hj, List.append_assoc, List.append_assoc, List.append_assoc]
/-- While the cells of one bin are gathered: those from i on, up to e. -/
def Gath (w : World) (K : Nat) (f : Int) (i : Nat) (c : Cel) (lr o0 : List Cel) (e : Nat) (s7 s10 : Value) (wr : World) : Prop :=
  ∃ o q, OwC w.heap.size wr s7 o ∧ OwC w.heap.size wr s10 q ∧ (∀ k, s7.ownBlock = some k → s10.ownBlock = some k → False) ∧ (o, q) = (lr.take (e - i)).foldl (stp K f) (o0, []) ∧ (∀ m d, m < e - i → lr[m]? = some d → c.al d = true) ∧ Below w.heap.size w wr ∧ o.length + q.length ≤ o0.length + (e - i) ∧ q.length ≤ K
theorem timeB_is {t : Int} {x : Bool} (h : inB t 0 1000000 = x) (w : World) : Calls Tryz.prog 40 #[.int .i64 t] w fun e w' => e = .returned (.bool x) ∧ w = w' := by
  subst h
  exact l2Time_any t w
end Go.Proofs.YtcloejmakjdgcaaGreat.Cl
