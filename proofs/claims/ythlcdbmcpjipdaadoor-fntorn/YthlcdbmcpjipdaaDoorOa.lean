/-
  append of texts onto a slice of texts that the call has made, out of any slice of texts (none at all among them), as one step of the walk, guarded or not.
-/
import Derived.Test.YthlcdbmcpjipdaaDoorFt
import Derived.Deep.Upon
import Derived.BigFrame
import Derived.Laws.OwnMore
namespace Go.Proofs.YthlcdbmcpjipdaaDoor.Fq
open Go.RowKit Wd Rp Kp
set_option linter.unusedVariables false
theorem OwT.lit (w : World) (B : Nat) (hB : B ≤ w.heap.size) (x : ByteArray) : OwT B (w.alloc (.cells #[.string x] 9)) (.slice (some ⟨w.heap.size, 0, none⟩) 1 1) [x.data.toList] := by
  have h := World.ownsRow_lit (base := B) (e := 9) (size := 1) w #[.string x] 1 hB (by decide) rfl
  unfold OwT
  simp only [List.length_singleton, List.map_cons, List.map_nil, tx_of]
  exact h
theorem run_append_texts {w : World} {base B : Nat} {v y : Value} {l m : List (List UInt8)} (ty : TypeId) (hown : OwT base w v l) (hy : OwT B w y m) (hlen : l.length + m.length ≤ 1000000) (hbase : base ≤ w.heap.size) :
    ∃ v' w', (Builtin.append_ #[29, 29] ty #[v, y]).run Tryd.prog w = .ok v' w' ∧ OwT base w' v' (l ++ m) ∧ w.grownBy w' v.ownBlock := by
  obtain ⟨i0, hi, hz0, hz1, hz2⟩ := info_parts infoS
  rcases hy.2 with ⟨rfl, hm⟩ | ⟨g, cap, cur, rfl, hB, hg, hn, hc, hsz, hxs⟩
  · have hnil : m = [] := List.length_eq_zero_iff.1 hm
    subst hnil
    rw [List.append_nil]
    obtain ⟨p, n, c, rfl, hle⟩ : ∃ p n c, v = .slice p n c ∧ n ≤ c := by
      rcases hown.2 with ⟨rfl, _⟩ | ⟨g, cap, cur, rfl, _, _, h, _⟩
      · exact ⟨_, _, _, rfl, Nat.le_refl _⟩
      · exact ⟨_, _, _, rfl, h⟩
    have hsrc : Src Tryd.prog i0.size 29 (.slice none 0 0) 0 [] w := ⟨.inl ⟨_, Tryd.underlying29⟩, fun _ => rfl, by simp [Builtin.firstCells], by simp [Builtin.firstCells], by simp, by simp⟩
    exact ⟨_, w, run_append_nothing w 29 29 ty 9 i0 Tryd.underlying29 hi p n c hle _ hsrc, hown, ⟨rfl, rfl, rfl, Nat.le_refl _, fun _ _ _ => rfl⟩⟩
  · obtain ⟨v', w', hr, h2, h3, h4, h5⟩ := run_append_own_at (P := Tryd.prog) w base 29 ty 9 i0 (.string ⟨#[]⟩) 1 16 Tryd.underlying29 hi hz0 hz1 hz2 rfl (by decide) v l.length (l.map fun p => .string (tx p)) hown
      ⟨g, 0, none⟩ m.length cap (m.map fun p => .string (tx p)) (by simp) (hy.cells rfl) (by intro u hu; rw [List.mem_map] at hu; obtain ⟨p, _, rfl⟩ := hu; rfl) (by unfold maxLen; omega) (by omega) hbase
    refine ⟨v', w', hr, ?_, h3⟩
    unfold OwT
    rw [List.length_append, List.map_append]; exact h2
theorem append_want {ops : Array Oper} {rest : List Oper} {o : Oper} {a : Act} {Q : Exit → Act → World → Prop} {w : World} (hw : Region.wanted o (yielded ops a.tmps) = true) (s x : Operand)
    (ho : o.op = .call { callee := .builtin .append, args := #[s, x], argTypes := #[29, 29] })
    {base B : Nat} {v y : Value} {l m : List (List UInt8)} (hs : a.eval s = v) (hx : a.eval x = y) (hown : OwT base w v l) (hy : OwT B w y m) (hlen : l.length + m.length ≤ 1000000) (hbase : base ≤ w.heap.size)
    (h : ∀ v' w', OwT base w' v' (l ++ m) → w.grownBy w' v.ownBlock → wpList Tryd.prog ops Q rest (a.put o.dst v') w') : wpList Tryd.prog ops Q (o :: rest) a w := by
  refine BigFrame.wpList_want hw fun K hK => ?_
  obtain ⟨v', w', hr, h2, h3⟩ := run_append_texts o.type hown hy hlen hbase
  unfold Oper.wp execOp
  simp only [ho, resolve, invoke, builtin, Sem.run_bind, Sem.run_pure, Result.andThen_ok, List.map_toArray, List.map_cons, List.map_nil, hs, hx, hr]
  exact hK _ _ (h v' w' h2 h3)
theorem OwT.lt {B : Nat} {w : World} {v : Value} {l : List (List UInt8)} (h : OwT B w v l) : ∀ k, v.ownBlock = some k → B ≤ k := fun k hk => (World.ownsRow.lt h k hk).1
end Go.Proofs.YthlcdbmcpjipdaaDoor.Fq
