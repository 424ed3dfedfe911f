/-
  copy of cells into a slice of the call's own; append onto a slice without room; the contract of impl.copyOfCells.
-/
import Derived.Test.YtopcjiaakefmeaaCi
import Derived.Laws.CopyRow
namespace Go.Proofs.Ytopcjiaakefmeaa.Cl
open Go.RowKit Wd Rp Kp
set_option linter.unusedVariables false
theorem run_copy_cells {w : World} {base g n cap : Nat} {a : Option Addr} {l m : List Cel} (ty : TypeId) (hown : OwC base w (.slice (some ⟨g, 0, none⟩) n n) m) (hm : m.length = n) (hl : l.length = n) (hy : Vw w a cap l) :
    ∃ w', (Builtin.copy_ #[24, 24] ty #[.slice (some ⟨g, 0, none⟩) n n, .slice a n cap]).run Try.prog w = .ok (goInt n) w' ∧ OwC base w' (.slice (some ⟨g, 0, none⟩) n n) l ∧ w.grownBy w' (some g) := by
  obtain ⟨i0, hi, hz0, hz1, hz2⟩ := info_parts infoC
  subst hm
  rcases hown.2 with ⟨e, _⟩ | ⟨g', cap', cur, e, hB, hg, hnc, hcm, hsz, hxs⟩
  · cases e
  · cases e
    cases a with
    | none =>
      have hc := hy.2.2.1 rfl
      have hn0 : m.length = 0 := by have := hy.1; omega
      subst hc
      obtain rfl : m = [] := List.length_eq_zero_iff.1 hn0
      obtain rfl : l = [] := List.length_eq_zero_iff.1 hl
      refine ⟨w, ?_, hown, World.grownBy.refl _ _⟩
      exact run_copy_nil (P := Try.prog) w 24 24 ty 33 ⟨g, 0, none⟩ 0 0 Try.underlying24 (by rw [hi]; rfl)
    | some ad =>
      have hfl : (flat l).length = m.length * 5 := by rw [flat_len, hl]
      have hld := run_loadCells_list (P := Try.prog) w ad (flat l) (vw_cells hy)
      have hst := run_storeCells_at Try.prog g 0 33 (flat l) 0 cur w hg (by rw [hfl, hsz]; omega) (flat_one l)
      have hrow : (cur.toList.take (0 + 0) ++ flat l ++ cur.toList.drop (0 + 0 + (flat l).length)).toArray = (flat l).toArray := by
        rw [hfl, Nat.zero_add, Nat.zero_add, List.take_zero, List.nil_append, List.drop_eq_nil_of_le (by rw [Array.length_toList, hsz]; exact Nat.le_refl _), List.append_nil]
      rw [hrow] at hst
      rw [hfl] at hld
      refine ⟨w.setRow g (flat l).toArray, ?_, ⟨flat_len l, .inr ⟨g, m.length, (flat l).toArray, by rw [hl], hB, setRow_heap w g cur _ _ _ hg, by omega, hcm, by simp [hfl], by rw [List.take_of_length_le (by simp [flat_len])]⟩⟩, ⟨rfl, rfl, rfl, by simp [World.setRow], fun k _ hk => setRow_other w g k _ (fun e => hk (by rw [e]))⟩⟩
      simp [Builtin.copy_, run_underlying Try.underlying24, Builtin.lenOf, Builtin.firstCells, sizeOf, typeInfo, hi, hz1, hld, hst]
set_option maxRecDepth 100000 in
set_option maxHeartbeats 2000000 in
theorem copyOf_any (w : World) (a : Option Addr) (cap : Nat) (l : List Cel) (n : Nat) (hn : l.length = n) (hv : Vw w a cap l) (hl : n ≤ 4194304) :
    Calls Try.prog 121 #[.slice a n cap] w fun e w' => ∃ v, e = .returned v ∧ OwC w.heap.size w' v l ∧ Below w.heap.size w w' := by
  obtain ⟨i0, hi, hz0, hz1, hz2⟩ := info_parts infoC
  have HV := Lib.hid hv; clear hv
  go_enter Try.func121, Try.ntmps121
  go_wp2_with (first
    | (at_make; refine wpList_make_full _ rfl (.tmp 5) (.tmp 5) 24 rfl w.heap.size 33 i0 _ 5 Try.underlying24 hi hz0 hz1 .i64 .i64 _ _ n rfl rfl rfl rfl (by rw [hz2]; omega) (by unfold maxLen; omega) (Nat.le_refl _) ?_; intro w1 hown1 hgrow1))
  have hst : OwC w.heap.size w1 (.slice (some ⟨w.heap.size, 0, none⟩) n n) (List.replicate n zc) := by
    unfold OwC; rw [List.length_replicate, ← made_flat]; exact hown1
  have hb1 : Below w.heap.size w w1 := (Below.refl _ _).grown hgrow1 (Nat.le_refl _) (fun _ h => by cases h)
  have H1 := Lib.hid (And.intro hst hb1); clear hst hb1 hown1 hgrow1
  obtain ⟨w2, hr, o2, g2⟩ := run_copy_cells 3 H1.out.1 List.length_replicate hn (HV.out.below H1.out.2)
  rw [hr]; clear hr
  have O2 := Lib.hid (And.intro o2 (H1.out.2.grown g2 H1.out.2.size (fun j hj => by cases hj; exact Nat.le_refl _))); clear o2 g2
  go_wp2_with fail
  go_ret
  exact ⟨_, rfl, O2.out.1, O2.out.2⟩
theorem run_append_full {w : World} {a ad : Option Addr} {k cap n : Nat} {l m : List Cel} (ty : TypeId) (hl : l.length = k) (hv : Vw w a k l) (hm : m.length = n) (hy : Vw w ad cap m) (hn : 0 < n) (hlen : k + n ≤ 10000000) :
    ∃ v' w', (Builtin.append_ #[24, 24] ty #[.slice a k k, .slice ad n cap]).run Try.prog w = .ok v' w' ∧ OwC w.heap.size w' v' (l ++ m) ∧ Below w.heap.size w w' := by
  obtain ⟨i0, hi, hz0, hz1, hz2⟩ := info_parts infoC
  obtain ⟨ad, rfl⟩ : ∃ x, ad = some x := by
    cases ad with
    | none => have := hy.2.2.1 rfl; have := hy.1; omega
    | some x => exact ⟨x, rfl⟩
  have h1 := grownCap_ge w (k + n) k 33
  have hcm : grownCap w (k + n) k 33 ≤ maxLen := grownCap_le_maxLen w (k + n) k 33 (by unfold maxLen; omega)
  have fin : ∀ cs : Array Value, cs = (flat l).toArray ++ (flat m).toArray ++ Builtin.zeroCells (Value.agg #[.string ⟨#[]⟩, .string ⟨#[]⟩, .int .i64 0, .int .i64 0, .bool false]).cells (grownCap w (k + n) k 33 - (k + n)) →
      OwC w.heap.size (w.drew.alloc (.cells cs 33)) (.slice (some ⟨w.heap.size, 0, none⟩) (k + n) (grownCap w (k + n) k 33)) (l ++ m) := fun cs hcs => by
    refine ⟨flat_len _, .inr ⟨w.heap.size, grownCap w (k + n) k 33, cs, by rw [List.length_append, hl, hm], Nat.le_refl _, heap_alloc_new w.drew _, by rw [List.length_append, hl, hm]; exact h1, hcm, ?_, ?_⟩⟩
    · rw [hcs]
      simp only [Array.size_append, List.size_toArray, size_zeroCells, flat_len, hl, hm]
      show k * 5 + n * 5 + (grownCap w (k + n) k 33 - (k + n)) * 5 = _
      omega
    · rw [hcs, flat_app, ← flat_len, flat_app]
      simp only [Array.toList_append, List.append_assoc]
      rw [← List.append_assoc]
      exact List.take_left
  have hbel : ∀ o, Below w.heap.size w (w.drew.alloc o) := fun o => (Below.refl _ _).drew.alloc (Nat.le_refl _) o
  cases a with
  | none =>
    obtain rfl : k = 0 := hv.2.2.1 rfl
    obtain rfl : l = [] := List.length_eq_zero_iff.1 hl
    refine ⟨_, _, run_append_nil (P := Try.prog) w 24 ty 33 i0 _ Try.underlying24 hi hz0 ad n cap (flat m) (by rw [flat_len, hm, hz1]) (vw_cells hy) hn (by omega) (by rw [hz2]; omega), ?_, hbel _⟩
    have := fin _ rfl
    simpa [flat] using this
  | some b =>
    refine ⟨_, _, run_append_grow (P := Try.prog) w 24 ty 33 i0 _ Try.underlying24 hi hz0 b k k (flat l) (by rw [flat_len, hl, hz1]) (vw_cells hv) ad n cap (flat m) (by rw [flat_len, hm, hz1]) (vw_cells hy) (by omega) (by omega) (growslice_fits (by omega) (by rw [hz2]; omega)), fin _ rfl, hbel _⟩
theorem step_append_full {ops : Array Oper} {o : Oper} {a : Act} {Q : Exit → Act → World → Prop} {K : Act → World → Prop} {w : World} (hw : Region.wanted o (yielded ops a.tmps) = true) (s x : Operand)
    (ho : o.op = .call { callee := .builtin .append, args := #[s, x], argTypes := #[24, 24] })
    {av ad : Option Addr} {k cap n : Nat} {l m : List Cel} (hs : a.eval s = .slice av k k) (hx : a.eval x = .slice ad n cap) (hl : l.length = k) (hv : Vw w av k l) (hmn : m.length = n) (hy : Vw w ad cap m) (hn : 0 < n) (hlen : k + n ≤ 10000000)
    (h : ∀ v' w', OwC w.heap.size w' v' (l ++ m) → Below w.heap.size w w' → K (a.put o.dst v') w') :
    if Region.wanted o (yielded ops a.tmps) = true then Oper.wp Try.prog o a w K Q else K (a.put o.dst undef) w := by
  rw [if_pos hw]
  obtain ⟨v', w', hr, h2, h3⟩ := run_append_full o.type hl hv hmn hy hn hlen
  unfold Oper.wp execOp
  simp only [ho, resolve, invoke, builtin, Sem.run_bind, Sem.run_pure, Result.andThen_ok, List.map_toArray, List.map_cons, List.map_nil, hs, hx, hr]
  exact h v' w' h2 h3
set_option maxRecDepth 100000 in
theorem cut_full (a : Option Addr) (n cap k : Nat) (hk : k ≤ n) (hn : n ≤ cap) (hz : a = none → cap = 0) : (∀ w, (Instr.slice 24 (.slice a n cap) none (some (.int .i64 (k : Int))) (some (.int .i64 (k : Int)))).run Try.prog w = .ok (.slice a k k) w) ∧
    ∀ w l, Vw w a cap l → l.length = n → Vw w a k (l.take k) := by
  refine ⟨fun w => ?_, fun w l h hl => h.take (by omega) (Nat.le_refl _) (by omega) (fun e => by have := hz e; omega)⟩
  have hu : Try.prog.underlying 24 = some (.slice (Try.prog.elem 24)) := by kernel_rfl
  have hs : ∀ w, (sizeOf (Try.prog.elem 24)).run Try.prog w = .ok 5 w := fun w => by
    rw [show Try.prog.elem 24 = 33 by kernel_rfl]; exact Try.sizeOf33 w
  rw [run_slice_hm w 24 a n cap hu .i64 .i64 (k : Int) (k : Int) (by omega) (by omega) (by omega), hs]
  show Result.ok (Value.slice (if k = 0 then a else a.map (·.add (0 * 5))) (k - 0) (k - 0)) w = _
  congr 2
  split
  · rfl
  · cases a <;> simp [Addr.add]
end Go.Proofs.Ytopcjiaakefmeaa.Cl
