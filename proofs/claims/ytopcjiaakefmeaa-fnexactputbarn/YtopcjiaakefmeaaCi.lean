/-
  append of cells onto a slice of cells that the call has made; pieces of a slice of cells; the contract of spec.l4Copy.
-/
import Derived.Test.YtopcjiaakefmeaaCe
import Derived.Test.YtopcjiaakefmeaaCg
import Derived.BigFrame
import Derived.Deep.Upon
import Derived.Deep.RegionHeld3
namespace Go.Proofs.Ytopcjiaakefmeaa.Cl
open Go.RowKit Wd Rp Kp
set_option linter.unusedVariables false
theorem coc {p : Addr} {v : Value} {r z : World} (hz : Below r.heap.size r z) (hg : p.block < r.heap.size) (h : r.cell? p = some v) : z.cell? p = some v := (World.cell?_of_block (w := r) (hz.block p.block hg)).trans h
theorem vw_cells {w : World} {ad : Addr} {cap : Nat} {m : List Cel} (h : Vw w (some ad) cap m) : ∀ j u, (flat m)[j]? = some u → w.cell? (ad.add j) = some u := by
  intro j u hj
  have hl : j < m.length * 5 := by rw [← flat_len]; exact (List.getElem?_eq_some_iff.1 hj).1
  have hk : j / 5 < m.length := by omega
  obtain ⟨g, o, e, -, h0, h1, h2, h3, h4⟩ := h.2.2.2 (j / 5) m[j / 5] (List.getElem?_eq_getElem hk)
  cases e
  have hadd : ∀ j, (⟨g, o, none⟩ : Addr).add j = ⟨g, o + j, none⟩ := fun j => by cases j <;> simp [Addr.add]
  have e1 := flat_get m (j / 5) (j % 5) m[j / 5] (List.getElem?_eq_getElem hk) (by omega)
  rw [show j / 5 * 5 + j % 5 = j by omega, hj] at e1
  rw [hadd]
  have hm : j % 5 < 5 := by omega
  have ho : o + j = o + j / 5 * 5 + j % 5 := by omega
  rw [ho, e1]
  generalize j % 5 = i at hm
  match i, hm with
  | 0, _ => exact h0
  | 1, _ => exact h1
  | 2, _ => exact h2
  | 3, _ => exact h3
  | 4, _ => exact h4
theorem run_append_cells {w : World} {base : Nat} {v : Value} {a : Option Addr} {cap : Nat} {l m : List Cel} (ty : TypeId) (hown : OwC base w v l) (hy : Vw w a cap m) (hlen : l.length + m.length ≤ 10000000) (hbase : base ≤ w.heap.size) :
    ∃ v' w', (Builtin.append_ #[24, 24] ty #[v, .slice a m.length cap]).run Try.prog w = .ok v' w' ∧ OwC base w' v' (l ++ m) ∧ w.grownBy w' v.ownBlock ∧ (v'.ownBlock = v.ownBlock ∨ v'.ownBlock = some w.heap.size) := by
  obtain ⟨i0, hi, hz0, hz1, hz2⟩ := info_parts infoC
  cases a with
  | none =>
    have hc := hy.2.2.1 rfl
    have hm : m = [] := List.length_eq_zero_iff.1 (by have := hy.1; omega)
    subst hm hc
    rw [List.append_nil]
    exact ⟨v, w, run_append_owned_none w base 24 ty 33 i0 5 Try.underlying24 hi v _ _ hown, hown, World.grownBy.refl _ _, Or.inl rfl⟩
  | some ad =>
    obtain ⟨v', w', hr, h2, h3, h4, h5⟩ := run_append_own_at (P := Try.prog) w base 24 ty 33 i0 _ 5 56 Try.underlying24 hi hz0 hz1 hz2 rfl (by decide) v l.length (flat l) hown
      ad m.length cap (flat m) (flat_len m) (vw_cells hy) (flat_one m) (by unfold maxLen; omega) (by omega) hbase
    refine ⟨v', w', hr, ?_, h3, h5⟩
    unfold OwC
    rw [List.length_append, flat_app]; exact h2
theorem step_append_cells {ops : Array Oper} {o : Oper} {a : Act} {Q : Exit → Act → World → Prop} {K : Act → World → Prop} {w : World} (hw : Region.wanted o (yielded ops a.tmps) = true) (s x : Operand)
    (ho : o.op = .call { callee := .builtin .append, args := #[s, x], argTypes := #[24, 24] })
    {base : Nat} {v : Value} {ad : Option Addr} {cap n : Nat} {l m : List Cel} (hs : a.eval s = v) (hx : a.eval x = .slice ad n cap) (hmn : m.length = n) (hown : OwC base w v l) (hy : Vw w ad cap m) (hlen : l.length + m.length ≤ 10000000) (hbase : base ≤ w.heap.size)
    (h : ∀ v' w', OwC base w' v' (l ++ m) → w.grownBy w' v.ownBlock → K (a.put o.dst v') w') :
    if Region.wanted o (yielded ops a.tmps) = true then Oper.wp Try.prog o a w K Q else K (a.put o.dst undef) w := by
  rw [if_pos hw]
  subst hmn
  obtain ⟨v', w', hr, h2, h3, -⟩ := run_append_cells o.type hown hy hlen hbase
  unfold Oper.wp execOp
  simp only [ho, resolve, invoke, builtin, Sem.run_bind, Sem.run_pure, Result.andThen_ok, List.map_toArray, List.map_cons, List.map_nil, hs, hx, hr]
  exact h v' w' h2 h3
theorem append_cells {ops : Array Oper} {rest : List Oper} {o : Oper} {a : Act} {Q : Exit → Act → World → Prop} {w : World} (hw : Region.wanted o (yielded ops a.tmps) = true) (s x : Operand)
    (ho : o.op = .call { callee := .builtin .append, args := #[s, x], argTypes := #[24, 24] })
    {base : Nat} {v : Value} {ad : Option Addr} {cap n : Nat} {l m : List Cel} (hs : a.eval s = v) (hx : a.eval x = .slice ad n cap) (hmn : m.length = n) (hown : OwC base w v l) (hy : Vw w ad cap m) (hlen : l.length + m.length ≤ 10000000) (hbase : base ≤ w.heap.size)
    (h : ∀ v' w', OwC base w' v' (l ++ m) → w.grownBy w' v.ownBlock → wpList Try.prog ops Q rest (a.put o.dst v') w') : wpList Try.prog ops Q (o :: rest) a w := by
  refine BigFrame.wpList_want hw fun K hK => ?_
  subst hmn
  obtain ⟨v', w', hr, h2, h3, -⟩ := run_append_cells o.type hown hy hlen hbase
  unfold Oper.wp execOp
  simp only [ho, resolve, invoke, builtin, Sem.run_bind, Sem.run_pure, Result.andThen_ok, List.map_toArray, List.map_cons, List.map_nil, hs, hx, hr]
  exact hK _ _ (h v' w' h2 h3)
theorem OwC.lt {B : Nat} {w : World} {v : Value} {l : List Cel} (h : OwC B w v l) : ∀ k, v.ownBlock = some k → B ≤ k := fun k hk => (World.ownsRow.lt h k hk).1
theorem OwC.start {B : Nat} {w : World} (h : B ≤ w.heap.size) : OwC B (w.alloc (.cells #[] 33)) (.slice (some ⟨w.heap.size, 0, none⟩) 0 0) [] := World.ownsRow_made w #[] 0 h (by decide) rfl
theorem OwC.nothing (B : Nat) (w : World) : OwC B w (.slice none 0 0) [] := World.ownsRow_nil w B _ _
theorem OwC.lit {B : Nat} {w : World} (h : B ≤ w.heap.size) (c : Cel) : OwC B (w.alloc (.cells #[.string c.r, .string c.b, .int .i64 c.t, .int .i64 c.v, .bool c.g] 33)) (.slice (some ⟨w.heap.size, 0, none⟩) 1 1) [c] :=
  World.ownsRow_lit (base := B) (e := 33) (size := 5) w #[.string c.r, .string c.b, .int .i64 c.t, .int .i64 c.v, .bool c.g] 1 h (by decide) rfl
theorem Vw.lit (w : World) (c : Cel) : Vw (w.alloc (.cells #[.string c.r, .string c.b, .int .i64 c.t, .int .i64 c.v, .bool c.g] 33)) (some ⟨w.heap.size, 0, none⟩) 1 [c] := by
  obtain ⟨a, cap, e, hv, -⟩ := (OwC.lit (B := 0) (w := w) (Nat.zero_le _) c).view
  cases e
  exact hv
/-- A piece from k on, and up to k. -/
theorem Vw.drop {w : World} {a : Option Addr} {cap : Nat} {l : List Cel} (h : Vw w a cap l) {k : Nat} (hk : k ≤ l.length) : Vw w (if cap = k then a else a.map (·.add (k * 5))) (cap - k) (l.drop k) := by
  obtain ⟨h1, h2, h3, h4⟩ := h
  refine ⟨by rw [List.length_drop]; omega, by omega, fun e => ?_, fun i c hi => ?_⟩
  · split at e
    · have := h3 e; omega
    · have := h3 (by simpa using e); omega
  · rw [List.getElem?_drop] at hi
    have hil := (List.getElem?_eq_some_iff.1 hi).1
    obtain ⟨g, o, rfl, hg, h5⟩ := h4 (k + i) c hi
    rw [if_neg (by omega)]
    refine ⟨g, o + k * 5, ?_, hg, ?_⟩
    · simp [Addr.add]
    · rwa [show o + (k + i) * 5 = o + k * 5 + i * 5 by omega] at h5
theorem Vw.take {w : World} {a : Option Addr} {cap : Nat} {l : List Cel} (h : Vw w a cap l) {k m : Nat} (hk : k ≤ l.length) (hm : k ≤ m) (hc : m ≤ cap) (ha : a = none → m = 0) : Vw w a m (l.take k) := by
  obtain ⟨h1, h2, h3, h4⟩ := h
  refine ⟨by rw [List.length_take]; omega, by omega, ha, fun i c hi => ?_⟩
  rw [List.getElem?_take] at hi
  split at hi
  · exact h4 i c hi
  · cases hi
set_option maxRecDepth 100000 in
theorem cut_from (a : Option Addr) (n cap k : Nat) (hk : k ≤ n) : ∃ b cb, (∀ w, (Instr.slice 24 (.slice a n cap) (some (.int .i64 (k : Int))) none none).run Try.prog w = .ok (.slice b (n - k) cb) w) ∧
    ∀ w l, Vw w a cap l → l.length = n → Vw w b cb (l.drop k) := by
  refine ⟨_, _, fun w => ?_, fun w l h hl => h.drop (k := k) (by omega)⟩
  have hu : Try.prog.underlying 24 = some (.slice (Try.prog.elem 24)) := by kernel_rfl
  have hs : ∀ w, (sizeOf (Try.prog.elem 24)).run Try.prog w = .ok 5 w := fun w => by
    rw [show Try.prog.elem 24 = 33 by kernel_rfl]; exact Try.sizeOf33 w
  rw [run_slice_l w 24 a n cap hu .i64 (k : Int) (by omega) (by omega), hs]
  rfl
set_option maxRecDepth 100000 in
theorem cut_to (a : Option Addr) (n cap k : Nat) (hk : k ≤ n) (hn : n ≤ cap) (hz : a = none → cap = 0) : (∀ w, (Instr.slice 24 (.slice a n cap) none (some (.int .i64 (k : Int))) none).run Try.prog w = .ok (.slice a k cap) w) ∧
    ∀ w l, Vw w a cap l → l.length = n → Vw w a cap (l.take k) := by
  refine ⟨fun w => ?_, fun w l h hl => h.take (by omega) (by omega) (Nat.le_refl _) hz⟩
  have hu : Try.prog.underlying 24 = some (.slice (Try.prog.elem 24)) := by kernel_rfl
  have hs : ∀ w, (sizeOf (Try.prog.elem 24)).run Try.prog w = .ok 5 w := fun w => by
    rw [show Try.prog.elem 24 = 33 by kernel_rfl]; exact Try.sizeOf33 w
  rw [run_slice_h w 24 a n cap hu .i64 (k : Int) (by omega) (by omega), hs]
  show Result.ok (Value.slice (if cap = 0 then a else a.map (·.add (0 * 5))) (k - 0) (cap - 0)) w = _
  congr 2
  split
  · rfl
  · cases a <;> simp [Addr.add]
set_option maxHeartbeats 2000000 in
theorem l4Copy_any (w : World) (a : Option Addr) (cap : Nat) (l : List Cel) (n : Nat) (hn : l.length = n) (hv : Vw w a cap l) (hl : n ≤ 4194304) :
    Calls Try.prog 106 #[.slice a n cap] w fun e w' => ∃ v, e = .returned v ∧ OwC w.heap.size w' v l ∧ Below w.heap.size w w' := by
  subst hn
  have HV := Lib.hid hv; clear hv
  go_enter Try.func106, Try.ntmps106
  go_wp2_with (first
    | (at_builtin; refine append_cells rfl (.tmp 3) (.tmp 4) rfl (base := w.heap.size) (l := []) (m := l) rfl rfl rfl (OwC.start (Nat.le_refl _)) (HV.out.below (bel1 _ _)) (by simp; omega) (by simp) ?_; intro v1 w1 hown1 hgrow1))
  go_ret
  exact ⟨_, rfl, hown1, (bel1 w _).grown hgrow1 (by simp) (fun j hj => OwC.lt (OwC.start (Nat.le_refl _)) j hj)⟩
end Go.Proofs.Ytopcjiaakefmeaa.Cl
