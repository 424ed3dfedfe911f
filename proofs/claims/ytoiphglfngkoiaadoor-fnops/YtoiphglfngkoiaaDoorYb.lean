/-
  Slices of texts and of numbers: 'V1' (a slice that reads as these values), rows of a call's own, pieces of one; the laws' helpers over them: szStringS, toStringS, eqStringS, toInt64S, eqInt64S.
-/
import Derived.Test.YtoiphglfngkoiaaDoorYa
namespace Go.Proofs.YtoiphglfngkoiaaDoor.Cl
open Go.RowKit Wd Rp Kp
set_option linter.unusedVariables false
def tv (s : Tk) : Value := .string (tx s)
def iv (n : Int) : Value := .int .i64 n
/-- The slice reads as these values, one cell each. -/
def V1 (w : World) (a : Option Addr) (cap : Nat) (xs : List Value) : Prop :=
  xs.length ≤ cap ∧ cap ≤ maxLen ∧ (a = none → cap = 0) ∧ ∀ k x, xs[k]? = some x → ∃ g o, a = some ⟨g, o, none⟩ ∧ g < w.heap.size ∧ w.cell? ⟨g, o + k, none⟩ = some x
theorem V1.below {w w' : World} {a : Option Addr} {cap : Nat} {l : List Value} (h : V1 w a cap l) (hb : Below w.heap.size w w') : V1 w' a cap l := by
  obtain ⟨h1, h2, h3, h4⟩ := h
  refine ⟨h1, h2, h3, fun k c hk => ?_⟩
  obtain ⟨g, o, e, hg, hc⟩ := h4 k c hk
  exact ⟨g, o, e, Nat.lt_of_lt_of_le hg hb.size, (World.cell?_of_block (w := w) (hb.block g hg)).trans hc⟩
theorem V1.drop {w : World} {a : Option Addr} {cap : Nat} {l : List Value} (h : V1 w a cap l) {k : Nat} (hk : k ≤ l.length) : V1 w (if cap = k then a else a.map (·.add (k * 1))) (cap - k) (l.drop k) := by
  obtain ⟨h1, h2, h3, h4⟩ := h
  refine ⟨by rw [List.length_drop]; omega, by omega, fun e => ?_, fun i c hi => ?_⟩
  · split at e
    · have := h3 e; omega
    · have := h3 (by simpa using e); omega
  · rw [List.getElem?_drop] at hi
    have hil := (List.getElem?_eq_some_iff.1 hi).1
    obtain ⟨g, o, rfl, hg, h5⟩ := h4 (k + i) c hi
    rw [if_neg (by omega)]
    refine ⟨g, o + k, ?_, hg, ?_⟩
    · cases k <;> simp [Addr.add]
    · rwa [show o + (k + i) = o + k + i by omega] at h5
theorem V1.take {w : World} {a : Option Addr} {cap : Nat} {l : List Value} (h : V1 w a cap l) (k : Nat) : V1 w a cap (l.take k) := by
  obtain ⟨h1, h2, h3, h4⟩ := h
  refine ⟨by rw [List.length_take]; omega, h2, h3, fun i c hi => ?_⟩
  rw [List.getElem?_take] at hi
  split at hi
  · exact h4 i c hi
  · cases hi
theorem V1.cell {w : World} {a : Option Addr} {cap : Nat} {l : List Value} (h : V1 w a cap l) {k : Nat} {x : Value} (hk : l[k]? = some x) : ∃ g o, a = some ⟨g, o, none⟩ ∧ g < w.heap.size ∧ w.cell? ⟨g, o + k, none⟩ = some x := h.2.2.2 k x hk
/-- A row of a call's own, one cell an element. -/
def O1 (T : TypeId) (B : Nat) (w : World) (v : Value) (xs : List Value) : Prop := w.ownsRow B T 1 v xs.length xs
theorem O1.next {T : TypeId} {B : Nat} {w w' : World} {v : Value} {l : List Value} (h : O1 T B w v l) (hb : Below w.heap.size w w') : O1 T B w' v l := row_next h fun g _ hg => hb.block g hg
theorem O1.mono {T : TypeId} {B C : Nat} {w : World} {v : Value} {l : List Value} (h : O1 T B w v l) (hC : C ≤ B) : O1 T C w v l := by
  obtain ⟨h1, h2⟩ := h
  refine ⟨h1, ?_⟩
  rcases h2 with h2 | ⟨g, cap, cur, hv, hB, h3⟩
  · exact .inl h2
  · exact .inr ⟨g, cap, cur, hv, Nat.le_trans hC hB, h3⟩
theorem O1.view {T : TypeId} {B : Nat} {w : World} {v : Value} {l : List Value} (h : O1 T B w v l) : ∃ a cap, v = .slice a l.length cap ∧ V1 w a cap l := by
  obtain ⟨h1, h2⟩ := h
  rcases h2 with ⟨rfl, hn⟩ | ⟨g, cap, cur, rfl, hB, hg, hn, hc, hsz, hxs⟩
  · refine ⟨none, 0, by rw [hn], ⟨by omega, by decide, fun _ => rfl, fun k c hk => ?_⟩⟩
    have := (List.getElem?_eq_some_iff.1 hk).1; omega
  · refine ⟨_, cap, rfl, ⟨hn, hc, (fun e => by cases e), fun k c hk => ⟨g, 0, rfl, (Array.getElem?_eq_some_iff.1 hg).1, ?_⟩⟩⟩
    have hkl := (List.getElem?_eq_some_iff.1 hk).1
    have e1 := hk
    rw [← hxs, List.getElem?_take_of_lt (by omega)] at e1
    rw [← e1, Nat.zero_add]
    simp [World.cell?, hg]
theorem O1.lt {T : TypeId} {B : Nat} {w : World} {v : Value} {l : List Value} (h : O1 T B w v l) : ∀ k, v.ownBlock = some k → B ≤ k := fun k hk => (World.ownsRow.lt h k hk).1
theorem O1.low {T : TypeId} {B : Nat} {w : World} {v : Value} {l : List Value} (h : O1 T B w v l) : ∀ k, v.ownBlock = some k → k < w.heap.size := fun k hk => (World.ownsRow.lt h k hk).2
theorem O1.vw {T : TypeId} {B : Nat} {w : World} {a : Option Addr} {n cap : Nat} {l : List Value} (h : O1 T B w (.slice a n cap) l) : V1 w a cap l := by
  obtain ⟨a', cap', e, hv⟩ := h.view
  cases e
  exact hv
theorem O1.len {T : TypeId} {B : Nat} {w : World} {a : Option Addr} {n cap : Nat} {l : List Value} (h : O1 T B w (.slice a n cap) l) : l.length = n := by
  obtain ⟨a', cap', e, hv⟩ := h.view
  cases e
  rfl
theorem O1.start {T : TypeId} {B : Nat} {w : World} (h : B ≤ w.heap.size) : O1 T B (w.alloc (.cells #[] T)) (.slice (some ⟨w.heap.size, 0, none⟩) 0 0) [] := World.ownsRow_made w #[] 0 h (by decide) rfl
theorem O1.nothing (T : TypeId) (B : Nat) (w : World) : O1 T B w (.slice none 0 0) [] := World.ownsRow_nil w B _ _
theorem O1.lit {T : TypeId} {B : Nat} {w : World} (h : B ≤ w.heap.size) (cs : Array Value) (hm : cs.size ≤ maxLen) : O1 T B (w.alloc (.cells cs T)) (.slice (some ⟨w.heap.size, 0, none⟩) cs.size cs.size) cs.toList := by
  have := World.ownsRow_lit (base := B) (e := T) (size := 1) w cs cs.size h hm (by omega)
  unfold O1
  rw [Array.length_toList]; exact this
theorem O1.grown {T : TypeId} {B : Nat} {w w' : World} {v : Value} {l : List Value} {row : Option Nat} (h : O1 T B w v l) (hg : w.grownBy w' row) (hne : ∀ k, v.ownBlock = some k → row ≠ some k) : O1 T B w' v l := row_next h fun g hk hlt => hg.block g hlt (fun e => hne g hk e.symm)
theorem O1.frozen {T : TypeId} {B : Nat} {w : World} {g n cap : Nat} {l : List Value} (h : O1 T B w (.slice (some ⟨g, 0, none⟩) n cap) l) (hn : n = l.length) (j : Nat) : w.frozen? ⟨g, j, none⟩ = false := by
  subst hn
  exact World.ownsRow.frozenAt h j
theorem O1.set {T : TypeId} {B : Nat} {w : World} {g n cap : Nat} {l : List Value} (h : O1 T B w (.slice (some ⟨g, 0, none⟩) n cap) l) (hn : n = l.length) (k : Nat) (x : Value) :
    O1 T B (w.setCell ⟨g, k, none⟩ x) (.slice (some ⟨g, 0, none⟩) n cap) (l.set k x) := by
  subst hn
  unfold O1
  rw [List.length_set]
  exact (World.ownsRow.stored h k x).1
set_option maxRecDepth 100000 in
theorem cut1 (T : TypeId) (hu : Tryd.prog.underlying T = some (.slice (Tryd.prog.elem T))) (hs : ∀ w, (sizeOf (Tryd.prog.elem T)).run Tryd.prog w = .ok 1 w) (a : Option Addr) (n cap i j : Nat) (hij : i ≤ j) (hj : j ≤ n) (hc : n ≤ cap) : ∃ b cb, (∀ w, (Instr.slice T (.slice a n cap) (some (.int .i64 (i : Int))) (some (.int .i64 (j : Int))) none).run Tryd.prog w = .ok (.slice b (j - i) cb) w) ∧
    ∀ w l, V1 w a cap l → l.length = n → V1 w b cb ((l.drop i).take (j - i)) := by
  refine ⟨_, _, fun w => ?_, fun w l h hl => (h.drop (k := i) (by omega)).take (j - i)⟩
  rw [run_slice_lh w T a n cap hu .i64 .i64 (i : Int) (j : Int) (by omega) (by omega) (by omega), hs]
  rfl
set_option maxRecDepth 100000 in
theorem cut1_to (T : TypeId) (hu : Tryd.prog.underlying T = some (.slice (Tryd.prog.elem T))) (hs : ∀ w, (sizeOf (Tryd.prog.elem T)).run Tryd.prog w = .ok 1 w) (a : Option Addr) (n cap j : Nat) (hj : j ≤ n) (hc : n ≤ cap) (w : World) : (Instr.slice T (.slice a n cap) none (some (.int .i64 (j : Int))) none).run Tryd.prog w = .ok (.slice a j cap) w := by
  rw [run_slice_h w T a n cap hu .i64 (j : Int) (by omega) (by omega), hs]
  show Result.ok (Value.slice (if cap = 0 then a else a.map (·.add (0 * 1))) (j - 0) (cap - 0)) w = _
  congr 2
  split
  · rfl
  · cases a <;> simp [Addr.add]
/-- Texts, numbers. -/
def txL (l : List Tk) : List Value := l.map tv
def inL (l : List Int) : List Value := l.map iv
theorem txL_len (l : List Tk) : (txL l).length = l.length := List.length_map _
theorem inL_len (l : List Int) : (inL l).length = l.length := List.length_map _
theorem txL_get {l : List Tk} {k : Nat} {s : Tk} (h : l[k]? = some s) : (txL l)[k]? = some (tv s) := by unfold txL; rw [List.getElem?_map, h]; rfl
theorem inL_get {l : List Int} {k : Nat} {n : Int} (h : l[k]? = some n) : (inL l)[k]? = some (iv n) := by unfold inL; rw [List.getElem?_map, h]; rfl
theorem V1.tx {w : World} {a : Option Addr} {cap : Nat} {l : List Tk} (h : V1 w a cap (txL l)) {k : Nat} {s : Tk} (hk : l[k]? = some s) : ∃ g o, a = some ⟨g, o, none⟩ ∧ g < w.heap.size ∧ w.cell? ⟨g, o + k, none⟩ = some (.string (tx s)) := h.cell (txL_get hk)
theorem V1.iv {w : World} {a : Option Addr} {cap : Nat} {l : List Int} (h : V1 w a cap (inL l)) {k : Nat} {n : Int} (hk : l[k]? = some n) : ∃ g o, a = some ⟨g, o, none⟩ ∧ g < w.heap.size ∧ w.cell? ⟨g, o + k, none⟩ = some (.int .i64 n) := h.cell (inL_get hk)
/-- A slice of texts, of numbers, of a call's own. -/
def OT (B : Nat) (w : World) (v : Value) (l : List Tk) : Prop := O1 9 B w v (txL l)
def ON (B : Nat) (w : World) (v : Value) (l : List Int) : Prop := O1 2 B w v (inL l)
theorem OT.next {B : Nat} {w w' : World} {v : Value} {l : List Tk} (h : OT B w v l) (hb : Below w.heap.size w w') : OT B w' v l := O1.next h hb
theorem ON.next {B : Nat} {w w' : World} {v : Value} {l : List Int} (h : ON B w v l) (hb : Below w.heap.size w w') : ON B w' v l := O1.next h hb
theorem OT.lt {B : Nat} {w : World} {v : Value} {l : List Tk} (h : OT B w v l) : ∀ k, v.ownBlock = some k → B ≤ k := O1.lt h
theorem ON.lt {B : Nat} {w : World} {v : Value} {l : List Int} (h : ON B w v l) : ∀ k, v.ownBlock = some k → B ≤ k := O1.lt h
theorem OT.low {B : Nat} {w : World} {v : Value} {l : List Tk} (h : OT B w v l) : ∀ k, v.ownBlock = some k → k < w.heap.size := O1.low h
theorem ON.low {B : Nat} {w : World} {v : Value} {l : List Int} (h : ON B w v l) : ∀ k, v.ownBlock = some k → k < w.heap.size := O1.low h
theorem OT.vw {B : Nat} {w : World} {a : Option Addr} {n cap : Nat} {l : List Tk} (h : OT B w (.slice a n cap) l) : V1 w a cap (txL l) := O1.vw h
theorem ON.vw {B : Nat} {w : World} {a : Option Addr} {n cap : Nat} {l : List Int} (h : ON B w (.slice a n cap) l) : V1 w a cap (inL l) := O1.vw h
theorem info1T : (Tryd.prog.info? 9).map (fun i => (i.zero, i.size, i.bytes)) = some (some (.string ⟨#[]⟩), 1, 16) := by kernel_rfl
theorem info1N : (Tryd.prog.info? 2).map (fun i => (i.zero, i.size, i.bytes)) = some (some (.int .i64 0), 1, 8) := by kernel_rfl
end Go.Proofs.YtoiphglfngkoiaaDoor.Cl
