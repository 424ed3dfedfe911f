/-
  slices.Values over a slice of slices, impl.shelvesOf: what they hand over.
-/
import Derived.RangeFuncNested
import Derived.RangeFuncLeaves
import Derived.Shelf.Abstract
import Derived.Shelf.RegionOpen
import Derived.WalkKit
import Derived.OwnWalkIn
import Derived.TacticsInMore
import Derived.LoopNIn
import Derived.LoopIn
import Derived.Test.YtefhdhblcaopiaaRa
import Derived.Test.YtefhdhblcaopiaaWd
namespace Go.Proofs.Ytefhdhblcaopiaa.Ra
open Go.RowKit Go.Shelf
attribute [local go_sem] Oper.semAt_some
set_option linter.unusedVariables false
/-- The header of a slice. -/
structure Hd where
  a : Option Addr
  n : Nat
  c : Nat
def Hd.val (h : Hd) : Value := .slice h.a h.n h.c
/-- The slice at a reads, below n₀, as these headers. -/
def Hds (n₀ : Nat) (w : World) (a : Option Addr) (hs : List Hd) : Prop := ∀ (j : Nat) (h : Hd), hs[j]? = some h → ∃ g o, a = some ⟨g, o, none⟩ ∧ g < n₀ ∧ w.cell? ⟨g, o + j, none⟩ = some (.slice h.a h.n h.c)
theorem Hds.below {n₀ : Nat} {w w' : World} {a : Option Addr} {hs : List Hd} (h : Hds n₀ w a hs) (hb : Below n₀ w w') : Hds n₀ w' a hs := fun j x hx => by
  obtain ⟨g, o, e, hg, hc⟩ := h j x hx
  exact ⟨g, o, e, hg, (hb.cell (p := ⟨g, o + j, none⟩) hg).trans hc⟩
theorem next_pre {xs : List Value} {k : Nat} {x : Value} (h : xs[k]? = some x) : xs.take (k + 1) = xs.take k ++ [x] := by
  rw [List.take_succ_eq_append_getElem (List.getElem?_eq_some_iff.1 h).1, (List.getElem?_eq_some_iff.1 h).2]
theorem pre_at {hs : List Hd} {pre : List Value} {x : Value} (h : pre ++ [x] <+: hs.map Hd.val) : ∃ y : Hd, hs[pre.length]? = some y ∧ x = .slice y.a y.n y.c := by
  obtain ⟨r, hr⟩ := h
  have : (hs.map Hd.val)[pre.length]? = some x := by rw [← hr]; simp
  rw [List.getElem?_map] at this
  cases e : hs[pre.length]? with
  | none => rw [e] at this; cases this
  | some y => rw [e] at this; exact ⟨y, rfl, (Option.some.inj this).symm⟩
theorem pre_len {hs : List Hd} {pre : List Value} (h : pre <+: hs.map Hd.val) : pre.length ≤ hs.length := by have := h.length_le; simpa using this
set_option maxRecDepth 100000 in
set_option maxHeartbeats 2000000 in
theorem values1_hands (F : Nat → Prop) (n₀ B : Nat) (a : Option Addr) (cap N : Nat) (hs : List Hd) (hN : hs.length = N) (hlen : N ≤ 1000000) (w : World) (hB : B < w.heap.size) (hn : n₀ ≤ w.heap.size)
    (hbox : w.cell? ⟨B, 0, none⟩ = some (.slice a N cap)) (hx : Hds n₀ w a hs) (hF : ∀ g o, a = some ⟨g, o, none⟩ → hs ≠ [] → ¬ F g) :
    Hands Try.prog 139 #[.pointer (some ⟨B, 0, none⟩)] F (hs.map Hd.val) w := by
  intro l J Jx W hW hl0 hl hFk hJ hJx hY h0 n
  clear hFk
  have hc0 := (hW.cell (p := ⟨B, 0, none⟩) hB).trans hbox
  have hx0 := Lib.hid (hx.below (hW.mono hn)); clear hx hbox
  have hws := hW.size
  clear hW
  have HY := Lib.hid hY; clear hY
  have HF := Lib.hid hF; clear hF
  have HL := Lib.hid (show (hs.map Hd.val).length = N by simpa using hN); clear hN
  refine callsIn_of_wp Try.func139 rfl trivial ?_ rfl
  simp only [Try.ntmps139, List.size_toArray, List.length_cons, List.length_nil, Nat.reduceAdd, Nat.reduceSub, Array.replicate_succ, Array.replicate_zero, List.push_toArray, List.append_toArray, List.nil_append, List.cons_append]
  gi_wp2
  gi_loopw [7] (fun i wr => ∃ (k : Nat) (gg : Option Nat), k ≤ N ∧ i = .int .i64 k ∧ J ((hs.map Hd.val).take k, gg) wr ∧ (∀ q, gg = some q → W.heap.size ≤ q) ∧ W.heap.size ≤ wr.heap.size ∧ ∀ q, q < n₀ → ¬ F q → wr.heap[q]? = W.heap[q]?) (fun i _ => N - (intOf i).toNat)
  case atStart => exact ⟨0, none, Nat.zero_le _, rfl, h0, (fun q e => by cases e), Nat.le_refl _, fun _ _ _ => rfl⟩
  case round =>
    obtain ⟨k, gg, hk, rfl, hJs, hgg, hsz, hnx⟩ := hrel
    by_cases hlt : k < N
    · obtain ⟨h, hh⟩ : ∃ h, hs[k]? = some h := ⟨hs[k]'(by have := HL.out; rw [List.length_map] at this; omega), List.getElem?_eq_getElem _⟩
      have hv : (hs.map Hd.val)[k]? = some (.slice h.a h.n h.c) := by rw [List.getElem?_map, hh]; rfl
      obtain ⟨g, o, rfl, hg, hc⟩ := hx0.out k h hh
      have hcx : wr.cell? ⟨g, o + k, none⟩ = some (.slice h.a h.n h.c) := (World.cell?_of_block (hnx g hg (HF.out g o rfl (fun e => by rw [e] at hh; simp at hh)))).trans hc
      obtain ⟨fn, tmps, assign, body, hy, hR⟩ := HY.out _ _ (by rw [← next_pre hv]; exact List.take_prefix _ _) gg wr (n - 1) hJs
      rw [← next_pre hv] at hR
      have HNX := Lib.hid hnx; clear hnx
      have HGG := Lib.hid hgg; clear hgg
      clear hc hh hv
      gi_wp2
      refine ⟨fun h => (by cases h), hR.mono ?_⟩
      rintro e W3 (⟨rfl, g', hJ3, hn3, hk3⟩ | ⟨rfl, hJx3, -⟩)
      · have K3 := Lib.hid (And.intro hn3 hk3); clear hn3 hk3
        gi_wp2
        go_roundw
        case rel =>
          refine ⟨k + 1, g', by omega, by simp, hJ3, fun q hq => ?_, Nat.le_trans hsz K3.out.2.size, fun q hq hf => (K3.out.2.block q (by omega) (fun e => e.elim hf (fun e => by omega)) (fun e => by have := HGG.out q e; omega)).trans (HNX.out q hq hf)⟩
          rcases K3.out.1 with e | ⟨q', e, h', -⟩
          · exact HGG.out q (by rw [← e]; exact hq)
          · rw [e] at hq; cases hq; omega
        case measure => simp [intOf]; omega
      · gi_wp2
        refine bodyPost_ret (results_none rfl _ _ _) rfl ?_
        exact ⟨⟨_, rfl⟩, .inr ⟨_, List.take_prefix _ _, hJx3⟩⟩
    · obtain rfl : k = N := by omega
      rw [List.take_of_length_le (by rw [HL.out]; exact Nat.le_refl _)] at hJs
      have HJ := Lib.hid hJs; clear hJs hnx hgg
      gi_wp2
      go_end0
      exact ⟨⟨_, rfl⟩, .inl ⟨gg, HJ.out⟩⟩
set_option maxHeartbeats 1000000 in
theorem values_any (a : Option Addr) (n cap : Nat) (w : World) : Calls Try.prog 118 #[.slice a n cap] w fun e w' =>
    e = .returned (.func (.func 139) #[] #[.pointer (some ⟨w.heap.size, 0, none⟩)]) ∧ w' = w.alloc (.cells #[.slice a n cap] 25) := by
  go_enter Try.func118, Try.ntmps118
  go_wp2
  go_ret
  exact ⟨rfl, rfl⟩
/-- An iterator, for whatever a later loop may turn. -/
def IterA (F0 : Nat → Prop) (xs : List Value) (w : World) (e : Ending) (w' : World) : Prop := ∃ g lb, e = .returned (.func (.func g) #[] lb) ∧ (∀ args z, (callFunc g args).run Try.prog z = .ok (.enter g args) z) ∧ (∀ F : Nat → Prop, (∀ k, F k → F0 k ∨ w'.heap.size ≤ k) → Hands Try.prog g lb F xs w') ∧ Below w.heap.size w w'
/-- What shelvesOf hands back: an iterator over the shelves. -/
def Iter (F : Nat → Prop) (xs : List Value) (w : World) (e : Ending) (w' : World) : Prop := ∃ g lb, e = .returned (.func (.func g) #[] lb) ∧ (∀ args z, (callFunc g args).run Try.prog z = .ok (.enter g args) z) ∧ Hands Try.prog g lb F xs w' ∧ Below w.heap.size w w'
set_option maxHeartbeats 1000000 in
theorem shelvesOf_any (F : Nat → Prop) (n₀ : Nat) (hv : Value) (hv1 : ∃ a n c, hv = .slice a n c) (a : Option Addr) (n cap : Nat) (hs : List Hd) (hn : hs.length = n) (hl : n ≤ 1000000) (w : World) (hx : Hds n₀ w a hs) (h0 : n₀ ≤ w.heap.size) (hF : ∀ g o, a = some ⟨g, o, none⟩ → hs ≠ [] → ¬ F g) :
    Calls Try.prog 68 #[.agg #[hv, .slice a n cap]] w (Iter F (hs.map Hd.val) w) := by
  have HX := Lib.hid hx; clear hx
  have hsz : (w.alloc (.cells #[hv, .slice a n cap] 27)).heap.size = w.heap.size + 1 := by simp
  have HB := Lib.hid (show Below w.heap.size w ((w.alloc (.cells #[hv, .slice a n cap] 27)).alloc (.cells #[.slice a n cap] 25)) from ((Below.refl _ w).alloc (Nat.le_refl _) _).alloc (by simp) _)
  have HW := Lib.hid (values1_hands F n₀ (w.heap.size + 1) a cap n hs hn hl ((w.alloc (.cells #[hv, .slice a n cap] 27)).alloc (.cells #[.slice a n cap] 25)) (by simp) (by simp; omega) (by
      have := (Boxed.new (w.alloc (.cells #[hv, .slice a n cap] 27)) 25 (.slice a n cap)).cell
      rwa [World.size_alloc] at this) (HX.out.below (HB.out.mono h0)) hF)
  clear hF
  obtain ⟨va, vn, vc, rfl⟩ := hv1
  go_enter Try.func68, Try.ntmps68
  go_wp2_with fail
  refine (values_any _ _ _ _).mono ?_; rintro e w1 ⟨rfl, rfl⟩
  rw [hsz]
  go_wp2_with fail
  go_ret
  exact ⟨_, _, rfl, enters_of Try.func139 (by kernel_rfl) rfl, HW.out, HB.out⟩
end Go.Proofs.Ytefhdhblcaopiaa.Ra
