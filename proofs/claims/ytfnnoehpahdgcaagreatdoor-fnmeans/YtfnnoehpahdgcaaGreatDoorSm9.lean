/-
  Texts of mine, joined (part 9 of 11): what the law at hand reaches of them; each text's own words stand in the verifier's repo.
-/
import Derived.Test.YtfnnoehpahdgcaaGreatDoorSm8
import Derived.Test.YtfnnoehpahdgcaaGreatDoorRows
import Derived.WalkKit
import Derived.IntWalk
import Derived.Laws.Bits128
import Derived.Lib.Hide
import Derived.Lib.ParseIntBTie
import Derived.Lib.ParseIntBCases
import Derived.Lib.ItoaMem
import Derived.Lib.IndexMore
import Derived.Lib.Repeat
import Derived.WalkSpells
import Derived.Below
import Derived.Carry
import Derived.WalkSmall
import Derived.Laws.Closers25b
import Derived.Lib.Strings
import Derived.Lib.SmallJoins
import Derived.Lib.AppendIntMem
import Derived.Maps.AppendAt
import Derived.OwnWalk
import Derived.WalkLawsBesides
import Derived.Deep.QuietTactic
import Derived.BigQuiet
import Derived.Deep.RegionHeld3
import Derived.Laws.OwnMore
import Derived.Laws.StructEq
import Derived.BigFrame
import Derived.Deep.Upon
import Derived.Laws.CopyRow
import Derived.Laws.BytesArg
import Derived.RowKit3
import Derived.Shelf.Strconv.Itoa4
import Derived.Shelf.Strconv.ParseIntPublic10
import Derived.Shelf.Strconv.ErrVarParseInt
import Derived.Test.YtfnnoehpahdgcaaGreatDoorProg
import Derived.LaidMore
import Derived.Stop.LaidErr
import Derived.Lib.LaidTab
import Derived.RangeFuncWrites
import Derived.RangeFuncCalls
import Derived.RangeFuncBox
import Derived.RangeFuncNested
import Derived.RangeFuncLeaves
import Derived.Shelf.Abstract
import Derived.Shelf.RegionOpen
import Derived.OwnWalkIn
import Derived.TacticsInMore
import Derived.LoopNIn
import Derived.LoopIn
import Derived.Lib.Bytealg
import Derived.Deep.LoopGhost
import Derived.Lib.AtoiErrMem
import Derived.OpenShut
import Derived.Lib.ConvBytes
import Derived.Deep.RegionLaw
import Derived.Deep.AppendLies
import Derived.Lib.AppendZeros
import Derived.Defers
import Derived.Recover
import Derived.Lib.ItoaLen
import Derived.ProofKit
import Derived.Handed
import Derived.SizedLaws
import Derived.ShutString
import Derived.Deep.Slices
import Derived.Deep.Fields
import Derived.ChangeSame
namespace Go.Proofs.YtfnnoehpahdgcaaGreatDoor.Cl
set_option linter.unusedVariables false
open Go.RowKit Wd Rp Cu Kp
theorem meB_parts {l : List Tk} {bs : List Bi} {gs : List Int} {f : Int} (h : meB l bs gs f = true) : rcB l = true ∧ okI bs = true ∧ thB gs = true ∧ 0 ≤ f ∧ f ≤ 400 := by
  unfold meB at h
  rw [Bool.and_eq_true, Bool.and_eq_true, Bool.and_eq_true] at h
  obtain ⟨h1, h2, h3, h4⟩ := h
  unfold inB at h4
  rw [Bool.and_eq_true, decide_eq_true_eq, decide_eq_true_eq] at h4
  exact ⟨h1, h2, h3, h4.1, h4.2⟩
theorem meB_of {l : List Tk} {bs : List Bi} {gs : List Int} {f : Int} (h1 : rcB l = true) (h2 : okI bs = true) (h3 : thB gs = true) (h4 : 0 ≤ f ∧ f ≤ 400) : meB l bs gs f = true := by
  unfold meB inB
  rw [h1, h2, h3, decide_eq_true h4.1, decide_eq_true h4.2]; rfl
theorem wf_ok {t : Sl} (hw : t.wf 5) : t.ok := Sl.wf_all t hw
theorem end_c {t : Sl} {gs : List Int} {bs : List Bi} {f : Int} : (t.end_ gs bs f).c = (t.run gs ⟨0, bs, f⟩).c := by
  unfold Sl.end_
  split <;> rfl
theorem end_0 {t : Sl} {gs : List Int} {bs : List Bi} {f : Int} (h : (t.run gs ⟨0, bs, f⟩).c = 0) : t.end_ gs bs f = t.run gs ⟨0, bs, f⟩ := if_pos h
theorem end_1 {t : Sl} {gs : List Int} {bs : List Bi} {f : Int} (h : (t.run gs ⟨0, bs, f⟩).c ≠ 0) : t.end_ gs bs f = ⟨(t.run gs ⟨0, bs, f⟩).c, bs, 0⟩ := if_neg h
theorem meV_back {l : List Tk} {bs : List Bi} {gs : List Int} {f : Int} (h : (meV l bs gs f).c ≠ 0) : (meV l bs gs f).b = bs ∧ (meV l bs gs f).f = 0 := by
  cases hm : meB l bs gs f with
  | false => rw [meV_no hm]; exact ⟨rfl, rfl⟩
  | true =>
    obtain ⟨t, hw, ht, e⟩ := meB_tree hm
    rw [e] at h ⊢
    rw [end_c] at h
    rw [end_1 h]
    exact ⟨rfl, rfl⟩
theorem meV_okB {l : List Tk} {bs : List Bi} {gs : List Int} {f : Int} (h : meB l bs gs f = true) : okI (meV l bs gs f).b = true := by
  obtain ⟨h1, h2, h3, h4⟩ := meB_parts h
  obtain ⟨t, hw, ht, e⟩ := meB_tree h
  rw [e]
  by_cases h0 : (t.run gs ⟨0, bs, f⟩).c = 0
  · rw [end_0 h0]; exact Sl.run_ok h3 t ⟨0, bs, f⟩ (wf_ok hw) h2
  · rw [end_1 h0]; exact h2
theorem meV_len {l : List Tk} {bs : List Bi} {gs : List Int} {f : Int} {n : Nat} (hb : bs.length ≤ n) (h12 : 12 ≤ n) : (meV l bs gs f).b.length ≤ n := by
  cases hm : meB l bs gs f with
  | false => rw [meV_no hm]; exact hb
  | true => have := (okI_iff.1 (meV_okB hm)).1; omega
theorem meV_good {l : List Tk} {bs : List Bi} {gs : List Int} {f : Int} (h : (meV l bs gs f).c ≠ 5) : meB l bs gs f = true := by
  cases hm : meB l bs gs f with
  | false => rw [meV_no hm] at h; exact absurd rfl h
  | true => rfl
theorem meV_fuel {l : List Tk} {bs : List Bi} {gs : List Int} {f : Int} (h : (meV l bs gs f).c = 0) : 0 ≤ (meV l bs gs f).f ∧ (meV l bs gs f).f ≤ f ∧ f ≤ 400 := by
  have hm := meV_good (l := l) (bs := bs) (gs := gs) (f := f) (by rw [h]; decide)
  obtain ⟨h1, h2, h3, h4, h5⟩ := meB_parts hm
  obtain ⟨t, hw, ht, e⟩ := meB_tree hm
  rw [e] at h ⊢
  rw [end_c] at h
  rw [end_0 h]
  have := Sl.run_fuel gs t ⟨0, bs, f⟩ h4
  exact ⟨this.1, this.2, h5⟩
theorem meV_wrap {l : List Tk} {bs : List Bi} {gs : List Int} {f : Int} (h : (meV l bs gs f).c = 0) : IntKind.i64.wrap (f - (meV l bs gs f).f) = f - (meV l bs gs f).f := by
  have := meV_fuel h
  rw [IntKind.wrap_i64]; omega
theorem meV_more {l : List Tk} {bs : List Bi} {gs : List Int} {f k : Int} (hk : 0 ≤ k) (h400 : f + k ≤ 400) (h5 : (meV l bs gs f).c ≠ 5) (h3 : (meV l bs gs f).c ≠ 3) :
    (meV l bs gs (f + k)).c = (meV l bs gs f).c ∧ (meV l bs gs (f + k)).b = (meV l bs gs f).b ∧ ((meV l bs gs f).c = 0 → (meV l bs gs (f + k)).f = (meV l bs gs f).f + k) := by
  have hm := meV_good h5
  obtain ⟨g1, g2, g3, g4, g5⟩ := meB_parts hm
  obtain ⟨t, hw, ht, e⟩ := meB_tree hm
  have hm2 := meB_of (l := l) (bs := bs) (gs := gs) (f := f + k) g1 g2 g3 ⟨by omega, h400⟩
  obtain ⟨t2, hw2, ht2, e2⟩ := meB_tree hm2
  have et : t2 = t := by rw [← T.rc_det hw2, ← ht2, ht, T.rc_det hw]
  subst et
  rw [e] at h3 ⊢
  rw [e2]
  rw [end_c] at h3
  have hu : t2.run gs ⟨0, bs, f + k⟩ = (t2.run gs ⟨0, bs, f⟩).up k := Sl.run_up gs hk t2 ⟨0, bs, f⟩ g4 h3
  by_cases h0 : (t2.run gs ⟨0, bs, f⟩).c = 0
  · rw [end_0 h0, end_0 (by rw [hu]; exact h0), hu]
    exact ⟨rfl, rfl, fun _ => rfl⟩
  · rw [end_1 h0, end_1 (by rw [hu]; exact h0), hu]
    exact ⟨rfl, rfl, fun e => absurd e h0⟩
theorem meV_both {l : List Tk} {bs : List Bi} {gs : List Int} {f : Int} (h : (meV l bs gs f).c = 0) (hb : rcB (l ++ l) = true) :
    (meV (l ++ l) bs gs f).c = (meV l (meV l bs gs f).b gs (meV l bs gs f).f).c ∧ ((meV l (meV l bs gs f).b gs (meV l bs gs f).f).c = 0 → meV (l ++ l) bs gs f = meV l (meV l bs gs f).b gs (meV l bs gs f).f) := by
  have hm := meV_good (l := l) (bs := bs) (gs := gs) (f := f) (by rw [h]; decide)
  obtain ⟨g1, g2, g3, g4, g5⟩ := meB_parts hm
  have hf := meV_fuel h
  have hok := meV_okB hm
  obtain ⟨t, hw, ht, e⟩ := meB_tree hm
  have hm2 := meB_of (l := l ++ l) (bs := bs) (gs := gs) (f := f) hb g2 g3 ⟨g4, g5⟩
  obtain ⟨t2, hw2, ht2, e2⟩ := meB_tree hm2
  have et : t2 = t.app t := by rw [← T.rc_det hw2, ← ht2, ht, ← Sl.fl_app, T.rc_det (Sl.wf_app hw hw)]
  subst et
  have hm3 := meB_of (l := l) (bs := (meV l bs gs f).b) (gs := gs) (f := (meV l bs gs f).f) g1 hok g3 ⟨hf.1, by omega⟩
  obtain ⟨t3, hw3, ht3, e3⟩ := meB_tree hm3
  have et3 : t3 = t := by rw [← T.rc_det hw3, ← ht3, ht, T.rc_det hw]
  subst et3
  rw [e3, e2]
  have hr : meV l bs gs f = t3.run gs ⟨0, bs, f⟩ := by
    rw [e] at h ⊢
    rw [end_c] at h
    exact end_0 h
  have hr2 : (⟨0, (meV l bs gs f).b, (meV l bs gs f).f⟩ : St0) = t3.run gs ⟨0, bs, f⟩ := by
    rw [← hr]
    have : (meV l bs gs f) = ⟨(meV l bs gs f).c, (meV l bs gs f).b, (meV l bs gs f).f⟩ := rfl
    rw [h] at this
    exact this.symm
  have hra : (t3.app t3).run gs ⟨0, bs, f⟩ = t3.run gs ⟨0, (meV l bs gs f).b, (meV l bs gs f).f⟩ := by
    rw [Sl.run_app gs t3 t3 ⟨0, bs, f⟩ rfl, if_pos (by rw [← hr]; exact h), hr2]
  rw [end_c, end_c, hra]
  refine ⟨rfl, fun h0 => ?_⟩
  rw [end_0 (by rw [hra]; exact h0), end_0 h0, hra]
end Go.Proofs.YtfnnoehpahdgcaaGreatDoor.Cl
namespace Go.Proofs.YtfnnoehpahdgcaaGreatDoor.Cl
set_option linter.unusedVariables false
open Go.RowKit Wd Rp Cu Kp
def Zb (n : Nat) (w : World) : Prop := w.cell? ⟨n, 0, none⟩ = some (.string ⟨#[]⟩) ∧ w.cell? ⟨n, 1, none⟩ = some (.string ⟨#[]⟩) ∧ w.cell? ⟨n, 2, none⟩ = some (.int .i64 0) ∧ w.frozen? ⟨n, 0, none⟩ = false ∧ w.frozen? ⟨n, 1, none⟩ = false ∧ w.frozen? ⟨n, 2, none⟩ = false ∧ n < w.heap.size
theorem Zb.made (w : World) (T : Nat) : Zb w.heap.size (w.alloc (.cells #[.string ⟨#[]⟩, .string ⟨#[]⟩, .int .i64 0] T)) := by
  have hp : (w.alloc (.cells #[.string ⟨#[]⟩, .string ⟨#[]⟩, .int .i64 0] T)).heap[w.heap.size]? = some (.cells #[.string ⟨#[]⟩, .string ⟨#[]⟩, .int .i64 0] T) := by show (w.heap.push _)[w.heap.size]? = _; simp
  refine ⟨?_, ?_, ?_, ?_, ?_, ?_, by simp⟩ <;> (first | (simp only [World.cell?, hp]; rfl) | (simp only [World.frozen?, hp]; rfl))
theorem Zb.next {n : Nat} {w w' : World} (h : Zb n w) (hb : Below w.heap.size w w') : Zb n w' := by
  obtain ⟨h0, h1, h2, f0, f1, f2, h3⟩ := h
  have e : w'.heap[n]? = w.heap[n]? := hb.block n h3
  exact ⟨(World.cell?_of_block (w := w) e).trans h0, (World.cell?_of_block (w := w) e).trans h1, (World.cell?_of_block (w := w) e).trans h2, (World.frozen?_of_block (w := w) e).trans f0, (World.frozen?_of_block (w := w) e).trans f1, (World.frozen?_of_block (w := w) e).trans f2, Nat.lt_of_lt_of_le h3 hb.size⟩
def DrawsT (B b : Nat) (w : World) (n : Nat) (e : Ending) (w' : World) : Prop := ∃ t : ByteArray, e = .returned (.string t) ∧ t.size ≤ n ∧ Cur B b w' ∧ But b w w'
theorem pick_any {w w1 : World} {b T : Nat} {vs : Array Value} (hb : b < w.heap.size) (h : But b (w.alloc (.cells vs T)) w1) (k : Nat) : w1.cell? ⟨w.heap.size, k, none⟩ = vs[k]? := by
  have hp : (w.alloc (.cells vs T)).heap[w.heap.size]? = some (.cells vs T) := by show (w.heap.push _)[w.heap.size]? = _; simp
  have hc : (w.alloc (.cells vs T)).cell? ⟨w.heap.size, k, none⟩ = vs[k]? := by simp only [World.cell?, hp]; rfl
  exact (h.cell (p := ⟨w.heap.size, k, none⟩) (by simp) (by show w.heap.size ≠ b; omega)).trans hc
def DrawsN (B b : Nat) (w : World) (e : Ending) (w' : World) : Prop := ∃ s : ByteArray, e = .returned (.string s) ∧ nmB s.data.toList = true ∧ Cur B b w' ∧ But b w w'
set_option maxRecDepth 100000 in
set_option maxHeartbeats 1000000 in
theorem drawName_any (B b : Nat) (w : World) (hc : Cur B b w) : Calls Tryz.prog 81 #[.pointer (some ⟨b, 0, none⟩)] w (DrawsN B b w) := by
  have hlt := hc.lt
  have HC := Lib.hid hc; clear hc
  go_enter Tryz.func81, Tryz.ntmps81
  go_wp2_with fail
  refine (below_any B b _ _ (HC.out.alloc _) (by decide) (by decide)).mono ?_; rintro e w2 ⟨y, rfl, y0, y1, hc2, hw2⟩
  obtain ⟨n, rfl⟩ := Int.eq_ofNat_of_zero_le y0
  have hp := pick_any hlt hw2 n
  obtain ⟨s, hs, hnm⟩ : ∃ s : ByteArray, w2.cell? ⟨w.heap.size, n, none⟩ = some (.string s) ∧ nmB s.data.toList = true := by
    have hn : n < 6 := by omega
    match n, hn, hp with
    | 0, _, hp => exact ⟨_, hp, by decide⟩
    | 1, _, hp => exact ⟨_, hp, by decide⟩
    | 2, _, hp => exact ⟨_, hp, by decide⟩
    | 3, _, hp => exact ⟨_, hp, by decide⟩
    | 4, _, hp => exact ⟨_, hp, by decide⟩
    | 5, _, hp => exact ⟨_, hp, by decide⟩
  clear hp
  have n1 : (n : Int) < 6 := by omega
  have HP := Lib.hid (And.intro hnm (And.intro hc2 (((But.refl b w).alloc _).trans hw2))); clear hnm hc2 hw2
  go_wp2_with fail
  go_ret
  exact ⟨s, rfl, HP.out⟩
set_option maxRecDepth 100000 in
set_option maxHeartbeats 1000000 in
theorem drawNameAny_any (B b : Nat) (w : World) (hc : Cur B b w) : Calls Tryz.prog 70 #[.pointer (some ⟨b, 0, none⟩)] w (DrawsT B b w 9) := by
  have HC := Lib.hid hc; clear hc
  go_enter Tryz.func70, Tryz.ntmps70
  go_wp2_with fail
  refine (once_any B b _ _ HC.out (by decide) (by decide)).mono ?_; rintro e w1 ⟨t, rfl, hc1, hw1⟩
  cases t
  · go_wp2_with fail
    refine (drawName_any B b _ hc1).mono ?_; rintro e w2 ⟨s, rfl, hs, hc2, hw2⟩
    have hl := nm_len hs
    rw [llen] at hl
    go_wp2_with fail
    go_ret
    exact ⟨s, rfl, by omega, hc2, hw1.trans hw2⟩
  · have hlt := hc1.lt
    have HC1 := Lib.hid hc1; clear hc1
    go_wp2_with fail
    refine (below_any B b _ _ (HC1.out.alloc _) (by decide) (by decide)).mono ?_; rintro e w2 ⟨y, rfl, y0, y1, hc2, hw2⟩
    obtain ⟨n, rfl⟩ := Int.eq_ofNat_of_zero_le y0
    have hp := pick_any hlt hw2 n
    obtain ⟨s, hs, hnm⟩ : ∃ s : ByteArray, w2.cell? ⟨w1.heap.size, n, none⟩ = some (.string s) ∧ s.size ≤ 9 := by
      have hn : n < 5 := by omega
      match n, hn, hp with
      | 0, _, hp => exact ⟨_, hp, by decide⟩
      | 1, _, hp => exact ⟨_, hp, by decide⟩
      | 2, _, hp => exact ⟨_, hp, by decide⟩
      | 3, _, hp => exact ⟨_, hp, by decide⟩
      | 4, _, hp => exact ⟨_, hp, by decide⟩
    clear hp
    have n1 : (n : Int) < 5 := by omega
    have HP := Lib.hid (And.intro hnm (And.intro hc2 (hw1.trans (((But.refl b w1).alloc _).trans hw2)))); clear hnm hc2 hw2
    go_wp2_with fail
    go_ret
    exact ⟨s, rfl, HP.out⟩
theorem Zb.but {n b : Nat} {w w' : World} (h : Zb n w) (hb : But b w w') (hn : n ≠ b) : Zb n w' := by
  obtain ⟨h0, h1, h2, f0, f1, f2, h3⟩ := h
  have e : w'.heap[n]? = w.heap[n]? := hb.block n h3 hn
  exact ⟨(World.cell?_of_block (w := w) e).trans h0, (World.cell?_of_block (w := w) e).trans h1, (World.cell?_of_block (w := w) e).trans h2, (World.frozen?_of_block (w := w) e).trans f0, (World.frozen?_of_block (w := w) e).trans f1, (World.frozen?_of_block (w := w) e).trans f2, Nat.lt_of_lt_of_le h3 hb.size⟩
theorem But.set3 {b n : Nat} {x w : World} (h : But b x w) (hn : x.heap.size ≤ n) (u v z : Value) : But b x (((w.setCell ⟨n, 0, none⟩ u).setCell ⟨n, 1, none⟩ v).setCell ⟨n, 2, none⟩ z) :=
  ((h.setNew (p := ⟨n, 0, none⟩) hn u).setNew (p := ⟨n, 1, none⟩) hn v).setNew (p := ⟨n, 2, none⟩) hn z
theorem Cur.set3 {B b n : Nat} {w : World} (h : Cur B b w) (hn : b < n) (u v z : Value) : Cur B b (((w.setCell ⟨n, 0, none⟩ u).setCell ⟨n, 1, none⟩ v).setCell ⟨n, 2, none⟩ z) := by
  have hk : ∀ k, k ≠ n → (((w.setCell ⟨n, 0, none⟩ u).setCell ⟨n, 1, none⟩ v).setCell ⟨n, 2, none⟩ z).heap[k]? = w.heap[k]? := fun k hk => by
    rw [Below.heap_setCell _ _ _ _ (by simpa using hk), Below.heap_setCell _ _ _ _ (by simpa using hk), Below.heap_setCell _ _ _ _ (by simpa using hk)]
  exact h.carry (fun k hB => hk k (by have := h.le; omega)) (hk b (by omega))
def Kx (n : Nat) (r s : ByteArray) (t : Int) (w : World) : Prop := w.cell? ⟨n, 0, none⟩ = some (.string r) ∧ w.cell? ⟨n, 1, none⟩ = some (.string s) ∧ w.cell? ⟨n, 2, none⟩ = some (.int .i64 t) ∧ w.frozen? ⟨n, 0, none⟩ = false ∧ w.frozen? ⟨n, 1, none⟩ = false ∧ w.frozen? ⟨n, 2, none⟩ = false ∧ n < w.heap.size
theorem Kx.made (r s : ByteArray) (t : Int) (w : World) (T : Nat) : Kx w.heap.size r s t (w.alloc (.cells #[.string r, .string s, .int .i64 t] T)) := by
  have hp : (w.alloc (.cells #[.string r, .string s, .int .i64 t] T)).heap[w.heap.size]? = some (.cells #[.string r, .string s, .int .i64 t] T) := by show (w.heap.push _)[w.heap.size]? = _; simp
  refine ⟨?_, ?_, ?_, ?_, ?_, ?_, by simp⟩ <;> (first | (simp only [World.cell?, hp]; rfl) | (simp only [World.frozen?, hp]; rfl))
theorem Kx.same {n : Nat} {r s : ByteArray} {t : Int} {w w' : World} (h : Kx n r s t w) (e : w'.heap[n]? = w.heap[n]?) (hs : w.heap.size ≤ w'.heap.size) : Kx n r s t w' := by
  obtain ⟨h0, h1, h2, f0, f1, f2, h3⟩ := h
  exact ⟨(World.cell?_of_block (w := w) e).trans h0, (World.cell?_of_block (w := w) e).trans h1, (World.cell?_of_block (w := w) e).trans h2, (World.frozen?_of_block (w := w) e).trans f0, (World.frozen?_of_block (w := w) e).trans f1, (World.frozen?_of_block (w := w) e).trans f2, Nat.lt_of_lt_of_le h3 hs⟩
theorem Kx.but {n b : Nat} {r s : ByteArray} {t : Int} {w w' : World} (h : Kx n r s t w) (hb : But b w w') (hn : n ≠ b) : Kx n r s t w' := h.same (hb.block n h.2.2.2.2.2.2 hn) hb.size
theorem Kx.next {n : Nat} {r s : ByteArray} {t : Int} {w w' : World} (h : Kx n r s t w) (hb : Below w.heap.size w w') : Kx n r s t w' := h.same (hb.block n h.2.2.2.2.2.2) hb.size
theorem St.set3 {w0 w : World} {B b n : Nat} (h : St w0 B b w) (hn : w0.heap.size ≤ n) (u v z : Value) : St w0 B b (((w.setCell ⟨n, 0, none⟩ u).setCell ⟨n, 1, none⟩ v).setCell ⟨n, 2, none⟩ z) :=
  ((h.setNew (p := ⟨n, 0, none⟩) hn u).setNew (p := ⟨n, 1, none⟩) hn v).setNew (p := ⟨n, 2, none⟩) hn z
end Go.Proofs.YtfnnoehpahdgcaaGreatDoor.Cl
namespace Go.Proofs.YtfnnoehpahdgcaaGreatDoor.Cl
set_option linter.unusedVariables false
open Go.RowKit Wd Rp Cu Kp
theorem Zc.but {q b : Nat} {w w' : World} (h : Zc q w) (hb : But b w w') (hn : q ≠ b) : Zc q w' := by
  obtain ⟨⟨h0, h1, h2, h3, h4⟩, ⟨f0, f1, f2, f3, f4⟩, hl⟩ := h
  have e : w'.heap[q]? = w.heap[q]? := hb.block q hl hn
  exact ⟨⟨(World.cell?_of_block (w := w) e).trans h0, (World.cell?_of_block (w := w) e).trans h1, (World.cell?_of_block (w := w) e).trans h2, (World.cell?_of_block (w := w) e).trans h3, (World.cell?_of_block (w := w) e).trans h4⟩,
    ⟨(World.frozen?_of_block (w := w) e).trans f0, (World.frozen?_of_block (w := w) e).trans f1, (World.frozen?_of_block (w := w) e).trans f2, (World.frozen?_of_block (w := w) e).trans f3, (World.frozen?_of_block (w := w) e).trans f4⟩, Nat.lt_of_lt_of_le hl hb.size⟩
def Yc (q : Nat) (r s : ByteArray) (t v : Int) (g : Bool) (w : World) : Prop := (w.cell? ⟨q, 0, none⟩ = some (.string r) ∧ w.cell? ⟨q, 1, none⟩ = some (.string s) ∧ w.cell? ⟨q, 2, none⟩ = some (.int .i64 t) ∧ w.cell? ⟨q, 3, none⟩ = some (.int .i64 v) ∧ w.cell? ⟨q, 4, none⟩ = some (.bool g)) ∧
    (w.frozen? ⟨q, 0, none⟩ = false ∧ w.frozen? ⟨q, 1, none⟩ = false ∧ w.frozen? ⟨q, 2, none⟩ = false ∧ w.frozen? ⟨q, 3, none⟩ = false ∧ w.frozen? ⟨q, 4, none⟩ = false) ∧ q < w.heap.size
theorem Yc.made (r s : ByteArray) (t v : Int) (g : Bool) (w : World) (T : Nat) : Yc w.heap.size r s t v g (w.alloc (.cells #[.string r, .string s, .int .i64 t, .int .i64 v, .bool g] T)) := by
  have hp : (w.alloc (.cells #[.string r, .string s, .int .i64 t, .int .i64 v, .bool g] T)).heap[w.heap.size]? = some (.cells #[.string r, .string s, .int .i64 t, .int .i64 v, .bool g] T (0, 0)) := by show (w.heap.push _)[w.heap.size]? = _; simp
  obtain ⟨h0, h1, h2, h3, h4, f0, f1, f2, f3, f4⟩ := five_of hp
  exact ⟨⟨h0, h1, h2, h3, h4⟩, ⟨f0, f1, f2, f3, f4⟩, by simp⟩
theorem Yc.same {q : Nat} {r s : ByteArray} {t v : Int} {g : Bool} {w w' : World} (h : Yc q r s t v g w) (e : w'.heap[q]? = w.heap[q]?) (hs : w.heap.size ≤ w'.heap.size) : Yc q r s t v g w' := by
  obtain ⟨⟨h0, h1, h2, h3, h4⟩, ⟨f0, f1, f2, f3, f4⟩, hl⟩ := h
  exact ⟨⟨(World.cell?_of_block (w := w) e).trans h0, (World.cell?_of_block (w := w) e).trans h1, (World.cell?_of_block (w := w) e).trans h2, (World.cell?_of_block (w := w) e).trans h3, (World.cell?_of_block (w := w) e).trans h4⟩,
    ⟨(World.frozen?_of_block (w := w) e).trans f0, (World.frozen?_of_block (w := w) e).trans f1, (World.frozen?_of_block (w := w) e).trans f2, (World.frozen?_of_block (w := w) e).trans f3, (World.frozen?_of_block (w := w) e).trans f4⟩, Nat.lt_of_lt_of_le hl hs⟩
theorem Yc.but {q b : Nat} {r s : ByteArray} {t v : Int} {g : Bool} {w w' : World} (h : Yc q r s t v g w) (hb : But b w w') (hn : q ≠ b) : Yc q r s t v g w' := h.same (hb.block q h.2.2 hn) hb.size
theorem Yc.next {q : Nat} {r s : ByteArray} {t v : Int} {g : Bool} {w w' : World} (h : Yc q r s t v g w) (hb : Below w.heap.size w w') : Yc q r s t v g w' := h.same (hb.block q h.2.2) hb.size
end Go.Proofs.YtfnnoehpahdgcaaGreatDoor.Cl
namespace Go.Proofs.YtfnnoehpahdgcaaGreatDoor.Cl
set_option linter.unusedVariables false
open Go.RowKit Wd Rp Cu Kp
theorem OT.but {B b : Nat} {w w' : World} {v : Value} {l : List Tk} (h : OT B w v l) (hb : But b w w') (hB : b < B) : OT B w' v l :=
  row_next h fun g hg hlt => hb.block g hlt (by have := OT.lt h g hg; omega)
theorem OT.mono {B C : Nat} {w : World} {v : Value} {l : List Tk} (h : OT B w v l) (hC : C ≤ B) : OT C w v l := O1.mono h hC
theorem OT.grown {B : Nat} {w w' : World} {v : Value} {l : List Tk} {row : Option Nat} (h : OT B w v l) (hg : w.grownBy w' row) (hne : ∀ k, v.ownBlock = some k → row ≠ some k) : OT B w' v l := O1.grown h hg hne
theorem OT.form {B : Nat} {w : World} {v : Value} {l : List Tk} (h : OT B w v l) : ∃ a cap, v = .slice a l.length cap ∧ V1 w a cap (txL l) := by
  obtain ⟨a, cap, e, hv⟩ := O1.view h
  rw [txL_len] at e
  exact ⟨a, cap, e, hv⟩
theorem txL_app (l m : List Tk) : txL (l ++ m) = txL l ++ txL m := List.map_append
theorem txL_one : ∀ l : List Tk, ∀ u ∈ txL l, u.oneCell' = true := fun l u hu => by
  unfold txL at hu
  rw [List.mem_map] at hu
  obtain ⟨s, -, rfl⟩ := hu; rfl
theorem v1_cells {w : World} {ad : Addr} {cap : Nat} {m : List Value} (h : V1 w (some ad) cap m) : ∀ j u, m[j]? = some u → w.cell? (ad.add j) = some u := fun j u hj => by
  obtain ⟨g, o, e, -, hc⟩ := h.2.2.2 j u hj
  cases e
  have hadd : (⟨g, o, none⟩ : Addr).add j = ⟨g, o + j, none⟩ := by cases j <;> simp [Addr.add]
  rw [hadd]; exact hc
theorem run_append_tx {w : World} {base : Nat} {v : Value} {a : Option Addr} {cap : Nat} {l m : List Tk} (ty : TypeId) (hown : OT base w v l) (hy : V1 w a cap (txL m)) (hlen : l.length + m.length ≤ 10000000) (hbase : base ≤ w.heap.size) :
    ∃ v' w', (Builtin.append_ #[24, 24] ty #[v, .slice a m.length cap]).run Tryz.prog w = .ok v' w' ∧ OT base w' v' (l ++ m) ∧ w.grownBy w' v.ownBlock := by
  obtain ⟨i0, hi, hz0, hz1, hz2⟩ := info_parts info1T
  unfold OT O1 at hown
  rw [txL_len] at hown
  cases a with
  | none =>
    have hc := hy.2.2.1 rfl
    have hm : m = [] := List.length_eq_zero_iff.1 (by have := hy.1; rw [txL_len] at this; omega)
    subst hm hc
    rw [List.append_nil]
    exact ⟨v, w, run_append_owned_none w base 24 ty 9 i0 1 Tryz.underlying24 hi v _ _ hown, (by unfold OT O1; rw [txL_len]; exact hown), World.grownBy.refl _ _⟩
  | some ad =>
    obtain ⟨v', w', hr, h2, h3, h4, h5⟩ := run_append_own_at (P := Tryz.prog) w base 24 ty 9 i0 _ 1 16 Tryz.underlying24 hi hz0 hz1 hz2 rfl (by decide) v l.length (txL l) hown
      ad m.length cap (txL m) (by rw [txL_len, Nat.mul_one]) (v1_cells hy) (txL_one m) (by unfold maxLen; omega) (by omega) hbase
    refine ⟨v', w', hr, ?_, h3⟩
    unfold OT O1
    rw [txL_len, List.length_append, txL_app]; exact h2
theorem append_tx {ops : Array Oper} {rest : List Oper} {o : Oper} {a : Act} {Q : Exit → Act → World → Prop} {w : World} (hw : Region.wanted o (yielded ops a.tmps) = true) (s x : Operand)
    (ho : o.op = .call { callee := .builtin .append, args := #[s, x], argTypes := #[24, 24] })
    {base : Nat} {v : Value} {ad : Option Addr} {cap n : Nat} {l m : List Tk} (hs : a.eval s = v) (hx : a.eval x = .slice ad n cap) (hmn : m.length = n) (hown : OT base w v l) (hy : V1 w ad cap (txL m)) (hlen : l.length + m.length ≤ 10000000) (hbase : base ≤ w.heap.size)
    (h : ∀ v' w', OT base w' v' (l ++ m) → w.grownBy w' v.ownBlock → wpList Tryz.prog ops Q rest (a.put o.dst v') w') : wpList Tryz.prog ops Q (o :: rest) a w := by
  refine BigFrame.wpList_want hw fun K hK => ?_
  subst hmn
  obtain ⟨v', w', hr, h2, h3⟩ := run_append_tx o.type hown hy hlen hbase
  unfold Oper.wp execOp
  simp only [ho, resolve, invoke, builtin, Sem.run_bind, Sem.run_pure, Result.andThen_ok, List.map_toArray, List.map_cons, List.map_nil, hs, hx, hr]
  exact hK _ _ (h v' w' h2 h3)
theorem lit1 {B : Nat} (w : World) (s : Tk) (h : B ≤ w.heap.size) : OT B (w.alloc (.cells #[.string (tx s)] 9)) (.slice (some ⟨w.heap.size, 0, none⟩) 1 1) [s] :=
  O1.lit (T := 9) h #[.string (tx s)] (by unfold maxLen; simp)
def SmT (l : List Tk) : Prop := ∀ s ∈ l, s.length ≤ 40
theorem SmT.app {l m : List Tk} (h : SmT l) (h' : SmT m) : SmT (l ++ m) := fun c hc => by
  rcases List.mem_append.1 hc with e | e
  · exact h c e
  · exact h' c e
theorem SmT.one {s : Tk} (h : s.length ≤ 40) : SmT [s] := fun d hd => by
  rcases List.mem_cons.1 hd with e | e
  · subst e; exact h
  · cases e
theorem SmT.take {l : List Tk} (h : SmT l) (k : Nat) : SmT (l.take k) := fun c hc => h c (List.mem_of_mem_take hc)
theorem SmT.drop {l : List Tk} (h : SmT l) (k : Nat) : SmT (l.drop k) := fun c hc => h c (List.mem_of_mem_drop hc)
theorem SmT.set {l : List Tk} (h : SmT l) (k : Nat) {s : Tk} (hs : s.length ≤ 40) : SmT (l.set k s) := fun c hc => by
  rcases List.mem_or_eq_of_mem_set hc with e | e
  · exact h c e
  · subst e; exact hs
theorem st_belowT {w0 w w' : World} {B b : Nat} (h : St w0 B b w) (hb : Below w.heap.size w w') : St w0 B b w' :=
  ⟨h.but.below' hb, h.cur.carry (fun k hk => hb.block k (by have := h.cur.le; have := h.cur.lt; omega)) (hb.block b h.cur.lt), h.lt⟩
def DrawsX (n : Nat) (B b : Nat) (w : World) (e : Ending) (w' : World) : Prop := ∃ (v : Value) (l : List Tk), e = .returned v ∧ OT w.heap.size w' v l ∧ l.length ≤ n ∧ SmT l ∧ Cur B b w' ∧ But b w w'
theorem nm_len {t : Tk} (h : nmB t = true) : t.length ≤ 8 := by
  unfold nmB at h
  simp only [Bool.and_eq_true, decide_eq_true_eq] at h
  exact h.2.2
theorem tx_itoa (n : Int) : (⟨(Lib.itoa n).toArray⟩ : ByteArray) = tx (Lib.itoa n) := rfl
set_option maxHeartbeats 4000000 in
set_option maxRecDepth 100000 in
theorem l1Texts_any (w : World) (a : Option Addr) (cap : Nat) (l : List Tk) (n : Nat) (hn : l.length = n) (hv : V1 w a cap (txL l)) (hl : n ≤ 4194304) :
    Calls Tryz.prog 87 #[.slice a n cap] w fun e w' => ∃ v, e = .returned v ∧ OT w.heap.size w' v l ∧ Below w.heap.size w w' := by
  have HO := Lib.hid (show OT w.heap.size (w.alloc (.cells #[] 9)) (.slice (some ⟨w.heap.size, 0, none⟩) 0 0) [] from O1.start (Nat.le_refl _))
  have HB := Lib.hid (bel1 w (.cells #[] 9))
  have HV := Lib.hid (hv.below HB.out); clear hv
  go_enter Tryz.func87, Tryz.ntmps87
  go_wp2_with (first
    | (at_builtin; refine append_tx rfl (.tmp 3) (.tmp 4) rfl (base := w.heap.size) (l := []) (m := l) rfl rfl hn HO.out HV.out (by simp; omega) (by simp) ?_; intro v5 w5 o5 g5; have O5 := Lib.hid (And.intro o5 g5); clear o5 g5))
  go_ret
  exact ⟨_, rfl, O5.out.1, HB.out.grown O5.out.2 (by simp) (fun k hk => OT.lt HO.out k hk)⟩
theorem pick_tx {b : Nat} {w w1 : World} {T : Nat} {ts : List Tk} (hb : b < w.heap.size) (h : But b (w.alloc (.cells (ts.map tv).toArray T)) w1) {k : Nat} (hk : k < ts.length) : ∃ s, ts[k]? = some s ∧ w1.cell? ⟨w.heap.size, k, none⟩ = some (.string (tx s)) := by
  refine ⟨ts[k], List.getElem?_eq_getElem hk, ?_⟩
  rw [pick_any hb h k]
  simp [tv, hk]
theorem mem_short {ts : List Tk} {k : Nat} {s : Tk} (h : ts[k]? = some s) (hs : ∀ s ∈ ts, s.length ≤ 40) : s.length ≤ 40 := hs s (List.mem_of_getElem? h)
theorem at_app (t : ByteArray) : ((⟨#[64]⟩ : ByteArray) ++ t) = tx (64 :: t.data.toList) := by
  apply ByteArray.ext
  apply Array.toList_inj.1
  rw [Joins.data_append, tx_data]; rfl
end Go.Proofs.YtfnnoehpahdgcaaGreatDoor.Cl
namespace Go.Proofs.YtfnnoehpahdgcaaGreatDoor.Cl
set_option linter.unusedVariables false
open Go.RowKit Wd Rp Cu Kp
theorem txL_set (l : List Tk) (k : Nat) (s : Tk) : (txL l).set k (tv s) = txL (l.set k s) := by unfold txL; rw [List.map_set]
theorem OT.set {B : Nat} {w : World} {g n cap : Nat} {l : List Tk} (h : OT B w (.slice (some ⟨g, 0, none⟩) n cap) l) (hn : l.length = n) (k : Nat) (s : Tk) : OT B (w.setCell ⟨g, k, none⟩ (.string (tx s))) (.slice (some ⟨g, 0, none⟩) n cap) (l.set k s) := by
  have := O1.set h (by rw [txL_len, hn]) k (tv s)
  unfold OT
  rw [← txL_set]; exact this
theorem OT.cut {B : Nat} {w : World} {g n cap : Nat} {l : List Tk} (h : OT B w (.slice (some ⟨g, 0, none⟩) n cap) l) (hn : l.length = n) {k : Nat} (hk : k ≤ n) : OT B w (.slice (some ⟨g, 0, none⟩) k cap) (l.take k) := by
  unfold OT O1 at h ⊢
  rw [txL_len, hn] at h
  have := row_cut h hk
  rw [txL_len, List.length_take, Nat.min_eq_left (by omega)]
  unfold txL at this ⊢
  rwa [Nat.mul_one, ← List.map_take] at this
theorem OT.own {B : Nat} {w : World} {v : Value} {l : List Tk} {n : Nat} (h : OT B w v l) (hn : l.length = n + 1) : ∃ g cap, v = .slice (some ⟨g, 0, none⟩) (n + 1) cap ∧ B ≤ g ∧ g < w.heap.size := by
  unfold OT O1 at h
  rw [txL_len, hn] at h
  exact row_own h
theorem OT.nil {B : Nat} {w : World} {v : Value} (h : OT B w v []) : ∃ a cap, v = .slice a 0 cap := by
  obtain ⟨a, cap, e, -⟩ := h.form
  exact ⟨a, cap, e⟩
theorem step_append_tx {ops : Array Oper} {o : Oper} {a : Act} {Q : Exit → Act → World → Prop} {K : Act → World → Prop} {w : World} (hw : Region.wanted o (yielded ops a.tmps) = true) (s x : Operand)
    (ho : o.op = .call { callee := .builtin .append, args := #[s, x], argTypes := #[24, 24] })
    {base : Nat} {v : Value} {ad : Option Addr} {cap n : Nat} {l m : List Tk} (hs : a.eval s = v) (hx : a.eval x = .slice ad n cap) (hmn : m.length = n) (hown : OT base w v l) (hy : V1 w ad cap (txL m)) (hlen : l.length + m.length ≤ 10000000) (hbase : base ≤ w.heap.size)
    (h : ∀ v' w', OT base w' v' (l ++ m) → w.grownBy w' v.ownBlock → K (a.put o.dst v') w') :
    if Region.wanted o (yielded ops a.tmps) = true then Oper.wp Tryz.prog o a w K Q else K (a.put o.dst undef) w := by
  rw [if_pos hw]
  subst hmn
  obtain ⟨v', w', hr, h2, h3⟩ := run_append_tx o.type hown hy hlen hbase
  unfold Oper.wp execOp
  simp only [ho, resolve, invoke, builtin, Sem.run_bind, Sem.run_pure, Result.andThen_ok, List.map_toArray, List.map_cons, List.map_nil, hs, hx, hr]
  exact h v' w' h2 h3
set_option maxRecDepth 100000 in
theorem cut1_from (T : TypeId) (hu : Tryz.prog.underlying T = some (.slice (Tryz.prog.elem T))) (hs : ∀ w, (sizeOf (Tryz.prog.elem T)).run Tryz.prog w = .ok 1 w) (a : Option Addr) (n cap i : Nat) (hi : i ≤ n) : ∃ b cb, (∀ w, (Instr.slice T (.slice a n cap) (some (.int .i64 (i : Int))) none none).run Tryz.prog w = .ok (.slice b (n - i) cb) w) ∧
    ∀ w l, V1 w a cap l → l.length = n → V1 w b cb (l.drop i) := by
  refine ⟨_, _, fun w => ?_, fun w l h hl => h.drop (k := i) (by omega)⟩
  rw [run_slice_l w T a n cap hu .i64 (i : Int) (by omega) (by omega), hs]
  rfl
def bendL : List Tk := [[43], [60], [38], [91], [93], [115, 101, 116], [105, 102], [65], [64, 51], [53], [104, 97, 121], []]
set_option maxHeartbeats 16000000 in
set_option maxRecDepth 100000 in
theorem bend_any (B b : Nat) (w : World) (hc : Cur B b w) (a : Option Addr) (cap : Nat) (l : List Tk) (n : Nat) (hn : l.length = n) (hv : V1 w a cap (txL l)) (hl : n ≤ 1000) (hs : SmT l) :
    Calls Tryz.prog 69 #[.pointer (some ⟨b, 0, none⟩), .slice a n cap] w (DrawsX n B b w) := by
  have hlt := hc.lt
  have HS0 := Lib.hid (⟨But.refl b w, hc, hlt⟩ : St w B b w); clear hc
  have HT := Lib.hid (l1Texts_any w a cap l n hn hv (by omega)); clear hv
  have HM := Lib.hid hs; clear hs
  go_enter Tryz.func69, Tryz.ntmps69
  go_wp2_with fail
  refine HT.out.mono ?_; rintro e w1 ⟨v, rfl, o1, b1⟩
  have HS1 := Lib.hid (st_belowT HS0.out b1); clear b1 HS0 HT
  cases n with
  | zero =>
    obtain rfl : l = [] := List.length_eq_zero_iff.1 hn
    obtain ⟨va, vc, rfl⟩ := o1.nil
    have HO1 := Lib.hid o1; clear o1
    go_wp2_with fail
    go_ret
    exact ⟨_, [], rfl, HO1.out, Nat.le_refl _, (fun s h => by cases h), HS1.out.cur, HS1.out.but⟩
  | succ n =>
    obtain ⟨g, vc, rfl, hg, hgs⟩ := o1.own hn
    have HO1 := Lib.hid o1; clear o1
    have HN := Lib.hid hn
    have p0 : (0 : Int) < ((n + 1 : Nat) : Int) := by omega
    go_wp2_with fail
    refine (below_any B b _ _ HS1.out.cur (by omega) (by omega)).mono ?_; rintro e w2 ⟨k, rfl, k0, k1, hc2, hw2⟩
    obtain ⟨k, rfl⟩ := Int.eq_ofNat_of_zero_le k0
    have HO2 := Lib.hid (HO1.out.but hw2 hlt)
    have HS2 := Lib.hid (HS1.out.draws hw2 hc2); clear hw2 hc2 HO1 HS1
    have hkn : k < n + 1 := by omega
    clear k0 k1
    go_wp2_with fail
    refine (below_any B b _ _ HS2.out.cur (by decide) (by decide)).mono ?_; rintro e w3 ⟨y, rfl, y0, y1, hc3, hw3⟩
    have HO3 := Lib.hid (HO2.out.but hw3 hlt)
    have HS3 := Lib.hid (HS2.out.draws hw3 hc3); clear hw3 hc3 HO2 HS2
    by_cases e0 : y = 0
    · subst e0
      have HLB := Lib.hid (fun o => HS3.out.alloc o)
      have HOB := Lib.hid (fun o => HO3.out.next (bel1 w3 o))
      have hgs3 : g < w3.heap.size := HO3.out.low g rfl
      go_wp2_with fail
      refine (below_any B b _ _ (HLB.out _).cur (by decide) (by decide)).mono ?_; rintro e w4 ⟨z, rfl, z0, z1, hc4, hw4⟩
      obtain ⟨m, rfl⟩ := Int.eq_ofNat_of_zero_le z0
      obtain ⟨s, hs, c0⟩ := pick_tx (ts := bendL) HS3.out.cur.lt hw4 (k := m) (by simp [bendL]; omega)
      have hsl := mem_short hs (by decide)
      have HO4 := Lib.hid ((HOB.out _).but hw4 hlt)
      have HS4 := Lib.hid ((HLB.out _).draws hw4 hc4); clear hw4 hc4 hs HLB HOB HO3 HS3
      have hm4 : m < 12 := by omega
      obtain ⟨d, hd⟩ : ∃ d, l[k]? = some d := ⟨l[k]'(by have := HN.out; omega), List.getElem?_eq_getElem _⟩
      obtain ⟨g2, o2, e2, -, d0⟩ := HO4.out.vw.tx hd
      cases e2
      rw [Nat.zero_add] at d0
      have f0 := O1.frozen HO4.out (by rw [txL_len]; exact HN.out.symm) k
      have HO5 := Lib.hid (HO4.out.set HN.out k s)
      have HS5 := Lib.hid (HS4.out.setNew (p := ⟨g, k, none⟩) hg (.string (tx s)))
      clear hd
      generalize tx s = x at *
      go_wp2_with fail
      go_ret
      exact ⟨_, l.set k s, rfl, HO5.out, by rw [List.length_set, HN.out]; exact Nat.le_refl _, HM.out.set k hsl, HS5.out.cur, HS5.out.but⟩
    have q0 : (y == 0) = false := by rw [beq_eq_false_iff_ne]; exact e0
    by_cases e1 : y = 1
    · subst e1
      have HCT := Lib.hid (HO3.out.cut HN.out (k := k) (by omega))
      have hcap : n + 1 ≤ vc := by have := HO3.out.vw.1; rw [txL_len] at this; have := HN.out; omega
      have hr1 : ∀ w, (Instr.slice 24 (.slice (some ⟨g, 0, none⟩) (n + 1) vc) none (some (.int .i64 (k : Int))) none).run Tryz.prog w = .ok (.slice (some ⟨g, 0, none⟩) k vc) w := fun w => cut1_to 24 (by kernel_rfl) (fun w => by exact Tryz.sizeOf9 w) (some ⟨g, 0, none⟩) (n + 1) vc k (by omega) hcap w
      obtain ⟨b2, c2, hr2, hv2⟩ := cut1_from 24 (by kernel_rfl) (fun w => by exact Tryz.sizeOf9 w) (some ⟨g, 0, none⟩) (n + 1) vc (k + 1) (by omega)
      have hr3 : ∀ w, (Instr.slice 24 (.slice (some ⟨g, 0, none⟩) (n + 1) vc) (some (.int .i64 ((k : Int) + 1))) none none).run Tryz.prog w = .ok (.slice b2 (n + 1 - (k + 1)) c2) w := hr2
      have HV2 := Lib.hid (show V1 w3 b2 c2 (txL (l.drop (k + 1))) from by
        have := hv2 w3 (txL l) HO3.out.vw (by rw [txL_len]; exact HN.out)
        unfold txL at this ⊢
        rwa [← List.map_drop] at this)
      have HLT := Lib.hid (show (l.take k).length = k by rw [List.length_take]; have := HN.out; omega)
      have HLD := Lib.hid (show (l.drop (k + 1)).length = n - k by rw [List.length_drop]; have := HN.out; omega)
      have HT3 := Lib.hid (l1Texts_any w3.drew (some ⟨g, 0, none⟩) vc (l.take k) k HLT.out (HCT.out.vw) (by omega))
      have hwk : IntKind.i64.wrap ((k : Int) + 1) = (k : Int) + 1 := by rw [IntKind.wrap_i64]; omega
      clear hr2 hv2
      have i1 : (k : Int) + 1 ≤ 9223372036854775807 := by omega
      go_wp2_with fail
      refine wp_region_held_drew (S := fun z => True) (by kernel_rfl) trivial (fun hHeld => ?_)
      refine wpAnyH_take (i := 0) (v := ?v0t) rfl (by kernel_rfl) (by kernel_rfl) (by kernel_rfl) (fun _ _ _ h => h) (Or.inl ⟨by rfl, ?hy0t⟩) (by assumption) ?rest0t
      case hy0t => (intro zz hSw; (try dsimp only at hSw); go_simp; (try with_reducible rfl))
      change wpAnyH _ _ _ _ _ _ _ (Act.put _ (some 31) _) _
      simp only [Act.put, List.setIfInBounds_toArray, List.set_cons_zero, List.set_cons_succ]
      refine wpAnyH_take (i := 1) (v := ?v1t) rfl (by kernel_rfl) (by kernel_rfl) (by kernel_rfl) (fun _ _ _ h => h) (Or.inl ⟨by rfl, ?hy1t⟩) (by assumption) ?rest1t
      case hy1t => (intro zz hSw; (try dsimp only at hSw); go_simp; (try with_reducible rfl))
      change wpAnyH _ _ _ _ _ _ _ (Act.put _ (some 32) _) _
      simp only [Act.put, List.setIfInBounds_toArray, List.set_cons_zero, List.set_cons_succ]
      refine wpAnyH_take (i := 2) (v := ?v2t) rfl (by kernel_rfl) (by kernel_rfl) (by kernel_rfl) (fun _ _ _ h => h) (Or.inl ⟨by rfl, ?hy2t⟩) (by assumption) ?rest2t
      case hy2t => (intro zz hSw; (try dsimp only at hSw); go_simp; (try with_reducible rfl))
      change wpAnyH _ _ _ _ _ _ _ (Act.put _ (some 33) _) _
      simp only [Act.put, List.setIfInBounds_toArray, List.set_cons_zero, List.set_cons_succ]
      refine wpAnyH_take (i := 4) (v := ?v4t) rfl (by kernel_rfl) (by kernel_rfl) (by kernel_rfl) (fun _ _ _ h => h) (Or.inl ⟨by rfl, ?hy4t⟩) (by assumption) ?rest4t
      case hy4t => (intro zz hSw; (try dsimp only at hSw); go_simp; (try with_reducible rfl))
      change wpAnyH _ _ _ _ _ _ _ (Act.put _ (some 35) _) _
      simp only [Act.put, List.setIfInBounds_toArray, List.set_cons_zero, List.set_cons_succ]
      refine wpAnyH_take (i := 5) (v := ?v5t) rfl (by kernel_rfl) (by kernel_rfl) (by kernel_rfl) (fun _ _ _ h => h) (Or.inl ⟨by rfl, ?hy5t⟩) (by assumption) ?rest5t
      case hy5t => (intro zz hSw; (try dsimp only at hSw); go_simp; (try with_reducible rfl))
      change wpAnyH _ _ _ _ _ _ _ (Act.put _ (some 36) _) _
      simp only [Act.put, List.setIfInBounds_toArray, List.set_cons_zero, List.set_cons_succ]
      refine wpAnyH_take (i := 6) (v := ?v6t) rfl (by kernel_rfl) (by kernel_rfl) (by kernel_rfl) (fun _ _ _ h => h) (Or.inl ⟨by rfl, ?hy6t⟩) (by assumption) ?rest6t
      case hy6t => (intro zz hSw; (try dsimp only at hSw); go_simp; (try with_reducible rfl))
      change wpAnyH _ _ _ _ _ _ _ (Act.put _ (some 37) _) _
      simp only [Act.put, List.setIfInBounds_toArray, List.set_cons_zero, List.set_cons_succ]
      refine wpAnyH_take (i := 7) (v := ?v7t) rfl (by kernel_rfl) (by kernel_rfl) (by kernel_rfl) (fun _ _ _ h => h) (Or.inl ⟨by rfl, ?hy7t⟩) (by assumption) ?rest7t
      case hy7t => (intro zz hSw; (try dsimp only at hSw); go_simp; (try with_reducible rfl))
      change wpAnyH _ _ _ _ _ _ _ (Act.put _ (some 38) _) _
      simp only [Act.put, List.setIfInBounds_toArray, List.set_cons_zero, List.set_cons_succ]
      refine wpAnyH_ready (rs := [3]) (by kernel_rfl) (by simp) (AllReadyH.cons rfl (fun K hK => ?_) (AllReadyH.nil))
      go_simp
      refine HT3.out.mono ?_; rintro e w4 ⟨v4, rfl, o4, b4⟩
      have B4 := Lib.hid b4
      have HO4 := Lib.hid (OT.mono o4 HS3.out.size)
      have HV4 := Lib.hid ((show V1 w3.drew b2 c2 (txL (l.drop (k + 1))) from HV2.out).below b4)
      have HS4 := Lib.hid (st_belowT (HS3.out.drewN 1) b4)
      clear o4 b4
      refine hK.out _ _ trivial (fun hHeld => ?_)
      clear hK K
      refine wpAnyH_ready (rs := [8]) (by kernel_rfl) (by simp) (AllReadyH.cons rfl (fun K hK => ?_) (AllReadyH.nil))
      refine step_append_tx rfl (.tmp 34) (.tmp 38) rfl (base := w.heap.size) (l := l.take k) (m := l.drop (k + 1)) rfl rfl HLD.out HO4.out HV4.out (by have := HLT.out; have := HLD.out; omega) HS4.out.size ?_
      intro v5 w5 o5 g5
      have O5 := Lib.hid (And.intro o5 g5); clear o5 g5
      refine hK.out _ _ trivial (fun hHeld => ?_)
      clear hK K
      change wpAnyH _ _ _ _ _ _ _ (Act.put _ (some 39) _) _
      simp only [Act.put, List.setIfInBounds_toArray, List.set_cons_zero, List.set_cons_succ]
      refine wpAnyH_take (i := 9) (v := ?v9t) rfl (by kernel_rfl) (by kernel_rfl) (by kernel_rfl) (fun _ _ _ h => h) (Or.inl ⟨by rfl, ?hy9t⟩) (by assumption) ?rest9t
      case hy9t => (intro zz hSw; (try dsimp only at hSw); go_simp; (try with_reducible rfl))
      change wpAnyH _ _ _ _ _ _ _ (Act.put _ (some 5) _) _
      simp only [Act.put, List.setIfInBounds_toArray, List.set_cons_zero, List.set_cons_succ]
      refine wpAnyH_done (by kernel_rfl) ?_ _
      have HS5 := Lib.hid (HS4.out.grown O5.out.2 (fun k hk => OT.lt HO4.out k hk))
      go_wp2_with fail
      go_ret
      exact ⟨_, l.take k ++ l.drop (k + 1), rfl, O5.out.1, by rw [List.length_append, HLT.out, HLD.out]; omega, (HM.out.take k).app (HM.out.drop (k + 1)), HS5.out.cur, HS5.out.but⟩
    have q1 : (y == 1) = false := by rw [beq_eq_false_iff_ne]; exact e1
    obtain rfl : y = 2 := by omega
    have HCT := Lib.hid (HO3.out.cut HN.out (k := k) (by omega))
    have hcap : n + 1 ≤ vc := by have := HO3.out.vw.1; rw [txL_len] at this; have := HN.out; omega
    have hr1 : ∀ w, (Instr.slice 24 (.slice (some ⟨g, 0, none⟩) (n + 1) vc) none (some (.int .i64 (k : Int))) none).run Tryz.prog w = .ok (.slice (some ⟨g, 0, none⟩) k vc) w := fun w => cut1_to 24 (by kernel_rfl) (fun w => by exact Tryz.sizeOf9 w) (some ⟨g, 0, none⟩) (n + 1) vc k (by omega) hcap w
    go_wp2_with fail
    go_ret
    exact ⟨_, l.take k, rfl, HCT.out, by rw [List.length_take]; have := HN.out; omega, HM.out.take k, HS3.out.cur, HS3.out.but⟩
end Go.Proofs.YtfnnoehpahdgcaaGreatDoor.Cl
namespace Go.Proofs.YtfnnoehpahdgcaaGreatDoor.Cl
set_option linter.unusedVariables false
open Go.RowKit Wd Rp Cu Kp
theorem OwI.but {B b : Nat} {w w' : World} {v : Value} {l : List Bi} (h : OwI B w v l) (hb : But b w w') (hB : b < B) : OwI B w' v l :=
  row_next h fun g hg hlt => hb.block g hlt (by have := OwI.lt h g hg; omega)
def SmI (l : List Bi) : Prop := ∀ c ∈ l, c.n.size ≤ 9
theorem SmI.app {l m : List Bi} (h : SmI l) (h' : SmI m) : SmI (l ++ m) := fun c hc => by
  rcases List.mem_append.1 hc with e | e
  · exact h c e
  · exact h' c e
theorem SmI.one {c : Bi} (h : c.n.size ≤ 9) : SmI [c] := fun d hd => by
  rcases List.mem_cons.1 hd with e | e
  · subst e; exact h
  · cases e
theorem st7_le (l : List Bi) (n : ByteArray) (x : Int) : (st7 l n x).1.length ≤ l.length + 1 := by
  have := stI_len l n x
  unfold st7
  split
  · show (stI l n x).length ≤ _; rw [this]; split <;> omega
  · split
    · show l.length ≤ _; omega
    · show (stI l n x).length ≤ _; rw [this]; split <;> omega
theorem st7_sm {l : List Bi} {n : ByteArray} {x : Int} (h : SmI l) (hn : n.size ≤ 9) : SmI (st7 l n x).1 := by
  have hs : SmI (stI l n x) := by
    unfold stI behI
    refine SmI.app (fun c hc => h c (List.mem_of_mem_take hc)) (SmI.app (SmI.one hn) (fun c hc => h c (List.mem_of_mem_drop hc)))
  unfold st7
  split
  · exact hs
  · split
    · exact h
    · exact hs
theorem nm_small {s : ByteArray} (h : nmB s.data.toList = true) : s.size ≤ 9 := by
  unfold nmB at h
  simp only [Bool.and_eq_true, decide_eq_true_eq] at h
  have h1 := h.1
  have h2 := h.2
  have h3 := llen s
  simp only [llen] at *
  omega
theorem st_nextI {w0 w w' : World} {B b : Nat} (h : St w0 B b w) (hb : Below w.heap.size w w') : St w0 B b w' :=
  ⟨h.but.below' hb, h.cur.carry (fun k hk => hb.block k (by have := h.cur.le; have := h.cur.lt; omega)) (hb.block b h.cur.lt), h.lt⟩
theorem st_low {w0 w w' : World} {B b : Nat} (h : St w0 B b w) (hb : Below w0.heap.size w w') : St w0 B b w' :=
  ⟨⟨hb.os.trans h.but.os, hb.tape.trans h.but.tape, hb.output.trans h.but.output, Nat.le_trans h.but.size hb.size, fun k hk hne => (hb.block k hk).trans (h.but.block k hk hne)⟩,
   h.cur.carry (fun k hk => hb.block k (by have := h.cur.le; have := h.lt; omega)) (hb.block b h.lt), h.lt⟩
def DrawsI (n : Nat) (B b : Nat) (w : World) (e : Ending) (w' : World) : Prop := ∃ (v : Value) (l : List Bi), e = .returned v ∧ OwI w.heap.size w' v l ∧ l.length ≤ n ∧ SmI l ∧ Cur B b w' ∧ But b w w'
set_option maxRecDepth 100000 in
set_option maxHeartbeats 4000000 in
theorem drawI_any (B b : Nat) (w : World) (hc : Cur B b w) : Calls Tryz.prog 49 #[.pointer (some ⟨b, 0, none⟩)] w (DrawsI 5 B b w) := by
  have hlt := hc.lt
  have HS := Lib.hid (St.alloc ⟨But.refl b w, hc, hlt⟩ : ∀ o, St w B b (w.alloc o)); clear hc
  have HO := Lib.hid (OwI.start (B := w.heap.size) (w := w) (Nat.le_refl _))
  go_enter Tryz.func49, Tryz.ntmps49
  go_wp2_with fail
  refine (below_any B b _ _ (HS.out _).cur (by decide) (by decide)).mono ?_; rintro e w1 ⟨y, rfl, y0, y1, hc1, hw1⟩
  have HO1 := Lib.hid (HO.out.but hw1 hlt)
  have HS1 := Lib.hid ((HS.out _).draws hw1 hc1); clear hw1 hc1 HO HS
  obtain ⟨m, rfl⟩ := Int.eq_ofNat_of_zero_le y0
  go_wp2_with fail
  go_loopw [3, 4] (fun x i wr => ∃ (k : Nat) (l : List Bi), i = .int .i64 (k : Int) ∧ l.length + k ≤ 5 ∧ OwI w.heap.size wr x l ∧ SmI l ∧ St w B b wr) (fun _ i _ => intV i)
  case atStart => exact ⟨m, [], rfl, by simp; omega, HO1.out, (fun c hc => by cases hc), HS1.out⟩
  case round =>
    clear HO1 HS1
    obtain ⟨k, l, rfl, hk, ho, hs, hst⟩ := hrel
    have HO := Lib.hid ho; clear ho
    have HM := Lib.hid hs; clear hs
    have HS := Lib.hid hst; clear hst
    by_cases hp : 0 < k
    · have i1 : (0 : Int) < (k : Int) := by omega
      go_wp2_with fail
      refine (drawName_any B b _ HS.out.cur).mono ?_; rintro e w2 ⟨s, rfl, hnm, hc2, hw2⟩
      have HO2 := Lib.hid (HO.out.but hw2 hlt)
      have HS2 := Lib.hid (HS.out.draws hw2 hc2); clear hw2 hc2
      have HN := Lib.hid (nm_small hnm); clear hnm
      go_wp2_with fail
      refine (drawWord_any B b _ HS2.out.cur).mono ?_; rintro e w3 ⟨v, rfl, v0, v1, hc3, hw3⟩
      have HO3 := Lib.hid (HO2.out.but hw3 hlt)
      have HS3 := Lib.hid (HS2.out.draws hw3 hc3); clear hw3 hc3
      have HL := Lib.hid (l7Set_any w3 _ l s v HO3.out HS3.out.size (by omega))
      have HLE := Lib.hid (st7_le l s v)
      have HSM := Lib.hid (st7_sm (x := v) HM.out HN.out)
      generalize st7 l s v = p at *
      obtain ⟨pl, pb⟩ := p
      go_wp2_with fail
      refine HL.out.mono ?_; rintro e w4 ⟨v4, rfl, o4, b4⟩
      have HO4 := Lib.hid o4
      have HS4 := Lib.hid (st_low HS3.out b4); clear o4 b4
      have i2 : (k : Int) - 1 = ((k - 1 : Nat) : Int) := by omega
      go_wp2_with fail
      go_roundw
      case rel => exact ⟨k - 1, _, by go_num, by have : pl.length ≤ l.length + 1 := HLE.out; omega, HO4.out, HSM.out, HS4.out⟩
      case measure => simp [intV]; omega
    · obtain rfl : k = 0 := by omega
      go_wp2_with fail
      go_ret
      exact ⟨_, l, rfl, HO.out, by omega, HM.out, HS.out.cur, HS.out.but⟩
theorem one_size (x : Int) : (one x).size = 1 := rfl
set_option maxRecDepth 100000 in
set_option maxHeartbeats 8000000 in
theorem drawAnyI_any (B b : Nat) (w : World) (hc : Cur B b w) : Calls Tryz.prog 43 #[.pointer (some ⟨b, 0, none⟩)] w (DrawsI 20 B b w) := by
  have hlt := hc.lt
  have hT : Tryz.prog.underlying 25 = some (.slice 44) := Tryz.underlying25
  have HS := Lib.hid (⟨But.refl b w, hc, hlt⟩ : St w B b w); clear hc
  go_enter Tryz.func43, Tryz.ntmps43
  go_wp2_with fail
  refine (drawI_any B b _ HS.out.cur).mono ?_; rintro e w1 ⟨v1, l1, rfl, o1, n1, s1, hc1, hw1⟩
  have HO1 := Lib.hid o1
  have HM1 := Lib.hid s1
  have HS1 := Lib.hid (HS.out.draws hw1 hc1); clear o1 s1 hc1 hw1 HS
  go_wp2_with fail
  refine (once_any B b _ _ HS1.out.cur (by decide) (by decide)).mono ?_; rintro e w2 ⟨q, rfl, hc2, hw2⟩
  have HO2 := Lib.hid (HO1.out.but hw2 hlt)
  have HS2 := Lib.hid (HS1.out.draws hw2 hc2); clear hc2 hw2 HO1 HS1
  cases q
  · go_wp2_with fail
    go_ret
    exact ⟨_, l1, rfl, HO2.out, by omega, HM1.out, HS2.out.cur, HS2.out.but⟩
  go_wp2_with fail
  refine (below_any B b _ _ HS2.out.cur (by decide) (by decide)).mono ?_; rintro e w3 ⟨y, rfl, y0, y1, hc3, hw3⟩
  have HO3 := Lib.hid (HO2.out.but hw3 hlt)
  have HS3 := Lib.hid (HS2.out.draws hw3 hc3); clear hc3 hw3 HO2 HS2
  have hy : y = 0 ∨ y = 1 ∨ y = 2 := by omega
  rcases hy with rfl | rfl | rfl
  · go_wp2_with fail
    refine (drawNameAny_any B b _ HS3.out.cur).mono ?_; rintro e w4 ⟨s, rfl, hs, hc4, hw4⟩
    have HO4 := Lib.hid (HO3.out.but hw4 hlt)
    have HS4 := Lib.hid (HS3.out.draws hw4 hc4); clear hc4 hw4 HO3 HS3
    go_wp2_with fail
    refine (drawAny_any B b _ HS4.out.cur).mono ?_; rintro e w5 ⟨v, rfl, v0, v1', hc5, hw5⟩
    have HO5 := Lib.hid (HO4.out.but hw5 hlt)
    have HS5 := Lib.hid (HS4.out.draws hw5 hc5); clear hc5 hw5 HO4 HS4
    have hsz := HS5.out.size
    go_wp2_with (first
      | (at_builtin; refine append_binsT rfl (.tmp 13) (.tmp 19) 25 hT rfl (base := w.heap.size) (l := l1) (m := [(⟨s, v⟩ : Bi)]) rfl rfl rfl (HO5.out.next (bel1 _ _)) (VwI.lit w5 ⟨s, v⟩) (by simp; omega) (by simp; omega) ?_; intro v9 w9 o9 g9; have O9 := Lib.hid (And.intro o9 g9); clear o9 g9))
    go_ret
    exact ⟨_, _, rfl, O9.out.1, by simp; omega, HM1.out.app (SmI.one hs), ((HS5.out.alloc _).grown O9.out.2 (fun j hj => OwI.lt HO5.out j hj)).cur, ((HS5.out.alloc _).grown O9.out.2 (fun j hj => OwI.lt HO5.out j hj)).but⟩
  · have hsz := HS3.out.size
    obtain ⟨va, vc, ev, hvw⟩ := HO3.out.view
    subst ev
    go_wp2_with (first
      | (at_builtin; refine append_binsT rfl (.tmp 23) (.tmp 24) 25 hT rfl (base := w.heap.size) (l := l1) (m := l1) rfl rfl rfl HO3.out hvw (by omega) (by omega) ?_; intro v9 w9 o9 g9; have O9 := Lib.hid (And.intro o9 g9); clear o9 g9))
    go_ret
    exact ⟨_, _, rfl, O9.out.1, by simp; omega, HM1.out.app HM1.out, (HS3.out.grown O9.out.2 (fun j hj => OwI.lt HO3.out j hj)).cur, (HS3.out.grown O9.out.2 (fun j hj => OwI.lt HO3.out j hj)).but⟩
  · clear HO3 HM1
    have KC := conv_one
    go_wp2_with fail
    go_loopw [3, 4] (fun x i wr => ∃ (k : Nat) (l : List Bi), i = .int .i64 (k : Int) ∧ k ≤ 13 ∧ l.length = k ∧ OwI w.heap.size wr x l ∧ SmI l ∧ St w B b wr) (fun _ i _ => 13 - intV i)
    case atStart => exact ⟨0, [], rfl, by decide, rfl, OwI.start HS3.out.size, (fun c hc => by cases hc), HS3.out.alloc _⟩
    case round =>
      clear HS3
      obtain ⟨k, l, rfl, hk, hlk, ho, hs, hst⟩ := hrel
      have HO := Lib.hid ho; clear ho
      have HM := Lib.hid hs; clear hs
      have HS := Lib.hid hst; clear hst
      go_wp2_with fail
      refine (below_any B b _ _ HS.out.cur (by decide) (by decide)).mono ?_; rintro e w6 ⟨x, rfl, x0, x1, hc6, hw6⟩
      have HO6 := Lib.hid (HO.out.but hw6 hlt)
      have HS6 := Lib.hid (HS.out.draws hw6 hc6); clear hc6 hw6 HO HS
      have hsz := HS6.out.size
      by_cases hlt2 : (k : Int) < 12 + x
      · have u1 : IntKind.u8.wrap (k : Int) = (k : Int) := by rw [IntKind.wrap_u8]; omega
        have u2 : IntKind.u8.wrap (100 + (k : Int)) = 100 + (k : Int) := by rw [IntKind.wrap_u8]; omega
        have HA := Lib.hid (bel1 w6 (.cells #[.int .u8 (100 + (k : Int))] 5))
        have HB2 := Lib.hid (bel_tr HA.out (bel1 (w6.alloc (.cells #[.int .u8 (100 + (k : Int))] 5)) (.cells #[.string (one (100 + (k : Int))), .int .i64 (k : Int)] 44)) (Nat.le_refl _))
        have HV := Lib.hid (VwI.lit (w6.alloc (.cells #[.int .u8 (100 + (k : Int))] 5)) ⟨one (100 + (k : Int)), (k : Int)⟩)
        have zz : (w6.alloc (.cells #[.int .u8 (100 + (k : Int))] 5)).heap.size = w6.heap.size + 1 := by simp
        rw [zz] at HV
        have HO7 := Lib.hid (HO6.out.next HB2.out)
        have T1 : l.length + [(⟨one (100 + (k : Int)), (k : Int)⟩ : Bi)].length ≤ 10000000 := by simp; omega
        have T2 := Nat.le_trans hsz HB2.out.size
        have HS7 := Lib.hid (st_nextI HS6.out HB2.out)
        go_wp2_with (first
          | (at_builtin; refine append_binsT rfl (.tmp 36) (.tmp 44) 25 hT rfl (base := w.heap.size) (l := l) (m := [(⟨one (100 + (k : Int)), (k : Int)⟩ : Bi)]) rfl rfl rfl HO7.out HV.out T1 T2 ?_; intro v9 w9 o9 g9; have O9 := Lib.hid (And.intro o9 g9); clear o9 g9))
        go_roundw
        case rel => exact ⟨k + 1, _, by go_num, by omega, by rw [List.length_append, hlk]; rfl, O9.out.1, HM.out.app (SmI.one (by show (one (100 + (k : Int))).size ≤ 9; rw [one_size]; decide)), HS7.out.grown O9.out.2 (fun j hj => OwI.lt HO7.out j hj)⟩
        case measure => simp [intV]; omega
      · go_wp2_with fail
        go_ret
        exact ⟨_, l, rfl, HO6.out, by omega, HM.out, HS6.out.cur, HS6.out.but⟩
end Go.Proofs.YtfnnoehpahdgcaaGreatDoor.Cl
namespace Go.Proofs.YtfnnoehpahdgcaaGreatDoor.Cl
set_option linter.unusedVariables false
open Go.RowKit Wd Rp Cu Kp
theorem O1.but {T : TypeId} {B b : Nat} {w w' : World} {v : Value} {l : List Value} (h : O1 T B w v l) (hb : But b w w') (hB : b < B) : O1 T B w' v l :=
  row_next h fun g hg hlt => hb.block g hlt (by have := O1.lt h g hg; omega)
theorem ON.but {B b : Nat} {w w' : World} {v : Value} {l : List Int} (h : ON B w v l) (hb : But b w w') (hB : b < B) : ON B w' v l := O1.but h hb hB
theorem ON.mono {B C : Nat} {w : World} {v : Value} {l : List Int} (h : ON B w v l) (hC : C ≤ B) : ON C w v l := O1.mono h hC
theorem litN {B : Nat} (w : World) (l : List Int) (h : B ≤ w.heap.size) (hl : l.length ≤ 1000) : ON B (w.alloc (.cells (l.map iv).toArray 2)) (.slice (some ⟨w.heap.size, 0, none⟩) l.length l.length) l := by
  have := O1.lit (T := 2) h (l.map iv).toArray (by unfold maxLen; simp; omega)
  rw [show (l.map iv).toArray.size = l.length by simp] at this
  exact this
theorem ON.cut {B : Nat} {w : World} {g n cap : Nat} {l : List Int} (h : ON B w (.slice (some ⟨g, 0, none⟩) n cap) l) (hn : l.length = n) {k : Nat} (hk : k ≤ n) : ON B w (.slice (some ⟨g, 0, none⟩) k cap) (l.take k) := by
  unfold ON O1 at h ⊢
  rw [inL_len, hn] at h
  have := row_cut h hk
  rw [inL_len, List.length_take, Nat.min_eq_left (by omega)]
  unfold inL at this ⊢
  rwa [Nat.mul_one, ← List.map_take] at this
theorem run_append_fullN {w : World} {b : Addr} {ad : Option Addr} {k cap n : Nat} {l m : List Int} (ty : TypeId) (hl : l.length = k) (hv : V1 w (some b) k (inL l)) (hm : m.length = n) (hy : V1 w ad cap (inL m)) (hn : 0 < n) (hlen : k + n ≤ 10000000) :
    ∃ v' w', (Builtin.append_ #[26, 26] ty #[.slice (some b) k k, .slice ad n cap]).run Tryz.prog w = .ok v' w' ∧ ON w.heap.size w' v' (l ++ m) ∧ Below w.heap.size w w' := by
  obtain ⟨i0, hi, hz0, hz1, hz2⟩ := info_parts info1N
  obtain ⟨ad, rfl⟩ : ∃ x, ad = some x := by
    cases ad with
    | none => have := hy.2.2.1 rfl; have := hy.1; rw [inL_len] at this; omega
    | some x => exact ⟨x, rfl⟩
  have h1 := grownCap_ge w (k + n) k 2
  have hcm : grownCap w (k + n) k 2 ≤ maxLen := grownCap_le_maxLen w (k + n) k 2 (by unfold maxLen; omega)
  have hlm : (inL (l ++ m)).length = k + n := by rw [inL_len, List.length_append, hl, hm]
  have fin : ∀ cs : Array Value, cs = (inL l).toArray ++ (inL m).toArray ++ Builtin.zeroCells (Value.int .i64 0).cells (grownCap w (k + n) k 2 - (k + n)) →
      ON w.heap.size (w.drew.alloc (.cells cs 2)) (.slice (some ⟨w.heap.size, 0, none⟩) (k + n) (grownCap w (k + n) k 2)) (l ++ m) := fun cs hcs => by
    unfold ON O1
    refine ⟨by rw [Nat.mul_one], .inr ⟨w.heap.size, grownCap w (k + n) k 2, cs, by rw [hlm], Nat.le_refl _, heap_alloc_new w.drew _, by rw [hlm]; exact h1, hcm, ?_, ?_⟩⟩
    · rw [hcs]
      simp only [Array.size_append, List.size_toArray, size_zeroCells, inL_len, hl, hm]
      show k + n + (grownCap w (k + n) k 2 - (k + n)) * 1 = _
      omega
    · rw [hcs, Nat.mul_one, hlm]
      have e : inL (l ++ m) = inL l ++ inL m := List.map_append
      rw [e]
      simp only [Array.toList_append, List.append_assoc]
      rw [← List.append_assoc, show k + n = (inL l ++ inL m).length by rw [List.length_append, inL_len, inL_len, hl, hm]]
      exact List.take_left
  have hbel : ∀ o, Below w.heap.size w (w.drew.alloc o) := fun o => (Below.refl _ _).drew.alloc (Nat.le_refl _) o
  exact ⟨_, _, run_append_grow (P := Tryz.prog) w 26 ty 2 i0 _ Tryz.underlying26 hi hz0 b k k (inL l) (by rw [inL_len, hl, hz1, Nat.mul_one]) (v1_cells hv) ad n cap (inL m) (by rw [inL_len, hm, hz1, Nat.mul_one]) (v1_cells hy) (by omega) (by omega) (growslice_fits (by omega) (by rw [hz2]; omega)), fin _ rfl, hbel _⟩
theorem step_append_fullN {ops : Array Oper} {o : Oper} {a : Act} {Q : Exit → Act → World → Prop} {K : Act → World → Prop} {w : World} (hw : Region.wanted o (yielded ops a.tmps) = true) (s x : Operand)
    (ho : o.op = .call { callee := .builtin .append, args := #[s, x], argTypes := #[26, 26] })
    {b : Addr} {ad : Option Addr} {k cap n : Nat} {l m : List Int} (hs : a.eval s = .slice (some b) k k) (hx : a.eval x = .slice ad n cap) (hl : l.length = k) (hv : V1 w (some b) k (inL l)) (hmn : m.length = n) (hy : V1 w ad cap (inL m)) (hn : 0 < n) (hlen : k + n ≤ 10000000)
    (h : ∀ v' w', ON w.heap.size w' v' (l ++ m) → Below w.heap.size w w' → K (a.put o.dst v') w') :
    if Region.wanted o (yielded ops a.tmps) = true then Oper.wp Tryz.prog o a w K Q else K (a.put o.dst undef) w := by
  rw [if_pos hw]
  obtain ⟨v', w', hr, h2, h3⟩ := run_append_fullN o.type hl hv hmn hy hn hlen
  unfold Oper.wp execOp
  simp only [ho, resolve, invoke, builtin, Sem.run_bind, Sem.run_pure, Result.andThen_ok, List.map_toArray, List.map_cons, List.map_nil, hs, hx, hr]
  exact h v' w' h2 h3
theorem ON.form {B : Nat} {w : World} {v : Value} {l : List Int} (h : ON B w v l) : ∃ a cap, v = .slice a l.length cap ∧ V1 w a cap (inL l) := by
  obtain ⟨a, cap, e, hv⟩ := O1.view h
  rw [inL_len] at e
  exact ⟨a, cap, e, hv⟩
def I64s (l : List Int) : Prop := ∀ x ∈ l, I64 x
theorem pick3 {B q : Nat} {z : World} {T : TypeId} {s1 s2 s3 : Value} {l1 l2 l3 : List Int} (h1 : ON B z s1 l1) (h2 : ON B z s2 l2) (h3 : ON B z s3 l3) (hq : O1 T B z (.slice (some ⟨q, 0, none⟩) 3 3) [s1, s2, s3])
    (n1 : l1.length ≤ 4) (n2 : l2.length ≤ 4) (n3 : l3.length ≤ 4) (i1 : I64s l1) (i2 : I64s l2) (i3 : I64s l3) {m : Nat} (hm : m < 3) : ∃ a n c gs, z.cell? ⟨q, m, none⟩ = some (.slice a n c) ∧ gs.length = n ∧ ON B z (.slice a n c) gs ∧ n ≤ 4 ∧ I64s gs := by
  have key : ∀ (s : Value) (l : List Int), [s1, s2, s3][m]? = some s → ON B z s l → l.length ≤ 4 → I64s l → ∃ a n c gs, z.cell? ⟨q, m, none⟩ = some (.slice a n c) ∧ gs.length = n ∧ ON B z (.slice a n c) gs ∧ n ≤ 4 ∧ I64s gs := fun s l hs ho hn hi => by
    obtain ⟨a, c, rfl, hv⟩ := ho.form
    obtain ⟨g, o, e, -, hc⟩ := hq.vw.cell hs
    cases e
    rw [Nat.zero_add] at hc
    exact ⟨a, _, c, l, hc, rfl, ho, hn, hi⟩
  match m, hm with
  | 0, _ => exact key s1 l1 rfl h1 n1 i1
  | 1, _ => exact key s2 l2 rfl h2 n2 i2
  | 2, _ => exact key s3 l3 rfl h3 n3 i3
def DrawsG (B b : Nat) (w : World) (e : Ending) (w' : World) : Prop := ∃ (a : Option Addr) (n c : Nat) (gs : List Int), e = .returned (.slice a n c) ∧ gs.length = n ∧ ON w.heap.size w' (.slice a n c) gs ∧ n ≤ 4 ∧ I64s gs ∧ Cur B b w' ∧ But b w w'
set_option maxHeartbeats 16000000 in
set_option maxRecDepth 100000 in
theorem drawGiven_any (B b : Nat) (w : World) (hc : Cur B b w) : Calls Tryz.prog 44 #[.pointer (some ⟨b, 0, none⟩)] w (DrawsG B b w) := by
  have hlt := hc.lt
  have HS0 := Lib.hid (⟨But.refl b w, hc, hlt⟩ : St w B b w); clear hc
  go_enter Tryz.func44, Tryz.ntmps44
  go_wp2_with fail
  refine (drawWord_any B b _ HS0.out.cur).mono ?_; rintro e w1 ⟨v0, rfl, v00, v01, hc1, hw1⟩
  have HS1 := Lib.hid (HS0.out.draws hw1 hc1); clear hw1 hc1 HS0
  go_wp2_with fail
  refine (drawWord_any B b _ HS1.out.cur).mono ?_; rintro e w2 ⟨v1, rfl, v10, v11, hc2, hw2⟩
  have HS2 := Lib.hid (HS1.out.draws hw2 hc2); clear hw2 hc2 HS1
  go_wp2_with fail
  refine (drawWord_any B b _ HS2.out.cur).mono ?_; rintro e w3 ⟨v2, rfl, v20, v21, hc3, hw3⟩
  have HS3 := Lib.hid (HS2.out.draws hw3 hc3); clear hw3 hc3 HS2
  have HG := Lib.hid (litN (B := w.heap.size) w3 [v0, v1, v2] HS3.out.size (by simp))
  have HS4 := Lib.hid (HS3.out.alloc (.cells #[.int .i64 v0, .int .i64 v1, .int .i64 v2] 2))
  have HI := Lib.hid (show I64s [v0, v1, v2] from fun x hx => by simp at hx; rcases hx with rfl | rfl | rfl <;> exact ⟨by omega, by omega⟩)
  have HGG := Lib.hid (show w.heap.size ≤ w3.heap.size from HS3.out.size)
  go_wp2_with fail
  refine (once_any B b _ _ HS4.out.cur (by decide) (by decide)).mono ?_; rintro e w5 ⟨tb, rfl, hc5, hw5⟩
  have HG5 := Lib.hid (HG.out.but hw5 hlt)
  have HS5 := Lib.hid (HS4.out.draws hw5 hc5); clear hw5 hc5 HS3 HS4 HG
  clear v00 v01 v10 v11 v20 v21
  generalize w3.heap.size = G at *
  generalize hgl : [v0, v1, v2] = gl at *
  have HL3 := Lib.hid (show gl.length = 3 by rw [← hgl]; rfl)
  have HG6 := Lib.hid (show ON w.heap.size w5 (.slice (some ⟨G, 0, none⟩) 3 3) gl from by have := HG5.out; rw [HL3.out] at this; exact this)
  clear HG5 hgl
  cases tb
  · have HF := Lib.hid HG6.out
    go_wp2_with fail
    go_ret
    exact ⟨_, _, _, gl, rfl, HL3.out, HF.out, by decide, HI.out, HS5.out.cur, HS5.out.but⟩
  · have hcut : ∀ w, (Instr.slice 26 (.slice (some ⟨G, 0, none⟩) 3 3) none (some (.int .i64 2)) none).run Tryz.prog w = .ok (.slice (some ⟨G, 0, none⟩) 2 3) w := fun w => cut1_to 26 (by kernel_rfl) (fun w => by exact Tryz.sizeOf2 w) (some ⟨G, 0, none⟩) 3 3 2 (by omega) (by omega) w
    have HSd := Lib.hid (show St w B b w5.drew from HS5.out.drew)
    have HGd := Lib.hid (show ON w.heap.size w5.drew (.slice (some ⟨G, 0, none⟩) 3 3) gl from HG6.out)
    clear HS5 HG6
    go_wp2_with fail
    refine wp_region_held_drew (S := fun z => True) (by kernel_rfl) trivial (fun hHeld => ?_)
    refine wpAnyH_take (i := 0) (v := ?v0t) rfl (by kernel_rfl) (by kernel_rfl) (by kernel_rfl) (fun _ _ _ h => h) (Or.inl ⟨by rfl, ?hy0t⟩) (by assumption) ?rest0t
    case hy0t => (intro zz hSw; (try dsimp only at hSw); go_simp; (try with_reducible rfl))
    change wpAnyH _ _ _ _ _ _ _ (Act.put _ (some 13) _) _
    simp only [Act.put, List.setIfInBounds_toArray, List.set_cons_zero, List.set_cons_succ]
    refine wpAnyH_take (i := 1) (v := ?v1t) rfl (by kernel_rfl) (by kernel_rfl) (by kernel_rfl) (fun _ _ _ h => h) (Or.inl ⟨by rfl, ?hy1t⟩) (by assumption) ?rest1t
    case hy1t => (intro zz hSw; (try dsimp only at hSw); go_simp; (try with_reducible rfl))
    change wpAnyH _ _ _ _ _ _ _ (Act.put _ (some 14) _) _
    simp only [Act.put, List.setIfInBounds_toArray, List.set_cons_zero, List.set_cons_succ]
    refine wpAnyH_take (i := 2) (v := ?v2t) rfl (by kernel_rfl) (by kernel_rfl) (by kernel_rfl) (fun _ _ _ h => h) (Or.inl ⟨by rfl, ?hy2t⟩) (by assumption) ?rest2t
    case hy2t => (intro zz hSw; (try dsimp only at hSw); go_simp; (try with_reducible rfl))
    change wpAnyH _ _ _ _ _ _ _ (Act.put _ (some 15) _) _
    simp only [Act.put, List.setIfInBounds_toArray, List.set_cons_zero, List.set_cons_succ]
    refine wpAnyH_take (i := 7) (v := ?v7t) rfl (by kernel_rfl) (by kernel_rfl) (by kernel_rfl) (fun _ _ _ h => h) (Or.inl ⟨by rfl, ?hy7t⟩) (by assumption) ?rest7t
    case hy7t => (intro zz hSw; (try dsimp only at hSw); go_simp; (try with_reducible rfl))
    change wpAnyH _ _ _ _ _ _ _ (Act.put _ (some 20) _) _
    simp only [Act.put, List.setIfInBounds_toArray, List.set_cons_zero, List.set_cons_succ]
    refine wpAnyH_ready (rs := [3, 5]) (by kernel_rfl) (by simp) (AllReadyH.cons rfl (fun K hK => ?_) (AllReadyH.cons rfl (fun K hK => ?_) (AllReadyH.nil)))
    · skip
      generalize w5.drew = z0 at *
      have hbl1 := bel1 z0 (.cells #[.int .i64 1] 2)
      have Hn1 := Lib.hid (show ON w.heap.size (z0.alloc (.cells #[.int .i64 1] 2)) (.slice (some ⟨z0.heap.size, 0, none⟩) 1 1) [1] from litN (B := w.heap.size) z0 [1] HSd.out.size (by simp))
      have Hg1 := Lib.hid (HGd.out.next hbl1)
      have HS1 := Lib.hid (HSd.out.alloc (.cells #[.int .i64 1] 2))
      have hb_1 : z0.heap.size = z0.heap.size := rfl
      go_simp
      refine hK.out _ _ trivial (fun hHeld => ?_)
      clear hK K hbl1 hb_1
      generalize z0.alloc (.cells #[.int .i64 1] 2) = z1 at *
      refine wpAnyH_ready (rs := [4, 5]) (by kernel_rfl) (by simp) (AllReadyH.cons rfl (fun K hK => ?_) (AllReadyH.cons rfl (fun K hK => ?_) (AllReadyH.nil)))
      · skip
        refine step_append_fullN rfl (.tmp 15) (.tmp 16) rfl (l := gl) (m := [1]) rfl rfl HL3.out Hg1.out.vw rfl Hn1.out.vw (by decide) (by decide) ?_
        intro v2 z2 o2 b2
        obtain ⟨a2, c2, e2, -⟩ := o2.form
        subst e2
        have Hn2 := Lib.hid (ON.mono o2 HS1.out.size)
        have HS2 := Lib.hid (st_belowT HS1.out b2)
        have Hg2 := Lib.hid (Hg1.out.next b2)
        have Ho2 := Lib.hid (Hn1.out.next b2)
        have hal2 : (gl ++ [1]).length = 4 := by rw [List.length_append, HL3.out]; rfl
        rw [hal2] at Hn2
        clear o2 b2
        refine hK.out _ _ trivial (fun hHeld => ?_)
        clear hK K
        change wpAnyH _ _ _ _ _ _ _ (Act.put _ (some 17) _) _
        simp only [Act.put, List.setIfInBounds_toArray, List.set_cons_zero, List.set_cons_succ]
        rw [hal2]
        refine wpAnyH_ready (rs := [5, 8]) (by kernel_rfl) (by simp) (AllReadyH.cons rfl (fun K hK => ?_) (AllReadyH.cons rfl (fun K hK => ?_) (AllReadyH.nil)))
        · skip
          have hbl3 := bel1 z2 (.cells #[.int .i64 1, .int .i64 2, .int .i64 1099511627776] 2)
          have Hn3 := Lib.hid (show ON w.heap.size (z2.alloc (.cells #[.int .i64 1, .int .i64 2, .int .i64 1099511627776] 2)) (.slice (some ⟨z2.heap.size, 0, none⟩) 3 3) [1, 2, 1099511627776] from litN (B := w.heap.size) z2 [1, 2, 1099511627776] HS2.out.size (by simp))
          have Hg3 := Lib.hid (Hg2.out.next hbl3)
          have Ho3 := Lib.hid (Ho2.out.next hbl3)
          have Ha3 := Lib.hid (Hn2.out.next hbl3)
          have HS3 := Lib.hid (HS2.out.alloc (.cells #[.int .i64 1, .int .i64 2, .int .i64 1099511627776] 2))
          have hb_3 : z2.heap.size = z2.heap.size := rfl
          go_simp
          refine hK.out _ _ trivial (fun hHeld => ?_)
          clear hK K hbl3 hb_3
          generalize z2.alloc (.cells #[.int .i64 1, .int .i64 2, .int .i64 1099511627776] 2) = z3 at *
          refine wpAnyH_ready (rs := [6, 8]) (by kernel_rfl) (by simp) (AllReadyH.cons rfl (fun K hK => ?_) (AllReadyH.cons rfl (fun K hK => ?_) (AllReadyH.nil)))
          · skip
            have hbl4 := bel1 z3 (.cells #[.slice (some ⟨G, 0, none⟩) 2 3, .slice a2 4 c2, .slice (some ⟨z2.heap.size, 0, none⟩) 3 3] 26)
            have Hn4 := Lib.hid (show O1 26 w.heap.size (z3.alloc (.cells #[.slice (some ⟨G, 0, none⟩) 2 3, .slice a2 4 c2, .slice (some ⟨z2.heap.size, 0, none⟩) 3 3] 26)) (.slice (some ⟨z3.heap.size, 0, none⟩) 3 3) [.slice (some ⟨G, 0, none⟩) 2 3, .slice a2 4 c2, .slice (some ⟨z2.heap.size, 0, none⟩) 3 3] from O1.lit (T := 26) HS3.out.size #[.slice (some ⟨G, 0, none⟩) 2 3, .slice a2 4 c2, .slice (some ⟨z2.heap.size, 0, none⟩) 3 3] (by unfold maxLen; simp))
            have Hg4 := Lib.hid (Hg3.out.next hbl4)
            have Ho4 := Lib.hid (Ho3.out.next hbl4)
            have Ha4 := Lib.hid (Ha3.out.next hbl4)
            have Ht4 := Lib.hid (Hn3.out.next hbl4)
            have HS4 := Lib.hid (HS3.out.alloc (.cells #[.slice (some ⟨G, 0, none⟩) 2 3, .slice a2 4 c2, .slice (some ⟨z2.heap.size, 0, none⟩) 3 3] 26))
            have hb_4 : z3.heap.size = z3.heap.size := rfl
            go_simp
            refine hK.out _ _ trivial (fun hHeld => ?_)
            clear hK K hbl4 hb_4
            generalize z3.alloc (.cells #[.slice (some ⟨G, 0, none⟩) 2 3, .slice a2 4 c2, .slice (some ⟨z2.heap.size, 0, none⟩) 3 3] 26) = z4 at *
            refine wpAnyH_ready (rs := [8]) (by kernel_rfl) (by simp) (AllReadyH.cons rfl (fun K hK => ?_) (AllReadyH.nil))
            go_simp
            refine (below_any B b _ _ HS4.out.cur (by decide) (by decide)).mono ?_; rintro e z5 ⟨y, rfl, y0, y1, hc5, hw5⟩
            obtain ⟨m, rfl⟩ := Int.eq_ofNat_of_zero_le y0
            have hm3 : m < 3 := by omega
            have hmi : (m : Int) < 3 := by omega
            have HS5 := Lib.hid (HS4.out.draws hw5 hc5)
            have Hg5 := Lib.hid (Hg4.out.but hw5 hlt)
            have Ho5 := Lib.hid (Ho4.out.but hw5 hlt)
            have Ha5 := Lib.hid (Ha4.out.but hw5 hlt)
            have Ht5 := Lib.hid (Ht4.out.but hw5 hlt)
            have Hq5 := Lib.hid (Hn4.out.but hw5 hlt)
            clear hw5 hc5
            refine hK.out _ _ trivial (fun hHeld => ?_)
            clear hK K
            refine wpAnyH_take (i := 9) (v := ?v9txxxx) rfl (by kernel_rfl) (by kernel_rfl) (by kernel_rfl) (fun _ _ _ h => h) (Or.inl ⟨by rfl, ?hy9txxxx⟩) (by assumption) ?rest9txxxx
            case hy9txxxx => (intro zz hSw; (try dsimp only at hSw); go_simp; (try with_reducible rfl))
            change wpAnyH _ _ _ _ _ _ _ (Act.put _ (some 22) _) _
            simp only [Act.put, List.setIfInBounds_toArray, List.set_cons_zero, List.set_cons_succ]
            refine wpAnyH_ready (rs := [10]) (by kernel_rfl) (by simp) (AllReadyH.cons rfl (fun K hK => ?_) (AllReadyH.nil))
            obtain ⟨pa, pn, pc, gs, hcell, hgn, hgv, hg4, hgi⟩ := pick3 (ON.cut Hg5.out HL3.out (k := 2) (by omega)) Ha5.out Ht5.out Hq5.out (by rw [List.length_take, HL3.out]; decide) (by rw [List.length_append, HL3.out]; decide) (by decide) (fun x hx => HI.out x (List.mem_of_mem_take hx)) (fun x hx => by
                rcases List.mem_append.1 hx with h | h
                · exact HI.out x h
                · simp at h; subst h; exact ⟨by decide, by decide⟩) (fun x hx => by simp at hx; rcases hx with rfl | rfl | rfl <;> exact ⟨by decide, by decide⟩) hm3
            go_simp
            refine hK.out _ _ trivial (fun hHeld => ?_)
            clear hK K
            refine wpAnyH_take (i := 11) (v := ?v11txxxx) rfl (by kernel_rfl) (by kernel_rfl) (by kernel_rfl) (fun _ _ _ h => h) (Or.inl ⟨by rfl, ?hy11txxxx⟩) (by assumption) ?rest11txxxx
            case hy11txxxx => (intro zz hSw; (try dsimp only at hSw); go_simp; (try with_reducible rfl))
            change wpAnyH _ _ _ _ _ _ _ (Act.put _ (some 2) _) _
            simp only [Act.put, List.setIfInBounds_toArray, List.set_cons_zero, List.set_cons_succ]
            refine wpAnyH_done (by kernel_rfl) ?_ _
            go_wp2_with fail
            go_ret
            exact ⟨_, _, _, gs, rfl, hgn, hgv, hg4, hgi, HS5.out.cur, HS5.out.but⟩
          · skip
            go_simp
            refine (below_any B b _ _ HS3.out.cur (by decide) (by decide)).mono ?_; rintro e z7 ⟨y, rfl, y0, y1, hc7, hw7⟩
            obtain ⟨m, rfl⟩ := Int.eq_ofNat_of_zero_le y0
            have hm3 : m < 3 := by omega
            have hmi : (m : Int) < 3 := by omega
            have HS7 := Lib.hid (HS3.out.draws hw7 hc7)
            have Hg7 := Lib.hid (Hg3.out.but hw7 hlt)
            have Ho7 := Lib.hid (Ho3.out.but hw7 hlt)
            have Ha7 := Lib.hid (Ha3.out.but hw7 hlt)
            have Ht7 := Lib.hid (Hn3.out.but hw7 hlt)
            clear hw7 hc7
            refine hK.out _ _ trivial (fun hHeld => ?_)
            clear hK K
            refine wpAnyH_ready (rs := [6]) (by kernel_rfl) (by simp) (AllReadyH.cons rfl (fun K hK => ?_) (AllReadyH.nil))
            have hbl8 := bel1 z7 (.cells #[.slice (some ⟨G, 0, none⟩) 2 3, .slice a2 4 c2, .slice (some ⟨z2.heap.size, 0, none⟩) 3 3] 26)
            have Hn8 := Lib.hid (show O1 26 w.heap.size (z7.alloc (.cells #[.slice (some ⟨G, 0, none⟩) 2 3, .slice a2 4 c2, .slice (some ⟨z2.heap.size, 0, none⟩) 3 3] 26)) (.slice (some ⟨z7.heap.size, 0, none⟩) 3 3) [.slice (some ⟨G, 0, none⟩) 2 3, .slice a2 4 c2, .slice (some ⟨z2.heap.size, 0, none⟩) 3 3] from O1.lit (T := 26) HS7.out.size #[.slice (some ⟨G, 0, none⟩) 2 3, .slice a2 4 c2, .slice (some ⟨z2.heap.size, 0, none⟩) 3 3] (by unfold maxLen; simp))
            have Hg8 := Lib.hid (Hg7.out.next hbl8)
            have Ho8 := Lib.hid (Ho7.out.next hbl8)
            have Ha8 := Lib.hid (Ha7.out.next hbl8)
            have Ht8 := Lib.hid (Ht7.out.next hbl8)
            have HS8 := Lib.hid (HS7.out.alloc (.cells #[.slice (some ⟨G, 0, none⟩) 2 3, .slice a2 4 c2, .slice (some ⟨z2.heap.size, 0, none⟩) 3 3] 26))
            have hb_8 : z7.heap.size = z7.heap.size := rfl
            go_simp
            refine hK.out _ _ trivial (fun hHeld => ?_)
            clear hK K hbl8 hb_8
            generalize z7.alloc (.cells #[.slice (some ⟨G, 0, none⟩) 2 3, .slice a2 4 c2, .slice (some ⟨z2.heap.size, 0, none⟩) 3 3] 26) = z8 at *
            refine wpAnyH_take (i := 9) (v := ?v9txxxy) rfl (by kernel_rfl) (by kernel_rfl) (by kernel_rfl) (fun _ _ _ h => h) (Or.inl ⟨by rfl, ?hy9txxxy⟩) (by assumption) ?rest9txxxy
            case hy9txxxy => (intro zz hSw; (try dsimp only at hSw); go_simp; (try with_reducible rfl))
            change wpAnyH _ _ _ _ _ _ _ (Act.put _ (some 22) _) _
            simp only [Act.put, List.setIfInBounds_toArray, List.set_cons_zero, List.set_cons_succ]
            refine wpAnyH_ready (rs := [10]) (by kernel_rfl) (by simp) (AllReadyH.cons rfl (fun K hK => ?_) (AllReadyH.nil))
            obtain ⟨pa, pn, pc, gs, hcell, hgn, hgv, hg4, hgi⟩ := pick3 (ON.cut Hg8.out HL3.out (k := 2) (by omega)) Ha8.out Ht8.out Hn8.out (by rw [List.length_take, HL3.out]; decide) (by rw [List.length_append, HL3.out]; decide) (by decide) (fun x hx => HI.out x (List.mem_of_mem_take hx)) (fun x hx => by
                rcases List.mem_append.1 hx with h | h
                · exact HI.out x h
                · simp at h; subst h; exact ⟨by decide, by decide⟩) (fun x hx => by simp at hx; rcases hx with rfl | rfl | rfl <;> exact ⟨by decide, by decide⟩) hm3
            go_simp
            refine hK.out _ _ trivial (fun hHeld => ?_)
            clear hK K
            refine wpAnyH_take (i := 11) (v := ?v11txxxy) rfl (by kernel_rfl) (by kernel_rfl) (by kernel_rfl) (fun _ _ _ h => h) (Or.inl ⟨by rfl, ?hy11txxxy⟩) (by assumption) ?rest11txxxy
            case hy11txxxy => (intro zz hSw; (try dsimp only at hSw); go_simp; (try with_reducible rfl))
            change wpAnyH _ _ _ _ _ _ _ (Act.put _ (some 2) _) _
            simp only [Act.put, List.setIfInBounds_toArray, List.set_cons_zero, List.set_cons_succ]
            refine wpAnyH_done (by kernel_rfl) ?_ _
            go_wp2_with fail
            go_ret
            exact ⟨_, _, _, gs, rfl, hgn, hgv, hg4, hgi, HS8.out.cur, HS8.out.but⟩
        · skip
          go_simp
          refine (below_any B b _ _ HS2.out.cur (by decide) (by decide)).mono ?_; rintro e z10 ⟨y, rfl, y0, y1, hc10, hw10⟩
          obtain ⟨m, rfl⟩ := Int.eq_ofNat_of_zero_le y0
          have hm3 : m < 3 := by omega
          have hmi : (m : Int) < 3 := by omega
          have HS10 := Lib.hid (HS2.out.draws hw10 hc10)
          have Hg10 := Lib.hid (Hg2.out.but hw10 hlt)
          have Ho10 := Lib.hid (Ho2.out.but hw10 hlt)
          have Ha10 := Lib.hid (Hn2.out.but hw10 hlt)
          clear hw10 hc10
          refine hK.out _ _ trivial (fun hHeld => ?_)
          clear hK K
          refine wpAnyH_ready (rs := [5]) (by kernel_rfl) (by simp) (AllReadyH.cons rfl (fun K hK => ?_) (AllReadyH.nil))
          have hbl11 := bel1 z10 (.cells #[.int .i64 1, .int .i64 2, .int .i64 1099511627776] 2)
          have Hn11 := Lib.hid (show ON w.heap.size (z10.alloc (.cells #[.int .i64 1, .int .i64 2, .int .i64 1099511627776] 2)) (.slice (some ⟨z10.heap.size, 0, none⟩) 3 3) [1, 2, 1099511627776] from litN (B := w.heap.size) z10 [1, 2, 1099511627776] HS10.out.size (by simp))
          have Hg11 := Lib.hid (Hg10.out.next hbl11)
          have Ho11 := Lib.hid (Ho10.out.next hbl11)
          have Ha11 := Lib.hid (Ha10.out.next hbl11)
          have HS11 := Lib.hid (HS10.out.alloc (.cells #[.int .i64 1, .int .i64 2, .int .i64 1099511627776] 2))
          have hb_11 : z10.heap.size = z10.heap.size := rfl
          go_simp
          refine hK.out _ _ trivial (fun hHeld => ?_)
          clear hK K hbl11 hb_11
          generalize z10.alloc (.cells #[.int .i64 1, .int .i64 2, .int .i64 1099511627776] 2) = z11 at *
          refine wpAnyH_ready (rs := [6]) (by kernel_rfl) (by simp) (AllReadyH.cons rfl (fun K hK => ?_) (AllReadyH.nil))
          have hbl12 := bel1 z11 (.cells #[.slice (some ⟨G, 0, none⟩) 2 3, .slice a2 4 c2, .slice (some ⟨z10.heap.size, 0, none⟩) 3 3] 26)
          have Hn12 := Lib.hid (show O1 26 w.heap.size (z11.alloc (.cells #[.slice (some ⟨G, 0, none⟩) 2 3, .slice a2 4 c2, .slice (some ⟨z10.heap.size, 0, none⟩) 3 3] 26)) (.slice (some ⟨z11.heap.size, 0, none⟩) 3 3) [.slice (some ⟨G, 0, none⟩) 2 3, .slice a2 4 c2, .slice (some ⟨z10.heap.size, 0, none⟩) 3 3] from O1.lit (T := 26) HS11.out.size #[.slice (some ⟨G, 0, none⟩) 2 3, .slice a2 4 c2, .slice (some ⟨z10.heap.size, 0, none⟩) 3 3] (by unfold maxLen; simp))
          have Hg12 := Lib.hid (Hg11.out.next hbl12)
          have Ho12 := Lib.hid (Ho11.out.next hbl12)
          have Ha12 := Lib.hid (Ha11.out.next hbl12)
          have Ht12 := Lib.hid (Hn11.out.next hbl12)
          have HS12 := Lib.hid (HS11.out.alloc (.cells #[.slice (some ⟨G, 0, none⟩) 2 3, .slice a2 4 c2, .slice (some ⟨z10.heap.size, 0, none⟩) 3 3] 26))
          have hb_12 : z11.heap.size = z11.heap.size := rfl
          go_simp
          refine hK.out _ _ trivial (fun hHeld => ?_)
          clear hK K hbl12 hb_12
          generalize z11.alloc (.cells #[.slice (some ⟨G, 0, none⟩) 2 3, .slice a2 4 c2, .slice (some ⟨z10.heap.size, 0, none⟩) 3 3] 26) = z12 at *
          refine wpAnyH_take (i := 9) (v := ?v9txxy) rfl (by kernel_rfl) (by kernel_rfl) (by kernel_rfl) (fun _ _ _ h => h) (Or.inl ⟨by rfl, ?hy9txxy⟩) (by assumption) ?rest9txxy
          case hy9txxy => (intro zz hSw; (try dsimp only at hSw); go_simp; (try with_reducible rfl))
          change wpAnyH _ _ _ _ _ _ _ (Act.put _ (some 22) _) _
          simp only [Act.put, List.setIfInBounds_toArray, List.set_cons_zero, List.set_cons_succ]
          refine wpAnyH_ready (rs := [10]) (by kernel_rfl) (by simp) (AllReadyH.cons rfl (fun K hK => ?_) (AllReadyH.nil))
          obtain ⟨pa, pn, pc, gs, hcell, hgn, hgv, hg4, hgi⟩ := pick3 (ON.cut Hg12.out HL3.out (k := 2) (by omega)) Ha12.out Ht12.out Hn12.out (by rw [List.length_take, HL3.out]; decide) (by rw [List.length_append, HL3.out]; decide) (by decide) (fun x hx => HI.out x (List.mem_of_mem_take hx)) (fun x hx => by
              rcases List.mem_append.1 hx with h | h
              · exact HI.out x h
              · simp at h; subst h; exact ⟨by decide, by decide⟩) (fun x hx => by simp at hx; rcases hx with rfl | rfl | rfl <;> exact ⟨by decide, by decide⟩) hm3
          go_simp
          refine hK.out _ _ trivial (fun hHeld => ?_)
          clear hK K
          refine wpAnyH_take (i := 11) (v := ?v11txxy) rfl (by kernel_rfl) (by kernel_rfl) (by kernel_rfl) (fun _ _ _ h => h) (Or.inl ⟨by rfl, ?hy11txxy⟩) (by assumption) ?rest11txxy
          case hy11txxy => (intro zz hSw; (try dsimp only at hSw); go_simp; (try with_reducible rfl))
          change wpAnyH _ _ _ _ _ _ _ (Act.put _ (some 2) _) _
          simp only [Act.put, List.setIfInBounds_toArray, List.set_cons_zero, List.set_cons_succ]
          refine wpAnyH_done (by kernel_rfl) ?_ _
          go_wp2_with fail
          go_ret
          exact ⟨_, _, _, gs, rfl, hgn, hgv, hg4, hgi, HS12.out.cur, HS12.out.but⟩
      · skip
        have hbl14 := bel1 z1 (.cells #[.int .i64 1, .int .i64 2, .int .i64 1099511627776] 2)
        have Hn14 := Lib.hid (show ON w.heap.size (z1.alloc (.cells #[.int .i64 1, .int .i64 2, .int .i64 1099511627776] 2)) (.slice (some ⟨z1.heap.size, 0, none⟩) 3 3) [1, 2, 1099511627776] from litN (B := w.heap.size) z1 [1, 2, 1099511627776] HS1.out.size (by simp))
        have Hg14 := Lib.hid (Hg1.out.next hbl14)
        have Ho14 := Lib.hid (Hn1.out.next hbl14)
        have HS14 := Lib.hid (HS1.out.alloc (.cells #[.int .i64 1, .int .i64 2, .int .i64 1099511627776] 2))
        have hb_14 : z1.heap.size = z1.heap.size := rfl
        go_simp
        refine hK.out _ _ trivial (fun hHeld => ?_)
        clear hK K hbl14 hb_14
        generalize z1.alloc (.cells #[.int .i64 1, .int .i64 2, .int .i64 1099511627776] 2) = z14 at *
        refine wpAnyH_ready (rs := [4]) (by kernel_rfl) (by simp) (AllReadyH.cons rfl (fun K hK => ?_) (AllReadyH.nil))
        refine step_append_fullN rfl (.tmp 15) (.tmp 16) rfl (l := gl) (m := [1]) rfl rfl HL3.out Hg14.out.vw rfl Ho14.out.vw (by decide) (by decide) ?_
        intro v15 z15 o15 b15
        obtain ⟨a15, c15, e15, -⟩ := o15.form
        subst e15
        have Hn15 := Lib.hid (ON.mono o15 HS14.out.size)
        have HS15 := Lib.hid (st_belowT HS14.out b15)
        have Hg15 := Lib.hid (Hg14.out.next b15)
        have Ho15 := Lib.hid (Ho14.out.next b15)
        have Ht15 := Lib.hid (Hn14.out.next b15)
        have hal15 : (gl ++ [1]).length = 4 := by rw [List.length_append, HL3.out]; rfl
        rw [hal15] at Hn15
        clear o15 b15
        refine hK.out _ _ trivial (fun hHeld => ?_)
        clear hK K
        change wpAnyH _ _ _ _ _ _ _ (Act.put _ (some 17) _) _
        simp only [Act.put, List.setIfInBounds_toArray, List.set_cons_zero, List.set_cons_succ]
        rw [hal15]
        refine wpAnyH_ready (rs := [6, 8]) (by kernel_rfl) (by simp) (AllReadyH.cons rfl (fun K hK => ?_) (AllReadyH.cons rfl (fun K hK => ?_) (AllReadyH.nil)))
        · skip
          have hbl16 := bel1 z15 (.cells #[.slice (some ⟨G, 0, none⟩) 2 3, .slice a15 4 c15, .slice (some ⟨z1.heap.size, 0, none⟩) 3 3] 26)
          have Hn16 := Lib.hid (show O1 26 w.heap.size (z15.alloc (.cells #[.slice (some ⟨G, 0, none⟩) 2 3, .slice a15 4 c15, .slice (some ⟨z1.heap.size, 0, none⟩) 3 3] 26)) (.slice (some ⟨z15.heap.size, 0, none⟩) 3 3) [.slice (some ⟨G, 0, none⟩) 2 3, .slice a15 4 c15, .slice (some ⟨z1.heap.size, 0, none⟩) 3 3] from O1.lit (T := 26) HS15.out.size #[.slice (some ⟨G, 0, none⟩) 2 3, .slice a15 4 c15, .slice (some ⟨z1.heap.size, 0, none⟩) 3 3] (by unfold maxLen; simp))
          have Hg16 := Lib.hid (Hg15.out.next hbl16)
          have Ho16 := Lib.hid (Ho15.out.next hbl16)
          have Ha16 := Lib.hid (Hn15.out.next hbl16)
          have Ht16 := Lib.hid (Ht15.out.next hbl16)
          have HS16 := Lib.hid (HS15.out.alloc (.cells #[.slice (some ⟨G, 0, none⟩) 2 3, .slice a15 4 c15, .slice (some ⟨z1.heap.size, 0, none⟩) 3 3] 26))
          have hb_16 : z15.heap.size = z15.heap.size := rfl
          go_simp
          refine hK.out _ _ trivial (fun hHeld => ?_)
          clear hK K hbl16 hb_16
          generalize z15.alloc (.cells #[.slice (some ⟨G, 0, none⟩) 2 3, .slice a15 4 c15, .slice (some ⟨z1.heap.size, 0, none⟩) 3 3] 26) = z16 at *
          refine wpAnyH_ready (rs := [8]) (by kernel_rfl) (by simp) (AllReadyH.cons rfl (fun K hK => ?_) (AllReadyH.nil))
          go_simp
          refine (below_any B b _ _ HS16.out.cur (by decide) (by decide)).mono ?_; rintro e z17 ⟨y, rfl, y0, y1, hc17, hw17⟩
          obtain ⟨m, rfl⟩ := Int.eq_ofNat_of_zero_le y0
          have hm3 : m < 3 := by omega
          have hmi : (m : Int) < 3 := by omega
          have HS17 := Lib.hid (HS16.out.draws hw17 hc17)
          have Hg17 := Lib.hid (Hg16.out.but hw17 hlt)
          have Ho17 := Lib.hid (Ho16.out.but hw17 hlt)
          have Ha17 := Lib.hid (Ha16.out.but hw17 hlt)
          have Ht17 := Lib.hid (Ht16.out.but hw17 hlt)
          have Hq17 := Lib.hid (Hn16.out.but hw17 hlt)
          clear hw17 hc17
          refine hK.out _ _ trivial (fun hHeld => ?_)
          clear hK K
          refine wpAnyH_take (i := 9) (v := ?v9txyx) rfl (by kernel_rfl) (by kernel_rfl) (by kernel_rfl) (fun _ _ _ h => h) (Or.inl ⟨by rfl, ?hy9txyx⟩) (by assumption) ?rest9txyx
          case hy9txyx => (intro zz hSw; (try dsimp only at hSw); go_simp; (try with_reducible rfl))
          change wpAnyH _ _ _ _ _ _ _ (Act.put _ (some 22) _) _
          simp only [Act.put, List.setIfInBounds_toArray, List.set_cons_zero, List.set_cons_succ]
          refine wpAnyH_ready (rs := [10]) (by kernel_rfl) (by simp) (AllReadyH.cons rfl (fun K hK => ?_) (AllReadyH.nil))
          obtain ⟨pa, pn, pc, gs, hcell, hgn, hgv, hg4, hgi⟩ := pick3 (ON.cut Hg17.out HL3.out (k := 2) (by omega)) Ha17.out Ht17.out Hq17.out (by rw [List.length_take, HL3.out]; decide) (by rw [List.length_append, HL3.out]; decide) (by decide) (fun x hx => HI.out x (List.mem_of_mem_take hx)) (fun x hx => by
              rcases List.mem_append.1 hx with h | h
              · exact HI.out x h
              · simp at h; subst h; exact ⟨by decide, by decide⟩) (fun x hx => by simp at hx; rcases hx with rfl | rfl | rfl <;> exact ⟨by decide, by decide⟩) hm3
          go_simp
          refine hK.out _ _ trivial (fun hHeld => ?_)
          clear hK K
          refine wpAnyH_take (i := 11) (v := ?v11txyx) rfl (by kernel_rfl) (by kernel_rfl) (by kernel_rfl) (fun _ _ _ h => h) (Or.inl ⟨by rfl, ?hy11txyx⟩) (by assumption) ?rest11txyx
          case hy11txyx => (intro zz hSw; (try dsimp only at hSw); go_simp; (try with_reducible rfl))
          change wpAnyH _ _ _ _ _ _ _ (Act.put _ (some 2) _) _
          simp only [Act.put, List.setIfInBounds_toArray, List.set_cons_zero, List.set_cons_succ]
          refine wpAnyH_done (by kernel_rfl) ?_ _
          go_wp2_with fail
          go_ret
          exact ⟨_, _, _, gs, rfl, hgn, hgv, hg4, hgi, HS17.out.cur, HS17.out.but⟩
        · skip
          go_simp
          refine (below_any B b _ _ HS15.out.cur (by decide) (by decide)).mono ?_; rintro e z19 ⟨y, rfl, y0, y1, hc19, hw19⟩
          obtain ⟨m, rfl⟩ := Int.eq_ofNat_of_zero_le y0
          have hm3 : m < 3 := by omega
          have hmi : (m : Int) < 3 := by omega
          have HS19 := Lib.hid (HS15.out.draws hw19 hc19)
          have Hg19 := Lib.hid (Hg15.out.but hw19 hlt)
          have Ho19 := Lib.hid (Ho15.out.but hw19 hlt)
          have Ha19 := Lib.hid (Hn15.out.but hw19 hlt)
          have Ht19 := Lib.hid (Ht15.out.but hw19 hlt)
          clear hw19 hc19
          refine hK.out _ _ trivial (fun hHeld => ?_)
          clear hK K
          refine wpAnyH_ready (rs := [6]) (by kernel_rfl) (by simp) (AllReadyH.cons rfl (fun K hK => ?_) (AllReadyH.nil))
          have hbl20 := bel1 z19 (.cells #[.slice (some ⟨G, 0, none⟩) 2 3, .slice a15 4 c15, .slice (some ⟨z1.heap.size, 0, none⟩) 3 3] 26)
          have Hn20 := Lib.hid (show O1 26 w.heap.size (z19.alloc (.cells #[.slice (some ⟨G, 0, none⟩) 2 3, .slice a15 4 c15, .slice (some ⟨z1.heap.size, 0, none⟩) 3 3] 26)) (.slice (some ⟨z19.heap.size, 0, none⟩) 3 3) [.slice (some ⟨G, 0, none⟩) 2 3, .slice a15 4 c15, .slice (some ⟨z1.heap.size, 0, none⟩) 3 3] from O1.lit (T := 26) HS19.out.size #[.slice (some ⟨G, 0, none⟩) 2 3, .slice a15 4 c15, .slice (some ⟨z1.heap.size, 0, none⟩) 3 3] (by unfold maxLen; simp))
          have Hg20 := Lib.hid (Hg19.out.next hbl20)
          have Ho20 := Lib.hid (Ho19.out.next hbl20)
          have Ha20 := Lib.hid (Ha19.out.next hbl20)
          have Ht20 := Lib.hid (Ht19.out.next hbl20)
          have HS20 := Lib.hid (HS19.out.alloc (.cells #[.slice (some ⟨G, 0, none⟩) 2 3, .slice a15 4 c15, .slice (some ⟨z1.heap.size, 0, none⟩) 3 3] 26))
          have hb_20 : z19.heap.size = z19.heap.size := rfl
          go_simp
          refine hK.out _ _ trivial (fun hHeld => ?_)
          clear hK K hbl20 hb_20
          generalize z19.alloc (.cells #[.slice (some ⟨G, 0, none⟩) 2 3, .slice a15 4 c15, .slice (some ⟨z1.heap.size, 0, none⟩) 3 3] 26) = z20 at *
          refine wpAnyH_take (i := 9) (v := ?v9txyy) rfl (by kernel_rfl) (by kernel_rfl) (by kernel_rfl) (fun _ _ _ h => h) (Or.inl ⟨by rfl, ?hy9txyy⟩) (by assumption) ?rest9txyy
          case hy9txyy => (intro zz hSw; (try dsimp only at hSw); go_simp; (try with_reducible rfl))
          change wpAnyH _ _ _ _ _ _ _ (Act.put _ (some 22) _) _
          simp only [Act.put, List.setIfInBounds_toArray, List.set_cons_zero, List.set_cons_succ]
          refine wpAnyH_ready (rs := [10]) (by kernel_rfl) (by simp) (AllReadyH.cons rfl (fun K hK => ?_) (AllReadyH.nil))
          obtain ⟨pa, pn, pc, gs, hcell, hgn, hgv, hg4, hgi⟩ := pick3 (ON.cut Hg20.out HL3.out (k := 2) (by omega)) Ha20.out Ht20.out Hn20.out (by rw [List.length_take, HL3.out]; decide) (by rw [List.length_append, HL3.out]; decide) (by decide) (fun x hx => HI.out x (List.mem_of_mem_take hx)) (fun x hx => by
              rcases List.mem_append.1 hx with h | h
              · exact HI.out x h
              · simp at h; subst h; exact ⟨by decide, by decide⟩) (fun x hx => by simp at hx; rcases hx with rfl | rfl | rfl <;> exact ⟨by decide, by decide⟩) hm3
          go_simp
          refine hK.out _ _ trivial (fun hHeld => ?_)
          clear hK K
          refine wpAnyH_take (i := 11) (v := ?v11txyy) rfl (by kernel_rfl) (by kernel_rfl) (by kernel_rfl) (fun _ _ _ h => h) (Or.inl ⟨by rfl, ?hy11txyy⟩) (by assumption) ?rest11txyy
          case hy11txyy => (intro zz hSw; (try dsimp only at hSw); go_simp; (try with_reducible rfl))
          change wpAnyH _ _ _ _ _ _ _ (Act.put _ (some 2) _) _
          simp only [Act.put, List.setIfInBounds_toArray, List.set_cons_zero, List.set_cons_succ]
          refine wpAnyH_done (by kernel_rfl) ?_ _
          go_wp2_with fail
          go_ret
          exact ⟨_, _, _, gs, rfl, hgn, hgv, hg4, hgi, HS20.out.cur, HS20.out.but⟩
    · skip
      generalize w5.drew = z0 at *
      have hbl22 := bel1 z0 (.cells #[.int .i64 1, .int .i64 2, .int .i64 1099511627776] 2)
      have Hn22 := Lib.hid (show ON w.heap.size (z0.alloc (.cells #[.int .i64 1, .int .i64 2, .int .i64 1099511627776] 2)) (.slice (some ⟨z0.heap.size, 0, none⟩) 3 3) [1, 2, 1099511627776] from litN (B := w.heap.size) z0 [1, 2, 1099511627776] HSd.out.size (by simp))
      have Hg22 := Lib.hid (HGd.out.next hbl22)
      have HS22 := Lib.hid (HSd.out.alloc (.cells #[.int .i64 1, .int .i64 2, .int .i64 1099511627776] 2))
      have hb_22 : z0.heap.size = z0.heap.size := rfl
      go_simp
      refine hK.out _ _ trivial (fun hHeld => ?_)
      clear hK K hbl22 hb_22
      generalize z0.alloc (.cells #[.int .i64 1, .int .i64 2, .int .i64 1099511627776] 2) = z22 at *
      refine wpAnyH_ready (rs := [3]) (by kernel_rfl) (by simp) (AllReadyH.cons rfl (fun K hK => ?_) (AllReadyH.nil))
      have hbl23 := bel1 z22 (.cells #[.int .i64 1] 2)
      have Hn23 := Lib.hid (show ON w.heap.size (z22.alloc (.cells #[.int .i64 1] 2)) (.slice (some ⟨z22.heap.size, 0, none⟩) 1 1) [1] from litN (B := w.heap.size) z22 [1] HS22.out.size (by simp))
      have Hg23 := Lib.hid (Hg22.out.next hbl23)
      have Ht23 := Lib.hid (Hn22.out.next hbl23)
      have HS23 := Lib.hid (HS22.out.alloc (.cells #[.int .i64 1] 2))
      have hb_23 : z22.heap.size = z22.heap.size := rfl
      go_simp
      refine hK.out _ _ trivial (fun hHeld => ?_)
      clear hK K hbl23 hb_23
      generalize z22.alloc (.cells #[.int .i64 1] 2) = z23 at *
      refine wpAnyH_ready (rs := [4]) (by kernel_rfl) (by simp) (AllReadyH.cons rfl (fun K hK => ?_) (AllReadyH.nil))
      refine step_append_fullN rfl (.tmp 15) (.tmp 16) rfl (l := gl) (m := [1]) rfl rfl HL3.out Hg23.out.vw rfl Hn23.out.vw (by decide) (by decide) ?_
      intro v24 z24 o24 b24
      obtain ⟨a24, c24, e24, -⟩ := o24.form
      subst e24
      have Hn24 := Lib.hid (ON.mono o24 HS23.out.size)
      have HS24 := Lib.hid (st_belowT HS23.out b24)
      have Hg24 := Lib.hid (Hg23.out.next b24)
      have Ho24 := Lib.hid (Hn23.out.next b24)
      have Ht24 := Lib.hid (Ht23.out.next b24)
      have hal24 : (gl ++ [1]).length = 4 := by rw [List.length_append, HL3.out]; rfl
      rw [hal24] at Hn24
      clear o24 b24
      refine hK.out _ _ trivial (fun hHeld => ?_)
      clear hK K
      change wpAnyH _ _ _ _ _ _ _ (Act.put _ (some 17) _) _
      simp only [Act.put, List.setIfInBounds_toArray, List.set_cons_zero, List.set_cons_succ]
      rw [hal24]
      refine wpAnyH_ready (rs := [6, 8]) (by kernel_rfl) (by simp) (AllReadyH.cons rfl (fun K hK => ?_) (AllReadyH.cons rfl (fun K hK => ?_) (AllReadyH.nil)))
      · skip
        have hbl25 := bel1 z24 (.cells #[.slice (some ⟨G, 0, none⟩) 2 3, .slice a24 4 c24, .slice (some ⟨z0.heap.size, 0, none⟩) 3 3] 26)
        have Hn25 := Lib.hid (show O1 26 w.heap.size (z24.alloc (.cells #[.slice (some ⟨G, 0, none⟩) 2 3, .slice a24 4 c24, .slice (some ⟨z0.heap.size, 0, none⟩) 3 3] 26)) (.slice (some ⟨z24.heap.size, 0, none⟩) 3 3) [.slice (some ⟨G, 0, none⟩) 2 3, .slice a24 4 c24, .slice (some ⟨z0.heap.size, 0, none⟩) 3 3] from O1.lit (T := 26) HS24.out.size #[.slice (some ⟨G, 0, none⟩) 2 3, .slice a24 4 c24, .slice (some ⟨z0.heap.size, 0, none⟩) 3 3] (by unfold maxLen; simp))
        have Hg25 := Lib.hid (Hg24.out.next hbl25)
        have Ho25 := Lib.hid (Ho24.out.next hbl25)
        have Ha25 := Lib.hid (Hn24.out.next hbl25)
        have Ht25 := Lib.hid (Ht24.out.next hbl25)
        have HS25 := Lib.hid (HS24.out.alloc (.cells #[.slice (some ⟨G, 0, none⟩) 2 3, .slice a24 4 c24, .slice (some ⟨z0.heap.size, 0, none⟩) 3 3] 26))
        have hb_25 : z24.heap.size = z24.heap.size := rfl
        go_simp
        refine hK.out _ _ trivial (fun hHeld => ?_)
        clear hK K hbl25 hb_25
        generalize z24.alloc (.cells #[.slice (some ⟨G, 0, none⟩) 2 3, .slice a24 4 c24, .slice (some ⟨z0.heap.size, 0, none⟩) 3 3] 26) = z25 at *
        refine wpAnyH_ready (rs := [8]) (by kernel_rfl) (by simp) (AllReadyH.cons rfl (fun K hK => ?_) (AllReadyH.nil))
        go_simp
        refine (below_any B b _ _ HS25.out.cur (by decide) (by decide)).mono ?_; rintro e z26 ⟨y, rfl, y0, y1, hc26, hw26⟩
        obtain ⟨m, rfl⟩ := Int.eq_ofNat_of_zero_le y0
        have hm3 : m < 3 := by omega
        have hmi : (m : Int) < 3 := by omega
        have HS26 := Lib.hid (HS25.out.draws hw26 hc26)
        have Hg26 := Lib.hid (Hg25.out.but hw26 hlt)
        have Ho26 := Lib.hid (Ho25.out.but hw26 hlt)
        have Ha26 := Lib.hid (Ha25.out.but hw26 hlt)
        have Ht26 := Lib.hid (Ht25.out.but hw26 hlt)
        have Hq26 := Lib.hid (Hn25.out.but hw26 hlt)
        clear hw26 hc26
        refine hK.out _ _ trivial (fun hHeld => ?_)
        clear hK K
        refine wpAnyH_take (i := 9) (v := ?v9tyx) rfl (by kernel_rfl) (by kernel_rfl) (by kernel_rfl) (fun _ _ _ h => h) (Or.inl ⟨by rfl, ?hy9tyx⟩) (by assumption) ?rest9tyx
        case hy9tyx => (intro zz hSw; (try dsimp only at hSw); go_simp; (try with_reducible rfl))
        change wpAnyH _ _ _ _ _ _ _ (Act.put _ (some 22) _) _
        simp only [Act.put, List.setIfInBounds_toArray, List.set_cons_zero, List.set_cons_succ]
        refine wpAnyH_ready (rs := [10]) (by kernel_rfl) (by simp) (AllReadyH.cons rfl (fun K hK => ?_) (AllReadyH.nil))
        obtain ⟨pa, pn, pc, gs, hcell, hgn, hgv, hg4, hgi⟩ := pick3 (ON.cut Hg26.out HL3.out (k := 2) (by omega)) Ha26.out Ht26.out Hq26.out (by rw [List.length_take, HL3.out]; decide) (by rw [List.length_append, HL3.out]; decide) (by decide) (fun x hx => HI.out x (List.mem_of_mem_take hx)) (fun x hx => by
            rcases List.mem_append.1 hx with h | h
            · exact HI.out x h
            · simp at h; subst h; exact ⟨by decide, by decide⟩) (fun x hx => by simp at hx; rcases hx with rfl | rfl | rfl <;> exact ⟨by decide, by decide⟩) hm3
        go_simp
        refine hK.out _ _ trivial (fun hHeld => ?_)
        clear hK K
        refine wpAnyH_take (i := 11) (v := ?v11tyx) rfl (by kernel_rfl) (by kernel_rfl) (by kernel_rfl) (fun _ _ _ h => h) (Or.inl ⟨by rfl, ?hy11tyx⟩) (by assumption) ?rest11tyx
        case hy11tyx => (intro zz hSw; (try dsimp only at hSw); go_simp; (try with_reducible rfl))
        change wpAnyH _ _ _ _ _ _ _ (Act.put _ (some 2) _) _
        simp only [Act.put, List.setIfInBounds_toArray, List.set_cons_zero, List.set_cons_succ]
        refine wpAnyH_done (by kernel_rfl) ?_ _
        go_wp2_with fail
        go_ret
        exact ⟨_, _, _, gs, rfl, hgn, hgv, hg4, hgi, HS26.out.cur, HS26.out.but⟩
      · skip
        go_simp
        refine (below_any B b _ _ HS24.out.cur (by decide) (by decide)).mono ?_; rintro e z28 ⟨y, rfl, y0, y1, hc28, hw28⟩
        obtain ⟨m, rfl⟩ := Int.eq_ofNat_of_zero_le y0
        have hm3 : m < 3 := by omega
        have hmi : (m : Int) < 3 := by omega
        have HS28 := Lib.hid (HS24.out.draws hw28 hc28)
        have Hg28 := Lib.hid (Hg24.out.but hw28 hlt)
        have Ho28 := Lib.hid (Ho24.out.but hw28 hlt)
        have Ha28 := Lib.hid (Hn24.out.but hw28 hlt)
        have Ht28 := Lib.hid (Ht24.out.but hw28 hlt)
        clear hw28 hc28
        refine hK.out _ _ trivial (fun hHeld => ?_)
        clear hK K
        refine wpAnyH_ready (rs := [6]) (by kernel_rfl) (by simp) (AllReadyH.cons rfl (fun K hK => ?_) (AllReadyH.nil))
        have hbl29 := bel1 z28 (.cells #[.slice (some ⟨G, 0, none⟩) 2 3, .slice a24 4 c24, .slice (some ⟨z0.heap.size, 0, none⟩) 3 3] 26)
        have Hn29 := Lib.hid (show O1 26 w.heap.size (z28.alloc (.cells #[.slice (some ⟨G, 0, none⟩) 2 3, .slice a24 4 c24, .slice (some ⟨z0.heap.size, 0, none⟩) 3 3] 26)) (.slice (some ⟨z28.heap.size, 0, none⟩) 3 3) [.slice (some ⟨G, 0, none⟩) 2 3, .slice a24 4 c24, .slice (some ⟨z0.heap.size, 0, none⟩) 3 3] from O1.lit (T := 26) HS28.out.size #[.slice (some ⟨G, 0, none⟩) 2 3, .slice a24 4 c24, .slice (some ⟨z0.heap.size, 0, none⟩) 3 3] (by unfold maxLen; simp))
        have Hg29 := Lib.hid (Hg28.out.next hbl29)
        have Ho29 := Lib.hid (Ho28.out.next hbl29)
        have Ha29 := Lib.hid (Ha28.out.next hbl29)
        have Ht29 := Lib.hid (Ht28.out.next hbl29)
        have HS29 := Lib.hid (HS28.out.alloc (.cells #[.slice (some ⟨G, 0, none⟩) 2 3, .slice a24 4 c24, .slice (some ⟨z0.heap.size, 0, none⟩) 3 3] 26))
        have hb_29 : z28.heap.size = z28.heap.size := rfl
        go_simp
        refine hK.out _ _ trivial (fun hHeld => ?_)
        clear hK K hbl29 hb_29
        generalize z28.alloc (.cells #[.slice (some ⟨G, 0, none⟩) 2 3, .slice a24 4 c24, .slice (some ⟨z0.heap.size, 0, none⟩) 3 3] 26) = z29 at *
        refine wpAnyH_take (i := 9) (v := ?v9tyy) rfl (by kernel_rfl) (by kernel_rfl) (by kernel_rfl) (fun _ _ _ h => h) (Or.inl ⟨by rfl, ?hy9tyy⟩) (by assumption) ?rest9tyy
        case hy9tyy => (intro zz hSw; (try dsimp only at hSw); go_simp; (try with_reducible rfl))
        change wpAnyH _ _ _ _ _ _ _ (Act.put _ (some 22) _) _
        simp only [Act.put, List.setIfInBounds_toArray, List.set_cons_zero, List.set_cons_succ]
        refine wpAnyH_ready (rs := [10]) (by kernel_rfl) (by simp) (AllReadyH.cons rfl (fun K hK => ?_) (AllReadyH.nil))
        obtain ⟨pa, pn, pc, gs, hcell, hgn, hgv, hg4, hgi⟩ := pick3 (ON.cut Hg29.out HL3.out (k := 2) (by omega)) Ha29.out Ht29.out Hn29.out (by rw [List.length_take, HL3.out]; decide) (by rw [List.length_append, HL3.out]; decide) (by decide) (fun x hx => HI.out x (List.mem_of_mem_take hx)) (fun x hx => by
            rcases List.mem_append.1 hx with h | h
            · exact HI.out x h
            · simp at h; subst h; exact ⟨by decide, by decide⟩) (fun x hx => by simp at hx; rcases hx with rfl | rfl | rfl <;> exact ⟨by decide, by decide⟩) hm3
        go_simp
        refine hK.out _ _ trivial (fun hHeld => ?_)
        clear hK K
        refine wpAnyH_take (i := 11) (v := ?v11tyy) rfl (by kernel_rfl) (by kernel_rfl) (by kernel_rfl) (fun _ _ _ h => h) (Or.inl ⟨by rfl, ?hy11tyy⟩) (by assumption) ?rest11tyy
        case hy11tyy => (intro zz hSw; (try dsimp only at hSw); go_simp; (try with_reducible rfl))
        change wpAnyH _ _ _ _ _ _ _ (Act.put _ (some 2) _) _
        simp only [Act.put, List.setIfInBounds_toArray, List.set_cons_zero, List.set_cons_succ]
        refine wpAnyH_done (by kernel_rfl) ?_ _
        go_wp2_with fail
        go_ret
        exact ⟨_, _, _, gs, rfl, hgn, hgv, hg4, hgi, HS29.out.cur, HS29.out.but⟩
end Go.Proofs.YtfnnoehpahdgcaaGreatDoor.Cl
namespace Go.Proofs.YtfnnoehpahdgcaaGreatDoor.Lc
set_option linter.unusedVariables false
open Go.RowKit
def F (h : Int) : Int := wrap64 (wrap64 (h * 6364136223846793005) + 1442695040888963407)
def it : Nat → Int → Int
  | 0, h => h
  | n + 1, h => it n (F h)
theorem it_add : ∀ (m n : Nat) (h : Int), it (m + n) h = it n (it m h)
  | 0, n, h => by rw [Nat.zero_add]; rfl
  | m + 1, n, h => by rw [show m + 1 + n = (m + n) + 1 by omega]; exact it_add m n (F h)
theorem F_form (h : Int) : ∃ q, F h = 6364136223846793005 * h + 1442695040888963407 + q * 18446744073709551616 := by
  unfold F
  unfold wrap64
  refine ⟨(F h - (6364136223846793005 * h + 1442695040888963407)) / 18446744073709551616, ?_⟩
  unfold F
  unfold wrap64
  omega
theorem F_range (h : Int) : -9223372036854775808 ≤ F h ∧ F h ≤ 9223372036854775807 := by
  unfold F
  unfold wrap64
  omega
theorem pw : ∀ m : Nat, ∃ u v : Int, ∀ h, ∃ q, it (2 ^ m) h = (1 + 4 * 2 ^ m * u) * h + 2 ^ m * (2 * v + 1) + q * 18446744073709551616
  | 0 => ⟨1591034055961698251, 721347520444481703, fun h => by
    obtain ⟨q, hq⟩ := F_form h
    exact ⟨q, by show F h = _; rw [hq]; omega⟩⟩
  | m + 1 => by
    obtain ⟨u, v, hu⟩ := pw m
    refine ⟨u + 2 * 2 ^ m * (u * u), v + 2 ^ m * u * (2 * v + 1), fun h => ?_⟩
    obtain ⟨q, hq⟩ := hu h
    obtain ⟨r, hr⟩ := hu (it (2 ^ m) h)
    refine ⟨(1 + 4 * 2 ^ m * u) * q + r, ?_⟩
    rw [show (2 : Nat) ^ (m + 1) = 2 ^ m + 2 ^ m by rw [Nat.pow_succ]; omega, it_add, hr, hq, Int.pow_succ]
    generalize (2 : Int) ^ m = p
    grind
theorem reach : ∀ (m : Nat), m ≤ 64 → ∀ h h' : Int, ∃ (k : Nat) (q : Int), it k h = h' + 2 ^ m * q
  | 0, _, h, h' => ⟨0, h - h', by show h = _; omega⟩
  | m + 1, hm, h, h' => by
    obtain ⟨k, q, hk⟩ := reach m (by omega) h h'
    by_cases he : q % 2 = 0
    · refine ⟨k, q / 2, ?_⟩
      rw [hk, Int.pow_succ]
      obtain ⟨c, rfl⟩ : ∃ c, q = 2 * c := ⟨q / 2, by omega⟩
      rw [Int.mul_ediv_cancel_left _ (by decide)]
      grind
    · obtain ⟨c, rfl⟩ : ∃ c, q = 2 * c + 1 := ⟨q / 2, by omega⟩
      obtain ⟨u, v, hu⟩ := pw m
      obtain ⟨r, hr⟩ := hu (it k h)
      refine ⟨k + 2 ^ m, c + 2 * u * (it k h) + v + 1 + r * 2 ^ (63 - m), ?_⟩
      rw [it_add, hr, show (18446744073709551616 : Int) = 2 ^ m * 2 * 2 ^ (63 - m) by rw [← Int.pow_succ, ← Int.pow_add, show m + 1 + (63 - m) = 64 by omega]; rfl, Int.pow_succ]
      generalize he : it k h = g at *
      generalize (2 : Int) ^ (63 - m) = z
      generalize (2 : Int) ^ m = p at *
      grind
theorem to_zero (h : Int) : ∃ k, it (k + 1) h = 0 := by
  obtain ⟨k, q, hk⟩ := reach 64 (by omega) (F h) 0
  refine ⟨k, ?_⟩
  show it k (F h) = 0
  have hr : -9223372036854775808 ≤ it k (F h) ∧ it k (F h) ≤ 9223372036854775807 := by
    cases k with
    | zero => exact F_range h
    | succ k => rw [it_add k 1]; exact F_range _
  rw [show (2 : Int) ^ 64 = 18446744073709551616 by rfl] at hk
  omega

abbrev S := List Int × Int
def X (h : Int) : Int := bits .xor .i64 (h / 8589934592) (h / 35184372088832) % 256
def byteM : S → Int × S
  | ([], h) => (X (F h), ([], F h))
  | (z :: r, h) => ((X (F h) + z) % 256, (r, F h))
def belowM (n : Int) (s : S) : Int × S :=
  if n ≤ 256 then ((byteM s).1 % n, (byteM s).2) else
    let a := byteM s
    let b := byteM a.2
    let c := byteM b.2
    let d := byteM c.2
    ((a.1 * 16777216 + b.1 * 65536 + c.1 * 256 + d.1) % n, d.2)
def wordM (s : S) : S :=
  let a := belowM 5 s
  if a.1 = 0 then (belowM 6 a.2).2 else if a.1 = 1 then (belowM 4294967296 a.2).2 else (belowM 12 a.2).2
def leafM (s : S) : S :=
  let a := belowM 4 s
  if a.1 = 0 then wordM a.2 else if a.1 = 1 then (belowM 3 a.2).2 else (belowM 6 a.2).2
def twoM (f : S → Nat × S) (s : S) : Nat × S := (1 + (f s).1 + (f (f s).2).1, (f (f s).2).2)
def numM : Nat → S → Nat × S
  | 0, s => (1, leafM s)
  | d + 1, s =>
    let a := belowM 2 s
    if a.1 = 0 then (1, leafM a.2) else twoM (numM d) (belowM 4 a.2).2
def truM : Nat → S → Nat × S
  | 0, s => (0, s)
  | 1, s => twoM (numM 0) (belowM 4 s).2
  | d + 2, s =>
    let a := belowM 4 s
    if a.1 = 3 then twoM (truM (d + 1)) a.2 else twoM (numM (d + 1)) a.2
def loopM (f : S → Nat × S) : Nat → S → Nat × S
  | 0, s => (0, s)
  | n + 1, s => ((f s).1 + (loopM f n (f s).2).1, (loopM f n (f s).2).2)
def deedM (B : Option (Int → S → Nat × S)) (s : S) : Nat × S :=
  let a := belowM 8 s
  if a.1 = 0 then (2, (belowM 6 a.2).2)
  else if a.1 = 1 then (let b := belowM 4 a.2; (if b.1 = 0 then 1 else 0, b.2))
  else if a.1 = 2 ∨ a.1 = 3 then
    match B with
    | none => (0, a.2)
    | some B => (let t := truM 2 a.2; let b := B 3 t.2; let c := B 3 b.2; (1 + t.1 + 1 + b.1 + 2 + c.1 + 1, c.2))
  else if a.1 = 4 then
    match B with
    | none => (0, a.2)
    | some B => (let b := B 2 (belowM 12 (belowM 6 a.2).2).2; (5 + b.1 + 6, b.2))
  else (let b := numM 2 (belowM 6 a.2).2; (2 + b.1, b.2))
def deedsM : Nat → Int → S → Nat × S
  | 0, most, s => let a := belowM most s; loopM (deedM none) a.1.toNat a.2
  | d + 1, most, s => let a := belowM most s; loopM (deedM (some (deedsM d))) a.1.toNat a.2
def goodFrom : Nat → Int → Bool
  | 0, _ => true
  | n + 1, h => decide ((deedsM 1 4 ([], h)).1 ≤ 120) && goodFrom n (F h)
theorem window : goodFrom 600 0 = true := by kernel_rfl
theorem good_at : ∀ (n : Nat) (h : Int), goodFrom n h = true → ∀ j, j < n → (deedsM 1 4 ([], it j h)).1 ≤ 120
  | 0, _, _, j, hj => absurd hj (by omega)
  | n + 1, h, hg, 0, _ => by
    unfold goodFrom at hg
    rw [Bool.and_eq_true, decide_eq_true_eq] at hg
    exact hg.1
  | n + 1, h, hg, j + 1, hj => by
    unfold goodFrom at hg
    rw [Bool.and_eq_true] at hg
    exact good_at n (F h) hg.2 j (by omega)

def stp (t : Nat) (s : S) : S := (s.1.drop t, it t s.2)
theorem stp_add (m n : Nat) (s : S) : stp (m + n) s = stp n (stp m s) := by
  unfold stp
  rw [it_add, List.drop_drop]
def Adv (lo hi : Nat) (s s' : S) : Prop := ∃ t, lo ≤ t ∧ t ≤ hi ∧ s' = stp t s
theorem Adv.trans {a b c d : Nat} {x y z : S} (h : Adv a b x y) (k : Adv c d y z) : Adv (a + c) (b + d) x z := by
  obtain ⟨t, t1, t2, rfl⟩ := h
  obtain ⟨u, u1, u2, rfl⟩ := k
  exact ⟨t + u, by omega, by omega, (stp_add t u x).symm⟩
theorem Adv.mono {a b c d : Nat} {x y : S} (h : Adv a b x y) (h1 : c ≤ a) (h2 : b ≤ d) : Adv c d x y := by
  obtain ⟨t, t1, t2, e⟩ := h
  exact ⟨t, by omega, by omega, e⟩
theorem Adv.refl (n : Nat) (x : S) : Adv 0 n x x := ⟨0, Nat.le_refl _, Nat.zero_le _, rfl⟩
theorem byte_adv (s : S) : Adv 1 1 s (byteM s).2 := by
  obtain ⟨r, h⟩ := s
  cases r with
  | nil => exact ⟨1, Nat.le_refl _, Nat.le_refl _, rfl⟩
  | cons z r => exact ⟨1, Nat.le_refl _, Nat.le_refl _, rfl⟩
theorem below_adv {n : Int} (hn : n ≤ 256) (s : S) : Adv 1 1 s (belowM n s).2 := by
  unfold belowM
  rw [if_pos hn]
  exact byte_adv s
theorem below_adv4 (n : Int) (s : S) : Adv 1 4 s (belowM n s).2 := by
  by_cases hn : n ≤ 256
  · exact (below_adv hn s).mono (by omega) (by omega)
  · unfold belowM
    rw [if_neg hn]
    exact ((((byte_adv s).trans (byte_adv _)).trans (byte_adv _)).trans (byte_adv _)).mono (by omega) (by omega)
theorem word_adv (s : S) : Adv 2 5 s (wordM s) := by
  unfold wordM
  have h := below_adv (n := 5) (by decide) s
  dsimp only
  split
  · exact (h.trans (below_adv (by decide) _)).mono (by omega) (by omega)
  · split
    · exact (h.trans (below_adv4 _ _)).mono (by omega) (by omega)
    · exact (h.trans (below_adv (by decide) _)).mono (by omega) (by omega)
theorem leaf_adv (s : S) : Adv 2 6 s (leafM s) := by
  unfold leafM
  have h := below_adv (n := 4) (by decide) s
  dsimp only
  split
  · exact (h.trans (word_adv _)).mono (by omega) (by omega)
  · split
    · exact (h.trans (below_adv (by decide) _)).mono (by omega) (by omega)
    · exact (h.trans (below_adv (by decide) _)).mono (by omega) (by omega)
theorem two_adv {f : S → Nat × S} {a b : Nat} (hf : ∀ s, Adv a b s (f s).2) (s : S) : Adv (a + a) (b + b) s (twoM f s).2 := (hf s).trans (hf _)
theorem num0_adv (s : S) : Adv 1 6 s (numM 0 s).2 := (leaf_adv s).mono (by omega) (by omega)
theorem num_adv {d b : Nat} (hd : ∀ s, Adv 1 b s (numM d s).2) (hb : 6 ≤ b) (s : S) : Adv 1 (2 + b + b) s (numM (d + 1) s).2 := by
  unfold numM
  have h := below_adv (n := 2) (by decide) s
  dsimp only
  split
  · exact (h.trans (leaf_adv _)).mono (by omega) (by omega)
  · exact ((h.trans (below_adv (n := 4) (by decide) _)).trans (two_adv hd _)).mono (by omega) (by omega)
theorem num1_adv (s : S) : Adv 1 14 s (numM 1 s).2 := num_adv num0_adv (by omega) s
theorem num2_adv (s : S) : Adv 1 30 s (numM 2 s).2 := num_adv num1_adv (by omega) s
theorem tru1_adv (s : S) : Adv 1 13 s (truM 1 s).2 := by
  unfold truM
  exact ((below_adv (n := 4) (by decide) s).trans (two_adv num0_adv _)).mono (by omega) (by omega)
theorem tru2_adv (s : S) : Adv 1 29 s (truM 2 s).2 := by
  unfold truM
  have h := below_adv (n := 4) (by decide) s
  dsimp only
  split
  · exact (h.trans (two_adv tru1_adv _)).mono (by omega) (by omega)
  · exact (h.trans (two_adv num1_adv _)).mono (by omega) (by omega)
theorem loop_adv {f : S → Nat × S} {b : Nat} (hf : ∀ s, Adv 1 b s (f s).2) : ∀ (n : Nat) (s : S), Adv 0 (n * b) s (loopM f n s).2
  | 0, s => Adv.refl _ s
  | n + 1, s => ((hf s).trans (loop_adv hf n _)).mono (by omega) (by rw [Nat.succ_mul]; omega)
theorem deed0_adv (s : S) : Adv 1 32 s (deedM none s).2 := by
  unfold deedM
  have h := below_adv (n := 8) (by decide) s
  dsimp only
  split
  · exact (h.trans (below_adv (by decide) _)).mono (by omega) (by omega)
  · split
    · exact (h.trans (below_adv (by decide) _)).mono (by omega) (by omega)
    · split
      · exact h.mono (by omega) (by omega)
      · split
        · exact h.mono (by omega) (by omega)
        · exact ((h.trans (below_adv (n := 6) (by decide) _)).trans (num2_adv _)).mono (by omega) (by omega)
theorem below_lt {n : Int} (h1 : 1 ≤ n) (s : S) : (belowM n s).1.toNat ≤ n.toNat - 1 := by
  have key : ∀ x : Int, (x % n).toNat ≤ n.toNat - 1 := fun x => by
    have := Int.emod_nonneg x (show n ≠ 0 by omega)
    have := Int.emod_lt_of_pos x (show 0 < n by omega)
    omega
  unfold belowM
  split
  · exact key _
  · exact key _
theorem deeds0_adv {most : Int} (h1 : 1 ≤ most) (h2 : most ≤ 3) (s : S) : Adv 1 65 s (deedsM 0 most s).2 := by
  unfold deedsM
  have h := below_adv (n := most) (by omega) s
  have hl := below_lt h1 s
  exact (h.trans (loop_adv deed0_adv _ _)).mono (by omega) (by have : (belowM most s).1.toNat * 32 ≤ 2 * 32 := Nat.mul_le_mul_right _ (by omega); omega)
theorem deed1_adv (s : S) : Adv 1 160 s (deedM (some (deedsM 0)) s).2 := by
  unfold deedM
  have h := below_adv (n := 8) (by decide) s
  dsimp only
  split
  · exact (h.trans (below_adv (by decide) _)).mono (by omega) (by omega)
  · split
    · exact (h.trans (below_adv (by decide) _)).mono (by omega) (by omega)
    · split
      · exact (((h.trans (tru2_adv _)).trans (deeds0_adv (by decide) (by decide) _)).trans (deeds0_adv (by decide) (by decide) _)).mono (by omega) (by omega)
      · split
        · exact (((h.trans (below_adv (n := 6) (by decide) _)).trans (below_adv (n := 12) (by decide) _)).trans (deeds0_adv (by decide) (by decide) _)).mono (by omega) (by omega)
        · exact ((h.trans (below_adv (n := 6) (by decide) _)).trans (num2_adv _)).mono (by omega) (by omega)
theorem round_adv (s : S) : Adv 1 481 s (deedsM 1 4 s).2 := by
  unfold deedsM
  have h := below_adv (n := 4) (by decide) s
  have hl := below_lt (n := 4) (by decide) s
  exact (h.trans (loop_adv deed1_adv _ _)).mono (by omega) (by have : (belowM 4 s).1.toNat * 160 ≤ 3 * 160 := Nat.mul_le_mul_right _ hl; omega)

def Good (s : S) : Prop := (deedsM 1 4 s).1 ≤ 120
def rnd : Nat → S → S
  | 0, s => s
  | n + 1, s => rnd n (deedsM 1 4 s).2
theorem ends_pure : ∀ (D : Nat) (h : Int), it D h = 0 → ∃ n, Good (rnd n ([], h)) := by
  intro D
  induction D using Nat.strongRecOn with
  | _ D ih =>
    intro h hD
    obtain ⟨t, t1, t2, e⟩ := round_adv ([], h)
    have e' : (deedsM 1 4 ([], h)).2 = ([], it t h) := by rw [e]; unfold stp; rw [List.drop_nil]
    by_cases ht : t ≤ D
    · obtain ⟨n, hn⟩ := ih (D - t) (by omega) (it t h) (by rw [← it_add, show t + (D - t) = D by omega]; exact hD)
      exact ⟨n + 1, by show Good (rnd n (deedsM 1 4 ([], h)).2); rw [e']; exact hn⟩
    · refine ⟨1, ?_⟩
      show Good (deedsM 1 4 ([], h)).2
      rw [e', show t = D + (t - D) by omega, it_add, hD]
      exact good_at 600 0 window (t - D) (by omega)
theorem ends : ∀ (k : Nat) (s : S), s.1.length = k → ∃ n, Good (rnd n s) := by
  intro k
  induction k using Nat.strongRecOn with
  | _ k ih =>
    intro s hs
    obtain ⟨t, t1, t2, e⟩ := round_adv s
    obtain ⟨r, h⟩ := s
    cases r with
    | nil =>
      obtain ⟨k, hk⟩ := to_zero h
      exact ends_pure (k + 1) h hk
    | cons z r =>
      obtain ⟨n, hn⟩ := ih (stp t (z :: r, h)).1.length (by unfold stp; rw [List.length_drop]; rw [← hs]; simp only [List.length_cons]; omega) _ rfl
      exact ⟨n + 1, by show Good (rnd n (deedsM 1 4 (z :: r, h)).2); rw [e]; exact hn⟩
theorem falls : ∃ m : S → Nat, ∀ s, ¬ Good s → m (deedsM 1 4 s).2 < m s := by
  have least : ∀ s, ∃ n, Good (rnd n s) ∧ ∀ j, j < n → ¬ Good (rnd j s) := fun s => by
    obtain ⟨n, hn⟩ := ends _ s rfl
    revert hn
    induction n using Nat.strongRecOn with
    | _ n ih =>
      intro hn
      by_cases h : ∃ j, j < n ∧ Good (rnd j s)
      · obtain ⟨j, hj, hg⟩ := h
        exact ih j hj hg
      · exact ⟨n, hn, fun j hj hg => h ⟨j, hj, hg⟩⟩
  obtain ⟨m, hm⟩ := Classical.axiomOfChoice least
  refine ⟨m, fun s hb => ?_⟩
  obtain ⟨a1, a2⟩ := hm s
  obtain ⟨b1, b2⟩ := hm (deedsM 1 4 s).2
  generalize m s = n at *
  generalize m (deedsM 1 4 s).2 = m at *
  cases n with
  | zero => exact absurd a1 hb
  | succ n =>
    show m < n + 1
    have : ¬ n < m := fun h => b2 n h a1
    omega
end Go.Proofs.YtfnnoehpahdgcaaGreatDoor.Lc
namespace Go.Proofs.YtfnnoehpahdgcaaGreatDoor.Cu
set_option linter.unusedVariables false
open Go.RowKit Lc Kp
def Bz (w : World) (B : Nat) (a : Option Addr) (zs : List Int) : Prop :=
  0 < zs.length → ∃ ab ao, a = some ⟨ab, ao, none⟩ ∧ ab < B ∧ ∀ k z, zs[k]? = some z → w.cell? ⟨ab, ao + k, none⟩ = some (.int .u8 z) ∧ 0 ≤ z ∧ z ≤ 255
theorem Bz.carry {w w' : World} {B : Nat} {a : Option Addr} {zs : List Int} (h : Bz w B a zs) (hb : ∀ k, k < B → w'.heap[k]? = w.heap[k]?) : Bz w' B a zs := by
  intro hl
  obtain ⟨ab, ao, h1, h2, h3⟩ := h hl
  refine ⟨ab, ao, h1, h2, fun k z hk => ?_⟩
  obtain ⟨h4, h5⟩ := h3 k z hk
  exact ⟨(World.cell?_of_block (w := w) (hb ab h2)).trans h4, h5⟩
theorem Bz.bytes {w : World} {B : Nat} {a : Option Addr} {zs : List Int} (h : Bz w B a zs) : Bytes w B a zs.length := by
  intro hl
  obtain ⟨ab, ao, h1, h2, h3⟩ := h hl
  exact ⟨ab, ao, h1, h2, fun k hk => ⟨zs[k], h3 k zs[k] (List.getElem?_eq_getElem hk)⟩⟩
theorem Bytes.exact {w : World} {B : Nat} {a : Option Addr} : ∀ {len : Nat}, Bytes w B a len → ∃ zs : List Int, zs.length = len ∧ Bz w B a zs
  | 0, _ => ⟨[], rfl, fun h => absurd h (by simp)⟩
  | n + 1, h => by
    obtain ⟨ab, ao, h1, h2, h3⟩ := h (by omega)
    obtain ⟨zs, hz, hb⟩ := Bytes.exact (len := n) (fun hl => ⟨ab, ao, h1, h2, fun k hk => h3 k (by omega)⟩)
    obtain ⟨z, hc⟩ := h3 n (by omega)
    refine ⟨zs ++ [z], by simp [hz], fun _ => ⟨ab, ao, h1, h2, fun k y hk => ?_⟩⟩
    by_cases hk' : k < zs.length
    · rw [List.getElem?_append_left hk'] at hk
      obtain ⟨ab', ao', h1', -, h3'⟩ := hb (by omega)
      rw [h1] at h1'; cases h1'
      exact h3' k y hk
    · rw [List.getElem?_append_right (by omega)] at hk
      have : k - zs.length = 0 := by
        rcases Nat.eq_zero_or_pos (k - zs.length) with g | g
        · exact g
        · rw [List.getElem?_eq_none (by simp; omega)] at hk; cases hk
      rw [this] at hk
      cases hk
      rw [show k = n by omega]; exact hc
def CurE (B b : Nat) (s : S) (w : World) : Prop :=
  B ≤ b ∧ ∃ (a : Option Addr) (len cap i : Nat) (h : Int) (zs : List Int), zs.length = len ∧ i ≤ len ∧ len ≤ 9223372036854775806 ∧ s = (zs.drop i, h) ∧ Bz w B a zs ∧
    w.heap[b]? = some (.cells #[.slice a len cap, .int .i64 i, .int .i64 h] 83 (0, 0))
theorem CurE.carry {B b : Nat} {s : S} {w w' : World} (h : CurE B b s w) (hb : ∀ k, k < B → w'.heap[k]? = w.heap[k]?) (hc : w'.heap[b]? = w.heap[b]?) : CurE B b s w' := by
  obtain ⟨h1, a, len, cap, i, h, zs, h2, h3, h4, h5, h6, h7⟩ := h
  exact ⟨h1, a, len, cap, i, h, zs, h2, h3, h4, h5, h6.carry hb, hc.trans h7⟩
theorem CurE.cur {B b : Nat} {s : S} {w : World} (h : CurE B b s w) : Cur B b w := by
  obtain ⟨h1, a, len, cap, i, h, zs, h2, h3, h4, h5, h6, h7⟩ := h
  exact ⟨h1, a, len, cap, i, h, by omega, by omega, h4, h2 ▸ h6.bytes, h7⟩
theorem Cur.exact {B b : Nat} {w : World} (h : Cur B b w) : ∃ s, CurE B b s w := by
  obtain ⟨h1, a, len, cap, i, h, h2, h3, h4, h5, h6⟩ := h
  obtain ⟨n, rfl⟩ := Int.eq_ofNat_of_zero_le h2
  obtain ⟨zs, hz, hb⟩ := h5.exact
  exact ⟨_, h1, a, len, cap, n, h, zs, hz, by omega, h4, rfl, hb, h6⟩
theorem CurE.lt {B b : Nat} {s : S} {w : World} (h : CurE B b s w) : b < w.heap.size := h.cur.lt
theorem CurE.le {B b : Nat} {s : S} {w : World} (h : CurE B b s w) : B ≤ b := h.1
theorem CurE.alloc {B b : Nat} {s : S} {w : World} (h : CurE B b s w) (o : Obj) : CurE B b s (w.alloc o) :=
  h.carry (fun k hk => Below.heap_alloc _ _ _ (by have := h.lt; have := h.le; omega)) (Below.heap_alloc _ _ _ h.lt)
def DrawsE (B b : Nat) (w : World) (r : Int × S) (e : Ending) (w' : World) : Prop := e = .returned (.int .i64 r.1) ∧ CurE B b r.2 w' ∧ But b w w'

def EndE (b : Nat) (h : Int) (w : World) (e : Ending) (w' : World) : Prop := e = .returned (.int .i64 (X (F h))) ∧ w'.heap = (w.setCell ⟨b, 2, none⟩ (.int .i64 (F h))).heap ∧ w'.os = w.os ∧ w'.tape = w.tape ∧ w'.output = w.output
def StepE (b : Nat) (i h z : Int) (w : World) (e : Ending) (w' : World) : Prop := e = .returned (.int .i64 ((X (F h) + z) % 256)) ∧ w'.heap = ((w.setCell ⟨b, 2, none⟩ (.int .i64 (F h))).setCell ⟨b, 1, none⟩ (.int .i64 (i + 1))).heap ∧ w'.os = w.os ∧ w'.tape = w.tape ∧ w'.output = w.output
set_option maxRecDepth 100000 in
set_option maxHeartbeats 1000000 in
theorem byteE_end (b : Nat) (a : Option Addr) (cap len : Nat) (i h : Int) (w : World) (h0 : w.cell? ⟨b, 0, none⟩ = some (.slice a len cap)) (h1 : w.cell? ⟨b, 1, none⟩ = some (.int .i64 i)) (h2 : w.cell? ⟨b, 2, none⟩ = some (.int .i64 h)) (f2 : w.frozen? ⟨b, 2, none⟩ = false)
    (hi : ¬ i < (len : Int)) :
    Calls Tryz.prog 80 #[.pointer (some ⟨b, 0, none⟩)] w (EndE b h w) := by
  have A := and255
  go_enter Tryz.func80, Tryz.ntmps80
  go_wp2
  go_quiet (fail)
  go_wp2
  go_quiet (fail)
  go_wp2
  go_ret
  exact ⟨rfl, rfl, rfl, rfl, rfl⟩
set_option maxRecDepth 100000 in
set_option maxHeartbeats 1000000 in
theorem byteE_step (b : Nat) (ab ao cap len : Nat) (i : Nat) (h z : Int) (w : World) (h0 : w.cell? ⟨b, 0, none⟩ = some (.slice (some ⟨ab, ao, none⟩) len cap)) (h1 : w.cell? ⟨b, 1, none⟩ = some (.int .i64 (i : Int))) (h2 : w.cell? ⟨b, 2, none⟩ = some (.int .i64 h)) (f1 : w.frozen? ⟨b, 1, none⟩ = false) (f2 : w.frozen? ⟨b, 2, none⟩ = false)
    (hi : (i : Int) < (len : Int)) (hl : len ≤ 9223372036854775806) (hne : ab ≠ b) (hz : w.cell? ⟨ab, ao + i, none⟩ = some (.int .u8 z)) (z0 : 0 ≤ z) (z1 : z ≤ 255) :
    Calls Tryz.prog 80 #[.pointer (some ⟨b, 0, none⟩)] w (StepE b i h z w) := by
  have A := and255
  have p0 : (0 : Int) ≤ (i : Int) := by omega
  have p1 : (i : Int) + 1 ≤ 9223372036854775807 := by omega
  go_enter Tryz.func80, Tryz.ntmps80
  go_wp2
  go_quiet (fail)
  go_wp2
  go_quiet (fail)
  go_wp2
  go_quiet (fail)
  go_wp2
  go_ret
  refine ⟨?_, rfl, rfl, rfl, rfl⟩
  simp [Array.getD]
  unfold X F
  omega
theorem byteE (B b : Nat) (s : S) (w : World) (hc : CurE B b s w) : Calls Tryz.prog 80 #[.pointer (some ⟨b, 0, none⟩)] w (DrawsE B b w (byteM s)) := by
  have hlt := hc.lt
  obtain ⟨hB, a, len, cap, i, h, zs, hz, hi, hl, rfl, hb, hh⟩ := hc
  obtain ⟨c0, c1, c2, f1, f2⟩ := cells_of hh
  by_cases hlen : i < len
  · obtain ⟨ab, ao, rfl, hab, hcell⟩ := hb (by omega)
    have hd : zs.drop i = zs[i] :: zs.drop (i + 1) := List.drop_eq_getElem_cons (by omega)
    obtain ⟨hzc, z0, z1⟩ := hcell i zs[i] (List.getElem?_eq_getElem (by omega))
    rw [hd]
    refine (byteE_step b ab ao cap len i h zs[i] w c0 c1 c2 f1 f2 (by omega) hl (by omega) hzc z0 z1).mono ?_
    rintro e w' ⟨rfl, hw, ho, ht, hp⟩
    have hset := (heap_set ((heap_set hh (.int .i64 (F h))).1) (.int .i64 ((i : Int) + 1))).2
    have hoth : ∀ k, k ≠ b → w'.heap[k]? = w.heap[k]? := fun k hk => by
      rw [hw, Below.heap_setCell _ _ _ _ (by simpa using hk), Below.heap_setCell _ _ _ _ (by simpa using hk)]
    exact ⟨rfl, ⟨hB, some ⟨ab, ao, none⟩, len, cap, i + 1, F h, zs, hz, by omega, hl, rfl, hb.carry fun k hk => hoth k (by omega), by rw [hw]; exact hset⟩, ⟨ho, ht, hp, by rw [hw]; simp [World.setCell], fun k _ hk => hoth k hk⟩⟩
  · have hd : zs.drop i = [] := List.drop_eq_nil_iff.2 (by omega)
    rw [hd]
    refine (byteE_end b a cap len i h w c0 c1 c2 f2 (by omega)).mono ?_
    rintro e w' ⟨rfl, hw, ho, ht, hp⟩
    have hset := (heap_set hh (.int .i64 (F h))).1
    have hoth : ∀ k, k ≠ b → w'.heap[k]? = w.heap[k]? := fun k hk => by
      rw [hw, Below.heap_setCell _ _ _ _ (by simpa using hk)]
    exact ⟨rfl, ⟨hB, a, len, cap, i, F h, zs, hz, hi, hl, by show (([], F h) : S) = (zs.drop i, F h); rw [hd], hb.carry fun k hk => hoth k (by omega), by rw [hw]; exact hset⟩, ⟨ho, ht, hp, by rw [hw]; simp [World.setCell], fun k _ hk => hoth k hk⟩⟩
theorem byteM_range (s : S) : 0 ≤ (byteM s).1 ∧ (byteM s).1 ≤ 255 := by
  obtain ⟨r, h⟩ := s
  cases r with
  | nil => show 0 ≤ X (F h) ∧ X (F h) ≤ 255; unfold X; omega
  | cons z r => show 0 ≤ (X (F h) + z) % 256 ∧ (X (F h) + z) % 256 ≤ 255; omega
theorem belowM_range {n : Int} (h1 : 1 ≤ n) (s : S) : 0 ≤ (belowM n s).1 ∧ (belowM n s).1 ≤ n - 1 := by
  have key : ∀ x : Int, 0 ≤ x % n ∧ x % n ≤ n - 1 := fun x => by
    have := Int.emod_nonneg x (show n ≠ 0 by omega)
    have := Int.emod_lt_of_pos x (show 0 < n by omega)
    omega
  unfold belowM
  split
  · exact key _
  · exact key _
set_option maxRecDepth 100000 in
set_option maxHeartbeats 400000 in
theorem belowE_small (B b : Nat) (n : Int) (s : S) (w : World) (hc : CurE B b s w) (n1 : 1 ≤ n) (n2 : n ≤ 256) : Calls Tryz.prog 48 #[.pointer (some ⟨b, 0, none⟩), .int .i64 n] w (DrawsE B b w (belowM n s)) := by
  have HC := Lib.hid (byteE B b s w hc); clear hc
  have HR := byteM_range s
  have HM := Lib.hid (show belowM n s = ((byteM s).1 % n, (byteM s).2) by unfold belowM; rw [if_pos n2])
  generalize belowM n s = r at *
  generalize byteM s = q at *
  obtain ⟨x, s1⟩ := q
  dsimp only at HR HM
  go_enter Tryz.func48, Tryz.ntmps48
  go_wp2_with (go_at_call 80; refine HC.out.mono ?_; rintro e w' ⟨rfl, hc1, hw1⟩)
  go_ret
  rw [HM.out]
  exact ⟨rfl, hc1, hw1⟩
set_option maxRecDepth 100000 in
set_option maxHeartbeats 1000000 in
theorem belowE_big (B b : Nat) (n : Int) (s : S) (w : World) (hc : CurE B b s w) (n1 : 256 < n) (n2 : n ≤ 9223372036854775807) : Calls Tryz.prog 48 #[.pointer (some ⟨b, 0, none⟩), .int .i64 n] w (DrawsE B b w (belowM n s)) := by
  have HC := Lib.hid (byteE B b s w hc); clear hc
  have HM := Lib.hid (show belowM n s = (let a := byteM s; let b := byteM a.2; let c := byteM b.2; let d := byteM c.2; ((a.1 * 16777216 + b.1 * 65536 + c.1 * 256 + d.1) % n, d.2)) by unfold belowM; rw [if_neg (by omega)])
  generalize belowM n s = r at *
  have R1 := byteM_range s
  generalize byteM s = q at *
  obtain ⟨x, s1⟩ := q
  dsimp only at R1 HM
  go_enter Tryz.func48, Tryz.ntmps48
  go_wp2_with fail
  refine HC.out.mono ?_; rintro e w1 ⟨rfl, hc1, hw1⟩
  have HC1 := Lib.hid (byteE B b s1 w1 hc1); clear hc1
  have R2 := byteM_range s1
  generalize byteM s1 = q at *
  obtain ⟨y, s2⟩ := q
  dsimp only at R2 HM
  go_wp2_with fail
  refine HC1.out.mono ?_; rintro e w2 ⟨rfl, hc2, hw2⟩
  have HC2 := Lib.hid (byteE B b s2 w2 hc2); clear hc2
  have R3 := byteM_range s2
  generalize byteM s2 = q at *
  obtain ⟨z, s3⟩ := q
  dsimp only at R3 HM
  go_wp2_with fail
  refine HC2.out.mono ?_; rintro e w3 ⟨rfl, hc3, hw3⟩
  have HC3 := Lib.hid (byteE B b s3 w3 hc3); clear hc3
  have R4 := byteM_range s3
  generalize byteM s3 = q at *
  obtain ⟨u, s4⟩ := q
  dsimp only at R4 HM
  go_wp2_with fail
  refine HC3.out.mono ?_; rintro e w4 ⟨rfl, hc4, hw4⟩
  go_wp2_with fail
  go_ret
  rw [HM.out]
  exact ⟨rfl, hc4, ((hw1.trans hw2).trans hw3).trans hw4⟩
theorem belowE (B b : Nat) (n : Int) (s : S) (w : World) (hc : CurE B b s w) (n1 : 1 ≤ n) (n2 : n ≤ 9223372036854775807) : Calls Tryz.prog 48 #[.pointer (some ⟨b, 0, none⟩), .int .i64 n] w (DrawsE B b w (belowM n s)) := by
  by_cases h : n ≤ 256
  · exact belowE_small B b n s w hc n1 h
  · exact belowE_big B b n s w hc (by omega) n2
def DrawsBE (B b : Nat) (w : World) (r : Int × S) (e : Ending) (w' : World) : Prop := e = .returned (.bool (r.1 == 0)) ∧ CurE B b r.2 w' ∧ But b w w'
set_option maxRecDepth 100000 in
theorem onceE (B b : Nat) (n : Int) (s : S) (w : World) (hc : CurE B b s w) (n1 : 1 ≤ n) (n2 : n ≤ 9223372036854775807) : Calls Tryz.prog 68 #[.pointer (some ⟨b, 0, none⟩), .int .i64 n] w (DrawsBE B b w (belowM n s)) := by
  have HC := Lib.hid (belowE B b n s w hc n1 n2); clear hc
  generalize belowM n s = r at *
  obtain ⟨x, s1⟩ := r
  go_enter Tryz.func68, Tryz.ntmps68
  go_wp2_with (go_at_call 48; refine HC.out.mono ?_; rintro e w' ⟨rfl, hc1, hw1⟩)
  go_ret
  exact ⟨rfl, hc1, hw1⟩
end Go.Proofs.YtfnnoehpahdgcaaGreatDoor.Cu
