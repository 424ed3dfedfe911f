/-
  slices.AppendSeq, slices.Collect over an iterator of slices; the contract of impl.AllCells: 'allP'.
-/
import Derived.Test.YtefhdhblcaopiaaVa
import Derived.Test.YtefhdhblcaopiaaRe
namespace Go.Proofs.Ytefhdhblcaopiaa.Cl
open Go.RowKit Wd Rp Kp Ra Go.Shelf
attribute [local go_sem] Oper.semAt_some
set_option linter.unusedVariables false
/-- While the values are collected. -/
def Coll (q n0 : Nat) (w : World) (s : List Value × Option Nat) (W : World) : Prop := n0 ≤ W.heap.size ∧ ∃ sv, One q sv W ∧ RowS (q + 1) W sv s.1 ∧ sv.ownBlock = s.2 ∧ Below q w W
theorem cells_of_row {B : Nat} {w : World} {v : Value} {us : List Value} (h : RowS B w v us) {k : Nat} (hk : v.ownBlock = some k) : ∀ o, w.heap[k]? = some o → o.isCells = true := by
  obtain ⟨-, h2⟩ := h
  rcases h2 with ⟨rfl, -⟩ | ⟨g, cap, cur, rfl, -, hg, -⟩
  · simp [Value.ownBlock] at hk
  · obtain rfl : g = k := by simpa [Value.ownBlock] using hk
    intro o ho
    rw [hg] at ho; cases ho; rfl
theorem cell_lit (w : World) (u : Value) (T : Nat) : (w.alloc (.cells #[u] T)).cell? ⟨w.heap.size, 0, none⟩ = some u := (Boxed.new w T u).cell
set_option maxRecDepth 100000 in
set_option maxHeartbeats 4000000 in
theorem appendSeq_any (gf : Nat) (lb : Array Value) (hen : ∀ args z, (callFunc gf args).run Try.prog z = .ok (.enter gf args) z) (hs : List Hd) (hl : hs.length ≤ 1000) (w w0 : World) (hb0 : Below w0.heap.size w0 w) (F0 : Nat → Prop)
    (hha : ∀ F : Nat → Prop, (∀ k, F k → F0 k ∨ w0.heap.size ≤ k) → Hands Try.prog gf lb F (hs.map Hd.val) w0) :
    Calls Try.prog 115 #[.slice none 0 0, .func (.func gf) #[] lb] w fun e w' => ∃ v, e = .returned v ∧ RowS w.heap.size w' v (hs.map Hd.val) ∧ Below w.heap.size w w' := by
  have HB0 := Lib.hid (bel1 w (.cells #[.slice none 0 0] 25))
  have O0 := Lib.hid (One.of (World.alloc_heap_new w (.cells #[.slice none 0 0] 25)))
  have h1 := hha (fun k => k = w.heap.size) (fun k hk => Or.inr (by rw [hk]; exact hb0.size))
  have hsz : (w.alloc (.cells #[.slice none 0 0] 25)).heap.size = w.heap.size + 1 := by simp
  have hb1 := Lib.hid (bel_tr hb0 (bel1 w (.cells #[.slice none 0 0] 25)) (Nat.le_refl _))
  clear hha
  refine (callsIn_wide (n := 9)).1 (callsIn_of_wp_marks Try.func115 rfl trivial ?_ rfl)
  simp only [Try.ntmps115, List.size_toArray, List.length_cons, List.length_nil, Nat.reduceAdd, Nat.reduceSub, Array.replicate_succ, Array.replicate_zero, List.push_toArray, List.append_toArray, List.nil_append, List.cons_append]
  gi_wp2_with fail
  generalize w.alloc (.cells #[.slice none 0 0] 25) = w1 at *
  refine loop_hands1 7 5 rfl hen h1 hb1.out (fun k hk => by omega) (Coll w.heap.size w1.heap.size w) (fun _ _ _ => False) ?_ ?_ ?_ ?_ ?_ ?_ ?_
  · rintro s W W' row ⟨h1, sv, ho, hr, hg, hb⟩ hgr hrow
    have hbb : Below w1.heap.size W W' := (Below.refl _ W).grown hgr h1 (fun k e => (hrow k e).1)
    refine ⟨Nat.le_trans h1 hgr.size, sv, ho.same (hbb.block _ (by omega)), hr.grown hgr (fun k hk e => ?_), hg, hb.trans (hbb.mono (by omega))⟩
    obtain ⟨-, o, ho2, hc⟩ := hrow k e
    rw [cells_of_row hr hk o ho2] at hc; cases hc
  · exact fun k => fun _ _ _ _ h _ _ => h
  · exact ⟨Nat.le_refl _, _, O0.out, RowS.nothing _ _, rfl, HB0.out⟩
  · intro l m x W K hK
    simp only [List.setIfInBounds_toArray, List.set_cons_zero, List.set_cons_succ] at hK ⊢
    gi_wp2
    exact hK
  · rintro l m pre x gg W hpre hsz1 ⟨hs1, sv, ho, hr, hg, hb⟩
    replace hr : RowS (w.heap.size + 1) W sv pre := hr
    replace hg : sv.ownBlock = gg := hg
    simp only [List.setIfInBounds_toArray, List.set_cons_zero, List.set_cons_succ]
    have hpl : pre.length ≤ 1000 := by have := hpre.length_le; simp at this; omega
    obtain ⟨y, hy, rfl⟩ := pre_at hpre
    clear hy
    have HR := Lib.hid hr
    have HO := Lib.hid ho
    have HB := Lib.hid hb
    have HG := Lib.hid hg
    obtain ⟨sa, scp, rfl, -, -, -, -⟩ := hr.form
    clear hr hb hg
    obtain ⟨o1, o2, o3⟩ := ho
    have zl : (W.alloc (.cells #[.slice y.a y.n y.c] 24)).heap.size = W.heap.size + 1 := by simp
    have hblk : ∀ k, (Value.slice sa pre.length scp).ownBlock = some k → k ≠ w.heap.size := fun k hk => by have := RowS.lt HR.out k hk; omega
    have HBLK := Lib.hid hblk; clear hblk
    have O6 := Lib.hid (HO.out.same (Below.heap_alloc W (.cells #[.slice y.a y.n y.c] 24) _ o3))
    have CK := Lib.hid (fun k (hk : (Value.slice sa pre.length scp).ownBlock = some k) => cells_of_row (HR.out.next (bel1 W (.cells #[.slice y.a y.n y.c] 24))) hk)
    gi_wp2_with (gi_at_builtin; refine appendS_in _ rfl (.tmp 8) (.tmp 10) rfl (base := w.heap.size + 1) (us := pre) (u := .slice y.a y.n y.c) rfl rfl (HR.out.next (bel1 _ _)) ⟨_, _, _, rfl⟩ (by omega) (by simp; omega) (cell_lit _ _ _) ?_; intro v' w5 r5 g5 n5; obtain ⟨va, vcp, ev, -, -, -, -⟩ := r5.form; rw [List.length_append, List.length_singleton] at ev; subst ev; have c5 := O6.out.same (g5.block w.heap.size (by omega) (fun e => HBLK.out _ e.symm rfl)); have C5 := Lib.hid c5; have R5 := Lib.hid r5; have G5 := Lib.hid g5; have N5 := Lib.hid n5; clear r5 g5 n5; obtain ⟨c50, c51, c52⟩ := c5)
    have hz5 : W.heap.size + 1 ≤ w5.heap.size := by have := G5.out.size; omega
    have K5 : Kept (fun k => k = w.heap.size) gg W w5 := (Kept.of_below (bel1 W _)).trans (Kept.of_grown G5.out (fun k hk => Or.inr ⟨by rw [← HG.out]; exact hk, CK.out k hk⟩))
    have K6 : Kept (fun k => k = w.heap.size) gg W (w5.setCell ⟨w.heap.size, 0, none⟩ (.slice va (pre.length + 1) vcp)) := K5.trans (Kept.set (F := fun k => k = w.heap.size) (p := ⟨w.heap.size, 0, none⟩) rfl _)
    refine ⟨K6.keeps (fun k hk => by have : k = w.heap.size := hk; omega), K6, (Value.slice va (pre.length + 1) vcp).ownBlock, ?_, ?_, _, C5.out.set _, R5.out.put (p := ⟨w.heap.size, 0, none⟩) (by show w.heap.size < w.heap.size + 1; omega) _, rfl, ?_⟩
    · rw [World.size_setCell]
      rcases N5.out with e | e
      · exact Or.inl (e.trans HG.out)
      · exact Or.inr ⟨_, e, by rw [zl]; omega, (World.ownsRow.lt R5.out _ e).2⟩
    · rw [World.size_setCell]; omega
    · exact ((bel_tr HB.out (bel1 W _) (Nat.le_refl _)).grown G5.out (by omega) (fun k hk => by have := RowS.lt HR.out k hk; omega)).setCell (p := ⟨w.heap.size, 0, none⟩) (Nat.le_refl _) _
  · rintro D gg W hD ⟨hs1, sv, ho, hr, hg, hb⟩ hK
    replace hr : RowS (w.heap.size + 1) W sv (hs.map Hd.val) := hr
    have HR := Lib.hid hr
    have HO := Lib.hid ho
    have HB := Lib.hid hb
    obtain ⟨sa, scp, ev, -, -, -, -⟩ := hr.form
    rw [List.length_map] at ev
    subst ev
    clear hr hb hg
    obtain ⟨o1, o2, o3⟩ := ho
    gi_wp2_with fail
    refine ⟨by simp, .inl ⟨_, _, rfl, run_takeDeferred hK, ?_⟩⟩
    refine ⟨_, results_tmp rfl _ _ _, _, rfl, ?_, HB.out.trans (put_below (by omega) HB.out.size)⟩
    refine RowS.mono (HR.out.grown (grownBy_putObj' W D (.deferred none)) (fun k hk e => ?_)) (Nat.le_succ _)
    cases e
    have := cells_of_row HR.out hk _ hK
    cases this
  · rintro D k pre W hD hpre hf hK
    exact hf.elim
set_option maxHeartbeats 1000000 in
theorem collect_any (gf : Nat) (lb : Array Value) (hen : ∀ args z, (callFunc gf args).run Try.prog z = .ok (.enter gf args) z) (hs : List Hd) (hl : hs.length ≤ 1000) (w w0 : World) (hb0 : Below w0.heap.size w0 w) (F0 : Nat → Prop)
    (hha : ∀ F : Nat → Prop, (∀ k, F k → F0 k ∨ w0.heap.size ≤ k) → Hands Try.prog gf lb F (hs.map Hd.val) w0) :
    Calls Try.prog 64 #[.func (.func gf) #[] lb] w fun e w' => ∃ v, e = .returned v ∧ RowS w.heap.size w' v (hs.map Hd.val) ∧ Below w.heap.size w w' := by
  have HA := Lib.hid (appendSeq_any gf lb hen hs hl w w0 hb0 F0 hha); clear hha
  go_enter Try.func64, Try.ntmps64
  go_wp2_with fail
  refine HA.out.mono ?_; rintro e w1 ⟨v, rfl, r1, b1⟩
  have R1 := Lib.hid (And.intro r1 b1); clear r1 b1
  go_wp2_with fail
  go_ret
  exact ⟨_, rfl, R1.out.1, R1.out.2⟩
end Go.Proofs.Ytefhdhblcaopiaa.Cl
