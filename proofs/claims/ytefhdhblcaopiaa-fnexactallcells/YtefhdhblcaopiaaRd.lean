/-
  impl.tablesOf: its iterator hands over Hand, then the shelves.
-/
import Derived.Test.YtefhdhblcaopiaaRb
namespace Go.Proofs.Ytefhdhblcaopiaa.Ra
open Go.RowKit Go.Shelf
attribute [local go_sem] Oper.semAt_some
set_option linter.unusedVariables false
theorem cell_block {w w' : World} {q o : Nat} {v : Value} (e : w'.heap[q]? = w.heap[q]?) (h : w.cell? ⟨q, o, none⟩ = some v) : w'.cell? ⟨q, o, none⟩ = some v := (World.cell?_of_block (w := w) e).trans h
theorem cell_lt {w : World} {p : Addr} {v : Value} (h : w.cell? p = some v) : p.block < w.heap.size := by
  unfold World.cell? at h
  cases ho : w.heap[p.block]? with
  | none => simp [ho] at h
  | some o => exact (Array.getElem?_eq_some_iff.1 ho).1
/-- What tablesOf's iterator holds: its variable, the store, the shelves' headers. -/
def Mine (Y B : Nat) (l n c sn sc : Nat) (a sa : Option Addr) (hs : List Hd) (n₀ : Nat) (W : World) : Prop :=
  W.cell? ⟨Y, 0, none⟩ = some (.func (.yield l) #[] #[]) ∧ W.cell? ⟨B, 0, none⟩ = some (.slice a n c) ∧ W.cell? ⟨B, 1, none⟩ = some (.slice sa sn sc) ∧ Hds n₀ W sa hs
theorem Mine.kept {Y B l n c sn sc n₀ : Nat} {a sa : Option Addr} {hs : List Hd} {W W' : World} {F : Nat → Prop} {g : Option Nat} (h : Mine Y B l n c sn sc a sa hs n₀ W) (hk : Kept F g W W') (hY : ¬ F Y) (hB : ¬ F B) (hS : ∀ g o, sa = some ⟨g, o, none⟩ → hs ≠ [] → ¬ F g) (gY : g ≠ some Y) (gB : g ≠ some B) (gS : ∀ q, g = some q → n₀ ≤ q) : Mine Y B l n c sn sc a sa hs n₀ W' := by
  obtain ⟨h1, h2, h3, h4⟩ := h
  refine ⟨cell_block (hk.block Y (cell_lt h1) hY gY) h1, cell_block (hk.block B (cell_lt h2) hB gB) h2, cell_block (hk.block B (cell_lt h2) hB gB) h3, fun j x hx => ?_⟩
  obtain ⟨q, o, e, hq, hc⟩ := h4 j x hx
  exact ⟨q, o, e, hq, cell_block (hk.block q (cell_lt hc) (hS q o e (fun e => by rw [e] at hx; simp at hx)) (fun e => by have := gS q e; omega)) hc⟩
theorem Mine.below {Y B l n c sn sc n₀ m : Nat} {a sa : Option Addr} {hs : List Hd} {W W' : World} (h : Mine Y B l n c sn sc a sa hs n₀ W) (hb : Below m W W') (hY : Y < m) (hB : B < m) (hn : n₀ ≤ m) : Mine Y B l n c sn sc a sa hs n₀ W' := by
  obtain ⟨h1, h2, h3, h4⟩ := h
  refine ⟨cell_block (hb.block Y hY) h1, cell_block (hb.block B hB) h2, cell_block (hb.block B hB) h3, fun j x hx => ?_⟩
  obtain ⟨q, o, e, hq, hc⟩ := h4 j x hx
  exact ⟨q, o, e, hq, cell_block (hb.block q (by omega)) hc⟩
theorem pre_cons {x : Value} {pre xs : List Value} (h : pre <+: xs) : (x :: pre) <+: (x :: xs) := by
  obtain ⟨r, rfl⟩ := h
  exact ⟨r, rfl⟩
set_option maxRecDepth 100000 in
set_option maxHeartbeats 4000000 in
theorem tables1_hands (F : Nat → Prop) (n₀ B : Nat) (a sa : Option Addr) (n c sn sc : Nat) (hs : List Hd) (hN : hs.length = sn) (hlen : sn ≤ 1000000) (w : World) (hn : n₀ ≤ w.heap.size)
    (hbox : w.cell? ⟨B, 0, none⟩ = some (.slice a n c)) (hbox1 : w.cell? ⟨B, 1, none⟩ = some (.slice sa sn sc)) (hx : Hds n₀ w sa hs) (hFB : ¬ F B) (hF : ∀ g o, sa = some ⟨g, o, none⟩ → hs ≠ [] → ¬ F g) :
    Hands Try.prog 116 #[.pointer (some ⟨B, 0, none⟩)] F (.slice a n c :: hs.map Hd.val) w := by
  intro l J Jx W hW hl0 hl hFl hJ hJx hY h0 k
  have hBw := cell_lt hbox
  replace hBw : B < w.heap.size := hBw
  have M0 := Lib.hid (show Mine W.heap.size B l n c sn sc a sa hs n₀ (W.alloc (.cells #[.func (.yield l) #[] #[]] 75)) from by
    refine ⟨(Boxed.new W _ _).cell, ?_, ?_, ?_⟩
    · exact cell_block (Below.heap_alloc _ _ B (Nat.lt_of_lt_of_le hBw hW.size)) ((hW.cell (p := ⟨B, 0, none⟩) hBw).trans hbox)
    · exact cell_block (Below.heap_alloc _ _ B (Nat.lt_of_lt_of_le hBw hW.size)) ((hW.cell (p := ⟨B, 1, none⟩) hBw).trans hbox1)
    · exact (hx.below (hW.mono hn)).below (((Below.refl _ W).alloc (Nat.le_refl _) _).mono (Nat.le_trans hn hW.size)))
  have J0 := hJ.alloc (.cells #[.func (.yield l) #[] #[]] 75) h0
  have s0 : (W.alloc (.cells #[.func (.yield l) #[] #[]] 75)).heap.size = W.heap.size + 1 := by simp
  have hws := hW.size
  clear hbox hbox1 hx hW h0
  have HY := Lib.hid hY; clear hY
  have HF := Lib.hid (And.intro hFB (And.intro hF hFl)); clear hFB hF hFl
  generalize hW0 : W.alloc (.cells #[.func (.yield l) #[] #[]] 75) = W0 at *
  have HS0 := Lib.hid (show ∀ q o, sa = some ⟨q, o, none⟩ → hs ≠ [] → q < n₀ from fun q o e hne => by
    obtain ⟨x, r, hr⟩ := List.exists_cons_of_ne_nil hne
    obtain ⟨g2, o2, e3, hg2, -⟩ := M0.out.2.2.2 0 x (by rw [hr]; rfl)
    rw [e] at e3
    cases e3
    exact hg2)
  obtain ⟨fn, tmps, assign, body, hy, hR⟩ := HY.out [] (.slice a n c) (List.prefix_append [_] _) none W0 (k - 1) J0
  refine callsIn_of_wp_marks Try.func116 rfl trivial ?_ rfl
  simp only [Try.ntmps116, List.size_toArray, List.length_cons, List.length_nil, Nat.reduceAdd, Nat.reduceSub, Array.replicate_succ, Array.replicate_zero, List.push_toArray, List.append_toArray, List.nil_append, List.cons_append]
  obtain ⟨m0, m1, m2, -⟩ := id M0.out
  subst hW0
  gi_wp2_with fail
  refine ⟨fun h => (by cases h), hR.mono ?_⟩
  rintro e W3 (⟨rfl, g', hJ3, hn3, hk3⟩ | ⟨rfl, hJx3, -⟩)
  · have M3 := Lib.hid (M0.out.kept hk3 (fun e => e.elim (fun e => by have := HF.out.2.2 _ e; omega) (fun e => by omega)) (fun e => e.elim HF.out.1 (fun e => by omega)) (fun q o e hne h => h.elim (HF.out.2.1 q o e hne) (fun e2 => by have := HS0.out q o e hne; omega)) (by simp) (by simp) (fun q e => by cases e))
    have z3 := hk3.size
    have HGL := Lib.hid (show ∀ q, g' = some q → q < W3.heap.size from fun q hq => by
      rcases hn3 with e | ⟨q', e, -, h'⟩
      · rw [e] at hq; cases hq
      · rw [e] at hq; cases hq; exact h')
    have hg' : ∀ q, g' = some q → W.heap.size + 1 ≤ q := fun q hq => by
      rcases hn3 with e | ⟨q', e, h', -⟩
      · rw [e] at hq; cases hq
      · rw [e] at hq; cases hq; omega
    clear hk3 hn3 m0 m1 m2 hy hR
    obtain ⟨m0, m1, m2, m3⟩ := id M3.out
    gi_wp2_with fail
    refine ⟨trivial, fun h => (by cases h), (callsIn_wide.2 (shelvesOf_any (fun q => (F q ∨ q = l) ∨ g' = some q) n₀ (.slice a n c) ⟨_, _, _, rfl⟩ sa sn sc hs hN hlen W3 m3 (by omega) (fun q o e hne h => h.elim (fun h => h.elim (HF.out.2.1 q o e hne) (fun e2 => by have := HS0.out q o e hne; omega)) (fun e2 => by have := HS0.out q o e hne; have := hg' q e2; omega)))).mono ?_⟩
    rintro e W4 ⟨gf, lb, rfl, hen, hha, b4⟩
    have M4 := Lib.hid (M3.out.below b4 (by omega) (by omega) (by omega))
    have J4 := Lib.hid (hJ _ W3 W4 none hJ3 ⟨b4.os, b4.tape, b4.output, b4.size, fun q hq _ => b4.block q hq⟩ (fun r e => by cases e))
    have z4 := b4.size
    have HG := Lib.hid hg'; clear b4 hJ3 m0 m1 m2 m3 M3 hg'
    gi_wp2_with fail
    refine loop_hands1 11 3 rfl hen hha (Below.refl _ _) (fun q h => h.elim (fun h => h.elim (fun h => by have := HF.out.2.2 q h; omega) (fun h => by omega)) (fun h => by have := HGL.out q h; omega))
      (fun s Z => W4.heap.size ≤ Z.heap.size ∧ Mine W.heap.size B l n c sn sc a sa hs n₀ Z ∧ ∃ g, J (.slice a n c :: s.1, g) Z ∧ ((g = g' ∧ s.2 = none) ∨ (g = s.2 ∧ ∃ q, s.2 = some q ∧ W4.heap.size ≤ q)))
      (fun k pre Z => k = .ret ∧ Jx (.slice a n c :: pre) Z) ?_ ?_ ?_ ?_ ?_ ?_ ?_
    · rintro s Z Z' row ⟨h1, h2, g, h3, h4⟩ hg hr
      refine ⟨Nat.le_trans h1 hg.size, h2.below ((Below.refl W4.heap.size Z).grown hg h1 (fun k e => (hr k e).1)) (by omega) (by omega) (by omega), g, OwnFrom.wider hJ (by omega) _ _ _ row h3 hg hr, h4⟩
    · rintro k s Z Z' row ⟨h1, h2⟩ hg hr
      exact ⟨h1, OwnFrom.wider hJx (by omega) _ _ _ row h2 hg hr⟩
    · exact ⟨Nat.le_refl _, M4.out, g', J4.out, Or.inl ⟨rfl, rfl⟩⟩
    · intro l m x Z K hK
      simp only [List.setIfInBounds_toArray, List.set_cons_zero, List.set_cons_succ] at hK ⊢
      gi_wp2
      exact hK
    · rintro l2 m pre x gi Z hpre hsz ⟨hs1, hm, g, hJg, hgi⟩
      simp only [List.setIfInBounds_toArray, List.set_cons_zero, List.set_cons_succ]
      obtain ⟨y, hy, rfl⟩ := pre_at hpre
      obtain ⟨fn2, tmps2, assign2, body2, hy2, hR2⟩ := HY.out (.slice a n c :: pre) (.slice y.a y.n y.c) (pre_cons hpre) g Z (m - 1) hJg
      have HM := Lib.hid hm
      obtain ⟨m0, -, -, -⟩ := hm
      have HGI := Lib.hid hgi; clear hgi hy hJg
      have hgb : ∀ q, g = some q → W.heap.size + 1 ≤ q := fun q hq => by
        rcases HGI.out with ⟨e, -⟩ | ⟨e, q', e2, h2⟩
        · rw [e] at hq; exact HG.out q hq
        · replace e2 : gi = some q' := e2
          replace e : g = gi := e
          rw [e, e2] at hq; cases hq; omega
      gi_wp2_with fail
      refine ⟨fun h => (by cases h), RoundIn.mono (F := Fence.wide.inRound l2) hR2 ?_⟩
      rintro e Z2 (⟨rfl, g2, hJ2, hn2, hk2⟩ | ⟨rfl, hJx2, hkf⟩)
      · have K2 := Lib.hid (And.intro hJ2 (And.intro hn2 hk2)); clear hJ2 hn2 hk2 hy2 hR2
        clear m0
        gi_wp2_with fail
        obtain ⟨hJ2, hn2, hk2⟩ := K2.out
        have hFl : ∀ q, (F q ∨ q = l) → q < W4.heap.size := fun q h => h.elim (fun h => by have := HF.out.2.2 q h; omega) (fun h => by omega)
        have hm2 := HM.out.kept hk2 (fun e => e.elim (fun e => by have := HF.out.2.2 _ e; omega) (fun e => by omega)) (fun e => e.elim HF.out.1 (fun e => by omega)) (fun q o e hne h => h.elim (HF.out.2.1 q o e hne) (fun e2 => by have := HS0.out q o e hne; omega)) (fun e => by have := hgb _ e; omega) (fun e => by have := hgb _ e; omega) (fun q e => by have := hgb q e; omega)
        have hkk : Kept (fun q => (F q ∨ q = l) ∨ g' = some q) gi Z Z2 := ⟨hk2.os, hk2.tape, hk2.output, hk2.size, fun q hq hf hg => hk2.block q hq (fun e => hf (Or.inl e)) (fun e => by
            rcases HGI.out with ⟨e1, -⟩ | ⟨e1, -⟩
            · exact hf (Or.inr (by rw [← e1]; exact e))
            · exact hg (by rw [← show g = gi from e1]; exact e)), fun q o ho hc hf => hk2.other q o ho hc (fun e => hf (Or.inl e))⟩
        refine ⟨hk2.keeps hFl, hkk, ?_⟩
        have zz := hk2.size
        rcases hn2 with e | ⟨q, e, hq, hq2⟩
        · exact ⟨gi, Or.inl rfl, Nat.le_trans hs1 zz, hm2, g, by rw [e] at hJ2; exact hJ2, HGI.out⟩
        · exact ⟨g2, Or.inr ⟨q, e, hq, hq2⟩, Nat.le_trans hs1 zz, hm2, g2, hJ2, Or.inr ⟨rfl, q, e, by omega⟩⟩
      · have K2 := Lib.hid (And.intro hJx2 hkf); clear hJx2 hkf hy2 hR2
        clear m0
        gi_wp2_with fail
        exact ⟨KeepsFrom.wider K2.out.2 (by omega), rfl, K2.out.1⟩
    · rintro D gi Z hD ⟨hs1, hm, g, hJg, hgi⟩ hK
      have HJG := Lib.hid hJg; clear hJg hm hgi
      gi_wp2_with fail
      refine ⟨by simp, .inl ⟨_, _, rfl, run_takeDeferred hK, ?_⟩⟩
      exact ⟨_, results_none rfl _ _ _, ⟨_, rfl⟩, .inl ⟨g, hJ.putObj _ HJG.out (by omega) hK rfl⟩⟩
    · rintro D k pre Z hD hpre ⟨rfl, hJg⟩ hK
      have HJG := Lib.hid hJg; clear hJg
      gi_wp2_with fail
      refine ⟨by simp, .inl ⟨_, _, rfl, run_takeDeferred hK, ?_⟩⟩
      exact ⟨_, results_none rfl _ _ _, ⟨_, rfl⟩, .inr ⟨_, pre_cons hpre, hJx.putObj _ HJG.out (by omega) hK rfl⟩⟩
  · clear m0 m1 m2 hy hR
    gi_wp2_with fail
    exact ⟨_, results_none rfl _ _ _, ⟨_, rfl⟩, .inr ⟨_, List.prefix_append [_] _, hJx3⟩⟩
set_option maxHeartbeats 1000000 in
theorem tablesOf_any (F0 : Nat → Prop) (n₀ : Nat) (a sa : Option Addr) (n c sn sc : Nat) (hs : List Hd) (hn : hs.length = sn) (hl : sn ≤ 1000000) (w : World) (hx : Hds n₀ w sa hs) (h0 : n₀ ≤ w.heap.size) (hF : ∀ g o, sa = some ⟨g, o, none⟩ → hs ≠ [] → ¬ F0 g) (hFl : ∀ k, F0 k → k < w.heap.size) :
    Calls Try.prog 65 #[.agg #[.slice a n c, .slice sa sn sc]] w (IterA F0 (.slice a n c :: hs.map Hd.val) w) := by
  have HB := Lib.hid (show Below w.heap.size w (w.alloc (.cells #[.slice a n c, .slice sa sn sc] 27)) from (Below.refl _ w).alloc (Nat.le_refl _) _)
  have hp : (w.alloc (.cells #[.slice a n c, .slice sa sn sc] 27)).heap[w.heap.size]? = some (.cells #[.slice a n c, .slice sa sn sc] 27 (0, 0)) := World.alloc_heap_new w _
  have HW := Lib.hid (fun (F : Nat → Prop) (hFF : ∀ k, F k → F0 k ∨ (w.alloc (.cells #[.slice a n c, .slice sa sn sc] 27)).heap.size ≤ k) => tables1_hands F n₀ w.heap.size a sa n c sn sc hs hn hl (w.alloc (.cells #[.slice a n c, .slice sa sn sc] 27)) (by simp; omega) (by simp only [World.cell?, hp]; rfl) (by simp only [World.cell?, hp]; rfl) (hx.below (HB.out.mono h0))
    (fun e => (hFF _ e).elim (fun e => by have := hFl _ e; omega) (fun e => by simp at e; omega)) (fun g o e hne hg => (hFF _ hg).elim (hF g o e hne) (fun e2 => by
      obtain ⟨x, r, hr⟩ := List.exists_cons_of_ne_nil hne
      obtain ⟨g2, o2, e3, hg2, -⟩ := hx 0 x (by rw [hr]; rfl)
      rw [e] at e3
      cases e3
      simp at e2
      omega)))
  clear hF hFl hx hp
  go_enter Try.func65, Try.ntmps65
  go_wp2_with fail
  go_ret
  exact ⟨_, _, rfl, enters_of Try.func116 (by kernel_rfl) rfl, HW.out, HB.out⟩
end Go.Proofs.Ytefhdhblcaopiaa.Ra
