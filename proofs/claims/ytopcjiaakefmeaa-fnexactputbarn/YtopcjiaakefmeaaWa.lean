/-
  The contracts of spec.l6Copy: a store of the call's own with the same cells. (Made by gen_wa.py.)
-/
import Derived.Test.YtopcjiaakefmeaaVa
namespace Go.Proofs.Ytopcjiaakefmeaa.Cl
open Go.RowKit Wd Rp Kp Ra
set_option linter.unusedVariables false
theorem cnx {x y : World} {p : Addr} {v : Value} (bel : Below x.heap.size x y) (h : x.cell? p = some v) : y.cell? p = some v := (World.cell?_of_block (w := x) (bel.block p.block (cell_lt h))).trans h
theorem cgr {x y : World} {p : Addr} {v : Value} {row : Option Nat} (g : x.grownBy y row) (hne : row ≠ some p.block) (h : x.cell? p = some v) : y.cell? p = some v := (World.cell?_of_block (w := x) (g.block p.block (cell_lt h) (fun e => hne e.symm))).trans h
theorem cst {x : World} {p a : Addr} {v u : Value} (hne : p.block ≠ a.block) (h : x.cell? p = some v) : (x.setCell a u).cell? p = some v := (World.cell?_of_block (w := x) (Below.heap_setCell _ _ _ _ hne)).trans h
theorem step_append_row {ops : Array Oper} {o : Oper} {a : Act} {Q : Exit → Act → World → Prop} {K : Act → World → Prop} {w : World} (hw : Region.wanted o (yielded ops a.tmps) = true) (s x : Operand)
    (ho : o.op = .call { callee := .builtin .append, args := #[s, x], argTypes := #[36, 36] })
    {base : Nat} {v u : Value} {us : List Value} {ad : Addr} (hs : a.eval s = v) (hx : a.eval x = .slice (some ad) 1 1) (hown : RowS base w v us) (hu : ∃ a n c, u = .slice a n c) (hlen : us.length ≤ 1000000) (hbase : base ≤ w.heap.size) (hc : w.cell? ad = some u)
    (h : ∀ v' w', RowS base w' v' (us ++ [u]) → w.grownBy w' v.ownBlock → (v'.ownBlock = v.ownBlock ∨ v'.ownBlock = some w.heap.size) → K (a.put o.dst v') w') :
    if Region.wanted o (yielded ops a.tmps) = true then Oper.wp Try.prog o a w K Q else K (a.put o.dst undef) w := by
  rw [if_pos hw]
  obtain ⟨v', w', hr, h2, h3, h4⟩ := run_append_row o.type hown hu hlen hbase ad hc
  unfold Oper.wp execOp
  simp only [ho, resolve, invoke, builtin, Sem.run_bind, Sem.run_pure, Result.andThen_ok, List.map_toArray, List.map_cons, List.map_nil, hs, hx, hr]
  exact h v' w' h2 h3 h4
/-- The blocks of a copy under way: the store, the result, what is made. -/
def CpF (q O : Nat) (bh bs hv sv : Value) (us : List Value) (ts : List (List Cel)) (z : World) : Prop :=
  Bb q bh bs z ∧ Bb (q + 1) (.slice none 0 0) (.slice none 0 0) z ∧ Bb O hv sv z ∧ RowS (q + 2) z sv us ∧ OwL (q + 2) z (hv :: us) ts ∧ ∀ x ∈ sv :: hv :: us, x.ownBlock ≠ some O
theorem CpF.next {q O : Nat} {bh bs hv sv : Value} {us : List Value} {ts : List (List Cel)} {z z' : World} (h : CpF q O bh bs hv sv us ts z) (hb : Below z.heap.size z z') : CpF q O bh bs hv sv us ts z' :=
  ⟨h.1.next hb, h.2.1.next hb, h.2.2.1.next hb, h.2.2.2.1.next hb, h.2.2.2.2.1.next hb, h.2.2.2.2.2⟩
/-- One list more. -/
theorem cp_step {q O k m : Nat} {bh bs hv sv v6 u : Value} {us : List Value} {h t : List Cel} {ss : List (List Cel)} {z z' : World} (f : CpF q O bh bs hv sv us (h :: ss.take k) z) (ou : OwC m z u t) (ht : ss[k]? = some t) (hO : q + 1 < O) (hm : O < m) (hlo : ∀ x ∈ hv :: us, ∀ i, x.ownBlock = some i → i < m) (r6 : RowS (q + 2) z' v6 (us ++ [u])) (g6 : z.grownBy z' sv.ownBlock) (n6 : v6.ownBlock = sv.ownBlock ∨ v6.ownBlock = some z.heap.size) :
    z'.frozen? ⟨O, 1, none⟩ = false ∧ z'.cell? ⟨O, 1, none⟩ = some sv ∧ CpF q O bh bs hv v6 (us ++ [u]) (h :: ss.take (k + 1)) (z'.setCell ⟨O, 1, none⟩ v6) := by
  obtain ⟨f1, f2, f3, f4, f5, f6⟩ := f
  have hrow : ∀ i, i ≤ q + 1 ∨ i = O → sv.ownBlock ≠ some i := fun i hi e => by
    rcases hi with hi | hi
    · have := RowS.lt f4 i e; omega
    · subst hi; exact f6 sv (by simp) e
  have hB : ∀ (i : Nat) (a b : Value), i ≤ q + 1 ∨ i = O → Bb i a b z → Bb i a b z' := fun i a b hi hb => by
    obtain ⟨h0, h1, h2, h3, h4⟩ := hb
    have e := g6.block i h4 (fun e => hrow i hi e.symm)
    exact ⟨(World.cell?_of_block (w := z) e).trans h0, (World.cell?_of_block (w := z) e).trans h1, (World.frozen?_of_block (w := z) e).trans h2, (World.frozen?_of_block (w := z) e).trans h3, Nat.lt_of_lt_of_le h4 g6.size⟩
  have k1 := hB q _ _ (Or.inl (by omega)) f1
  have k2 := hB (q + 1) _ _ (Or.inl (Nat.le_refl _)) f2
  have k3 := hB O _ _ (Or.inr rfl) f3
  have hu : ∀ i, u.ownBlock = some i → m ≤ i := OwC.lt ou
  have hmz : ∀ x ∈ hv :: us, ∀ i, x.ownBlock = some i → u.ownBlock ≠ some i := fun x hx i hi e => by have := hlo x hx i hi; have := hu i e; omega
  have o6 : OwL (q + 2) z' ((hv :: us) ++ [u]) ((h :: ss.take k) ++ [t]) :=
    OwL.snoc (f5.grown g6 (fun x hx i hi e => RowS.apart f4 f5 x hx i hi e)) (ou.grown g6 (fun i hi e => own_ne ou f4 (by decide) i hi e)) (by omega) hmz
  refine ⟨k3.2.2.2.1, k3.2.1, k1.put (by show O ≠ q; omega) _, k2.put (by show O ≠ q + 1; omega) _, k3.set1 _, ?_, ?_, ?_⟩
  · exact row_next r6 fun g hg _ => Below.heap_setCell _ _ _ g (fun e => by
      rcases n6 with e2 | e2
      · exact f6 sv (by simp) (by rw [← e2, hg, e])
      · rw [hg] at e2; cases e2; have := f3.2.2.2.2; simp at e; omega)
  · rw [take_at ht]
    refine ⟨o6.1, fun j x l h1 h2 => row_next (o6.2.1 j x l h1 h2) fun g hg _ => Below.heap_setCell _ _ _ g (fun e => ?_), o6.2.2⟩
    have hx := List.mem_of_getElem? h1
    rcases List.mem_append.1 (show x ∈ (hv :: us) ++ [u] from hx) with hx | hx
    · exact f6 x (List.mem_cons_of_mem _ hx) (by rw [hg, e])
    · rw [List.mem_singleton.1 hx] at hg; have := hu g hg; simp at e; omega
  · intro x hx e
    rcases List.mem_cons.1 hx with rfl | hx
    · rcases n6 with e2 | e2
      · exact f6 sv (by simp) (by rw [← e2]; exact e)
      · rw [e] at e2; cases e2; exact absurd f3.2.2.2.2 (by omega)
    · rcases List.mem_append.1 (show x ∈ (hv :: us) ++ [u] from hx) with hx | hx
      · exact f6 x (List.mem_cons_of_mem _ hx) e
      · rw [List.mem_singleton.1 hx] at e; have := hu O e; omega
theorem CpF.drew {q O : Nat} {bh bs hv sv : Value} {us : List Value} {ts : List (List Cel)} {z : World} (h : CpF q O bh bs hv sv us ts z) : CpF q O bh bs hv sv us ts z.drew := h.next (Below.refl _ _).drew
/-- What a copy gives. -/
def CpPost (h : List Cel) (ss : List (List Cel)) (w : World) (e : Ending) (w' : World) : Prop := ∃ hv sv, e = .returned (.agg #[hv, sv]) ∧ OwB w.heap.size w' hv sv h ss ∧ Below w.heap.size w w'
/-- The start: Hand is copied. -/
theorem cp_start {w w1 : World} {q : Nat} {bh bs v : Value} {h : List Cel} (hq : w.heap.size = q) (f1 : Bb q bh bs w1) (f2 : Bb (q + 1) (.slice none 0 0) (.slice none 0 0) w1) (o : OwC (q + 2) w1 v h) : CpF q w1.heap.size bh bs v (.slice none 0 0) [] [h] (w1.alloc (.cells #[v, .slice none 0 0] 38)) := by
  refine ⟨f1.next (bel1 _ _), f2.next (bel1 _ _), Bb.made _ _ w1 _, RowS.nothing _ _, ⟨rfl, fun j u l h1 h2 => ?_, by unfold Dis; simp⟩, fun x hx e => ?_⟩
  · cases j with
    | zero =>
      obtain rfl : v = u := by simpa using h1
      obtain rfl : h = l := by simpa using h2
      exact o.next (bel1 _ _)
    | succ j => simp at h1
  · rcases List.mem_cons.1 hx with rfl | hx
    · simp [Value.ownBlock] at e
    · rw [List.mem_singleton.1 hx] at e
      have := OwC.low o _ e; omega
theorem cp_end {q O : Nat} {bh bs hv sv : Value} {us : List Value} {h : List Cel} {ss : List (List Cel)} {w z : World} (hq : w.heap.size = q) (f : CpF q O bh bs hv sv us (h :: ss) z) (hb : Below q w z) : OwB w.heap.size ((z.setCell ⟨q + 1, 0, none⟩ hv).setCell ⟨q + 1, 1, none⟩ sv) hv sv h ss ∧ Below w.heap.size w ((z.setCell ⟨q + 1, 0, none⟩ hv).setCell ⟨q + 1, 1, none⟩ sv) := by
  subst hq
  refine ⟨((OwB.put (B := w.heap.size + 2) ⟨us, f.2.2.2.1, f.2.2.2.2.1⟩ (p := ⟨w.heap.size + 1, 0, none⟩) (by show w.heap.size + 1 < w.heap.size + 2; omega) _).put (p := ⟨w.heap.size + 1, 1, none⟩) (by show w.heap.size + 1 < w.heap.size + 2; omega) _).mono (by omega), ?_⟩
  exact (hb.setCell (p := ⟨w.heap.size + 1, 0, none⟩) (by show w.heap.size ≤ w.heap.size + 1; omega) _).setCell (p := ⟨w.heap.size + 1, 1, none⟩) (by show w.heap.size ≤ w.heap.size + 1; omega) _
set_option maxRecDepth 100000 in
set_option maxHeartbeats 4000000 in
theorem l6Copy_any (w : World) (a sa : Option Addr) (c sc n sn : Nat) (h : List Cel) (hs : List Hd) (ss : List (List Cel)) (hn : h.length = n) (hsn : ss.length = sn) (hv : Vw w a c h) (hvs : VwS w sa sc hs ss) (hlow : Low h ss) (hs2 : sn ≤ 1000) :
    Calls Try.prog 85 #[.agg #[.slice a n c, .slice sa sn sc]] w (CpPost h ss w) := by
  have HVS := Lib.hid hvs; clear hvs
  have HSN := Lib.hid hsn; clear hsn
  have HLOW := Lib.hid hlow; clear hlow
  have hn1 : n ≤ 1048576 := by rw [← hn]; exact HLOW.out.1
  have H0 := Lib.hid (bel2 w (.cells #[.slice a n c, .slice sa sn sc] 38) (.cells #[.slice none 0 0, .slice none 0 0] 38))
  have F0 := Lib.hid (Bb.two (.slice a n c) (.slice sa sn sc) (.slice none 0 0) (.slice none 0 0) w 38 38)
  have hz0 : ((w.alloc (.cells #[.slice a n c, .slice sa sn sc] 38)).alloc (.cells #[.slice none 0 0, .slice none 0 0] 38)).heap.size = w.heap.size + 2 := by simp
  have HC := Lib.hid (l4Copy_any _ a c h n hn (hv.below H0.out) (by omega)); clear hv hn
  go_enter Try.func85, Try.ntmps85
  go_wp2_with fail
  refine HC.out.mono ?_; rintro e w1 ⟨v, rfl, o1, b1⟩
  generalize hq : w.heap.size = q at *
  have HQ := Lib.hid hq; clear hq
  have z1 : q + 2 ≤ w1.heap.size := by have := b1.size; omega
  have ST := Lib.hid (cp_start HQ.out (F0.out.1.next b1) (F0.out.2.next b1) (OwC.mono o1 (by omega)))
  have B1 := Lib.hid (bel_tr (bel_tr H0.out b1 (Nat.le_of_eq HQ.out.symm)) (bel1 w1 (.cells #[v, .slice none 0 0] 38)) (Nat.le_of_eq HQ.out.symm))
  obtain ⟨va, vc, rfl, -, -⟩ := o1.view
  clear o1 b1 HC F0 H0
  generalize h.length = hn at *
  go_wp2_with fail
  generalize hO : w1.heap.size = O at *
  have HOO := Lib.hid hO; clear hO
  go_loopw [4] (fun i wr => ∃ (k : Nat) (sv : Value) (us : List Value), k ≤ sn ∧ i = .int .i64 k ∧ CpF q O (.slice a n c) (.slice sa sn sc) (.slice va hn vc) sv us (h :: ss.take k) wr ∧ Below q w wr) (fun i _ => sn - intV i)
  case atStart => exact ⟨0, .slice none 0 0, [], Nat.zero_le _, rfl, by rw [List.take_zero]; exact ST.out, B1.out⟩
  case round =>
    clear ST B1
    obtain ⟨k, sv, us, hk, rfl, hcf, hbel⟩ := hrel
    have HI := Lib.hid hcf
    have HB := Lib.hid hbel; clear hbel
    obtain ⟨⟨x0, x1, -, -, -⟩, ⟨r0, r1, r2, r3, rq⟩, ⟨y0, y1, y2, y3, yq⟩, hrw, hol, -⟩ := hcf
    have hul : us.length = k := by
      have := hol.1
      simp at this
      rw [this, HSN.out]; omega
    obtain ⟨sva, svc, ev, -, -, -, -⟩ := hrw.form
    rw [hul] at ev
    subst ev
    clear hrw hol
    by_cases hlt : k < sn
    · obtain ⟨t, ht⟩ : ∃ t, ss[k]? = some t := ⟨ss[k]'(by rw [HSN.out]; exact hlt), List.getElem?_eq_getElem _⟩
      obtain ⟨x, g, o, -, rfl, hg, hc, hvl⟩ := HVS.out.at ht
      have hcx : wr.cell? ⟨g, o + k, none⟩ = some (.slice x.a t.length x.c) := (HB.out.cell (p := ⟨g, o + k, none⟩) (by have := HQ.out; show g < q; omega)).trans hc
      have htl : t.length ≤ 1048576 := HLOW.out.2.2 t (List.mem_of_getElem? ht)
      have HVL := Lib.hid (fun z (hz : Below q w z) => hvl.below (show Below w.heap.size w z by rw [HQ.out]; exact hz)); clear hvl hc
      have HTT := Lib.hid ht; clear ht
      generalize hln : t.length = tl at *
      have HTL := Lib.hid hln; clear hln
      have hgq : g < q := by have := HQ.out; omega
      have HLO := Lib.hid (show ∀ x ∈ Value.slice va hn vc :: us, ∀ i, x.ownBlock = some i → i < wr.heap.size from fun x hx i hi => (HI.out.2.2.2.2.1.low x hx i hi).2)
      have hqO : q + 1 < O := by omega
      have HS := Lib.hid (show wr.drew.cell? ⟨q, 1, none⟩ = some (.slice (some ⟨g, o, none⟩) sn sc) ∧ wr.drew.cell? ⟨g, o + k, none⟩ = some (.slice x.a tl x.c) ∧ Below q w wr.drew ∧ wr.heap.size ≤ wr.drew.heap.size from ⟨x1, hcx, HB.out.drew, Nat.le_refl _⟩)
      have HUL := Lib.hid hul
      have wrO : O < wr.heap.size := yq
      go_wp2_with fail
      clear x0 x1 r0 r1 r2 r3 rq y0 y1 y2 y3 yq hcx hul hg
      refine wp_region_held_drew (S := fun z => z.cell? ⟨q, 1, none⟩ = some (.slice (some ⟨g, o, none⟩) sn sc) ∧ z.cell? ⟨g, o + k, none⟩ = some (.slice x.a tl x.c) ∧ Below q w z ∧ wr.heap.size ≤ z.heap.size) (by kernel_rfl) (HS.out) (fun hHeld => ?_)
      refine wpAnyH_take (i := 0) (v := ?v0c) rfl (by kernel_rfl) (by kernel_rfl) (by kernel_rfl) (fun _ _ _ h => h) (Or.inl ⟨by rfl, ?hy0c⟩) (by assumption) ?rest0c
      case hy0c => (intro zz hSw; (try dsimp only at hSw); go_simp; (try with_reducible rfl))
      change wpAnyH _ _ _ _ _ _ _ (Act.put _ (some 16) _) _
      simp only [Act.put, List.setIfInBounds_toArray, List.set_cons_zero, List.set_cons_succ]
      refine wpAnyH_take (i := 2) (v := ?v2c) rfl (by kernel_rfl) (by kernel_rfl) (by kernel_rfl) (fun _ _ _ h => h) (Or.inl ⟨by rfl, ?hy2c⟩) (by assumption) ?rest2c
      case hy2c => (intro zz hSw; (try dsimp only at hSw); go_simp; (try with_reducible rfl))
      change wpAnyH _ _ _ _ _ _ _ (Act.put _ (some 18) _) _
      simp only [Act.put, List.setIfInBounds_toArray, List.set_cons_zero, List.set_cons_succ]
      refine wpAnyH_take (i := 3) (v := ?v3c) rfl (by kernel_rfl) (by kernel_rfl) (by kernel_rfl) (fun _ _ _ h => h) (Or.inl ⟨by rfl, ?hy3c⟩) (by assumption) ?rest3c
      case hy3c => (intro zz hSw; (try dsimp only at hSw); go_simp; (try with_reducible rfl))
      change wpAnyH _ _ _ _ _ _ _ (Act.put _ (some 19) _) _
      simp only [Act.put, List.setIfInBounds_toArray, List.set_cons_zero, List.set_cons_succ]
      refine wpAnyH_take (i := 4) (v := ?v4c) rfl (by kernel_rfl) (by kernel_rfl) (by kernel_rfl) (fun _ _ _ h => h) (Or.inl ⟨by rfl, ?hy4c⟩) (by assumption) ?rest4c
      case hy4c => (intro zz hSw; (try dsimp only at hSw); go_simp; (try with_reducible rfl))
      change wpAnyH _ _ _ _ _ _ _ (Act.put _ (some 20) _) _
      simp only [Act.put, List.setIfInBounds_toArray, List.set_cons_zero, List.set_cons_succ]
      refine wpAnyH_take (i := 5) (v := ?v5c) rfl (by kernel_rfl) (by kernel_rfl) (by kernel_rfl) (fun _ _ _ h => h) (Or.inl ⟨by rfl, ?hy5c⟩) (by assumption) ?rest5c
      case hy5c => (intro zz hSw; (try dsimp only at hSw); go_simp; (try with_reducible rfl))
      change wpAnyH _ _ _ _ _ _ _ (Act.put _ (some 21) _) _
      simp only [Act.put, List.setIfInBounds_toArray, List.set_cons_zero, List.set_cons_succ]
      refine wpAnyH_take (i := 6) (v := ?v6c) rfl (by kernel_rfl) (by kernel_rfl) (by kernel_rfl) (fun _ _ _ h => h) (Or.inl ⟨by rfl, ?hy6c⟩) (by assumption) ?rest6c
      case hy6c => (intro zz hSw; (try dsimp only at hSw); go_simp; (try with_reducible rfl))
      change wpAnyH _ _ _ _ _ _ _ (Act.put _ (some 22) _) _
      simp only [Act.put, List.setIfInBounds_toArray, List.set_cons_zero, List.set_cons_succ]
      refine wpAnyH_ready (rs := [1, 7]) (by kernel_rfl) (by simp) (AllReadyH.cons rfl (fun K hK => ?_) (AllReadyH.cons rfl (fun K hK => ?_) (AllReadyH.nil)))
      · skip
        obtain ⟨-, -, ⟨-, lo, -, -, -⟩, -⟩ := HI.out.drew
        go_simp
        refine hK.out _ _ hHeld (fun hHeld => ?_)
        clear hK K lo
        refine wpAnyH_ready (rs := [7]) (by kernel_rfl) (by simp) (AllReadyH.cons rfl (fun K hK => ?_) (AllReadyH.nil))
        go_simp
        have hvz := HVL.out _ hHeld.2.2.1
        refine (l4Copy_any _ x.a x.c t tl HTL.out hvz (by omega)).mono ?_; rintro e w4 ⟨v4, rfl, o4, bel⟩
        have O4 := Lib.hid o4; clear hvz
        have I4 := Lib.hid (HI.out.next (bel_tr (Below.refl _ wr).drew bel (Nat.le_refl _)))
        obtain ⟨v4a, v4c, ev4, -, -⟩ := o4.view
        rw [HTL.out] at ev4
        subst ev4
        clear o4
        refine hK.out _ _ (⟨cnx bel hHeld.1, cnx bel hHeld.2.1, bel_tr hHeld.2.2.1 bel (Nat.le_of_eq HQ.out.symm), Nat.le_trans hHeld.2.2.2 bel.size⟩) (fun hHeld => ?_)
        clear hK K bel
        refine wpAnyH_ready (rs := [8]) (by kernel_rfl) (by simp) (AllReadyH.cons rfl (fun K hK => ?_) (AllReadyH.nil))
        go_simp
        have bel := bel1 w4 (.cells #[.slice v4a tl v4c] 24)
        have I5 := Lib.hid (I4.out.next bel)
        have O5 := Lib.hid (O4.out.next bel)
        have CL := Lib.hid (cell_lit w4 (.slice v4a tl v4c) 24)
        have hs5 := bel.size
        refine hK.out _ _ (⟨cnx bel hHeld.1, cnx bel hHeld.2.1, bel_tr hHeld.2.2.1 bel (Nat.le_of_eq HQ.out.symm), Nat.le_trans hHeld.2.2.2 bel.size⟩) (fun hHeld => ?_)
        clear hK K bel O4
        refine wpAnyH_ready (rs := [9]) (by kernel_rfl) (by simp) (AllReadyH.cons rfl (fun K hK => ?_) (AllReadyH.nil))
        refine step_append_row rfl (.tmp 17) (.tmp 24) rfl (base := q + 2) (us := us) (u := .slice v4a tl v4c) rfl rfl I5.out.2.2.2.1 ⟨_, _, _, rfl⟩ (by have := HUL.out; omega) (by have := hHeld.2.2.2; omega) CL.out ?_
        intro v6 w6 r6 g6 n6
        have N6 := Lib.hid (And.intro r6 (And.intro g6 n6))
        obtain ⟨v6a, v6c, ev, -, -, -, -⟩ := r6.form
        rw [List.length_append, List.length_singleton, HUL.out] at ev
        subst ev
        refine hK.out _ _ ⟨cgr (p := ⟨q, 1, none⟩) g6 (show (Value.slice sva k svc).ownBlock ≠ some q from fun e => by have := RowS.lt I5.out.2.2.2.1 q e; omega) hHeld.1, cgr (p := ⟨g, o + k, none⟩) g6 (show (Value.slice sva k svc).ownBlock ≠ some g from fun e => by have := RowS.lt I5.out.2.2.2.1 g e; omega) hHeld.2.1, hHeld.2.2.1.grown g6 (by have := hHeld.2.2.2; omega) (fun j hj => by have := RowS.lt I5.out.2.2.2.1 j hj; omega), Nat.le_trans hHeld.2.2.2 g6.size⟩ (fun hHeld => ?_)
        clear hK K r6 g6 n6
        change wpAnyH _ _ _ _ _ _ _ (Act.put _ (some 25) _) _
        simp only [Act.put, List.setIfInBounds_toArray, List.set_cons_zero, List.set_cons_succ]
        refine wpAnyH_take (i := 10) (v := ?v10cx) rfl (by kernel_rfl) (by kernel_rfl) (by kernel_rfl) (fun _ _ _ h => h) (Or.inl ⟨by rfl, ?hy10cx⟩) (by assumption) ?rest10cx
        case hy10cx => (intro zz hSw; (try dsimp only at hSw); go_simp; (try with_reducible rfl))
        change wpAnyH _ _ _ _ _ _ _ (Act.put _ (some 26) _) _
        simp only [Act.put, List.setIfInBounds_toArray, List.set_cons_zero, List.set_cons_succ]
        refine wpAnyH_ready (rs := [11]) (by kernel_rfl) (by simp) (AllReadyH.cons rfl (fun K hK => ?_) (AllReadyH.nil))
        have F6 := Lib.hid (cp_step (k := k) I5.out O5.out HTT.out hqO wrO HLO.out N6.out.1 N6.out.2.1 N6.out.2.2)
        have hfz := F6.out.1
        have hcz := F6.out.2.1
        go_simp
        refine hK.out _ _ ⟨cst (p := ⟨q, 1, none⟩) (show q ≠ O by omega) hHeld.1, cst (p := ⟨g, o + k, none⟩) (show g ≠ O by omega) hHeld.2.1, hHeld.2.2.1.setCell (p := ⟨O, 1, none⟩) (show q ≤ O by omega) _, by rw [World.size_setCell]; exact hHeld.2.2.2⟩ (fun hHeld => ?_)
        clear hK K hfz hcz
        refine wpAnyH_done (by kernel_rfl) ?_ _
        have RR := Lib.hid (And.intro F6.out.2.2 hHeld.2.2.1); clear hHeld F6
        go_wp2_with fail
        go_roundw
        case rel => exact ⟨k + 1, _, _, by omega, by go_num, RR.out.1, RR.out.2⟩
        case measure => simp [intV]; omega
      · skip
        go_simp
        have hvz := HVL.out _ hHeld.2.2.1
        refine (l4Copy_any _ x.a x.c t tl HTL.out hvz (by omega)).mono ?_; rintro e w4 ⟨v4, rfl, o4, bel⟩
        have O4 := Lib.hid o4; clear hvz
        have I4 := Lib.hid (HI.out.next (bel_tr (Below.refl _ wr).drew bel (Nat.le_refl _)))
        obtain ⟨v4a, v4c, ev4, -, -⟩ := o4.view
        rw [HTL.out] at ev4
        subst ev4
        clear o4
        refine hK.out _ _ (⟨cnx bel hHeld.1, cnx bel hHeld.2.1, bel_tr hHeld.2.2.1 bel (Nat.le_of_eq HQ.out.symm), Nat.le_trans hHeld.2.2.2 bel.size⟩) (fun hHeld => ?_)
        clear hK K bel
        refine wpAnyH_ready (rs := [1, 8]) (by kernel_rfl) (by simp) (AllReadyH.cons rfl (fun K hK => ?_) (AllReadyH.cons rfl (fun K hK => ?_) (AllReadyH.nil)))
        · skip
          obtain ⟨-, -, ⟨-, lo, -, -, -⟩, -⟩ := I4.out
          go_simp
          refine hK.out _ _ hHeld (fun hHeld => ?_)
          clear hK K lo
          refine wpAnyH_ready (rs := [8]) (by kernel_rfl) (by simp) (AllReadyH.cons rfl (fun K hK => ?_) (AllReadyH.nil))
          go_simp
          have bel := bel1 w4 (.cells #[.slice v4a tl v4c] 24)
          have I5 := Lib.hid (I4.out.next bel)
          have O5 := Lib.hid (O4.out.next bel)
          have CL := Lib.hid (cell_lit w4 (.slice v4a tl v4c) 24)
          have hs5 := bel.size
          refine hK.out _ _ (⟨cnx bel hHeld.1, cnx bel hHeld.2.1, bel_tr hHeld.2.2.1 bel (Nat.le_of_eq HQ.out.symm), Nat.le_trans hHeld.2.2.2 bel.size⟩) (fun hHeld => ?_)
          clear hK K bel O4
          refine wpAnyH_ready (rs := [9]) (by kernel_rfl) (by simp) (AllReadyH.cons rfl (fun K hK => ?_) (AllReadyH.nil))
          refine step_append_row rfl (.tmp 17) (.tmp 24) rfl (base := q + 2) (us := us) (u := .slice v4a tl v4c) rfl rfl I5.out.2.2.2.1 ⟨_, _, _, rfl⟩ (by have := HUL.out; omega) (by have := hHeld.2.2.2; omega) CL.out ?_
          intro v6 w6 r6 g6 n6
          have N6 := Lib.hid (And.intro r6 (And.intro g6 n6))
          obtain ⟨v6a, v6c, ev, -, -, -, -⟩ := r6.form
          rw [List.length_append, List.length_singleton, HUL.out] at ev
          subst ev
          refine hK.out _ _ ⟨cgr (p := ⟨q, 1, none⟩) g6 (show (Value.slice sva k svc).ownBlock ≠ some q from fun e => by have := RowS.lt I5.out.2.2.2.1 q e; omega) hHeld.1, cgr (p := ⟨g, o + k, none⟩) g6 (show (Value.slice sva k svc).ownBlock ≠ some g from fun e => by have := RowS.lt I5.out.2.2.2.1 g e; omega) hHeld.2.1, hHeld.2.2.1.grown g6 (by have := hHeld.2.2.2; omega) (fun j hj => by have := RowS.lt I5.out.2.2.2.1 j hj; omega), Nat.le_trans hHeld.2.2.2 g6.size⟩ (fun hHeld => ?_)
          clear hK K r6 g6 n6
          change wpAnyH _ _ _ _ _ _ _ (Act.put _ (some 25) _) _
          simp only [Act.put, List.setIfInBounds_toArray, List.set_cons_zero, List.set_cons_succ]
          refine wpAnyH_take (i := 10) (v := ?v10cyx) rfl (by kernel_rfl) (by kernel_rfl) (by kernel_rfl) (fun _ _ _ h => h) (Or.inl ⟨by rfl, ?hy10cyx⟩) (by assumption) ?rest10cyx
          case hy10cyx => (intro zz hSw; (try dsimp only at hSw); go_simp; (try with_reducible rfl))
          change wpAnyH _ _ _ _ _ _ _ (Act.put _ (some 26) _) _
          simp only [Act.put, List.setIfInBounds_toArray, List.set_cons_zero, List.set_cons_succ]
          refine wpAnyH_ready (rs := [11]) (by kernel_rfl) (by simp) (AllReadyH.cons rfl (fun K hK => ?_) (AllReadyH.nil))
          have F6 := Lib.hid (cp_step (k := k) I5.out O5.out HTT.out hqO wrO HLO.out N6.out.1 N6.out.2.1 N6.out.2.2)
          have hfz := F6.out.1
          have hcz := F6.out.2.1
          go_simp
          refine hK.out _ _ ⟨cst (p := ⟨q, 1, none⟩) (show q ≠ O by omega) hHeld.1, cst (p := ⟨g, o + k, none⟩) (show g ≠ O by omega) hHeld.2.1, hHeld.2.2.1.setCell (p := ⟨O, 1, none⟩) (show q ≤ O by omega) _, by rw [World.size_setCell]; exact hHeld.2.2.2⟩ (fun hHeld => ?_)
          clear hK K hfz hcz
          refine wpAnyH_done (by kernel_rfl) ?_ _
          have RR := Lib.hid (And.intro F6.out.2.2 hHeld.2.2.1); clear hHeld F6
          go_wp2_with fail
          go_roundw
          case rel => exact ⟨k + 1, _, _, by omega, by go_num, RR.out.1, RR.out.2⟩
          case measure => simp [intV]; omega
        · skip
          go_simp
          have bel := bel1 w4 (.cells #[.slice v4a tl v4c] 24)
          have I5 := Lib.hid (I4.out.next bel)
          have O5 := Lib.hid (O4.out.next bel)
          have CL := Lib.hid (cell_lit w4 (.slice v4a tl v4c) 24)
          have hs5 := bel.size
          refine hK.out _ _ (⟨cnx bel hHeld.1, cnx bel hHeld.2.1, bel_tr hHeld.2.2.1 bel (Nat.le_of_eq HQ.out.symm), Nat.le_trans hHeld.2.2.2 bel.size⟩) (fun hHeld => ?_)
          clear hK K bel O4
          refine wpAnyH_ready (rs := [1]) (by kernel_rfl) (by simp) (AllReadyH.cons rfl (fun K hK => ?_) (AllReadyH.nil))
          obtain ⟨-, -, ⟨-, lo, -, -, -⟩, -⟩ := I5.out
          go_simp
          refine hK.out _ _ hHeld (fun hHeld => ?_)
          clear hK K lo
          refine wpAnyH_ready (rs := [9]) (by kernel_rfl) (by simp) (AllReadyH.cons rfl (fun K hK => ?_) (AllReadyH.nil))
          refine step_append_row rfl (.tmp 17) (.tmp 24) rfl (base := q + 2) (us := us) (u := .slice v4a tl v4c) rfl rfl I5.out.2.2.2.1 ⟨_, _, _, rfl⟩ (by have := HUL.out; omega) (by have := hHeld.2.2.2; omega) CL.out ?_
          intro v6 w6 r6 g6 n6
          have N6 := Lib.hid (And.intro r6 (And.intro g6 n6))
          obtain ⟨v6a, v6c, ev, -, -, -, -⟩ := r6.form
          rw [List.length_append, List.length_singleton, HUL.out] at ev
          subst ev
          refine hK.out _ _ ⟨cgr (p := ⟨q, 1, none⟩) g6 (show (Value.slice sva k svc).ownBlock ≠ some q from fun e => by have := RowS.lt I5.out.2.2.2.1 q e; omega) hHeld.1, cgr (p := ⟨g, o + k, none⟩) g6 (show (Value.slice sva k svc).ownBlock ≠ some g from fun e => by have := RowS.lt I5.out.2.2.2.1 g e; omega) hHeld.2.1, hHeld.2.2.1.grown g6 (by have := hHeld.2.2.2; omega) (fun j hj => by have := RowS.lt I5.out.2.2.2.1 j hj; omega), Nat.le_trans hHeld.2.2.2 g6.size⟩ (fun hHeld => ?_)
          clear hK K r6 g6 n6
          change wpAnyH _ _ _ _ _ _ _ (Act.put _ (some 25) _) _
          simp only [Act.put, List.setIfInBounds_toArray, List.set_cons_zero, List.set_cons_succ]
          refine wpAnyH_take (i := 10) (v := ?v10cyy) rfl (by kernel_rfl) (by kernel_rfl) (by kernel_rfl) (fun _ _ _ h => h) (Or.inl ⟨by rfl, ?hy10cyy⟩) (by assumption) ?rest10cyy
          case hy10cyy => (intro zz hSw; (try dsimp only at hSw); go_simp; (try with_reducible rfl))
          change wpAnyH _ _ _ _ _ _ _ (Act.put _ (some 26) _) _
          simp only [Act.put, List.setIfInBounds_toArray, List.set_cons_zero, List.set_cons_succ]
          refine wpAnyH_ready (rs := [11]) (by kernel_rfl) (by simp) (AllReadyH.cons rfl (fun K hK => ?_) (AllReadyH.nil))
          have F6 := Lib.hid (cp_step (k := k) I5.out O5.out HTT.out hqO wrO HLO.out N6.out.1 N6.out.2.1 N6.out.2.2)
          have hfz := F6.out.1
          have hcz := F6.out.2.1
          go_simp
          refine hK.out _ _ ⟨cst (p := ⟨q, 1, none⟩) (show q ≠ O by omega) hHeld.1, cst (p := ⟨g, o + k, none⟩) (show g ≠ O by omega) hHeld.2.1, hHeld.2.2.1.setCell (p := ⟨O, 1, none⟩) (show q ≤ O by omega) _, by rw [World.size_setCell]; exact hHeld.2.2.2⟩ (fun hHeld => ?_)
          clear hK K hfz hcz
          refine wpAnyH_done (by kernel_rfl) ?_ _
          have RR := Lib.hid (And.intro F6.out.2.2 hHeld.2.2.1); clear hHeld F6
          go_wp2_with fail
          go_roundw
          case rel => exact ⟨k + 1, _, _, by omega, by go_num, RR.out.1, RR.out.2⟩
          case measure => simp [intV]; omega
    · obtain rfl : k = sn := by omega
      have HE := Lib.hid (cp_end HQ.out (by have := HI.out; rwa [List.take_of_length_le (Nat.le_of_eq HSN.out)] at this) HB.out)
      go_wp2_with fail
      refine bodyPost_ret (v := .agg #[.slice va hn vc, .slice sva k svc]) (by simp [results, Try.results85, go_sem, r0, r1]) rfl ⟨_, _, rfl, HE.out.1, HE.out.2⟩
end Go.Proofs.Ytopcjiaakefmeaa.Cl
