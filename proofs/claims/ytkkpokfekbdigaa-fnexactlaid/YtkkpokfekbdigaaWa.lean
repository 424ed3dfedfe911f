/-
  The contracts of spec.l6Copy: a store of the call's own with the same cells. (Made by gen_wa.py.)
  The contract of impl.copyOfBarn: a store of the call's own with the same cells.
  The contract of spec.l6Put: a cell into the Hand of a store in a block. (Made by gen_wc.py.)
-/
import Derived.Test.YtkkpokfekbdigaaBa
import Derived.Test.YtkkpokfekbdigaaRe
import Derived.Test.YtkkpokfekbdigaaCe
import Derived.Test.YtkkpokfekbdigaaCk
namespace Go.Proofs.Ytkkpokfekbdigaa.Cl
open Go.RowKit Wd Rp Kp Ra
set_option linter.unusedVariables false
theorem cnx {x y : World} {p : Addr} {v : Value} (bel : Below x.heap.size x y) (h : x.cell? p = some v) : y.cell? p = some v := (World.cell?_of_block (w := x) (bel.block p.block (cell_lt h))).trans h
theorem cgr {x y : World} {p : Addr} {v : Value} {row : Option Nat} (g : x.grownBy y row) (hne : row ≠ some p.block) (h : x.cell? p = some v) : y.cell? p = some v := (World.cell?_of_block (w := x) (g.block p.block (cell_lt h) (fun e => hne e.symm))).trans h
theorem cst {x : World} {p a : Addr} {v u : Value} (hne : p.block ≠ a.block) (h : x.cell? p = some v) : (x.setCell a u).cell? p = some v := (World.cell?_of_block (w := x) (Below.heap_setCell _ _ _ _ hne)).trans h
theorem step_append_row {ops : Array Oper} {o : Oper} {a : Act} {Q : Exit → Act → World → Prop} {K : Act → World → Prop} {w : World} (hw : Region.wanted o (yielded ops a.tmps) = true) (s x : Operand)
    (ho : o.op = .call { callee := .builtin .append, args := #[s, x], argTypes := #[43, 43] })
    {base : Nat} {v u : Value} {us : List Value} {ad : Addr} (hs : a.eval s = v) (hx : a.eval x = .slice (some ad) 1 1) (hown : RowS base w v us) (hu : ∃ a n c, u = .slice a n c) (hlen : us.length ≤ 1000000) (hbase : base ≤ w.heap.size) (hc : w.cell? ad = some u)
    (h : ∀ v' w', RowS base w' v' (us ++ [u]) → w.grownBy w' v.ownBlock → (v'.ownBlock = v.ownBlock ∨ v'.ownBlock = some w.heap.size) → K (a.put o.dst v') w') :
    if Region.wanted o (yielded ops a.tmps) = true then Oper.wp Try.prog o a w K Q else K (a.put o.dst undef) w := by
  rw [if_pos hw]
  obtain ⟨v', w', hr, h2, h3, h4⟩ := run_append_row o.type hown hu hlen hbase ad hc
  unfold Oper.wp execOp
  simp only [ho, resolve, invoke, builtin, Sem.run_bind, Sem.run_pure, Result.andThen_ok, List.map_toArray, List.map_cons, List.map_nil, hs, hx, hr]
  exact h v' w' h2 h3 h4
/-- The blocks of a copy under way: the store, the result, what is made. -/
def CpF (q O : Nat) (bh bs hv sv : Value) (us : List Value) (ts : List (List Cel)) (z : World) : Prop :=
  Bb q bh bs z ∧ Bb (q + 1) (.slice none 0 0) (.slice none 0 0) z ∧ Bb O hv sv z ∧ RowS (q + 2) z sv us ∧ OwL (q + 2) z (hv :: us) ts ∧ ∀ x ∈ sv :: hv :: us, x.ownBlock ≠ some O
theorem CpF.next {q O : Nat} {bh bs hv sv : Value} {us : List Value} {ts : List (List Cel)} {z z' : World} (h : CpF q O bh bs hv sv us ts z) (hb : Below z.heap.size z z') : CpF q O bh bs hv sv us ts z' :=
  ⟨h.1.next hb, h.2.1.next hb, h.2.2.1.next hb, h.2.2.2.1.next hb, h.2.2.2.2.1.next hb, h.2.2.2.2.2⟩
/-- One list more. -/
theorem cp_step {q O k m : Nat} {bh bs hv sv v6 u : Value} {us : List Value} {h t : List Cel} {ss : List (List Cel)} {z z' : World} (f : CpF q O bh bs hv sv us (h :: ss.take k) z) (ou : OwC m z u t) (ht : ss[k]? = some t) (hO : q + 1 < O) (hm : O < m) (hlo : ∀ x ∈ hv :: us, ∀ i, x.ownBlock = some i → i < m) (r6 : RowS (q + 2) z' v6 (us ++ [u])) (g6 : z.grownBy z' sv.ownBlock) (n6 : v6.ownBlock = sv.ownBlock ∨ v6.ownBlock = some z.heap.size) :
    z'.frozen? ⟨O, 1, none⟩ = false ∧ z'.cell? ⟨O, 1, none⟩ = some sv ∧ CpF q O bh bs hv v6 (us ++ [u]) (h :: ss.take (k + 1)) (z'.setCell ⟨O, 1, none⟩ v6) := by
  obtain ⟨f1, f2, f3, f4, f5, f6⟩ := f
  have hrow : ∀ i, i ≤ q + 1 ∨ i = O → sv.ownBlock ≠ some i := fun i hi e => by
    rcases hi with hi | hi
    · have := RowS.lt f4 i e; omega
    · subst hi; exact f6 sv (by simp) e
  have hB : ∀ (i : Nat) (a b : Value), i ≤ q + 1 ∨ i = O → Bb i a b z → Bb i a b z' := fun i a b hi hb => by
    obtain ⟨h0, h1, h2, h3, h4⟩ := hb
    have e := g6.block i h4 (fun e => hrow i hi e.symm)
    exact ⟨(World.cell?_of_block (w := z) e).trans h0, (World.cell?_of_block (w := z) e).trans h1, (World.frozen?_of_block (w := z) e).trans h2, (World.frozen?_of_block (w := z) e).trans h3, Nat.lt_of_lt_of_le h4 g6.size⟩
  have k1 := hB q _ _ (Or.inl (by omega)) f1
  have k2 := hB (q + 1) _ _ (Or.inl (Nat.le_refl _)) f2
  have k3 := hB O _ _ (Or.inr rfl) f3
  have hu : ∀ i, u.ownBlock = some i → m ≤ i := OwC.lt ou
  have hmz : ∀ x ∈ hv :: us, ∀ i, x.ownBlock = some i → u.ownBlock ≠ some i := fun x hx i hi e => by have := hlo x hx i hi; have := hu i e; omega
  have o6 : OwL (q + 2) z' ((hv :: us) ++ [u]) ((h :: ss.take k) ++ [t]) :=
    OwL.snoc (f5.grown g6 (fun x hx i hi e => RowS.apart f4 f5 x hx i hi e)) (ou.grown g6 (fun i hi e => own_ne ou f4 (by decide) i hi e)) (by omega) hmz
  refine ⟨k3.2.2.2.1, k3.2.1, k1.put (by show O ≠ q; omega) _, k2.put (by show O ≠ q + 1; omega) _, k3.set1 _, ?_, ?_, ?_⟩
  · exact row_next r6 fun g hg _ => Below.heap_setCell _ _ _ g (fun e => by
      rcases n6 with e2 | e2
      · exact f6 sv (by simp) (by rw [← e2, hg, e])
      · rw [hg] at e2; cases e2; have := f3.2.2.2.2; simp at e; omega)
  · rw [take_at ht]
    refine ⟨o6.1, fun j x l h1 h2 => row_next (o6.2.1 j x l h1 h2) fun g hg _ => Below.heap_setCell _ _ _ g (fun e => ?_), o6.2.2⟩
    have hx := List.mem_of_getElem? h1
    rcases List.mem_append.1 (show x ∈ (hv :: us) ++ [u] from hx) with hx | hx
    · exact f6 x (List.mem_cons_of_mem _ hx) (by rw [hg, e])
    · rw [List.mem_singleton.1 hx] at hg; have := hu g hg; simp at e; omega
  · intro x hx e
    rcases List.mem_cons.1 hx with rfl | hx
    · rcases n6 with e2 | e2
      · exact f6 sv (by simp) (by rw [← e2]; exact e)
      · rw [e] at e2; cases e2; exact absurd f3.2.2.2.2 (by omega)
    · rcases List.mem_append.1 (show x ∈ (hv :: us) ++ [u] from hx) with hx | hx
      · exact f6 x (List.mem_cons_of_mem _ hx) e
      · rw [List.mem_singleton.1 hx] at e; have := hu O e; omega
theorem CpF.drew {q O : Nat} {bh bs hv sv : Value} {us : List Value} {ts : List (List Cel)} {z : World} (h : CpF q O bh bs hv sv us ts z) : CpF q O bh bs hv sv us ts z.drew := h.next (Below.refl _ _).drew
/-- What a copy gives. -/
def CpPost (h : List Cel) (ss : List (List Cel)) (w : World) (e : Ending) (w' : World) : Prop := ∃ hv sv, e = .returned (.agg #[hv, sv]) ∧ OwB w.heap.size w' hv sv h ss ∧ Below w.heap.size w w'
/-- The start: Hand is copied. -/
theorem cp_start {w w1 : World} {q : Nat} {bh bs v : Value} {h : List Cel} (hq : w.heap.size = q) (f1 : Bb q bh bs w1) (f2 : Bb (q + 1) (.slice none 0 0) (.slice none 0 0) w1) (o : OwC (q + 2) w1 v h) : CpF q w1.heap.size bh bs v (.slice none 0 0) [] [h] (w1.alloc (.cells #[v, .slice none 0 0] 45)) := by
  refine ⟨f1.next (bel1 _ _), f2.next (bel1 _ _), Bb.made _ _ w1 _, RowS.nothing _ _, ⟨rfl, fun j u l h1 h2 => ?_, by unfold Dis; simp⟩, fun x hx e => ?_⟩
  · cases j with
    | zero =>
      obtain rfl : v = u := by simpa using h1
      obtain rfl : h = l := by simpa using h2
      exact o.next (bel1 _ _)
    | succ j => simp at h1
  · rcases List.mem_cons.1 hx with rfl | hx
    · simp [Value.ownBlock] at e
    · rw [List.mem_singleton.1 hx] at e
      have := OwC.low o _ e; omega
theorem cp_end {q O : Nat} {bh bs hv sv : Value} {us : List Value} {h : List Cel} {ss : List (List Cel)} {w z : World} (hq : w.heap.size = q) (f : CpF q O bh bs hv sv us (h :: ss) z) (hb : Below q w z) : OwB w.heap.size ((z.setCell ⟨q + 1, 0, none⟩ hv).setCell ⟨q + 1, 1, none⟩ sv) hv sv h ss ∧ Below w.heap.size w ((z.setCell ⟨q + 1, 0, none⟩ hv).setCell ⟨q + 1, 1, none⟩ sv) := by
  subst hq
  refine ⟨((OwB.put (B := w.heap.size + 2) ⟨us, f.2.2.2.1, f.2.2.2.2.1⟩ (p := ⟨w.heap.size + 1, 0, none⟩) (by show w.heap.size + 1 < w.heap.size + 2; omega) _).put (p := ⟨w.heap.size + 1, 1, none⟩) (by show w.heap.size + 1 < w.heap.size + 2; omega) _).mono (by omega), ?_⟩
  exact (hb.setCell (p := ⟨w.heap.size + 1, 0, none⟩) (by show w.heap.size ≤ w.heap.size + 1; omega) _).setCell (p := ⟨w.heap.size + 1, 1, none⟩) (by show w.heap.size ≤ w.heap.size + 1; omega) _
set_option maxRecDepth 100000 in
set_option maxHeartbeats 4000000 in
theorem l6Copy_any (w : World) (a sa : Option Addr) (c sc n sn : Nat) (h : List Cel) (hs : List Hd) (ss : List (List Cel)) (hn : h.length = n) (hsn : ss.length = sn) (hv : Vw w a c h) (hvs : VwS w sa sc hs ss) (hlow : Low h ss) (hs2 : sn ≤ 1000) :
    Calls Try.prog 88 #[.agg #[.slice a n c, .slice sa sn sc]] w (CpPost h ss w) := by
  have HVS := Lib.hid hvs; clear hvs
  have HSN := Lib.hid hsn; clear hsn
  have HLOW := Lib.hid hlow; clear hlow
  have hn1 : n ≤ 1048576 := by rw [← hn]; exact HLOW.out.1
  have H0 := Lib.hid (bel2 w (.cells #[.slice a n c, .slice sa sn sc] 45) (.cells #[.slice none 0 0, .slice none 0 0] 45))
  have F0 := Lib.hid (Bb.two (.slice a n c) (.slice sa sn sc) (.slice none 0 0) (.slice none 0 0) w 45 45)
  have hz0 : ((w.alloc (.cells #[.slice a n c, .slice sa sn sc] 45)).alloc (.cells #[.slice none 0 0, .slice none 0 0] 45)).heap.size = w.heap.size + 2 := by simp
  have HC := Lib.hid (l4Copy_any _ a c h n hn (hv.below H0.out) (by omega)); clear hv hn
  go_enter Try.func88, Try.ntmps88
  go_wp2_with fail
  refine HC.out.mono ?_; rintro e w1 ⟨v, rfl, o1, b1⟩
  generalize hq : w.heap.size = q at *
  have HQ := Lib.hid hq; clear hq
  have z1 : q + 2 ≤ w1.heap.size := by have := b1.size; omega
  have ST := Lib.hid (cp_start HQ.out (F0.out.1.next b1) (F0.out.2.next b1) (OwC.mono o1 (by omega)))
  have B1 := Lib.hid (bel_tr (bel_tr H0.out b1 (Nat.le_of_eq HQ.out.symm)) (bel1 w1 (.cells #[v, .slice none 0 0] 45)) (Nat.le_of_eq HQ.out.symm))
  obtain ⟨va, vc, rfl, -, -⟩ := o1.view
  clear o1 b1 HC F0 H0
  generalize h.length = hn at *
  go_wp2_with fail
  generalize hO : w1.heap.size = O at *
  have HOO := Lib.hid hO; clear hO
  go_loopw [4] (fun i wr => ∃ (k : Nat) (sv : Value) (us : List Value), k ≤ sn ∧ i = .int .i64 k ∧ CpF q O (.slice a n c) (.slice sa sn sc) (.slice va hn vc) sv us (h :: ss.take k) wr ∧ Below q w wr) (fun i _ => sn - intV i)
  case atStart => exact ⟨0, .slice none 0 0, [], Nat.zero_le _, rfl, by rw [List.take_zero]; exact ST.out, B1.out⟩
  case round =>
    clear ST B1
    obtain ⟨k, sv, us, hk, rfl, hcf, hbel⟩ := hrel
    have HI := Lib.hid hcf
    have HB := Lib.hid hbel; clear hbel
    obtain ⟨⟨x0, x1, -, -, -⟩, ⟨r0, r1, r2, r3, rq⟩, ⟨y0, y1, y2, y3, yq⟩, hrw, hol, -⟩ := hcf
    have hul : us.length = k := by
      have := hol.1
      simp at this
      rw [this, HSN.out]; omega
    obtain ⟨sva, svc, ev, -, -, -, -⟩ := hrw.form
    rw [hul] at ev
    subst ev
    clear hrw hol
    by_cases hlt : k < sn
    · obtain ⟨t, ht⟩ : ∃ t, ss[k]? = some t := ⟨ss[k]'(by rw [HSN.out]; exact hlt), List.getElem?_eq_getElem _⟩
      obtain ⟨x, g, o, -, rfl, hg, hc, hvl⟩ := HVS.out.at ht
      have hcx : wr.cell? ⟨g, o + k, none⟩ = some (.slice x.a t.length x.c) := (HB.out.cell (p := ⟨g, o + k, none⟩) (by have := HQ.out; show g < q; omega)).trans hc
      have htl : t.length ≤ 1048576 := HLOW.out.2.2 t (List.mem_of_getElem? ht)
      have HVL := Lib.hid (fun z (hz : Below q w z) => hvl.below (show Below w.heap.size w z by rw [HQ.out]; exact hz)); clear hvl hc
      have HTT := Lib.hid ht; clear ht
      generalize hln : t.length = tl at *
      have HTL := Lib.hid hln; clear hln
      have hgq : g < q := by have := HQ.out; omega
      have HLO := Lib.hid (show ∀ x ∈ Value.slice va hn vc :: us, ∀ i, x.ownBlock = some i → i < wr.heap.size from fun x hx i hi => (HI.out.2.2.2.2.1.low x hx i hi).2)
      have hqO : q + 1 < O := by omega
      have HS := Lib.hid (show wr.drew.cell? ⟨q, 1, none⟩ = some (.slice (some ⟨g, o, none⟩) sn sc) ∧ wr.drew.cell? ⟨g, o + k, none⟩ = some (.slice x.a tl x.c) ∧ Below q w wr.drew ∧ wr.heap.size ≤ wr.drew.heap.size from ⟨x1, hcx, HB.out.drew, Nat.le_refl _⟩)
      have HUL := Lib.hid hul
      have wrO : O < wr.heap.size := yq
      go_wp2_with fail
      clear x0 x1 r0 r1 r2 r3 rq y0 y1 y2 y3 yq hcx hul hg
      refine wp_region_held_drew (S := fun z => z.cell? ⟨q, 1, none⟩ = some (.slice (some ⟨g, o, none⟩) sn sc) ∧ z.cell? ⟨g, o + k, none⟩ = some (.slice x.a tl x.c) ∧ Below q w z ∧ wr.heap.size ≤ z.heap.size) (by kernel_rfl) (HS.out) (fun hHeld => ?_)
      refine wpAnyH_take (i := 0) (v := ?v0c) rfl (by kernel_rfl) (by kernel_rfl) (by kernel_rfl) (fun _ _ _ h => h) (Or.inl ⟨by rfl, ?hy0c⟩) (by assumption) ?rest0c
      case hy0c => (intro zz hSw; (try dsimp only at hSw); go_simp; (try with_reducible rfl))
      change wpAnyH _ _ _ _ _ _ _ (Act.put _ (some 16) _) _
      simp only [Act.put, List.setIfInBounds_toArray, List.set_cons_zero, List.set_cons_succ]
      refine wpAnyH_take (i := 2) (v := ?v2c) rfl (by kernel_rfl) (by kernel_rfl) (by kernel_rfl) (fun _ _ _ h => h) (Or.inl ⟨by rfl, ?hy2c⟩) (by assumption) ?rest2c
      case hy2c => (intro zz hSw; (try dsimp only at hSw); go_simp; (try with_reducible rfl))
      change wpAnyH _ _ _ _ _ _ _ (Act.put _ (some 18) _) _
      simp only [Act.put, List.setIfInBounds_toArray, List.set_cons_zero, List.set_cons_succ]
      refine wpAnyH_take (i := 3) (v := ?v3c) rfl (by kernel_rfl) (by kernel_rfl) (by kernel_rfl) (fun _ _ _ h => h) (Or.inl ⟨by rfl, ?hy3c⟩) (by assumption) ?rest3c
      case hy3c => (intro zz hSw; (try dsimp only at hSw); go_simp; (try with_reducible rfl))
      change wpAnyH _ _ _ _ _ _ _ (Act.put _ (some 19) _) _
      simp only [Act.put, List.setIfInBounds_toArray, List.set_cons_zero, List.set_cons_succ]
      refine wpAnyH_take (i := 4) (v := ?v4c) rfl (by kernel_rfl) (by kernel_rfl) (by kernel_rfl) (fun _ _ _ h => h) (Or.inl ⟨by rfl, ?hy4c⟩) (by assumption) ?rest4c
      case hy4c => (intro zz hSw; (try dsimp only at hSw); go_simp; (try with_reducible rfl))
      change wpAnyH _ _ _ _ _ _ _ (Act.put _ (some 20) _) _
      simp only [Act.put, List.setIfInBounds_toArray, List.set_cons_zero, List.set_cons_succ]
      refine wpAnyH_take (i := 5) (v := ?v5c) rfl (by kernel_rfl) (by kernel_rfl) (by kernel_rfl) (fun _ _ _ h => h) (Or.inl ⟨by rfl, ?hy5c⟩) (by assumption) ?rest5c
      case hy5c => (intro zz hSw; (try dsimp only at hSw); go_simp; (try with_reducible rfl))
      change wpAnyH _ _ _ _ _ _ _ (Act.put _ (some 21) _) _
      simp only [Act.put, List.setIfInBounds_toArray, List.set_cons_zero, List.set_cons_succ]
      refine wpAnyH_take (i := 6) (v := ?v6c) rfl (by kernel_rfl) (by kernel_rfl) (by kernel_rfl) (fun _ _ _ h => h) (Or.inl ⟨by rfl, ?hy6c⟩) (by assumption) ?rest6c
      case hy6c => (intro zz hSw; (try dsimp only at hSw); go_simp; (try with_reducible rfl))
      change wpAnyH _ _ _ _ _ _ _ (Act.put _ (some 22) _) _
      simp only [Act.put, List.setIfInBounds_toArray, List.set_cons_zero, List.set_cons_succ]
      refine wpAnyH_ready (rs := [1, 7]) (by kernel_rfl) (by simp) (AllReadyH.cons rfl (fun K hK => ?_) (AllReadyH.cons rfl (fun K hK => ?_) (AllReadyH.nil)))
      · skip
        obtain ⟨-, -, ⟨-, lo, -, -, -⟩, -⟩ := HI.out.drew
        go_simp
        refine hK.out _ _ hHeld (fun hHeld => ?_)
        clear hK K lo
        refine wpAnyH_ready (rs := [7]) (by kernel_rfl) (by simp) (AllReadyH.cons rfl (fun K hK => ?_) (AllReadyH.nil))
        go_simp
        have hvz := HVL.out _ hHeld.2.2.1
        refine (l4Copy_any _ x.a x.c t tl HTL.out hvz (by omega)).mono ?_; rintro e w4 ⟨v4, rfl, o4, bel⟩
        have O4 := Lib.hid o4; clear hvz
        have I4 := Lib.hid (HI.out.next (bel_tr (Below.refl _ wr).drew bel (Nat.le_refl _)))
        obtain ⟨v4a, v4c, ev4, -, -⟩ := o4.view
        rw [HTL.out] at ev4
        subst ev4
        clear o4
        refine hK.out _ _ (⟨cnx bel hHeld.1, cnx bel hHeld.2.1, bel_tr hHeld.2.2.1 bel (Nat.le_of_eq HQ.out.symm), Nat.le_trans hHeld.2.2.2 bel.size⟩) (fun hHeld => ?_)
        clear hK K bel
        refine wpAnyH_ready (rs := [8]) (by kernel_rfl) (by simp) (AllReadyH.cons rfl (fun K hK => ?_) (AllReadyH.nil))
        go_simp
        have bel := bel1 w4 (.cells #[.slice v4a tl v4c] 24)
        have I5 := Lib.hid (I4.out.next bel)
        have O5 := Lib.hid (O4.out.next bel)
        have CL := Lib.hid (cell_lit w4 (.slice v4a tl v4c) 24)
        have hs5 := bel.size
        refine hK.out _ _ (⟨cnx bel hHeld.1, cnx bel hHeld.2.1, bel_tr hHeld.2.2.1 bel (Nat.le_of_eq HQ.out.symm), Nat.le_trans hHeld.2.2.2 bel.size⟩) (fun hHeld => ?_)
        clear hK K bel O4
        refine wpAnyH_ready (rs := [9]) (by kernel_rfl) (by simp) (AllReadyH.cons rfl (fun K hK => ?_) (AllReadyH.nil))
        refine step_append_row rfl (.tmp 17) (.tmp 24) rfl (base := q + 2) (us := us) (u := .slice v4a tl v4c) rfl rfl I5.out.2.2.2.1 ⟨_, _, _, rfl⟩ (by have := HUL.out; omega) (by have := hHeld.2.2.2; omega) CL.out ?_
        intro v6 w6 r6 g6 n6
        have N6 := Lib.hid (And.intro r6 (And.intro g6 n6))
        obtain ⟨v6a, v6c, ev, -, -, -, -⟩ := r6.form
        rw [List.length_append, List.length_singleton, HUL.out] at ev
        subst ev
        refine hK.out _ _ ⟨cgr (p := ⟨q, 1, none⟩) g6 (show (Value.slice sva k svc).ownBlock ≠ some q from fun e => by have := RowS.lt I5.out.2.2.2.1 q e; omega) hHeld.1, cgr (p := ⟨g, o + k, none⟩) g6 (show (Value.slice sva k svc).ownBlock ≠ some g from fun e => by have := RowS.lt I5.out.2.2.2.1 g e; omega) hHeld.2.1, hHeld.2.2.1.grown g6 (by have := hHeld.2.2.2; omega) (fun j hj => by have := RowS.lt I5.out.2.2.2.1 j hj; omega), Nat.le_trans hHeld.2.2.2 g6.size⟩ (fun hHeld => ?_)
        clear hK K r6 g6 n6
        change wpAnyH _ _ _ _ _ _ _ (Act.put _ (some 25) _) _
        simp only [Act.put, List.setIfInBounds_toArray, List.set_cons_zero, List.set_cons_succ]
        refine wpAnyH_take (i := 10) (v := ?v10cx) rfl (by kernel_rfl) (by kernel_rfl) (by kernel_rfl) (fun _ _ _ h => h) (Or.inl ⟨by rfl, ?hy10cx⟩) (by assumption) ?rest10cx
        case hy10cx => (intro zz hSw; (try dsimp only at hSw); go_simp; (try with_reducible rfl))
        change wpAnyH _ _ _ _ _ _ _ (Act.put _ (some 26) _) _
        simp only [Act.put, List.setIfInBounds_toArray, List.set_cons_zero, List.set_cons_succ]
        refine wpAnyH_ready (rs := [11]) (by kernel_rfl) (by simp) (AllReadyH.cons rfl (fun K hK => ?_) (AllReadyH.nil))
        have F6 := Lib.hid (cp_step (k := k) I5.out O5.out HTT.out hqO wrO HLO.out N6.out.1 N6.out.2.1 N6.out.2.2)
        have hfz := F6.out.1
        have hcz := F6.out.2.1
        go_simp
        refine hK.out _ _ ⟨cst (p := ⟨q, 1, none⟩) (show q ≠ O by omega) hHeld.1, cst (p := ⟨g, o + k, none⟩) (show g ≠ O by omega) hHeld.2.1, hHeld.2.2.1.setCell (p := ⟨O, 1, none⟩) (show q ≤ O by omega) _, by rw [World.size_setCell]; exact hHeld.2.2.2⟩ (fun hHeld => ?_)
        clear hK K hfz hcz
        refine wpAnyH_done (by kernel_rfl) ?_ _
        have RR := Lib.hid (And.intro F6.out.2.2 hHeld.2.2.1); clear hHeld F6
        go_wp2_with fail
        go_roundw
        case rel => exact ⟨k + 1, _, _, by omega, by go_num, RR.out.1, RR.out.2⟩
        case measure => simp [intV]; omega
      · skip
        go_simp
        have hvz := HVL.out _ hHeld.2.2.1
        refine (l4Copy_any _ x.a x.c t tl HTL.out hvz (by omega)).mono ?_; rintro e w4 ⟨v4, rfl, o4, bel⟩
        have O4 := Lib.hid o4; clear hvz
        have I4 := Lib.hid (HI.out.next (bel_tr (Below.refl _ wr).drew bel (Nat.le_refl _)))
        obtain ⟨v4a, v4c, ev4, -, -⟩ := o4.view
        rw [HTL.out] at ev4
        subst ev4
        clear o4
        refine hK.out _ _ (⟨cnx bel hHeld.1, cnx bel hHeld.2.1, bel_tr hHeld.2.2.1 bel (Nat.le_of_eq HQ.out.symm), Nat.le_trans hHeld.2.2.2 bel.size⟩) (fun hHeld => ?_)
        clear hK K bel
        refine wpAnyH_ready (rs := [1, 8]) (by kernel_rfl) (by simp) (AllReadyH.cons rfl (fun K hK => ?_) (AllReadyH.cons rfl (fun K hK => ?_) (AllReadyH.nil)))
        · skip
          obtain ⟨-, -, ⟨-, lo, -, -, -⟩, -⟩ := I4.out
          go_simp
          refine hK.out _ _ hHeld (fun hHeld => ?_)
          clear hK K lo
          refine wpAnyH_ready (rs := [8]) (by kernel_rfl) (by simp) (AllReadyH.cons rfl (fun K hK => ?_) (AllReadyH.nil))
          go_simp
          have bel := bel1 w4 (.cells #[.slice v4a tl v4c] 24)
          have I5 := Lib.hid (I4.out.next bel)
          have O5 := Lib.hid (O4.out.next bel)
          have CL := Lib.hid (cell_lit w4 (.slice v4a tl v4c) 24)
          have hs5 := bel.size
          refine hK.out _ _ (⟨cnx bel hHeld.1, cnx bel hHeld.2.1, bel_tr hHeld.2.2.1 bel (Nat.le_of_eq HQ.out.symm), Nat.le_trans hHeld.2.2.2 bel.size⟩) (fun hHeld => ?_)
          clear hK K bel O4
          refine wpAnyH_ready (rs := [9]) (by kernel_rfl) (by simp) (AllReadyH.cons rfl (fun K hK => ?_) (AllReadyH.nil))
          refine step_append_row rfl (.tmp 17) (.tmp 24) rfl (base := q + 2) (us := us) (u := .slice v4a tl v4c) rfl rfl I5.out.2.2.2.1 ⟨_, _, _, rfl⟩ (by have := HUL.out; omega) (by have := hHeld.2.2.2; omega) CL.out ?_
          intro v6 w6 r6 g6 n6
          have N6 := Lib.hid (And.intro r6 (And.intro g6 n6))
          obtain ⟨v6a, v6c, ev, -, -, -, -⟩ := r6.form
          rw [List.length_append, List.length_singleton, HUL.out] at ev
          subst ev
          refine hK.out _ _ ⟨cgr (p := ⟨q, 1, none⟩) g6 (show (Value.slice sva k svc).ownBlock ≠ some q from fun e => by have := RowS.lt I5.out.2.2.2.1 q e; omega) hHeld.1, cgr (p := ⟨g, o + k, none⟩) g6 (show (Value.slice sva k svc).ownBlock ≠ some g from fun e => by have := RowS.lt I5.out.2.2.2.1 g e; omega) hHeld.2.1, hHeld.2.2.1.grown g6 (by have := hHeld.2.2.2; omega) (fun j hj => by have := RowS.lt I5.out.2.2.2.1 j hj; omega), Nat.le_trans hHeld.2.2.2 g6.size⟩ (fun hHeld => ?_)
          clear hK K r6 g6 n6
          change wpAnyH _ _ _ _ _ _ _ (Act.put _ (some 25) _) _
          simp only [Act.put, List.setIfInBounds_toArray, List.set_cons_zero, List.set_cons_succ]
          refine wpAnyH_take (i := 10) (v := ?v10cyx) rfl (by kernel_rfl) (by kernel_rfl) (by kernel_rfl) (fun _ _ _ h => h) (Or.inl ⟨by rfl, ?hy10cyx⟩) (by assumption) ?rest10cyx
          case hy10cyx => (intro zz hSw; (try dsimp only at hSw); go_simp; (try with_reducible rfl))
          change wpAnyH _ _ _ _ _ _ _ (Act.put _ (some 26) _) _
          simp only [Act.put, List.setIfInBounds_toArray, List.set_cons_zero, List.set_cons_succ]
          refine wpAnyH_ready (rs := [11]) (by kernel_rfl) (by simp) (AllReadyH.cons rfl (fun K hK => ?_) (AllReadyH.nil))
          have F6 := Lib.hid (cp_step (k := k) I5.out O5.out HTT.out hqO wrO HLO.out N6.out.1 N6.out.2.1 N6.out.2.2)
          have hfz := F6.out.1
          have hcz := F6.out.2.1
          go_simp
          refine hK.out _ _ ⟨cst (p := ⟨q, 1, none⟩) (show q ≠ O by omega) hHeld.1, cst (p := ⟨g, o + k, none⟩) (show g ≠ O by omega) hHeld.2.1, hHeld.2.2.1.setCell (p := ⟨O, 1, none⟩) (show q ≤ O by omega) _, by rw [World.size_setCell]; exact hHeld.2.2.2⟩ (fun hHeld => ?_)
          clear hK K hfz hcz
          refine wpAnyH_done (by kernel_rfl) ?_ _
          have RR := Lib.hid (And.intro F6.out.2.2 hHeld.2.2.1); clear hHeld F6
          go_wp2_with fail
          go_roundw
          case rel => exact ⟨k + 1, _, _, by omega, by go_num, RR.out.1, RR.out.2⟩
          case measure => simp [intV]; omega
        · skip
          go_simp
          have bel := bel1 w4 (.cells #[.slice v4a tl v4c] 24)
          have I5 := Lib.hid (I4.out.next bel)
          have O5 := Lib.hid (O4.out.next bel)
          have CL := Lib.hid (cell_lit w4 (.slice v4a tl v4c) 24)
          have hs5 := bel.size
          refine hK.out _ _ (⟨cnx bel hHeld.1, cnx bel hHeld.2.1, bel_tr hHeld.2.2.1 bel (Nat.le_of_eq HQ.out.symm), Nat.le_trans hHeld.2.2.2 bel.size⟩) (fun hHeld => ?_)
          clear hK K bel O4
          refine wpAnyH_ready (rs := [1]) (by kernel_rfl) (by simp) (AllReadyH.cons rfl (fun K hK => ?_) (AllReadyH.nil))
          obtain ⟨-, -, ⟨-, lo, -, -, -⟩, -⟩ := I5.out
          go_simp
          refine hK.out _ _ hHeld (fun hHeld => ?_)
          clear hK K lo
          refine wpAnyH_ready (rs := [9]) (by kernel_rfl) (by simp) (AllReadyH.cons rfl (fun K hK => ?_) (AllReadyH.nil))
          refine step_append_row rfl (.tmp 17) (.tmp 24) rfl (base := q + 2) (us := us) (u := .slice v4a tl v4c) rfl rfl I5.out.2.2.2.1 ⟨_, _, _, rfl⟩ (by have := HUL.out; omega) (by have := hHeld.2.2.2; omega) CL.out ?_
          intro v6 w6 r6 g6 n6
          have N6 := Lib.hid (And.intro r6 (And.intro g6 n6))
          obtain ⟨v6a, v6c, ev, -, -, -, -⟩ := r6.form
          rw [List.length_append, List.length_singleton, HUL.out] at ev
          subst ev
          refine hK.out _ _ ⟨cgr (p := ⟨q, 1, none⟩) g6 (show (Value.slice sva k svc).ownBlock ≠ some q from fun e => by have := RowS.lt I5.out.2.2.2.1 q e; omega) hHeld.1, cgr (p := ⟨g, o + k, none⟩) g6 (show (Value.slice sva k svc).ownBlock ≠ some g from fun e => by have := RowS.lt I5.out.2.2.2.1 g e; omega) hHeld.2.1, hHeld.2.2.1.grown g6 (by have := hHeld.2.2.2; omega) (fun j hj => by have := RowS.lt I5.out.2.2.2.1 j hj; omega), Nat.le_trans hHeld.2.2.2 g6.size⟩ (fun hHeld => ?_)
          clear hK K r6 g6 n6
          change wpAnyH _ _ _ _ _ _ _ (Act.put _ (some 25) _) _
          simp only [Act.put, List.setIfInBounds_toArray, List.set_cons_zero, List.set_cons_succ]
          refine wpAnyH_take (i := 10) (v := ?v10cyy) rfl (by kernel_rfl) (by kernel_rfl) (by kernel_rfl) (fun _ _ _ h => h) (Or.inl ⟨by rfl, ?hy10cyy⟩) (by assumption) ?rest10cyy
          case hy10cyy => (intro zz hSw; (try dsimp only at hSw); go_simp; (try with_reducible rfl))
          change wpAnyH _ _ _ _ _ _ _ (Act.put _ (some 26) _) _
          simp only [Act.put, List.setIfInBounds_toArray, List.set_cons_zero, List.set_cons_succ]
          refine wpAnyH_ready (rs := [11]) (by kernel_rfl) (by simp) (AllReadyH.cons rfl (fun K hK => ?_) (AllReadyH.nil))
          have F6 := Lib.hid (cp_step (k := k) I5.out O5.out HTT.out hqO wrO HLO.out N6.out.1 N6.out.2.1 N6.out.2.2)
          have hfz := F6.out.1
          have hcz := F6.out.2.1
          go_simp
          refine hK.out _ _ ⟨cst (p := ⟨q, 1, none⟩) (show q ≠ O by omega) hHeld.1, cst (p := ⟨g, o + k, none⟩) (show g ≠ O by omega) hHeld.2.1, hHeld.2.2.1.setCell (p := ⟨O, 1, none⟩) (show q ≤ O by omega) _, by rw [World.size_setCell]; exact hHeld.2.2.2⟩ (fun hHeld => ?_)
          clear hK K hfz hcz
          refine wpAnyH_done (by kernel_rfl) ?_ _
          have RR := Lib.hid (And.intro F6.out.2.2 hHeld.2.2.1); clear hHeld F6
          go_wp2_with fail
          go_roundw
          case rel => exact ⟨k + 1, _, _, by omega, by go_num, RR.out.1, RR.out.2⟩
          case measure => simp [intV]; omega
    · obtain rfl : k = sn := by omega
      have HE := Lib.hid (cp_end HQ.out (by have := HI.out; rwa [List.take_of_length_le (Nat.le_of_eq HSN.out)] at this) HB.out)
      go_wp2_with fail
      refine bodyPost_ret (v := .agg #[.slice va hn vc, .slice sva k svc]) (by simp [results, Try.results88, go_sem, r0, r1]) rfl ⟨_, _, rfl, HE.out.1, HE.out.2⟩
end Go.Proofs.Ytkkpokfekbdigaa.Cl
namespace Go.Proofs.Ytkkpokfekbdigaa.Cl
open Go.RowKit Wd Rp Kp Ra Go.Shelf
attribute [local go_sem] Oper.semAt_some
set_option linter.unusedVariables false
theorem cells_of_cell {w : World} {p : Addr} {v : Value} (h : w.cell? p = some v) : ∃ o : Obj, w.heap[p.block]? = some o ∧ o.isCells = true := by
  unfold World.cell? at h
  cases ho : w.heap[p.block]? with
  | none => simp [ho] at h
  | some o => exact ⟨o, rfl, by cases o <;> simp_all [Obj.isCells]⟩
theorem cells_own {B e k n : Nat} {w : World} {v : Value} {xs : List Value} (h : w.ownsRow B e k v n xs) {i : Nat} (hi : v.ownBlock = some i) : ∃ o : Obj, w.heap[i]? = some o ∧ o.isCells = true := by
  rcases h.2 with ⟨rfl, -⟩ | ⟨g, cap, cur, rfl, -, hg, -⟩
  · simp [Value.ownBlock] at hi
  · obtain rfl : g = i := by simpa [Value.ownBlock] using hi
    exact ⟨_, hg, rfl⟩
theorem CpF.same {q O : Nat} {bh bs hv sv : Value} {us : List Value} {ts : List (List Cel)} {z z' : World} (h : CpF q O bh bs hv sv us ts z) (hb : ∀ (k : Nat) (o : Obj), z.heap[k]? = some o → o.isCells = true → z'.heap[k]? = z.heap[k]?) : CpF q O bh bs hv sv us ts z' := by
  have bb : ∀ {i : Nat} {a b : Value}, Bb i a b z → Bb i a b z' := fun {i a b} hB => by
    obtain ⟨o, ho, hc⟩ := cells_of_cell hB.1
    have e := hb i o ho hc
    obtain ⟨h0, h1, h2, h3, h4⟩ := hB
    have hl' : i < z'.heap.size := by rw [Array.getElem?_eq_getElem h4] at e; exact (Array.getElem?_eq_some_iff.1 e).1
    exact ⟨(World.cell?_of_block (w := z) e).trans h0, (World.cell?_of_block (w := z) e).trans h1, (World.frozen?_of_block (w := z) e).trans h2, (World.frozen?_of_block (w := z) e).trans h3, hl'⟩
  obtain ⟨f1, f2, f3, f4, f5, f6⟩ := h
  refine ⟨bb f1, bb f2, bb f3, row_next f4 fun g hg _ => ?_, ⟨f5.1, fun j u l h1 h2 => row_next (f5.2.1 j u l h1 h2) fun g hg _ => ?_, f5.2.2⟩, f6⟩
  · obtain ⟨o, ho, hc⟩ := cells_own f4 hg; exact hb g o ho hc
  · obtain ⟨o, ho, hc⟩ := cells_own (f5.2.1 j u l h1 h2) hg; exact hb g o ho hc
theorem stepIn_append_row {F : Fence} {n : Nat} {ops : Array Oper} {o : Oper} {a : Act} {Q : Exit → Act → World → Prop} {K : Act → World → Prop} {w : World} (hg : o.guard = none) (hw : Region.wanted o (yielded ops a.tmps) = true) (s x : Operand)
    (hop : o.op = .call { callee := .builtin .append, args := #[s, x], argTypes := #[43, 43] })
    {base : Nat} {v u : Value} {us : List Value} {ad : Addr} (hs : a.eval s = v) (hx : a.eval x = .slice (some ad) 1 1) (hown : RowS base w v us) (hu : ∃ a n c, u = .slice a n c) (hlen : us.length ≤ 1000000) (hbase : base ≤ w.heap.size) (hc : w.cell? ad = some u)
    (h : ∀ v' w', RowS base w' v' (us ++ [u]) → w.grownBy w' v.ownBlock → (v'.ownBlock = v.ownBlock ∨ v'.ownBlock = some w.heap.size) → K (a.put o.dst v') w') {E : Prop} :
    if Region.wanted o (yielded ops a.tmps) = true then Oper.wpIn F n Try.prog o a w K Q else E := by
  rw [if_pos hw]
  obtain ⟨v', w', hrun, r1, r2, r3⟩ := run_append_row o.type hown hu hlen hbase ad hc
  unfold Oper.wpIn
  refine ⟨?_, ?_⟩
  · simp [Oper.about, hop, resolve, Target.leads, Sem.run_pure]
  · rw [Oper.semAt_plain F _ _ (by rw [hop]; intro c hc'; cases hc')]
    simp [execOp, hop, resolve, invoke, builtin, hs, hx, hrun, Result.andThen]
    exact h v' w' r1 r2 r3
theorem cp_round {w W z z' : World} {n3 q O : Nat} {gg : Option Nat} {sv v6 u : Value} {us : List Value} (K5 : Below W.heap.size W z) (r5 : RowS (q + 2) z sv us) (g6 : z.grownBy z' sv.ownBlock) (n6 : v6.ownBlock = sv.ownBlock ∨ v6.ownBlock = some z.heap.size) (r6 : RowS (q + 2) z' v6 (us ++ [u])) (hb : Below q w W) (hg : sv.ownBlock = gg) (hs1 : n3 ≤ W.heap.size) (hqO : q + 1 < O) (hO : O < n3) :
    KeepsFrom n3 W (z'.setCell ⟨O, 1, none⟩ v6) ∧ Kept (fun k => k = O) gg W (z'.setCell ⟨O, 1, none⟩ v6) ∧ Newer W.heap.size (z'.setCell ⟨O, 1, none⟩ v6).heap.size gg v6.ownBlock ∧ n3 ≤ (z'.setCell ⟨O, 1, none⟩ v6).heap.size ∧ Below q w (z'.setCell ⟨O, 1, none⟩ v6) := by
  have h1 := K5.size
  have h2 := g6.size
  have K : Kept (fun k => k = O) gg W (z'.setCell ⟨O, 1, none⟩ v6) := ((Kept.of_below K5).trans (Kept.of_grown g6 (fun k hk => Or.inr ⟨by rw [← hg]; exact hk, cells_of_row r5 hk⟩))).trans (Kept.set (F := fun k => k = O) (p := ⟨O, 1, none⟩) rfl _)
  refine ⟨K.keeps (fun k hk => by have : k = O := hk; omega), K, ?_, by rw [World.size_setCell]; omega, ?_⟩
  · rw [World.size_setCell]
    rcases n6 with e | e
    · exact Or.inl (e.trans hg)
    · exact Or.inr ⟨_, e, h1, (World.ownsRow.lt r6 _ e).2⟩
  · exact ((hb.trans (K5.mono (by omega))).grown g6 (by omega) (fun k hk => by have := RowS.lt r5 k hk; omega)).setCell (p := ⟨O, 1, none⟩) (by show q ≤ O; omega) _
theorem OwB.putD {B D : Nat} {w : World} {hv sv : Value} {h : List Cel} {ss : List (List Cel)} {o' : Obj} (o : OwB B w hv sv h ss) (hD : w.heap[D]? = some (.deferred (some []))) : OwB B (w.putObj D o') hv sv h ss := by
  obtain ⟨us, h1, h2⟩ := o
  have key : ∀ g (o : Obj), w.heap[g]? = some o → o.isCells = true → (w.putObj D o').heap[g]? = w.heap[g]? := fun g o ho hc => World.putObj_heap_other (fun e => by rw [e, hD] at ho; cases ho; cases hc)
  refine ⟨us, row_next h1 fun g hg _ => ?_, ⟨h2.1, fun j u l k1 k2 => row_next (h2.2.1 j u l k1 k2) fun g hg _ => ?_, h2.2.2⟩⟩
  · obtain ⟨o, ho, hc⟩ := cells_own h1 hg; exact key g o ho hc
  · obtain ⟨o, ho, hc⟩ := cells_own (h2.2.1 j u l k1 k2) hg; exact key g o ho hc
set_option maxRecDepth 100000 in
set_option maxHeartbeats 1000000 in
theorem copyOfBarn_any (w : World) (a sa : Option Addr) (c sc n sn : Nat) (h : List Cel) (hs : List Hd) (ss : List (List Cel)) (hn : h.length = n) (hsn : ss.length = sn) (hv : Vw w a c h) (hvs : VwS w sa sc hs ss) (hlow : Low h ss) (hs2 : sn ≤ 1000) :
    Calls Try.prog 90 #[.agg #[.slice a n c, .slice sa sn sc]] w (CpPost h ss w) := by
  have HVS := Lib.hid hvs; clear hvs
  have HSN := Lib.hid hsn; clear hsn
  have HLOW := Lib.hid hlow; clear hlow
  have hn1 : n ≤ 1048576 := by rw [← hn]; exact HLOW.out.1
  have H0 := Lib.hid (bel2 w (.cells #[.slice a n c, .slice sa sn sc] 45) (.cells #[.slice none 0 0, .slice none 0 0] 45))
  have F0 := Lib.hid (Bb.two (.slice a n c) (.slice sa sn sc) (.slice none 0 0) (.slice none 0 0) w 45 45)
  have hz0 : ((w.alloc (.cells #[.slice a n c, .slice sa sn sc] 45)).alloc (.cells #[.slice none 0 0, .slice none 0 0] 45)).heap.size = w.heap.size + 2 := by simp
  have HC := Lib.hid (copyOf_any _ a c h n hn (hv.below H0.out) (by omega)); clear hv hn
  refine (callsIn_wide (n := 9)).1 (callsIn_of_wp_marks Try.func90 rfl trivial ?_ rfl)
  simp only [Try.ntmps90, List.size_toArray, List.length_cons, List.length_nil, Nat.reduceAdd, Nat.reduceSub, Array.replicate_succ, Array.replicate_zero, List.push_toArray, List.append_toArray, List.nil_append, List.cons_append]
  gi_wp2_with fail
  refine ⟨trivial, (callsIn_wide.2 HC.out).mono ?_⟩; rintro e w1 ⟨v, rfl, o1, b1⟩
  have z1 : w.heap.size + 2 ≤ w1.heap.size := by have := b1.size; omega
  have ST := Lib.hid (cp_start rfl (F0.out.1.next b1) (F0.out.2.next b1) (OwC.mono o1 (by omega)))
  have B1 := Lib.hid (bel_tr (bel_tr H0.out b1 (Nat.le_refl _)) (bel1 w1 (.cells #[v, .slice none 0 0] 45)) (Nat.le_refl _))
  obtain ⟨va, vc, rfl, -, -⟩ := o1.view
  clear o1 b1 HC F0 H0
  generalize h.length = hn at *
  obtain ⟨⟨x0, x1, -, -, -⟩, -⟩ := id ST.out
  have hz1 : (w1.alloc (.cells #[.slice va hn vc, .slice none 0 0] 45)).heap.size = w1.heap.size + 1 := by simp
  gi_wp2_with fail
  generalize w1.alloc (.cells #[.slice va hn vc, .slice none 0 0] 45) = w2 at *
  refine ⟨trivial, (callsIn_wide.2 (shelvesOf_any (fun k => k = w1.heap.size) w.heap.size (.slice a n c) ⟨_, _, _, rfl⟩ sa sn sc hs (HVS.out.1.1.trans HSN.out) (by omega) w2 (HVS.out.2.2.2.2.below B1.out) B1.out.size (fun g o e hne h => by
      obtain ⟨x, r, hr⟩ := List.exists_cons_of_ne_nil hne
      obtain ⟨g2, o2, e3, hg2, -⟩ := HVS.out.2.2.2.2 0 x (by rw [hr]; rfl)
      rw [e] at e3
      cases e3
      omega))).mono ?_⟩
  rintro e w3 ⟨gf, lb, rfl, hen, hha, b3⟩
  have F3 := Lib.hid (ST.out.next b3)
  have B3 := Lib.hid (bel_tr B1.out b3 (Nat.le_refl _))
  have z3 : w1.heap.size + 1 ≤ w3.heap.size := by have := b3.size; omega
  clear b3 x0 x1 ST B1
  gi_wp2_with fail
  refine loop_hands1 11 4 rfl hen hha (Below.refl _ _) (fun k hk => by have : k = w1.heap.size := hk; omega)
    (fun s W => w3.heap.size ≤ W.heap.size ∧ Below w.heap.size w W ∧ ∃ sv us, CpF w.heap.size w1.heap.size (.slice a n c) (.slice sa sn sc) (.slice va hn vc) sv us (h :: ss.take s.1.length) W ∧ sv.ownBlock = s.2)
    (fun _ _ _ => False) ?_ ?_ ?_ ?_ ?_ ?_ ?_
  · rintro s W W' row ⟨h1, h2, sv, us, h3, h4⟩ hg hr
    refine ⟨Nat.le_trans h1 hg.size, h2.grown hg h2.size (fun k e => by have := (hr k e).1; omega), sv, us, h3.same (fun k o ho hc => hg.block k (Array.getElem?_eq_some_iff.1 ho).1 (fun e => ?_)), h4⟩
    obtain ⟨-, o2, ho2, hc2⟩ := hr k e.symm
    rw [ho] at ho2; cases ho2; rw [hc] at hc2; cases hc2
  · exact fun k => fun _ _ _ _ h _ _ => h
  · exact ⟨Nat.le_refl _, B3.out, _, _, by rw [show (([], none) : List Value × Option Nat).1.length = 0 from rfl, List.take_zero]; exact F3.out, rfl⟩
  · intro l m x W K hK
    simp only [List.setIfInBounds_toArray, List.set_cons_zero, List.set_cons_succ] at hK ⊢
    gi_wp2
    exact hK
  · rintro l m pre x gg W hpre hsz ⟨hs1, hbel, sv, us, hcf, hg⟩
    replace hg : sv.ownBlock = gg := hg
    replace hcf : CpF w.heap.size w1.heap.size (.slice a n c) (.slice sa sn sc) (.slice va hn vc) sv us (h :: ss.take pre.length) W := hcf
    simp only [List.setIfInBounds_toArray, List.set_cons_zero, List.set_cons_succ]
    have hpl : pre.length + 1 ≤ hs.length := by have := hpre.length_le; simpa using this
    obtain ⟨y, hy, rfl⟩ := pre_at hpre
    obtain ⟨t, ht⟩ : ∃ t, ss[pre.length]? = some t := ⟨ss[pre.length]'(by rw [← HVS.out.1.1]; exact (List.getElem?_eq_some_iff.1 hy).1), List.getElem?_eq_getElem _⟩
    obtain ⟨hyn, hyv⟩ := HVS.out.1.2 _ _ _ hy ht
    have hyl : y.n ≤ 1048576 := by rw [hyn]; exact HLOW.out.2.2 t (List.mem_of_getElem? ht)
    have HYV := Lib.hid (fun z (hz : Below W.heap.size W z) => hyv.below (bel_tr hbel hz (Nat.le_refl _))); clear hyv
    have HYN := Lib.hid hyn; clear hyn hy
    have HTT := Lib.hid ht; clear ht
    have HUL := Lib.hid (show us.length = pre.length by
      have := hcf.2.2.2.2.1.1
      simp at this
      have := HVS.out.1.1
      omega)
    have HI := Lib.hid hcf
    have HB := Lib.hid hbel; clear hbel
    have HG := Lib.hid hg; clear hg
    obtain ⟨sva, svc, ev, -, -, -, -⟩ := hcf.2.2.2.1.form
    rw [HUL.out] at ev
    subst ev
    have HLO := Lib.hid (show ∀ x ∈ Value.slice va hn vc :: us, ∀ i, x.ownBlock = some i → i < W.heap.size from fun x hx i hi => (HI.out.2.2.2.2.1.low x hx i hi).2)
    have hqO : w.heap.size + 1 < w1.heap.size := by omega
    have wrO : w1.heap.size < W.heap.size := hcf.2.2.1.2.2.2.2
    have hpl2 : pre.length ≤ 1000 := by have := HVS.out.1.1; have := HSN.out; omega
    have hO3 : w1.heap.size < w3.heap.size := by omega
    clear hcf
    gi_wp2_with fail
    refine wpIn_region_any (by kernel_rfl) ?_
    change wpAnyIn _ _ _ _ _ _ _ _ _ (World.drew _)
    refine wpAnyIn_ready (rs := [0, 2]) (by kernel_rfl) (by simp) (AllReadyIn.cons rfl (fun K hK => ?_) (AllReadyIn.cons rfl (fun K hK => ?_) (AllReadyIn.nil)))
    · skip
      go_simp
      refine hK _ _ ?_
      clear hK K
      refine wpAnyIn_ready (rs := [1, 2]) (by kernel_rfl) (by simp) (AllReadyIn.cons rfl (fun K hK => ?_) (AllReadyIn.cons rfl (fun K hK => ?_) (AllReadyIn.nil)))
      · skip
        obtain ⟨-, -, ⟨-, lo, -, -, -⟩, -⟩ := HI.out.drew
        go_simp
        refine hK _ _ ?_
        clear hK K lo
        refine wpAnyIn_ready (rs := [2]) (by kernel_rfl) (by simp) (AllReadyIn.cons rfl (fun K hK => ?_) (AllReadyIn.nil))
        go_simp
        refine hK _ _ ?_
        clear hK K
        refine wpAnyIn_ready (rs := [3]) (by kernel_rfl) (by simp) (AllReadyIn.cons rfl (fun K hK => ?_) (AllReadyIn.nil))
        go_simp
        refine ⟨trivial, fun h => (by cases h), (CallsIn.inRound l (callsIn_wide.2 (copyOf_any _ y.a y.c t y.n HYN.out.symm (HYV.out _ (Below.refl _ W).drew) (by omega)))).mono ?_⟩; rintro e w4 ⟨v4, rfl, o4, bel⟩
        have O4 := Lib.hid o4
        have K4 := Lib.hid (bel_tr (Below.refl _ W).drew bel (Nat.le_refl _))
        have I4 := Lib.hid (HI.out.next K4.out)
        obtain ⟨v4a, v4c, ev4, -, -⟩ := o4.view
        rw [← HYN.out] at ev4
        subst ev4
        clear o4 bel
        go_simp
        refine hK _ _ ?_
        clear hK K
        refine wpAnyIn_ready (rs := [4]) (by kernel_rfl) (by simp) (AllReadyIn.cons rfl (fun K hK => ?_) (AllReadyIn.nil))
        go_simp
        have bel := bel1 w4 (.cells #[.slice v4a y.n v4c] 24)
        have I5 := Lib.hid (I4.out.next bel)
        have O5 := Lib.hid (O4.out.next bel)
        have K5 := Lib.hid (bel_tr K4.out bel (Nat.le_refl _))
        have CL := Lib.hid (cell_lit w4 (.slice v4a y.n v4c) 24)
        refine hK _ _ ?_
        clear hK K bel
        refine wpAnyIn_ready (rs := [5]) (by kernel_rfl) (by simp) (AllReadyIn.cons rfl (fun K hK => ?_) (AllReadyIn.nil))
        refine stepIn_append_row rfl rfl (.tmp 13) (.tmp 16) rfl (base := w.heap.size + 2) (us := us) (u := .slice v4a y.n v4c) rfl rfl I5.out.2.2.2.1 ⟨_, _, _, rfl⟩ (by have := HUL.out; omega) (by have := K5.out.size; omega) CL.out ?_
        intro v6 w6 r6 g6 n6
        have N6 := Lib.hid (And.intro r6 (And.intro g6 n6))
        obtain ⟨v6a, v6c, ev, -, -, -, -⟩ := r6.form
        rw [List.length_append, List.length_singleton, HUL.out] at ev
        subst ev
        have F6 := Lib.hid (cp_step (k := pre.length) I5.out O5.out HTT.out hqO wrO HLO.out N6.out.1 N6.out.2.1 N6.out.2.2)
        clear r6 g6 n6
        refine hK _ _ ?_
        clear hK K
        change wpAnyIn _ _ _ _ _ _ _ _ (Act.put _ (some 17) _) _
        simp only [Act.put, List.setIfInBounds_toArray, List.set_cons_zero, List.set_cons_succ]
        refine wpAnyIn_ready (rs := [6]) (by kernel_rfl) (by simp) (AllReadyIn.cons rfl (fun K hK => ?_) (AllReadyIn.nil))
        go_simp
        refine hK _ _ ?_
        clear hK K
        refine wpAnyIn_ready (rs := [7]) (by kernel_rfl) (by simp) (AllReadyIn.cons rfl (fun K hK => ?_) (AllReadyIn.nil))
        have hfz := F6.out.1
        have hcz := F6.out.2.1
        go_simp
        refine hK _ _ ?_
        clear hK K hfz hcz
        refine wpAnyIn_done (by kernel_rfl) ?_ _
        obtain ⟨e1, e2, e3, e4, e5⟩ := cp_round K5.out I5.out.2.2.2.1 N6.out.2.1 N6.out.2.2 N6.out.1 HB.out HG.out hs1 hqO hO3
        exact ⟨e1, e2, _, e3, e4, e5, _, _, (by show CpF _ _ _ _ _ _ _ (h :: ss.take (pre ++ [Value.slice y.a y.n y.c]).length) _; rw [List.length_append, List.length_singleton]; exact F6.out.2.2), rfl⟩
      · skip
        go_simp
        refine hK _ _ ?_
        clear hK K
        refine wpAnyIn_ready (rs := [1, 3]) (by kernel_rfl) (by simp) (AllReadyIn.cons rfl (fun K hK => ?_) (AllReadyIn.cons rfl (fun K hK => ?_) (AllReadyIn.nil)))
        · skip
          obtain ⟨-, -, ⟨-, lo, -, -, -⟩, -⟩ := HI.out.drew
          go_simp
          refine hK _ _ ?_
          clear hK K lo
          refine wpAnyIn_ready (rs := [3]) (by kernel_rfl) (by simp) (AllReadyIn.cons rfl (fun K hK => ?_) (AllReadyIn.nil))
          go_simp
          refine ⟨trivial, fun h => (by cases h), (CallsIn.inRound l (callsIn_wide.2 (copyOf_any _ y.a y.c t y.n HYN.out.symm (HYV.out _ (Below.refl _ W).drew) (by omega)))).mono ?_⟩; rintro e w4 ⟨v4, rfl, o4, bel⟩
          have O4 := Lib.hid o4
          have K4 := Lib.hid (bel_tr (Below.refl _ W).drew bel (Nat.le_refl _))
          have I4 := Lib.hid (HI.out.next K4.out)
          obtain ⟨v4a, v4c, ev4, -, -⟩ := o4.view
          rw [← HYN.out] at ev4
          subst ev4
          clear o4 bel
          go_simp
          refine hK _ _ ?_
          clear hK K
          refine wpAnyIn_ready (rs := [4]) (by kernel_rfl) (by simp) (AllReadyIn.cons rfl (fun K hK => ?_) (AllReadyIn.nil))
          go_simp
          have bel := bel1 w4 (.cells #[.slice v4a y.n v4c] 24)
          have I5 := Lib.hid (I4.out.next bel)
          have O5 := Lib.hid (O4.out.next bel)
          have K5 := Lib.hid (bel_tr K4.out bel (Nat.le_refl _))
          have CL := Lib.hid (cell_lit w4 (.slice v4a y.n v4c) 24)
          refine hK _ _ ?_
          clear hK K bel
          refine wpAnyIn_ready (rs := [5]) (by kernel_rfl) (by simp) (AllReadyIn.cons rfl (fun K hK => ?_) (AllReadyIn.nil))
          refine stepIn_append_row rfl rfl (.tmp 13) (.tmp 16) rfl (base := w.heap.size + 2) (us := us) (u := .slice v4a y.n v4c) rfl rfl I5.out.2.2.2.1 ⟨_, _, _, rfl⟩ (by have := HUL.out; omega) (by have := K5.out.size; omega) CL.out ?_
          intro v6 w6 r6 g6 n6
          have N6 := Lib.hid (And.intro r6 (And.intro g6 n6))
          obtain ⟨v6a, v6c, ev, -, -, -, -⟩ := r6.form
          rw [List.length_append, List.length_singleton, HUL.out] at ev
          subst ev
          have F6 := Lib.hid (cp_step (k := pre.length) I5.out O5.out HTT.out hqO wrO HLO.out N6.out.1 N6.out.2.1 N6.out.2.2)
          clear r6 g6 n6
          refine hK _ _ ?_
          clear hK K
          change wpAnyIn _ _ _ _ _ _ _ _ (Act.put _ (some 17) _) _
          simp only [Act.put, List.setIfInBounds_toArray, List.set_cons_zero, List.set_cons_succ]
          refine wpAnyIn_ready (rs := [6]) (by kernel_rfl) (by simp) (AllReadyIn.cons rfl (fun K hK => ?_) (AllReadyIn.nil))
          go_simp
          refine hK _ _ ?_
          clear hK K
          refine wpAnyIn_ready (rs := [7]) (by kernel_rfl) (by simp) (AllReadyIn.cons rfl (fun K hK => ?_) (AllReadyIn.nil))
          have hfz := F6.out.1
          have hcz := F6.out.2.1
          go_simp
          refine hK _ _ ?_
          clear hK K hfz hcz
          refine wpAnyIn_done (by kernel_rfl) ?_ _
          obtain ⟨e1, e2, e3, e4, e5⟩ := cp_round K5.out I5.out.2.2.2.1 N6.out.2.1 N6.out.2.2 N6.out.1 HB.out HG.out hs1 hqO hO3
          exact ⟨e1, e2, _, e3, e4, e5, _, _, (by show CpF _ _ _ _ _ _ _ (h :: ss.take (pre ++ [Value.slice y.a y.n y.c]).length) _; rw [List.length_append, List.length_singleton]; exact F6.out.2.2), rfl⟩
        · skip
          go_simp
          refine ⟨trivial, fun h => (by cases h), (CallsIn.inRound l (callsIn_wide.2 (copyOf_any _ y.a y.c t y.n HYN.out.symm (HYV.out _ (Below.refl _ W).drew) (by omega)))).mono ?_⟩; rintro e w4 ⟨v4, rfl, o4, bel⟩
          have O4 := Lib.hid o4
          have K4 := Lib.hid (bel_tr (Below.refl _ W).drew bel (Nat.le_refl _))
          have I4 := Lib.hid (HI.out.next K4.out)
          obtain ⟨v4a, v4c, ev4, -, -⟩ := o4.view
          rw [← HYN.out] at ev4
          subst ev4
          clear o4 bel
          go_simp
          refine hK _ _ ?_
          clear hK K
          refine wpAnyIn_ready (rs := [1, 4]) (by kernel_rfl) (by simp) (AllReadyIn.cons rfl (fun K hK => ?_) (AllReadyIn.cons rfl (fun K hK => ?_) (AllReadyIn.nil)))
          · skip
            obtain ⟨-, -, ⟨-, lo, -, -, -⟩, -⟩ := I4.out
            go_simp
            refine hK _ _ ?_
            clear hK K lo
            refine wpAnyIn_ready (rs := [4]) (by kernel_rfl) (by simp) (AllReadyIn.cons rfl (fun K hK => ?_) (AllReadyIn.nil))
            go_simp
            have bel := bel1 w4 (.cells #[.slice v4a y.n v4c] 24)
            have I5 := Lib.hid (I4.out.next bel)
            have O5 := Lib.hid (O4.out.next bel)
            have K5 := Lib.hid (bel_tr K4.out bel (Nat.le_refl _))
            have CL := Lib.hid (cell_lit w4 (.slice v4a y.n v4c) 24)
            refine hK _ _ ?_
            clear hK K bel
            refine wpAnyIn_ready (rs := [5]) (by kernel_rfl) (by simp) (AllReadyIn.cons rfl (fun K hK => ?_) (AllReadyIn.nil))
            refine stepIn_append_row rfl rfl (.tmp 13) (.tmp 16) rfl (base := w.heap.size + 2) (us := us) (u := .slice v4a y.n v4c) rfl rfl I5.out.2.2.2.1 ⟨_, _, _, rfl⟩ (by have := HUL.out; omega) (by have := K5.out.size; omega) CL.out ?_
            intro v6 w6 r6 g6 n6
            have N6 := Lib.hid (And.intro r6 (And.intro g6 n6))
            obtain ⟨v6a, v6c, ev, -, -, -, -⟩ := r6.form
            rw [List.length_append, List.length_singleton, HUL.out] at ev
            subst ev
            have F6 := Lib.hid (cp_step (k := pre.length) I5.out O5.out HTT.out hqO wrO HLO.out N6.out.1 N6.out.2.1 N6.out.2.2)
            clear r6 g6 n6
            refine hK _ _ ?_
            clear hK K
            change wpAnyIn _ _ _ _ _ _ _ _ (Act.put _ (some 17) _) _
            simp only [Act.put, List.setIfInBounds_toArray, List.set_cons_zero, List.set_cons_succ]
            refine wpAnyIn_ready (rs := [6]) (by kernel_rfl) (by simp) (AllReadyIn.cons rfl (fun K hK => ?_) (AllReadyIn.nil))
            go_simp
            refine hK _ _ ?_
            clear hK K
            refine wpAnyIn_ready (rs := [7]) (by kernel_rfl) (by simp) (AllReadyIn.cons rfl (fun K hK => ?_) (AllReadyIn.nil))
            have hfz := F6.out.1
            have hcz := F6.out.2.1
            go_simp
            refine hK _ _ ?_
            clear hK K hfz hcz
            refine wpAnyIn_done (by kernel_rfl) ?_ _
            obtain ⟨e1, e2, e3, e4, e5⟩ := cp_round K5.out I5.out.2.2.2.1 N6.out.2.1 N6.out.2.2 N6.out.1 HB.out HG.out hs1 hqO hO3
            exact ⟨e1, e2, _, e3, e4, e5, _, _, (by show CpF _ _ _ _ _ _ _ (h :: ss.take (pre ++ [Value.slice y.a y.n y.c]).length) _; rw [List.length_append, List.length_singleton]; exact F6.out.2.2), rfl⟩
          · skip
            go_simp
            have bel := bel1 w4 (.cells #[.slice v4a y.n v4c] 24)
            have I5 := Lib.hid (I4.out.next bel)
            have O5 := Lib.hid (O4.out.next bel)
            have K5 := Lib.hid (bel_tr K4.out bel (Nat.le_refl _))
            have CL := Lib.hid (cell_lit w4 (.slice v4a y.n v4c) 24)
            refine hK _ _ ?_
            clear hK K bel
            refine wpAnyIn_ready (rs := [1]) (by kernel_rfl) (by simp) (AllReadyIn.cons rfl (fun K hK => ?_) (AllReadyIn.nil))
            obtain ⟨-, -, ⟨-, lo, -, -, -⟩, -⟩ := I5.out
            go_simp
            refine hK _ _ ?_
            clear hK K lo
            refine wpAnyIn_ready (rs := [5]) (by kernel_rfl) (by simp) (AllReadyIn.cons rfl (fun K hK => ?_) (AllReadyIn.nil))
            refine stepIn_append_row rfl rfl (.tmp 13) (.tmp 16) rfl (base := w.heap.size + 2) (us := us) (u := .slice v4a y.n v4c) rfl rfl I5.out.2.2.2.1 ⟨_, _, _, rfl⟩ (by have := HUL.out; omega) (by have := K5.out.size; omega) CL.out ?_
            intro v6 w6 r6 g6 n6
            have N6 := Lib.hid (And.intro r6 (And.intro g6 n6))
            obtain ⟨v6a, v6c, ev, -, -, -, -⟩ := r6.form
            rw [List.length_append, List.length_singleton, HUL.out] at ev
            subst ev
            have F6 := Lib.hid (cp_step (k := pre.length) I5.out O5.out HTT.out hqO wrO HLO.out N6.out.1 N6.out.2.1 N6.out.2.2)
            clear r6 g6 n6
            refine hK _ _ ?_
            clear hK K
            change wpAnyIn _ _ _ _ _ _ _ _ (Act.put _ (some 17) _) _
            simp only [Act.put, List.setIfInBounds_toArray, List.set_cons_zero, List.set_cons_succ]
            refine wpAnyIn_ready (rs := [6]) (by kernel_rfl) (by simp) (AllReadyIn.cons rfl (fun K hK => ?_) (AllReadyIn.nil))
            go_simp
            refine hK _ _ ?_
            clear hK K
            refine wpAnyIn_ready (rs := [7]) (by kernel_rfl) (by simp) (AllReadyIn.cons rfl (fun K hK => ?_) (AllReadyIn.nil))
            have hfz := F6.out.1
            have hcz := F6.out.2.1
            go_simp
            refine hK _ _ ?_
            clear hK K hfz hcz
            refine wpAnyIn_done (by kernel_rfl) ?_ _
            obtain ⟨e1, e2, e3, e4, e5⟩ := cp_round K5.out I5.out.2.2.2.1 N6.out.2.1 N6.out.2.2 N6.out.1 HB.out HG.out hs1 hqO hO3
            exact ⟨e1, e2, _, e3, e4, e5, _, _, (by show CpF _ _ _ _ _ _ _ (h :: ss.take (pre ++ [Value.slice y.a y.n y.c]).length) _; rw [List.length_append, List.length_singleton]; exact F6.out.2.2), rfl⟩
    · skip
      go_simp
      refine hK _ _ ?_
      clear hK K
      refine wpAnyIn_ready (rs := [0, 3]) (by kernel_rfl) (by simp) (AllReadyIn.cons rfl (fun K hK => ?_) (AllReadyIn.cons rfl (fun K hK => ?_) (AllReadyIn.nil)))
      · skip
        go_simp
        refine hK _ _ ?_
        clear hK K
        refine wpAnyIn_ready (rs := [1, 3]) (by kernel_rfl) (by simp) (AllReadyIn.cons rfl (fun K hK => ?_) (AllReadyIn.cons rfl (fun K hK => ?_) (AllReadyIn.nil)))
        · skip
          obtain ⟨-, -, ⟨-, lo, -, -, -⟩, -⟩ := HI.out.drew
          go_simp
          refine hK _ _ ?_
          clear hK K lo
          refine wpAnyIn_ready (rs := [3]) (by kernel_rfl) (by simp) (AllReadyIn.cons rfl (fun K hK => ?_) (AllReadyIn.nil))
          go_simp
          refine ⟨trivial, fun h => (by cases h), (CallsIn.inRound l (callsIn_wide.2 (copyOf_any _ y.a y.c t y.n HYN.out.symm (HYV.out _ (Below.refl _ W).drew) (by omega)))).mono ?_⟩; rintro e w4 ⟨v4, rfl, o4, bel⟩
          have O4 := Lib.hid o4
          have K4 := Lib.hid (bel_tr (Below.refl _ W).drew bel (Nat.le_refl _))
          have I4 := Lib.hid (HI.out.next K4.out)
          obtain ⟨v4a, v4c, ev4, -, -⟩ := o4.view
          rw [← HYN.out] at ev4
          subst ev4
          clear o4 bel
          go_simp
          refine hK _ _ ?_
          clear hK K
          refine wpAnyIn_ready (rs := [4]) (by kernel_rfl) (by simp) (AllReadyIn.cons rfl (fun K hK => ?_) (AllReadyIn.nil))
          go_simp
          have bel := bel1 w4 (.cells #[.slice v4a y.n v4c] 24)
          have I5 := Lib.hid (I4.out.next bel)
          have O5 := Lib.hid (O4.out.next bel)
          have K5 := Lib.hid (bel_tr K4.out bel (Nat.le_refl _))
          have CL := Lib.hid (cell_lit w4 (.slice v4a y.n v4c) 24)
          refine hK _ _ ?_
          clear hK K bel
          refine wpAnyIn_ready (rs := [5]) (by kernel_rfl) (by simp) (AllReadyIn.cons rfl (fun K hK => ?_) (AllReadyIn.nil))
          refine stepIn_append_row rfl rfl (.tmp 13) (.tmp 16) rfl (base := w.heap.size + 2) (us := us) (u := .slice v4a y.n v4c) rfl rfl I5.out.2.2.2.1 ⟨_, _, _, rfl⟩ (by have := HUL.out; omega) (by have := K5.out.size; omega) CL.out ?_
          intro v6 w6 r6 g6 n6
          have N6 := Lib.hid (And.intro r6 (And.intro g6 n6))
          obtain ⟨v6a, v6c, ev, -, -, -, -⟩ := r6.form
          rw [List.length_append, List.length_singleton, HUL.out] at ev
          subst ev
          have F6 := Lib.hid (cp_step (k := pre.length) I5.out O5.out HTT.out hqO wrO HLO.out N6.out.1 N6.out.2.1 N6.out.2.2)
          clear r6 g6 n6
          refine hK _ _ ?_
          clear hK K
          change wpAnyIn _ _ _ _ _ _ _ _ (Act.put _ (some 17) _) _
          simp only [Act.put, List.setIfInBounds_toArray, List.set_cons_zero, List.set_cons_succ]
          refine wpAnyIn_ready (rs := [6]) (by kernel_rfl) (by simp) (AllReadyIn.cons rfl (fun K hK => ?_) (AllReadyIn.nil))
          go_simp
          refine hK _ _ ?_
          clear hK K
          refine wpAnyIn_ready (rs := [7]) (by kernel_rfl) (by simp) (AllReadyIn.cons rfl (fun K hK => ?_) (AllReadyIn.nil))
          have hfz := F6.out.1
          have hcz := F6.out.2.1
          go_simp
          refine hK _ _ ?_
          clear hK K hfz hcz
          refine wpAnyIn_done (by kernel_rfl) ?_ _
          obtain ⟨e1, e2, e3, e4, e5⟩ := cp_round K5.out I5.out.2.2.2.1 N6.out.2.1 N6.out.2.2 N6.out.1 HB.out HG.out hs1 hqO hO3
          exact ⟨e1, e2, _, e3, e4, e5, _, _, (by show CpF _ _ _ _ _ _ _ (h :: ss.take (pre ++ [Value.slice y.a y.n y.c]).length) _; rw [List.length_append, List.length_singleton]; exact F6.out.2.2), rfl⟩
        · skip
          go_simp
          refine ⟨trivial, fun h => (by cases h), (CallsIn.inRound l (callsIn_wide.2 (copyOf_any _ y.a y.c t y.n HYN.out.symm (HYV.out _ (Below.refl _ W).drew) (by omega)))).mono ?_⟩; rintro e w4 ⟨v4, rfl, o4, bel⟩
          have O4 := Lib.hid o4
          have K4 := Lib.hid (bel_tr (Below.refl _ W).drew bel (Nat.le_refl _))
          have I4 := Lib.hid (HI.out.next K4.out)
          obtain ⟨v4a, v4c, ev4, -, -⟩ := o4.view
          rw [← HYN.out] at ev4
          subst ev4
          clear o4 bel
          go_simp
          refine hK _ _ ?_
          clear hK K
          refine wpAnyIn_ready (rs := [1, 4]) (by kernel_rfl) (by simp) (AllReadyIn.cons rfl (fun K hK => ?_) (AllReadyIn.cons rfl (fun K hK => ?_) (AllReadyIn.nil)))
          · skip
            obtain ⟨-, -, ⟨-, lo, -, -, -⟩, -⟩ := I4.out
            go_simp
            refine hK _ _ ?_
            clear hK K lo
            refine wpAnyIn_ready (rs := [4]) (by kernel_rfl) (by simp) (AllReadyIn.cons rfl (fun K hK => ?_) (AllReadyIn.nil))
            go_simp
            have bel := bel1 w4 (.cells #[.slice v4a y.n v4c] 24)
            have I5 := Lib.hid (I4.out.next bel)
            have O5 := Lib.hid (O4.out.next bel)
            have K5 := Lib.hid (bel_tr K4.out bel (Nat.le_refl _))
            have CL := Lib.hid (cell_lit w4 (.slice v4a y.n v4c) 24)
            refine hK _ _ ?_
            clear hK K bel
            refine wpAnyIn_ready (rs := [5]) (by kernel_rfl) (by simp) (AllReadyIn.cons rfl (fun K hK => ?_) (AllReadyIn.nil))
            refine stepIn_append_row rfl rfl (.tmp 13) (.tmp 16) rfl (base := w.heap.size + 2) (us := us) (u := .slice v4a y.n v4c) rfl rfl I5.out.2.2.2.1 ⟨_, _, _, rfl⟩ (by have := HUL.out; omega) (by have := K5.out.size; omega) CL.out ?_
            intro v6 w6 r6 g6 n6
            have N6 := Lib.hid (And.intro r6 (And.intro g6 n6))
            obtain ⟨v6a, v6c, ev, -, -, -, -⟩ := r6.form
            rw [List.length_append, List.length_singleton, HUL.out] at ev
            subst ev
            have F6 := Lib.hid (cp_step (k := pre.length) I5.out O5.out HTT.out hqO wrO HLO.out N6.out.1 N6.out.2.1 N6.out.2.2)
            clear r6 g6 n6
            refine hK _ _ ?_
            clear hK K
            change wpAnyIn _ _ _ _ _ _ _ _ (Act.put _ (some 17) _) _
            simp only [Act.put, List.setIfInBounds_toArray, List.set_cons_zero, List.set_cons_succ]
            refine wpAnyIn_ready (rs := [6]) (by kernel_rfl) (by simp) (AllReadyIn.cons rfl (fun K hK => ?_) (AllReadyIn.nil))
            go_simp
            refine hK _ _ ?_
            clear hK K
            refine wpAnyIn_ready (rs := [7]) (by kernel_rfl) (by simp) (AllReadyIn.cons rfl (fun K hK => ?_) (AllReadyIn.nil))
            have hfz := F6.out.1
            have hcz := F6.out.2.1
            go_simp
            refine hK _ _ ?_
            clear hK K hfz hcz
            refine wpAnyIn_done (by kernel_rfl) ?_ _
            obtain ⟨e1, e2, e3, e4, e5⟩ := cp_round K5.out I5.out.2.2.2.1 N6.out.2.1 N6.out.2.2 N6.out.1 HB.out HG.out hs1 hqO hO3
            exact ⟨e1, e2, _, e3, e4, e5, _, _, (by show CpF _ _ _ _ _ _ _ (h :: ss.take (pre ++ [Value.slice y.a y.n y.c]).length) _; rw [List.length_append, List.length_singleton]; exact F6.out.2.2), rfl⟩
          · skip
            go_simp
            have bel := bel1 w4 (.cells #[.slice v4a y.n v4c] 24)
            have I5 := Lib.hid (I4.out.next bel)
            have O5 := Lib.hid (O4.out.next bel)
            have K5 := Lib.hid (bel_tr K4.out bel (Nat.le_refl _))
            have CL := Lib.hid (cell_lit w4 (.slice v4a y.n v4c) 24)
            refine hK _ _ ?_
            clear hK K bel
            refine wpAnyIn_ready (rs := [1]) (by kernel_rfl) (by simp) (AllReadyIn.cons rfl (fun K hK => ?_) (AllReadyIn.nil))
            obtain ⟨-, -, ⟨-, lo, -, -, -⟩, -⟩ := I5.out
            go_simp
            refine hK _ _ ?_
            clear hK K lo
            refine wpAnyIn_ready (rs := [5]) (by kernel_rfl) (by simp) (AllReadyIn.cons rfl (fun K hK => ?_) (AllReadyIn.nil))
            refine stepIn_append_row rfl rfl (.tmp 13) (.tmp 16) rfl (base := w.heap.size + 2) (us := us) (u := .slice v4a y.n v4c) rfl rfl I5.out.2.2.2.1 ⟨_, _, _, rfl⟩ (by have := HUL.out; omega) (by have := K5.out.size; omega) CL.out ?_
            intro v6 w6 r6 g6 n6
            have N6 := Lib.hid (And.intro r6 (And.intro g6 n6))
            obtain ⟨v6a, v6c, ev, -, -, -, -⟩ := r6.form
            rw [List.length_append, List.length_singleton, HUL.out] at ev
            subst ev
            have F6 := Lib.hid (cp_step (k := pre.length) I5.out O5.out HTT.out hqO wrO HLO.out N6.out.1 N6.out.2.1 N6.out.2.2)
            clear r6 g6 n6
            refine hK _ _ ?_
            clear hK K
            change wpAnyIn _ _ _ _ _ _ _ _ (Act.put _ (some 17) _) _
            simp only [Act.put, List.setIfInBounds_toArray, List.set_cons_zero, List.set_cons_succ]
            refine wpAnyIn_ready (rs := [6]) (by kernel_rfl) (by simp) (AllReadyIn.cons rfl (fun K hK => ?_) (AllReadyIn.nil))
            go_simp
            refine hK _ _ ?_
            clear hK K
            refine wpAnyIn_ready (rs := [7]) (by kernel_rfl) (by simp) (AllReadyIn.cons rfl (fun K hK => ?_) (AllReadyIn.nil))
            have hfz := F6.out.1
            have hcz := F6.out.2.1
            go_simp
            refine hK _ _ ?_
            clear hK K hfz hcz
            refine wpAnyIn_done (by kernel_rfl) ?_ _
            obtain ⟨e1, e2, e3, e4, e5⟩ := cp_round K5.out I5.out.2.2.2.1 N6.out.2.1 N6.out.2.2 N6.out.1 HB.out HG.out hs1 hqO hO3
            exact ⟨e1, e2, _, e3, e4, e5, _, _, (by show CpF _ _ _ _ _ _ _ (h :: ss.take (pre ++ [Value.slice y.a y.n y.c]).length) _; rw [List.length_append, List.length_singleton]; exact F6.out.2.2), rfl⟩
      · skip
        go_simp
        refine ⟨trivial, fun h => (by cases h), (CallsIn.inRound l (callsIn_wide.2 (copyOf_any _ y.a y.c t y.n HYN.out.symm (HYV.out _ (Below.refl _ W).drew) (by omega)))).mono ?_⟩; rintro e w4 ⟨v4, rfl, o4, bel⟩
        have O4 := Lib.hid o4
        have K4 := Lib.hid (bel_tr (Below.refl _ W).drew bel (Nat.le_refl _))
        have I4 := Lib.hid (HI.out.next K4.out)
        obtain ⟨v4a, v4c, ev4, -, -⟩ := o4.view
        rw [← HYN.out] at ev4
        subst ev4
        clear o4 bel
        go_simp
        refine hK _ _ ?_
        clear hK K
        refine wpAnyIn_ready (rs := [0, 4]) (by kernel_rfl) (by simp) (AllReadyIn.cons rfl (fun K hK => ?_) (AllReadyIn.cons rfl (fun K hK => ?_) (AllReadyIn.nil)))
        · skip
          go_simp
          refine hK _ _ ?_
          clear hK K
          refine wpAnyIn_ready (rs := [1, 4]) (by kernel_rfl) (by simp) (AllReadyIn.cons rfl (fun K hK => ?_) (AllReadyIn.cons rfl (fun K hK => ?_) (AllReadyIn.nil)))
          · skip
            obtain ⟨-, -, ⟨-, lo, -, -, -⟩, -⟩ := I4.out
            go_simp
            refine hK _ _ ?_
            clear hK K lo
            refine wpAnyIn_ready (rs := [4]) (by kernel_rfl) (by simp) (AllReadyIn.cons rfl (fun K hK => ?_) (AllReadyIn.nil))
            go_simp
            have bel := bel1 w4 (.cells #[.slice v4a y.n v4c] 24)
            have I5 := Lib.hid (I4.out.next bel)
            have O5 := Lib.hid (O4.out.next bel)
            have K5 := Lib.hid (bel_tr K4.out bel (Nat.le_refl _))
            have CL := Lib.hid (cell_lit w4 (.slice v4a y.n v4c) 24)
            refine hK _ _ ?_
            clear hK K bel
            refine wpAnyIn_ready (rs := [5]) (by kernel_rfl) (by simp) (AllReadyIn.cons rfl (fun K hK => ?_) (AllReadyIn.nil))
            refine stepIn_append_row rfl rfl (.tmp 13) (.tmp 16) rfl (base := w.heap.size + 2) (us := us) (u := .slice v4a y.n v4c) rfl rfl I5.out.2.2.2.1 ⟨_, _, _, rfl⟩ (by have := HUL.out; omega) (by have := K5.out.size; omega) CL.out ?_
            intro v6 w6 r6 g6 n6
            have N6 := Lib.hid (And.intro r6 (And.intro g6 n6))
            obtain ⟨v6a, v6c, ev, -, -, -, -⟩ := r6.form
            rw [List.length_append, List.length_singleton, HUL.out] at ev
            subst ev
            have F6 := Lib.hid (cp_step (k := pre.length) I5.out O5.out HTT.out hqO wrO HLO.out N6.out.1 N6.out.2.1 N6.out.2.2)
            clear r6 g6 n6
            refine hK _ _ ?_
            clear hK K
            change wpAnyIn _ _ _ _ _ _ _ _ (Act.put _ (some 17) _) _
            simp only [Act.put, List.setIfInBounds_toArray, List.set_cons_zero, List.set_cons_succ]
            refine wpAnyIn_ready (rs := [6]) (by kernel_rfl) (by simp) (AllReadyIn.cons rfl (fun K hK => ?_) (AllReadyIn.nil))
            go_simp
            refine hK _ _ ?_
            clear hK K
            refine wpAnyIn_ready (rs := [7]) (by kernel_rfl) (by simp) (AllReadyIn.cons rfl (fun K hK => ?_) (AllReadyIn.nil))
            have hfz := F6.out.1
            have hcz := F6.out.2.1
            go_simp
            refine hK _ _ ?_
            clear hK K hfz hcz
            refine wpAnyIn_done (by kernel_rfl) ?_ _
            obtain ⟨e1, e2, e3, e4, e5⟩ := cp_round K5.out I5.out.2.2.2.1 N6.out.2.1 N6.out.2.2 N6.out.1 HB.out HG.out hs1 hqO hO3
            exact ⟨e1, e2, _, e3, e4, e5, _, _, (by show CpF _ _ _ _ _ _ _ (h :: ss.take (pre ++ [Value.slice y.a y.n y.c]).length) _; rw [List.length_append, List.length_singleton]; exact F6.out.2.2), rfl⟩
          · skip
            go_simp
            have bel := bel1 w4 (.cells #[.slice v4a y.n v4c] 24)
            have I5 := Lib.hid (I4.out.next bel)
            have O5 := Lib.hid (O4.out.next bel)
            have K5 := Lib.hid (bel_tr K4.out bel (Nat.le_refl _))
            have CL := Lib.hid (cell_lit w4 (.slice v4a y.n v4c) 24)
            refine hK _ _ ?_
            clear hK K bel
            refine wpAnyIn_ready (rs := [1]) (by kernel_rfl) (by simp) (AllReadyIn.cons rfl (fun K hK => ?_) (AllReadyIn.nil))
            obtain ⟨-, -, ⟨-, lo, -, -, -⟩, -⟩ := I5.out
            go_simp
            refine hK _ _ ?_
            clear hK K lo
            refine wpAnyIn_ready (rs := [5]) (by kernel_rfl) (by simp) (AllReadyIn.cons rfl (fun K hK => ?_) (AllReadyIn.nil))
            refine stepIn_append_row rfl rfl (.tmp 13) (.tmp 16) rfl (base := w.heap.size + 2) (us := us) (u := .slice v4a y.n v4c) rfl rfl I5.out.2.2.2.1 ⟨_, _, _, rfl⟩ (by have := HUL.out; omega) (by have := K5.out.size; omega) CL.out ?_
            intro v6 w6 r6 g6 n6
            have N6 := Lib.hid (And.intro r6 (And.intro g6 n6))
            obtain ⟨v6a, v6c, ev, -, -, -, -⟩ := r6.form
            rw [List.length_append, List.length_singleton, HUL.out] at ev
            subst ev
            have F6 := Lib.hid (cp_step (k := pre.length) I5.out O5.out HTT.out hqO wrO HLO.out N6.out.1 N6.out.2.1 N6.out.2.2)
            clear r6 g6 n6
            refine hK _ _ ?_
            clear hK K
            change wpAnyIn _ _ _ _ _ _ _ _ (Act.put _ (some 17) _) _
            simp only [Act.put, List.setIfInBounds_toArray, List.set_cons_zero, List.set_cons_succ]
            refine wpAnyIn_ready (rs := [6]) (by kernel_rfl) (by simp) (AllReadyIn.cons rfl (fun K hK => ?_) (AllReadyIn.nil))
            go_simp
            refine hK _ _ ?_
            clear hK K
            refine wpAnyIn_ready (rs := [7]) (by kernel_rfl) (by simp) (AllReadyIn.cons rfl (fun K hK => ?_) (AllReadyIn.nil))
            have hfz := F6.out.1
            have hcz := F6.out.2.1
            go_simp
            refine hK _ _ ?_
            clear hK K hfz hcz
            refine wpAnyIn_done (by kernel_rfl) ?_ _
            obtain ⟨e1, e2, e3, e4, e5⟩ := cp_round K5.out I5.out.2.2.2.1 N6.out.2.1 N6.out.2.2 N6.out.1 HB.out HG.out hs1 hqO hO3
            exact ⟨e1, e2, _, e3, e4, e5, _, _, (by show CpF _ _ _ _ _ _ _ (h :: ss.take (pre ++ [Value.slice y.a y.n y.c]).length) _; rw [List.length_append, List.length_singleton]; exact F6.out.2.2), rfl⟩
        · skip
          go_simp
          have bel := bel1 w4 (.cells #[.slice v4a y.n v4c] 24)
          have I5 := Lib.hid (I4.out.next bel)
          have O5 := Lib.hid (O4.out.next bel)
          have K5 := Lib.hid (bel_tr K4.out bel (Nat.le_refl _))
          have CL := Lib.hid (cell_lit w4 (.slice v4a y.n v4c) 24)
          refine hK _ _ ?_
          clear hK K bel
          refine wpAnyIn_ready (rs := [0]) (by kernel_rfl) (by simp) (AllReadyIn.cons rfl (fun K hK => ?_) (AllReadyIn.nil))
          go_simp
          refine hK _ _ ?_
          clear hK K
          refine wpAnyIn_ready (rs := [1]) (by kernel_rfl) (by simp) (AllReadyIn.cons rfl (fun K hK => ?_) (AllReadyIn.nil))
          obtain ⟨-, -, ⟨-, lo, -, -, -⟩, -⟩ := I5.out
          go_simp
          refine hK _ _ ?_
          clear hK K lo
          refine wpAnyIn_ready (rs := [5]) (by kernel_rfl) (by simp) (AllReadyIn.cons rfl (fun K hK => ?_) (AllReadyIn.nil))
          refine stepIn_append_row rfl rfl (.tmp 13) (.tmp 16) rfl (base := w.heap.size + 2) (us := us) (u := .slice v4a y.n v4c) rfl rfl I5.out.2.2.2.1 ⟨_, _, _, rfl⟩ (by have := HUL.out; omega) (by have := K5.out.size; omega) CL.out ?_
          intro v6 w6 r6 g6 n6
          have N6 := Lib.hid (And.intro r6 (And.intro g6 n6))
          obtain ⟨v6a, v6c, ev, -, -, -, -⟩ := r6.form
          rw [List.length_append, List.length_singleton, HUL.out] at ev
          subst ev
          have F6 := Lib.hid (cp_step (k := pre.length) I5.out O5.out HTT.out hqO wrO HLO.out N6.out.1 N6.out.2.1 N6.out.2.2)
          clear r6 g6 n6
          refine hK _ _ ?_
          clear hK K
          change wpAnyIn _ _ _ _ _ _ _ _ (Act.put _ (some 17) _) _
          simp only [Act.put, List.setIfInBounds_toArray, List.set_cons_zero, List.set_cons_succ]
          refine wpAnyIn_ready (rs := [6]) (by kernel_rfl) (by simp) (AllReadyIn.cons rfl (fun K hK => ?_) (AllReadyIn.nil))
          go_simp
          refine hK _ _ ?_
          clear hK K
          refine wpAnyIn_ready (rs := [7]) (by kernel_rfl) (by simp) (AllReadyIn.cons rfl (fun K hK => ?_) (AllReadyIn.nil))
          have hfz := F6.out.1
          have hcz := F6.out.2.1
          go_simp
          refine hK _ _ ?_
          clear hK K hfz hcz
          refine wpAnyIn_done (by kernel_rfl) ?_ _
          obtain ⟨e1, e2, e3, e4, e5⟩ := cp_round K5.out I5.out.2.2.2.1 N6.out.2.1 N6.out.2.2 N6.out.1 HB.out HG.out hs1 hqO hO3
          exact ⟨e1, e2, _, e3, e4, e5, _, _, (by show CpF _ _ _ _ _ _ _ (h :: ss.take (pre ++ [Value.slice y.a y.n y.c]).length) _; rw [List.length_append, List.length_singleton]; exact F6.out.2.2), rfl⟩
  · rintro D gg W hD ⟨hs1, hbel, sv, us, hcf, hg⟩ hK
    replace hcf : CpF w.heap.size w1.heap.size (.slice a n c) (.slice sa sn sc) (.slice va hn vc) sv us (h :: ss.take (hs.map Hd.val).length) W := hcf
    rw [List.take_of_length_le (by simp [HVS.out.1.1])] at hcf
    have HE := Lib.hid (cp_end rfl hcf hbel)
    obtain ⟨sva, svc, rfl, -, -, -, -⟩ := hcf.2.2.2.1.form
    generalize us.length = ul at *
    obtain ⟨-, ⟨r0, r1, r2, r3, rq⟩, ⟨y0, y1, y2, y3, yq⟩, -⟩ := hcf
    clear hbel
    gi_wp2_with fail
    have hD1 : D ≠ w.heap.size + 1 := by omega
    have hK2 : ((W.setCell ⟨w.heap.size + 1, 0, none⟩ (.slice va hn vc)).setCell ⟨w.heap.size + 1, 1, none⟩ (.slice sva ul svc)).heap[D]? = some (.deferred (some [])) := ((Below.heap_setCell _ _ _ _ hD1).trans (Below.heap_setCell _ _ _ _ hD1)).trans hK
    have x0 : ((W.setCell ⟨w.heap.size + 1, 0, none⟩ (.slice va hn vc)).setCell ⟨w.heap.size + 1, 1, none⟩ (.slice sva ul svc)).cell? ⟨w.heap.size + 1, 0, none⟩ = some (.slice va hn vc) := (World.cell?_setCell_other _ _ _ _ (by simp)).trans (World.cell?_setCell_same' _ _ _ (by rw [r0]; rfl))
    have x1 : ((W.setCell ⟨w.heap.size + 1, 0, none⟩ (.slice va hn vc)).setCell ⟨w.heap.size + 1, 1, none⟩ (.slice sva ul svc)).cell? ⟨w.heap.size + 1, 1, none⟩ = some (.slice sva ul svc) := World.cell?_setCell_same' _ _ _ (by rw [World.cell?_setCell_other _ _ _ _ (by simp), r1]; rfl)
    generalize (W.setCell ⟨w.heap.size + 1, 0, none⟩ (.slice va hn vc)).setCell ⟨w.heap.size + 1, 1, none⟩ (.slice sva ul svc) = Z at *
    clear r0 r1 r2 r3 y0 y1 y2 y3
    refine ⟨by simp, .inl ⟨_, _, rfl, run_takeDeferred hK2, ?_⟩⟩
    have k0 : (Z.putObj D (.deferred none)).cell? ⟨w.heap.size + 1, 0, none⟩ = some (.slice va hn vc) := (World.cell?_of_block (World.putObj_heap_other (fun e => hD1 e.symm))).trans x0
    have k1 : (Z.putObj D (.deferred none)).cell? ⟨w.heap.size + 1, 1, none⟩ = some (.slice sva ul svc) := (World.cell?_of_block (World.putObj_heap_other (fun e => hD1 e.symm))).trans x1
    have E2 := And.intro (HE.out.1.putD (o' := .deferred none) hK2) (HE.out.2.trans (put_below (o := .deferred none) (show w.heap.size ≤ D by omega) HE.out.2.size))
    generalize Z.putObj D (.deferred none) = Z2 at *
    exact ⟨.agg #[.slice va hn vc, .slice sva ul svc], by simp [results, Try.f90, go_sem, k0, k1], _, _, rfl, E2.1, E2.2⟩
  · rintro D k pre W hD hpre hf hK
    exact hf.elim
end Go.Proofs.Ytkkpokfekbdigaa.Cl
namespace Go.Proofs.Ytkkpokfekbdigaa.Cl
open Go.RowKit Wd Rp Kp Ra
set_option linter.unusedVariables false
/-- What l6Put makes of Hand. -/
def putQ (h : List Cel) (c : Cel) : List Cel × Bool := if c.ok then (if 200 < (putL h c).length then (h, false) else (putL h c, true)) else (h, false)
/-- What l6Put leaves: the store's block alone has turned. -/
def PqPost (O : Nat) (hv sv : Value) (h : List Cel) (c : Cel) (w : World) (e : Ending) (w' : World) : Prop :=
  e = .returned (.bool (putQ h c).2) ∧ Kept (fun k => k = O) none w w' ∧ ∃ v', Bb O v' sv w' ∧ ((v' = hv ∧ (putQ h c).1 = h) ∨ OwC w.heap.size w' v' (putQ h c).1)
set_option maxRecDepth 100000 in
set_option maxHeartbeats 2000000 in
theorem l6Put_any (w : World) (O : Nat) (ha : Option Addr) (hn hc : Nat) (sv : Value) (h : List Cel) (c : Cel) (hb : Bb O (.slice ha hn hc) sv w) (hhn : h.length = hn) (hv : Vw w ha hc h) (hl : hn ≤ 200) (hm : c.mod) :
    Calls Try.prog 89 #[.pointer (some ⟨O, 0, none⟩), .agg #[.string c.r, .string c.b, .int .i64 c.t, .int .i64 c.v, .bool c.g]] w (PqPost O (.slice ha hn hc) sv h c w) := by
  have HV := Lib.hid hv; clear hv
  have HBB := Lib.hid hb; clear hb
  have H0 := Lib.hid (bel1 w (.cells #[.string c.r, .string c.b, .int .i64 c.t, .int .i64 c.v, .bool c.g] 28))
  have F0 := Lib.hid (Cb.made c w 28)
  have HCK := Lib.hid (specCell_any c.r c.b c.t c.v c.g (w.alloc (.cells #[.string c.r, .string c.b, .int .i64 c.t, .int .i64 c.v, .bool c.g] 28)) hm.1 hm.2)
  cases hok : c.ok
  · have HQ := Lib.hid (show putQ h c = (h, false) by unfold putQ; rw [hok]; rfl)
    have HC2 := Lib.hid (show Calls Try.prog 26 #[.agg #[.string c.r, .string c.b, .int .i64 c.t, .int .i64 c.v, .bool c.g]] (w.alloc (.cells #[.string c.r, .string c.b, .int .i64 c.t, .int .i64 c.v, .bool c.g] 28)) fun e w' => e = .returned (.bool false) ∧ Below _ _ w' from HCK.out.mono fun e w' ⟨he, hb⟩ => ⟨by rw [he, show cellB c.r c.b c.t c.v c.g = false from hok], hb⟩); clear HCK hok
    go_enter Try.func89, Try.ntmps89
    go_wp2_with fail
    refine HC2.out.mono ?_; rintro e w1 ⟨rfl, b1⟩
    have B1 := Lib.hid (bel_tr H0.out b1 (Nat.le_refl _)); clear b1
    go_wp2_with fail
    go_ret
    exact ⟨by rw [HQ.out]; rfl, Kept.of_below B1.out, _, HBB.out.next B1.out, Or.inl ⟨rfl, by rw [HQ.out]⟩⟩
  · have HC2 := Lib.hid (show Calls Try.prog 26 #[.agg #[.string c.r, .string c.b, .int .i64 c.t, .int .i64 c.v, .bool c.g]] (w.alloc (.cells #[.string c.r, .string c.b, .int .i64 c.t, .int .i64 c.v, .bool c.g] 28)) fun e w' => e = .returned (.bool true) ∧ Below _ _ w' from HCK.out.mono fun e w' ⟨he, hb⟩ => ⟨by rw [he, show cellB c.r c.b c.t c.v c.g = true from hok], hb⟩); clear HCK
    have hp2 : 200 < (putL h c).length ∨ ¬ 200 < (putL h c).length := Nat.lt_or_ge _ _ |>.imp id (fun h => Nat.not_lt.2 h)
    have HQ := Lib.hid (show putQ h c = if 200 < (putL h c).length then (h, false) else (putL h c, true) by unfold putQ; rw [hok]; rfl)
    clear hok
    go_enter Try.func89, Try.ntmps89
    go_wp2_with fail
    refine HC2.out.mono ?_; rintro e w1 ⟨rfl, b1⟩
    have B1 := Lib.hid (bel_tr H0.out b1 (Nat.le_refl _))
    have BB1 := Lib.hid (HBB.out.next B1.out)
    have CB1 := Lib.hid (F0.out.next b1); clear b1
    obtain ⟨h0, -, -, -, hO'⟩ := id BB1.out
    obtain ⟨⟨c0, c1, c2, c3, c4⟩, -, hq'⟩ := id CB1.out
    generalize hqq : w.heap.size = q at *
    have HQQ := Lib.hid hqq; clear hqq
    have HP := Lib.hid (fun z (hz : Below w1.heap.size w1 z) => l4Put_any' z ha hc h c hn hhn (HV.out.below (show Below w.heap.size w z by rw [HQQ.out]; exact bel_tr B1.out hz (Nat.le_of_eq HQQ.out.symm))) (by omega))
    have SOF := Lib.hid (show ∀ z, Below w1.heap.size w1 z → (z.cell? ⟨O, 0, none⟩ = some (.slice ha hn hc) ∧ z.cell? ⟨q, 0, none⟩ = some (.string c.r) ∧ z.cell? ⟨q, 1, none⟩ = some (.string c.b) ∧ z.cell? ⟨q, 2, none⟩ = some (.int .i64 c.t) ∧ z.cell? ⟨q, 3, none⟩ = some (.int .i64 c.v) ∧ z.cell? ⟨q, 4, none⟩ = some (.bool c.g) ∧ Below w1.heap.size w1 z) from fun z hz => ⟨coc hz hO' h0, coc hz hq' c0, coc hz hq' c1, coc hz hq' c2, coc hz hq' c3, coc hz hq' c4,  hz⟩)
    clear h0 c0 c1 c2 c3 c4
    go_wp2_with fail
    · skip
      refine wp_region_held_drew (S := fun z => z.cell? ⟨O, 0, none⟩ = some (.slice ha hn hc) ∧ z.cell? ⟨q, 0, none⟩ = some (.string c.r) ∧ z.cell? ⟨q, 1, none⟩ = some (.string c.b) ∧ z.cell? ⟨q, 2, none⟩ = some (.int .i64 c.t) ∧ z.cell? ⟨q, 3, none⟩ = some (.int .i64 c.v) ∧ z.cell? ⟨q, 4, none⟩ = some (.bool c.g) ∧ Below w1.heap.size w1 z) (by kernel_rfl) (SOF.out _ (Below.refl _ _).drew) (fun hHeld => ?_)
      refine wpAnyH_take (i := 0) (v := ?v0p) rfl (by kernel_rfl) (by kernel_rfl) (by kernel_rfl) (fun _ _ _ h => h) (Or.inl ⟨by rfl, ?hy0p⟩) (by assumption) ?rest0p
      case hy0p => (intro zz hSw; (try dsimp only at hSw); go_simp; (try with_reducible rfl))
      change wpAnyH _ _ _ _ _ _ _ (Act.put _ (some 9) _) _
      simp only [Act.put, List.setIfInBounds_toArray, List.set_cons_zero, List.set_cons_succ]
      refine wpAnyH_take (i := 1) (v := ?v1p) rfl (by kernel_rfl) (by kernel_rfl) (by kernel_rfl) (fun _ _ _ h => h) (Or.inl ⟨by rfl, ?hy1p⟩) (by assumption) ?rest1p
      case hy1p => (intro zz hSw; (try dsimp only at hSw); go_simp; (try with_reducible rfl))
      change wpAnyH _ _ _ _ _ _ _ (Act.put _ (some 10) _) _
      simp only [Act.put, List.setIfInBounds_toArray, List.set_cons_zero, List.set_cons_succ]
      refine wpAnyH_take (i := 2) (v := ?v2p) rfl (by kernel_rfl) (by kernel_rfl) (by kernel_rfl) (fun _ _ _ h => h) (Or.inl ⟨by rfl, ?hy2p⟩) (by assumption) ?rest2p
      case hy2p => (intro zz hSw; (try dsimp only at hSw); go_simp; (try with_reducible rfl))
      change wpAnyH _ _ _ _ _ _ _ (Act.put _ (some 11) _) _
      simp only [Act.put, List.setIfInBounds_toArray, List.set_cons_zero, List.set_cons_succ]
      refine wpAnyH_take (i := 3) (v := ?v3p) rfl (by kernel_rfl) (by kernel_rfl) (by kernel_rfl) (fun _ _ _ h => h) (Or.inl ⟨by rfl, ?hy3p⟩) (by assumption) ?rest3p
      case hy3p => (intro zz hSw; (try dsimp only at hSw); go_simp; (try with_reducible rfl))
      change wpAnyH _ _ _ _ _ _ _ (Act.put _ (some 12) _) _
      simp only [Act.put, List.setIfInBounds_toArray, List.set_cons_zero, List.set_cons_succ]
      refine wpAnyH_take (i := 4) (v := ?v4p) rfl (by kernel_rfl) (by kernel_rfl) (by kernel_rfl) (fun _ _ _ h => h) (Or.inl ⟨by rfl, ?hy4p⟩) (by assumption) ?rest4p
      case hy4p => (intro zz hSw; (try dsimp only at hSw); go_simp; (try with_reducible rfl))
      change wpAnyH _ _ _ _ _ _ _ (Act.put _ (some 13) _) _
      simp only [Act.put, List.setIfInBounds_toArray, List.set_cons_zero, List.set_cons_succ]
      refine wpAnyH_ready (rs := [5]) (by kernel_rfl) (by simp) (AllReadyH.cons rfl (fun K hK => ?_) AllReadyH.nil)
      go_simp
      refine (HP.out _ hHeld.2.2.2.2.2.2).mono ?_; rintro e w5 ⟨v5, rfl, o5, bel⟩; have O5 := Lib.hid o5; clear o5
      refine hK.out _ _ (SOF.out _ (bel_tr hHeld.2.2.2.2.2.2 bel (Nat.le_refl _))) (fun hHeld => ?_)
      clear hK K bel
      refine wpAnyH_take (i := 6) (v := ?v6p) rfl (by kernel_rfl) (by kernel_rfl) (by kernel_rfl) (fun _ _ _ h => h) (Or.inl ⟨by rfl, ?hy6p⟩) (by assumption) ?rest6p
      case hy6p => (intro zz hSw; (try dsimp only at hSw); go_simp; (try with_reducible rfl))
      change wpAnyH _ _ _ _ _ _ _ (Act.put _ (some 5) _) _
      simp only [Act.put, List.setIfInBounds_toArray, List.set_cons_zero, List.set_cons_succ]
      refine wpAnyH_done (by kernel_rfl) ?_ _
      have BX := Lib.hid hHeld.2.2.2.2.2.2; clear hHeld SOF
      have B5 := Lib.hid (bel_tr B1.out BX.out (Nat.le_of_eq HQQ.out.symm))
      have BB5 := Lib.hid (BB1.out.next BX.out)
      obtain ⟨va, vc, rfl, -, -⟩ := O5.out.view
      rcases hp2 with hb2 | hb2
      · have HQ2 := Lib.hid (show putQ h c = (h, false) by rw [HQ.out, if_pos hb2])
        have z1 : (200 : Int) < ((putL h c).length : Int) := by omega
        generalize (putL h c).length = pl at *
        go_wp2_with fail
        go_ret
        exact ⟨by rw [HQ2.out]; rfl, Kept.of_below (show Below w.heap.size w w5 by rw [HQQ.out]; exact B5.out), _, BB5.out, Or.inl ⟨rfl, by rw [HQ2.out]⟩⟩
      · have HQ2 := Lib.hid (show putQ h c = (putL h c, true) by rw [HQ.out, if_neg hb2])
        have z1 : ¬ (200 : Int) < ((putL h c).length : Int) := by omega
        have hOw : O < w.heap.size := HBB.out.2.2.2.2
        have OW := Lib.hid (show OwC w.heap.size w5 (.slice va (putL h c).length vc) (putL h c) from O5.out.mono B1.out.size)
        generalize (putL h c).length = pl at *
        obtain ⟨y0, y1, y2, y3, y4⟩ := id BB5.out
        go_wp2_with fail
        go_ret
        refine ⟨by rw [HQ2.out]; rfl, (Kept.of_below (show Below w.heap.size w w5 by rw [HQQ.out]; exact B5.out)).trans (Kept.set (F := fun k => k = O) (p := ⟨O, 0, none⟩) rfl _), _, BB5.out.set0 _, Or.inr ?_⟩
        rw [HQ2.out]
        exact OW.out.put (p := ⟨O, 0, none⟩) hOw _
end Go.Proofs.Ytkkpokfekbdigaa.Cl
