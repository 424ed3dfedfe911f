/-
  The contract of impl.copyOfBarn: a store of the call's own with the same cells.
-/
import Derived.Test.YtopcjiaakefmeaaWa
import Derived.Test.YtopcjiaakefmeaaCm
namespace Go.Proofs.Ytopcjiaakefmeaa.Cl
open Go.RowKit Wd Rp Kp Ra Go.Shelf
attribute [local go_sem] Oper.semAt_some
set_option linter.unusedVariables false
theorem cells_of_cell {w : World} {p : Addr} {v : Value} (h : w.cell? p = some v) : ∃ o : Obj, w.heap[p.block]? = some o ∧ o.isCells = true := by
  unfold World.cell? at h
  cases ho : w.heap[p.block]? with
  | none => simp [ho] at h
  | some o => exact ⟨o, rfl, by cases o <;> simp_all [Obj.isCells]⟩
theorem cells_own {B e k n : Nat} {w : World} {v : Value} {xs : List Value} (h : w.ownsRow B e k v n xs) {i : Nat} (hi : v.ownBlock = some i) : ∃ o : Obj, w.heap[i]? = some o ∧ o.isCells = true := by
  rcases h.2 with ⟨rfl, -⟩ | ⟨g, cap, cur, rfl, -, hg, -⟩
  · simp [Value.ownBlock] at hi
  · obtain rfl : g = i := by simpa [Value.ownBlock] using hi
    exact ⟨_, hg, rfl⟩
theorem CpF.same {q O : Nat} {bh bs hv sv : Value} {us : List Value} {ts : List (List Cel)} {z z' : World} (h : CpF q O bh bs hv sv us ts z) (hb : ∀ (k : Nat) (o : Obj), z.heap[k]? = some o → o.isCells = true → z'.heap[k]? = z.heap[k]?) : CpF q O bh bs hv sv us ts z' := by
  have bb : ∀ {i : Nat} {a b : Value}, Bb i a b z → Bb i a b z' := fun {i a b} hB => by
    obtain ⟨o, ho, hc⟩ := cells_of_cell hB.1
    have e := hb i o ho hc
    obtain ⟨h0, h1, h2, h3, h4⟩ := hB
    have hl' : i < z'.heap.size := by rw [Array.getElem?_eq_getElem h4] at e; exact (Array.getElem?_eq_some_iff.1 e).1
    exact ⟨(World.cell?_of_block (w := z) e).trans h0, (World.cell?_of_block (w := z) e).trans h1, (World.frozen?_of_block (w := z) e).trans h2, (World.frozen?_of_block (w := z) e).trans h3, hl'⟩
  obtain ⟨f1, f2, f3, f4, f5, f6⟩ := h
  refine ⟨bb f1, bb f2, bb f3, row_next f4 fun g hg _ => ?_, ⟨f5.1, fun j u l h1 h2 => row_next (f5.2.1 j u l h1 h2) fun g hg _ => ?_, f5.2.2⟩, f6⟩
  · obtain ⟨o, ho, hc⟩ := cells_own f4 hg; exact hb g o ho hc
  · obtain ⟨o, ho, hc⟩ := cells_own (f5.2.1 j u l h1 h2) hg; exact hb g o ho hc
theorem stepIn_append_row {F : Fence} {n : Nat} {ops : Array Oper} {o : Oper} {a : Act} {Q : Exit → Act → World → Prop} {K : Act → World → Prop} {w : World} (hg : o.guard = none) (hw : Region.wanted o (yielded ops a.tmps) = true) (s x : Operand)
    (hop : o.op = .call { callee := .builtin .append, args := #[s, x], argTypes := #[36, 36] })
    {base : Nat} {v u : Value} {us : List Value} {ad : Addr} (hs : a.eval s = v) (hx : a.eval x = .slice (some ad) 1 1) (hown : RowS base w v us) (hu : ∃ a n c, u = .slice a n c) (hlen : us.length ≤ 1000000) (hbase : base ≤ w.heap.size) (hc : w.cell? ad = some u)
    (h : ∀ v' w', RowS base w' v' (us ++ [u]) → w.grownBy w' v.ownBlock → (v'.ownBlock = v.ownBlock ∨ v'.ownBlock = some w.heap.size) → K (a.put o.dst v') w') {E : Prop} :
    if Region.wanted o (yielded ops a.tmps) = true then Oper.wpIn F n Try.prog o a w K Q else E := by
  rw [if_pos hw]
  obtain ⟨v', w', hrun, r1, r2, r3⟩ := run_append_row o.type hown hu hlen hbase ad hc
  unfold Oper.wpIn
  refine ⟨?_, ?_⟩
  · simp [Oper.about, hop, resolve, Target.leads, Sem.run_pure]
  · rw [Oper.semAt_plain F _ _ (by rw [hop]; intro c hc'; cases hc')]
    simp [execOp, hop, resolve, invoke, builtin, hs, hx, hrun, Result.andThen]
    exact h v' w' r1 r2 r3
theorem cp_round {w W z z' : World} {n3 q O : Nat} {gg : Option Nat} {sv v6 u : Value} {us : List Value} (K5 : Below W.heap.size W z) (r5 : RowS (q + 2) z sv us) (g6 : z.grownBy z' sv.ownBlock) (n6 : v6.ownBlock = sv.ownBlock ∨ v6.ownBlock = some z.heap.size) (r6 : RowS (q + 2) z' v6 (us ++ [u])) (hb : Below q w W) (hg : sv.ownBlock = gg) (hs1 : n3 ≤ W.heap.size) (hqO : q + 1 < O) (hO : O < n3) :
    KeepsFrom n3 W (z'.setCell ⟨O, 1, none⟩ v6) ∧ Kept (fun k => k = O) gg W (z'.setCell ⟨O, 1, none⟩ v6) ∧ Newer W.heap.size (z'.setCell ⟨O, 1, none⟩ v6).heap.size gg v6.ownBlock ∧ n3 ≤ (z'.setCell ⟨O, 1, none⟩ v6).heap.size ∧ Below q w (z'.setCell ⟨O, 1, none⟩ v6) := by
  have h1 := K5.size
  have h2 := g6.size
  have K : Kept (fun k => k = O) gg W (z'.setCell ⟨O, 1, none⟩ v6) := ((Kept.of_below K5).trans (Kept.of_grown g6 (fun k hk => Or.inr ⟨by rw [← hg]; exact hk, cells_of_row r5 hk⟩))).trans (Kept.set (F := fun k => k = O) (p := ⟨O, 1, none⟩) rfl _)
  refine ⟨K.keeps (fun k hk => by have : k = O := hk; omega), K, ?_, by rw [World.size_setCell]; omega, ?_⟩
  · rw [World.size_setCell]
    rcases n6 with e | e
    · exact Or.inl (e.trans hg)
    · exact Or.inr ⟨_, e, h1, (World.ownsRow.lt r6 _ e).2⟩
  · exact ((hb.trans (K5.mono (by omega))).grown g6 (by omega) (fun k hk => by have := RowS.lt r5 k hk; omega)).setCell (p := ⟨O, 1, none⟩) (by show q ≤ O; omega) _
theorem OwB.putD {B D : Nat} {w : World} {hv sv : Value} {h : List Cel} {ss : List (List Cel)} {o' : Obj} (o : OwB B w hv sv h ss) (hD : w.heap[D]? = some (.deferred (some []))) : OwB B (w.putObj D o') hv sv h ss := by
  obtain ⟨us, h1, h2⟩ := o
  have key : ∀ g (o : Obj), w.heap[g]? = some o → o.isCells = true → (w.putObj D o').heap[g]? = w.heap[g]? := fun g o ho hc => World.putObj_heap_other (fun e => by rw [e, hD] at ho; cases ho; cases hc)
  refine ⟨us, row_next h1 fun g hg _ => ?_, ⟨h2.1, fun j u l k1 k2 => row_next (h2.2.1 j u l k1 k2) fun g hg _ => ?_, h2.2.2⟩⟩
  · obtain ⟨o, ho, hc⟩ := cells_own h1 hg; exact key g o ho hc
  · obtain ⟨o, ho, hc⟩ := cells_own (h2.2.1 j u l k1 k2) hg; exact key g o ho hc
set_option maxRecDepth 100000 in
set_option maxHeartbeats 1000000 in
theorem copyOfBarn_any (w : World) (a sa : Option Addr) (c sc n sn : Nat) (h : List Cel) (hs : List Hd) (ss : List (List Cel)) (hn : h.length = n) (hsn : ss.length = sn) (hv : Vw w a c h) (hvs : VwS w sa sc hs ss) (hlow : Low h ss) (hs2 : sn ≤ 1000) :
    Calls Try.prog 78 #[.agg #[.slice a n c, .slice sa sn sc]] w (CpPost h ss w) := by
  have HVS := Lib.hid hvs; clear hvs
  have HSN := Lib.hid hsn; clear hsn
  have HLOW := Lib.hid hlow; clear hlow
  have hn1 : n ≤ 1048576 := by rw [← hn]; exact HLOW.out.1
  have H0 := Lib.hid (bel2 w (.cells #[.slice a n c, .slice sa sn sc] 38) (.cells #[.slice none 0 0, .slice none 0 0] 38))
  have F0 := Lib.hid (Bb.two (.slice a n c) (.slice sa sn sc) (.slice none 0 0) (.slice none 0 0) w 38 38)
  have hz0 : ((w.alloc (.cells #[.slice a n c, .slice sa sn sc] 38)).alloc (.cells #[.slice none 0 0, .slice none 0 0] 38)).heap.size = w.heap.size + 2 := by simp
  have HC := Lib.hid (copyOf_any _ a c h n hn (hv.below H0.out) (by omega)); clear hv hn
  refine (callsIn_wide (n := 9)).1 (callsIn_of_wp_marks Try.func78 rfl trivial ?_ rfl)
  simp only [Try.ntmps78, List.size_toArray, List.length_cons, List.length_nil, Nat.reduceAdd, Nat.reduceSub, Array.replicate_succ, Array.replicate_zero, List.push_toArray, List.append_toArray, List.nil_append, List.cons_append]
  gi_wp2_with fail
  refine ⟨trivial, (callsIn_wide.2 HC.out).mono ?_⟩; rintro e w1 ⟨v, rfl, o1, b1⟩
  have z1 : w.heap.size + 2 ≤ w1.heap.size := by have := b1.size; omega
  have ST := Lib.hid (cp_start rfl (F0.out.1.next b1) (F0.out.2.next b1) (OwC.mono o1 (by omega)))
  have B1 := Lib.hid (bel_tr (bel_tr H0.out b1 (Nat.le_refl _)) (bel1 w1 (.cells #[v, .slice none 0 0] 38)) (Nat.le_refl _))
  obtain ⟨va, vc, rfl, -, -⟩ := o1.view
  clear o1 b1 HC F0 H0
  generalize h.length = hn at *
  obtain ⟨⟨x0, x1, -, -, -⟩, -⟩ := id ST.out
  have hz1 : (w1.alloc (.cells #[.slice va hn vc, .slice none 0 0] 38)).heap.size = w1.heap.size + 1 := by simp
  gi_wp2_with fail
  generalize w1.alloc (.cells #[.slice va hn vc, .slice none 0 0] 38) = w2 at *
  refine ⟨trivial, (callsIn_wide.2 (shelvesOf_any (fun k => k = w1.heap.size) w.heap.size (.slice a n c) ⟨_, _, _, rfl⟩ sa sn sc hs (HVS.out.1.1.trans HSN.out) (by omega) w2 (HVS.out.2.2.2.2.below B1.out) B1.out.size (fun g o e hne h => by
      obtain ⟨x, r, hr⟩ := List.exists_cons_of_ne_nil hne
      obtain ⟨g2, o2, e3, hg2, -⟩ := HVS.out.2.2.2.2 0 x (by rw [hr]; rfl)
      rw [e] at e3
      cases e3
      omega))).mono ?_⟩
  rintro e w3 ⟨gf, lb, rfl, hen, hha, b3⟩
  have F3 := Lib.hid (ST.out.next b3)
  have B3 := Lib.hid (bel_tr B1.out b3 (Nat.le_refl _))
  have z3 : w1.heap.size + 1 ≤ w3.heap.size := by have := b3.size; omega
  clear b3 x0 x1 ST B1
  gi_wp2_with fail
  refine loop_hands1 11 4 rfl hen hha (Below.refl _ _) (fun k hk => by have : k = w1.heap.size := hk; omega)
    (fun s W => w3.heap.size ≤ W.heap.size ∧ Below w.heap.size w W ∧ ∃ sv us, CpF w.heap.size w1.heap.size (.slice a n c) (.slice sa sn sc) (.slice va hn vc) sv us (h :: ss.take s.1.length) W ∧ sv.ownBlock = s.2)
    (fun _ _ _ => False) ?_ ?_ ?_ ?_ ?_ ?_ ?_
  · rintro s W W' row ⟨h1, h2, sv, us, h3, h4⟩ hg hr
    refine ⟨Nat.le_trans h1 hg.size, h2.grown hg h2.size (fun k e => by have := (hr k e).1; omega), sv, us, h3.same (fun k o ho hc => hg.block k (Array.getElem?_eq_some_iff.1 ho).1 (fun e => ?_)), h4⟩
    obtain ⟨-, o2, ho2, hc2⟩ := hr k e.symm
    rw [ho] at ho2; cases ho2; rw [hc] at hc2; cases hc2
  · exact fun k => fun _ _ _ _ h _ _ => h
  · exact ⟨Nat.le_refl _, B3.out, _, _, by rw [show (([], none) : List Value × Option Nat).1.length = 0 from rfl, List.take_zero]; exact F3.out, rfl⟩
  · intro l m x W K hK
    simp only [List.setIfInBounds_toArray, List.set_cons_zero, List.set_cons_succ] at hK ⊢
    gi_wp2
    exact hK
  · rintro l m pre x gg W hpre hsz ⟨hs1, hbel, sv, us, hcf, hg⟩
    replace hg : sv.ownBlock = gg := hg
    replace hcf : CpF w.heap.size w1.heap.size (.slice a n c) (.slice sa sn sc) (.slice va hn vc) sv us (h :: ss.take pre.length) W := hcf
    simp only [List.setIfInBounds_toArray, List.set_cons_zero, List.set_cons_succ]
    have hpl : pre.length + 1 ≤ hs.length := by have := hpre.length_le; simpa using this
    obtain ⟨y, hy, rfl⟩ := pre_at hpre
    obtain ⟨t, ht⟩ : ∃ t, ss[pre.length]? = some t := ⟨ss[pre.length]'(by rw [← HVS.out.1.1]; exact (List.getElem?_eq_some_iff.1 hy).1), List.getElem?_eq_getElem _⟩
    obtain ⟨hyn, hyv⟩ := HVS.out.1.2 _ _ _ hy ht
    have hyl : y.n ≤ 1048576 := by rw [hyn]; exact HLOW.out.2.2 t (List.mem_of_getElem? ht)
    have HYV := Lib.hid (fun z (hz : Below W.heap.size W z) => hyv.below (bel_tr hbel hz (Nat.le_refl _))); clear hyv
    have HYN := Lib.hid hyn; clear hyn hy
    have HTT := Lib.hid ht; clear ht
    have HUL := Lib.hid (show us.length = pre.length by
      have := hcf.2.2.2.2.1.1
      simp at this
      have := HVS.out.1.1
      omega)
    have HI := Lib.hid hcf
    have HB := Lib.hid hbel; clear hbel
    have HG := Lib.hid hg; clear hg
    obtain ⟨sva, svc, ev, -, -, -, -⟩ := hcf.2.2.2.1.form
    rw [HUL.out] at ev
    subst ev
    have HLO := Lib.hid (show ∀ x ∈ Value.slice va hn vc :: us, ∀ i, x.ownBlock = some i → i < W.heap.size from fun x hx i hi => (HI.out.2.2.2.2.1.low x hx i hi).2)
    have hqO : w.heap.size + 1 < w1.heap.size := by omega
    have wrO : w1.heap.size < W.heap.size := hcf.2.2.1.2.2.2.2
    have hpl2 : pre.length ≤ 1000 := by have := HVS.out.1.1; have := HSN.out; omega
    have hO3 : w1.heap.size < w3.heap.size := by omega
    clear hcf
    gi_wp2_with fail
    refine wpIn_region_any (by kernel_rfl) ?_
    change wpAnyIn _ _ _ _ _ _ _ _ _ (World.drew _)
    refine wpAnyIn_ready (rs := [0, 2]) (by kernel_rfl) (by simp) (AllReadyIn.cons rfl (fun K hK => ?_) (AllReadyIn.cons rfl (fun K hK => ?_) (AllReadyIn.nil)))
    · skip
      go_simp
      refine hK _ _ ?_
      clear hK K
      refine wpAnyIn_ready (rs := [1, 2]) (by kernel_rfl) (by simp) (AllReadyIn.cons rfl (fun K hK => ?_) (AllReadyIn.cons rfl (fun K hK => ?_) (AllReadyIn.nil)))
      · skip
        obtain ⟨-, -, ⟨-, lo, -, -, -⟩, -⟩ := HI.out.drew
        go_simp
        refine hK _ _ ?_
        clear hK K lo
        refine wpAnyIn_ready (rs := [2]) (by kernel_rfl) (by simp) (AllReadyIn.cons rfl (fun K hK => ?_) (AllReadyIn.nil))
        go_simp
        refine hK _ _ ?_
        clear hK K
        refine wpAnyIn_ready (rs := [3]) (by kernel_rfl) (by simp) (AllReadyIn.cons rfl (fun K hK => ?_) (AllReadyIn.nil))
        go_simp
        refine ⟨trivial, fun h => (by cases h), (CallsIn.inRound l (callsIn_wide.2 (copyOf_any _ y.a y.c t y.n HYN.out.symm (HYV.out _ (Below.refl _ W).drew) (by omega)))).mono ?_⟩; rintro e w4 ⟨v4, rfl, o4, bel⟩
        have O4 := Lib.hid o4
        have K4 := Lib.hid (bel_tr (Below.refl _ W).drew bel (Nat.le_refl _))
        have I4 := Lib.hid (HI.out.next K4.out)
        obtain ⟨v4a, v4c, ev4, -, -⟩ := o4.view
        rw [← HYN.out] at ev4
        subst ev4
        clear o4 bel
        go_simp
        refine hK _ _ ?_
        clear hK K
        refine wpAnyIn_ready (rs := [4]) (by kernel_rfl) (by simp) (AllReadyIn.cons rfl (fun K hK => ?_) (AllReadyIn.nil))
        go_simp
        have bel := bel1 w4 (.cells #[.slice v4a y.n v4c] 24)
        have I5 := Lib.hid (I4.out.next bel)
        have O5 := Lib.hid (O4.out.next bel)
        have K5 := Lib.hid (bel_tr K4.out bel (Nat.le_refl _))
        have CL := Lib.hid (cell_lit w4 (.slice v4a y.n v4c) 24)
        refine hK _ _ ?_
        clear hK K bel
        refine wpAnyIn_ready (rs := [5]) (by kernel_rfl) (by simp) (AllReadyIn.cons rfl (fun K hK => ?_) (AllReadyIn.nil))
        refine stepIn_append_row rfl rfl (.tmp 13) (.tmp 16) rfl (base := w.heap.size + 2) (us := us) (u := .slice v4a y.n v4c) rfl rfl I5.out.2.2.2.1 ⟨_, _, _, rfl⟩ (by have := HUL.out; omega) (by have := K5.out.size; omega) CL.out ?_
        intro v6 w6 r6 g6 n6
        have N6 := Lib.hid (And.intro r6 (And.intro g6 n6))
        obtain ⟨v6a, v6c, ev, -, -, -, -⟩ := r6.form
        rw [List.length_append, List.length_singleton, HUL.out] at ev
        subst ev
        have F6 := Lib.hid (cp_step (k := pre.length) I5.out O5.out HTT.out hqO wrO HLO.out N6.out.1 N6.out.2.1 N6.out.2.2)
        clear r6 g6 n6
        refine hK _ _ ?_
        clear hK K
        change wpAnyIn _ _ _ _ _ _ _ _ (Act.put _ (some 17) _) _
        simp only [Act.put, List.setIfInBounds_toArray, List.set_cons_zero, List.set_cons_succ]
        refine wpAnyIn_ready (rs := [6]) (by kernel_rfl) (by simp) (AllReadyIn.cons rfl (fun K hK => ?_) (AllReadyIn.nil))
        go_simp
        refine hK _ _ ?_
        clear hK K
        refine wpAnyIn_ready (rs := [7]) (by kernel_rfl) (by simp) (AllReadyIn.cons rfl (fun K hK => ?_) (AllReadyIn.nil))
        have hfz := F6.out.1
        have hcz := F6.out.2.1
        go_simp
        refine hK _ _ ?_
        clear hK K hfz hcz
        refine wpAnyIn_done (by kernel_rfl) ?_ _
        obtain ⟨e1, e2, e3, e4, e5⟩ := cp_round K5.out I5.out.2.2.2.1 N6.out.2.1 N6.out.2.2 N6.out.1 HB.out HG.out hs1 hqO hO3
        exact ⟨e1, e2, _, e3, e4, e5, _, _, (by show CpF _ _ _ _ _ _ _ (h :: ss.take (pre ++ [Value.slice y.a y.n y.c]).length) _; rw [List.length_append, List.length_singleton]; exact F6.out.2.2), rfl⟩
      · skip
        go_simp
        refine hK _ _ ?_
        clear hK K
        refine wpAnyIn_ready (rs := [1, 3]) (by kernel_rfl) (by simp) (AllReadyIn.cons rfl (fun K hK => ?_) (AllReadyIn.cons rfl (fun K hK => ?_) (AllReadyIn.nil)))
        · skip
          obtain ⟨-, -, ⟨-, lo, -, -, -⟩, -⟩ := HI.out.drew
          go_simp
          refine hK _ _ ?_
          clear hK K lo
          refine wpAnyIn_ready (rs := [3]) (by kernel_rfl) (by simp) (AllReadyIn.cons rfl (fun K hK => ?_) (AllReadyIn.nil))
          go_simp
          refine ⟨trivial, fun h => (by cases h), (CallsIn.inRound l (callsIn_wide.2 (copyOf_any _ y.a y.c t y.n HYN.out.symm (HYV.out _ (Below.refl _ W).drew) (by omega)))).mono ?_⟩; rintro e w4 ⟨v4, rfl, o4, bel⟩
          have O4 := Lib.hid o4
          have K4 := Lib.hid (bel_tr (Below.refl _ W).drew bel (Nat.le_refl _))
          have I4 := Lib.hid (HI.out.next K4.out)
          obtain ⟨v4a, v4c, ev4, -, -⟩ := o4.view
          rw [← HYN.out] at ev4
          subst ev4
          clear o4 bel
          go_simp
          refine hK _ _ ?_
          clear hK K
          refine wpAnyIn_ready (rs := [4]) (by kernel_rfl) (by simp) (AllReadyIn.cons rfl (fun K hK => ?_) (AllReadyIn.nil))
          go_simp
          have bel := bel1 w4 (.cells #[.slice v4a y.n v4c] 24)
          have I5 := Lib.hid (I4.out.next bel)
          have O5 := Lib.hid (O4.out.next bel)
          have K5 := Lib.hid (bel_tr K4.out bel (Nat.le_refl _))
          have CL := Lib.hid (cell_lit w4 (.slice v4a y.n v4c) 24)
          refine hK _ _ ?_
          clear hK K bel
          refine wpAnyIn_ready (rs := [5]) (by kernel_rfl) (by simp) (AllReadyIn.cons rfl (fun K hK => ?_) (AllReadyIn.nil))
          refine stepIn_append_row rfl rfl (.tmp 13) (.tmp 16) rfl (base := w.heap.size + 2) (us := us) (u := .slice v4a y.n v4c) rfl rfl I5.out.2.2.2.1 ⟨_, _, _, rfl⟩ (by have := HUL.out; omega) (by have := K5.out.size; omega) CL.out ?_
          intro v6 w6 r6 g6 n6
          have N6 := Lib.hid (And.intro r6 (And.intro g6 n6))
          obtain ⟨v6a, v6c, ev, -, -, -, -⟩ := r6.form
          rw [List.length_append, List.length_singleton, HUL.out] at ev
          subst ev
          have F6 := Lib.hid (cp_step (k := pre.length) I5.out O5.out HTT.out hqO wrO HLO.out N6.out.1 N6.out.2.1 N6.out.2.2)
          clear r6 g6 n6
          refine hK _ _ ?_
          clear hK K
          change wpAnyIn _ _ _ _ _ _ _ _ (Act.put _ (some 17) _) _
          simp only [Act.put, List.setIfInBounds_toArray, List.set_cons_zero, List.set_cons_succ]
          refine wpAnyIn_ready (rs := [6]) (by kernel_rfl) (by simp) (AllReadyIn.cons rfl (fun K hK => ?_) (AllReadyIn.nil))
          go_simp
          refine hK _ _ ?_
          clear hK K
          refine wpAnyIn_ready (rs := [7]) (by kernel_rfl) (by simp) (AllReadyIn.cons rfl (fun K hK => ?_) (AllReadyIn.nil))
          have hfz := F6.out.1
          have hcz := F6.out.2.1
          go_simp
          refine hK _ _ ?_
          clear hK K hfz hcz
          refine wpAnyIn_done (by kernel_rfl) ?_ _
          obtain ⟨e1, e2, e3, e4, e5⟩ := cp_round K5.out I5.out.2.2.2.1 N6.out.2.1 N6.out.2.2 N6.out.1 HB.out HG.out hs1 hqO hO3
          exact ⟨e1, e2, _, e3, e4, e5, _, _, (by show CpF _ _ _ _ _ _ _ (h :: ss.take (pre ++ [Value.slice y.a y.n y.c]).length) _; rw [List.length_append, List.length_singleton]; exact F6.out.2.2), rfl⟩
        · skip
          go_simp
          refine ⟨trivial, fun h => (by cases h), (CallsIn.inRound l (callsIn_wide.2 (copyOf_any _ y.a y.c t y.n HYN.out.symm (HYV.out _ (Below.refl _ W).drew) (by omega)))).mono ?_⟩; rintro e w4 ⟨v4, rfl, o4, bel⟩
          have O4 := Lib.hid o4
          have K4 := Lib.hid (bel_tr (Below.refl _ W).drew bel (Nat.le_refl _))
          have I4 := Lib.hid (HI.out.next K4.out)
          obtain ⟨v4a, v4c, ev4, -, -⟩ := o4.view
          rw [← HYN.out] at ev4
          subst ev4
          clear o4 bel
          go_simp
          refine hK _ _ ?_
          clear hK K
          refine wpAnyIn_ready (rs := [1, 4]) (by kernel_rfl) (by simp) (AllReadyIn.cons rfl (fun K hK => ?_) (AllReadyIn.cons rfl (fun K hK => ?_) (AllReadyIn.nil)))
          · skip
            obtain ⟨-, -, ⟨-, lo, -, -, -⟩, -⟩ := I4.out
            go_simp
            refine hK _ _ ?_
            clear hK K lo
            refine wpAnyIn_ready (rs := [4]) (by kernel_rfl) (by simp) (AllReadyIn.cons rfl (fun K hK => ?_) (AllReadyIn.nil))
            go_simp
            have bel := bel1 w4 (.cells #[.slice v4a y.n v4c] 24)
            have I5 := Lib.hid (I4.out.next bel)
            have O5 := Lib.hid (O4.out.next bel)
            have K5 := Lib.hid (bel_tr K4.out bel (Nat.le_refl _))
            have CL := Lib.hid (cell_lit w4 (.slice v4a y.n v4c) 24)
            refine hK _ _ ?_
            clear hK K bel
            refine wpAnyIn_ready (rs := [5]) (by kernel_rfl) (by simp) (AllReadyIn.cons rfl (fun K hK => ?_) (AllReadyIn.nil))
            refine stepIn_append_row rfl rfl (.tmp 13) (.tmp 16) rfl (base := w.heap.size + 2) (us := us) (u := .slice v4a y.n v4c) rfl rfl I5.out.2.2.2.1 ⟨_, _, _, rfl⟩ (by have := HUL.out; omega) (by have := K5.out.size; omega) CL.out ?_
            intro v6 w6 r6 g6 n6
            have N6 := Lib.hid (And.intro r6 (And.intro g6 n6))
            obtain ⟨v6a, v6c, ev, -, -, -, -⟩ := r6.form
            rw [List.length_append, List.length_singleton, HUL.out] at ev
            subst ev
            have F6 := Lib.hid (cp_step (k := pre.length) I5.out O5.out HTT.out hqO wrO HLO.out N6.out.1 N6.out.2.1 N6.out.2.2)
            clear r6 g6 n6
            refine hK _ _ ?_
            clear hK K
            change wpAnyIn _ _ _ _ _ _ _ _ (Act.put _ (some 17) _) _
            simp only [Act.put, List.setIfInBounds_toArray, List.set_cons_zero, List.set_cons_succ]
            refine wpAnyIn_ready (rs := [6]) (by kernel_rfl) (by simp) (AllReadyIn.cons rfl (fun K hK => ?_) (AllReadyIn.nil))
            go_simp
            refine hK _ _ ?_
            clear hK K
            refine wpAnyIn_ready (rs := [7]) (by kernel_rfl) (by simp) (AllReadyIn.cons rfl (fun K hK => ?_) (AllReadyIn.nil))
            have hfz := F6.out.1
            have hcz := F6.out.2.1
            go_simp
            refine hK _ _ ?_
            clear hK K hfz hcz
            refine wpAnyIn_done (by kernel_rfl) ?_ _
            obtain ⟨e1, e2, e3, e4, e5⟩ := cp_round K5.out I5.out.2.2.2.1 N6.out.2.1 N6.out.2.2 N6.out.1 HB.out HG.out hs1 hqO hO3
            exact ⟨e1, e2, _, e3, e4, e5, _, _, (by show CpF _ _ _ _ _ _ _ (h :: ss.take (pre ++ [Value.slice y.a y.n y.c]).length) _; rw [List.length_append, List.length_singleton]; exact F6.out.2.2), rfl⟩
          · skip
            go_simp
            have bel := bel1 w4 (.cells #[.slice v4a y.n v4c] 24)
            have I5 := Lib.hid (I4.out.next bel)
            have O5 := Lib.hid (O4.out.next bel)
            have K5 := Lib.hid (bel_tr K4.out bel (Nat.le_refl _))
            have CL := Lib.hid (cell_lit w4 (.slice v4a y.n v4c) 24)
            refine hK _ _ ?_
            clear hK K bel
            refine wpAnyIn_ready (rs := [1]) (by kernel_rfl) (by simp) (AllReadyIn.cons rfl (fun K hK => ?_) (AllReadyIn.nil))
            obtain ⟨-, -, ⟨-, lo, -, -, -⟩, -⟩ := I5.out
            go_simp
            refine hK _ _ ?_
            clear hK K lo
            refine wpAnyIn_ready (rs := [5]) (by kernel_rfl) (by simp) (AllReadyIn.cons rfl (fun K hK => ?_) (AllReadyIn.nil))
            refine stepIn_append_row rfl rfl (.tmp 13) (.tmp 16) rfl (base := w.heap.size + 2) (us := us) (u := .slice v4a y.n v4c) rfl rfl I5.out.2.2.2.1 ⟨_, _, _, rfl⟩ (by have := HUL.out; omega) (by have := K5.out.size; omega) CL.out ?_
            intro v6 w6 r6 g6 n6
            have N6 := Lib.hid (And.intro r6 (And.intro g6 n6))
            obtain ⟨v6a, v6c, ev, -, -, -, -⟩ := r6.form
            rw [List.length_append, List.length_singleton, HUL.out] at ev
            subst ev
            have F6 := Lib.hid (cp_step (k := pre.length) I5.out O5.out HTT.out hqO wrO HLO.out N6.out.1 N6.out.2.1 N6.out.2.2)
            clear r6 g6 n6
            refine hK _ _ ?_
            clear hK K
            change wpAnyIn _ _ _ _ _ _ _ _ (Act.put _ (some 17) _) _
            simp only [Act.put, List.setIfInBounds_toArray, List.set_cons_zero, List.set_cons_succ]
            refine wpAnyIn_ready (rs := [6]) (by kernel_rfl) (by simp) (AllReadyIn.cons rfl (fun K hK => ?_) (AllReadyIn.nil))
            go_simp
            refine hK _ _ ?_
            clear hK K
            refine wpAnyIn_ready (rs := [7]) (by kernel_rfl) (by simp) (AllReadyIn.cons rfl (fun K hK => ?_) (AllReadyIn.nil))
            have hfz := F6.out.1
            have hcz := F6.out.2.1
            go_simp
            refine hK _ _ ?_
            clear hK K hfz hcz
            refine wpAnyIn_done (by kernel_rfl) ?_ _
            obtain ⟨e1, e2, e3, e4, e5⟩ := cp_round K5.out I5.out.2.2.2.1 N6.out.2.1 N6.out.2.2 N6.out.1 HB.out HG.out hs1 hqO hO3
            exact ⟨e1, e2, _, e3, e4, e5, _, _, (by show CpF _ _ _ _ _ _ _ (h :: ss.take (pre ++ [Value.slice y.a y.n y.c]).length) _; rw [List.length_append, List.length_singleton]; exact F6.out.2.2), rfl⟩
    · skip
      go_simp
      refine hK _ _ ?_
      clear hK K
      refine wpAnyIn_ready (rs := [0, 3]) (by kernel_rfl) (by simp) (AllReadyIn.cons rfl (fun K hK => ?_) (AllReadyIn.cons rfl (fun K hK => ?_) (AllReadyIn.nil)))
      · skip
        go_simp
        refine hK _ _ ?_
        clear hK K
        refine wpAnyIn_ready (rs := [1, 3]) (by kernel_rfl) (by simp) (AllReadyIn.cons rfl (fun K hK => ?_) (AllReadyIn.cons rfl (fun K hK => ?_) (AllReadyIn.nil)))
        · skip
          obtain ⟨-, -, ⟨-, lo, -, -, -⟩, -⟩ := HI.out.drew
          go_simp
          refine hK _ _ ?_
          clear hK K lo
          refine wpAnyIn_ready (rs := [3]) (by kernel_rfl) (by simp) (AllReadyIn.cons rfl (fun K hK => ?_) (AllReadyIn.nil))
          go_simp
          refine ⟨trivial, fun h => (by cases h), (CallsIn.inRound l (callsIn_wide.2 (copyOf_any _ y.a y.c t y.n HYN.out.symm (HYV.out _ (Below.refl _ W).drew) (by omega)))).mono ?_⟩; rintro e w4 ⟨v4, rfl, o4, bel⟩
          have O4 := Lib.hid o4
          have K4 := Lib.hid (bel_tr (Below.refl _ W).drew bel (Nat.le_refl _))
          have I4 := Lib.hid (HI.out.next K4.out)
          obtain ⟨v4a, v4c, ev4, -, -⟩ := o4.view
          rw [← HYN.out] at ev4
          subst ev4
          clear o4 bel
          go_simp
          refine hK _ _ ?_
          clear hK K
          refine wpAnyIn_ready (rs := [4]) (by kernel_rfl) (by simp) (AllReadyIn.cons rfl (fun K hK => ?_) (AllReadyIn.nil))
          go_simp
          have bel := bel1 w4 (.cells #[.slice v4a y.n v4c] 24)
          have I5 := Lib.hid (I4.out.next bel)
          have O5 := Lib.hid (O4.out.next bel)
          have K5 := Lib.hid (bel_tr K4.out bel (Nat.le_refl _))
          have CL := Lib.hid (cell_lit w4 (.slice v4a y.n v4c) 24)
          refine hK _ _ ?_
          clear hK K bel
          refine wpAnyIn_ready (rs := [5]) (by kernel_rfl) (by simp) (AllReadyIn.cons rfl (fun K hK => ?_) (AllReadyIn.nil))
          refine stepIn_append_row rfl rfl (.tmp 13) (.tmp 16) rfl (base := w.heap.size + 2) (us := us) (u := .slice v4a y.n v4c) rfl rfl I5.out.2.2.2.1 ⟨_, _, _, rfl⟩ (by have := HUL.out; omega) (by have := K5.out.size; omega) CL.out ?_
          intro v6 w6 r6 g6 n6
          have N6 := Lib.hid (And.intro r6 (And.intro g6 n6))
          obtain ⟨v6a, v6c, ev, -, -, -, -⟩ := r6.form
          rw [List.length_append, List.length_singleton, HUL.out] at ev
          subst ev
          have F6 := Lib.hid (cp_step (k := pre.length) I5.out O5.out HTT.out hqO wrO HLO.out N6.out.1 N6.out.2.1 N6.out.2.2)
          clear r6 g6 n6
          refine hK _ _ ?_
          clear hK K
          change wpAnyIn _ _ _ _ _ _ _ _ (Act.put _ (some 17) _) _
          simp only [Act.put, List.setIfInBounds_toArray, List.set_cons_zero, List.set_cons_succ]
          refine wpAnyIn_ready (rs := [6]) (by kernel_rfl) (by simp) (AllReadyIn.cons rfl (fun K hK => ?_) (AllReadyIn.nil))
          go_simp
          refine hK _ _ ?_
          clear hK K
          refine wpAnyIn_ready (rs := [7]) (by kernel_rfl) (by simp) (AllReadyIn.cons rfl (fun K hK => ?_) (AllReadyIn.nil))
          have hfz := F6.out.1
          have hcz := F6.out.2.1
          go_simp
          refine hK _ _ ?_
          clear hK K hfz hcz
          refine wpAnyIn_done (by kernel_rfl) ?_ _
          obtain ⟨e1, e2, e3, e4, e5⟩ := cp_round K5.out I5.out.2.2.2.1 N6.out.2.1 N6.out.2.2 N6.out.1 HB.out HG.out hs1 hqO hO3
          exact ⟨e1, e2, _, e3, e4, e5, _, _, (by show CpF _ _ _ _ _ _ _ (h :: ss.take (pre ++ [Value.slice y.a y.n y.c]).length) _; rw [List.length_append, List.length_singleton]; exact F6.out.2.2), rfl⟩
        · skip
          go_simp
          refine ⟨trivial, fun h => (by cases h), (CallsIn.inRound l (callsIn_wide.2 (copyOf_any _ y.a y.c t y.n HYN.out.symm (HYV.out _ (Below.refl _ W).drew) (by omega)))).mono ?_⟩; rintro e w4 ⟨v4, rfl, o4, bel⟩
          have O4 := Lib.hid o4
          have K4 := Lib.hid (bel_tr (Below.refl _ W).drew bel (Nat.le_refl _))
          have I4 := Lib.hid (HI.out.next K4.out)
          obtain ⟨v4a, v4c, ev4, -, -⟩ := o4.view
          rw [← HYN.out] at ev4
          subst ev4
          clear o4 bel
          go_simp
          refine hK _ _ ?_
          clear hK K
          refine wpAnyIn_ready (rs := [1, 4]) (by kernel_rfl) (by simp) (AllReadyIn.cons rfl (fun K hK => ?_) (AllReadyIn.cons rfl (fun K hK => ?_) (AllReadyIn.nil)))
          · skip
            obtain ⟨-, -, ⟨-, lo, -, -, -⟩, -⟩ := I4.out
            go_simp
            refine hK _ _ ?_
            clear hK K lo
            refine wpAnyIn_ready (rs := [4]) (by kernel_rfl) (by simp) (AllReadyIn.cons rfl (fun K hK => ?_) (AllReadyIn.nil))
            go_simp
            have bel := bel1 w4 (.cells #[.slice v4a y.n v4c] 24)
            have I5 := Lib.hid (I4.out.next bel)
            have O5 := Lib.hid (O4.out.next bel)
            have K5 := Lib.hid (bel_tr K4.out bel (Nat.le_refl _))
            have CL := Lib.hid (cell_lit w4 (.slice v4a y.n v4c) 24)
            refine hK _ _ ?_
            clear hK K bel
            refine wpAnyIn_ready (rs := [5]) (by kernel_rfl) (by simp) (AllReadyIn.cons rfl (fun K hK => ?_) (AllReadyIn.nil))
            refine stepIn_append_row rfl rfl (.tmp 13) (.tmp 16) rfl (base := w.heap.size + 2) (us := us) (u := .slice v4a y.n v4c) rfl rfl I5.out.2.2.2.1 ⟨_, _, _, rfl⟩ (by have := HUL.out; omega) (by have := K5.out.size; omega) CL.out ?_
            intro v6 w6 r6 g6 n6
            have N6 := Lib.hid (And.intro r6 (And.intro g6 n6))
            obtain ⟨v6a, v6c, ev, -, -, -, -⟩ := r6.form
            rw [List.length_append, List.length_singleton, HUL.out] at ev
            subst ev
            have F6 := Lib.hid (cp_step (k := pre.length) I5.out O5.out HTT.out hqO wrO HLO.out N6.out.1 N6.out.2.1 N6.out.2.2)
            clear r6 g6 n6
            refine hK _ _ ?_
            clear hK K
            change wpAnyIn _ _ _ _ _ _ _ _ (Act.put _ (some 17) _) _
            simp only [Act.put, List.setIfInBounds_toArray, List.set_cons_zero, List.set_cons_succ]
            refine wpAnyIn_ready (rs := [6]) (by kernel_rfl) (by simp) (AllReadyIn.cons rfl (fun K hK => ?_) (AllReadyIn.nil))
            go_simp
            refine hK _ _ ?_
            clear hK K
            refine wpAnyIn_ready (rs := [7]) (by kernel_rfl) (by simp) (AllReadyIn.cons rfl (fun K hK => ?_) (AllReadyIn.nil))
            have hfz := F6.out.1
            have hcz := F6.out.2.1
            go_simp
            refine hK _ _ ?_
            clear hK K hfz hcz
            refine wpAnyIn_done (by kernel_rfl) ?_ _
            obtain ⟨e1, e2, e3, e4, e5⟩ := cp_round K5.out I5.out.2.2.2.1 N6.out.2.1 N6.out.2.2 N6.out.1 HB.out HG.out hs1 hqO hO3
            exact ⟨e1, e2, _, e3, e4, e5, _, _, (by show CpF _ _ _ _ _ _ _ (h :: ss.take (pre ++ [Value.slice y.a y.n y.c]).length) _; rw [List.length_append, List.length_singleton]; exact F6.out.2.2), rfl⟩
          · skip
            go_simp
            have bel := bel1 w4 (.cells #[.slice v4a y.n v4c] 24)
            have I5 := Lib.hid (I4.out.next bel)
            have O5 := Lib.hid (O4.out.next bel)
            have K5 := Lib.hid (bel_tr K4.out bel (Nat.le_refl _))
            have CL := Lib.hid (cell_lit w4 (.slice v4a y.n v4c) 24)
            refine hK _ _ ?_
            clear hK K bel
            refine wpAnyIn_ready (rs := [1]) (by kernel_rfl) (by simp) (AllReadyIn.cons rfl (fun K hK => ?_) (AllReadyIn.nil))
            obtain ⟨-, -, ⟨-, lo, -, -, -⟩, -⟩ := I5.out
            go_simp
            refine hK _ _ ?_
            clear hK K lo
            refine wpAnyIn_ready (rs := [5]) (by kernel_rfl) (by simp) (AllReadyIn.cons rfl (fun K hK => ?_) (AllReadyIn.nil))
            refine stepIn_append_row rfl rfl (.tmp 13) (.tmp 16) rfl (base := w.heap.size + 2) (us := us) (u := .slice v4a y.n v4c) rfl rfl I5.out.2.2.2.1 ⟨_, _, _, rfl⟩ (by have := HUL.out; omega) (by have := K5.out.size; omega) CL.out ?_
            intro v6 w6 r6 g6 n6
            have N6 := Lib.hid (And.intro r6 (And.intro g6 n6))
            obtain ⟨v6a, v6c, ev, -, -, -, -⟩ := r6.form
            rw [List.length_append, List.length_singleton, HUL.out] at ev
            subst ev
            have F6 := Lib.hid (cp_step (k := pre.length) I5.out O5.out HTT.out hqO wrO HLO.out N6.out.1 N6.out.2.1 N6.out.2.2)
            clear r6 g6 n6
            refine hK _ _ ?_
            clear hK K
            change wpAnyIn _ _ _ _ _ _ _ _ (Act.put _ (some 17) _) _
            simp only [Act.put, List.setIfInBounds_toArray, List.set_cons_zero, List.set_cons_succ]
            refine wpAnyIn_ready (rs := [6]) (by kernel_rfl) (by simp) (AllReadyIn.cons rfl (fun K hK => ?_) (AllReadyIn.nil))
            go_simp
            refine hK _ _ ?_
            clear hK K
            refine wpAnyIn_ready (rs := [7]) (by kernel_rfl) (by simp) (AllReadyIn.cons rfl (fun K hK => ?_) (AllReadyIn.nil))
            have hfz := F6.out.1
            have hcz := F6.out.2.1
            go_simp
            refine hK _ _ ?_
            clear hK K hfz hcz
            refine wpAnyIn_done (by kernel_rfl) ?_ _
            obtain ⟨e1, e2, e3, e4, e5⟩ := cp_round K5.out I5.out.2.2.2.1 N6.out.2.1 N6.out.2.2 N6.out.1 HB.out HG.out hs1 hqO hO3
            exact ⟨e1, e2, _, e3, e4, e5, _, _, (by show CpF _ _ _ _ _ _ _ (h :: ss.take (pre ++ [Value.slice y.a y.n y.c]).length) _; rw [List.length_append, List.length_singleton]; exact F6.out.2.2), rfl⟩
      · skip
        go_simp
        refine ⟨trivial, fun h => (by cases h), (CallsIn.inRound l (callsIn_wide.2 (copyOf_any _ y.a y.c t y.n HYN.out.symm (HYV.out _ (Below.refl _ W).drew) (by omega)))).mono ?_⟩; rintro e w4 ⟨v4, rfl, o4, bel⟩
        have O4 := Lib.hid o4
        have K4 := Lib.hid (bel_tr (Below.refl _ W).drew bel (Nat.le_refl _))
        have I4 := Lib.hid (HI.out.next K4.out)
        obtain ⟨v4a, v4c, ev4, -, -⟩ := o4.view
        rw [← HYN.out] at ev4
        subst ev4
        clear o4 bel
        go_simp
        refine hK _ _ ?_
        clear hK K
        refine wpAnyIn_ready (rs := [0, 4]) (by kernel_rfl) (by simp) (AllReadyIn.cons rfl (fun K hK => ?_) (AllReadyIn.cons rfl (fun K hK => ?_) (AllReadyIn.nil)))
        · skip
          go_simp
          refine hK _ _ ?_
          clear hK K
          refine wpAnyIn_ready (rs := [1, 4]) (by kernel_rfl) (by simp) (AllReadyIn.cons rfl (fun K hK => ?_) (AllReadyIn.cons rfl (fun K hK => ?_) (AllReadyIn.nil)))
          · skip
            obtain ⟨-, -, ⟨-, lo, -, -, -⟩, -⟩ := I4.out
            go_simp
            refine hK _ _ ?_
            clear hK K lo
            refine wpAnyIn_ready (rs := [4]) (by kernel_rfl) (by simp) (AllReadyIn.cons rfl (fun K hK => ?_) (AllReadyIn.nil))
            go_simp
            have bel := bel1 w4 (.cells #[.slice v4a y.n v4c] 24)
            have I5 := Lib.hid (I4.out.next bel)
            have O5 := Lib.hid (O4.out.next bel)
            have K5 := Lib.hid (bel_tr K4.out bel (Nat.le_refl _))
            have CL := Lib.hid (cell_lit w4 (.slice v4a y.n v4c) 24)
            refine hK _ _ ?_
            clear hK K bel
            refine wpAnyIn_ready (rs := [5]) (by kernel_rfl) (by simp) (AllReadyIn.cons rfl (fun K hK => ?_) (AllReadyIn.nil))
            refine stepIn_append_row rfl rfl (.tmp 13) (.tmp 16) rfl (base := w.heap.size + 2) (us := us) (u := .slice v4a y.n v4c) rfl rfl I5.out.2.2.2.1 ⟨_, _, _, rfl⟩ (by have := HUL.out; omega) (by have := K5.out.size; omega) CL.out ?_
            intro v6 w6 r6 g6 n6
            have N6 := Lib.hid (And.intro r6 (And.intro g6 n6))
            obtain ⟨v6a, v6c, ev, -, -, -, -⟩ := r6.form
            rw [List.length_append, List.length_singleton, HUL.out] at ev
            subst ev
            have F6 := Lib.hid (cp_step (k := pre.length) I5.out O5.out HTT.out hqO wrO HLO.out N6.out.1 N6.out.2.1 N6.out.2.2)
            clear r6 g6 n6
            refine hK _ _ ?_
            clear hK K
            change wpAnyIn _ _ _ _ _ _ _ _ (Act.put _ (some 17) _) _
            simp only [Act.put, List.setIfInBounds_toArray, List.set_cons_zero, List.set_cons_succ]
            refine wpAnyIn_ready (rs := [6]) (by kernel_rfl) (by simp) (AllReadyIn.cons rfl (fun K hK => ?_) (AllReadyIn.nil))
            go_simp
            refine hK _ _ ?_
            clear hK K
            refine wpAnyIn_ready (rs := [7]) (by kernel_rfl) (by simp) (AllReadyIn.cons rfl (fun K hK => ?_) (AllReadyIn.nil))
            have hfz := F6.out.1
            have hcz := F6.out.2.1
            go_simp
            refine hK _ _ ?_
            clear hK K hfz hcz
            refine wpAnyIn_done (by kernel_rfl) ?_ _
            obtain ⟨e1, e2, e3, e4, e5⟩ := cp_round K5.out I5.out.2.2.2.1 N6.out.2.1 N6.out.2.2 N6.out.1 HB.out HG.out hs1 hqO hO3
            exact ⟨e1, e2, _, e3, e4, e5, _, _, (by show CpF _ _ _ _ _ _ _ (h :: ss.take (pre ++ [Value.slice y.a y.n y.c]).length) _; rw [List.length_append, List.length_singleton]; exact F6.out.2.2), rfl⟩
          · skip
            go_simp
            have bel := bel1 w4 (.cells #[.slice v4a y.n v4c] 24)
            have I5 := Lib.hid (I4.out.next bel)
            have O5 := Lib.hid (O4.out.next bel)
            have K5 := Lib.hid (bel_tr K4.out bel (Nat.le_refl _))
            have CL := Lib.hid (cell_lit w4 (.slice v4a y.n v4c) 24)
            refine hK _ _ ?_
            clear hK K bel
            refine wpAnyIn_ready (rs := [1]) (by kernel_rfl) (by simp) (AllReadyIn.cons rfl (fun K hK => ?_) (AllReadyIn.nil))
            obtain ⟨-, -, ⟨-, lo, -, -, -⟩, -⟩ := I5.out
            go_simp
            refine hK _ _ ?_
            clear hK K lo
            refine wpAnyIn_ready (rs := [5]) (by kernel_rfl) (by simp) (AllReadyIn.cons rfl (fun K hK => ?_) (AllReadyIn.nil))
            refine stepIn_append_row rfl rfl (.tmp 13) (.tmp 16) rfl (base := w.heap.size + 2) (us := us) (u := .slice v4a y.n v4c) rfl rfl I5.out.2.2.2.1 ⟨_, _, _, rfl⟩ (by have := HUL.out; omega) (by have := K5.out.size; omega) CL.out ?_
            intro v6 w6 r6 g6 n6
            have N6 := Lib.hid (And.intro r6 (And.intro g6 n6))
            obtain ⟨v6a, v6c, ev, -, -, -, -⟩ := r6.form
            rw [List.length_append, List.length_singleton, HUL.out] at ev
            subst ev
            have F6 := Lib.hid (cp_step (k := pre.length) I5.out O5.out HTT.out hqO wrO HLO.out N6.out.1 N6.out.2.1 N6.out.2.2)
            clear r6 g6 n6
            refine hK _ _ ?_
            clear hK K
            change wpAnyIn _ _ _ _ _ _ _ _ (Act.put _ (some 17) _) _
            simp only [Act.put, List.setIfInBounds_toArray, List.set_cons_zero, List.set_cons_succ]
            refine wpAnyIn_ready (rs := [6]) (by kernel_rfl) (by simp) (AllReadyIn.cons rfl (fun K hK => ?_) (AllReadyIn.nil))
            go_simp
            refine hK _ _ ?_
            clear hK K
            refine wpAnyIn_ready (rs := [7]) (by kernel_rfl) (by simp) (AllReadyIn.cons rfl (fun K hK => ?_) (AllReadyIn.nil))
            have hfz := F6.out.1
            have hcz := F6.out.2.1
            go_simp
            refine hK _ _ ?_
            clear hK K hfz hcz
            refine wpAnyIn_done (by kernel_rfl) ?_ _
            obtain ⟨e1, e2, e3, e4, e5⟩ := cp_round K5.out I5.out.2.2.2.1 N6.out.2.1 N6.out.2.2 N6.out.1 HB.out HG.out hs1 hqO hO3
            exact ⟨e1, e2, _, e3, e4, e5, _, _, (by show CpF _ _ _ _ _ _ _ (h :: ss.take (pre ++ [Value.slice y.a y.n y.c]).length) _; rw [List.length_append, List.length_singleton]; exact F6.out.2.2), rfl⟩
        · skip
          go_simp
          have bel := bel1 w4 (.cells #[.slice v4a y.n v4c] 24)
          have I5 := Lib.hid (I4.out.next bel)
          have O5 := Lib.hid (O4.out.next bel)
          have K5 := Lib.hid (bel_tr K4.out bel (Nat.le_refl _))
          have CL := Lib.hid (cell_lit w4 (.slice v4a y.n v4c) 24)
          refine hK _ _ ?_
          clear hK K bel
          refine wpAnyIn_ready (rs := [0]) (by kernel_rfl) (by simp) (AllReadyIn.cons rfl (fun K hK => ?_) (AllReadyIn.nil))
          go_simp
          refine hK _ _ ?_
          clear hK K
          refine wpAnyIn_ready (rs := [1]) (by kernel_rfl) (by simp) (AllReadyIn.cons rfl (fun K hK => ?_) (AllReadyIn.nil))
          obtain ⟨-, -, ⟨-, lo, -, -, -⟩, -⟩ := I5.out
          go_simp
          refine hK _ _ ?_
          clear hK K lo
          refine wpAnyIn_ready (rs := [5]) (by kernel_rfl) (by simp) (AllReadyIn.cons rfl (fun K hK => ?_) (AllReadyIn.nil))
          refine stepIn_append_row rfl rfl (.tmp 13) (.tmp 16) rfl (base := w.heap.size + 2) (us := us) (u := .slice v4a y.n v4c) rfl rfl I5.out.2.2.2.1 ⟨_, _, _, rfl⟩ (by have := HUL.out; omega) (by have := K5.out.size; omega) CL.out ?_
          intro v6 w6 r6 g6 n6
          have N6 := Lib.hid (And.intro r6 (And.intro g6 n6))
          obtain ⟨v6a, v6c, ev, -, -, -, -⟩ := r6.form
          rw [List.length_append, List.length_singleton, HUL.out] at ev
          subst ev
          have F6 := Lib.hid (cp_step (k := pre.length) I5.out O5.out HTT.out hqO wrO HLO.out N6.out.1 N6.out.2.1 N6.out.2.2)
          clear r6 g6 n6
          refine hK _ _ ?_
          clear hK K
          change wpAnyIn _ _ _ _ _ _ _ _ (Act.put _ (some 17) _) _
          simp only [Act.put, List.setIfInBounds_toArray, List.set_cons_zero, List.set_cons_succ]
          refine wpAnyIn_ready (rs := [6]) (by kernel_rfl) (by simp) (AllReadyIn.cons rfl (fun K hK => ?_) (AllReadyIn.nil))
          go_simp
          refine hK _ _ ?_
          clear hK K
          refine wpAnyIn_ready (rs := [7]) (by kernel_rfl) (by simp) (AllReadyIn.cons rfl (fun K hK => ?_) (AllReadyIn.nil))
          have hfz := F6.out.1
          have hcz := F6.out.2.1
          go_simp
          refine hK _ _ ?_
          clear hK K hfz hcz
          refine wpAnyIn_done (by kernel_rfl) ?_ _
          obtain ⟨e1, e2, e3, e4, e5⟩ := cp_round K5.out I5.out.2.2.2.1 N6.out.2.1 N6.out.2.2 N6.out.1 HB.out HG.out hs1 hqO hO3
          exact ⟨e1, e2, _, e3, e4, e5, _, _, (by show CpF _ _ _ _ _ _ _ (h :: ss.take (pre ++ [Value.slice y.a y.n y.c]).length) _; rw [List.length_append, List.length_singleton]; exact F6.out.2.2), rfl⟩
  · rintro D gg W hD ⟨hs1, hbel, sv, us, hcf, hg⟩ hK
    replace hcf : CpF w.heap.size w1.heap.size (.slice a n c) (.slice sa sn sc) (.slice va hn vc) sv us (h :: ss.take (hs.map Hd.val).length) W := hcf
    rw [List.take_of_length_le (by simp [HVS.out.1.1])] at hcf
    have HE := Lib.hid (cp_end rfl hcf hbel)
    obtain ⟨sva, svc, rfl, -, -, -, -⟩ := hcf.2.2.2.1.form
    generalize us.length = ul at *
    obtain ⟨-, ⟨r0, r1, r2, r3, rq⟩, ⟨y0, y1, y2, y3, yq⟩, -⟩ := hcf
    clear hbel
    gi_wp2_with fail
    have hD1 : D ≠ w.heap.size + 1 := by omega
    have hK2 : ((W.setCell ⟨w.heap.size + 1, 0, none⟩ (.slice va hn vc)).setCell ⟨w.heap.size + 1, 1, none⟩ (.slice sva ul svc)).heap[D]? = some (.deferred (some [])) := ((Below.heap_setCell _ _ _ _ hD1).trans (Below.heap_setCell _ _ _ _ hD1)).trans hK
    have x0 : ((W.setCell ⟨w.heap.size + 1, 0, none⟩ (.slice va hn vc)).setCell ⟨w.heap.size + 1, 1, none⟩ (.slice sva ul svc)).cell? ⟨w.heap.size + 1, 0, none⟩ = some (.slice va hn vc) := (World.cell?_setCell_other _ _ _ _ (by simp)).trans (World.cell?_setCell_same' _ _ _ (by rw [r0]; rfl))
    have x1 : ((W.setCell ⟨w.heap.size + 1, 0, none⟩ (.slice va hn vc)).setCell ⟨w.heap.size + 1, 1, none⟩ (.slice sva ul svc)).cell? ⟨w.heap.size + 1, 1, none⟩ = some (.slice sva ul svc) := World.cell?_setCell_same' _ _ _ (by rw [World.cell?_setCell_other _ _ _ _ (by simp), r1]; rfl)
    generalize (W.setCell ⟨w.heap.size + 1, 0, none⟩ (.slice va hn vc)).setCell ⟨w.heap.size + 1, 1, none⟩ (.slice sva ul svc) = Z at *
    clear r0 r1 r2 r3 y0 y1 y2 y3
    refine ⟨by simp, .inl ⟨_, _, rfl, run_takeDeferred hK2, ?_⟩⟩
    have k0 : (Z.putObj D (.deferred none)).cell? ⟨w.heap.size + 1, 0, none⟩ = some (.slice va hn vc) := (World.cell?_of_block (World.putObj_heap_other (fun e => hD1 e.symm))).trans x0
    have k1 : (Z.putObj D (.deferred none)).cell? ⟨w.heap.size + 1, 1, none⟩ = some (.slice sva ul svc) := (World.cell?_of_block (World.putObj_heap_other (fun e => hD1 e.symm))).trans x1
    have E2 := And.intro (HE.out.1.putD (o' := .deferred none) hK2) (HE.out.2.trans (put_below (o := .deferred none) (show w.heap.size ≤ D by omega) HE.out.2.size))
    generalize Z.putObj D (.deferred none) = Z2 at *
    exact ⟨.agg #[.slice va hn vc, .slice sva ul svc], by simp [results, Try.f78, go_sem, k0, k1], _, _, rfl, E2.1, E2.2⟩
  · rintro D k pre W hD hpre hf hK
    exact hf.elim
end Go.Proofs.Ytopcjiaakefmeaa.Cl
