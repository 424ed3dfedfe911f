/-
  spec.l6Lay on a store in a block: 'lyH', 'lyS', 'lyB'. The contracts of spec.Laid and impl.Laid: 'ldH', 'ldS', 'ldB'. (Made by gen_wh.py.)
-/
import Derived.Test.YtkkpokfekbdigaaWe
import Derived.Test.YtkkpokfekbdigaaWg
namespace Go.Proofs.Ytkkpokfekbdigaa.Cl
open Go.RowKit Wd Rp Kp Ra
set_option linter.unusedVariables false
theorem OwL.one {B : Nat} {w : World} {us : List Value} {ss : List (List Cel)} (h : OwL B w us ss) : ∀ v ∈ us, v.oneCell' = true := by
  obtain ⟨hs, e, -⟩ := h.heads
  exact one_of_heads e
theorem run_append_rows {w : World} {base C : Nat} {v y : Value} {us ms : List Value} (ty : TypeId) (hown : RowS base w v us) (hy : RowS C w y ms) (h1 : ∀ u ∈ ms, u.oneCell' = true) (hlen : us.length + ms.length ≤ 1000000) (hbase : base ≤ w.heap.size) :
    ∃ v' w', (Builtin.append_ #[43, 43] ty #[v, y]).run Try.prog w = .ok v' w' ∧ RowS base w' v' (us ++ ms) ∧ w.grownBy w' v.ownBlock ∧ (v'.ownBlock = v.ownBlock ∨ v'.ownBlock = some w.heap.size) := by
  obtain ⟨i0, hi, hz0, hz1, hz2⟩ := info_parts infoS
  rcases id hy.2 with ⟨rfl, hm⟩ | ⟨g, cap, cur, rfl, hB, hg, hn, hc, hsz, hxs⟩
  · have hnil : ms = [] := List.length_eq_zero_iff.1 hm
    subst hnil
    rw [List.append_nil]
    obtain ⟨p, n, c, rfl, hle⟩ : ∃ p n c, v = .slice p n c ∧ n ≤ c := by
      rcases hown.2 with ⟨rfl, _⟩ | ⟨g, cap, cur, rfl, _, _, h, _⟩
      · exact ⟨_, _, _, rfl, Nat.le_refl _⟩
      · exact ⟨_, _, _, rfl, h⟩
    have hsrc : Src Try.prog i0.size 43 (.slice none 0 0) 0 [] w := ⟨.inl ⟨_, Try.underlying43⟩, fun _ => rfl, by simp [Builtin.firstCells], by simp [Builtin.firstCells], by simp, by simp⟩
    exact ⟨_, w, run_append_nothing w 43 43 ty 24 i0 Try.underlying43 hi p n c hle _ hsrc, hown, ⟨rfl, rfl, rfl, Nat.le_refl _, fun _ _ _ => rfl⟩, .inl rfl⟩
  · obtain ⟨v', w', hr, h2, h3, h4, h5⟩ := run_append_own_at (P := Try.prog) w base 43 ty 24 i0 _ 1 24 Try.underlying43 hi hz0 hz1 hz2 rfl (by decide) v us.length us hown
      ⟨g, 0, none⟩ ms.length cap ms (by simp) (fun j u hj => by
        obtain ⟨a, cap', e, -, -, -, h4⟩ := hy.form
        cases e
        obtain ⟨g', e', -, -, hcc, -⟩ := h4 j u hj
        cases e'
        rw [Addr.add_lit, Nat.zero_add]; exact hcc) h1 (by unfold maxLen; omega) (by omega) hbase
    refine ⟨v', w', hr, ?_, h3, h5⟩
    unfold RowS
    rw [List.length_append]; exact h2
theorem step_append_rows {ops : Array Oper} {o : Oper} {a : Act} {Q : Exit → Act → World → Prop} {K : Act → World → Prop} {w : World} (hw : Region.wanted o (yielded ops a.tmps) = true) (s x : Operand)
    (ho : o.op = .call { callee := .builtin .append, args := #[s, x], argTypes := #[43, 43] })
    {base C : Nat} {v y : Value} {us ms : List Value} (hs : a.eval s = v) (hx : a.eval x = y) (hown : RowS base w v us) (hy : RowS C w y ms) (h1 : ∀ u ∈ ms, u.oneCell' = true) (hlen : us.length + ms.length ≤ 1000000) (hbase : base ≤ w.heap.size)
    (h : ∀ v' w', RowS base w' v' (us ++ ms) → w.grownBy w' v.ownBlock → (v'.ownBlock = v.ownBlock ∨ v'.ownBlock = some w.heap.size) → K (a.put o.dst v') w') :
    if Region.wanted o (yielded ops a.tmps) = true then Oper.wp Try.prog o a w K Q else K (a.put o.dst undef) w := by
  rw [if_pos hw]
  obtain ⟨v', w', hr, h2, h3, h4⟩ := run_append_rows o.type hown hy h1 hlen hbase
  unfold Oper.wp execOp
  simp only [ho, resolve, invoke, builtin, Sem.run_bind, Sem.run_pure, Result.andThen_ok, List.map_toArray, List.map_cons, List.map_nil, hs, hx, hr]
  exact h v' w' h2 h3 h4
/-- What l6Lay makes of a store. -/
def lyB (h : List Cel) (ss : List (List Cel)) : Bool := !(h.isEmpty || ss.length == 5)
def lyH (h : List Cel) (ss : List (List Cel)) : List Cel := if lyB h ss then [] else h
def lyS (h : List Cel) (ss : List (List Cel)) : List (List Cel) := if lyB h ss then h :: ss else ss
def LyPost (O B : Nat) (h : List Cel) (ss : List (List Cel)) (w : World) (e : Ending) (w' : World) : Prop := e = .returned (.bool (lyB h ss)) ∧ Kept (fun k => k = O) none w w' ∧ ∃ hv sv, Bb O hv sv w' ∧ OwB B w' hv sv (lyH h ss) (lyS h ss)
theorem ly_end {w Z : World} {O B : Nat} {hv sv : Value} {us : List Value} {h : List Cel} {ss : List (List Cel)} (hl : OwL B w (hv :: us) (h :: ss)) (r : RowS w.heap.size Z sv (hv :: us)) (k : Kept (fun k => k = O) none w Z) (hz : Bb O hv sv Z) (hne : ∀ x ∈ hv :: us, ∀ k, x.ownBlock = some k → k ≠ O) (hO : O < w.heap.size) (hB : B ≤ w.heap.size) :
    Kept (fun k => k = O) none w ((Z.setCell ⟨O, 0, none⟩ (.slice (some ⟨Z.heap.size, 0, none⟩) 0 0)).alloc (.cells #[] 28)) ∧
    Bb O (.slice (some ⟨Z.heap.size, 0, none⟩) 0 0) sv ((Z.setCell ⟨O, 0, none⟩ (.slice (some ⟨Z.heap.size, 0, none⟩) 0 0)).alloc (.cells #[] 28)) ∧
    OwB B ((Z.setCell ⟨O, 0, none⟩ (.slice (some ⟨Z.heap.size, 0, none⟩) 0 0)).alloc (.cells #[] 28)) (.slice (some ⟨Z.heap.size, 0, none⟩) 0 0) sv [] (h :: ss) := by
  have hzs : (Z.setCell ⟨O, 0, none⟩ (.slice (some ⟨Z.heap.size, 0, none⟩) 0 0)).heap.size = Z.heap.size := World.size_setCell _ _ _
  have k1 : Kept (fun k => k = O) none w ((Z.setCell ⟨O, 0, none⟩ (.slice (some ⟨Z.heap.size, 0, none⟩) 0 0)).alloc (.cells #[] 28)) := k.trans ((Kept.set (F := fun k => k = O) (g := none) (w := Z) (p := ⟨O, 0, none⟩) rfl (.slice (some ⟨Z.heap.size, 0, none⟩) 0 0)).trans (Kept.of_below (bel1 (Z.setCell ⟨O, 0, none⟩ (.slice (some ⟨Z.heap.size, 0, none⟩) 0 0)) (.cells #[] 28))))
  refine ⟨k1, (hz.set0 _).next (bel1 _ _), OwB.mk ?_ (((r.put (p := ⟨O, 0, none⟩) hO _).next (bel1 _ _)).mono hB) ⟨hl.1, fun j u l h1 h2 => row_next (hl.2.1 j u l h1 h2) fun g hg hlt => k1.block g hlt (fun e => ?_) (by simp), hl.2.2⟩ (fun x hx q hq e => ?_)⟩
  · have := OwC.start (B := B) (w := Z.setCell ⟨O, 0, none⟩ (.slice (some ⟨Z.heap.size, 0, none⟩) 0 0)) (by rw [hzs]; exact Nat.le_trans hB k.size)
    rw [hzs] at this
    exact this
  · exact hne u (List.mem_of_getElem? h1) g hg e
  · have a1 := (hl.low x hx q e).2
    have a2 : Z.heap.size = q := by simpa [Value.ownBlock] using hq
    have := k.size
    omega
set_option maxRecDepth 100000 in
set_option maxHeartbeats 2000000 in
theorem l6Lay_any (w : World) (O B T : Nat) {hv sv : Value} {h : List Cel} {ss : List (List Cel)} (hb : Bb O hv sv w) (ot : OwT B T w hv sv h ss) (hd : O < B ∨ T ≤ O) (hB : B ≤ w.heap.size) (hl : ss.length ≤ 1000) :
    Calls Try.prog 93 #[.pointer (some ⟨O, 0, none⟩)] w (LyPost O B h ss w) := by
  have o := ot.own
  have HO := Lib.hid o
  obtain ⟨us, hr, hlo, htop⟩ := id ot
  have HNE := Lib.hid (show ∀ x ∈ hv :: us, ∀ k, x.ownBlock = some k → k ≠ O from fun x hx k hk e => by
    have a1 := (hlo.low x hx k hk).1
    have a2 := htop x (List.mem_cons_of_mem _ hx) k hk
    omega)
  clear htop ot
  obtain ⟨ha, hc, sa, sc, hs, rfl, rfl, -, -⟩ := o.view
  have hul : us.length = ss.length := by have := hlo.1; simpa using this
  have HBB := Lib.hid hb; clear hb
  have HR := Lib.hid hr; clear hr
  have HL := Lib.hid hlo
  have H1 := Lib.hid (fun v hv => OwL.one hlo v (List.mem_cons_of_mem _ hv)); clear hlo o
  have HN := Lib.hid (show lyB h ss = !(decide (h.length = 0) || decide (ss.length = 5)) by unfold lyB; rw [show (ss.length == 5) = decide (ss.length = 5) from rfl]; cases h <;> simp)
  have HUL := Lib.hid (show us.length ≤ 1000 by omega); clear hul
  obtain ⟨hn, ehn⟩ : ∃ n, h.length = n := ⟨_, rfl⟩
  obtain ⟨sn, esn⟩ : ∃ n, ss.length = n := ⟨_, rfl⟩
  rw [ehn] at HN HO HL HBB HNE
  rw [esn] at HN HO HR HBB hl
  have hOw : O < w.heap.size := HBB.out.2.2.2.2
  clear ehn esn
  by_cases h0 : hn = 0
  · subst h0
    have HY := Lib.hid (show lyB h ss = false ∧ lyH h ss = h ∧ lyS h ss = ss by have := HN.out; simp at this; unfold lyH lyS; rw [this]; exact ⟨rfl, rfl, rfl⟩)
    obtain ⟨b0, b1, b2, b3, -⟩ := id HBB.out
    go_enter Try.func93, Try.ntmps93
    go_wp2_with fail
    go_ret
    exact ⟨by rw [HY.out.1] <;> rfl, Kept.refl _ _ _, _, _, HBB.out, by rw [HY.out.2.1, HY.out.2.2]; exact HO.out⟩
  have q0 : ¬ ((hn : Int) = 0) := by omega
  have q0' : ((hn : Int) == 0) = false := by simp [h0]
  by_cases h5 : sn = 5
  · subst h5
    have HY := Lib.hid (show lyB h ss = false ∧ lyH h ss = h ∧ lyS h ss = ss by have := HN.out; simp at this; unfold lyH lyS; rw [this]; exact ⟨rfl, rfl, rfl⟩)
    obtain ⟨b0, b1, b2, b3, -⟩ := id HBB.out
    go_enter Try.func93, Try.ntmps93
    go_wp2_with fail
    go_ret
    exact ⟨by rw [HY.out.1] <;> rfl, Kept.refl _ _ _, _, _, HBB.out, by rw [HY.out.2.1, HY.out.2.2]; exact HO.out⟩
  have q5 : ¬ ((sn : Int) = 5) := by omega
  have q5' : ((sn : Int) == 5) = false := by simp; omega
  have HY := Lib.hid (show lyB h ss = true ∧ lyH h ss = [] ∧ lyS h ss = h :: ss by have := HN.out; rw [decide_eq_false h0, decide_eq_false h5] at this; unfold lyH lyS; rw [this]; exact ⟨rfl, rfl, rfl⟩)
  obtain ⟨b0, b1, b2, b3, -⟩ := id HBB.out
  have BL := Lib.hid (((Below.refl w.heap.size w).alloc (Nat.le_refl _) (.cells #[.slice ha hn hc] 24)).drew)
  have RL := Lib.hid (show RowS w.heap.size (w.alloc (.cells #[.slice ha hn hc] 24)).drew (.slice (some ⟨w.heap.size, 0, none⟩) 1 1) [.slice ha hn hc] from row_next (RowS.lit (Nat.le_refl _) _) fun _ _ _ => rfl)
  clear HN
  go_enter Try.func93, Try.ntmps93
  go_wp2_with fail
  refine wp_region_held_drew (S := fun z => z.cell? ⟨O, 0, none⟩ = some (.slice ha hn hc) ∧ w.heap.size ≤ z.heap.size) (by kernel_rfl) ⟨b0, Nat.le_refl _⟩ (fun hHeld => ?_)
  refine wpAnyH_take (i := 0) (v := ?v0y) rfl (by kernel_rfl) (by kernel_rfl) (by kernel_rfl) (fun _ _ _ h => h) (Or.inl ⟨by rfl, ?hy0y⟩) (by assumption) ?rest0y
  case hy0y => (intro zz hSw; (try dsimp only at hSw); go_simp; (try with_reducible rfl))
  change wpAnyH _ _ _ _ _ _ _ (Act.put _ (some 17) _) _
  simp only [Act.put, List.setIfInBounds_toArray, List.set_cons_zero, List.set_cons_succ]
  refine wpAnyH_take (i := 1) (v := ?v1y) rfl (by kernel_rfl) (by kernel_rfl) (by kernel_rfl) (fun _ _ _ h => h) (Or.inl ⟨by rfl, ?hy1y⟩) (by assumption) ?rest1y
  case hy1y => (intro zz hSw; (try dsimp only at hSw); go_simp; (try with_reducible rfl))
  change wpAnyH _ _ _ _ _ _ _ (Act.put _ (some 18) _) _
  simp only [Act.put, List.setIfInBounds_toArray, List.set_cons_zero, List.set_cons_succ]
  refine wpAnyH_take (i := 2) (v := ?v2y) rfl (by kernel_rfl) (by kernel_rfl) (by kernel_rfl) (fun _ _ _ h => h) (Or.inl ⟨by rfl, ?hy2y⟩) (by assumption) ?rest2y
  case hy2y => (intro zz hSw; (try dsimp only at hSw); go_simp; (try with_reducible rfl))
  change wpAnyH _ _ _ _ _ _ _ (Act.put _ (some 19) _) _
  simp only [Act.put, List.setIfInBounds_toArray, List.set_cons_zero, List.set_cons_succ]
  refine wpAnyH_take (i := 3) (v := ?v3y) rfl (by kernel_rfl) (by kernel_rfl) (by kernel_rfl) (fun _ _ _ h => h) (Or.inl ⟨by rfl, ?hy3y⟩) (by assumption) ?rest3y
  case hy3y => (intro zz hSw; (try dsimp only at hSw); go_simp; (try with_reducible rfl))
  change wpAnyH _ _ _ _ _ _ _ (Act.put _ (some 20) _) _
  simp only [Act.put, List.setIfInBounds_toArray, List.set_cons_zero, List.set_cons_succ]
  refine wpAnyH_take (i := 4) (v := ?v4y) rfl (by kernel_rfl) (by kernel_rfl) (by kernel_rfl) (fun _ _ _ h => h) (Or.inl ⟨by rfl, ?hy4y⟩) (by assumption) ?rest4y
  case hy4y => (intro zz hSw; (try dsimp only at hSw); go_simp; (try with_reducible rfl))
  change wpAnyH _ _ _ _ _ _ _ (Act.put _ (some 21) _) _
  simp only [Act.put, List.setIfInBounds_toArray, List.set_cons_zero, List.set_cons_succ]
  refine wpAnyH_take (i := 6) (v := ?v6y) rfl (by kernel_rfl) (by kernel_rfl) (by kernel_rfl) (fun _ _ _ h => h) (Or.inl ⟨by rfl, ?hy6y⟩) (by assumption) ?rest6y
  case hy6y => (intro zz hSw; (try dsimp only at hSw); go_simp; (try with_reducible rfl))
  change wpAnyH _ _ _ _ _ _ _ (Act.put _ (some 23) _) _
  simp only [Act.put, List.setIfInBounds_toArray, List.set_cons_zero, List.set_cons_succ]
  refine wpAnyH_take (i := 7) (v := ?v7y) rfl (by kernel_rfl) (by kernel_rfl) (by kernel_rfl) (fun _ _ _ h => h) (Or.inl ⟨by rfl, ?hy7y⟩) (by assumption) ?rest7y
  case hy7y => (intro zz hSw; (try dsimp only at hSw); go_simp; (try with_reducible rfl))
  change wpAnyH _ _ _ _ _ _ _ (Act.put _ (some 24) _) _
  simp only [Act.put, List.setIfInBounds_toArray, List.set_cons_zero, List.set_cons_succ]
  refine wpAnyH_take (i := 8) (v := ?v8y) rfl (by kernel_rfl) (by kernel_rfl) (by kernel_rfl) (fun _ _ _ h => h) (Or.inl ⟨by rfl, ?hy8y⟩) (by assumption) ?rest8y
  case hy8y => (intro zz hSw; (try dsimp only at hSw); go_simp; (try with_reducible rfl))
  change wpAnyH _ _ _ _ _ _ _ (Act.put _ (some 25) _) _
  simp only [Act.put, List.setIfInBounds_toArray, List.set_cons_zero, List.set_cons_succ]
  refine wpAnyH_ready (rs := [5, 9]) (by kernel_rfl) (by simp) (AllReadyH.cons rfl (fun K hK => ?_) (AllReadyH.cons rfl (fun K hK => ?_) (AllReadyH.nil)))
  · skip
    go_simp
    refine hK.out _ _ ⟨coc BL.out hOw b0, BL.out.size⟩ (fun hHeld => ?_)
    clear hK K
    refine wpAnyH_ready (rs := [9]) (by kernel_rfl) (by simp) (AllReadyH.cons rfl (fun K hK => ?_) (AllReadyH.nil))
    have lo := (coc BL.out hOw b1)
    go_simp
    refine hK.out _ _ hHeld (fun hHeld => ?_)
    clear hK K lo
    refine wpAnyH_ready (rs := [10]) (by kernel_rfl) (by simp) (AllReadyH.cons rfl (fun K hK => ?_) (AllReadyH.nil))
    refine step_append_rows rfl (.tmp 22) (.tmp 26) rfl (base := w.heap.size) (us := [.slice ha hn hc]) (ms := us) rfl rfl RL.out (HR.out.next BL.out) H1.out (by have := HUL.out; simp only [List.length_singleton]; omega) BL.out.size ?_
    intro v6 w6 r6 g6 n6
    have B6 := Lib.hid (BL.out.grown g6 BL.out.size (fun j hj => by cases hj; exact Nat.le_refl _))
    have R6 := Lib.hid r6
    obtain ⟨v6a, v6c, ev, -, -, -, -⟩ := r6.form
    subst ev
    refine hK.out _ _ ⟨coc B6.out hOw b0, B6.out.size⟩ (fun hHeld => ?_)
    clear hK K r6 g6 n6
    change wpAnyH _ _ _ _ _ _ _ (Act.put _ (some 27) _) _
    simp only [Act.put, List.setIfInBounds_toArray, List.set_cons_zero, List.set_cons_succ]
    refine wpAnyH_take (i := 11) (v := ?v11yx) rfl (by kernel_rfl) (by kernel_rfl) (by kernel_rfl) (fun _ _ _ h => h) (Or.inl ⟨by rfl, ?hy11yx⟩) (by assumption) ?rest11yx
    case hy11yx => (intro zz hSw; (try dsimp only at hSw); go_simp; (try with_reducible rfl))
    change wpAnyH _ _ _ _ _ _ _ (Act.put _ (some 28) _) _
    simp only [Act.put, List.setIfInBounds_toArray, List.set_cons_zero, List.set_cons_succ]
    refine wpAnyH_take (i := 12) (v := ?v12yx) rfl (by kernel_rfl) (by kernel_rfl) (by kernel_rfl) (fun _ _ _ h => h) (Or.inl ⟨by rfl, ?hy12yx⟩) (by assumption) ?rest12yx
    case hy12yx => (intro zz hSw; (try dsimp only at hSw); go_simp; (try with_reducible rfl))
    change wpAnyH _ _ _ _ _ _ _ (Act.put _ (some 29) _) _
    simp only [Act.put, List.setIfInBounds_toArray, List.set_cons_zero, List.set_cons_succ]
    refine wpAnyH_ready (rs := [13]) (by kernel_rfl) (by simp) (AllReadyH.cons rfl (fun K hK => ?_) (AllReadyH.nil))
    have D6 := Lib.hid (HBB.out.next B6.out)
    obtain ⟨d0, d1, d2, d3, d4⟩ := id D6.out
    generalize ([Value.slice ha hn hc] ++ us).length = vl at *
    go_simp
    refine hK.out _ _ ⟨(World.cell?_setCell_other _ _ _ _ (by simp)).trans d0, by rw [World.size_setCell]; exact B6.out.size⟩ (fun hHeld => ?_)
    clear hK K d0 d1 d2 d3 d4
    refine wpAnyH_done (by kernel_rfl) ?_ _
    clear hHeld
    have D7 := Lib.hid (D6.out.set1 (.slice v6a vl v6c))
    have K7 := Lib.hid ((Kept.of_below (F := fun k => k = O) (g := none) B6.out).trans (Kept.set (F := fun k => k = O) (g := none) (p := ⟨O, 1, none⟩) rfl (.slice v6a vl v6c)))
    have R7 := Lib.hid (R6.out.put (p := ⟨O, 1, none⟩) hOw (.slice v6a vl v6c))
    generalize w6.setCell ⟨O, 1, none⟩ (.slice v6a vl v6c) = Z at *
    obtain ⟨e0, e1, e2, e3, e4⟩ := id D7.out
    have EE := Lib.hid (ly_end HL.out R7.out K7.out D7.out HNE.out hOw hB)
    go_wp2_with fail
    go_ret
    exact ⟨by rw [HY.out.1] <;> rfl, EE.out.1, _, _, EE.out.2.1, by rw [HY.out.2.1, HY.out.2.2]; exact EE.out.2.2⟩
  · skip
    have lo := (show w.drew.cell? ⟨O, 1, none⟩ = some (.slice sa sn sc) from b1)
    go_simp
    refine hK.out _ _ hHeld (fun hHeld => ?_)
    clear hK K lo
    refine wpAnyH_ready (rs := [5]) (by kernel_rfl) (by simp) (AllReadyH.cons rfl (fun K hK => ?_) (AllReadyH.nil))
    go_simp
    refine hK.out _ _ ⟨coc BL.out hOw b0, BL.out.size⟩ (fun hHeld => ?_)
    clear hK K
    refine wpAnyH_ready (rs := [10]) (by kernel_rfl) (by simp) (AllReadyH.cons rfl (fun K hK => ?_) (AllReadyH.nil))
    refine step_append_rows rfl (.tmp 22) (.tmp 26) rfl (base := w.heap.size) (us := [.slice ha hn hc]) (ms := us) rfl rfl RL.out (HR.out.next BL.out) H1.out (by have := HUL.out; simp only [List.length_singleton]; omega) BL.out.size ?_
    intro v6 w6 r6 g6 n6
    have B6 := Lib.hid (BL.out.grown g6 BL.out.size (fun j hj => by cases hj; exact Nat.le_refl _))
    have R6 := Lib.hid r6
    obtain ⟨v6a, v6c, ev, -, -, -, -⟩ := r6.form
    subst ev
    refine hK.out _ _ ⟨coc B6.out hOw b0, B6.out.size⟩ (fun hHeld => ?_)
    clear hK K r6 g6 n6
    change wpAnyH _ _ _ _ _ _ _ (Act.put _ (some 27) _) _
    simp only [Act.put, List.setIfInBounds_toArray, List.set_cons_zero, List.set_cons_succ]
    refine wpAnyH_take (i := 11) (v := ?v11yy) rfl (by kernel_rfl) (by kernel_rfl) (by kernel_rfl) (fun _ _ _ h => h) (Or.inl ⟨by rfl, ?hy11yy⟩) (by assumption) ?rest11yy
    case hy11yy => (intro zz hSw; (try dsimp only at hSw); go_simp; (try with_reducible rfl))
    change wpAnyH _ _ _ _ _ _ _ (Act.put _ (some 28) _) _
    simp only [Act.put, List.setIfInBounds_toArray, List.set_cons_zero, List.set_cons_succ]
    refine wpAnyH_take (i := 12) (v := ?v12yy) rfl (by kernel_rfl) (by kernel_rfl) (by kernel_rfl) (fun _ _ _ h => h) (Or.inl ⟨by rfl, ?hy12yy⟩) (by assumption) ?rest12yy
    case hy12yy => (intro zz hSw; (try dsimp only at hSw); go_simp; (try with_reducible rfl))
    change wpAnyH _ _ _ _ _ _ _ (Act.put _ (some 29) _) _
    simp only [Act.put, List.setIfInBounds_toArray, List.set_cons_zero, List.set_cons_succ]
    refine wpAnyH_ready (rs := [13]) (by kernel_rfl) (by simp) (AllReadyH.cons rfl (fun K hK => ?_) (AllReadyH.nil))
    have D6 := Lib.hid (HBB.out.next B6.out)
    obtain ⟨d0, d1, d2, d3, d4⟩ := id D6.out
    generalize ([Value.slice ha hn hc] ++ us).length = vl at *
    go_simp
    refine hK.out _ _ ⟨(World.cell?_setCell_other _ _ _ _ (by simp)).trans d0, by rw [World.size_setCell]; exact B6.out.size⟩ (fun hHeld => ?_)
    clear hK K d0 d1 d2 d3 d4
    refine wpAnyH_done (by kernel_rfl) ?_ _
    clear hHeld
    have D7 := Lib.hid (D6.out.set1 (.slice v6a vl v6c))
    have K7 := Lib.hid ((Kept.of_below (F := fun k => k = O) (g := none) B6.out).trans (Kept.set (F := fun k => k = O) (g := none) (p := ⟨O, 1, none⟩) rfl (.slice v6a vl v6c)))
    have R7 := Lib.hid (R6.out.put (p := ⟨O, 1, none⟩) hOw (.slice v6a vl v6c))
    generalize w6.setCell ⟨O, 1, none⟩ (.slice v6a vl v6c) = Z at *
    obtain ⟨e0, e1, e2, e3, e4⟩ := id D7.out
    have EE := Lib.hid (ly_end HL.out R7.out K7.out D7.out HNE.out hOw hB)
    go_wp2_with fail
    go_ret
    exact ⟨by rw [HY.out.1] <;> rfl, EE.out.1, _, _, EE.out.2.1, by rw [HY.out.2.1, HY.out.2.2]; exact EE.out.2.2⟩
end Go.Proofs.Ytkkpokfekbdigaa.Cl
