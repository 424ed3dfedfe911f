/-
  Folding values: contract of the second instance of impl.folded. (Made by gen_yi.py.)
-/
import Derived.Test.YtfnnoehpahdgcaaGreatDoorYi
namespace Go.Proofs.YtfnnoehpahdgcaaGreatDoor.Cl
open Go.RowKit Wd Rp Kp Ra Go.Shelf
attribute [local go_sem] Oper.semAt_some
set_option linter.unusedVariables false
def csO (p : Int × Bool) : List Value := [.int .i64 p.1, .bool p.2]
theorem csO_len : ∀ l : List (Int × Bool), (l.flatMap csO).length = l.length * 2
  | [] => rfl
  | c :: l => by rw [List.flatMap_cons, List.length_append, csO_len l, List.length_cons]; show 2 + l.length * 2 = _; omega
theorem infoOutP : (Tryz.prog.info? 144).map (fun i => (i.zero, i.size, i.bytes)) = some (some (.agg #[.int .i64 0, .bool false]), 2, 16) := by kernel_rfl
theorem lit_news2 (w : World) (x y : Value) (T : TypeId) : ∀ (j : Nat) (u : Value), [x, y][j]? = some u → (w.alloc (.cells #[x, y] T)).cell? ((⟨w.heap.size, 0, none⟩ : Addr).add j) = some u := fun j u hj => by
  obtain ⟨h0, h1, -, -⟩ := two_cells (new_of w (.cells #[x, y] T))
  match j, hj with
  | 0, hj => simp at hj; subst hj; exact h0
  | 1, hj => simp at hj; subst hj; exact h1
theorem topO {w : World} {B g k cap : Nat} {T : TypeId} {r : List (Int × Bool)} {a b : Int × Bool} (h : w.ownsRow B T 2 (.slice (some ⟨g, 0, none⟩) (k + 1 + 1) cap) (k + 1 + 1) ((r ++ [b, a]).flatMap csO)) (hk : r.length = k) :
    (w.cell? ⟨g, (k + 1) * 2, none⟩ = some (.int .i64 a.1) ∧ w.cell? ⟨g, (k + 1) * 2 + 1, none⟩ = some (.bool a.2)) ∧ (w.cell? ⟨g, k * 2, none⟩ = some (.int .i64 b.1) ∧ w.cell? ⟨g, k * 2 + 1, none⟩ = some (.bool b.2)) ∧ w.frozen? ⟨g, k * 2, none⟩ = false ∧ w.frozen? ⟨g, k * 2 + 1, none⟩ = false := by
  have e : (r ++ [b, a]).flatMap csO = r.flatMap csO ++ [.int .i64 b.1, .bool b.2, .int .i64 a.1, .bool a.2] := by rw [List.flatMap_append]; rfl
  have hl := csO_len r
  rw [hk] at hl
  have key : ∀ j, j < 4 → w.cell? ⟨g, k * 2 + j, none⟩ = [Value.int .i64 b.1, .bool b.2, .int .i64 a.1, .bool a.2][j]? := fun j hj => by
    rw [World.ownsRow.cellAt h (k * 2 + j) (by omega), e, List.getElem?_append_right (by omega), show k * 2 + j - (r.flatMap csO).length = j by omega]
  refine ⟨⟨?_, ?_⟩, ⟨key 0 (by decide), key 1 (by decide)⟩, World.ownsRow.frozenAt h _, World.ownsRow.frozenAt h _⟩
  · have := key 2 (by decide); rwa [show k * 2 + 2 = (k + 1) * 2 by omega] at this
  · have := key 3 (by decide); rwa [show k * 2 + 3 = (k + 1) * 2 + 1 by omega] at this
theorem putO {k : Nat} {r : List (Int × Bool)} {a b x : Int × Bool} (hk : r.length = k) : (r ++ [x]).flatMap csO = ((((r ++ [b, a]).flatMap csO).set (k * 2) (.int .i64 x.1)).set (k * 2 + 1) (.bool x.2)).take ((k + 1) * 2) := by
  have hl := csO_len r
  rw [hk] at hl
  have e : (r ++ [b, a]).flatMap csO = r.flatMap csO ++ [.int .i64 b.1, .bool b.2, .int .i64 a.1, .bool a.2] := by rw [List.flatMap_append]; rfl
  have e2 : (r ++ [x]).flatMap csO = r.flatMap csO ++ [.int .i64 x.1, .bool x.2] := by rw [List.flatMap_append]; rfl
  rw [e, e2]
  generalize r.flatMap csO = m at *
  rw [List.set_append_right _ _ (by omega), List.set_append_right _ _ (by omega), hl, Nat.sub_self, show k * 2 + 1 - k * 2 = 1 by omega]
  rw [show (k + 1) * 2 = m.length + 2 by omega, List.take_length_add_append]; rfl
set_option maxHeartbeats 8000000 in
set_option maxRecDepth 100000 in
theorem foldedOut_any (f : Tk → (Int × Bool)) (g : Nat → (Int × Bool) → (Int × Bool) → (Int × Bool)) (w : World) (a : Option Addr) (cap n : Nat) (t : List Tk) (hn : t.length = n) (hv : V1 w a cap (txL t)) (hl : n ≤ 4194304) (hm : ∀ s ∈ t, s.length ≤ 4194304) (hL : Lib3 w) (hen : en t 1 = some t.length)
    (f1 f2 : Nat) (lb1 : Array Value) (he1 : ∀ args z, (callFunc f1 args).run Tryz.prog z = .ok (.enter f1 args) z) (he2 : ∀ args z, (callFunc f2 args).run Tryz.prog z = .ok (.enter f2 args) z)
    (hone : ∀ (s : Tk) (W : World), s ∈ t → isL s = true → Below w.heap.size w W → Calls Tryz.prog f1 (#[sgV s] ++ lb1) W fun e w' => e = .returned (.agg #[.int .i64 (f s).1, .bool (f s).2]) ∧ Below W.heap.size W w')
    (htwo : ∀ (o : Nat) (x y : (Int × Bool)) (W : World), 1 ≤ o → o ≤ 7 → Calls Tryz.prog f2 #[.int .i64 o, .agg #[.int .i64 x.1, .bool x.2], .agg #[.int .i64 y.1, .bool y.2]] W fun e w' => e = .returned (.agg #[.int .i64 (g o x y).1, .bool (g o x y).2]) ∧ Below W.heap.size W w') :
    Calls Tryz.prog 136 #[.slice a n cap, .func (.func f1) #[] lb1, .func (.func f2) #[] #[]] w fun e w' => ∃ r, stk f g t = [r] ∧ e = .returned (.agg #[.int .i64 r.1, .bool r.2]) ∧ Below w.heap.size w w' := by
  have HN := Lib.hid hn
  have HV := Lib.hid hv
  have HM := Lib.hid hm
  have HL := Lib.hid hL
  have HEN := Lib.hid hen
  have HONE := Lib.hid hone
  have HTWO := Lib.hid htwo
  have hn1 : 1 ≤ n := by have := en_pos hen; omega
  clear hv hm hL hen hone htwo
  obtain ⟨i0, hi, hz0, hz1, hz2⟩ := info_parts infoOutP
  obtain ⟨c00, hc00⟩ : ∃ c, t[0]? = some c := ⟨t[0]'(by omega), List.getElem?_eq_getElem _⟩
  obtain ⟨ga, go, rfl, hga, -⟩ := HV.out.tx hc00
  clear hc00
  have qn0 : ((n : Int) == 0) = false := by rw [beq_eq_false_iff_ne]; omega
  generalize hq : w.heap.size = q at *
  generalize hF1 : Value.func (Fn.func f1) #[] lb1 = F1
  generalize hF2 : Value.func (Fn.func f2) #[] #[] = F2
  have H0 := Lib.hid ((bel3 w (.cells #[F1] 146) (.cells #[F2] 148) (.cells #[.int .i64 0, .bool false] 144)).alloc (bel3 w (.cells #[F1] 146) (.cells #[F2] 148) (.cells #[.int .i64 0, .bool false] 144)).size (.cells #[.slice none 0 0] 160))
  have hz3 : ((((w.alloc (.cells #[F1] 146)).alloc (.cells #[F2] 148)).alloc (.cells #[.int .i64 0, .bool false] 144)).alloc (.cells #[.slice none 0 0] 160)).heap.size = q + 4 := by simp [hq]
  have hb3 : ((((w.alloc (.cells #[F1] 146)).alloc (.cells #[F2] 148)).alloc (.cells #[.int .i64 0, .bool false] 144)).alloc (.cells #[.slice none 0 0] 160)).heap[q]? = some (.cells #[F1] 146 (0, 0)) ∧
      ((((w.alloc (.cells #[F1] 146)).alloc (.cells #[F2] 148)).alloc (.cells #[.int .i64 0, .bool false] 144)).alloc (.cells #[.slice none 0 0] 160)).heap[q + 1]? = some (.cells #[F2] 148 (0, 0)) ∧
      ((((w.alloc (.cells #[F1] 146)).alloc (.cells #[F2] 148)).alloc (.cells #[.int .i64 0, .bool false] 144)).alloc (.cells #[.slice none 0 0] 160)).heap[q + 1 + 1]? = some (.cells #[.int .i64 0, .bool false] 144 (0, 0)) ∧
      ((((w.alloc (.cells #[F1] 146)).alloc (.cells #[F2] 148)).alloc (.cells #[.int .i64 0, .bool false] 144)).alloc (.cells #[.slice none 0 0] 160)).heap[q + 1 + 1 + 1]? = some (.cells #[.slice none 0 0] 160 (0, 0)) := by
    subst hq
    have e0 := new_of w (.cells #[F1] 146)
    have e1 := new_of (w.alloc (.cells #[F1] 146)) (.cells #[F2] 148)
    have e2 := new_of ((w.alloc (.cells #[F1] 146)).alloc (.cells #[F2] 148)) (.cells #[.int .i64 0, .bool false] 144)
    have e3 := new_of (((w.alloc (.cells #[F1] 146)).alloc (.cells #[F2] 148)).alloc (.cells #[.int .i64 0, .bool false] 144)) (.cells #[.slice none 0 0] 160)
    have b1 := bel1 (w.alloc (.cells #[F1] 146)) (.cells #[F2] 148)
    have b2 := bel1 ((w.alloc (.cells #[F1] 146)).alloc (.cells #[F2] 148)) (.cells #[.int .i64 0, .bool false] 144)
    have b3 := bel1 (((w.alloc (.cells #[F1] 146)).alloc (.cells #[F2] 148)).alloc (.cells #[.int .i64 0, .bool false] 144)) (.cells #[.slice none 0 0] 160)
    simp only [World.size_alloc] at e1 e2 e3 b1 b2 b3
    exact ⟨((b3.block _ (by omega)).trans ((b2.block _ (by omega)).trans ((b1.block _ (by omega)).trans e0))), ((b3.block _ (by omega)).trans ((b2.block _ (by omega)).trans e1)), ((b3.block _ (by omega)).trans e2), e3⟩
  have HB3 := Lib.hid hb3; clear hb3
  rw [hq] at H0
  generalize hw3 : ((((w.alloc (.cells #[F1] 146)).alloc (.cells #[F2] 148)).alloc (.cells #[.int .i64 0, .bool false] 144)).alloc (.cells #[.slice none 0 0] 160)) = w3 at *
  have hb4 := bel1 w3 (.cells #[.slice (some ⟨ga, go, none⟩) n cap] 24)
  have hz4 : (w3.alloc (.cells #[.slice (some ⟨ga, go, none⟩) n cap] 24)).heap.size = q + 4 + 1 := by simp [hz3]
  have HX4 := Lib.hid (new_of w3 (.cells #[.slice (some ⟨ga, go, none⟩) n cap] 24))
  generalize hw4 : w3.alloc (.cells #[.slice (some ⟨ga, go, none⟩) n cap] 24) = w4 at *
  rw [hz3] at hb4 HX4
  have B4 := Lib.hid (H0.out.trans (hb4.mono (by omega)))
  obtain ⟨x0, x1, xr, x2⟩ := HB3.out
  have C0 := Lib.hid ((Bq.of x0).same (hb4.block _ (by omega))).1
  have C1 := Lib.hid ((Bq.of x1).same (hb4.block _ (by omega))).1
  have XM := Lib.hid ((Bq.of x2).same (hb4.block _ (by omega)))
  have XR := Lib.hid ((hb4.block (q + 1 + 1) (by omega)).trans xr)
  have HHA := Lib.hid (backward1_hands (fun k => k = q + 1 + 1 + 1) w4.heap.size (q + 4) (some ⟨ga, go, none⟩) cap n t HN.out hl w4 (by omega) (Nat.le_refl _) (Bq.of HX4.out).1 (fun k c hk => by
      obtain ⟨g', o', e, hg, hc⟩ := HV.out.tx hk
      exact ⟨g', o', e, by omega, (World.cell?_of_block (w := w) (B4.out.block g' (by rw [hq] at hg; exact hg))).trans hc⟩) (fun g' o' e _ e2 => by cases e; omega) (by omega) (by omega))
  clear x0 x1 x2 HB3 H0 HX4 xr hb4
  have HWE := Lib.hid (show w3.alloc (.cells #[.slice (some ⟨ga, go, none⟩) n cap] 24) = w4 from hw4)
  have HBK := Lib.hid (backward_any (some ⟨ga, go, none⟩) n cap w3)
  rw [HWE.out, hz3] at HBK
  refine (callsIn_wide (n := 9)).1 (callsIn_of_wp_marks Tryz.func136 rfl trivial ?_ rfl)
  simp only [Tryz.ntmps136, List.size_toArray, List.length_cons, List.length_nil, Nat.reduceAdd, Nat.reduceSub, Array.replicate_succ, Array.replicate_zero, List.push_toArray, List.append_toArray, List.nil_append, List.cons_append]
  gi_wp2_with fail
  rw [hw3]
  refine ⟨trivial, (callsIn_wide.2 HBK.out).mono ?_⟩
  rintro e w5 ⟨rfl, rfl⟩
  clear hw3 hw4 HWE HBK
  gi_wp2_with fail
  refine loop_hands22 20 21 10 rfl (enters_of Tryz.func159 (by kernel_rfl) rfl) (bkL_two t) HHA.out (Below.refl _ _) (fun k hk => by have : k = q + 1 + 1 + 1 := hk; omega) (Fld 144 2 csO (plP f g t) q (q + 1 + 1 + 1) w5.heap.size F1 F2 w w5) (fun _ _ _ => False) ?_ ?_ ?_ ?_ ?_ ?_ ?_
  · rintro s W W' row ⟨h1, sv, ho, hr, hg, hb, hc0, hc1, hsm⟩ hgr hrow
    have hbb : Below w5.heap.size W W' := (Below.refl _ W).grown hgr h1 (fun k e => (hrow k e).1)
    refine ⟨Nat.le_trans h1 hgr.size, sv, ho.same (hbb.block _ (by omega)), row_next hr fun k hk hlt => hgr.block k hlt (fun e => ?_), hg, hb.trans (hbb.mono (by omega)), (World.cell?_of_block (w := W) (hbb.block q (by omega))).trans hc0, (World.cell?_of_block (w := W) (hbb.block (q + 1) (by omega))).trans hc1, fun k hk hne => (hbb.block k hk).trans (hsm k hk hne)⟩
    obtain ⟨-, o, ho2, hc⟩ := hrow k e.symm
    rw [cells_of_row hr hk o ho2] at hc; cases hc
  · exact fun k => fun _ _ _ _ h _ _ => h
  · exact ⟨Nat.le_refl _, .slice none 0 0, XM.out, (show w5.ownsRow w5.heap.size 144 2 (.slice none 0 0) (plP f g t 0).length ((plP f g t 0).flatMap csO) from by rw [plP_zero]; exact World.ownsRow_nil w5 _ _ _), rfl, B4.out, C0.out, C1.out, fun _ _ _ => rfl⟩
  · intro l m x y W K hK
    simp only [List.setIfInBounds_toArray, List.set_cons_zero, List.set_cons_succ] at hK ⊢
    gi_wp2
    exact hK
  · rintro l2 m pre x y gg W hpre hsz1 ⟨hs1, sv, ho, hr, hg, hb, hc0, hc1, hsm⟩
    obtain ⟨hj, hxy⟩ := pre_bk hpre
    replace hg : sv.ownBlock = gg := hg
    replace hr : W.ownsRow w5.heap.size 144 2 sv (plP f g t pre.length).length ((plP f g t pre.length).flatMap csO) := hr
    simp only [List.setIfInBounds_toArray, List.set_cons_zero, List.set_cons_succ]
    obtain ⟨c, hc⟩ : ∃ c, t[t.length - 1 - pre.length]? = some c := ⟨t[t.length - 1 - pre.length]'(by omega), List.getElem?_eq_getElem _⟩
    obtain rfl : y = .string (tx c) := by
      unfold bkI at hxy
      rw [List.getD_eq_getElem?_getD, hc] at hxy
      have := congrArg (fun z : Array Value => z[1]?) hxy
      simpa [tv] using this
    have hcm := List.mem_of_getElem? hc
    have HS := Lib.hid (signOf_any c W (HL.out.carry hb (by rw [← hq]; exact ⟨HL.out.2.2.2.1, HL.out.2.2.2.2.1, HL.out.2.2.2.2.2⟩)) (HM.out c hcm))
    have HPL := Lib.hid (plP_len f g t pre.length)
    have HO := Lib.hid ho
    have HR := Lib.hid hr
    have HB := Lib.hid hb
    have HG := Lib.hid hg
    have HC0 := Lib.hid hc0
    have HC1 := Lib.hid hc1
    have HSM := Lib.hid hsm; clear hsm
    clear ho hr hb hg hc0 hc1 hxy
    cases hio : isO c
    · have hil := ((stk_two f g HEN.out).2 _ c hc).2 hio
      obtain ⟨Ts, vs, hsv, hta⟩ := sgV_leaf hil
      have HF := Lib.hid (fun W' (hW : Below q w W') => HONE.out c W' hcm hil hW)
      rw [hsv] at HS HF
      have HP1 := Lib.hid (plP_leaf f g hj hc hio)
      have HGI := Lib.hid (And.intro hj hc)
      clear hsv hil hio hcm hc
      generalize plP f g t pre.length = pl at *
      generalize tx c = xs at *
      gi_wp2_with fail
      refine ⟨trivial, (fun h => by cases h), (CallsIn.inRound l2 (callsIn_wide.2 HS.out)).mono ?_⟩
      rintro e w6 ⟨rfl, b6⟩
      have B6 := Lib.hid b6; clear b6
      gi_wp2_with fail
      subst hF1
      have O6 := Lib.hid (HO.out.same (B6.out.block (q + 1 + 1 + 1) (by omega)))
      have R6 := Lib.hid (row_next HR.out fun g _ hlt => B6.out.block g hlt)
      have z6 := B6.out.size
      have D6 := Lib.hid (bel_drewN B6.out 1)
      have hf6 := HF.out w6.drew (HB.out.trans (D6.out.mono (by omega)))
      have HF6 := Lib.hid hf6; clear hf6
      have HS6 := Lib.hid (show w6.drew.cell? ⟨q, 0, none⟩ = some (.func (.func f1) #[] lb1) from (World.cell?_of_block (w := W) (B6.out.block q (by omega))).trans HC0.out)
      refine wpIn_region_held (S := fun z => z.cell? ⟨q, 0, none⟩ = some (.func (.func f1) #[] lb1)) (by kernel_rfl) (defers_none (by kernel_rfl)) (fun _ _ h => h) HS6.out (fun hHeld => ?_)
      refine wpAnyH_take (i := 1) (v := ?v1t) rfl (by kernel_rfl) (by kernel_rfl) (by kernel_rfl) (fun _ _ _ h => h) (Or.inl ⟨by rfl, ?hy1t⟩) (by assumption) ?rest1t
      case hy1t => (intro zz hSw; (try dsimp only at hSw); go_simp; (try with_reducible rfl))
      change wpAnyH _ _ _ _ _ _ _ (Act.put _ (some 25) _) _
      simp only [Act.put, List.setIfInBounds_toArray, List.set_cons_zero, List.set_cons_succ]
      refine wpAnyH_take (i := 2) (v := ?v2t) rfl (by kernel_rfl) (by kernel_rfl) (by kernel_rfl) (fun _ _ _ h => h) (Or.inl ⟨by rfl, ?hy2t⟩) (by assumption) ?rest2t
      case hy2t => (intro zz hSw; (try dsimp only at hSw); go_simp; (try with_reducible rfl))
      change wpAnyH _ _ _ _ _ _ _ (Act.put _ (some 26) _) _
      simp only [Act.put, List.setIfInBounds_toArray, List.set_cons_zero, List.set_cons_succ]
      refine wpAnyH_ready (rs := [0, 3]) (by kernel_rfl) (by simp) (AllReadyH.cons rfl (fun K hK => ?_) (AllReadyH.cons rfl (fun K hK => ?_) (AllReadyH.nil)))
      · skip
        obtain ⟨lo, -, -⟩ := O6.out.drew
        go_simp
        refine hK.out _ _ hHeld (fun hHeld => ?_)
        clear hK K lo
        refine wpAnyH_ready (rs := [3]) (by kernel_rfl) (by simp) (AllReadyH.cons rfl (fun K hK => ?_) (AllReadyH.nil))
        go_simp
        refine HF6.out.mono ?_; rintro e w7 ⟨rfl, b7⟩
        have B7 := Lib.hid (bel_tr D6.out b7 (Nat.le_refl _))
        have z7 : w6.heap.size ≤ w7.heap.size := b7.size
        have O7 := Lib.hid (O6.out.drew.next b7)
        have R7 := Lib.hid (row_next R6.out fun g _ hlt => b7.block g hlt)
        have HS7 := Lib.hid ((World.cell?_of_block (w := w6.drew) (b7.block q (show q < w6.heap.size by omega))).trans HS6.out)
        have B8 := Lib.hid (bel_tr B7.out (bel1 w7 (.cells #[.int .i64 (f c).1, .bool (f c).2] 144)) (Nat.le_refl _))
        have O8 := Lib.hid (O7.out.next (bel1 w7 (.cells #[.int .i64 (f c).1, .bool (f c).2] 144)))
        have R8 := Lib.hid (row_next R7.out fun g _ hlt => (bel1 w7 (.cells #[.int .i64 (f c).1, .bool (f c).2] 144)).block g hlt)
        have N8 := Lib.hid (new_of w7 (.cells #[.int .i64 (f c).1, .bool (f c).2] 144))
        have HS8 := Lib.hid ((World.cell?_of_block (w := w7) ((bel1 w7 (.cells #[.int .i64 (f c).1, .bool (f c).2] 144)).block q (show q < w7.heap.size by omega))).trans HS7.out)
        clear b7
        refine hK.out _ _ HS7.out (fun hHeld => ?_)
        clear hK K
        refine wpAnyH_ready (rs := [4]) (by kernel_rfl) (by simp) (AllReadyH.cons rfl (fun K hK => ?_) (AllReadyH.nil))
        go_simp
        refine hK.out _ _ HS8.out (fun hHeld => ?_)
        clear hK K
        refine wpAnyH_ready (rs := [5]) (by kernel_rfl) (by simp) (AllReadyH.cons rfl (fun K hK => ?_) (AllReadyH.nil))
        refine step_append_row rfl (.tmp 24) (.tmp 28) 160 144 i0 _ 2 _ Tryz.underlying160 hi hz0 hz1 hz2 rfl (by decide) rfl (base := w5.heap.size) (v := sv) (ad := ⟨w7.heap.size, 0, none⟩) (n := pl.length) (m := 1) (news := csO (f c)) rfl rfl R8.out rfl (by exact lit_news2 w7 _ _ _) (by intro u hu; simp [csO] at hu; rcases hu with rfl | rfl <;> rfl) (by have := HPL.out; unfold maxLen; omega) (by have := HPL.out; omega) (by simp; omega) ?_
        intro v9 w9 r9 g9 n9
        obtain ⟨v9a, v9c, ev⟩ := row_view r9
        subst ev
        have N9 := Lib.hid (And.intro r9 (And.intro g9 n9))
        have O9 := Lib.hid (O8.out.same (g9.block _ (show q + 1 + 1 + 1 < (w7.alloc (.cells #[.int .i64 (f c).1, .bool (f c).2] 144)).heap.size by simp; omega) (fun e => by have := (World.ownsRow.lt HR.out _ e.symm).1; omega)))
        have HS9 := Lib.hid (gcellq g9 (show q < (w7.alloc (.cells #[.int .i64 (f c).1, .bool (f c).2] 144)).heap.size by simp; omega) (fun e => by have := (World.ownsRow.lt HR.out _ e.symm).1; omega) HS8.out)
        clear r9 g9 n9
        refine hK.out _ _ HS9.out (fun hHeld => ?_)
        clear hK K
        change wpAnyH _ _ _ _ _ _ _ (Act.put _ (some 29) _) _
        simp only [Act.put, List.setIfInBounds_toArray, List.set_cons_zero, List.set_cons_succ]
        refine wpAnyH_ready (rs := [6]) (by kernel_rfl) (by simp) (AllReadyH.cons rfl (fun K hK => ?_) (AllReadyH.nil))
        have hcz := O9.out.1
        have hfz := O9.out.2.1
        go_simp
        refine hK.out _ _ (csetq (show q ≠ q + 1 + 1 + 1 by omega) HS9.out) (fun hHeld => ?_)
        clear hK K hcz hfz
        refine wpAnyH_done (by kernel_rfl) ?_ _
        exact fl_end { tmps := #[], defers := [] } B8.out hs1 HO.out HR.out HG.out HB.out HC0.out HC1.out HSM.out (by omega) (by omega) N9.out.1 N9.out.2.1 N9.out.2.2 (by rw [HP1.out, List.length_append]; rfl) (by rw [HP1.out, List.flatMap_append]; simp)
      · skip
        go_simp
        refine HF6.out.mono ?_; rintro e w7 ⟨rfl, b7⟩
        have B7 := Lib.hid (bel_tr D6.out b7 (Nat.le_refl _))
        have z7 : w6.heap.size ≤ w7.heap.size := b7.size
        have O7 := Lib.hid (O6.out.drew.next b7)
        have R7 := Lib.hid (row_next R6.out fun g _ hlt => b7.block g hlt)
        have HS7 := Lib.hid ((World.cell?_of_block (w := w6.drew) (b7.block q (show q < w6.heap.size by omega))).trans HS6.out)
        have B8 := Lib.hid (bel_tr B7.out (bel1 w7 (.cells #[.int .i64 (f c).1, .bool (f c).2] 144)) (Nat.le_refl _))
        have O8 := Lib.hid (O7.out.next (bel1 w7 (.cells #[.int .i64 (f c).1, .bool (f c).2] 144)))
        have R8 := Lib.hid (row_next R7.out fun g _ hlt => (bel1 w7 (.cells #[.int .i64 (f c).1, .bool (f c).2] 144)).block g hlt)
        have N8 := Lib.hid (new_of w7 (.cells #[.int .i64 (f c).1, .bool (f c).2] 144))
        have HS8 := Lib.hid ((World.cell?_of_block (w := w7) ((bel1 w7 (.cells #[.int .i64 (f c).1, .bool (f c).2] 144)).block q (show q < w7.heap.size by omega))).trans HS7.out)
        clear b7
        refine hK.out _ _ HS7.out (fun hHeld => ?_)
        clear hK K
        refine wpAnyH_ready (rs := [0, 4]) (by kernel_rfl) (by simp) (AllReadyH.cons rfl (fun K hK => ?_) (AllReadyH.cons rfl (fun K hK => ?_) (AllReadyH.nil)))
        · skip
          obtain ⟨lo, -, -⟩ := O7.out
          go_simp
          refine hK.out _ _ hHeld (fun hHeld => ?_)
          clear hK K lo
          refine wpAnyH_ready (rs := [4]) (by kernel_rfl) (by simp) (AllReadyH.cons rfl (fun K hK => ?_) (AllReadyH.nil))
          go_simp
          refine hK.out _ _ HS8.out (fun hHeld => ?_)
          clear hK K
          refine wpAnyH_ready (rs := [5]) (by kernel_rfl) (by simp) (AllReadyH.cons rfl (fun K hK => ?_) (AllReadyH.nil))
          refine step_append_row rfl (.tmp 24) (.tmp 28) 160 144 i0 _ 2 _ Tryz.underlying160 hi hz0 hz1 hz2 rfl (by decide) rfl (base := w5.heap.size) (v := sv) (ad := ⟨w7.heap.size, 0, none⟩) (n := pl.length) (m := 1) (news := csO (f c)) rfl rfl R8.out rfl (by exact lit_news2 w7 _ _ _) (by intro u hu; simp [csO] at hu; rcases hu with rfl | rfl <;> rfl) (by have := HPL.out; unfold maxLen; omega) (by have := HPL.out; omega) (by simp; omega) ?_
          intro v9 w9 r9 g9 n9
          obtain ⟨v9a, v9c, ev⟩ := row_view r9
          subst ev
          have N9 := Lib.hid (And.intro r9 (And.intro g9 n9))
          have O9 := Lib.hid (O8.out.same (g9.block _ (show q + 1 + 1 + 1 < (w7.alloc (.cells #[.int .i64 (f c).1, .bool (f c).2] 144)).heap.size by simp; omega) (fun e => by have := (World.ownsRow.lt HR.out _ e.symm).1; omega)))
          have HS9 := Lib.hid (gcellq g9 (show q < (w7.alloc (.cells #[.int .i64 (f c).1, .bool (f c).2] 144)).heap.size by simp; omega) (fun e => by have := (World.ownsRow.lt HR.out _ e.symm).1; omega) HS8.out)
          clear r9 g9 n9
          refine hK.out _ _ HS9.out (fun hHeld => ?_)
          clear hK K
          change wpAnyH _ _ _ _ _ _ _ (Act.put _ (some 29) _) _
          simp only [Act.put, List.setIfInBounds_toArray, List.set_cons_zero, List.set_cons_succ]
          refine wpAnyH_ready (rs := [6]) (by kernel_rfl) (by simp) (AllReadyH.cons rfl (fun K hK => ?_) (AllReadyH.nil))
          have hcz := O9.out.1
          have hfz := O9.out.2.1
          go_simp
          refine hK.out _ _ (csetq (show q ≠ q + 1 + 1 + 1 by omega) HS9.out) (fun hHeld => ?_)
          clear hK K hcz hfz
          refine wpAnyH_done (by kernel_rfl) ?_ _
          exact fl_end { tmps := #[], defers := [] } B8.out hs1 HO.out HR.out HG.out HB.out HC0.out HC1.out HSM.out (by omega) (by omega) N9.out.1 N9.out.2.1 N9.out.2.2 (by rw [HP1.out, List.length_append]; rfl) (by rw [HP1.out, List.flatMap_append]; simp)
        · skip
          go_simp
          refine hK.out _ _ HS8.out (fun hHeld => ?_)
          clear hK K
          refine wpAnyH_ready (rs := [0]) (by kernel_rfl) (by simp) (AllReadyH.cons rfl (fun K hK => ?_) (AllReadyH.nil))
          obtain ⟨lo, -, -⟩ := O8.out
          go_simp
          refine hK.out _ _ hHeld (fun hHeld => ?_)
          clear hK K lo
          refine wpAnyH_ready (rs := [5]) (by kernel_rfl) (by simp) (AllReadyH.cons rfl (fun K hK => ?_) (AllReadyH.nil))
          refine step_append_row rfl (.tmp 24) (.tmp 28) 160 144 i0 _ 2 _ Tryz.underlying160 hi hz0 hz1 hz2 rfl (by decide) rfl (base := w5.heap.size) (v := sv) (ad := ⟨w7.heap.size, 0, none⟩) (n := pl.length) (m := 1) (news := csO (f c)) rfl rfl R8.out rfl (by exact lit_news2 w7 _ _ _) (by intro u hu; simp [csO] at hu; rcases hu with rfl | rfl <;> rfl) (by have := HPL.out; unfold maxLen; omega) (by have := HPL.out; omega) (by simp; omega) ?_
          intro v9 w9 r9 g9 n9
          obtain ⟨v9a, v9c, ev⟩ := row_view r9
          subst ev
          have N9 := Lib.hid (And.intro r9 (And.intro g9 n9))
          have O9 := Lib.hid (O8.out.same (g9.block _ (show q + 1 + 1 + 1 < (w7.alloc (.cells #[.int .i64 (f c).1, .bool (f c).2] 144)).heap.size by simp; omega) (fun e => by have := (World.ownsRow.lt HR.out _ e.symm).1; omega)))
          have HS9 := Lib.hid (gcellq g9 (show q < (w7.alloc (.cells #[.int .i64 (f c).1, .bool (f c).2] 144)).heap.size by simp; omega) (fun e => by have := (World.ownsRow.lt HR.out _ e.symm).1; omega) HS8.out)
          clear r9 g9 n9
          refine hK.out _ _ HS9.out (fun hHeld => ?_)
          clear hK K
          change wpAnyH _ _ _ _ _ _ _ (Act.put _ (some 29) _) _
          simp only [Act.put, List.setIfInBounds_toArray, List.set_cons_zero, List.set_cons_succ]
          refine wpAnyH_ready (rs := [6]) (by kernel_rfl) (by simp) (AllReadyH.cons rfl (fun K hK => ?_) (AllReadyH.nil))
          have hcz := O9.out.1
          have hfz := O9.out.2.1
          go_simp
          refine hK.out _ _ (csetq (show q ≠ q + 1 + 1 + 1 by omega) HS9.out) (fun hHeld => ?_)
          clear hK K hcz hfz
          refine wpAnyH_done (by kernel_rfl) ?_ _
          exact fl_end { tmps := #[], defers := [] } B8.out hs1 HO.out HR.out HG.out HB.out HC0.out HC1.out HSM.out (by omega) (by omega) N9.out.1 N9.out.2.1 N9.out.2.2 (by rw [HP1.out, List.length_append]; rfl) (by rw [HP1.out, List.flatMap_append]; simp)
    · obtain ⟨va, vb, r, e1, e2⟩ := plP_op f g HEN.out hj hc hio
      have ho1 : 1 ≤ opN c := by have := isO_ne hio; omega
      have ho7 := opN_le c
      rw [sgV_op hio] at HS
      have hta := ta_op (.int .i64 (opN c))
      have HP1 := Lib.hid e2
      rw [e1] at HR HPL
      have hlen : (r ++ [vb, va]).length = r.length + 2 := by simp
      rw [hlen] at HR HPL
      obtain ⟨pb, pc, hsv, hpb, hpl⟩ := row_own HR.out
      subst hsv
      have HTW := Lib.hid (fun W' => HTWO.out (opN c) va vb W' ho1 ho7)
      clear hlen e1 e2 hio hcm hc
      generalize plP f g t pre.length = pl at *
      generalize tx c = xs at *
      generalize opN c = o at *
      generalize hk : r.length = k at *
      have HR0 := Lib.hid hk; clear hk
      have kb : k ≤ 4194304 := by have := HPL.out; omega
      have i1 : (0 : Int) ≤ (k : Int) + 1 := by omega
      have i2 : (k : Int) < (k : Int) + 1 := by omega
      have i3 : (k : Int) < (k : Int) + 1 + 1 := by omega
      have i4 : (0 : Int) ≤ (k : Int) := by omega
      have hwk : IntKind.i64.wrap (k : Int) = (k : Int) := by rw [IntKind.wrap_i64]; omega
      gi_wp2_with fail
      refine ⟨trivial, (fun h => by cases h), (CallsIn.inRound l2 (callsIn_wide.2 HS.out)).mono ?_⟩
      rintro e w6 ⟨rfl, b6⟩
      have B6 := Lib.hid b6; clear b6
      have O6 := Lib.hid (HO.out.same (B6.out.block (q + 1 + 1 + 1) (by omega)))
      have hm6 := O6.out.1
      have kb1 : (k : Int) + 1 ≤ 4194305 := by omega
      gi_wp2_with fail
      subst hF2
      clear hm6
      have R6 := Lib.hid (row_next HR.out fun g _ hlt => B6.out.block g hlt)
      have z6 := B6.out.size
      have D6 := Lib.hid (bel_drewN B6.out 1)
      have HT6 := Lib.hid (HTW.out w6.drew)
      have HTP := Lib.hid (topO R6.out HR0.out)
      have HS6 := Lib.hid (show w6.drew.cell? ⟨q + 1 + 1 + 1, 0, none⟩ = some (.slice (some ⟨pb, 0, none⟩) (k + 1 + 1) pc) ∧ w6.drew.cell? ⟨q + 1, 0, none⟩ = some (.func (.func f2) #[] #[]) ∧ w6.drew.cell? ⟨pb, (k + 1) * 2, none⟩ = some (.int .i64 va.1) ∧ w6.drew.cell? ⟨pb, (k + 1) * 2 + 1, none⟩ = some (.bool va.2) from ⟨O6.out.1, (World.cell?_of_block (w := W) (B6.out.block (q + 1) (by omega))).trans HC1.out, HTP.out.1⟩)
      refine wpIn_region_held (S := fun z => z.cell? ⟨q + 1 + 1 + 1, 0, none⟩ = some (.slice (some ⟨pb, 0, none⟩) (k + 1 + 1) pc) ∧ z.cell? ⟨q + 1, 0, none⟩ = some (.func (.func f2) #[] #[]) ∧ z.cell? ⟨pb, (k + 1) * 2, none⟩ = some (.int .i64 va.1) ∧ z.cell? ⟨pb, (k + 1) * 2 + 1, none⟩ = some (.bool va.2)) (by kernel_rfl) (defers_none (by kernel_rfl)) (fun _ _ h => h) HS6.out (fun hHeld => ?_)
      refine wpAnyH_take (i := 0) (v := ?v0u) rfl (by kernel_rfl) (by kernel_rfl) (by kernel_rfl) (fun _ _ _ h => h) (Or.inl ⟨by rfl, ?hy0u⟩) (by assumption) ?rest0u
      case hy0u => (intro zz hSw; (try dsimp only at hSw); go_simp; (try with_reducible rfl))
      change wpAnyH _ _ _ _ _ _ _ (Act.put _ (some 36) _) _
      simp only [Act.put, List.setIfInBounds_toArray, List.set_cons_zero, List.set_cons_succ]
      refine wpAnyH_take (i := 1) (v := ?v1u) rfl (by kernel_rfl) (by kernel_rfl) (by kernel_rfl) (fun _ _ _ h => h) (Or.inl ⟨by rfl, ?hy1u⟩) (by assumption) ?rest1u
      case hy1u => (intro zz hSw; (try dsimp only at hSw); go_simp; (try with_reducible rfl))
      change wpAnyH _ _ _ _ _ _ _ (Act.put _ (some 37) _) _
      simp only [Act.put, List.setIfInBounds_toArray, List.set_cons_zero, List.set_cons_succ]
      refine wpAnyH_take (i := 2) (v := ?v2u) rfl (by kernel_rfl) (by kernel_rfl) (by kernel_rfl) (fun _ _ _ h => h) (Or.inl ⟨by rfl, ?hy2u⟩) (by assumption) ?rest2u
      case hy2u => (intro zz hSw; (try dsimp only at hSw); go_simp; (try with_reducible rfl))
      change wpAnyH _ _ _ _ _ _ _ (Act.put _ (some 38) _) _
      simp only [Act.put, List.setIfInBounds_toArray, List.set_cons_zero, List.set_cons_succ]
      refine wpAnyH_take (i := 3) (v := ?v3u) rfl (by kernel_rfl) (by kernel_rfl) (by kernel_rfl) (fun _ _ _ h => h) (Or.inl ⟨by rfl, ?hy3u⟩) (by assumption) ?rest3u
      case hy3u => (intro zz hSw; (try dsimp only at hSw); go_simp; (try with_reducible rfl))
      change wpAnyH _ _ _ _ _ _ _ (Act.put _ (some 39) _) _
      simp only [Act.put, List.setIfInBounds_toArray, List.set_cons_zero, List.set_cons_succ]
      refine wpAnyH_take (i := 4) (v := ?v4u) rfl (by kernel_rfl) (by kernel_rfl) (by kernel_rfl) (fun _ _ _ h => h) (Or.inl ⟨by rfl, ?hy4u⟩) (by assumption) ?rest4u
      case hy4u => (intro zz hSw; (try dsimp only at hSw); go_simp; (try with_reducible rfl))
      change wpAnyH _ _ _ _ _ _ _ (Act.put _ (some 40) _) _
      simp only [Act.put, List.setIfInBounds_toArray, List.set_cons_zero, List.set_cons_succ]
      refine wpAnyH_take (i := 5) (v := ?v5u) rfl (by kernel_rfl) (by kernel_rfl) (by kernel_rfl) (fun _ _ _ h => h) (Or.inl ⟨by rfl, ?hy5u⟩) (by assumption) ?rest5u
      case hy5u => (intro zz hSw; (try dsimp only at hSw); go_simp; (try with_reducible rfl))
      change wpAnyH _ _ _ _ _ _ _ (Act.put _ (some 41) _) _
      simp only [Act.put, List.setIfInBounds_toArray, List.set_cons_zero, List.set_cons_succ]
      refine wpAnyH_take (i := 6) (v := ?v6u) rfl (by kernel_rfl) (by kernel_rfl) (by kernel_rfl) (fun _ _ _ h => h) (Or.inl ⟨by rfl, ?hy6u⟩) (by assumption) ?rest6u
      case hy6u => (intro zz hSw; (try dsimp only at hSw); go_simp; (try with_reducible rfl))
      change wpAnyH _ _ _ _ _ _ _ (Act.put _ (some 42) _) _
      simp only [Act.put, List.setIfInBounds_toArray, List.set_cons_zero, List.set_cons_succ]
      refine wpAnyH_take (i := 7) (v := ?v7u) rfl (by kernel_rfl) (by kernel_rfl) (by kernel_rfl) (fun _ _ _ h => h) (Or.inl ⟨by rfl, ?hy7u⟩) (by assumption) ?rest7u
      case hy7u => (intro zz hSw; (try dsimp only at hSw); go_simp; (try with_reducible rfl))
      change wpAnyH _ _ _ _ _ _ _ (Act.put _ (some 43) _) _
      simp only [Act.put, List.setIfInBounds_toArray, List.set_cons_zero, List.set_cons_succ]
      refine wpAnyH_take (i := 8) (v := ?v8u) rfl (by kernel_rfl) (by kernel_rfl) (by kernel_rfl) (fun _ _ _ h => h) (Or.inl ⟨by rfl, ?hy8u⟩) (by assumption) ?rest8u
      case hy8u => (intro zz hSw; (try dsimp only at hSw); go_simp; (try with_reducible rfl))
      change wpAnyH _ _ _ _ _ _ _ (Act.put _ (some 44) _) _
      simp only [Act.put, List.setIfInBounds_toArray, List.set_cons_zero, List.set_cons_succ]
      refine wpAnyH_take (i := 9) (v := ?v9u) rfl (by kernel_rfl) (by kernel_rfl) (by kernel_rfl) (fun _ _ _ h => h) (Or.inl ⟨by rfl, ?hy9u⟩) (by assumption) ?rest9u
      case hy9u => (intro zz hSw; (try dsimp only at hSw); go_simp; (try with_reducible rfl))
      change wpAnyH _ _ _ _ _ _ _ (Act.put _ (some 45) _) _
      simp only [Act.put, List.setIfInBounds_toArray, List.set_cons_zero, List.set_cons_succ]
      refine wpAnyH_take (i := 10) (v := ?v10u) rfl (by kernel_rfl) (by kernel_rfl) (by kernel_rfl) (fun _ _ _ h => h) (Or.inl ⟨by rfl, ?hy10u⟩) (by assumption) ?rest10u
      case hy10u => (intro zz hSw; (try dsimp only at hSw); go_simp; (try with_reducible rfl))
      change wpAnyH _ _ _ _ _ _ _ (Act.put _ (some 46) _) _
      simp only [Act.put, List.setIfInBounds_toArray, List.set_cons_zero, List.set_cons_succ]
      refine wpAnyH_take (i := 11) (v := ?v11u) rfl (by kernel_rfl) (by kernel_rfl) (by kernel_rfl) (fun _ _ _ h => h) (Or.inl ⟨by rfl, ?hy11u⟩) (by assumption) ?rest11u
      case hy11u => (intro zz hSw; (try dsimp only at hSw); go_simp; (try with_reducible rfl))
      change wpAnyH _ _ _ _ _ _ _ (Act.put _ (some 47) _) _
      simp only [Act.put, List.setIfInBounds_toArray, List.set_cons_zero, List.set_cons_succ]
      refine wpAnyH_take (i := 12) (v := ?v12u) rfl (by kernel_rfl) (by kernel_rfl) (by kernel_rfl) (fun _ _ _ h => h) (Or.inl ⟨by rfl, ?hy12u⟩) (by assumption) ?rest12u
      case hy12u => (intro zz hSw; (try dsimp only at hSw); go_simp; (try with_reducible rfl))
      change wpAnyH _ _ _ _ _ _ _ (Act.put _ (some 48) _) _
      simp only [Act.put, List.setIfInBounds_toArray, List.set_cons_zero, List.set_cons_succ]
      refine wpAnyH_ready (rs := [13]) (by kernel_rfl) (by simp) (AllReadyH.cons rfl (fun K hK => ?_) (AllReadyH.nil))
      obtain ⟨lo0, lo1⟩ := HTP.out.2.1
      go_simp
      refine hK.out _ _ hHeld (fun hHeld => ?_)
      clear hK K lo0 lo1
      refine wpAnyH_ready (rs := [14]) (by kernel_rfl) (by simp) (AllReadyH.cons rfl (fun K hK => ?_) (AllReadyH.nil))
      go_simp
      refine HT6.out.mono ?_; rintro e w7 ⟨rfl, b7⟩
      have B7 := Lib.hid (bel_tr D6.out b7 (Nat.le_refl _))
      have z7 : w6.heap.size ≤ w7.heap.size := b7.size
      have O7 := Lib.hid (O6.out.drew.next b7)
      have R7 := Lib.hid (row_next R6.out fun g _ hlt => b7.block g hlt)
      have HTP7 := Lib.hid (topO R7.out HR0.out)
      have HS7 := Lib.hid (show w7.cell? ⟨q + 1 + 1 + 1, 0, none⟩ = some (.slice (some ⟨pb, 0, none⟩) (k + 1 + 1) pc) ∧ w7.cell? ⟨q + 1, 0, none⟩ = some (.func (.func f2) #[] #[]) ∧ w7.cell? ⟨pb, (k + 1) * 2, none⟩ = some (.int .i64 va.1) ∧ w7.cell? ⟨pb, (k + 1) * 2 + 1, none⟩ = some (.bool va.2) from ⟨O7.out.1, (World.cell?_of_block (w := w6.drew) (b7.block (q + 1) (show q + 1 < w6.heap.size by omega))).trans HS6.out.2.1, HTP7.out.1⟩)
      clear b7
      refine hK.out _ _ HS7.out (fun hHeld => ?_)
      clear hK K
      refine wpAnyH_take (i := 15) (v := ?v15u) rfl (by kernel_rfl) (by kernel_rfl) (by kernel_rfl) (fun _ _ _ h => h) (Or.inl ⟨by rfl, ?hy15u⟩) (by assumption) ?rest15u
      case hy15u => (intro zz hSw; (try dsimp only at hSw); go_simp; (try with_reducible rfl))
      change wpAnyH _ _ _ _ _ _ _ (Act.put _ (some 51) _) _
      simp only [Act.put, List.setIfInBounds_toArray, List.set_cons_zero, List.set_cons_succ]
      refine wpAnyH_ready (rs := [16]) (by kernel_rfl) (by simp) (AllReadyH.cons rfl (fun K hK => ?_) (AllReadyH.nil))
      obtain ⟨-, ⟨hc0z, hc1z⟩, hf0z, hf1z⟩ := HTP7.out
      go_simp
      have HS8 := Lib.hid (show ((w7.setCell ⟨pb, k * 2, none⟩ (.int .i64 (g o va vb).1)).setCell ⟨pb, k * 2 + 1, none⟩ (.bool (g o va vb).2)).cell? ⟨q + 1 + 1 + 1, 0, none⟩ = some (.slice (some ⟨pb, 0, none⟩) (k + 1 + 1) pc) ∧ ((w7.setCell ⟨pb, k * 2, none⟩ (.int .i64 (g o va vb).1)).setCell ⟨pb, k * 2 + 1, none⟩ (.bool (g o va vb).2)).cell? ⟨q + 1, 0, none⟩ = some (.func (.func f2) #[] #[]) ∧ ((w7.setCell ⟨pb, k * 2, none⟩ (.int .i64 (g o va vb).1)).setCell ⟨pb, k * 2 + 1, none⟩ (.bool (g o va vb).2)).cell? ⟨pb, (k + 1) * 2, none⟩ = some (.int .i64 va.1) ∧ ((w7.setCell ⟨pb, k * 2, none⟩ (.int .i64 (g o va vb).1)).setCell ⟨pb, k * 2 + 1, none⟩ (.bool (g o va vb).2)).cell? ⟨pb, (k + 1) * 2 + 1, none⟩ = some (.bool va.2) from ⟨csetq (show q + 1 + 1 + 1 ≠ pb by omega) (csetq (show q + 1 + 1 + 1 ≠ pb by omega) HS7.out.1), csetq (show q + 1 ≠ pb by omega) (csetq (show q + 1 ≠ pb by omega) HS7.out.2.1), coff (by omega) (coff (by omega) HS7.out.2.2.1), coff (by omega) (coff (by omega) HS7.out.2.2.2)⟩)
      refine hK.out _ _ HS8.out (fun hHeld => ?_)
      clear hK K hc0z hc1z hf0z hf1z
      refine wpAnyH_done (by kernel_rfl) ?_ _
      have O8 := Lib.hid (O7.out.same ((Below.heap_setCell _ ⟨pb, k * 2 + 1, none⟩ (.bool (g o va vb).2) (q + 1 + 1 + 1) (fun e => by have e' : q + 1 + 1 + 1 = pb := e; omega)).trans (Below.heap_setCell _ ⟨pb, k * 2, none⟩ (.int .i64 (g o va vb).1) (q + 1 + 1 + 1) (fun e => by have e' : q + 1 + 1 + 1 = pb := e; omega))))
      have R8 := Lib.hid (row_cut ((World.ownsRow.stored ((World.ownsRow.stored R7.out (k * 2) (.int .i64 (g o va vb).1)).1) (k * 2 + 1) (.bool (g o va vb).2)).1) (m := k + 1) (by omega))
      have G8 := Lib.hid (show w7.grownBy ((w7.setCell ⟨pb, k * 2, none⟩ (.int .i64 (g o va vb).1)).setCell ⟨pb, k * 2 + 1, none⟩ (.bool (g o va vb).2)) (Value.slice (some ⟨pb, 0, none⟩) (k + 1 + 1) pc).ownBlock from grown_trans grown_setq grown_setq)
      clear hHeld HS8
      generalize ((w7.setCell ⟨pb, k * 2, none⟩ (.int .i64 (g o va vb).1)).setCell ⟨pb, k * 2 + 1, none⟩ (.bool (g o va vb).2)) = w8 at *
      obtain ⟨hm8, hf8, -⟩ := id O8.out
      have hcut : ∀ w, (Instr.slice 160 (.slice (some ⟨pb, 0, none⟩) (k + 1 + 1) pc) none (some (.int .i64 ((k : Int) + 1))) none).run Tryz.prog w = .ok (.slice (some ⟨pb, 0, none⟩) (k + 1) pc) w := cut_toK 160 2 (by kernel_rfl) (by intro w; exact Tryz.sizeOf144 w) (some ⟨pb, 0, none⟩) (k + 1 + 1) pc (k + 1) (by omega) (row_cap R7.out)
      clear i1 i2 i3 i4 hwk kb1
      gi_wp2_with fail
      exact fl_end { tmps := #[], defers := [] } B7.out hs1 HO.out HR.out HG.out HB.out HC0.out HC1.out HSM.out (by omega) (by omega) R8.out G8.out (Or.inl rfl) (by rw [HP1.out, List.length_append, HR0.out]; rfl) (by rw [HP1.out]; exact putO HR0.out)
  · rintro D gg W hD ⟨hs1, sv, ho, hr, hg, hb, hc0, hc1, hsm⟩ hK
    obtain ⟨r, hrs⟩ : ∃ r, stk f g t = [r] := by
      have := (stk_two f g HEN.out).1
      match hs : stk f g t, this with
      | [r], _ => exact ⟨r, rfl⟩
    rw [show ((bkL t, gg) : List (Array Value) × Option Nat).1.length = t.length from bkL_len t, plP_all, hrs] at hr
    obtain ⟨pb, pc, hsv, hpb, hpl⟩ := row_own (n := 0) hr
    subst hsv
    have HB := Lib.hid hb
    have l0 : W.cell? ⟨pb, 0, none⟩ = some (.int .i64 r.1) := World.ownsRow.cellAt hr 0 (by decide)
    have l1 : W.cell? ⟨pb, 1, none⟩ = some (.bool r.2) := World.ownsRow.cellAt hr 1 (by decide)
    obtain ⟨z0, z1, fz0, fz1⟩ := two_cells ((hsm (q + 1 + 1) (by omega) (by omega)).trans XR.out)
    obtain ⟨o1, o2, o3⟩ := ho
    have HRS := Lib.hid hrs
    clear hr hb hg hc0 hc1 hrs
    have PB := Lib.hid (put_below (n₀ := q) (l := D) (W := W) (o := .deferred none) (by omega) (by omega))
    gi_wp2_with fail
    have hK2 : ((W.setCell ⟨q + 1 + 1, 0, none⟩ (.int .i64 r.1)).setCell ⟨q + 1 + 1, 1, none⟩ (.bool r.2)).heap[D]? = some (.deferred (some [])) := (Below.heap_setCell _ ⟨q + 1 + 1, 1, none⟩ _ D (fun e => by have e' : D = q + 1 + 1 := e; omega)).trans ((Below.heap_setCell _ ⟨q + 1 + 1, 0, none⟩ _ D (fun e => by have e' : D = q + 1 + 1 := e; omega)).trans hK)
    have y0 : ((W.setCell ⟨q + 1 + 1, 0, none⟩ (.int .i64 r.1)).setCell ⟨q + 1 + 1, 1, none⟩ (.bool r.2)).cell? ⟨q + 1 + 1, 0, none⟩ = some (.int .i64 r.1) := coff (by omega) (World.cell?_setCell_same' _ _ _ (by rw [z0]; rfl))
    have y1 : ((W.setCell ⟨q + 1 + 1, 0, none⟩ (.int .i64 r.1)).setCell ⟨q + 1 + 1, 1, none⟩ (.bool r.2)).cell? ⟨q + 1 + 1, 1, none⟩ = some (.bool r.2) := World.cell?_setCell_same' _ _ _ (by rw [coff (by omega) z1]; rfl)
    have B2 : Below q W ((W.setCell ⟨q + 1 + 1, 0, none⟩ (.int .i64 r.1)).setCell ⟨q + 1 + 1, 1, none⟩ (.bool r.2)) := ((Below.refl q W).setCell (p := ⟨q + 1 + 1, 0, none⟩) (by show q ≤ q + 1 + 1; omega) _).setCell (p := ⟨q + 1 + 1, 1, none⟩) (by show q ≤ q + 1 + 1; omega) _
    have hz2 := B2.size
    generalize (W.setCell ⟨q + 1 + 1, 0, none⟩ (.int .i64 r.1)).setCell ⟨q + 1 + 1, 1, none⟩ (.bool r.2) = W2 at *
    have PB2 := put_below (n₀ := q) (l := D) (W := W2) (o := .deferred none) (by omega) (by omega)
    have y0' : (W2.putObj D (.deferred none)).cell? ⟨q + 1 + 1, 0, none⟩ = some (.int .i64 r.1) := (World.cell?_of_block (w := W2) (World.putObj_heap_other (by show q + 1 + 1 ≠ D; omega))).trans y0
    have y1' : (W2.putObj D (.deferred none)).cell? ⟨q + 1 + 1, 1, none⟩ = some (.bool r.2) := (World.cell?_of_block (w := W2) (World.putObj_heap_other (by show q + 1 + 1 ≠ D; omega))).trans y1
    refine ⟨by simp, .inl ⟨_, _, rfl, run_takeDeferred hK2, ?_⟩⟩
    exact ⟨.agg #[.int .i64 r.1, .bool r.2], by simp [results, Tryz.results136, go_sem, y0', y1'], r, HRS.out, rfl, HB.out.trans (B2.trans PB2)⟩
  · rintro D k pre W hD hpre hf hK
    exact hf.elim
end Go.Proofs.YtfnnoehpahdgcaaGreatDoor.Cl
