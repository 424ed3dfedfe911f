/-
  Texts of mine, joined (part 6 of 11): what the law at hand reaches of them; each text's own words stand in the verifier's repo.
-/
import Derived.Test.YtfnnoehpahdgcaaGreatDoorSt5
import Derived.Test.YtfnnoehpahdgcaaGreatDoorRows
import Derived.WalkKit
import Derived.IntWalk
import Derived.Laws.Bits128
import Derived.Lib.Hide
import Derived.Lib.ParseIntBTie
import Derived.Lib.ParseIntBCases
import Derived.Lib.ItoaMem
import Derived.Lib.IndexMore
import Derived.Lib.Repeat
import Derived.WalkSpells
import Derived.Below
import Derived.Carry
import Derived.WalkSmall
import Derived.Laws.Closers25b
import Derived.Lib.Strings
import Derived.Lib.SmallJoins
import Derived.Lib.AppendIntMem
import Derived.Maps.AppendAt
import Derived.OwnWalk
import Derived.WalkLawsBesides
import Derived.Deep.QuietTactic
import Derived.BigQuiet
import Derived.Deep.RegionHeld3
import Derived.Laws.OwnMore
import Derived.Laws.StructEq
import Derived.BigFrame
import Derived.Deep.Upon
import Derived.Laws.CopyRow
import Derived.Laws.BytesArg
import Derived.RowKit3
import Derived.Shelf.Strconv.Itoa4
import Derived.Shelf.Strconv.ParseIntPublic10
import Derived.Shelf.Strconv.ErrVarParseInt
import Derived.Test.YtfnnoehpahdgcaaGreatDoorProg
import Derived.LaidMore
import Derived.Stop.LaidErr
import Derived.Lib.LaidTab
import Derived.RangeFuncWrites
import Derived.RangeFuncCalls
import Derived.RangeFuncBox
import Derived.RangeFuncNested
import Derived.RangeFuncLeaves
import Derived.Shelf.Abstract
import Derived.Shelf.RegionOpen
import Derived.OwnWalkIn
import Derived.TacticsInMore
import Derived.LoopNIn
import Derived.LoopIn
import Derived.Lib.Bytealg
import Derived.Deep.LoopGhost
import Derived.Lib.AtoiErrMem
import Derived.OpenShut
import Derived.Lib.ConvBytes
import Derived.Deep.RegionLaw
import Derived.Deep.AppendLies
import Derived.Lib.AppendZeros
import Derived.Defers
import Derived.Recover
import Derived.Lib.ItoaLen
import Derived.Sort.Walk0
import Derived.Lib.SlicesCompact
import Derived.ProofKit
import Derived.Handed
import Derived.SizedLaws
import Derived.ShutString
import Derived.Deep.Slices
import Derived.Deep.Fields
import Derived.ChangeSame
namespace Go.Proofs.YtfnnoehpahdgcaaGreatDoor.Cl
set_option linter.unusedVariables false
open Go.RowKit Wd Rp Kp Ra Go.Shelf
attribute [local go_sem] Oper.semAt_some
def csO (p : Int × Bool) : List Value := [.int .i64 p.1, .bool p.2]
theorem csO_len : ∀ l : List (Int × Bool), (l.flatMap csO).length = l.length * 2
  | [] => rfl
  | c :: l => by rw [List.flatMap_cons, List.length_append, csO_len l, List.length_cons]; show 2 + l.length * 2 = _; omega
theorem infoOutP : (Tryz.prog.info? 144).map (fun i => (i.zero, i.size, i.bytes)) = some (some (.agg #[.int .i64 0, .bool false]), 2, 16) := by kernel_rfl
theorem lit_news2 (w : World) (x y : Value) (T : TypeId) : ∀ (j : Nat) (u : Value), [x, y][j]? = some u → (w.alloc (.cells #[x, y] T)).cell? ((⟨w.heap.size, 0, none⟩ : Addr).add j) = some u := fun j u hj => by
  obtain ⟨h0, h1, -, -⟩ := two_cells (new_of w (.cells #[x, y] T))
  match j, hj with
  | 0, hj => simp at hj; subst hj; exact h0
  | 1, hj => simp at hj; subst hj; exact h1
theorem topO {w : World} {B g k cap : Nat} {T : TypeId} {r : List (Int × Bool)} {a b : Int × Bool} (h : w.ownsRow B T 2 (.slice (some ⟨g, 0, none⟩) (k + 1 + 1) cap) (k + 1 + 1) ((r ++ [b, a]).flatMap csO)) (hk : r.length = k) :
    (w.cell? ⟨g, (k + 1) * 2, none⟩ = some (.int .i64 a.1) ∧ w.cell? ⟨g, (k + 1) * 2 + 1, none⟩ = some (.bool a.2)) ∧ (w.cell? ⟨g, k * 2, none⟩ = some (.int .i64 b.1) ∧ w.cell? ⟨g, k * 2 + 1, none⟩ = some (.bool b.2)) ∧ w.frozen? ⟨g, k * 2, none⟩ = false ∧ w.frozen? ⟨g, k * 2 + 1, none⟩ = false := by
  have e : (r ++ [b, a]).flatMap csO = r.flatMap csO ++ [.int .i64 b.1, .bool b.2, .int .i64 a.1, .bool a.2] := by rw [List.flatMap_append]; rfl
  have hl := csO_len r
  rw [hk] at hl
  have key : ∀ j, j < 4 → w.cell? ⟨g, k * 2 + j, none⟩ = [Value.int .i64 b.1, .bool b.2, .int .i64 a.1, .bool a.2][j]? := fun j hj => by
    rw [World.ownsRow.cellAt h (k * 2 + j) (by omega), e, List.getElem?_append_right (by omega), show k * 2 + j - (r.flatMap csO).length = j by omega]
  refine ⟨⟨?_, ?_⟩, ⟨key 0 (by decide), key 1 (by decide)⟩, World.ownsRow.frozenAt h _, World.ownsRow.frozenAt h _⟩
  · have := key 2 (by decide); rwa [show k * 2 + 2 = (k + 1) * 2 by omega] at this
  · have := key 3 (by decide); rwa [show k * 2 + 3 = (k + 1) * 2 + 1 by omega] at this
theorem putO {k : Nat} {r : List (Int × Bool)} {a b x : Int × Bool} (hk : r.length = k) : (r ++ [x]).flatMap csO = ((((r ++ [b, a]).flatMap csO).set (k * 2) (.int .i64 x.1)).set (k * 2 + 1) (.bool x.2)).take ((k + 1) * 2) := by
  have hl := csO_len r
  rw [hk] at hl
  have e : (r ++ [b, a]).flatMap csO = r.flatMap csO ++ [.int .i64 b.1, .bool b.2, .int .i64 a.1, .bool a.2] := by rw [List.flatMap_append]; rfl
  have e2 : (r ++ [x]).flatMap csO = r.flatMap csO ++ [.int .i64 x.1, .bool x.2] := by rw [List.flatMap_append]; rfl
  rw [e, e2]
  generalize r.flatMap csO = m at *
  rw [List.set_append_right _ _ (by omega), List.set_append_right _ _ (by omega), hl, Nat.sub_self, show k * 2 + 1 - k * 2 = 1 by omega]
  rw [show (k + 1) * 2 = m.length + 2 by omega, List.take_length_add_append]; rfl
set_option maxHeartbeats 8000000 in
set_option maxRecDepth 100000 in
theorem foldedOut_any (f : Tk → (Int × Bool)) (g : Nat → (Int × Bool) → (Int × Bool) → (Int × Bool)) (w : World) (a : Option Addr) (cap n : Nat) (t : List Tk) (hn : t.length = n) (hv : V1 w a cap (txL t)) (hl : n ≤ 4194304) (hm : ∀ s ∈ t, s.length ≤ 4194304) (hL : Lib3 w) (hen : en t 1 = some t.length)
    (f1 f2 : Nat) (lb1 : Array Value) (he1 : ∀ args z, (callFunc f1 args).run Tryz.prog z = .ok (.enter f1 args) z) (he2 : ∀ args z, (callFunc f2 args).run Tryz.prog z = .ok (.enter f2 args) z)
    (hone : ∀ (s : Tk) (W : World), s ∈ t → isL s = true → Below w.heap.size w W → Calls Tryz.prog f1 (#[sgV s] ++ lb1) W fun e w' => e = .returned (.agg #[.int .i64 (f s).1, .bool (f s).2]) ∧ Below W.heap.size W w')
    (htwo : ∀ (o : Nat) (x y : (Int × Bool)) (W : World), 1 ≤ o → o ≤ 7 → Calls Tryz.prog f2 #[.int .i64 o, .agg #[.int .i64 x.1, .bool x.2], .agg #[.int .i64 y.1, .bool y.2]] W fun e w' => e = .returned (.agg #[.int .i64 (g o x y).1, .bool (g o x y).2]) ∧ Below W.heap.size W w') :
    Calls Tryz.prog 136 #[.slice a n cap, .func (.func f1) #[] lb1, .func (.func f2) #[] #[]] w fun e w' => ∃ r, stk f g t = [r] ∧ e = .returned (.agg #[.int .i64 r.1, .bool r.2]) ∧ Below w.heap.size w w' := by
  have HN := Lib.hid hn
  have HV := Lib.hid hv
  have HM := Lib.hid hm
  have HL := Lib.hid hL
  have HEN := Lib.hid hen
  have HONE := Lib.hid hone
  have HTWO := Lib.hid htwo
  have hn1 : 1 ≤ n := by have := en_pos hen; omega
  clear hv hm hL hen hone htwo
  obtain ⟨i0, hi, hz0, hz1, hz2⟩ := info_parts infoOutP
  obtain ⟨c00, hc00⟩ : ∃ c, t[0]? = some c := ⟨t[0]'(by omega), List.getElem?_eq_getElem _⟩
  obtain ⟨ga, go, rfl, hga, -⟩ := HV.out.tx hc00
  clear hc00
  have qn0 : ((n : Int) == 0) = false := by rw [beq_eq_false_iff_ne]; omega
  generalize hq : w.heap.size = q at *
  generalize hF1 : Value.func (Fn.func f1) #[] lb1 = F1
  generalize hF2 : Value.func (Fn.func f2) #[] #[] = F2
  have H0 := Lib.hid ((bel3 w (.cells #[F1] 146) (.cells #[F2] 148) (.cells #[.int .i64 0, .bool false] 144)).alloc (bel3 w (.cells #[F1] 146) (.cells #[F2] 148) (.cells #[.int .i64 0, .bool false] 144)).size (.cells #[.slice none 0 0] 160))
  have hz3 : ((((w.alloc (.cells #[F1] 146)).alloc (.cells #[F2] 148)).alloc (.cells #[.int .i64 0, .bool false] 144)).alloc (.cells #[.slice none 0 0] 160)).heap.size = q + 4 := by simp [hq]
  have hb3 : ((((w.alloc (.cells #[F1] 146)).alloc (.cells #[F2] 148)).alloc (.cells #[.int .i64 0, .bool false] 144)).alloc (.cells #[.slice none 0 0] 160)).heap[q]? = some (.cells #[F1] 146 (0, 0)) ∧
      ((((w.alloc (.cells #[F1] 146)).alloc (.cells #[F2] 148)).alloc (.cells #[.int .i64 0, .bool false] 144)).alloc (.cells #[.slice none 0 0] 160)).heap[q + 1]? = some (.cells #[F2] 148 (0, 0)) ∧
      ((((w.alloc (.cells #[F1] 146)).alloc (.cells #[F2] 148)).alloc (.cells #[.int .i64 0, .bool false] 144)).alloc (.cells #[.slice none 0 0] 160)).heap[q + 1 + 1]? = some (.cells #[.int .i64 0, .bool false] 144 (0, 0)) ∧
      ((((w.alloc (.cells #[F1] 146)).alloc (.cells #[F2] 148)).alloc (.cells #[.int .i64 0, .bool false] 144)).alloc (.cells #[.slice none 0 0] 160)).heap[q + 1 + 1 + 1]? = some (.cells #[.slice none 0 0] 160 (0, 0)) := by
    subst hq
    have e0 := new_of w (.cells #[F1] 146)
    have e1 := new_of (w.alloc (.cells #[F1] 146)) (.cells #[F2] 148)
    have e2 := new_of ((w.alloc (.cells #[F1] 146)).alloc (.cells #[F2] 148)) (.cells #[.int .i64 0, .bool false] 144)
    have e3 := new_of (((w.alloc (.cells #[F1] 146)).alloc (.cells #[F2] 148)).alloc (.cells #[.int .i64 0, .bool false] 144)) (.cells #[.slice none 0 0] 160)
    have b1 := bel1 (w.alloc (.cells #[F1] 146)) (.cells #[F2] 148)
    have b2 := bel1 ((w.alloc (.cells #[F1] 146)).alloc (.cells #[F2] 148)) (.cells #[.int .i64 0, .bool false] 144)
    have b3 := bel1 (((w.alloc (.cells #[F1] 146)).alloc (.cells #[F2] 148)).alloc (.cells #[.int .i64 0, .bool false] 144)) (.cells #[.slice none 0 0] 160)
    simp only [World.size_alloc] at e1 e2 e3 b1 b2 b3
    exact ⟨((b3.block _ (by omega)).trans ((b2.block _ (by omega)).trans ((b1.block _ (by omega)).trans e0))), ((b3.block _ (by omega)).trans ((b2.block _ (by omega)).trans e1)), ((b3.block _ (by omega)).trans e2), e3⟩
  have HB3 := Lib.hid hb3; clear hb3
  rw [hq] at H0
  generalize hw3 : ((((w.alloc (.cells #[F1] 146)).alloc (.cells #[F2] 148)).alloc (.cells #[.int .i64 0, .bool false] 144)).alloc (.cells #[.slice none 0 0] 160)) = w3 at *
  have hb4 := bel1 w3 (.cells #[.slice (some ⟨ga, go, none⟩) n cap] 24)
  have hz4 : (w3.alloc (.cells #[.slice (some ⟨ga, go, none⟩) n cap] 24)).heap.size = q + 4 + 1 := by simp [hz3]
  have HX4 := Lib.hid (new_of w3 (.cells #[.slice (some ⟨ga, go, none⟩) n cap] 24))
  generalize hw4 : w3.alloc (.cells #[.slice (some ⟨ga, go, none⟩) n cap] 24) = w4 at *
  rw [hz3] at hb4 HX4
  have B4 := Lib.hid (H0.out.trans (hb4.mono (by omega)))
  obtain ⟨x0, x1, xr, x2⟩ := HB3.out
  have C0 := Lib.hid ((Bq.of x0).same (hb4.block _ (by omega))).1
  have C1 := Lib.hid ((Bq.of x1).same (hb4.block _ (by omega))).1
  have XM := Lib.hid ((Bq.of x2).same (hb4.block _ (by omega)))
  have XR := Lib.hid ((hb4.block (q + 1 + 1) (by omega)).trans xr)
  have HHA := Lib.hid (backward1_hands (fun k => k = q + 1 + 1 + 1) w4.heap.size (q + 4) (some ⟨ga, go, none⟩) cap n t HN.out hl w4 (by omega) (Nat.le_refl _) (Bq.of HX4.out).1 (fun k c hk => by
      obtain ⟨g', o', e, hg, hc⟩ := HV.out.tx hk
      exact ⟨g', o', e, by omega, (World.cell?_of_block (w := w) (B4.out.block g' (by rw [hq] at hg; exact hg))).trans hc⟩) (fun g' o' e _ e2 => by cases e; omega) (by omega) (by omega))
  clear x0 x1 x2 HB3 H0 HX4 xr hb4
  have HWE := Lib.hid (show w3.alloc (.cells #[.slice (some ⟨ga, go, none⟩) n cap] 24) = w4 from hw4)
  have HBK := Lib.hid (backward_any (some ⟨ga, go, none⟩) n cap w3)
  rw [HWE.out, hz3] at HBK
  refine (callsIn_wide (n := 9)).1 (callsIn_of_wp_marks Tryz.func136 rfl trivial ?_ rfl)
  simp only [Tryz.ntmps136, List.size_toArray, List.length_cons, List.length_nil, Nat.reduceAdd, Nat.reduceSub, Array.replicate_succ, Array.replicate_zero, List.push_toArray, List.append_toArray, List.nil_append, List.cons_append]
  gi_wp2_with fail
  rw [hw3]
  refine ⟨trivial, (callsIn_wide.2 HBK.out).mono ?_⟩
  rintro e w5 ⟨rfl, rfl⟩
  clear hw3 hw4 HWE HBK
  gi_wp2_with fail
  refine loop_hands22 20 21 10 rfl (enters_of Tryz.func159 (by kernel_rfl) rfl) (bkL_two t) HHA.out (Below.refl _ _) (fun k hk => by have : k = q + 1 + 1 + 1 := hk; omega) (Fld 144 2 csO (plP f g t) q (q + 1 + 1 + 1) w5.heap.size F1 F2 w w5) (fun _ _ _ => False) ?_ ?_ ?_ ?_ ?_ ?_ ?_
  · rintro s W W' row ⟨h1, sv, ho, hr, hg, hb, hc0, hc1, hsm⟩ hgr hrow
    have hbb : Below w5.heap.size W W' := (Below.refl _ W).grown hgr h1 (fun k e => (hrow k e).1)
    refine ⟨Nat.le_trans h1 hgr.size, sv, ho.same (hbb.block _ (by omega)), row_next hr fun k hk hlt => hgr.block k hlt (fun e => ?_), hg, hb.trans (hbb.mono (by omega)), (World.cell?_of_block (w := W) (hbb.block q (by omega))).trans hc0, (World.cell?_of_block (w := W) (hbb.block (q + 1) (by omega))).trans hc1, fun k hk hne => (hbb.block k hk).trans (hsm k hk hne)⟩
    obtain ⟨-, o, ho2, hc⟩ := hrow k e.symm
    rw [cells_of_row hr hk o ho2] at hc; cases hc
  · exact fun k => fun _ _ _ _ h _ _ => h
  · exact ⟨Nat.le_refl _, .slice none 0 0, XM.out, (show w5.ownsRow w5.heap.size 144 2 (.slice none 0 0) (plP f g t 0).length ((plP f g t 0).flatMap csO) from by rw [plP_zero]; exact World.ownsRow_nil w5 _ _ _), rfl, B4.out, C0.out, C1.out, fun _ _ _ => rfl⟩
  · intro l m x y W K hK
    simp only [List.setIfInBounds_toArray, List.set_cons_zero, List.set_cons_succ] at hK ⊢
    gi_wp2
    exact hK
  · rintro l2 m pre x y gg W hpre hsz1 ⟨hs1, sv, ho, hr, hg, hb, hc0, hc1, hsm⟩
    obtain ⟨hj, hxy⟩ := pre_bk hpre
    replace hg : sv.ownBlock = gg := hg
    replace hr : W.ownsRow w5.heap.size 144 2 sv (plP f g t pre.length).length ((plP f g t pre.length).flatMap csO) := hr
    simp only [List.setIfInBounds_toArray, List.set_cons_zero, List.set_cons_succ]
    obtain ⟨c, hc⟩ : ∃ c, t[t.length - 1 - pre.length]? = some c := ⟨t[t.length - 1 - pre.length]'(by omega), List.getElem?_eq_getElem _⟩
    obtain rfl : y = .string (tx c) := by
      unfold bkI at hxy
      rw [List.getD_eq_getElem?_getD, hc] at hxy
      have := congrArg (fun z : Array Value => z[1]?) hxy
      simpa [tv] using this
    have hcm := List.mem_of_getElem? hc
    have HS := Lib.hid (signOf_any c W (HL.out.carry hb (by rw [← hq]; exact ⟨HL.out.2.2.2.1, HL.out.2.2.2.2.1, HL.out.2.2.2.2.2⟩)) (HM.out c hcm))
    have HPL := Lib.hid (plP_len f g t pre.length)
    have HO := Lib.hid ho
    have HR := Lib.hid hr
    have HB := Lib.hid hb
    have HG := Lib.hid hg
    have HC0 := Lib.hid hc0
    have HC1 := Lib.hid hc1
    have HSM := Lib.hid hsm; clear hsm
    clear ho hr hb hg hc0 hc1 hxy
    cases hio : isO c
    · have hil := ((stk_two f g HEN.out).2 _ c hc).2 hio
      obtain ⟨Ts, vs, hsv, hta⟩ := sgV_leaf hil
      have HF := Lib.hid (fun W' (hW : Below q w W') => HONE.out c W' hcm hil hW)
      rw [hsv] at HS HF
      have HP1 := Lib.hid (plP_leaf f g hj hc hio)
      have HGI := Lib.hid (And.intro hj hc)
      clear hsv hil hio hcm hc
      generalize plP f g t pre.length = pl at *
      generalize tx c = xs at *
      gi_wp2_with fail
      refine ⟨trivial, (fun h => by cases h), (CallsIn.inRound l2 (callsIn_wide.2 HS.out)).mono ?_⟩
      rintro e w6 ⟨rfl, b6⟩
      have B6 := Lib.hid b6; clear b6
      gi_wp2_with fail
      subst hF1
      have O6 := Lib.hid (HO.out.same (B6.out.block (q + 1 + 1 + 1) (by omega)))
      have R6 := Lib.hid (row_next HR.out fun g _ hlt => B6.out.block g hlt)
      have z6 := B6.out.size
      have D6 := Lib.hid (bel_drewN B6.out 1)
      have hf6 := HF.out w6.drew (HB.out.trans (D6.out.mono (by omega)))
      have HF6 := Lib.hid hf6; clear hf6
      have HS6 := Lib.hid (show w6.drew.cell? ⟨q, 0, none⟩ = some (.func (.func f1) #[] lb1) from (World.cell?_of_block (w := W) (B6.out.block q (by omega))).trans HC0.out)
      refine wpIn_region_held (S := fun z => z.cell? ⟨q, 0, none⟩ = some (.func (.func f1) #[] lb1)) (by kernel_rfl) (defers_none (by kernel_rfl)) (fun _ _ h => h) HS6.out (fun hHeld => ?_)
      refine tkI (i := 1) (v := ?v1t) rfl (Or.inl ⟨by rfl, ?hy1t⟩) ?rest1t
      case hy1t => (intro zz hSw; (try dsimp only at hSw); go_simp; (try with_reducible rfl))
      change wpAnyH _ _ _ _ _ _ _ (Act.put _ (some 25) _) _
      simp only [Act.put, List.setIfInBounds_toArray, List.set_cons_zero, List.set_cons_succ]
      refine tkI (i := 2) (v := ?v2t) rfl (Or.inl ⟨by rfl, ?hy2t⟩) ?rest2t
      case hy2t => (intro zz hSw; (try dsimp only at hSw); go_simp; (try with_reducible rfl))
      change wpAnyH _ _ _ _ _ _ _ (Act.put _ (some 26) _) _
      simp only [Act.put, List.setIfInBounds_toArray, List.set_cons_zero, List.set_cons_succ]
      refine wpAnyH_ready (rs := [0, 3]) (by kernel_rfl) (by simp) (AllReadyH.cons rfl (fun K hK => ?_) (AllReadyH.cons rfl (fun K hK => ?_) (AllReadyH.nil)))
      · skip
        obtain ⟨lo, -, -⟩ := O6.out.drew
        go_simp
        refine hK.out _ _ hHeld (fun hHeld => ?_)
        clear hK K lo
        refine wpAnyH_ready (rs := [3]) (by kernel_rfl) (by simp) (AllReadyH.cons rfl (fun K hK => ?_) (AllReadyH.nil))
        go_simp
        refine HF6.out.mono ?_; rintro e w7 ⟨rfl, b7⟩
        have B7 := Lib.hid (bel_tr D6.out b7 (Nat.le_refl _))
        have z7 : w6.heap.size ≤ w7.heap.size := b7.size
        have O7 := Lib.hid (O6.out.drew.next b7)
        have R7 := Lib.hid (row_next R6.out fun g _ hlt => b7.block g hlt)
        have HS7 := Lib.hid ((World.cell?_of_block (w := w6.drew) (b7.block q (show q < w6.heap.size by omega))).trans HS6.out)
        have B8 := Lib.hid (bel_tr B7.out (bel1 w7 (.cells #[.int .i64 (f c).1, .bool (f c).2] 144)) (Nat.le_refl _))
        have O8 := Lib.hid (O7.out.next (bel1 w7 (.cells #[.int .i64 (f c).1, .bool (f c).2] 144)))
        have R8 := Lib.hid (row_next R7.out fun g _ hlt => (bel1 w7 (.cells #[.int .i64 (f c).1, .bool (f c).2] 144)).block g hlt)
        have N8 := Lib.hid (new_of w7 (.cells #[.int .i64 (f c).1, .bool (f c).2] 144))
        have HS8 := Lib.hid ((World.cell?_of_block (w := w7) ((bel1 w7 (.cells #[.int .i64 (f c).1, .bool (f c).2] 144)).block q (show q < w7.heap.size by omega))).trans HS7.out)
        clear b7
        refine hK.out _ _ HS7.out (fun hHeld => ?_)
        clear hK K
        refine wpAnyH_ready (rs := [4]) (by kernel_rfl) (by simp) (AllReadyH.cons rfl (fun K hK => ?_) (AllReadyH.nil))
        go_simp
        refine hK.out _ _ HS8.out (fun hHeld => ?_)
        clear hK K
        refine wpAnyH_ready (rs := [5]) (by kernel_rfl) (by simp) (AllReadyH.cons rfl (fun K hK => ?_) (AllReadyH.nil))
        refine step_append_row rfl (.tmp 24) (.tmp 28) 160 144 i0 _ 2 _ Tryz.underlying160 hi hz0 hz1 hz2 rfl (by decide) rfl (base := w5.heap.size) (v := sv) (ad := ⟨w7.heap.size, 0, none⟩) (n := pl.length) (m := 1) (news := csO (f c)) rfl rfl R8.out rfl (by exact lit_news2 w7 _ _ _) (by intro u hu; simp [csO] at hu; rcases hu with rfl | rfl <;> rfl) (by have := HPL.out; unfold maxLen; omega) (by have := HPL.out; omega) (by simp; omega) ?_
        intro v9 w9 r9 g9 n9
        obtain ⟨v9a, v9c, ev⟩ := row_view r9
        subst ev
        have N9 := Lib.hid (And.intro r9 (And.intro g9 n9))
        have O9 := Lib.hid (O8.out.same (g9.block _ (show q + 1 + 1 + 1 < (w7.alloc (.cells #[.int .i64 (f c).1, .bool (f c).2] 144)).heap.size by simp; omega) (fun e => by have := (World.ownsRow.lt HR.out _ e.symm).1; omega)))
        have HS9 := Lib.hid (gcellq g9 (show q < (w7.alloc (.cells #[.int .i64 (f c).1, .bool (f c).2] 144)).heap.size by simp; omega) (fun e => by have := (World.ownsRow.lt HR.out _ e.symm).1; omega) HS8.out)
        clear r9 g9 n9
        refine hK.out _ _ HS9.out (fun hHeld => ?_)
        clear hK K
        change wpAnyH _ _ _ _ _ _ _ (Act.put _ (some 29) _) _
        simp only [Act.put, List.setIfInBounds_toArray, List.set_cons_zero, List.set_cons_succ]
        refine wpAnyH_ready (rs := [6]) (by kernel_rfl) (by simp) (AllReadyH.cons rfl (fun K hK => ?_) (AllReadyH.nil))
        have hcz := O9.out.1
        have hfz := O9.out.2.1
        go_simp
        refine hK.out _ _ (csetq (show q ≠ q + 1 + 1 + 1 by omega) HS9.out) (fun hHeld => ?_)
        clear hK K hcz hfz
        refine wpAnyH_done (by kernel_rfl) ?_ _
        exact fl_end { tmps := #[], defers := [] } B8.out hs1 HO.out HR.out HG.out HB.out HC0.out HC1.out HSM.out (by omega) (by omega) N9.out.1 N9.out.2.1 N9.out.2.2 (by rw [HP1.out, List.length_append]; rfl) (by rw [HP1.out, List.flatMap_append]; simp)
      · skip
        go_simp
        refine HF6.out.mono ?_; rintro e w7 ⟨rfl, b7⟩
        have B7 := Lib.hid (bel_tr D6.out b7 (Nat.le_refl _))
        have z7 : w6.heap.size ≤ w7.heap.size := b7.size
        have O7 := Lib.hid (O6.out.drew.next b7)
        have R7 := Lib.hid (row_next R6.out fun g _ hlt => b7.block g hlt)
        have HS7 := Lib.hid ((World.cell?_of_block (w := w6.drew) (b7.block q (show q < w6.heap.size by omega))).trans HS6.out)
        have B8 := Lib.hid (bel_tr B7.out (bel1 w7 (.cells #[.int .i64 (f c).1, .bool (f c).2] 144)) (Nat.le_refl _))
        have O8 := Lib.hid (O7.out.next (bel1 w7 (.cells #[.int .i64 (f c).1, .bool (f c).2] 144)))
        have R8 := Lib.hid (row_next R7.out fun g _ hlt => (bel1 w7 (.cells #[.int .i64 (f c).1, .bool (f c).2] 144)).block g hlt)
        have N8 := Lib.hid (new_of w7 (.cells #[.int .i64 (f c).1, .bool (f c).2] 144))
        have HS8 := Lib.hid ((World.cell?_of_block (w := w7) ((bel1 w7 (.cells #[.int .i64 (f c).1, .bool (f c).2] 144)).block q (show q < w7.heap.size by omega))).trans HS7.out)
        clear b7
        refine hK.out _ _ HS7.out (fun hHeld => ?_)
        clear hK K
        refine wpAnyH_ready (rs := [0, 4]) (by kernel_rfl) (by simp) (AllReadyH.cons rfl (fun K hK => ?_) (AllReadyH.cons rfl (fun K hK => ?_) (AllReadyH.nil)))
        · skip
          obtain ⟨lo, -, -⟩ := O7.out
          go_simp
          refine hK.out _ _ hHeld (fun hHeld => ?_)
          clear hK K lo
          refine wpAnyH_ready (rs := [4]) (by kernel_rfl) (by simp) (AllReadyH.cons rfl (fun K hK => ?_) (AllReadyH.nil))
          go_simp
          refine hK.out _ _ HS8.out (fun hHeld => ?_)
          clear hK K
          refine wpAnyH_ready (rs := [5]) (by kernel_rfl) (by simp) (AllReadyH.cons rfl (fun K hK => ?_) (AllReadyH.nil))
          refine step_append_row rfl (.tmp 24) (.tmp 28) 160 144 i0 _ 2 _ Tryz.underlying160 hi hz0 hz1 hz2 rfl (by decide) rfl (base := w5.heap.size) (v := sv) (ad := ⟨w7.heap.size, 0, none⟩) (n := pl.length) (m := 1) (news := csO (f c)) rfl rfl R8.out rfl (by exact lit_news2 w7 _ _ _) (by intro u hu; simp [csO] at hu; rcases hu with rfl | rfl <;> rfl) (by have := HPL.out; unfold maxLen; omega) (by have := HPL.out; omega) (by simp; omega) ?_
          intro v9 w9 r9 g9 n9
          obtain ⟨v9a, v9c, ev⟩ := row_view r9
          subst ev
          have N9 := Lib.hid (And.intro r9 (And.intro g9 n9))
          have O9 := Lib.hid (O8.out.same (g9.block _ (show q + 1 + 1 + 1 < (w7.alloc (.cells #[.int .i64 (f c).1, .bool (f c).2] 144)).heap.size by simp; omega) (fun e => by have := (World.ownsRow.lt HR.out _ e.symm).1; omega)))
          have HS9 := Lib.hid (gcellq g9 (show q < (w7.alloc (.cells #[.int .i64 (f c).1, .bool (f c).2] 144)).heap.size by simp; omega) (fun e => by have := (World.ownsRow.lt HR.out _ e.symm).1; omega) HS8.out)
          clear r9 g9 n9
          refine hK.out _ _ HS9.out (fun hHeld => ?_)
          clear hK K
          change wpAnyH _ _ _ _ _ _ _ (Act.put _ (some 29) _) _
          simp only [Act.put, List.setIfInBounds_toArray, List.set_cons_zero, List.set_cons_succ]
          refine wpAnyH_ready (rs := [6]) (by kernel_rfl) (by simp) (AllReadyH.cons rfl (fun K hK => ?_) (AllReadyH.nil))
          have hcz := O9.out.1
          have hfz := O9.out.2.1
          go_simp
          refine hK.out _ _ (csetq (show q ≠ q + 1 + 1 + 1 by omega) HS9.out) (fun hHeld => ?_)
          clear hK K hcz hfz
          refine wpAnyH_done (by kernel_rfl) ?_ _
          exact fl_end { tmps := #[], defers := [] } B8.out hs1 HO.out HR.out HG.out HB.out HC0.out HC1.out HSM.out (by omega) (by omega) N9.out.1 N9.out.2.1 N9.out.2.2 (by rw [HP1.out, List.length_append]; rfl) (by rw [HP1.out, List.flatMap_append]; simp)
        · skip
          go_simp
          refine hK.out _ _ HS8.out (fun hHeld => ?_)
          clear hK K
          refine wpAnyH_ready (rs := [0]) (by kernel_rfl) (by simp) (AllReadyH.cons rfl (fun K hK => ?_) (AllReadyH.nil))
          obtain ⟨lo, -, -⟩ := O8.out
          go_simp
          refine hK.out _ _ hHeld (fun hHeld => ?_)
          clear hK K lo
          refine wpAnyH_ready (rs := [5]) (by kernel_rfl) (by simp) (AllReadyH.cons rfl (fun K hK => ?_) (AllReadyH.nil))
          refine step_append_row rfl (.tmp 24) (.tmp 28) 160 144 i0 _ 2 _ Tryz.underlying160 hi hz0 hz1 hz2 rfl (by decide) rfl (base := w5.heap.size) (v := sv) (ad := ⟨w7.heap.size, 0, none⟩) (n := pl.length) (m := 1) (news := csO (f c)) rfl rfl R8.out rfl (by exact lit_news2 w7 _ _ _) (by intro u hu; simp [csO] at hu; rcases hu with rfl | rfl <;> rfl) (by have := HPL.out; unfold maxLen; omega) (by have := HPL.out; omega) (by simp; omega) ?_
          intro v9 w9 r9 g9 n9
          obtain ⟨v9a, v9c, ev⟩ := row_view r9
          subst ev
          have N9 := Lib.hid (And.intro r9 (And.intro g9 n9))
          have O9 := Lib.hid (O8.out.same (g9.block _ (show q + 1 + 1 + 1 < (w7.alloc (.cells #[.int .i64 (f c).1, .bool (f c).2] 144)).heap.size by simp; omega) (fun e => by have := (World.ownsRow.lt HR.out _ e.symm).1; omega)))
          have HS9 := Lib.hid (gcellq g9 (show q < (w7.alloc (.cells #[.int .i64 (f c).1, .bool (f c).2] 144)).heap.size by simp; omega) (fun e => by have := (World.ownsRow.lt HR.out _ e.symm).1; omega) HS8.out)
          clear r9 g9 n9
          refine hK.out _ _ HS9.out (fun hHeld => ?_)
          clear hK K
          change wpAnyH _ _ _ _ _ _ _ (Act.put _ (some 29) _) _
          simp only [Act.put, List.setIfInBounds_toArray, List.set_cons_zero, List.set_cons_succ]
          refine wpAnyH_ready (rs := [6]) (by kernel_rfl) (by simp) (AllReadyH.cons rfl (fun K hK => ?_) (AllReadyH.nil))
          have hcz := O9.out.1
          have hfz := O9.out.2.1
          go_simp
          refine hK.out _ _ (csetq (show q ≠ q + 1 + 1 + 1 by omega) HS9.out) (fun hHeld => ?_)
          clear hK K hcz hfz
          refine wpAnyH_done (by kernel_rfl) ?_ _
          exact fl_end { tmps := #[], defers := [] } B8.out hs1 HO.out HR.out HG.out HB.out HC0.out HC1.out HSM.out (by omega) (by omega) N9.out.1 N9.out.2.1 N9.out.2.2 (by rw [HP1.out, List.length_append]; rfl) (by rw [HP1.out, List.flatMap_append]; simp)
    · obtain ⟨va, vb, r, e1, e2⟩ := plP_op f g HEN.out hj hc hio
      have ho1 : 1 ≤ opN c := by have := isO_ne hio; omega
      have ho7 := opN_le c
      rw [sgV_op hio] at HS
      have hta := ta_op (.int .i64 (opN c))
      have HP1 := Lib.hid e2
      rw [e1] at HR HPL
      have hlen : (r ++ [vb, va]).length = r.length + 2 := by simp
      rw [hlen] at HR HPL
      obtain ⟨pb, pc, hsv, hpb, hpl⟩ := row_own HR.out
      subst hsv
      have HTW := Lib.hid (fun W' => HTWO.out (opN c) va vb W' ho1 ho7)
      clear hlen e1 e2 hio hcm hc
      generalize plP f g t pre.length = pl at *
      generalize tx c = xs at *
      generalize opN c = o at *
      generalize hk : r.length = k at *
      have HR0 := Lib.hid hk; clear hk
      have kb : k ≤ 4194304 := by have := HPL.out; omega
      have i1 : (0 : Int) ≤ (k : Int) + 1 := by omega
      have i2 : (k : Int) < (k : Int) + 1 := by omega
      have i3 : (k : Int) < (k : Int) + 1 + 1 := by omega
      have i4 : (0 : Int) ≤ (k : Int) := by omega
      have hwk : IntKind.i64.wrap (k : Int) = (k : Int) := by rw [IntKind.wrap_i64]; omega
      gi_wp2_with fail
      refine ⟨trivial, (fun h => by cases h), (CallsIn.inRound l2 (callsIn_wide.2 HS.out)).mono ?_⟩
      rintro e w6 ⟨rfl, b6⟩
      have B6 := Lib.hid b6; clear b6
      have O6 := Lib.hid (HO.out.same (B6.out.block (q + 1 + 1 + 1) (by omega)))
      have hm6 := O6.out.1
      have kb1 : (k : Int) + 1 ≤ 4194305 := by omega
      gi_wp2_with fail
      subst hF2
      clear hm6
      have R6 := Lib.hid (row_next HR.out fun g _ hlt => B6.out.block g hlt)
      have z6 := B6.out.size
      have D6 := Lib.hid (bel_drewN B6.out 1)
      have HT6 := Lib.hid (HTW.out w6.drew)
      have HTP := Lib.hid (topO R6.out HR0.out)
      have HS6 := Lib.hid (show w6.drew.cell? ⟨q + 1 + 1 + 1, 0, none⟩ = some (.slice (some ⟨pb, 0, none⟩) (k + 1 + 1) pc) ∧ w6.drew.cell? ⟨q + 1, 0, none⟩ = some (.func (.func f2) #[] #[]) ∧ w6.drew.cell? ⟨pb, (k + 1) * 2, none⟩ = some (.int .i64 va.1) ∧ w6.drew.cell? ⟨pb, (k + 1) * 2 + 1, none⟩ = some (.bool va.2) from ⟨O6.out.1, (World.cell?_of_block (w := W) (B6.out.block (q + 1) (by omega))).trans HC1.out, HTP.out.1⟩)
      refine wpIn_region_held (S := fun z => z.cell? ⟨q + 1 + 1 + 1, 0, none⟩ = some (.slice (some ⟨pb, 0, none⟩) (k + 1 + 1) pc) ∧ z.cell? ⟨q + 1, 0, none⟩ = some (.func (.func f2) #[] #[]) ∧ z.cell? ⟨pb, (k + 1) * 2, none⟩ = some (.int .i64 va.1) ∧ z.cell? ⟨pb, (k + 1) * 2 + 1, none⟩ = some (.bool va.2)) (by kernel_rfl) (defers_none (by kernel_rfl)) (fun _ _ h => h) HS6.out (fun hHeld => ?_)
      refine tkI (i := 0) (v := ?v0u) rfl (Or.inl ⟨by rfl, ?hy0u⟩) ?rest0u
      case hy0u => (intro zz hSw; (try dsimp only at hSw); go_simp; (try with_reducible rfl))
      change wpAnyH _ _ _ _ _ _ _ (Act.put _ (some 36) _) _
      simp only [Act.put, List.setIfInBounds_toArray, List.set_cons_zero, List.set_cons_succ]
      refine tkI (i := 1) (v := ?v1u) rfl (Or.inl ⟨by rfl, ?hy1u⟩) ?rest1u
      case hy1u => (intro zz hSw; (try dsimp only at hSw); go_simp; (try with_reducible rfl))
      change wpAnyH _ _ _ _ _ _ _ (Act.put _ (some 37) _) _
      simp only [Act.put, List.setIfInBounds_toArray, List.set_cons_zero, List.set_cons_succ]
      refine tkI (i := 2) (v := ?v2u) rfl (Or.inl ⟨by rfl, ?hy2u⟩) ?rest2u
      case hy2u => (intro zz hSw; (try dsimp only at hSw); go_simp; (try with_reducible rfl))
      change wpAnyH _ _ _ _ _ _ _ (Act.put _ (some 38) _) _
      simp only [Act.put, List.setIfInBounds_toArray, List.set_cons_zero, List.set_cons_succ]
      refine tkI (i := 3) (v := ?v3u) rfl (Or.inl ⟨by rfl, ?hy3u⟩) ?rest3u
      case hy3u => (intro zz hSw; (try dsimp only at hSw); go_simp; (try with_reducible rfl))
      change wpAnyH _ _ _ _ _ _ _ (Act.put _ (some 39) _) _
      simp only [Act.put, List.setIfInBounds_toArray, List.set_cons_zero, List.set_cons_succ]
      refine tkI (i := 4) (v := ?v4u) rfl (Or.inl ⟨by rfl, ?hy4u⟩) ?rest4u
      case hy4u => (intro zz hSw; (try dsimp only at hSw); go_simp; (try with_reducible rfl))
      change wpAnyH _ _ _ _ _ _ _ (Act.put _ (some 40) _) _
      simp only [Act.put, List.setIfInBounds_toArray, List.set_cons_zero, List.set_cons_succ]
      refine tkI (i := 5) (v := ?v5u) rfl (Or.inl ⟨by rfl, ?hy5u⟩) ?rest5u
      case hy5u => (intro zz hSw; (try dsimp only at hSw); go_simp; (try with_reducible rfl))
      change wpAnyH _ _ _ _ _ _ _ (Act.put _ (some 41) _) _
      simp only [Act.put, List.setIfInBounds_toArray, List.set_cons_zero, List.set_cons_succ]
      refine tkI (i := 6) (v := ?v6u) rfl (Or.inl ⟨by rfl, ?hy6u⟩) ?rest6u
      case hy6u => (intro zz hSw; (try dsimp only at hSw); go_simp; (try with_reducible rfl))
      change wpAnyH _ _ _ _ _ _ _ (Act.put _ (some 42) _) _
      simp only [Act.put, List.setIfInBounds_toArray, List.set_cons_zero, List.set_cons_succ]
      refine tkI (i := 7) (v := ?v7u) rfl (Or.inl ⟨by rfl, ?hy7u⟩) ?rest7u
      case hy7u => (intro zz hSw; (try dsimp only at hSw); go_simp; (try with_reducible rfl))
      change wpAnyH _ _ _ _ _ _ _ (Act.put _ (some 43) _) _
      simp only [Act.put, List.setIfInBounds_toArray, List.set_cons_zero, List.set_cons_succ]
      refine tkI (i := 8) (v := ?v8u) rfl (Or.inl ⟨by rfl, ?hy8u⟩) ?rest8u
      case hy8u => (intro zz hSw; (try dsimp only at hSw); go_simp; (try with_reducible rfl))
      change wpAnyH _ _ _ _ _ _ _ (Act.put _ (some 44) _) _
      simp only [Act.put, List.setIfInBounds_toArray, List.set_cons_zero, List.set_cons_succ]
      refine tkI (i := 9) (v := ?v9u) rfl (Or.inl ⟨by rfl, ?hy9u⟩) ?rest9u
      case hy9u => (intro zz hSw; (try dsimp only at hSw); go_simp; (try with_reducible rfl))
      change wpAnyH _ _ _ _ _ _ _ (Act.put _ (some 45) _) _
      simp only [Act.put, List.setIfInBounds_toArray, List.set_cons_zero, List.set_cons_succ]
      refine tkI (i := 10) (v := ?v10u) rfl (Or.inl ⟨by rfl, ?hy10u⟩) ?rest10u
      case hy10u => (intro zz hSw; (try dsimp only at hSw); go_simp; (try with_reducible rfl))
      change wpAnyH _ _ _ _ _ _ _ (Act.put _ (some 46) _) _
      simp only [Act.put, List.setIfInBounds_toArray, List.set_cons_zero, List.set_cons_succ]
      refine tkI (i := 11) (v := ?v11u) rfl (Or.inl ⟨by rfl, ?hy11u⟩) ?rest11u
      case hy11u => (intro zz hSw; (try dsimp only at hSw); go_simp; (try with_reducible rfl))
      change wpAnyH _ _ _ _ _ _ _ (Act.put _ (some 47) _) _
      simp only [Act.put, List.setIfInBounds_toArray, List.set_cons_zero, List.set_cons_succ]
      refine tkI (i := 12) (v := ?v12u) rfl (Or.inl ⟨by rfl, ?hy12u⟩) ?rest12u
      case hy12u => (intro zz hSw; (try dsimp only at hSw); go_simp; (try with_reducible rfl))
      change wpAnyH _ _ _ _ _ _ _ (Act.put _ (some 48) _) _
      simp only [Act.put, List.setIfInBounds_toArray, List.set_cons_zero, List.set_cons_succ]
      refine wpAnyH_ready (rs := [13]) (by kernel_rfl) (by simp) (AllReadyH.cons rfl (fun K hK => ?_) (AllReadyH.nil))
      obtain ⟨lo0, lo1⟩ := HTP.out.2.1
      go_simp
      refine hK.out _ _ hHeld (fun hHeld => ?_)
      clear hK K lo0 lo1
      refine wpAnyH_ready (rs := [14]) (by kernel_rfl) (by simp) (AllReadyH.cons rfl (fun K hK => ?_) (AllReadyH.nil))
      go_simp
      refine HT6.out.mono ?_; rintro e w7 ⟨rfl, b7⟩
      have B7 := Lib.hid (bel_tr D6.out b7 (Nat.le_refl _))
      have z7 : w6.heap.size ≤ w7.heap.size := b7.size
      have O7 := Lib.hid (O6.out.drew.next b7)
      have R7 := Lib.hid (row_next R6.out fun g _ hlt => b7.block g hlt)
      have HTP7 := Lib.hid (topO R7.out HR0.out)
      have HS7 := Lib.hid (show w7.cell? ⟨q + 1 + 1 + 1, 0, none⟩ = some (.slice (some ⟨pb, 0, none⟩) (k + 1 + 1) pc) ∧ w7.cell? ⟨q + 1, 0, none⟩ = some (.func (.func f2) #[] #[]) ∧ w7.cell? ⟨pb, (k + 1) * 2, none⟩ = some (.int .i64 va.1) ∧ w7.cell? ⟨pb, (k + 1) * 2 + 1, none⟩ = some (.bool va.2) from ⟨O7.out.1, (World.cell?_of_block (w := w6.drew) (b7.block (q + 1) (show q + 1 < w6.heap.size by omega))).trans HS6.out.2.1, HTP7.out.1⟩)
      clear b7
      refine hK.out _ _ HS7.out (fun hHeld => ?_)
      clear hK K
      refine tkI (i := 15) (v := ?v15u) rfl (Or.inl ⟨by rfl, ?hy15u⟩) ?rest15u
      case hy15u => (intro zz hSw; (try dsimp only at hSw); go_simp; (try with_reducible rfl))
      change wpAnyH _ _ _ _ _ _ _ (Act.put _ (some 51) _) _
      simp only [Act.put, List.setIfInBounds_toArray, List.set_cons_zero, List.set_cons_succ]
      refine wpAnyH_ready (rs := [16]) (by kernel_rfl) (by simp) (AllReadyH.cons rfl (fun K hK => ?_) (AllReadyH.nil))
      obtain ⟨-, ⟨hc0z, hc1z⟩, hf0z, hf1z⟩ := HTP7.out
      go_simp
      have HS8 := Lib.hid (show ((w7.setCell ⟨pb, k * 2, none⟩ (.int .i64 (g o va vb).1)).setCell ⟨pb, k * 2 + 1, none⟩ (.bool (g o va vb).2)).cell? ⟨q + 1 + 1 + 1, 0, none⟩ = some (.slice (some ⟨pb, 0, none⟩) (k + 1 + 1) pc) ∧ ((w7.setCell ⟨pb, k * 2, none⟩ (.int .i64 (g o va vb).1)).setCell ⟨pb, k * 2 + 1, none⟩ (.bool (g o va vb).2)).cell? ⟨q + 1, 0, none⟩ = some (.func (.func f2) #[] #[]) ∧ ((w7.setCell ⟨pb, k * 2, none⟩ (.int .i64 (g o va vb).1)).setCell ⟨pb, k * 2 + 1, none⟩ (.bool (g o va vb).2)).cell? ⟨pb, (k + 1) * 2, none⟩ = some (.int .i64 va.1) ∧ ((w7.setCell ⟨pb, k * 2, none⟩ (.int .i64 (g o va vb).1)).setCell ⟨pb, k * 2 + 1, none⟩ (.bool (g o va vb).2)).cell? ⟨pb, (k + 1) * 2 + 1, none⟩ = some (.bool va.2) from ⟨csetq (show q + 1 + 1 + 1 ≠ pb by omega) (csetq (show q + 1 + 1 + 1 ≠ pb by omega) HS7.out.1), csetq (show q + 1 ≠ pb by omega) (csetq (show q + 1 ≠ pb by omega) HS7.out.2.1), coff (by omega) (coff (by omega) HS7.out.2.2.1), coff (by omega) (coff (by omega) HS7.out.2.2.2)⟩)
      refine hK.out _ _ HS8.out (fun hHeld => ?_)
      clear hK K hc0z hc1z hf0z hf1z
      refine wpAnyH_done (by kernel_rfl) ?_ _
      have O8 := Lib.hid (O7.out.same ((Below.heap_setCell _ ⟨pb, k * 2 + 1, none⟩ (.bool (g o va vb).2) (q + 1 + 1 + 1) (fun e => by have e' : q + 1 + 1 + 1 = pb := e; omega)).trans (Below.heap_setCell _ ⟨pb, k * 2, none⟩ (.int .i64 (g o va vb).1) (q + 1 + 1 + 1) (fun e => by have e' : q + 1 + 1 + 1 = pb := e; omega))))
      have R8 := Lib.hid (row_cut ((World.ownsRow.stored ((World.ownsRow.stored R7.out (k * 2) (.int .i64 (g o va vb).1)).1) (k * 2 + 1) (.bool (g o va vb).2)).1) (m := k + 1) (by omega))
      have G8 := Lib.hid (show w7.grownBy ((w7.setCell ⟨pb, k * 2, none⟩ (.int .i64 (g o va vb).1)).setCell ⟨pb, k * 2 + 1, none⟩ (.bool (g o va vb).2)) (Value.slice (some ⟨pb, 0, none⟩) (k + 1 + 1) pc).ownBlock from grown_trans grown_setq grown_setq)
      clear hHeld HS8
      generalize ((w7.setCell ⟨pb, k * 2, none⟩ (.int .i64 (g o va vb).1)).setCell ⟨pb, k * 2 + 1, none⟩ (.bool (g o va vb).2)) = w8 at *
      obtain ⟨hm8, hf8, -⟩ := id O8.out
      have hcut : ∀ w, (Instr.slice 160 (.slice (some ⟨pb, 0, none⟩) (k + 1 + 1) pc) none (some (.int .i64 ((k : Int) + 1))) none).run Tryz.prog w = .ok (.slice (some ⟨pb, 0, none⟩) (k + 1) pc) w := cut_toK 160 2 (by kernel_rfl) (by intro w; exact Tryz.sizeOf144 w) (some ⟨pb, 0, none⟩) (k + 1 + 1) pc (k + 1) (by omega) (row_cap R7.out)
      clear i1 i2 i3 i4 hwk kb1
      gi_wp2_with fail
      exact fl_end { tmps := #[], defers := [] } B7.out hs1 HO.out HR.out HG.out HB.out HC0.out HC1.out HSM.out (by omega) (by omega) R8.out G8.out (Or.inl rfl) (by rw [HP1.out, List.length_append, HR0.out]; rfl) (by rw [HP1.out]; exact putO HR0.out)
  · rintro D gg W hD ⟨hs1, sv, ho, hr, hg, hb, hc0, hc1, hsm⟩ hK
    obtain ⟨r, hrs⟩ : ∃ r, stk f g t = [r] := by
      have := (stk_two f g HEN.out).1
      match hs : stk f g t, this with
      | [r], _ => exact ⟨r, rfl⟩
    rw [show ((bkL t, gg) : List (Array Value) × Option Nat).1.length = t.length from bkL_len t, plP_all, hrs] at hr
    obtain ⟨pb, pc, hsv, hpb, hpl⟩ := row_own (n := 0) hr
    subst hsv
    have HB := Lib.hid hb
    have l0 : W.cell? ⟨pb, 0, none⟩ = some (.int .i64 r.1) := World.ownsRow.cellAt hr 0 (by decide)
    have l1 : W.cell? ⟨pb, 1, none⟩ = some (.bool r.2) := World.ownsRow.cellAt hr 1 (by decide)
    obtain ⟨z0, z1, fz0, fz1⟩ := two_cells ((hsm (q + 1 + 1) (by omega) (by omega)).trans XR.out)
    obtain ⟨o1, o2, o3⟩ := ho
    have HRS := Lib.hid hrs
    clear hr hb hg hc0 hc1 hrs
    have PB := Lib.hid (put_below (n₀ := q) (l := D) (W := W) (o := .deferred none) (by omega) (by omega))
    gi_wp2_with fail
    have hK2 : ((W.setCell ⟨q + 1 + 1, 0, none⟩ (.int .i64 r.1)).setCell ⟨q + 1 + 1, 1, none⟩ (.bool r.2)).heap[D]? = some (.deferred (some [])) := (Below.heap_setCell _ ⟨q + 1 + 1, 1, none⟩ _ D (fun e => by have e' : D = q + 1 + 1 := e; omega)).trans ((Below.heap_setCell _ ⟨q + 1 + 1, 0, none⟩ _ D (fun e => by have e' : D = q + 1 + 1 := e; omega)).trans hK)
    have y0 : ((W.setCell ⟨q + 1 + 1, 0, none⟩ (.int .i64 r.1)).setCell ⟨q + 1 + 1, 1, none⟩ (.bool r.2)).cell? ⟨q + 1 + 1, 0, none⟩ = some (.int .i64 r.1) := coff (by omega) (World.cell?_setCell_same' _ _ _ (by rw [z0]; rfl))
    have y1 : ((W.setCell ⟨q + 1 + 1, 0, none⟩ (.int .i64 r.1)).setCell ⟨q + 1 + 1, 1, none⟩ (.bool r.2)).cell? ⟨q + 1 + 1, 1, none⟩ = some (.bool r.2) := World.cell?_setCell_same' _ _ _ (by rw [coff (by omega) z1]; rfl)
    have B2 : Below q W ((W.setCell ⟨q + 1 + 1, 0, none⟩ (.int .i64 r.1)).setCell ⟨q + 1 + 1, 1, none⟩ (.bool r.2)) := ((Below.refl q W).setCell (p := ⟨q + 1 + 1, 0, none⟩) (by show q ≤ q + 1 + 1; omega) _).setCell (p := ⟨q + 1 + 1, 1, none⟩) (by show q ≤ q + 1 + 1; omega) _
    have hz2 := B2.size
    generalize (W.setCell ⟨q + 1 + 1, 0, none⟩ (.int .i64 r.1)).setCell ⟨q + 1 + 1, 1, none⟩ (.bool r.2) = W2 at *
    have PB2 := put_below (n₀ := q) (l := D) (W := W2) (o := .deferred none) (by omega) (by omega)
    have y0' : (W2.putObj D (.deferred none)).cell? ⟨q + 1 + 1, 0, none⟩ = some (.int .i64 r.1) := (World.cell?_of_block (w := W2) (World.putObj_heap_other (by show q + 1 + 1 ≠ D; omega))).trans y0
    have y1' : (W2.putObj D (.deferred none)).cell? ⟨q + 1 + 1, 1, none⟩ = some (.bool r.2) := (World.cell?_of_block (w := W2) (World.putObj_heap_other (by show q + 1 + 1 ≠ D; omega))).trans y1
    refine ⟨by simp, .inl ⟨_, _, rfl, run_takeDeferred hK2, ?_⟩⟩
    exact ⟨.agg #[.int .i64 r.1, .bool r.2], by simp [results, Tryz.results136, go_sem, y0', y1'], r, HRS.out, rfl, HB.out.trans (B2.trans PB2)⟩
  · rintro D k pre W hD hpre hf hK
    exact hf.elim
end Go.Proofs.YtfnnoehpahdgcaaGreatDoor.Cl
namespace Go.Proofs.YtfnnoehpahdgcaaGreatDoor.Cl
set_option linter.unusedVariables false
open Go.RowKit Wd Rp Kp
theorem vlF_gv {gs : List Int} {bs : List Bi} {s : Tk} (h : gvN s ≠ 0) : vlF gs bs s = (gs.getD (gvN s - 1) 0, true) := by unfold vlF; rw [if_pos h]
theorem vlF_rd {gs : List Int} {bs : List Bi} {s : Tk} (h : gvN s = 0) (h2 : rdB s = true) : vlF gs bs s = (rdV s, true) := by
  have hn : nmB s = false := by
    cases e : nmB s with
    | false => rfl
    | true => unfold rdB at h2; rw [nm_rd e] at h2; cases h2
  unfold vlF; rw [if_neg (by omega), hn]; rfl
theorem vlF_nm {gs : List Int} {bs : List Bi} {s : Tk} (h : gvN s = 0) (h2 : nmB s = true) : vlF gs bs s = ((valL (tx s) bs).1, true) := by unfold vlF; rw [if_neg (by omega), h2]; rfl
theorem isL_nm {s : Tk} (h : isL s = true) (h1 : gvN s = 0) (h2 : rdB s = false) : nmB s = true := by
  unfold isL at h
  rw [h1, h2] at h
  simp at h
  exact h.2
structure Env (w : World) (ba : Option Addr) (bc bn : Nat) (bs : List Bi) (ga : Option Addr) (gc : Nat) (gs : List Int) : Prop where
  bl : bs.length = bn
  bv : VwI w ba bc bs
  b4 : bn ≤ 4194304
  gv : V1 w ga gc (inL gs)
  g3 : gs.length = 3
theorem Env.below {w w' : World} {ba : Option Addr} {bc bn : Nat} {bs : List Bi} {ga : Option Addr} {gc : Nat} {gs : List Int} (h : Env w ba bc bn bs ga gc gs) (hb : Below w.heap.size w w') : Env w' ba bc bn bs ga gc gs := ⟨h.bl, h.bv.below hb, h.b4, h.gv.below hb, h.g3⟩
set_option maxHeartbeats 4000000 in
set_option maxRecDepth 100000 in
theorem l8Sum_any (a : Option Addr) (cap : Nat) (l : List Tk) (n : Nat) (hn : l.length = n) (hl : n ≤ 4194304) (hm : ∀ s ∈ l, s.length ≤ 4194304) (ba : Option Addr) (bc bn : Nat) (bs : List Bi) (ga : Option Addr) (gc : Nat) (gs : List Int) : ∀ (u : Su), u.ok → ∀ (i : Int) (r : List Tk) (w : World), 0 ≤ i → l.drop i.toNat = u.fl ++ r → V1 w a cap (txL l) → Env w ba bc bn bs ga gc gs →
    Calls Tryz.prog 114 #[.slice a n cap, .int .i64 i, .slice ba bn bc, .slice ga (3 : Nat) gc] w fun e w' => e = .returned (.tuple #[.int .i64 (u.fo (vlF gs bs) vlG).1, .int .i64 (i + (u.fl.length : Int)), .bool (u.fo (vlF gs bs) vlG).2]) ∧ Below w.heap.size w w' := by
  intro u
  induction u with
  | one s =>
    intro hu i r w hi hd hv he
    have h0 := isL_0 hu
    obtain ⟨hs, hlt, -⟩ := drop_head hd
    obtain ⟨k, rfl⟩ : ∃ k : Nat, i = k := ⟨i.toNat, by omega⟩
    simp only [Int.toNat_natCast] at hs hlt
    obtain ⟨g, o, rfl, hg, c0⟩ := hv.tx hs
    have HO := Lib.hid (fun w => l8Op_any w s)
    have hsl : s.length ≤ 4194304 := hm s (List.mem_of_getElem? hs)
    have hlk : k < n := by omega
    clear hv hs hg hd
    rw [h0] at HO
    have HG := Lib.hid (fun w => l8Given_any w s)
    have HR := Lib.hid (fun w => rdS_any s w (by omega))
    have HV := Lib.hid (fun w h => specValue_any w ba bc bs bn (tx s) he.bl (VwI.below he.bv h) he.b4)
    have HGL := Lib.hid (gvN_le s)
    have HF := Lib.hid (show Su.fo (vlF gs bs) vlG (.one s) = vlF gs bs s from rfl)
    generalize Su.fo (vlF gs bs) vlG (.one s) = kr at *
    by_cases hgv : gvN s = 0
    · rw [hgv] at HG
      cases hrd : rdB s
      · rw [hrd] at HR
        have HE := Lib.hid (HF.out.trans (vlF_nm hgv (isL_nm hu hgv hrd))); clear HF hu hgv hrd
        generalize (valL (tx s) bs).1 = va at *
        generalize (valL (tx s) bs).2 = vb at *
        generalize tx s = x at *
        go_enter Tryz.func114, Tryz.ntmps114
        go_wp2_with fail
        refine (HO.out _).mono ?_; rintro e w1 ⟨rfl, b1⟩
        have B1 := Lib.hid b1; clear b1
        go_wp2_with fail
        refine (HG.out _).mono ?_; rintro e w2 ⟨rfl, b2⟩
        have B2 := Lib.hid (bel_tr B1.out b2 (Nat.le_refl _))
        clear b2
        go_wp2_with fail
        refine (HR.out _).mono ?_; rintro e w3 ⟨rfl, rfl⟩
        have HV2 := Lib.hid (HV.out _ B2.out)
        go_wp2_with fail
        refine HV2.out.mono ?_; rintro e w4 ⟨rfl, b4⟩
        have B4 := Lib.hid (bel_tr B2.out b4 (Nat.le_refl _)); clear b4
        go_wp2_with fail
        refine bodyPost_ret (v := .tuple #[.int .i64 va, .int .i64 ((k : Int) + 1), .bool true]) (by simp [results, Tryz.results114, go_sem]) rfl ⟨by rw [HE.out]; rfl, B4.out⟩
      · rw [hrd] at HR
        have HE := Lib.hid (HF.out.trans (vlF_rd hgv hrd)); clear HF hu hgv hrd HV
        generalize rdV s = rv at *
        generalize tx s = x at *
        go_enter Tryz.func114, Tryz.ntmps114
        go_wp2_with fail
        refine (HO.out _).mono ?_; rintro e w1 ⟨rfl, b1⟩
        have B1 := Lib.hid b1; clear b1
        go_wp2_with fail
        refine (HG.out _).mono ?_; rintro e w2 ⟨rfl, b2⟩
        have B2 := Lib.hid (bel_tr B1.out b2 (Nat.le_refl _))
        clear b2
        go_wp2_with fail
        refine (HR.out _).mono ?_; rintro e w3 ⟨rfl, rfl⟩
        go_wp2_with fail
        refine bodyPost_ret (v := .tuple #[.int .i64 rv, .int .i64 ((k : Int) + 1), .bool true]) (by simp [results, Tryz.results114, go_sem]) rfl ⟨by rw [HE.out]; rfl, B2.out⟩
    · have HE := Lib.hid (HF.out.trans (vlF_gv hgv)); clear HF hu HV HR
      obtain ⟨j, hj⟩ : ∃ j : Nat, gvN s - 1 = j := ⟨_, rfl⟩
      have hj3 : j < 3 := by have := HGL.out; omega
      have hjg : (gvN s : Int) - 1 = (j : Int) := by omega
      rw [hjg] at HG
      rw [hj] at HE
      clear hgv hj hjg HGL
      have p0 : (0 : Int) ≤ (j : Int) := by omega
      have p0d : decide ((0 : Int) ≤ (j : Int)) = true := by simp
      obtain ⟨v, hv⟩ : ∃ v, gs[j]? = some v := ⟨gs[j]'(by have := he.g3; omega), List.getElem?_eq_getElem _⟩
      have hgd : gs.getD j 0 = v := by rw [List.getD_eq_getElem?_getD, hv]; rfl
      rw [hgd] at HE
      obtain ⟨gg, go, rfl, hgg, gc0⟩ := he.gv.iv hv
      have HGC := Lib.hid gc0
      clear hv hgd he gc0
      generalize tx s = x at *
      go_enter Tryz.func114, Tryz.ntmps114
      go_wp2_with fail
      refine (HO.out _).mono ?_; rintro e w1 ⟨rfl, b1⟩
      have B1 := Lib.hid b1; clear b1
      go_wp2_with fail
      refine (HG.out _).mono ?_; rintro e w2 ⟨rfl, b2⟩
      have B2 := Lib.hid (bel_tr B1.out b2 (Nat.le_refl _))
      clear b2
      have gc2 := (B2.out.cell (p := ⟨gg, go + j, none⟩) hgg).trans HGC.out
      go_wp2_with fail
      refine bodyPost_ret (v := .tuple #[.int .i64 v, .int .i64 ((k : Int) + 1), .bool true]) (by simp [results, Tryz.results114, go_sem]) rfl ⟨by rw [HE.out]; rfl, B2.out⟩
  | two s x y ihx ihy =>
    intro hu i r w hi hd hv he
    rw [Su.fl, List.cons_append, List.append_assoc] at hd
    obtain ⟨hs, hlt, hd2⟩ := drop_head hd
    have hd1 := hd2
    have hd3 := drop_more hd2
    have e1 : i.toNat + 1 = (i + 1).toNat := by omega
    have e3 : i.toNat + 1 + x.fl.length = (i + 1 + x.fl.length).toNat := by omega
    rw [e1] at hd1
    rw [e3] at hd3
    have hlx := su_len (u := x) (by omega) hd1
    have hly := su_len (u := y) (by omega) hd3
    have HX := Lib.hid (fun w h he => ihx hu.2.1 (i + 1) (y.fl ++ r) w (by omega) hd1 h he)
    have HY := Lib.hid (fun w h he => ihy hu.2.2 (i + 1 + x.fl.length) r w (by omega) hd3 h he)
    have hon := isO_ne hu.1
    have ho7 := opN_le s
    have hln : ((Su.two s x y).fl.length : Int) = 1 + x.fl.length + y.fl.length := by simp [Su.fl]; omega
    have HLN := Lib.hid hln; clear hln ihx ihy hd hd1 hd2 hd3 e1 e3 hu
    obtain ⟨k, rfl⟩ : ∃ k : Nat, i = k := ⟨i.toNat, by omega⟩
    simp only [Int.toNat_natCast] at hs hlt
    obtain ⟨g, q, rfl, hg, c0⟩ := hv.tx hs
    have HV := Lib.hid hv
    have HO := Lib.hid (fun w => l8Op_any w s)
    have hlk : k < n := by omega
    clear hs hg hv
    have HF := Lib.hid (show Su.fo (vlF gs bs) vlG (.two s x y) = vlG (opN s) (x.fo (vlF gs bs) vlG) (y.fo (vlF gs bs) vlG) from rfl)
    have hp : (0 : Int) < (opN s : Int) := by omega
    have HEV := Lib.hid he; clear he
    generalize hlx' : x.fl.length = lx at *
    generalize hly' : y.fl.length = ly at *
    generalize Su.fo (vlF gs bs) vlG (.two s x y) = kr at *
    generalize x.fo (vlF gs bs) vlG = kx at *
    generalize y.fo (vlF gs bs) vlG = ky at *
    generalize opN s = o at *
    generalize (Su.two s x y).fl.length = ll at *
    generalize tx s = xs at *
    clear hlx' hly' hon
    obtain ⟨kx, kxb⟩ := kx
    obtain ⟨ky, kyb⟩ := ky
    have HD := Lib.hid (fun w => specDid_any (o : Int) kx ky w)
    simp only at HX HY
    cases kxb
    · have HE2 := Lib.hid (HF.out.trans (vlG_no1 rfl)); clear HF
      go_enter Tryz.func114, Tryz.ntmps114
      go_wp2_with fail
      refine (HO.out _).mono ?_; rintro e w1 ⟨rfl, b1⟩
      have V1' := Lib.hid (HV.out.below b1)
      have E1' := Lib.hid (HEV.out.below b1)
      have B1 := Lib.hid b1; clear b1
      go_wp2_with fail
      refine (HX.out w1 V1'.out E1'.out).mono ?_; rintro e w2 ⟨rfl, b2⟩
      have V2' := Lib.hid (V1'.out.below b2)
      have E2' := Lib.hid (E1'.out.below b2)
      have B2 := Lib.hid (bel_tr B1.out b2 (Nat.le_refl _)); clear b2
      go_wp2_with fail
      refine (HY.out w2 V2'.out E2'.out).mono ?_; rintro e w3 ⟨rfl, b3⟩
      have B3 := Lib.hid (bel_tr B2.out b3 (Nat.le_refl _)); clear b3
      go_wp2_with fail
      refine bodyPost_ret (v := .tuple #[.int .i64 0, .int .i64 ((k : Int) + 1 + (lx : Int) + (ly : Int)), .bool false]) (by simp [results, Tryz.results114, go_sem]) rfl ⟨?_, B3.out⟩
      rw [HE2.out, HLN.out]
      exact congrArg (fun z => Ending.returned (Value.tuple #[.int .i64 0, .int .i64 z, .bool false])) (by omega)
    · cases kyb
      · have HE2 := Lib.hid (HF.out.trans (vlG_no2 rfl)); clear HF
        go_enter Tryz.func114, Tryz.ntmps114
        go_wp2_with fail
        refine (HO.out _).mono ?_; rintro e w1 ⟨rfl, b1⟩
        have V1' := Lib.hid (HV.out.below b1)
        have E1' := Lib.hid (HEV.out.below b1)
        have B1 := Lib.hid b1; clear b1
        go_wp2_with fail
        refine (HX.out w1 V1'.out E1'.out).mono ?_; rintro e w2 ⟨rfl, b2⟩
        have V2' := Lib.hid (V1'.out.below b2)
        have E2' := Lib.hid (E1'.out.below b2)
        have B2 := Lib.hid (bel_tr B1.out b2 (Nat.le_refl _)); clear b2
        go_wp2_with fail
        refine (HY.out w2 V2'.out E2'.out).mono ?_; rintro e w3 ⟨rfl, b3⟩
        have B3 := Lib.hid (bel_tr B2.out b3 (Nat.le_refl _)); clear b3
        go_wp2_with fail
        refine bodyPost_ret (v := .tuple #[.int .i64 0, .int .i64 ((k : Int) + 1 + (lx : Int) + (ly : Int)), .bool false]) (by simp [results, Tryz.results114, go_sem]) rfl ⟨?_, B3.out⟩
        rw [HE2.out, HLN.out]
        exact congrArg (fun z => Ending.returned (Value.tuple #[.int .i64 0, .int .i64 z, .bool false])) (by omega)
      · have HE2 := Lib.hid (HF.out.trans (vlG_yes rfl rfl)); clear HF
        simp only at HE2
        generalize didV (o : Int) kx ky = dv at *
        generalize didB (o : Int) kx ky = db at *
        go_enter Tryz.func114, Tryz.ntmps114
        go_wp2_with fail
        refine (HO.out _).mono ?_; rintro e w1 ⟨rfl, b1⟩
        have V1' := Lib.hid (HV.out.below b1)
        have E1' := Lib.hid (HEV.out.below b1)
        have B1 := Lib.hid b1; clear b1
        go_wp2_with fail
        refine (HX.out w1 V1'.out E1'.out).mono ?_; rintro e w2 ⟨rfl, b2⟩
        have V2' := Lib.hid (V1'.out.below b2)
        have E2' := Lib.hid (E1'.out.below b2)
        have B2 := Lib.hid (bel_tr B1.out b2 (Nat.le_refl _)); clear b2
        go_wp2_with fail
        refine (HY.out w2 V2'.out E2'.out).mono ?_; rintro e w3 ⟨rfl, b3⟩
        have B3 := Lib.hid (bel_tr B2.out b3 (Nat.le_refl _)); clear b3
        go_wp2_with fail
        refine (HD.out _).mono ?_; rintro e w4 ⟨rfl, rfl⟩
        go_wp2_with fail
        refine bodyPost_ret (v := .tuple #[.int .i64 dv, .int .i64 ((k : Int) + 1 + (lx : Int) + (ly : Int)), .bool db]) (by simp [results, Tryz.results114, go_sem]) rfl ⟨?_, B3.out⟩
        rw [HE2.out, HLN.out]
        exact congrArg (fun z => Ending.returned (Value.tuple #[.int .i64 dv, .int .i64 z, .bool db])) (by omega)
theorem vlV_0 {l : List Tk} {i : Int} {bs : List Bi} {gs : List Int} (h : kdV l i = 0) : vlV l i bs gs = (0, false) := by unfold vlV; rw [if_pos h]
theorem vlV_1 {l : List Tk} {i : Int} {bs : List Bi} {gs : List Int} (h : okI bs = false) : vlV l i bs gs = (0, false) := by unfold vlV; rw [h]; split <;> rfl
theorem vlV_2 {l : List Tk} {i : Int} {bs : List Bi} {gs : List Int} (h : thB gs = false) : vlV l i bs gs = (0, false) := by unfold vlV; rw [h]; split <;> (try split) <;> rfl
theorem vlV_3 {l : List Tk} {i : Int} {bs : List Bi} {gs : List Int} (h : kdV l i ≠ 0) (h1 : okI bs = true) (h2 : thB gs = true) : vlV l i bs gs = foV (vlF gs bs) vlG (0, false) l i := by unfold vlV; rw [if_neg h, if_pos h1, if_pos h2]
theorem kdV_some {l : List Tk} {i : Int} (h : kdV l i ≠ 0) : ∃ n, enA l i = some n := by
  cases e : enA l i with
  | none => exact absurd (foV_none kdF kdG 0 e) h
  | some n => exact ⟨n, rfl⟩
end Go.Proofs.YtfnnoehpahdgcaaGreatDoor.Cl
namespace Go.Proofs.YtfnnoehpahdgcaaGreatDoor.Cl
set_option linter.unusedVariables false
open Go.RowKit Wd Rp Kp Ra Go.Shelf
theorem tw_wd (v : Value) (w : World) : (Instr.typeAssert (.iface 134 v) 142 134 true).run Tryz.prog w = .ok (.tuple #[v, .bool true]) w := by kernel_rfl
theorem tw_gv (v : Value) (w : World) : (Instr.typeAssert (.iface 158 v) 142 134 true).run Tryz.prog w = .ok (.tuple #[.int .i32 0, .bool false]) w := by kernel_rfl
theorem tw_nm (v : Value) (w : World) : (Instr.typeAssert (.iface 159 v) 142 134 true).run Tryz.prog w = .ok (.tuple #[.int .i32 0, .bool false]) w := by kernel_rfl
theorem tg_gv (v : Value) (w : World) : (Instr.typeAssert (.iface 158 v) 142 158 true).run Tryz.prog w = .ok (.tuple #[v, .bool true]) w := by kernel_rfl
theorem tg_nm (v : Value) (w : World) : (Instr.typeAssert (.iface 159 v) 142 158 true).run Tryz.prog w = .ok (.tuple #[.int .i64 0, .bool false]) w := by kernel_rfl
theorem tn_nm (v : Value) (w : World) : (Instr.typeAssert (.iface 159 v) 142 159 true).run Tryz.prog w = .ok (.tuple #[v, .bool true]) w := by kernel_rfl
theorem sgV_gv {s : Tk} (h : gvN s ≠ 0) : sgV s = .iface 158 (.int .i64 ((gvN s : Int) - 1)) := by unfold sgV; rw [if_pos h]
theorem sgV_nm {s : Tk} (h0 : opN s = 0) (h : gvN s = 0) (h2 : nmB s = true) : sgV s = .iface 159 (.string (tx s)) := by unfold sgV; rw [if_neg (by omega), if_neg (by omega), h2]; rfl
theorem sgV_wd {s : Tk} (h0 : opN s = 0) (h : gvN s = 0) (h2 : nmB s = false) (h3 : rdB s = true) : sgV s = .iface 134 (.int .i32 (rdV s)) := by unfold sgV; rw [if_neg (by omega), if_neg (by omega), h2, h3]; rfl
set_option maxHeartbeats 4000000 in
set_option maxRecDepth 100000 in
theorem valueOf_any (s : Tk) (hs : isL s = true) (w : World) (ba : Option Addr) (bc bn : Nat) (bs : List Bi) (ga : Option Addr) (gc : Nat) (gs : List Int) (he : Env w ba bc bn bs ga gc gs) :
    Calls Tryz.prog 135 #[sgV s, .slice ba bn bc, .slice ga (3 : Nat) gc] w fun e w' => e = .returned (.int .i64 (vlF gs bs s).1) ∧ Below w.heap.size w w' := by
  have h0 := isL_0 hs
  by_cases hgv : gvN s = 0
  · cases hnm : nmB s
    · have hrd : rdB s = true := by
        cases e : rdB s with
        | true => rfl
        | false => rw [isL_nm hs hgv e] at hnm; cases hnm
      have HE := Lib.hid (vlF_rd (gs := gs) (bs := bs) hgv hrd)
      obtain ⟨r0, r1⟩ := (isW_iff _).1 (rd_word hrd)
      rw [sgV_wd h0 hgv hnm hrd]
      have t1 := tw_wd (.int .i32 (rdV s))
      clear hs h0 hgv hnm hrd he
      generalize vlF gs bs s = vv at *
      generalize rdV s = rv at *
      go_enter Tryz.func135, Tryz.ntmps135
      go_wp2_with fail
      go_ret
      exact ⟨by rw [HE.out]; rfl, Below.refl _ _⟩
    · have HE := Lib.hid (vlF_nm (gs := gs) (bs := bs) hgv hnm)
      rw [sgV_nm h0 hgv hnm]
      have t1 := tw_nm (.string (tx s))
      have t2 := tg_nm (.string (tx s))
      have t3 := tn_nm (.string (tx s))
      have HV := Lib.hid (implValue_any w ba bc bs bn (tx s) he.bl he.bv he.b4)
      clear hs h0 hgv hnm he
      generalize vlF gs bs s = vv at *
      generalize (valL (tx s) bs).1 = va at *
      generalize (valL (tx s) bs).2 = vb at *
      generalize tx s = x at *
      go_enter Tryz.func135, Tryz.ntmps135
      go_wp2_with fail
      refine HV.out.mono ?_; rintro e w1 ⟨rfl, b1⟩
      have B1 := Lib.hid b1; clear b1
      go_wp2_with fail
      go_ret
      exact ⟨by rw [HE.out]; rfl, B1.out⟩
  · have HE := Lib.hid (vlF_gv (gs := gs) (bs := bs) hgv)
    have hg3 := gvN_le s
    rw [sgV_gv hgv]
    obtain ⟨j, hj⟩ : ∃ j : Nat, gvN s - 1 = j := ⟨_, rfl⟩
    have hj3 : j < 3 := by omega
    have hjg : (gvN s : Int) - 1 = (j : Int) := by omega
    rw [hj] at HE
    rw [hjg]
    have t1 := tw_gv (.int .i64 (j : Int))
    have t2 := tg_gv (.int .i64 (j : Int))
    obtain ⟨v, hv⟩ : ∃ v, gs[j]? = some v := ⟨gs[j]'(by have := he.g3; omega), List.getElem?_eq_getElem _⟩
    have hgd : gs.getD j 0 = v := by rw [List.getD_eq_getElem?_getD, hv]; rfl
    rw [hgd] at HE
    obtain ⟨gg, go, rfl, hgg, gc0⟩ := he.gv.iv hv
    clear hs h0 hgv hj hjg hg3 hv hgd he
    generalize vlF gs bs s = vv at *
    go_enter Tryz.func135, Tryz.ntmps135
    go_wp2_with fail
    go_ret
    exact ⟨by rw [HE.out]; rfl, Below.refl _ _⟩
set_option maxHeartbeats 4000000 in
set_option maxRecDepth 100000 in
theorem oneOut_any (s : Tk) (hs : isL s = true) (w : World) (q p : Nat) (ba : Option Addr) (bc bn : Nat) (bs : List Bi) (ga : Option Addr) (gc : Nat) (gs : List Int) (he : Env w ba bc bn bs ga gc gs) (hq : w.cell? ⟨q, 0, none⟩ = some (.slice ba bn bc)) (hp : w.cell? ⟨p, 0, none⟩ = some (.slice ga (3 : Nat) gc)) :
    Calls Tryz.prog 134 #[sgV s, .pointer (some ⟨q, 0, none⟩), .pointer (some ⟨p, 0, none⟩)] w fun e w' => e = .returned (.agg #[.int .i64 (vlF gs bs s).1, .bool (vlF gs bs s).2]) ∧ Below w.heap.size w w' := by
  have hb := bel1 w (.cells #[.int .i64 0, .bool false] 144)
  have HB := Lib.hid hb
  have HZ := Lib.hid (new_of w (.cells #[.int .i64 0, .bool false] 144))
  have hsz : (w.alloc (.cells #[.int .i64 0, .bool false] 144)).heap.size = w.heap.size + 1 := by simp
  have hq1 : (w.alloc (.cells #[.int .i64 0, .bool false] 144)).cell? ⟨q, 0, none⟩ = some (.slice ba bn bc) := (hb.cell (p := ⟨q, 0, none⟩) (Lib.lt_of_cell hq)).trans hq
  have hp1 : (w.alloc (.cells #[.int .i64 0, .bool false] 144)).cell? ⟨p, 0, none⟩ = some (.slice ga (3 : Nat) gc) := (hb.cell (p := ⟨p, 0, none⟩) (Lib.lt_of_cell hp)).trans hp
  have HV := Lib.hid (valueOf_any s hs (w.alloc (.cells #[.int .i64 0, .bool false] 144)) ba bc bn bs ga gc gs (he.below hb))
  have HT := Lib.hid (show (vlF gs bs s).2 = true from rfl)
  clear he hs hb
  generalize vlF gs bs s = vv at *
  generalize sgV s = sv at *
  obtain ⟨vv, vb⟩ := vv
  obtain rfl : vb = true := HT.out
  simp only at HV
  go_enter Tryz.func134, Tryz.ntmps134
  go_wp2_with fail
  generalize hW : w.alloc (.cells #[.int .i64 0, .bool false] 144) = w1 at *
  generalize hN : w.heap.size = N at *
  refine HV.out.mono ?_; rintro e w2 ⟨rfl, b2⟩
  obtain ⟨z0, z1, f0, f1⟩ := two_cells ((b2.block N (by omega)).trans HZ.out)
  have B2 := Lib.hid (HB.out.trans (b2.mono (by omega))); clear b2 hq1 hp1 hq hp
  go_wp2_with fail
  refine bodyPost_ret (v := .agg #[.int .i64 vv, .bool true]) (by simp [results, Tryz.results134, go_sem, z0, z1]) rfl ⟨rfl, ?_⟩
  rw [hN]
  exact (B2.out.setCell (p := ⟨N, 0, none⟩) (Nat.le_refl _) _).setCell (p := ⟨N, 1, none⟩) (Nat.le_refl _) _
set_option maxHeartbeats 4000000 in
set_option maxRecDepth 100000 in
theorem outcome_any (o : Nat) (x y : Int × Bool) (w : World) :
    Calls Tryz.prog 137 #[.int .i64 o, .agg #[.int .i64 x.1, .bool x.2], .agg #[.int .i64 y.1, .bool y.2]] w fun e w' => e = .returned (.agg #[.int .i64 (vlG o x y).1, .bool (vlG o x y).2]) ∧ Below w.heap.size w w' := by
  obtain ⟨x, xb⟩ := x
  obtain ⟨y, yb⟩ := y
  have HB := Lib.hid (fun o3 => bel3 w (.cells #[.int .i64 x, .bool xb] 144) (.cells #[.int .i64 y, .bool yb] 144) o3)
  have HD := Lib.hid (implDid_any (o : Int) x y)
  cases xb
  · have HE := Lib.hid (vlG_no1 (o := o) (a := (x, false)) (b := (y, yb)) rfl)
    generalize vlG o (x, false) (y, yb) = vv at *
    go_enter Tryz.func137, Tryz.ntmps137
    go_wp2_with fail
    refine bodyPost_ret (v := .agg #[.int .i64 0, .bool false]) (by simp [results, Tryz.results137, go_sem]) rfl ⟨by rw [HE.out], HB.out _⟩
  cases yb
  · have HE := Lib.hid (vlG_no2 (o := o) (a := (x, true)) (b := (y, false)) rfl)
    generalize vlG o (x, true) (y, false) = vv at *
    go_enter Tryz.func137, Tryz.ntmps137
    go_wp2_with fail
    refine bodyPost_ret (v := .agg #[.int .i64 0, .bool false]) (by simp [results, Tryz.results137, go_sem]) rfl ⟨by rw [HE.out], HB.out _⟩
  · have HE := Lib.hid (vlG_yes (o := o) (a := (x, true)) (b := (y, true)) rfl rfl)
    simp only at HE
    generalize vlG o (x, true) (y, true) = vv at *
    generalize didV (o : Int) x y = dv at *
    generalize didB (o : Int) x y = db at *
    go_enter Tryz.func137, Tryz.ntmps137
    go_wp2_with fail
    refine (HD.out _).mono ?_; rintro e w1 ⟨rfl, rfl⟩
    go_wp2_with fail
    refine bodyPost_ret (v := .agg #[.int .i64 dv, .bool db]) (by simp [results, Tryz.results137, go_sem]) rfl ⟨by rw [HE.out], HB.out _⟩
end Go.Proofs.YtfnnoehpahdgcaaGreatDoor.Cl
namespace Go.Proofs.YtfnnoehpahdgcaaGreatDoor.Cl
set_option linter.unusedVariables false
open Go.RowKit Wd Rp Kp Ra Go.Shelf
theorem foV_stk {R : Type} (f : Tk → R) (g : Nat → R → R → R) (z : R) {l : List Tk} {k m : Nat} {r : R} (he : enA l (k : Int) = some m) (h : stk f g ((l.drop k).take m) = [r]) : foV f g z l (k : Int) = r := by
  unfold foV; rw [he]
  show (stk f g ((l.drop k).take m)).headD z = r
  rw [h]; rfl
set_option maxHeartbeats 8000000 in
set_option maxRecDepth 100000 in
theorem implSum_any (w : World) (a : Option Addr) (cap : Nat) (l : List Tk) (n : Nat) (i : Int) (hi : I64 i) (hn : l.length = n) (hv : V1 w a cap (txL l)) (hl : n ≤ 4194304) (hm : ∀ s ∈ l, s.length ≤ 4194304) (hL : Lib3 w)
    (ba : Option Addr) (bc bn : Nat) (bs : List Bi) (hbl : bs.length = bn) (hbv : VwI w ba bc bs) (hb4 : bn ≤ 4194304) (ga : Option Addr) (gc gn : Nat) (gs : List Int) (hgl : gs.length = gn) (hgv : V1 w ga gc (inL gs)) (hg4 : gn ≤ 4194304) :
    Calls Tryz.prog 123 #[.slice a n cap, .int .i64 i, .slice ba bn bc, .slice ga gn gc] w fun e w' => e = .returned (.tuple #[.int .i64 (vlV l i bs gs).1, .bool (vlV l i bs gs).2]) ∧ Below w.heap.size w w' := by
  have hb0 := bel2 w (.cells #[.slice ba bn bc] 25) (.cells #[.slice ga gn gc] 26)
  have HB0 := Lib.hid hb0
  have hx1 := new_of (w.alloc (.cells #[.slice ba bn bc] 25)) (.cells #[.slice ga gn gc] 26)
  have hx0 := ((bel1 (w.alloc (.cells #[.slice ba bn bc] 25)) (.cells #[.slice ga gn gc] 26)).block w.heap.size (by simp)).trans (new_of w (.cells #[.slice ba bn bc] 25))
  have hsz : ((w.alloc (.cells #[.slice ba bn bc] 25)).alloc (.cells #[.slice ga gn gc] 26)).heap.size = w.heap.size + 2 := by simp
  simp only [World.size_alloc] at hx1
  have HX0 := Lib.hid (Bq.of hx0)
  have HX1 := Lib.hid (Bq.of hx1)
  have hn5 := (HX0.out).1
  have hn6 := (HX1.out).1
  have HK := Lib.hid (implKind_any ((w.alloc (.cells #[.slice ba bn bc] 25)).alloc (.cells #[.slice ga gn gc] 26)) a cap l n i hi hn (hv.below hb0) hl hm (lib3_below hL hb0))
  have HBO := Lib.hid (fun w' (hb : Below w.heap.size w w') => implBins_any w' ba bc bs bn hbl (hbv.below hb) hb4)
  have HTH := Lib.hid (fun w' (hb : Below w.heap.size w w') => givenOk_any w' ga gc gs gn hgl (hgv.below hb) hg4)
  have HVV := Lib.hid hv
  have HLL := Lib.hid hL
  clear hb0 hx0 hx1 hn5 hn6 hv hL
  generalize hq : w.heap.size = q at *
  generalize hw2 : (w.alloc (.cells #[.slice ba bn bc] 25)).alloc (.cells #[.slice ga gn gc] 26) = w2 at *
  by_cases hk : kdV l i = 0
  · have HE := Lib.hid (vlV_0 (bs := bs) (gs := gs) hk)
    rw [hk] at HK
    generalize vlV l i bs gs = vv at *
    go_enter Tryz.func123, Tryz.ntmps123
    go_wp2_with fail
    refine HK.out.mono ?_; rintro e w3 ⟨rfl, b3⟩
    have B3 := Lib.hid (HB0.out.trans (b3.mono (by omega))); clear b3
    go_wp2_with fail
    go_ret2
    exact ⟨by rw [HE.out]; rfl, B3.out⟩
  have hk2 : (kdV l i == 0) = false := by rw [beq_eq_false_iff_ne]; exact hk
  have HK0 := Lib.hid hk; clear hk
  cases hb : okI bs
  · have HE := Lib.hid (vlV_1 (l := l) (i := i) (gs := gs) hb)
    rw [hb] at HBO
    generalize vlV l i bs gs = vv at *
    generalize kdV l i = kv at *
    go_enter Tryz.func123, Tryz.ntmps123
    go_wp2_with fail
    refine HK.out.mono ?_; rintro e w3 ⟨rfl, b3⟩
    have B3 := Lib.hid (HB0.out.trans (b3.mono (by omega)))
    have n5 := (HX0.out.next b3).1; clear b3
    have HBO2 := Lib.hid (HBO.out w3 B3.out)
    go_wp2_with fail
    refine HBO2.out.mono ?_; rintro e w4 ⟨rfl, b4⟩
    have B4 := Lib.hid (bel_tr B3.out b4 (by omega)); clear b4
    go_wp2_with fail
    go_ret2
    exact ⟨by rw [HE.out]; rfl, B4.out⟩
  rw [hb] at HBO
  cases ht : thB gs
  · have HE := Lib.hid (vlV_2 (l := l) (i := i) (bs := bs) ht)
    rw [ht] at HTH
    generalize vlV l i bs gs = vv at *
    generalize kdV l i = kv at *
    go_enter Tryz.func123, Tryz.ntmps123
    go_wp2_with fail
    refine HK.out.mono ?_; rintro e w3 ⟨rfl, b3⟩
    have B3 := Lib.hid (HB0.out.trans (b3.mono (by omega)))
    have n5 := (HX0.out.next b3).1
    have X1 := Lib.hid (HX1.out.next b3); clear b3
    have HBO2 := Lib.hid (HBO.out w3 B3.out)
    go_wp2_with fail
    refine HBO2.out.mono ?_; rintro e w4 ⟨rfl, b4⟩
    have B4 := Lib.hid (bel_tr B3.out b4 (by omega))
    have n6 := (X1.out.next b4).1; clear b4 n5
    have HTH2 := Lib.hid (HTH.out w4 B4.out)
    go_wp2_with fail
    refine HTH2.out.mono ?_; rintro e w5 ⟨rfl, rfl⟩
    go_wp2_with fail
    go_ret2
    exact ⟨by rw [HE.out]; rfl, B4.out⟩
  · have hg3 := thB_len ht
    obtain rfl : gn = 3 := by omega
    obtain ⟨m, he⟩ := kdV_some HK0.out
    obtain ⟨k, rfl, hkm, hlen, hent, hm1⟩ := enA_piece he
    have HE := Lib.hid (vlV_3 HK0.out hb ht)
    have HFV := Lib.hid (fun r h => foV_stk (r := r) (vlF gs bs) vlG (0, false) he h)
    rw [ht] at HTH
    have HS := Lib.hid (fun w1 (hb : Below q w w1) => sumAt_some w1 a cap l n k m hi hn (HVV.out.below (by rw [hq]; exact hb)) hl hm (lib3_below HLL.out (by rw [hq]; exact hb)) he (by omega))
    have HF := Lib.hid (fun w1 b cb (hb : Below q w w1) (h0 : Bq q (.slice ba bn bc) w1) (h1 : Bq (q + 1) (.slice ga (3 : Nat) gc) w1) (hvb : V1 w1 b cb (txL ((l.drop k).take m))) => foldedOut_any (vlF gs bs) vlG w1 b cb m ((l.drop k).take m) hlen hvb (by omega) (fun s hs => hm s (mem_piece hs)) (lib3_below HLL.out (by rw [hq]; exact hb)) (by rw [hlen]; exact hent)
      134 137 #[.pointer (some ⟨q, 0, none⟩), .pointer (some ⟨q + 1, 0, none⟩)] (enters_of Tryz.func134 (by kernel_rfl) rfl) (enters_of Tryz.func137 (by kernel_rfl) rfl)
      (fun s W _ hsl hW => oneOut_any s hsl W q (q + 1) ba bc bn bs ga gc gs ⟨hbl, hbv.below (by rw [hq]; exact hb.trans (hW.mono (by have := hb.size; have := h1.2.2; omega))), hb4, hgv.below (by rw [hq]; exact hb.trans (hW.mono (by have := h1.2.2; omega))), hg3⟩ (h0.next hW).1 (h1.next hW).1)
      (fun o x y W _ _ => outcome_any o x y W))
    clear hent he hlen hb ht HK0
    generalize vlV l (k : Int) bs gs = vv at *
    generalize kdV l (k : Int) = kv at *
    go_enter Tryz.func123, Tryz.ntmps123
    go_wp2_with fail
    refine HK.out.mono ?_; rintro e w3 ⟨rfl, b3⟩
    have B3 := Lib.hid (HB0.out.trans (b3.mono (by omega)))
    have n5 := (HX0.out.next b3).1
    have X0 := Lib.hid (HX0.out.next b3)
    have X1 := Lib.hid (HX1.out.next b3); clear b3
    have HBO2 := Lib.hid (HBO.out w3 B3.out)
    go_wp2_with fail
    refine HBO2.out.mono ?_; rintro e w4 ⟨rfl, b4⟩
    have B4 := Lib.hid (bel_tr B3.out b4 (by omega))
    have X04 := Lib.hid (X0.out.next b4)
    have X14 := Lib.hid (X1.out.next b4); clear b4 n5
    have n6 := X14.out.1
    have HTH2 := Lib.hid (HTH.out w4 B4.out)
    go_wp2_with fail
    refine HTH2.out.mono ?_; rintro e w5 ⟨rfl, rfl⟩
    have HS2 := Lib.hid (HS.out w4 B4.out)
    go_wp2_with fail
    refine HS2.out.mono ?_; rintro e w5 ⟨b, cb, rfl, hvb, b5⟩
    have B5 := Lib.hid (bel_tr B4.out b5 (by omega))
    have HF2 := Lib.hid (HF.out w5 b cb B5.out (X04.out.next b5) (X14.out.next b5) hvb); clear b5 hvb n6
    go_wp2_with fail
    refine HF2.out.mono ?_; rintro e w6 ⟨r, hr, rfl, b6⟩
    have HR := Lib.hid (HE.out.trans (HFV.out r hr)); clear hr
    have B6 := Lib.hid (bel_tr B5.out b6 (by omega)); clear b6
    have hb7 := bel1 w6 (.cells #[.int .i64 r.1, .bool r.2] 144)
    have B7 := Lib.hid (bel_tr B6.out hb7 (by omega))
    obtain ⟨z0, z1, f0, f1⟩ := two_cells (new_of w6 (.cells #[.int .i64 r.1, .bool r.2] 144))
    clear hb7
    go_wp2_with fail
    go_quiet (fail)
    go_wp2_with fail
    go_ret2
    exact ⟨by rw [HR.out]; rfl, bel_drewN B7.out _⟩
end Go.Proofs.YtfnnoehpahdgcaaGreatDoor.Cl
namespace Go.Proofs.YtfnnoehpahdgcaaGreatDoor.Cl
set_option linter.unusedVariables false
open Go.RowKit Wd Rp Kp
theorem cmp_lt : ∀ x y : List UInt8, decide (Lib.compareBytes x y < 0) = Op.bytesLess x y
  | [], [] => rfl
  | [], _ :: _ => rfl
  | _ :: _, [] => rfl
  | a :: x, b :: y => by
    have ih := cmp_lt x y
    simp only [Lib.compareBytes, Op.bytesLess]
    by_cases h1 : a < b
    · simp [h1]
    · by_cases h2 : b < a
      · have : (a == b) = false := by
          rw [beq_eq_false_iff_ne]; intro e; subst e; exact h1 h2
        simp [h1, h2, this]
      · have e : a = b := by
          rw [UInt8.lt_iff_toNat_lt] at h1 h2
          exact UInt8.toNat_inj.1 (by omega)
        subst e
        simp only [h1, if_false, decide_false, Bool.false_or, beq_self_eq_true, Bool.true_and]
        exact ih
theorem cmp_zero : ∀ x y : List UInt8, (Lib.compareBytes x y == 0) = (x == y)
  | [], [] => rfl
  | [], _ :: _ => rfl
  | _ :: _, [] => rfl
  | a :: x, b :: y => by
    have ih := cmp_zero x y
    simp only [Lib.compareBytes]
    by_cases h1 : a < b
    · have : a ≠ b := by intro e; subst e; rw [UInt8.lt_iff_toNat_lt] at h1; omega
      simp [h1, this]
    · by_cases h2 : b < a
      · have : a ≠ b := by intro e; subst e; exact h1 h2
        simp [h1, h2, this]
      · have e : a = b := by
          rw [UInt8.lt_iff_toNat_lt] at h1 h2
          exact UInt8.toNat_inj.1 (by omega)
        subst e
        simp only [h1, if_false, ih]
        simp
theorem ba_toList (s : ByteArray) : s.data.toList = s.toList := (Lib.toList_data s).symm
def cmpB (a b : ByteArray) : Int := Lib.compareBytes a.data.toList b.data.toList
theorem cmpB_lt (a b : ByteArray) : decide (cmpB a b < 0) = Op.bytesLess a.toList b.toList := by unfold cmpB; rw [cmp_lt, ba_toList, ba_toList]
theorem cmpB_zero (a b : ByteArray) : (cmpB a b == 0) = (a.toList == b.toList) := by unfold cmpB; rw [cmp_zero, ba_toList, ba_toList]
set_option maxRecDepth 100000 in
theorem cmpS_any (a b : ByteArray) (w : World) : Calls Tryz.prog 165 #[.string a, .string b] w fun e w' => e = .returned (.int .i64 (cmpB a b)) ∧ w = w' := by
  go_enter Tryz.func165, Tryz.ntmps165
  go_wp2
  rw [run_callFunc_extern Tryz.func175 (by kernel_rfl) (by kernel_rfl) (by kernel_rfl) (e := Extern.BytealgCompare.compare) (by kernel_rfl), Lib.run_compareString]
  simp only [Result.andThen]
  rw [Oper.upon_value]
  go_wp2
  go_ret
  exact ⟨rfl, rfl⟩
set_option maxRecDepth 100000 in
theorem cmp_any (a b : ByteArray) (w : World) : Calls Tryz.prog 154 #[.string a, .string b] w fun e w' => e = .returned (.int .i64 (cmpB a b)) ∧ w = w' := by
  go_enter Tryz.func154, Tryz.ntmps154
  go_wp2_with fail
  refine (cmpS_any _ _ _).mono ?_; rintro e w1 ⟨rfl, rfl⟩
  go_wp2_with fail
  go_ret
  exact ⟨rfl, rfl⟩
set_option maxRecDepth 100000 in
theorem byName_any (c : Bi) (s : ByteArray) (w : World) : Calls Tryz.prog 153 #[.agg #[.string c.n, .int .i64 c.v], .string s] w fun e w' => e = .returned (.int .i64 (cmpB c.n s)) ∧ Below w.heap.size w w' := by
  have hmn := m_name c.n c.v
  have hen := e_name
  have H0 := Lib.hid (bel1 w (.cells #[.string c.n, .int .i64 c.v] 44))
  go_enter Tryz.func153, Tryz.ntmps153
  go_wp2_with fail
  refine (nameB_any c.n c.v _).mono ?_; rintro e w1 ⟨rfl, b1⟩
  have B1 := Lib.hid (bel_tr H0.out b1 (Nat.le_refl _)); clear b1
  go_wp2_with fail
  refine (cmp_any _ _ _).mono ?_; rintro e w2 ⟨rfl, rfl⟩
  go_wp2_with fail
  go_ret
  exact ⟨rfl, B1.out⟩
set_option maxHeartbeats 4000000 in
set_option maxRecDepth 100000 in
theorem search2_any (w : World) (a : Option Addr) (cap : Nat) (l : List Bi) (n : Nat) (s : ByteArray) (hn : l.length = n) (hv : VwI w a cap l) (hl : n ≤ 4194304) (hasc : Asc l) :
    Calls Tryz.prog 152 #[.slice a n cap, .string s, .func (.func 153) #[] #[]] w fun e w' => e = .returned (.tuple #[.int .i64 (cntI s l : Nat), .bool (isAt s l)]) ∧ Below w.heap.size w w' := by
  have HV := Lib.hid hv; clear hv
  have HN := Lib.hid hn; clear hn
  have HA := Lib.hid hasc; clear hasc
  go_enter Tryz.func152, Tryz.ntmps152
  go_wp2_with fail
  go_loopw [9, 10, 11] (fun x y _ wr => ∃ i j : Nat, x = .int .i64 i ∧ y = .int .i64 j ∧ i ≤ j ∧ j ≤ n ∧ (∀ (m : Nat) (c : Bi), m < i → l[m]? = some c → Op.bytesLess c.n.toList s.toList = true) ∧ (∀ (m : Nat) (c : Bi), j ≤ m → l[m]? = some c → Op.bytesLess c.n.toList s.toList = false) ∧ Below w.heap.size w wr) (fun x y _ _ => intV y - intV x)
  case atStart => exact ⟨0, n, rfl, rfl, Nat.zero_le _, Nat.le_refl _, (fun m c hm => by omega), (fun m c hm hc => by have := (List.getElem?_eq_some_iff.1 hc).1; have := HN.out; omega), Below.refl _ _⟩
  case round =>
    obtain ⟨i, j, rfl, rfl, hij, hjn, hlo, hhi, hbel⟩ := hrel
    have HB := Lib.hid hbel; clear hbel
    have HLO := Lib.hid hlo; clear hlo
    have HHI := Lib.hid hhi; clear hhi
    by_cases hlt : i < j
    · have hh : (i + j) / 2 < n := by omega
      obtain ⟨c, hc⟩ : ∃ c, l[(i + j) / 2]? = some c := ⟨l[(i + j) / 2]'(by have := HN.out; omega), List.getElem?_eq_getElem _⟩
      obtain ⟨g, o, rfl, hg, h5⟩ := HV.out.2.2.2 _ c hc
      obtain ⟨c0, c1⟩ : At2 wr g (o + (i + j) / 2 * 2) c := h5.same (HB.out.block g hg)
      have e1 : (((i : Int) + (j : Int)) / 2).toNat = (i + j) / 2 := by omega
      have e2 : (0 : Int) ≤ ((i : Int) + (j : Int)) / 2 := by omega
      have e3 : ((i : Int) + (j : Int)) / 2 < (n : Int) := by omega
      have hbn := Lib.hid (byName_any c s)
      have hlt0 := cmpB_lt c.n s
      generalize cmpB c.n s = cv at *
      cases hle : Op.bytesLess c.n.toList s.toList
      · have q1 : ¬ cv < 0 := by rw [hle] at hlt0; simpa using hlt0
        have HHI2 := Lib.hid (show ∀ (m : Nat) (d : Bi), (i + j) / 2 ≤ m → l[m]? = some d → Op.bytesLess d.n.toList s.toList = false from fun m d hm hd => by
          rcases Nat.eq_or_lt_of_le hm with em | em
          · subst em; rw [hc] at hd; cases hd; exact hle
          · cases hx : Op.bytesLess d.n.toList s.toList with
            | false => rfl
            | true => rw [bl_tr (asc_lt HA.out em hc hd) hx] at hle; cases hle)
        clear hc hle hlt0 h5 hg
        go_wp2_with fail
        refine (hbn.out _).mono ?_; rintro e w1 ⟨rfl, b1⟩
        have B1 := Lib.hid (bel_tr HB.out b1 (Nat.le_refl _)); clear b1
        go_wp2_with fail
        go_roundw
        case rel => exact ⟨i, (i + j) / 2, rfl, by go_num, by omega, by omega, HLO.out, HHI2.out, B1.out⟩
        case measure => simp [intV]; omega
      · have q1 : cv < 0 := by rw [hle] at hlt0; simpa using hlt0
        have HLO2 := Lib.hid (show ∀ (m : Nat) (d : Bi), m < (i + j) / 2 + 1 → l[m]? = some d → Op.bytesLess d.n.toList s.toList = true from fun m d hm hd => by
          rcases Nat.eq_or_lt_of_le (Nat.lt_succ_iff.1 hm) with em | em
          · subst em; rw [hc] at hd; cases hd; exact hle
          · exact bl_tr (asc_lt HA.out em hd hc) hle)
        clear hc hle hlt0 h5 hg
        go_wp2_with fail
        refine (hbn.out _).mono ?_; rintro e w1 ⟨rfl, b1⟩
        have B1 := Lib.hid (bel_tr HB.out b1 (Nat.le_refl _)); clear b1
        go_wp2_with fail
        go_roundw
        case rel => exact ⟨(i + j) / 2 + 1, j, by go_num, rfl, by omega, by omega, HLO2.out, HHI.out, B1.out⟩
        case measure => simp [intV]; omega
    · obtain rfl : i = j := by omega
      have HE := Lib.hid (show cntI s l = i from cntI_eq (by have := HN.out; omega) HLO.out (fun c hc => HHI.out i c (Nat.le_refl _) hc))
      by_cases hin : i < n
      · obtain ⟨c, hc⟩ : ∃ c, l[i]? = some c := ⟨l[i]'(by have := HN.out; omega), List.getElem?_eq_getElem _⟩
        obtain ⟨g, o, rfl, hg, h5⟩ := HV.out.2.2.2 _ c hc
        obtain ⟨c0, c1⟩ : At2 wr g (o + i * 2) c := h5.same (HB.out.block g hg)
        have HAT := Lib.hid (show isAt s l = (cmpB c.n s == 0) by rw [isAt_some (by rw [HE.out]; exact hc), cmpB_zero])
        have hbn := Lib.hid (byName_any c s)
        generalize cmpB c.n s = cv at *
        clear hc h5 hg
        go_wp2_with fail
        refine (hbn.out _).mono ?_; rintro e w1 ⟨rfl, b1⟩
        have B1 := Lib.hid (bel_tr HB.out b1 (Nat.le_refl _)); clear b1
        go_wp2_with fail
        refine bodyPost_ret (v := .tuple #[.int .i64 (i : Int), .bool (cv == 0)]) (by simp [results, Tryz.results152, go_sem]) rfl ⟨by rw [HE.out, HAT.out], B1.out⟩
      · have HAT := Lib.hid (show isAt s l = false from isAt_none (by rw [HE.out, HN.out]; omega))
        have i1 : ¬ (i : Int) < (n : Int) := by omega
        go_wp2_with fail
        refine bodyPost_ret (v := .tuple #[.int .i64 (i : Int), .bool false]) (by simp [results, Tryz.results152, go_sem]) rfl ⟨by rw [HE.out, HAT.out], HB.out⟩
def SplPost (a : Option Addr) (cap : Nat) (l : List Bi) (s : ByteArray) (w : World) (e : Ending) (w' : World) : Prop := ∃ b cb, e = .returned (.tuple #[.slice a (cntI s l) cap, .slice b (behI s l).length cb]) ∧ VwI w b cb (behI s l) ∧ Below w.heap.size w w'
set_option maxHeartbeats 4000000 in
set_option maxRecDepth 100000 in
theorem split_any (w : World) (a : Option Addr) (cap : Nat) (l : List Bi) (n : Nat) (s : ByteArray) (hn : l.length = n) (hv : VwI w a cap l) (hl : n ≤ 4194304) (hasc : Asc l) :
    Calls Tryz.prog 138 #[.slice a n cap, .string s] w (SplPost a cap l s w) := by
  have hcl := cntI_le s l
  have hbl := behI_len s l
  have HS := Lib.hid (search2_any w a cap l n s hn hv hl hasc); clear hasc
  have HV := Lib.hid hv; clear hv
  rw [hn] at hcl hbl
  obtain ⟨hr2, -⟩ := cutI_to 110 (by kernel_rfl) (by kernel_rfl) a n cap (cntI s l) hcl (by rw [← hn]; exact HV.out.1) HV.out.2.2.1
  cases hat : isAt s l
  · obtain ⟨b, cb, hr1, hv1⟩ := cutI_from 110 (by kernel_rfl) (by kernel_rfl) a n cap (cntI s l) hcl
    have HBE := Lib.hid (show behI s l = l.drop (cntI s l) by unfold behI; rw [if_neg (by rw [hat]; decide)])
    have HV1 := Lib.hid (hv1 w l HV.out hn); clear hv1
    have HBL := Lib.hid (show (behI s l).length = n - cntI s l by rw [hbl, if_neg (by rw [hat]; decide)]; omega)
    rw [hat] at HS
    rw [← HBE.out] at HV1
    unfold SplPost
    generalize behI s l = bh at *
    generalize cntI s l = k at *
    clear hbl
    go_enter Tryz.func138, Tryz.ntmps138
    go_wp2_with fail
    refine HS.out.mono ?_; rintro e w1 ⟨rfl, b1⟩
    have B1 := Lib.hid b1; clear b1
    go_wp2_with fail
    refine wp_region_held_drew (S := fun z => Below w1.heap.size w1 z) (by kernel_rfl) (Below.refl _ _).drew (fun hHeld => ?_)
    refine tkI (i := 0) (v := ?v0p) rfl (Or.inl ⟨by rfl, ?hy0p⟩) ?rest0p
    case hy0p => (intro zz hSw; (try dsimp only at hSw); go_simp; (try with_reducible rfl))
    change wpAnyH _ _ _ _ _ _ _ (Act.put _ (some 22) _) _
    simp only [Act.put, List.setIfInBounds_toArray, List.set_cons_zero, List.set_cons_succ]
    refine tkI (i := 1) (v := ?v1p) rfl (Or.inl ⟨by rfl, ?hy1p⟩) ?rest1p
    case hy1p => (intro zz hSw; (try dsimp only at hSw); go_simp; (try with_reducible rfl))
    change wpAnyH _ _ _ _ _ _ _ (Act.put _ (some 23) _) _
    simp only [Act.put, List.setIfInBounds_toArray, List.set_cons_zero, List.set_cons_succ]
    refine tkI (i := 2) (v := ?v2p) rfl (Or.inl ⟨by rfl, ?hy2p⟩) ?rest2p
    case hy2p => (intro zz hSw; (try dsimp only at hSw); go_simp; (try with_reducible rfl))
    change wpAnyH _ _ _ _ _ _ _ (Act.put _ (some 24) _) _
    simp only [Act.put, List.setIfInBounds_toArray, List.set_cons_zero, List.set_cons_succ]
    refine tkI (i := 3) (v := ?v3p) rfl (Or.inl ⟨by rfl, ?hy3p⟩) ?rest3p
    case hy3p => (intro zz hSw; (try dsimp only at hSw); go_simp; (try with_reducible rfl))
    change wpAnyH _ _ _ _ _ _ _ (Act.put _ (some 25) _) _
    simp only [Act.put, List.setIfInBounds_toArray, List.set_cons_zero, List.set_cons_succ]
    refine tkI (i := 4) (v := ?v4p) rfl (Or.inl ⟨by rfl, ?hy4p⟩) ?rest4p
    case hy4p => (intro zz hSw; (try dsimp only at hSw); go_simp; (try with_reducible rfl))
    change wpAnyH _ _ _ _ _ _ _ (Act.put _ (some 26) _) _
    simp only [Act.put, List.setIfInBounds_toArray, List.set_cons_zero, List.set_cons_succ]
    refine tkI (i := 5) (v := ?v5p) rfl (Or.inl ⟨by rfl, ?hy5p⟩) ?rest5p
    case hy5p => (intro zz hSw; (try dsimp only at hSw); go_simp; (try with_reducible rfl))
    change wpAnyH _ _ _ _ _ _ _ (Act.put _ (some 27) _) _
    simp only [Act.put, List.setIfInBounds_toArray, List.set_cons_zero, List.set_cons_succ]
    refine tkI (i := 6) (v := ?v6p) rfl (Or.inl ⟨by rfl, ?hy6p⟩) ?rest6p
    case hy6p => (intro zz hSw; (try dsimp only at hSw); go_simp; (try with_reducible rfl))
    change wpAnyH _ _ _ _ _ _ _ (Act.put _ (some 4) _) _
    simp only [Act.put, List.setIfInBounds_toArray, List.set_cons_zero, List.set_cons_succ]
    refine tkI (i := 7) (v := ?v7p) rfl (Or.inl ⟨by rfl, ?hy7p⟩) ?rest7p
    case hy7p => (intro zz hSw; (try dsimp only at hSw); go_simp; (try with_reducible rfl))
    change wpAnyH _ _ _ _ _ _ _ (Act.put _ (some 5) _) _
    simp only [Act.put, List.setIfInBounds_toArray, List.set_cons_zero, List.set_cons_succ]
    refine wpAnyH_done (by kernel_rfl) ?_ _
    have BX := Lib.hid hHeld; clear hHeld
    generalize w1.drew = w9 at *
    go_wp2_with fail
    refine bodyPost_ret (v := .tuple #[.slice a k cap, .slice b (n - k) cb]) (by simp [results, Tryz.results138, go_sem]) rfl ⟨b, cb, by rw [HBL.out], HV1.out, bel_tr B1.out BX.out (Nat.le_refl _)⟩
  · have hkl := isAt_lt hat
    rw [hn] at hkl
    obtain ⟨b, cb, hr1, hv1⟩ := cutI_from 110 (by kernel_rfl) (by kernel_rfl) a n cap (cntI s l + 1) hkl
    rw [show ((cntI s l + 1 : Nat) : Int) = (cntI s l : Int) + 1 by omega] at hr1
    have HBE := Lib.hid (show behI s l = l.drop (cntI s l + 1) by unfold behI; rw [if_pos hat])
    have HV1 := Lib.hid (hv1 w l HV.out hn); clear hv1
    have HBL := Lib.hid (show (behI s l).length = n - (cntI s l + 1) by rw [hbl, if_pos hat]; omega)
    rw [hat] at HS
    rw [← HBE.out] at HV1
    unfold SplPost
    generalize behI s l = bh at *
    generalize cntI s l = k at *
    clear hbl
    have i7 : IntKind.i64.wrap ((k : Int) + 1) = (k : Int) + 1 := by rw [IntKind.wrap_i64]; omega
    go_enter Tryz.func138, Tryz.ntmps138
    go_wp2_with fail
    refine HS.out.mono ?_; rintro e w1 ⟨rfl, b1⟩
    have B1 := Lib.hid b1; clear b1
    go_wp2_with fail
    refine wp_region_held_drew (S := fun z => Below w1.heap.size w1 z) (by kernel_rfl) (Below.refl _ _).drew (fun hHeld => ?_)
    refine tkI (i := 0) (v := ?v0q) rfl (Or.inl ⟨by rfl, ?hy0q⟩) ?rest0q
    case hy0q => (intro zz hSw; (try dsimp only at hSw); go_simp; (try with_reducible rfl))
    change wpAnyH _ _ _ _ _ _ _ (Act.put _ (some 15) _) _
    simp only [Act.put, List.setIfInBounds_toArray, List.set_cons_zero, List.set_cons_succ]
    refine tkI (i := 1) (v := ?v1q) rfl (Or.inl ⟨by rfl, ?hy1q⟩) ?rest1q
    case hy1q => (intro zz hSw; (try dsimp only at hSw); go_simp; (try with_reducible rfl))
    change wpAnyH _ _ _ _ _ _ _ (Act.put _ (some 16) _) _
    simp only [Act.put, List.setIfInBounds_toArray, List.set_cons_zero, List.set_cons_succ]
    refine tkI (i := 2) (v := ?v2q) rfl (Or.inl ⟨by rfl, ?hy2q⟩) ?rest2q
    case hy2q => (intro zz hSw; (try dsimp only at hSw); go_simp; (try with_reducible rfl))
    change wpAnyH _ _ _ _ _ _ _ (Act.put _ (some 17) _) _
    simp only [Act.put, List.setIfInBounds_toArray, List.set_cons_zero, List.set_cons_succ]
    refine tkI (i := 3) (v := ?v3q) rfl (Or.inl ⟨by rfl, ?hy3q⟩) ?rest3q
    case hy3q => (intro zz hSw; (try dsimp only at hSw); go_simp; (try with_reducible rfl))
    change wpAnyH _ _ _ _ _ _ _ (Act.put _ (some 18) _) _
    simp only [Act.put, List.setIfInBounds_toArray, List.set_cons_zero, List.set_cons_succ]
    refine tkI (i := 4) (v := ?v4q) rfl (Or.inl ⟨by rfl, ?hy4q⟩) ?rest4q
    case hy4q => (intro zz hSw; (try dsimp only at hSw); go_simp; (try with_reducible rfl))
    change wpAnyH _ _ _ _ _ _ _ (Act.put _ (some 19) _) _
    simp only [Act.put, List.setIfInBounds_toArray, List.set_cons_zero, List.set_cons_succ]
    refine tkI (i := 5) (v := ?v5q) rfl (Or.inl ⟨by rfl, ?hy5q⟩) ?rest5q
    case hy5q => (intro zz hSw; (try dsimp only at hSw); go_simp; (try with_reducible rfl))
    change wpAnyH _ _ _ _ _ _ _ (Act.put _ (some 20) _) _
    simp only [Act.put, List.setIfInBounds_toArray, List.set_cons_zero, List.set_cons_succ]
    refine tkI (i := 6) (v := ?v6q) rfl (Or.inl ⟨by rfl, ?hy6q⟩) ?rest6q
    case hy6q => (intro zz hSw; (try dsimp only at hSw); go_simp; (try with_reducible rfl))
    change wpAnyH _ _ _ _ _ _ _ (Act.put _ (some 21) _) _
    simp only [Act.put, List.setIfInBounds_toArray, List.set_cons_zero, List.set_cons_succ]
    refine tkI (i := 7) (v := ?v7q) rfl (Or.inl ⟨by rfl, ?hy7q⟩) ?rest7q
    case hy7q => (intro zz hSw; (try dsimp only at hSw); go_simp; (try with_reducible rfl))
    change wpAnyH _ _ _ _ _ _ _ (Act.put _ (some 4) _) _
    simp only [Act.put, List.setIfInBounds_toArray, List.set_cons_zero, List.set_cons_succ]
    refine tkI (i := 8) (v := ?v8q) rfl (Or.inl ⟨by rfl, ?hy8q⟩) ?rest8q
    case hy8q => (intro zz hSw; (try dsimp only at hSw); go_simp; (try with_reducible rfl))
    change wpAnyH _ _ _ _ _ _ _ (Act.put _ (some 5) _) _
    simp only [Act.put, List.setIfInBounds_toArray, List.set_cons_zero, List.set_cons_succ]
    refine wpAnyH_done (by kernel_rfl) ?_ _
    have BX := Lib.hid hHeld; clear hHeld
    generalize w1.drew = w9 at *
    go_wp2_with fail
    refine bodyPost_ret (v := .tuple #[.slice a k cap, .slice b (n - (k + 1)) cb]) (by simp [results, Tryz.results138, go_sem]) rfl ⟨b, cb, by rw [HBL.out], HV1.out, bel_tr B1.out BX.out (Nat.le_refl _)⟩
set_option maxHeartbeats 4000000 in
set_option maxRecDepth 100000 in
theorem grow_any (w : World) (k : Nat) (hk : k ≤ 4000) : Calls Tryz.prog 155 #[.slice none 0 0, .int .i64 (k : Int)] w fun e w' => ∃ v, e = .returned v ∧ OwI w.heap.size w' v [] ∧ Below w.heap.size w w' := by
  obtain ⟨i0, hi, hz0, hz1, hz2⟩ := info_parts infoI
  have hT : Tryz.prog.underlying 110 = some (.slice 44) := Tryz.underlying110
  by_cases h0 : 0 < k
  · have h1 := grownCap_ge w k 0 44
    have hcm : grownCap w k 0 44 ≤ maxLen := grownCap_le_maxLen w k 0 44 (by unfold maxLen; omega)
    have hrun := fun ty => Lib.run_append_nil_zeros (P := Tryz.prog) w 110 3 ty 44 i0 _ .i64 .i64 hT Tryz.underlying3 hi hz0 k h0 (by rw [hz1]; decide) (by omega) (by rw [hz2]; omega)
    have HOW := Lib.hid (show OwI w.heap.size (w.drew.alloc (.cells (Builtin.zeroCells (Value.agg #[.string ⟨#[]⟩, .int .i64 0]).cells k ++ Builtin.zeroCells (Value.agg #[.string ⟨#[]⟩, .int .i64 0]).cells (grownCap w k 0 44 - k)) 44)) (.slice (some ⟨w.heap.size, 0, none⟩) 0 (grownCap w k 0 44)) [] from
      ⟨rfl, .inr ⟨w.heap.size, grownCap w k 0 44, _, rfl, Nat.le_refl _, heap_alloc_new w.drew _, Nat.zero_le _, hcm, by
        simp only [Array.size_append, size_zeroCells]
        show k * 2 + (grownCap w k 0 44 - k) * 2 = _
        omega, rfl⟩⟩)
    have HBW := Lib.hid (show Below w.heap.size w (w.drew.alloc (.cells (Builtin.zeroCells (Value.agg #[.string ⟨#[]⟩, .int .i64 0]).cells k ++ Builtin.zeroCells (Value.agg #[.string ⟨#[]⟩, .int .i64 0]).cells (grownCap w k 0 44 - k)) 44)) from (Below.refl _ _).drew.alloc (Nat.le_refl _) _)
    generalize w.drew.alloc (.cells (Builtin.zeroCells (Value.agg #[.string ⟨#[]⟩, .int .i64 0]).cells k ++ Builtin.zeroCells (Value.agg #[.string ⟨#[]⟩, .int .i64 0]).cells (grownCap w k 0 44 - k)) 44) = w2 at *
    generalize grownCap w k 0 44 = gc at *
    generalize hq : w.heap.size = q at *
    have hr2 := (cutI_to 110 (by kernel_rfl) (by kernel_rfl) (some ⟨q, 0, none⟩) k gc 0 (Nat.zero_le _) h1 (fun e => by cases e)).1
    have hrn := (cutI_to 110 (by kernel_rfl) (by kernel_rfl) none 0 0 0 (Nat.le_refl _) (Nat.le_refl _) (fun _ => rfl)).1
    have i1 : ¬ (k : Int) < 0 := by omega
    have i2 : (0 : Int) < (k : Int) := by omega
    go_enter Tryz.func155, Tryz.ntmps155
    go_wp2_with (at_builtin; refine Lib.wpList_append_run _ rfl (.tmp 20) (.tmp 21) 110 3 rfl (.slice none 0 0) (.int .i64 (k : Int)) rfl rfl _ _ (hrun _) ?_)
    go_ret
    exact ⟨_, rfl, HOW.out, HBW.out⟩
  · obtain rfl : k = 0 := by omega
    go_enter Tryz.func155, Tryz.ntmps155
    go_wp2_with fail
    go_ret
    exact ⟨_, rfl, OwI.nothing _ _, Below.refl _ _⟩
structure Pt where
  a : Option Addr
  cap : Nat
  l : List Bi
def joinP (ps : List Pt) : List Bi := ps.flatMap (·.l)
def Parts (w : World) (g : Nat) (ps : List Pt) : Prop := ∀ (i : Nat) (p : Pt), ps[i]? = some p → w.cell? ⟨g, i, none⟩ = some (.slice p.a p.l.length p.cap) ∧ VwI w p.a p.cap p.l
theorem Parts.below {w w' : World} {g : Nat} {ps : List Pt} (h : Parts w g ps) (hg : g < w.heap.size) (hb : Below w.heap.size w w') : Parts w' g ps := fun i p hp => by
  obtain ⟨h1, h2⟩ := h i p hp
  exact ⟨(World.cell?_of_block (w := w) (hb.block g hg)).trans h1, h2.below hb⟩
theorem joinP_succ {ps : List Pt} {k : Nat} {p : Pt} (h : ps[k]? = some p) : joinP (ps.take (k + 1)) = joinP (ps.take k) ++ p.l := by
  unfold joinP
  rw [List.take_add_one, h, List.flatMap_append]; simp
theorem joinP_le (ps : List Pt) (k : Nat) : (joinP (ps.take k)).length ≤ (joinP ps).length := by
  unfold joinP
  conv => rhs; rw [← List.take_append_drop k ps]
  rw [List.flatMap_append, List.length_append]; omega
set_option maxHeartbeats 4000000 in
set_option maxRecDepth 100000 in
theorem concat_any (w : World) (g m cap : Nat) (ps : List Pt) (hm : ps.length = m) (hg : g < w.heap.size) (hp : Parts w g ps) (hl : (joinP ps).length ≤ 4000) (hmm : m ≤ 1000) :
    Calls Tryz.prog 139 #[.slice (some ⟨g, 0, none⟩) m cap] w fun e w' => ∃ v, e = .returned v ∧ OwI w.heap.size w' v (joinP ps) ∧ Below w.heap.size w w' := by
  have hT : Tryz.prog.underlying 110 = some (.slice 44) := Tryz.underlying110
  have HP := Lib.hid hp; clear hp
  have HM := Lib.hid hm; clear hm
  have HLE := Lib.hid (joinP_le ps)
  go_enter Tryz.func139, Tryz.ntmps139
  go_wp2_with fail
  go_loopw [3, 11] (fun s i wr => ∃ k : Nat, k ≤ m ∧ i = .int .i64 k ∧ s = .int .i64 ((joinP (ps.take k)).length : Nat) ∧ Below w.heap.size w wr) (fun _ i _ => m - intV i)
  case atStart => exact ⟨0, Nat.zero_le _, rfl, rfl, Below.refl _ _⟩
  case round =>
    obtain ⟨k, hk, rfl, rfl, hbel0⟩ := hrel
    have HB0 := Lib.hid hbel0; clear hbel0
    have hle := HLE.out k
    by_cases hlt : k < m
    · obtain ⟨p, hpk⟩ : ∃ p, ps[k]? = some p := ⟨ps[k]'(by have := HM.out; omega), List.getElem?_eq_getElem _⟩
      obtain ⟨h1, -⟩ := HP.out.below hg HB0.out k p hpk
      have hle2 := HLE.out (k + 1)
      have HJ := Lib.hid (show (joinP (ps.take (k + 1))).length = (joinP (ps.take k)).length + p.l.length by rw [joinP_succ hpk, List.length_append])
      rw [HJ.out] at hle2
      generalize (joinP (ps.take k)).length = sz at *
      have i1 : ¬ ((sz : Int) + (p.l.length : Int)) < 0 := by omega
      clear hpk
      go_wp2_with fail
      go_roundw
      case rel => exact ⟨k + 1, by omega, by go_num, by rw [HJ.out]; congr 1, HB0.out⟩
      case measure => simp [intV]; omega
    · obtain rfl : k = m := by omega
      have HA := Lib.hid (show ps.take k = ps by rw [List.take_of_length_le (by rw [HM.out]; exact Nat.le_refl _)])
      rw [HA.out] at hle ⊢
      generalize hsz : (joinP ps).length = sz at *
      go_wp2_with fail
      refine (grow_any _ sz hl).mono ?_; rintro e w1 ⟨v, rfl, o1, b1⟩
      have O1 := Lib.hid (o1.mono HB0.out.size)
      have B1 := Lib.hid (bel_tr HB0.out b1 (Nat.le_refl _)); clear b1
      obtain ⟨v1a, v1c, e1, -⟩ := o1.view
      subst e1
      clear o1
      go_wp2_with fail
      go_loopw [6, 27] (fun x i wr2 => ∃ k2 : Nat, k2 ≤ k ∧ i = .int .i64 k2 ∧ OwI w.heap.size wr2 x (joinP (ps.take k2)) ∧ Below w.heap.size w wr2) (fun _ i _ => k - intV i)
      case atStart => exact ⟨0, Nat.zero_le _, rfl, by rw [List.take_zero]; exact O1.out, B1.out⟩
      case round =>
        obtain ⟨k2, hk2, rfl, hown, hbel⟩ := hrel
        have HO := Lib.hid hown
        have HB := Lib.hid hbel; clear hbel
        obtain ⟨v2a, v2c, e2, -⟩ := hown.view
        clear hown
        subst e2
        by_cases hlt2 : k2 < k
        · obtain ⟨p, hpk⟩ : ∃ p, ps[k2]? = some p := ⟨ps[k2]'(by have := HM.out; omega), List.getElem?_eq_getElem _⟩
          obtain ⟨h1, hv⟩ := HP.out.below hg HB.out k2 p hpk
          have HV := Lib.hid hv; clear hv
          have hle2 := HLE.out (k2 + 1)
          have HJ := Lib.hid (joinP_succ hpk)
          rw [HJ.out, List.length_append] at hle2
          have T1 : (joinP (ps.take k2)).length + p.l.length ≤ 10000000 := by omega
          generalize joinP (ps.take k2) = jl at *
          go_wp2_with (first
            | (at_builtin; refine append_binsT rfl (.tmp 31) (.tmp 32) 110 hT rfl (base := w.heap.size) (l := jl) (m := p.l) rfl rfl rfl HO.out HV.out T1 HB.out.size ?_; intro v5 w5 o5 g5))
          have O5 := Lib.hid o5
          have B5 := Lib.hid (HB.out.grown g5 HB.out.size (fun j hj => OwI.lt HO.out j hj)); clear o5 g5
          go_wp2_with fail
          go_roundw
          case rel => exact ⟨k2 + 1, by omega, by go_num, by rw [HJ.out]; exact O5.out, B5.out⟩
          case measure => simp [intV]; omega
        · obtain rfl : k2 = k := by omega
          rw [HA.out] at HO ⊢
          go_wp2_with fail
          go_ret
          exact ⟨_, rfl, HO.out, HB.out⟩
theorem cell_new (w : World) (cs : Array Value) (T : TypeId) (i : Nat) (v : Value) (h : cs[i]? = some v) : (w.alloc (.cells cs T)).cell? ⟨w.heap.size, i, none⟩ = some v := by
  simp only [World.cell?, new_of]
  exact h
set_option maxHeartbeats 4000000 in
set_option maxRecDepth 100000 in
theorem copied_any (w : World) (a : Option Addr) (cap : Nat) (l : List Bi) (n : Nat) (hn : l.length = n) (hv : VwI w a cap l) (hl : n ≤ 4000) :
    Calls Tryz.prog 133 #[.slice a n cap] w fun e w' => ∃ v, e = .returned v ∧ OwI w.heap.size w' v l ∧ Below w.heap.size w w' := by
  have HB := Lib.hid (bel1 w (.cells #[.slice a n cap] 110))
  have HC := Lib.hid (concat_any (w.alloc (.cells #[.slice a n cap] 110)) w.heap.size 1 1 [⟨a, cap, l⟩] rfl (by simp) (fun i p hp => by
    match i, hp with
    | 0, hp =>
      simp at hp; subst hp
      exact ⟨cell_new _ _ _ _ _ (by rw [hn]; rfl), hv.below HB.out⟩) (by simp [joinP]; omega) (by decide))
  rw [show joinP [⟨a, cap, l⟩] = l by simp [joinP]] at HC
  go_enter Tryz.func133, Tryz.ntmps133
  go_wp2_with fail
  refine HC.out.mono ?_; rintro e w1 ⟨v, rfl, o1, b1⟩
  have B1 := Lib.hid (bel_tr HB.out b1 (Nat.le_refl _))
  have O1 := Lib.hid (o1.mono HB.out.size)
  obtain ⟨va, vc, rfl, -⟩ := o1.view
  rw [hn] at O1 ⊢
  clear o1 b1
  go_wp2_with fail
  go_ret
  exact ⟨_, rfl, O1.out, B1.out⟩
set_option maxHeartbeats 4000000 in
set_option maxRecDepth 100000 in
theorem without_any (w : World) (a : Option Addr) (cap : Nat) (l : List Bi) (n : Nat) (s : ByteArray) (hn : l.length = n) (hv : VwI w a cap l) (hl : n ≤ 3000) (hasc : Asc l) :
    Calls Tryz.prog 124 #[.slice a n cap, .string s] w fun e w' => ∃ v, e = .returned v ∧ OwI w.heap.size w' v (ctI l s) ∧ Below w.heap.size w w' := by
  have HS := Lib.hid (split_any w a cap l n s hn hv (by omega) hasc)
  have HV := Lib.hid hv; clear hv
  have hcl := cntI_le s l
  have HTK := Lib.hid (takeI_len s l)
  have hcln := ctI_len l s
  have hcl4 : (ctI l s).length ≤ 4000 := by rw [hcln]; split <;> omega
  clear hcln
  go_enter Tryz.func124, Tryz.ntmps124
  go_wp2_with fail
  refine HS.out.mono ?_; rintro e w1 ⟨b, cb, rfl, hvb, b1⟩
  have B1 := Lib.hid b1
  have V1 := Lib.hid (HV.out.at hcl |>.below b1)
  have V2 := Lib.hid (hvb.below b1); clear hvb b1
  have HB := Lib.hid (bel1 w1 (.cells #[.slice a (cntI s l) cap, .slice b (behI s l).length cb] 110))
  have HC := Lib.hid (concat_any (w1.alloc (.cells #[.slice a (cntI s l) cap, .slice b (behI s l).length cb] 110)) w1.heap.size 2 2 [⟨a, cap, l.take (cntI s l)⟩, ⟨b, cb, behI s l⟩] rfl (by simp) (fun i p hp => by
    match i, hp with
    | 0, hp =>
      simp at hp; subst hp
      exact ⟨cell_new _ _ _ _ _ (by rw [HTK.out]; rfl), V1.out.below HB.out⟩
    | 1, hp =>
      simp at hp; subst hp
      exact ⟨cell_new _ _ _ _ _ rfl, V2.out.below HB.out⟩) (by rw [show joinP [⟨a, cap, l.take (cntI s l)⟩, ⟨b, cb, behI s l⟩] = ctI l s by simp [joinP, ctI]]; exact hcl4) (by decide))
  rw [show joinP [⟨a, cap, l.take (cntI s l)⟩, ⟨b, cb, behI s l⟩] = ctI l s by simp [joinP, ctI]] at HC
  generalize (behI s l).length = bl at *
  generalize cntI s l = k at *
  go_wp2_with fail
  refine HC.out.mono ?_; rintro e w2 ⟨v, rfl, o2, b2⟩
  have B2 := Lib.hid (bel_tr B1.out (bel_tr HB.out b2 (Nat.le_refl _)) (Nat.le_refl _))
  have O2 := Lib.hid (o2.mono (Nat.le_trans B1.out.size HB.out.size))
  obtain ⟨va, vc, rfl, -⟩ := o2.view
  clear o2 b2
  go_wp2_with fail
  go_ret
  exact ⟨_, rfl, O2.out, B2.out⟩
set_option maxHeartbeats 4000000 in
set_option maxRecDepth 100000 in
theorem with_any (w : World) (a : Option Addr) (cap : Nat) (l : List Bi) (n : Nat) (s : ByteArray) (x : Int) (hn : l.length = n) (hv : VwI w a cap l) (hl : n ≤ 3000) (hasc : Asc l) :
    Calls Tryz.prog 132 #[.slice a n cap, .agg #[.string s, .int .i64 x]] w fun e w' => ∃ v, e = .returned v ∧ OwI w.heap.size w' v (stI l s x) ∧ Below w.heap.size w w' := by
  have HB0 := Lib.hid (bel1 w (.cells #[.string s, .int .i64 x] 44))
  have HX0 := Lib.hid (Bn2.made s x w 44)
  have HV := Lib.hid hv; clear hv
  have hmn := m_name s x
  have hen := e_name
  have hcl := cntI_le s l
  have HTK := Lib.hid (takeI_len s l)
  have hcln := stI_len l s x
  have hcl4 : (stI l s x).length ≤ 4000 := by rw [hcln]; split <;> omega
  clear hcln
  go_enter Tryz.func132, Tryz.ntmps132
  go_wp2_with fail
  refine (nameB_any s x _).mono ?_; rintro e w1 ⟨rfl, b1⟩
  have B1 := Lib.hid (bel_tr HB0.out b1 (Nat.le_refl _))
  have X1 := Lib.hid (HX0.out.next b1); clear b1
  have HS := Lib.hid (split_any w1 a cap l n s hn (HV.out.below B1.out) (by omega) hasc)
  go_wp2_with fail
  refine HS.out.mono ?_; rintro e w2 ⟨b, cb, rfl, hvb, b2⟩
  have B2 := Lib.hid (bel_tr B1.out b2 (Nat.le_refl _))
  have V1 := Lib.hid (HV.out.at hcl |>.below B2.out)
  have V2 := Lib.hid (hvb.below b2)
  obtain ⟨x0, x1, -⟩ := X1.out.next b2
  clear hvb b2
  have HL := Lib.hid (bel1 w2 (.cells #[.string s, .int .i64 x] 44))
  have V3 := Lib.hid (VwI.lit w2 ⟨s, x⟩)
  have zl : (w2.alloc (.cells #[.string s, .int .i64 x] 44)).heap.size = w2.heap.size + 1 := by simp
  have HJ := Lib.hid (show joinP [⟨a, cap, l.take (cntI s l)⟩, ⟨some ⟨w2.heap.size, 0, none⟩, 1, [⟨s, x⟩]⟩, ⟨b, cb, behI s l⟩] = stI l s x by simp [joinP, stI])
  have HC := Lib.hid (fun (w3 : World) (hb : Below (w2.alloc (.cells #[.string s, .int .i64 x] 44)).heap.size (w2.alloc (.cells #[.string s, .int .i64 x] 44)) w3) (g : Nat) (hg : g < w3.heap.size) (h0 : w3.cell? ⟨g, 0, none⟩ = some (.slice a (cntI s l) cap)) (h1 : w3.cell? ⟨g, 1, none⟩ = some (.slice (some ⟨w2.heap.size, 0, none⟩) 1 1)) (h2 : w3.cell? ⟨g, 2, none⟩ = some (.slice b (behI s l).length cb)) => concat_any w3 g 3 3 [⟨a, cap, l.take (cntI s l)⟩, ⟨some ⟨w2.heap.size, 0, none⟩, 1, [⟨s, x⟩]⟩, ⟨b, cb, behI s l⟩] rfl hg (fun i p hp => by
    match i, hp with
    | 0, hp =>
      simp at hp; subst hp
      exact ⟨by rw [HTK.out]; exact h0, (V1.out.below HL.out).below hb⟩
    | 1, hp =>
      simp at hp; subst hp
      exact ⟨h1, V3.out.below hb⟩
    | 2, hp =>
      simp at hp; subst hp
      exact ⟨h2, (V2.out.below HL.out).below hb⟩) (by rw [HJ.out]; exact hcl4) (by decide))
  rw [HJ.out] at HC
  clear HJ
  generalize (behI s l).length = bl at *
  generalize cntI s l = k at *
  have C0 := cell_new (w2.alloc (.cells #[.string s, .int .i64 x] 44)) #[.slice a k cap, .slice (some ⟨w2.heap.size, 0, none⟩) 1 1, .slice b bl cb] 110 0 _ rfl
  have C1 := cell_new (w2.alloc (.cells #[.string s, .int .i64 x] 44)) #[.slice a k cap, .slice (some ⟨w2.heap.size, 0, none⟩) 1 1, .slice b bl cb] 110 1 _ rfl
  have C2 := cell_new (w2.alloc (.cells #[.string s, .int .i64 x] 44)) #[.slice a k cap, .slice (some ⟨w2.heap.size, 0, none⟩) 1 1, .slice b bl cb] 110 2 _ rfl
  rw [zl] at C0 C1 C2
  have HB3 := Lib.hid (bel1 (w2.alloc (.cells #[.string s, .int .i64 x] 44)) (.cells #[.slice a k cap, .slice (some ⟨w2.heap.size, 0, none⟩) 1 1, .slice b bl cb] 110))
  have HC4 := Lib.hid (HC.out _ HB3.out (w2.heap.size + 1) (by simp) C0 C1 C2)
  have HB4 := Lib.hid (bel_tr B2.out (bel_tr HL.out HB3.out (Nat.le_refl _)) (Nat.le_refl _))
  clear C0 C1 C2
  go_wp2_with fail
  refine HC4.out.mono ?_; rintro e w4 ⟨v, rfl, o4, b4⟩
  have B5 := Lib.hid (bel_tr HB4.out b4 (Nat.le_refl _))
  have O4 := Lib.hid (o4.mono HB4.out.size)
  obtain ⟨va, vc, rfl, -⟩ := o4.view
  clear o4 b4
  go_wp2_with fail
  go_ret
  exact ⟨_, rfl, O4.out, B5.out⟩
set_option maxHeartbeats 4000000 in
set_option maxRecDepth 100000 in
theorem implSet_any (w : World) (a : Option Addr) (cap : Nat) (l : List Bi) (n : Nat) (s : ByteArray) (x : Int) (hn : l.length = n) (hv : VwI w a cap l) (hl : n ≤ 4194304) :
    Calls Tryz.prog 122 #[.slice a n cap, .string s, .int .i64 x] w (SbPost w.heap.size (sbP l s x) w) := by
  have HV := Lib.hid hv; clear hv
  cases hok : okI l
  · have HE := Lib.hid (sbP_no (n := s) (v := x) hok)
    have HBK := Lib.hid (implBins_is hok w a cap n hn HV.out hl); clear hok
    go_enter Tryz.func122, Tryz.ntmps122
    go_wp2_with fail
    refine HBK.out.mono ?_; rintro e w1 ⟨rfl, b1⟩
    have B1 := Lib.hid b1; clear b1
    go_wp2_with fail
    refine bodyPost_ret (v := .tuple #[.slice none 0 0, .bool false]) (by simp [results, Tryz.results122, go_sem]) rfl ⟨_, by rw [HE.out], by rw [HE.out]; exact OwI.nothing _ _, B1.out⟩
  · have HOK := Lib.hid hok
    have hl12 : n ≤ 12 := by rw [← hn]; exact (okI_iff.1 hok).1
    have hasc := (okI_iff.1 hok).2.1
    have HBK := Lib.hid (implBins_is hok w a cap n hn HV.out hl); clear hok
    have HW := Lib.hid (fun w1 (hv : VwI w1 a cap l) => with_any w1 a cap l n s x hn hv (by omega) hasc); clear hasc
    have HSL := Lib.hid (stI_len l s x)
    have HBO := Lib.hid (binOk_any ⟨s, x⟩)
    have HOS := Lib.hid (show (⟨s, x⟩ : Bi).ok = (nmB s.data.toList && isW x) from rfl)
    cases hb : (nmB s.data.toList && isW x)
    · have HE := Lib.hid (sbP_bad (n := s) (v := x) HOK.out hb)
      rw [HOS.out, hb] at HBO
      clear hb
      go_enter Tryz.func122, Tryz.ntmps122
      go_wp2_with fail
      refine HBK.out.mono ?_; rintro e w1 ⟨rfl, b1⟩
      have B1 := Lib.hid (bel_tr b1 (bel1 w1 (.cells #[.string s, .int .i64 x] 44)) (Nat.le_refl _)); clear b1
      have X1 := Lib.hid (Bn2.made s x w1 44)
      go_wp2_with fail
      refine (HW.out _ (HV.out.below B1.out)).mono ?_; rintro e w2 ⟨v, rfl, o2, b2⟩
      have B2 := Lib.hid (bel_tr B1.out b2 (Nat.le_refl _))
      obtain ⟨x0, x1, -⟩ := X1.out.next b2
      obtain ⟨va, vc, rfl, -⟩ := o2.view
      clear o2 b2
      go_wp2_with fail
      refine (HBO.out _).mono ?_; rintro e w3 ⟨rfl, b3⟩
      have B3 := Lib.hid (bel_tr B2.out b3 (Nat.le_refl _)); clear b3 x0 x1
      go_wp2_with fail
      refine (copied_any w3 a cap l n hn (HV.out.below B3.out) (by omega)).mono ?_; rintro e w4 ⟨v4, rfl, o4, b4⟩
      have B4 := Lib.hid (bel_tr B3.out b4 (Nat.le_refl _))
      have O4 := Lib.hid (o4.mono B3.out.size); clear o4 b4
      go_wp2_with fail
      refine bodyPost_ret (v := .tuple #[v4, .bool false]) (by simp [results, Tryz.results122, go_sem]) rfl ⟨_, by rw [HE.out], by rw [HE.out]; exact O4.out, B4.out⟩
    · rw [HOS.out, hb] at HBO
      by_cases h12 : (stI l s x).length ≤ 12
      · have HE := Lib.hid (sbP_yes (n := s) (v := x) HOK.out hb h12)
        have i1 : ¬ (12 : Int) < ((stI l s x).length : Int) := by omega
        clear hb h12
        go_enter Tryz.func122, Tryz.ntmps122
        go_wp2_with fail
        refine HBK.out.mono ?_; rintro e w1 ⟨rfl, b1⟩
        have B1 := Lib.hid (bel_tr b1 (bel1 w1 (.cells #[.string s, .int .i64 x] 44)) (Nat.le_refl _)); clear b1
        have X1 := Lib.hid (Bn2.made s x w1 44)
        go_wp2_with fail
        refine (HW.out _ (HV.out.below B1.out)).mono ?_; rintro e w2 ⟨v, rfl, o2, b2⟩
        have B2 := Lib.hid (bel_tr B1.out b2 (Nat.le_refl _))
        obtain ⟨x0, x1, -⟩ := X1.out.next b2
        have O2 := Lib.hid (o2.mono B1.out.size)
        obtain ⟨va, vc, rfl, -⟩ := o2.view
        clear o2 b2
        generalize (stI l s x).length = sl at *
        go_wp2_with fail
        refine (HBO.out _).mono ?_; rintro e w3 ⟨rfl, b3⟩
        have B3 := Lib.hid (bel_tr B2.out b3 (Nat.le_refl _))
        have O3 := Lib.hid (O2.out.next b3); clear b3 x0 x1
        go_wp2_with fail
        refine bodyPost_ret (v := .tuple #[.slice va sl vc, .bool true]) (by simp [results, Tryz.results122, go_sem]) rfl ⟨_, by rw [HE.out], by rw [HE.out]; exact O3.out, B3.out⟩
      · have HE := Lib.hid (sbP_long (n := s) (v := x) HOK.out h12)
        have i1 : (12 : Int) < ((stI l s x).length : Int) := by omega
        clear hb h12
        go_enter Tryz.func122, Tryz.ntmps122
        go_wp2_with fail
        refine HBK.out.mono ?_; rintro e w1 ⟨rfl, b1⟩
        have B1 := Lib.hid (bel_tr b1 (bel1 w1 (.cells #[.string s, .int .i64 x] 44)) (Nat.le_refl _)); clear b1
        have X1 := Lib.hid (Bn2.made s x w1 44)
        go_wp2_with fail
        refine (HW.out _ (HV.out.below B1.out)).mono ?_; rintro e w2 ⟨v, rfl, o2, b2⟩
        have B2 := Lib.hid (bel_tr B1.out b2 (Nat.le_refl _))
        obtain ⟨x0, x1, -⟩ := X1.out.next b2
        obtain ⟨va, vc, rfl, -⟩ := o2.view
        clear o2 b2
        generalize (stI l s x).length = sl at *
        go_wp2_with fail
        refine (HBO.out _).mono ?_; rintro e w3 ⟨rfl, b3⟩
        have B3 := Lib.hid (bel_tr B2.out b3 (Nat.le_refl _)); clear b3 x0 x1
        go_wp2_with fail
        refine (copied_any w3 a cap l n hn (HV.out.below B3.out) (by omega)).mono ?_; rintro e w4 ⟨v4, rfl, o4, b4⟩
        have B4 := Lib.hid (bel_tr B3.out b4 (Nat.le_refl _))
        have O4 := Lib.hid (o4.mono B3.out.size); clear o4 b4
        go_wp2_with fail
        refine bodyPost_ret (v := .tuple #[v4, .bool false]) (by simp [results, Tryz.results122, go_sem]) rfl ⟨_, by rw [HE.out], by rw [HE.out]; exact O4.out, B4.out⟩
set_option maxHeartbeats 4000000 in
set_option maxRecDepth 100000 in
theorem implCut_any (w : World) (a : Option Addr) (cap : Nat) (l : List Bi) (n : Nat) (s : ByteArray) (hn : l.length = n) (hv : VwI w a cap l) (hl : n ≤ 4194304) :
    Calls Tryz.prog 111 #[.slice a n cap, .string s] w (CbPost w.heap.size (cbP l s) w) := by
  have HV := Lib.hid hv; clear hv
  cases hok : okI l
  · have HE := Lib.hid (cbP_no (n := s) hok)
    have HBK := Lib.hid (implBins_is hok w a cap n hn HV.out hl); clear hok
    go_enter Tryz.func111, Tryz.ntmps111
    go_wp2_with fail
    refine HBK.out.mono ?_; rintro e w1 ⟨rfl, b1⟩
    have B1 := Lib.hid b1; clear b1
    go_wp2_with fail
    go_ret
    exact ⟨_, rfl, by rw [HE.out]; exact OwI.nothing _ _, B1.out⟩
  · have hl12 : n ≤ 12 := by rw [← hn]; exact (okI_iff.1 hok).1
    have hasc := (okI_iff.1 hok).2.1
    have HE := Lib.hid (cbP_yes (n := s) hok)
    have HBK := Lib.hid (implBins_is hok w a cap n hn HV.out hl); clear hok
    have HW := Lib.hid (fun w1 (hv : VwI w1 a cap l) => without_any w1 a cap l n s hn hv (by omega) hasc); clear hasc
    go_enter Tryz.func111, Tryz.ntmps111
    go_wp2_with fail
    refine HBK.out.mono ?_; rintro e w1 ⟨rfl, b1⟩
    have B1 := Lib.hid b1; clear b1
    go_wp2_with fail
    refine (HW.out _ (HV.out.below B1.out)).mono ?_; rintro e w2 ⟨v, rfl, o2, b2⟩
    have B2 := Lib.hid (bel_tr B1.out b2 (Nat.le_refl _))
    have O2 := Lib.hid (o2.mono B1.out.size)
    obtain ⟨va, vc, rfl, -⟩ := o2.view
    clear o2 b2
    rw [← HE.out] at O2 ⊢
    generalize (cbP l s).length = sl at *
    go_wp2_with fail
    go_ret
    exact ⟨_, rfl, O2.out, B2.out⟩
end Go.Proofs.YtfnnoehpahdgcaaGreatDoor.Cl
namespace Go.Proofs.YtfnnoehpahdgcaaGreatDoor.Cl
set_option linter.unusedVariables false
open Go.RowKit Wd Rp Kp
theorem take_less {l : List Bi} {n : ByteArray} : ∀ c ∈ l.take (cntI n l), Op.bytesLess c.n.toList n.toList = true := fun c hc => by
  obtain ⟨k, hk⟩ := List.mem_iff_getElem?.1 hc
  rw [List.getElem?_take] at hk
  split at hk
  · rename_i h; exact cntI_lt h hk
  · cases hk
theorem beh_more {l : List Bi} {n : ByteArray} (ha : Asc l) : ∀ c ∈ behI n l, Op.bytesLess n.toList c.n.toList = true := fun c hc => by
  obtain ⟨k, hk⟩ := List.mem_iff_getElem?.1 hc
  unfold behI at hk
  rw [List.getElem?_drop] at hk
  have h3 := bl_three c.n.toList n.toList
  cases hat : isAt n l
  · rw [hat, if_neg (by decide)] at hk
    have h1 := cntI_ge ha (show cntI n l ≤ cntI n l + k by omega) hk
    rw [h1, Bool.false_or] at h3
    rw [h3]
    by_cases e : c.n.toList = n.toList
    · cases k with
      | zero => rw [isAt_some hk, e] at hat; simp at hat
      | succ k =>
        have hl := (List.getElem?_eq_some_iff.1 hk).1
        have hd := List.getElem?_eq_getElem (l := l) (i := cntI n l) (by omega)
        have h2 := asc_lt ha (show cntI n l < cntI n l + (k + 1) by omega) hd hk
        rw [e] at h2
        rw [cntI_at hd] at h2; cases h2
    · simpa using e
  · rw [hat, if_pos rfl] at hk
    have hl := isAt_lt hat
    have hd := List.getElem?_eq_getElem (l := l) (i := cntI n l) hl
    have h2 := asc_lt ha (show cntI n l < cntI n l + 1 + k by omega) hd hk
    rw [isAt_some hd] at hat
    rw [← beq_iff_eq.1 hat]; exact h2
theorem mem_parts {l : List Bi} {n : ByteArray} {c : Bi} (hc : c ∈ l) (hn : c.n.toList ≠ n.toList) : c ∈ l.take (cntI n l) ∨ c ∈ behI n l := by
  obtain ⟨k, hk⟩ := List.mem_iff_getElem?.1 hc
  by_cases h : k < cntI n l
  · exact Or.inl (List.mem_iff_getElem?.2 ⟨k, by rw [List.getElem?_take, if_pos h]; exact hk⟩)
  · right
    unfold behI
    cases hat : isAt n l
    · rw [if_neg (by decide)]
      exact List.mem_iff_getElem?.2 ⟨k - cntI n l, by rw [List.getElem?_drop, show cntI n l + (k - cntI n l) = k by omega]; exact hk⟩
    · rw [if_pos rfl]
      have hne : k ≠ cntI n l := fun e => by
        subst e
        rw [isAt_some hk] at hat
        exact hn (beq_iff_eq.1 hat)
      exact List.mem_iff_getElem?.2 ⟨k - (cntI n l + 1), by rw [List.getElem?_drop, show cntI n l + 1 + (k - (cntI n l + 1)) = k by omega]; exact hk⟩
theorem beh_mem {l : List Bi} {n : ByteArray} {c : Bi} (h : c ∈ behI n l) : c ∈ l := List.mem_of_mem_drop h
theorem asc_ct {l : List Bi} {n : ByteArray} (ha : Asc l) : Asc (ctI l n) := by
  unfold ctI
  refine List.pairwise_append.2 ⟨ha.sublist (List.take_sublist _ _), ha.sublist (List.drop_sublist _ _), fun c hc d hd => ?_⟩
  exact bl_tr (take_less c hc) (beh_more ha d hd)
theorem asc_st {l : List Bi} {n : ByteArray} {v : Int} (ha : Asc l) : Asc (stI l n v) := by
  unfold stI
  refine List.pairwise_append.2 ⟨ha.sublist (List.take_sublist _ _), ?_, fun c hc d hd => ?_⟩
  · refine List.pairwise_append.2 ⟨List.pairwise_singleton _ _, ha.sublist (List.drop_sublist _ _), fun c hc d hd => ?_⟩
    rw [List.mem_singleton] at hc; subst hc
    exact beh_more ha d hd
  · rcases List.mem_append.1 hd with e | e
    · rw [List.mem_singleton] at e; subst e; exact take_less c hc
    · exact bl_tr (take_less c hc) (beh_more ha d e)
theorem bl_ne {x y : List UInt8} (h : Op.bytesLess x y = true) : (x == y) = false := by
  cases e : (x == y) with
  | false => rfl
  | true => rw [beq_iff_eq.1 e, bl_irr] at h; cases h
theorem valL_mem {l : List Bi} (ha : Asc l) {c : Bi} (hc : c ∈ l) {n : ByteArray} (hn : c.n.toList = n.toList) : valL n l = (c.v, true) := by
  obtain ⟨k, hk⟩ := List.mem_iff_getElem?.1 hc
  refine valL_at hk (fun j d hj hd => ?_) (by simp [hn])
  rw [← hn]
  exact bl_ne (asc_lt ha hj hd hk)
theorem valL_out {l : List Bi} {n : ByteArray} (h : ∀ c ∈ l, c.n.toList ≠ n.toList) : valL n l = (0, false) := valL_none fun j d hd => by
  have := h d (List.mem_of_getElem? hd)
  simpa using this
theorem set_ok {l : List Bi} {n : ByteArray} {v : Int} (hok : okI l = true) (h : (nmB n.data.toList && isW v) = true) (h12 : (stI l n v).length ≤ 12) : okI (stI l n v) = true := by
  obtain ⟨h1, h2, h3⟩ := okI_iff.1 hok
  refine okI_iff.2 ⟨h12, asc_st h2, fun c hc => ?_⟩
  unfold stI at hc
  rcases List.mem_append.1 hc with hc | hc
  · exact h3 c (List.mem_of_mem_take hc)
  · rcases List.mem_append.1 hc with hc | hc
    · rw [List.mem_singleton] at hc; subst hc; exact h
    · exact h3 c (beh_mem hc)
end Go.Proofs.YtfnnoehpahdgcaaGreatDoor.Cl
namespace Go.Proofs.YtfnnoehpahdgcaaGreatDoor.Cl
set_option linter.unusedVariables false
open Go.RowKit Wd Rp Kp
theorem whR_fuel {gs : List Int} {e : List Tk} {body : St0 → St0} (hb : ∀ st : St0, 0 ≤ st.f → 0 ≤ (body st).f ∧ (body st).f ≤ st.f) : ∀ (n : Nat) (st : St0), 0 ≤ st.f → 0 ≤ (whR gs e body n st).f ∧ (whR gs e body n st).f ≤ st.f
  | 0, st, h => ⟨h, Int.le_refl _⟩
  | n + 1, st, h => by
    rw [whR]
    split
    · exact ⟨h, Int.le_refl _⟩
    · rename_i h0
      split
      · exact ⟨by show 0 ≤ st.f - 1; omega, by show st.f - 1 ≤ st.f; omega⟩
      · split
        · exact ⟨by show 0 ≤ st.f - 1; omega, by show st.f - 1 ≤ st.f; omega⟩
        · have h1 := hb ⟨st.c, st.b, st.f - 1⟩ (by show 0 ≤ st.f - 1; omega)
          have h1' : (body ⟨st.c, st.b, st.f - 1⟩).f ≤ st.f - 1 := h1.2
          split
          · have h2 := whR_fuel (gs := gs) (e := e) hb n _ h1.1
            omega
          · omega
mutual
theorem Sm.run_fuel (gs : List Int) : ∀ (s : Sm) (st : St0), 0 ≤ st.f → 0 ≤ (s.run gs st).f ∧ (s.run gs st).f ≤ st.f
  | .set n e, st, h => by rw [Sm.run]; split <;> exact ⟨h, Int.le_refl _⟩
  | .cut n, st, h => by rw [Sm.run]; exact ⟨h, Int.le_refl _⟩
  | .stop, st, h => by rw [Sm.run]; exact ⟨h, Int.le_refl _⟩
  | .ifs e a b, st, h => by
    rw [Sm.run]
    split
    · exact ⟨h, Int.le_refl _⟩
    · split
      · exact Sl.run_fuel gs b st h
      · exact Sl.run_fuel gs a st h
  | .whl e a, st, h => by
    rw [Sm.run]
    exact whR_fuel (fun st h => Sl.run_fuel gs a st h) _ st h
theorem Sl.run_fuel (gs : List Int) : ∀ (s : Sl) (st : St0), 0 ≤ st.f → 0 ≤ (s.run gs st).f ∧ (s.run gs st).f ≤ st.f
  | .nil, st, h => by rw [Sl.run]; exact ⟨h, Int.le_refl _⟩
  | .cons s r, st, h => by
    rw [Sl.run]
    have h1 := Sm.run_fuel gs s st h
    split
    · have h2 := Sl.run_fuel gs r _ h1.1
      omega
    · exact h1
end
end Go.Proofs.YtfnnoehpahdgcaaGreatDoor.Cl
namespace Go.Proofs.YtfnnoehpahdgcaaGreatDoor.Cl
set_option linter.unusedVariables false
open Go.RowKit Wd Rp Kp
theorem wr_w (n : Int) : isW (wr n) = true := (isW_iff _).2 ⟨wr_lo n, wr_hi n⟩
theorem did_w (o a b : Int) : isW (didV o a b) = true := by
  unfold didV
  repeat (first | exact wr_w _ | decide | split)
theorem vlG_w (o : Nat) (a b : Int × Bool) : isW (vlG o a b).1 = true := by
  unfold vlG; split
  · exact did_w _ _ _
  · show isW 0 = true; decide
theorem valL_w {n : ByteArray} : ∀ {l : List Bi}, (∀ c ∈ l, isW c.v = true) → isW (valL n l).1 = true
  | [], _ => by show isW 0 = true; decide
  | c :: r, h => by
    unfold valL
    split
    · exact h c (by simp)
    · exact valL_w fun d hd => h d (by simp [hd])
theorem thB_mem {gs : List Int} (h : thB gs = true) : ∀ x ∈ gs, isW x = true := by
  unfold thB at h
  rw [Bool.and_eq_true] at h
  exact List.all_eq_true.1 h.1
theorem vlF_w {gs : List Int} {bs : List Bi} {s : Tk} (h1 : okI bs = true) (h2 : thB gs = true) (hs : isL s = true) : isW (vlF gs bs s).1 = true := by
  by_cases hg : gvN s = 0
  · cases hn : nmB s
    · have hr : rdB s = true := by
        cases e : rdB s with
        | true => rfl
        | false => rw [isL_nm hs hg e] at hn; cases hn
      rw [vlF_rd hg hr]; exact rd_word hr
    · rw [vlF_nm hg hn]
      exact valL_w fun c hc => by
        have := (okI_iff.1 h1).2.2 c hc
        unfold Bi.ok at this
        rw [Bool.and_eq_true] at this
        exact this.2
  · rw [vlF_gv hg]
    have h3 := gvN_le s
    have h4 := thB_len h2
    have hlt : gvN s - 1 < gs.length := by omega
    show isW (gs.getD (gvN s - 1) 0) = true
    rw [List.getD_eq_getElem?_getD, List.getElem?_eq_getElem hlt]
    exact thB_mem h2 _ (List.getElem_mem hlt)
theorem fo_w {gs : List Int} {bs : List Bi} (h1 : okI bs = true) (h2 : thB gs = true) : ∀ u : Su, u.ok → isW (u.fo (vlF gs bs) vlG).1 = true
  | .one s, hu => vlF_w h1 h2 hu
  | .two s a b, _ => vlG_w _ _ _
end Go.Proofs.YtfnnoehpahdgcaaGreatDoor.Cl
namespace Go.Proofs.YtfnnoehpahdgcaaGreatDoor.Cl
set_option linter.unusedVariables false
open Go.RowKit Wd Rp Kp
theorem less_ne {a b : ByteArray} (h : Op.bytesLess a.toList b.toList = true) : a.toList ≠ b.toList := fun e => by rw [e, bl_irr] at h; cases h
theorem mem_ct {l : List Bi} (ha : Asc l) {n : ByteArray} {c : Bi} : c ∈ ctI l n ↔ c ∈ l ∧ c.n.toList ≠ n.toList := by
  unfold ctI
  rw [List.mem_append]
  constructor
  · rintro (h | h)
    · exact ⟨List.mem_of_mem_take h, less_ne (take_less c h)⟩
    · exact ⟨beh_mem h, fun e => less_ne (beh_more ha c h) e.symm⟩
  · rintro ⟨h, hn⟩
    exact mem_parts h hn
theorem mem_st {l : List Bi} (ha : Asc l) {n : ByteArray} {v : Int} {c : Bi} : c ∈ stI l n v ↔ c = ⟨n, v⟩ ∨ (c ∈ l ∧ c.n.toList ≠ n.toList) := by
  rw [← mem_ct ha]
  unfold stI ctI
  simp only [List.mem_append, List.mem_singleton]
  constructor
  · rintro (h | h | h)
    · exact Or.inr (Or.inl h)
    · exact Or.inl h
    · exact Or.inr (Or.inr h)
  · rintro (h | h | h)
    · exact Or.inr (Or.inl h)
    · exact Or.inl h
    · exact Or.inr (Or.inr h)
theorem isAt_iff {l : List Bi} (ha : Asc l) {n : ByteArray} : isAt n l = true ↔ ∃ c ∈ l, c.n.toList = n.toList := by
  constructor
  · intro h
    have hl := isAt_lt h
    have hd := List.getElem?_eq_getElem hl
    rw [isAt_some hd] at h
    exact ⟨_, List.mem_of_getElem? hd, beq_iff_eq.1 h⟩
  · rintro ⟨c, hc, hn⟩
    cases hat : isAt n l with
    | true => rfl
    | false =>
      have hb : behI n l = l.drop (cntI n l) := by unfold behI; rw [hat]; rfl
      rw [← List.take_append_drop (cntI n l) l, ← hb] at hc
      rcases List.mem_append.1 hc with h | h
      · exact absurd hn (less_ne (take_less c h))
      · exact absurd hn.symm (less_ne (beh_more ha c h))
def eOk (e : List Tk) : Prop := ∃ u : Su, u.ok ∧ e = u.fl
theorem evE_fl (gs : List Int) (bs : List Bi) {u : Su} (h : u.ok) : evE gs bs u.fl = u.fo (vlF gs bs) vlG := foV_of (l := u.fl) (k := 0) (r := []) _ _ _ h (by simp)
theorem evE_w {gs : List Int} {bs : List Bi} (h1 : okI bs = true) (h2 : thB gs = true) {e : List Tk} (h : eOk e) : isW (evE gs bs e).1 = true := by
  obtain ⟨u, hu, rfl⟩ := h
  rw [evE_fl gs bs hu]
  exact fo_w h1 h2 u hu
mutual
/-- What holds of all that is set, of all that is cut, of all that is asked. -/
def Sm.all (S : Tk → List Tk → Prop) (C : Tk → Prop) (E : List Tk → Prop) : Sm → Prop
  | .set n e => S n e
  | .cut n => C n
  | .stop => True
  | .ifs e a b => E e ∧ Sl.all S C E a ∧ Sl.all S C E b
  | .whl e a => E e ∧ Sl.all S C E a
def Sl.all (S : Tk → List Tk → Prop) (C : Tk → Prop) (E : List Tk → Prop) : Sl → Prop
  | .nil => True
  | .cons s r => Sm.all S C E s ∧ Sl.all S C E r
end
theorem whR_inv {gs : List Int} {e : List Tk} {body : St0 → St0} {P : List Bi → Prop} (hb : ∀ st : St0, P st.b → P (body st).b) : ∀ (n : Nat) (st : St0), P st.b → P (whR gs e body n st).b
  | 0, st, h => h
  | n + 1, st, h => by
    rw [whR]
    split
    · exact h
    · split
      · exact h
      · split
        · exact h
        · split
          · exact whR_inv hb n _ (hb _ h)
          · exact hb _ h
mutual
theorem Sm.run_inv (gs : List Int) {S : Tk → List Tk → Prop} {C : Tk → Prop} {E : List Tk → Prop} {P : List Bi → Prop} (hS : ∀ n e b, S n e → P b → P (st7 b (tx n) (evE gs b e).1).1) (hC : ∀ n b, C n → P b → P (ctI b (tx n))) : ∀ (s : Sm) (st : St0), s.all S C E → P st.b → P (s.run gs st).b
  | .set n e, st, h, hp => by
    rw [Sm.run]
    split
    · exact hp
    · rw [Sm.all] at h; exact hS n e _ h hp
  | .cut n, st, h, hp => by rw [Sm.all] at h; rw [Sm.run]; exact hC n _ h hp
  | .stop, st, h, hp => by rw [Sm.run]; exact hp
  | .ifs e a b, st, h, hp => by
    rw [Sm.all] at h
    rw [Sm.run]
    split
    · exact hp
    · split
      · exact Sl.run_inv gs hS hC b st h.2.2 hp
      · exact Sl.run_inv gs hS hC a st h.2.1 hp
  | .whl e a, st, h, hp => by
    rw [Sm.all] at h
    rw [Sm.run]
    exact whR_inv (fun st hp => Sl.run_inv gs hS hC a st h.2 hp) _ st hp
theorem Sl.run_inv (gs : List Int) {S : Tk → List Tk → Prop} {C : Tk → Prop} {E : List Tk → Prop} {P : List Bi → Prop} (hS : ∀ n e b, S n e → P b → P (st7 b (tx n) (evE gs b e).1).1) (hC : ∀ n b, C n → P b → P (ctI b (tx n))) : ∀ (s : Sl) (st : St0), s.all S C E → P st.b → P (s.run gs st).b
  | .nil, st, h, hp => by rw [Sl.run]; exact hp
  | .cons s r, st, h, hp => by
    rw [Sl.all] at h
    rw [Sl.run]
    have h1 := Sm.run_inv gs hS hC s st h.1 hp
    split
    · exact Sl.run_inv gs hS hC r _ h.2 h1
    · exact h1
end
theorem st7_ok {l : List Bi} {n : ByteArray} {v : Int} (h : okI l = true) (hn : (nmB n.data.toList && isW v) = true) : okI (st7 l n v).1 = true := by
  have h1 := okI_iff.1 h
  have h2 := stI_len l n v
  unfold st7
  by_cases ha : isAt n l = true
  · rw [if_pos ha]
    rw [if_pos ha] at h2
    exact set_ok h hn (by omega)
  · rw [if_neg ha]
    rw [if_neg ha] at h2
    split
    · exact h
    · exact set_ok h hn (by show (stI l n v).length ≤ 12; omega)
theorem ctI_ok {l : List Bi} {n : ByteArray} (h : okI l = true) : okI (ctI l n) = true := by
  obtain ⟨h1, h2, h3⟩ := okI_iff.1 h
  have h4 := ctI_len l n
  refine okI_iff.2 ⟨by split at h4 <;> omega, asc_ct h2, fun c hc => h3 c ((mem_ct h2).1 hc).1⟩
def Sl.ok (s : Sl) : Prop := s.all (fun n e => nmB n = true ∧ eOk e) (fun n => nmB n = true) eOk
theorem Sl.run_ok {gs : List Int} (h2 : thB gs = true) (s : Sl) (st : St0) (h : s.ok) (hb : okI st.b = true) : okI (s.run gs st).b = true :=
  Sl.run_inv gs (P := fun b => okI b = true) (fun n e b h hp => st7_ok hp (by rw [Bool.and_eq_true]; exact ⟨h.1, evE_w hp h2 h.2⟩)) (fun n b _ hp => ctI_ok hp) s st h hb
def Sl.free (z : ByteArray) (s : Sl) : Prop := s.all (fun n _ => (tx n).toList ≠ z.toList) (fun n => (tx n).toList ≠ z.toList) (fun _ => True)
theorem Sl.run_keep (gs : List Int) {z : ByteArray} (s : Sl) (st : St0) (h : s.free z) (ha : Asc st.b) : Asc (s.run gs st).b ∧ ∀ c : Bi, c.n.toList = z.toList → (c ∈ (s.run gs st).b ↔ c ∈ st.b) := by
  refine Sl.run_inv gs (P := fun b => Asc b ∧ ∀ c : Bi, c.n.toList = z.toList → (c ∈ b ↔ c ∈ st.b)) (fun n e b h hp => ?_) (fun n b h hp => ?_) s st h ⟨ha, fun _ _ => Iff.rfl⟩
  · have hst : ∀ v, Asc (stI b (tx n) v) ∧ ∀ c : Bi, c.n.toList = z.toList → (c ∈ stI b (tx n) v ↔ c ∈ st.b) := fun v => ⟨asc_st hp.1, fun c hc => by
      rw [mem_st hp.1, ← hp.2 c hc]
      constructor
      · rintro (rfl | h1)
        · exact absurd hc h
        · exact h1.1
      · intro h1
        exact Or.inr ⟨h1, fun e => h (e.symm.trans hc)⟩⟩
    unfold st7
    split
    · exact hst _
    · split
      · exact hp
      · exact hst _
  · exact ⟨asc_ct hp.1, fun c hc => by
      rw [mem_ct hp.1, ← hp.2 c hc]
      exact ⟨fun h1 => h1.1, fun h1 => ⟨h1, fun e => h (e.symm.trans hc)⟩⟩⟩
end Go.Proofs.YtfnnoehpahdgcaaGreatDoor.Cl
namespace Go.Proofs.YtfnnoehpahdgcaaGreatDoor.Cl
set_option linter.unusedVariables false
open Go.RowKit Wd Rp Kp
def eFree (z : ByteArray) (e : List Tk) : Prop := ∀ s ∈ e, nmB s = true → (tx s).toList ≠ z.toList
theorem stk_congr {R : Type} {f f' : Tk → R} {g : Nat → R → R → R} : ∀ {l : List Tk}, (∀ s ∈ l, f s = f' s) → stk f g l = stk f' g l
  | [], _ => rfl
  | s :: l, h => by
    rw [stk, stk, stk_congr (l := l) (fun t ht => h t (by simp [ht])), h s (by simp)]
theorem evE_congr {gs : List Int} {bs bs' : List Bi} {e : List Tk} (h : ∀ s ∈ e, vlF gs bs s = vlF gs bs' s) : evE gs bs e = evE gs bs' e := by
  unfold evE foV
  cases enA e 0 with
  | none => rfl
  | some n =>
    dsimp only
    rw [stk_congr (f := vlF gs bs) (f' := vlF gs bs') (l := ((e.drop (0 : Int).toNat).take n)) (fun s hs => h s (List.mem_of_mem_drop (List.mem_of_mem_take hs)))]
theorem val_st {l : List Bi} (ha : Asc l) {z n : ByteArray} (x : Int) (hn : n.toList ≠ z.toList) : valL n (stI l z x) = valL n l := by
  by_cases h : ∃ c ∈ l, c.n.toList = n.toList
  · obtain ⟨c, hc, e⟩ := h
    rw [valL_mem ha hc e]
    exact valL_mem (asc_st ha) ((mem_st ha).2 (Or.inr ⟨hc, fun e2 => hn (e.symm.trans e2)⟩)) e
  · rw [valL_out (fun c hc e => h ⟨c, hc, e⟩)]
    refine valL_out fun c hc e => ?_
    rcases (mem_st ha).1 hc with rfl | h1
    · exact hn e.symm
    · exact h ⟨c, h1.1, e⟩
theorem ev_z {gs : List Int} {l : List Bi} (ha : Asc l) {z : ByteArray} (x : Int) {e : List Tk} (h : eFree z e) : evE gs (stI l z x) e = evE gs l e := by
  refine evE_congr fun s hs => ?_
  unfold vlF
  by_cases hg : gvN s ≠ 0
  · rw [if_pos hg, if_pos hg]
  · rw [if_neg hg, if_neg hg]
    cases hm : nmB s with
    | false => rfl
    | true => rw [if_pos rfl, if_pos rfl, val_st ha x (h s hs hm)]
theorem st_st {l : List Bi} (ha : Asc l) {z n : ByteArray} (x v : Int) (hn : n.toList ≠ z.toList) : stI (stI l z x) n v = stI (stI l n v) z x := by
  refine asc_ext (asc_st (asc_st ha)) (asc_st (asc_st ha)) fun c => ?_
  rw [mem_st (asc_st ha), mem_st (asc_st ha), mem_st ha, mem_st ha]
  constructor
  · rintro (rfl | ⟨rfl | ⟨h1, h2⟩, h3⟩)
    · exact Or.inr ⟨Or.inl rfl, hn⟩
    · exact Or.inl rfl
    · exact Or.inr ⟨Or.inr ⟨h1, h3⟩, h2⟩
  · rintro (rfl | ⟨rfl | ⟨h1, h2⟩, h3⟩)
    · exact Or.inr ⟨Or.inl rfl, fun e => hn e.symm⟩
    · exact Or.inl rfl
    · exact Or.inr ⟨Or.inr ⟨h1, h3⟩, h2⟩
theorem ct_st {l : List Bi} (ha : Asc l) {z n : ByteArray} (x : Int) (hn : n.toList ≠ z.toList) : ctI (stI l z x) n = stI (ctI l n) z x := by
  refine asc_ext (asc_ct (asc_st ha)) (asc_st (asc_ct ha)) fun c => ?_
  rw [mem_ct (asc_st ha), mem_st (asc_ct ha), mem_st ha, mem_ct ha]
  constructor
  · rintro ⟨rfl | ⟨h1, h2⟩, h3⟩
    · exact Or.inl rfl
    · exact Or.inr ⟨⟨h1, h3⟩, h2⟩
  · rintro (rfl | ⟨⟨h1, h3⟩, h2⟩)
    · exact ⟨Or.inl rfl, fun e => hn e.symm⟩
    · exact ⟨Or.inr ⟨h1, h2⟩, h3⟩
theorem ct_self {l : List Bi} (ha : Asc l) (z : ByteArray) (x : Int) : ctI (stI l z x) z = ctI l z := by
  refine asc_ext (asc_ct (asc_st ha)) (asc_ct ha) fun c => ?_
  rw [mem_ct (asc_st ha), mem_ct ha, mem_st ha]
  constructor
  · rintro ⟨rfl | ⟨h1, h2⟩, h3⟩
    · exact absurd rfl h3
    · exact ⟨h1, h2⟩
  · rintro ⟨h1, h2⟩
    exact ⟨Or.inr ⟨h1, h2⟩, h2⟩
theorem at_st {l : List Bi} (ha : Asc l) {z n : ByteArray} (x : Int) (hn : n.toList ≠ z.toList) : isAt n (stI l z x) = isAt n l := by
  rw [Bool.eq_iff_iff, isAt_iff (asc_st ha), isAt_iff ha]
  constructor
  · rintro ⟨c, hc, e⟩
    rcases (mem_st ha).1 hc with rfl | h1
    · exact absurd e.symm hn
    · exact ⟨c, h1.1, e⟩
  · rintro ⟨c, hc, e⟩
    exact ⟨c, (mem_st ha).2 (Or.inr ⟨hc, fun e2 => hn (e.symm.trans e2)⟩), e⟩
theorem st7_z {l : List Bi} (ha : Asc l) {z n : ByteArray} (x v : Int) (hn : n.toList ≠ z.toList) (h12 : (stI l z x).length ≤ 12) :
    (st7 (stI l z x) n v).2 = false ∨ (st7 l n v).2 = true ∧ st7 (stI l z x) n v = (stI (st7 l n v).1 z x, true) ∧ Asc (st7 l n v).1 ∧ (stI (st7 l n v).1 z x).length ≤ 12 := by
  have hl := stI_len l z x
  have h2 := stI_len (stI l z x) n v
  have h3 := at_st ha x hn
  rw [h3] at h2
  have hle : l.length ≤ (stI l z x).length := by split at hl <;> omega
  cases hat : isAt n l with
  | true =>
    right
    rw [st7_at hat, st7_at (h3.trans hat), st_st ha x v hn]
    refine ⟨rfl, rfl, asc_st ha, ?_⟩
    rw [← st_st ha x v hn, h2, hat, if_pos rfl]; exact h12
  | false =>
    by_cases hf : (stI l z x).length = 12
    · left; rw [st7_full (h3.trans hat) hf]
    · right
      rw [st7_new hat (by omega), st7_new (h3.trans hat) hf, st_st ha x v hn]
      refine ⟨rfl, rfl, asc_st ha, ?_⟩
      rw [← st_st ha x v hn, h2, hat, if_neg (by decide)]; omega
def St0.wz (st : St0) (z : ByteArray) (x : Int) : St0 := ⟨st.c, stI st.b z x, st.f⟩
def Zed (z : ByteArray) (x : Int) (r r' : St0) : Prop := r'.c = 4 ∨ (r' = r.wz z x ∧ Asc r.b ∧ (stI r.b z x).length ≤ 12)
theorem whR_z {gs : List Int} {e : List Tk} {body : St0 → St0} {z : ByteArray} {x : Int} (he : eFree z e) (hb : ∀ st : St0, Asc st.b → (stI st.b z x).length ≤ 12 → Zed z x (body st) (body (st.wz z x))) : ∀ (n : Nat) (st : St0), Asc st.b → (stI st.b z x).length ≤ 12 → Zed z x (whR gs e body n st) (whR gs e body n (st.wz z x))
  | 0, st, h, h12 => Or.inr ⟨rfl, h, h12⟩
  | n + 1, st, h, h12 => by
    rw [whR, whR]
    have e1 : (st.wz z x).b = stI st.b z x := rfl
    have e2 : (st.wz z x).f = st.f := rfl
    have e3 : (st.wz z x).c = st.c := rfl
    rw [e1, e2, e3, ev_z h x he]
    split
    · exact Or.inr ⟨rfl, h, h12⟩
    · split
      · exact Or.inr ⟨rfl, h, h12⟩
      · split
        · exact Or.inr ⟨rfl, h, h12⟩
        · have h1 := hb ⟨st.c, st.b, st.f - 1⟩ h h12
          have e4 : (⟨st.c, stI st.b z x, st.f - 1⟩ : St0) = St0.wz ⟨st.c, st.b, st.f - 1⟩ z x := rfl
          rw [e4]
          rcases h1 with h1 | ⟨h1, h2, h3⟩
          · rw [if_neg (show ¬ (body (St0.wz ⟨st.c, st.b, st.f - 1⟩ z x)).c = 0 by rw [h1]; decide)]
            exact Or.inl h1
          · rw [h1]
            have e5 : ((body ⟨st.c, st.b, st.f - 1⟩).wz z x).c = (body ⟨st.c, st.b, st.f - 1⟩).c := rfl
            rw [e5]
            split
            · exact whR_z he hb n _ h2 h3
            · exact Or.inr ⟨rfl, h2, h3⟩
def Sl.off (z : ByteArray) (s : Sl) : Prop := s.all (fun n e => (tx n).toList ≠ z.toList ∧ eFree z e) (fun n => (tx n).toList ≠ z.toList) (eFree z)
mutual
theorem Sm.run_z (gs : List Int) (z : ByteArray) (x : Int) : ∀ (s : Sm) (st : St0), s.all (fun n e => (tx n).toList ≠ z.toList ∧ eFree z e) (fun n => (tx n).toList ≠ z.toList) (eFree z) → Asc st.b → (stI st.b z x).length ≤ 12 → Zed z x (s.run gs st) (s.run gs (st.wz z x))
  | .set n e, st, h, ha, h12 => by
    rw [Sm.all] at h
    rw [Sm.run, Sm.run]
    have e1 : (st.wz z x).b = stI st.b z x := rfl
    rw [e1, ev_z ha x h.2]
    split
    · exact Or.inr ⟨rfl, ha, h12⟩
    · rcases st7_z ha x (evE gs st.b e).1 h.1 h12 with h1 | ⟨h1, h2, h3, h4⟩
      · left
        show (if (st7 (stI st.b z x) (tx n) (evE gs st.b e).1).2 = true then _ else (4 : Int)) = 4
        rw [h1]; rfl
      · right
        rw [h2, h1]
        exact ⟨rfl, h3, h4⟩
  | .cut n, st, h, ha, h12 => by
    rw [Sm.all] at h
    rw [Sm.run, Sm.run]
    have e1 : (st.wz z x).b = stI st.b z x := rfl
    rw [e1, ct_st ha x h]
    refine Or.inr ⟨rfl, asc_ct ha, ?_⟩
    show (stI (ctI st.b (tx n)) z x).length ≤ 12
    rw [← ct_st ha x h]
    have := ctI_len (stI st.b z x) (tx n)
    split at this <;> omega
  | .stop, st, h, ha, h12 => by rw [Sm.run, Sm.run]; exact Or.inr ⟨rfl, ha, h12⟩
  | .ifs e a b, st, h, ha, h12 => by
    rw [Sm.all] at h
    rw [Sm.run, Sm.run]
    have e1 : (st.wz z x).b = stI st.b z x := rfl
    rw [e1, ev_z ha x h.1]
    split
    · exact Or.inr ⟨rfl, ha, h12⟩
    · split
      · exact Sl.run_z gs z x b st h.2.2 ha h12
      · exact Sl.run_z gs z x a st h.2.1 ha h12
  | .whl e a, st, h, ha, h12 => by
    rw [Sm.all] at h
    rw [Sm.run, Sm.run]
    exact whR_z h.1 (fun st ha h12 => Sl.run_z gs z x a st h.2 ha h12) _ st ha h12
theorem Sl.run_z (gs : List Int) (z : ByteArray) (x : Int) : ∀ (s : Sl) (st : St0), s.all (fun n e => (tx n).toList ≠ z.toList ∧ eFree z e) (fun n => (tx n).toList ≠ z.toList) (eFree z) → Asc st.b → (stI st.b z x).length ≤ 12 → Zed z x (s.run gs st) (s.run gs (st.wz z x))
  | .nil, st, h, ha, h12 => by rw [Sl.run, Sl.run]; exact Or.inr ⟨rfl, ha, h12⟩
  | .cons s r, st, h, ha, h12 => by
    rw [Sl.all] at h
    rw [Sl.run, Sl.run]
    rcases Sm.run_z gs z x s st h.1 ha h12 with h1 | ⟨h1, h2, h3⟩
    · rw [if_neg (show ¬ (s.run gs (st.wz z x)).c = 0 by rw [h1]; decide)]
      exact Or.inl h1
    · rw [h1]
      have e1 : ((s.run gs st).wz z x).c = (s.run gs st).c := rfl
      rw [e1]
      split
      · exact Sl.run_z gs z x r _ h.2 h2 h3
      · exact Or.inr ⟨rfl, h2, h3⟩
end
end Go.Proofs.YtfnnoehpahdgcaaGreatDoor.Cl
namespace Go.Proofs.YtfnnoehpahdgcaaGreatDoor.Cl
set_option linter.unusedVariables false
open Go.RowKit Wd Rp Kp
mutual
/-- A statement's text. -/
def Sm.fl : Sm → List Tk
  | .set n e => setT :: n :: e
  | .cut n => [cutT, n]
  | .stop => [stopT]
  | .ifs e a b => ifT :: (e ++ ([91] :: (Sl.fl a ++ ([93] :: [91] :: (Sl.fl b ++ [[93]])))))
  | .whl e a => whT :: (e ++ ([91] :: (Sl.fl a ++ [[93]])))
def Sl.fl : Sl → List Tk
  | .nil => []
  | .cons s r => Sm.fl s ++ Sl.fl r
end
def eK (kind : Int) (e : List Tk) : Prop := ∃ u : Su, u.ok ∧ e = u.fl ∧ u.fo kdF kdG = kind ∧ ¬ 5 < u.fo dpF dpG
mutual
/-- Brackets so deep at most. -/
def Sm.wf : Nat → Sm → Prop
  | _, .set n e => nmB n = true ∧ eK 1 e
  | _, .cut n => nmB n = true
  | _, .stop => True
  | 0, .ifs _ _ _ => False
  | 0, .whl _ _ => False
  | d + 1, .ifs e a b => eK 2 e ∧ Sl.wf d a ∧ Sl.wf d b
  | d + 1, .whl e a => eK 2 e ∧ Sl.wf d a
def Sl.wf : Nat → Sl → Prop
  | _, .nil => True
  | d, .cons s r => Sm.wf d s ∧ Sl.wf d r
end
mutual
/-- What is read of a statement. -/
def Sm.rd : Sm → List Rc
  | .set n e => [(n, e)]
  | .cut n => [(n, [])]
  | .stop => [([], [])]
  | .ifs e a b => ([], e) :: (Sl.rd a ++ Sl.rd b)
  | .whl e a => ([], e) :: Sl.rd a
def Sl.rd : Sl → List Rc
  | .nil => []
  | .cons s r => Sm.rd s ++ Sl.rd r
end
theorem Sm.pos (s : Sm) : 1 ≤ s.fl.length := by cases s <;> simp [Sm.fl]
theorem eK.ok {kind : Int} {e : List Tk} (h : eK kind e) : eOk e := by obtain ⟨u, h1, h2, -⟩ := h; exact ⟨u, h1, h2⟩
mutual
theorem Sm.wf_up : ∀ (s : Sm) {d D : Nat}, d ≤ D → s.wf d → s.wf D
  | .set n e, d, D, h, hw => by rw [Sm.wf] at hw ⊢; exact hw
  | .cut n, d, D, h, hw => by rw [Sm.wf] at hw ⊢; exact hw
  | .stop, d, D, h, hw => by rw [Sm.wf]; trivial
  | .ifs e a b, 0, D, h, hw => by rw [Sm.wf] at hw; exact hw.elim
  | .ifs e a b, d + 1, 0, h, hw => by omega
  | .ifs e a b, d + 1, D + 1, h, hw => by
    rw [Sm.wf] at hw ⊢
    exact ⟨hw.1, Sl.wf_up a (by omega) hw.2.1, Sl.wf_up b (by omega) hw.2.2⟩
  | .whl e a, 0, D, h, hw => by rw [Sm.wf] at hw; exact hw.elim
  | .whl e a, d + 1, 0, h, hw => by omega
  | .whl e a, d + 1, D + 1, h, hw => by
    rw [Sm.wf] at hw ⊢
    exact ⟨hw.1, Sl.wf_up a (by omega) hw.2⟩
theorem Sl.wf_up : ∀ (s : Sl) {d D : Nat}, d ≤ D → s.wf d → s.wf D
  | .nil, d, D, h, hw => by rw [Sl.wf]; trivial
  | .cons s r, d, D, h, hw => by
    rw [Sl.wf] at hw ⊢
    exact ⟨Sm.wf_up s h hw.1, Sl.wf_up r h hw.2⟩
end
mutual
theorem Sm.wf_all : ∀ (s : Sm) {d : Nat}, s.wf d → s.all (fun n e => nmB n = true ∧ eOk e) (fun n => nmB n = true) eOk
  | .set n e, d, hw => by rw [Sm.wf] at hw; rw [Sm.all]; exact ⟨hw.1, hw.2.ok⟩
  | .cut n, d, hw => by rw [Sm.wf] at hw; rw [Sm.all]; exact hw
  | .stop, d, hw => by rw [Sm.all]; trivial
  | .ifs e a b, 0, hw => by rw [Sm.wf] at hw; exact hw.elim
  | .ifs e a b, d + 1, hw => by
    rw [Sm.wf] at hw; rw [Sm.all]
    exact ⟨hw.1.ok, Sl.wf_all a hw.2.1, Sl.wf_all b hw.2.2⟩
  | .whl e a, 0, hw => by rw [Sm.wf] at hw; exact hw.elim
  | .whl e a, d + 1, hw => by
    rw [Sm.wf] at hw; rw [Sm.all]
    exact ⟨hw.1.ok, Sl.wf_all a hw.2⟩
theorem Sl.wf_all : ∀ (s : Sl) {d : Nat}, s.wf d → s.all (fun n e => nmB n = true ∧ eOk e) (fun n => nmB n = true) eOk
  | .nil, d, hw => by rw [Sl.all]; trivial
  | .cons s r, d, hw => by
    rw [Sl.wf] at hw; rw [Sl.all]
    exact ⟨Sm.wf_all s hw.1, Sl.wf_all r hw.2⟩
end
mutual
theorem Sm.all_rd {Q : Rc → Prop} : ∀ s : Sm, (∀ p ∈ s.rd, Q p) → s.all (fun n e => Q (n, e)) (fun n => Q (n, [])) (fun e => Q ([], e))
  | .set n e, h => by rw [Sm.all]; exact h _ (by simp [Sm.rd])
  | .cut n, h => by rw [Sm.all]; exact h _ (by simp [Sm.rd])
  | .stop, h => by rw [Sm.all]; trivial
  | .ifs e a b, h => by
    rw [Sm.rd] at h; rw [Sm.all]
    exact ⟨h _ (by simp), Sl.all_rd a (fun p hp => h p (by simp [hp])), Sl.all_rd b (fun p hp => h p (by simp [hp]))⟩
  | .whl e a, h => by
    rw [Sm.rd] at h; rw [Sm.all]
    exact ⟨h _ (by simp), Sl.all_rd a (fun p hp => h p (by simp [hp]))⟩
theorem Sl.all_rd {Q : Rc → Prop} : ∀ s : Sl, (∀ p ∈ s.rd, Q p) → s.all (fun n e => Q (n, e)) (fun n => Q (n, [])) (fun e => Q ([], e))
  | .nil, h => by rw [Sl.all]; trivial
  | .cons s r, h => by
    rw [Sl.rd] at h; rw [Sl.all]
    exact ⟨Sm.all_rd s (fun p hp => h p (by simp [hp])), Sl.all_rd r (fun p hp => h p (by simp [hp]))⟩
end
mutual
theorem Sm.all_mono {S S' : Tk → List Tk → Prop} {C C' : Tk → Prop} {E E' : List Tk → Prop} (hS : ∀ n e, S n e → S' n e) (hC : ∀ n, C n → C' n) (hE : ∀ e, E e → E' e) : ∀ s : Sm, s.all S C E → s.all S' C' E'
  | .set n e, h => by rw [Sm.all] at h ⊢; exact hS _ _ h
  | .cut n, h => by rw [Sm.all] at h ⊢; exact hC _ h
  | .stop, h => by rw [Sm.all]; trivial
  | .ifs e a b, h => by
    rw [Sm.all] at h ⊢
    exact ⟨hE _ h.1, Sl.all_mono hS hC hE a h.2.1, Sl.all_mono hS hC hE b h.2.2⟩
  | .whl e a, h => by
    rw [Sm.all] at h ⊢
    exact ⟨hE _ h.1, Sl.all_mono hS hC hE a h.2⟩
theorem Sl.all_mono {S S' : Tk → List Tk → Prop} {C C' : Tk → Prop} {E E' : List Tk → Prop} (hS : ∀ n e, S n e → S' n e) (hC : ∀ n, C n → C' n) (hE : ∀ e, E e → E' e) : ∀ s : Sl, s.all S C E → s.all S' C' E'
  | .nil, h => by rw [Sl.all]; trivial
  | .cons s r, h => by
    rw [Sl.all] at h ⊢
    exact ⟨Sm.all_mono hS hC hE s h.1, Sl.all_mono hS hC hE r h.2⟩
end
end Go.Proofs.YtfnnoehpahdgcaaGreatDoor.Cl
