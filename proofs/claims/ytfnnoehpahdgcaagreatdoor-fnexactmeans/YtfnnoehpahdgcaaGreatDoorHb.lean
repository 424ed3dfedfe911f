/-
  The program's run of a statement: contracts of deed for set, cut, stop. (Made by gen_hb.py.)
-/
import Derived.Test.YtfnnoehpahdgcaaGreatDoorZv
import Derived.Test.YtfnnoehpahdgcaaGreatDoorMo
namespace Go.Proofs.YtfnnoehpahdgcaaGreatDoor.Cl
open Go.RowKit Wd Rp Cu Kp
set_option linter.unusedVariables false
/-- A block of texts, kept. -/
theorem B4.kept {q : Nat} {a b c d : Value} {w w' : World} (h : B4 q a b c d w) {p : Nat} (hb : But p w w') (hq : q ≠ p) : B4 q a b c d w' := h.but hb hq
/-- The contract of the program's statement. -/
def DeedX (w0 : World) (p : Nat) (ga : Option Addr) (gc : Nat) (gs : List Int) (q : Nat) (s : Sm) : Prop := ∀ (D : Nat) (d : Dv) (st : St0) (w : World), st.c = 0 → p < q → Xm w0 p ga gc gs st w → T.DdM w0 (q ≤ ·) w (T.DM w0 (q ≤ ·) w D) d s →
  Calls Tryz.prog 97 #[.pointer (some ⟨p, 0, none⟩), d.v] w (RunX w0 p ga gc gs (s.run gs st) w)
set_option maxHeartbeats 8000000 in
set_option maxRecDepth 100000 in
theorem deedX_stop (w0 : World) (p : Nat) (ga : Option Addr) (gc : Nat) (gs : List Int) (q : Nat) : DeedX w0 p ga gc gs q .stop := by
  intro D d st w hc hpq hX hD
  obtain ⟨h, n, sa, sn, sc, ba, bn, bc⟩ := d
  obtain rfl : h = stopT := hD
  have H1 := Lib.hid (bel1 w (.cells #[.string (tx stopT), .string (tx n), .slice sa sn sc, .slice ba bn bc] 115))
  have hE : Sm.run gs .stop st = ⟨1, st.b, st.f⟩ := by rw [Sm.run]
  rw [hE]; clear hE hX
  unfold Dv.v
  have qe : ((tx stopT).toList == [115, 116, 111, 112]) = true := tx_eqL _
  have q0 : ((tx stopT).toList == [115, 101, 116]) = false := by rw [Lib.toList_data, tx_data]; decide
  have q1 : ((tx stopT).toList == [99, 117, 116]) = false := by rw [Lib.toList_data, tx_data]; decide
  go_enter Tryz.func97, Tryz.ntmps97
  go_wp2_with fail
  exact ⟨rfl, But.of H1.out, (fun e => absurd (show (1 : Int) = 0 from e) (by decide)), fun _ => rfl⟩
set_option maxHeartbeats 8000000 in
set_option maxRecDepth 100000 in
theorem deedX_cut (w0 : World) (p : Nat) (ga : Option Addr) (gc : Nat) (gs : List Int) (q : Nat) (m : Tk) : DeedX w0 p ga gc gs q (.cut m) := by
  intro D d st w hc hpq hX hD
  obtain ⟨h, n, sa, sn, sc, ba, bn, bc⟩ := d
  obtain ⟨e1, e2⟩ := hD
  obtain rfl : h = cutT := e1
  obtain rfl : n = m := e2
  have hbl := bel1 w (.cells #[.string (tx cutT), .string (tx n), .slice sa sn sc, .slice ba bn bc] 115)
  have H1 := Lib.hid hbl
  have BU0 := Lib.hid (But.of hbl : But p w _)
  have X1 := Lib.hid (hX.next hbl)
  have Q1 := Lib.hid (B4.of (new_of w (.cells #[.string (tx cutT), .string (tx n), .slice sa sn sc, .slice ba bn bc] 115)))
  have hrp : w.heap.size ≠ p := by have := hX.hp; omega
  clear hbl
  have hE : Sm.run gs (.cut n) st = ⟨st.c, ctI st.b (tx n), st.f⟩ := by rw [Sm.run]
  rw [hE]; clear hE hX
  unfold Dv.v
  have qe : ((tx cutT).toList == [99, 117, 116]) = true := tx_eqL _
  have q0 : ((tx cutT).toList == [115, 101, 116]) = false := by rw [Lib.toList_data, tx_data]; decide
  have d0 := Q1.out.c0; have d1 := Q1.out.c1; have d2 := Q1.out.c2; have d3 := Q1.out.c3
  go_enter Tryz.func97, Tryz.ntmps97
  go_wp2_with fail
  generalize w.heap.size = r at *
  generalize w.alloc (.cells #[.string (tx cutT), .string (tx n), .slice sa sn sc, .slice ba bn bc] 115) = w1 at *
  have X2 := Lib.hid (X1.out.next (Below.refl _ _).drew)
  obtain ⟨xa, xn, xc, x0, hxn, hxv⟩ := X2.out.b
  have HL := Lib.hid (implCut_any w1.drew xa xc st.b xn (tx n) hxn hxv.1 (by have := X2.out.len; omega))
  rw [cbP_yes X2.out.ok] at HL
  clear hxv d0 d2 d3
  refine wp_region_held_drew (S := fun z => z.cell? ⟨r, 1, none⟩ = some (.string (tx n))) (by kernel_rfl) d1 (fun hHeld => ?_)
  refine wpAnyH_take (i := 0) (v := ?v0c) rfl (by kernel_rfl) (by kernel_rfl) (by kernel_rfl) (fun _ _ _ h => h) (Or.inl ⟨by rfl, ?hy0c⟩) (by assumption) ?rest0c
  case hy0c => (intro zz hSw; (try dsimp only at hSw); go_simp; (try with_reducible rfl))
  change wpAnyH _ _ _ _ _ _ _ (Act.put _ (some 18) _) _
  simp only [Act.put, List.setIfInBounds_toArray, List.set_cons_zero, List.set_cons_succ]
  refine wpAnyH_take (i := 1) (v := ?v1c) rfl (by kernel_rfl) (by kernel_rfl) (by kernel_rfl) (fun _ _ _ h => h) (Or.inl ⟨by rfl, ?hy1c⟩) (by assumption) ?rest1c
  case hy1c => (intro zz hSw; (try dsimp only at hSw); go_simp; (try with_reducible rfl))
  change wpAnyH _ _ _ _ _ _ _ (Act.put _ (some 19) _) _
  simp only [Act.put, List.setIfInBounds_toArray, List.set_cons_zero, List.set_cons_succ]
  refine wpAnyH_take (i := 2) (v := ?v2c) rfl (by kernel_rfl) (by kernel_rfl) (by kernel_rfl) (fun _ _ _ h => h) (Or.inl ⟨by rfl, ?hy2c⟩) (by assumption) ?rest2c
  case hy2c => (intro zz hSw; (try dsimp only at hSw); go_simp; (try with_reducible rfl))
  change wpAnyH _ _ _ _ _ _ _ (Act.put _ (some 20) _) _
  simp only [Act.put, List.setIfInBounds_toArray, List.set_cons_zero, List.set_cons_succ]
  refine wpAnyH_take (i := 3) (v := ?v3c) rfl (by kernel_rfl) (by kernel_rfl) (by kernel_rfl) (fun _ _ _ h => h) (Or.inl ⟨by rfl, ?hy3c⟩) (by assumption) ?rest3c
  case hy3c => (intro zz hSw; (try dsimp only at hSw); go_simp; (try with_reducible rfl))
  change wpAnyH _ _ _ _ _ _ _ (Act.put _ (some 21) _) _
  simp only [Act.put, List.setIfInBounds_toArray, List.set_cons_zero, List.set_cons_succ]
  refine wpAnyH_take (i := 5) (v := ?v5c) rfl (by kernel_rfl) (by kernel_rfl) (by kernel_rfl) (fun _ _ _ h => h) (Or.inl ⟨by rfl, ?hy5c⟩) (by assumption) ?rest5c
  case hy5c => (intro zz hSw; (try dsimp only at hSw); go_simp; (try with_reducible rfl))
  change wpAnyH _ _ _ _ _ _ _ (Act.put _ (some 23) _) _
  simp only [Act.put, List.setIfInBounds_toArray, List.set_cons_zero, List.set_cons_succ]
  refine wpAnyH_take (i := 6) (v := ?v6c) rfl (by kernel_rfl) (by kernel_rfl) (by kernel_rfl) (fun _ _ _ h => h) (Or.inl ⟨by rfl, ?hy6c⟩) (by assumption) ?rest6c
  case hy6c => (intro zz hSw; (try dsimp only at hSw); go_simp; (try with_reducible rfl))
  change wpAnyH _ _ _ _ _ _ _ (Act.put _ (some 24) _) _
  simp only [Act.put, List.setIfInBounds_toArray, List.set_cons_zero, List.set_cons_succ]
  refine wpAnyH_ready (rs := [4]) (by kernel_rfl) (by simp) (AllReadyH.cons rfl (fun K hK => ?_) (AllReadyH.nil))
  go_simp
  refine hK.out _ _ hHeld (fun hHeld => ?_)
  clear hK K
  refine wpAnyH_ready (rs := [7]) (by kernel_rfl) (by simp) (AllReadyH.cons rfl (fun K hK => ?_) (AllReadyH.nil))
  go_simp
  refine HL.out.mono ?_; rintro e w3 ⟨v3, rfl, o3, b3⟩
  obtain ⟨va3, vc3, rfl, -⟩ := o3.view
  have X3 := Lib.hid (X2.out.next b3)
  have f3 := X3.out.fz.1
  obtain ⟨ya, yn, yc, y0, -, -⟩ := X3.out.b
  have XB := Lib.hid (X2.out.putB b3 rfl o3 (ctI_ok X2.out.ok))
  have BU := Lib.hid (((But.refl p w1).drew.trans (But.of b3)).trans (but_set w3 p 0 (.slice va3 (ctI st.b (tx n)).length vc3)))
  have r3 := (World.cell?_of_block (w := w1.drew) (a := ⟨r, 1, none⟩) (b3.block r Q1.out.lt)).trans hHeld
  refine hK.out _ _ r3 (fun hHeld => ?_)
  clear hK K o3 b3
  refine wpAnyH_take (i := 8) (v := ?v8c) rfl (by kernel_rfl) (by kernel_rfl) (by kernel_rfl) (fun _ _ _ h => h) (Or.inl ⟨by rfl, ?hy8c⟩) (by assumption) ?rest8c
  case hy8c => (intro zz hSw; (try dsimp only at hSw); go_simp; (try with_reducible rfl))
  change wpAnyH _ _ _ _ _ _ _ (Act.put _ (some 26) _) _
  simp only [Act.put, List.setIfInBounds_toArray, List.set_cons_zero, List.set_cons_succ]
  refine wpAnyH_take (i := 9) (v := ?v9c) rfl (by kernel_rfl) (by kernel_rfl) (by kernel_rfl) (fun _ _ _ h => h) (Or.inl ⟨by rfl, ?hy9c⟩) (by assumption) ?rest9c
  case hy9c => (intro zz hSw; (try dsimp only at hSw); go_simp; (try with_reducible rfl))
  change wpAnyH _ _ _ _ _ _ _ (Act.put _ (some 27) _) _
  simp only [Act.put, List.setIfInBounds_toArray, List.set_cons_zero, List.set_cons_succ]
  refine wpAnyH_ready (rs := [10]) (by kernel_rfl) (by simp) (AllReadyH.cons rfl (fun K hK => ?_) (AllReadyH.nil))
  go_simp
  refine hK.out _ _ ((World.cell?_setCell_other _ _ _ _ (fun e => hrp (congrArg Addr.block e).symm)).trans r3) (fun hHeld => ?_)
  clear hK K
  refine wpAnyH_done (by kernel_rfl) ?_ _
  clear hHeld
  exact bodyPost_end (v := .tuple #[]) (by simp [results, Tryz.results97, go_sem]) rfl ⟨(BU0.out).trans BU.out, fun _ => ⟨rfl, XB.out⟩, fun e => absurd hc e⟩
set_option maxHeartbeats 8000000 in
set_option maxRecDepth 100000 in
theorem deedX_set (w0 : World) (p : Nat) (ga : Option Addr) (gc : Nat) (gs : List Int) (q : Nat) (m : Tk) (ex : List Tk) (hw : Sm.wf 5 (.set m ex)) (hbd : Bd ex) : DeedX w0 p ga gc gs q (.set m ex) := by
  intro D d st w hc hpq hX hD
  obtain ⟨h, n, sa, sn, sc, ba, bn, bc⟩ := d
  obtain ⟨e1, e2, e3, e4⟩ := hD
  obtain rfl : h = setT := e1
  obtain rfl : n = m := e2
  rw [Sm.wf] at hw
  have hbl := bel1 w (.cells #[.string (tx setT), .string (tx n), .slice sa sn sc, .slice ba bn bc] 115)
  have H1 := Lib.hid hbl
  have BU0 := Lib.hid (But.of hbl : But p w _)
  have X1 := Lib.hid (hX.next hbl)
  have Q1 := Lib.hid (B4.of (new_of w (.cells #[.string (tx setT), .string (tx n), .slice sa sn sc, .slice ba bn bc] 115)))
  have hrp : w.heap.size ≠ p := by have := hX.hp; omega
  clear hbl
  have VAL := Lib.hid (fun z (hz : Xm w0 p ga gc gs st z) => value_any hz sa sc ex sn e3.symm e4 hbd (kind := 1) (by decide) hw.2)
  have EW := Lib.hid (evE_w hX.ok hX.th hw.2.ok)
  have SET := Lib.hid (fun z (hz : Xm w0 p ga gc gs st z) v hv => set_any hz n v hw.1 hv hc)
  have hE : Sm.run gs (.set n ex) st = (if (evE gs st.b ex).2 = false then ⟨2, st.b, st.f⟩ else ⟨(if (st7 st.b (tx n) (evE gs st.b ex).1).2 then st.c else 4), (st7 st.b (tx n) (evE gs st.b ex).1).1, st.f⟩) := by rw [Sm.run]
  rw [hE]; clear hE hX e3 e4 hw hbd
  generalize evE gs st.b ex = xx at *
  obtain ⟨x, is⟩ := xx
  generalize hfin : (if (x, is).2 = false then (⟨2, st.b, st.f⟩ : St0) else ⟨(if (st7 st.b (tx n) (x, is).1).2 then st.c else 4), (st7 st.b (tx n) (x, is).1).1, st.f⟩) = fin
  have HFIN := Lib.hid hfin; clear hfin
  unfold Dv.v
  have qe : ((tx setT).toList == [115, 101, 116]) = true := tx_eqL _
  have d0 := Q1.out.c0; have d1 := Q1.out.c1; have d2 := Q1.out.c2; have d3 := Q1.out.c3
  go_enter Tryz.func97, Tryz.ntmps97
  go_wp2_with fail
  have hrl : w.heap.size < (w.alloc (.cells #[.string (tx setT), .string (tx n), .slice sa sn sc, .slice ba bn bc] 115)).heap.size := Q1.out.lt
  generalize w.heap.size = r at *
  generalize w.alloc (.cells #[.string (tx setT), .string (tx n), .slice sa sn sc, .slice ba bn bc] 115) = w1 at *
  have X2 := Lib.hid (X1.out.next (Below.refl _ _).drew)
  have HV := Lib.hid (VAL.out w1.drew X2.out)
  clear d0 d3 VAL
  cases is
  · have HX := Lib.hid (show (⟨2, st.b, st.f⟩ : St0) = fin from HFIN.out)
    clear HFIN
    refine wp_region_held_drew (S := fun z => z.cell? ⟨r, 1, none⟩ = some (.string (tx n)) ∧ z.cell? ⟨r, 2, none⟩ = some (.slice sa sn sc)) (by kernel_rfl) ⟨d1, d2⟩ (fun hHeld => ?_)
    refine wpAnyH_take (i := 0) (v := ?v0s) rfl (by kernel_rfl) (by kernel_rfl) (by kernel_rfl) (fun _ _ _ h => h) (Or.inl ⟨by rfl, ?hy0s⟩) (by assumption) ?rest0s
    case hy0s => (intro zz hSw; (try dsimp only at hSw); go_simp; (try with_reducible rfl))
    change wpAnyH _ _ _ _ _ _ _ (Act.put _ (some 8) _) _
    simp only [Act.put, List.setIfInBounds_toArray, List.set_cons_zero, List.set_cons_succ]
    refine wpAnyH_take (i := 1) (v := ?v1s) rfl (by kernel_rfl) (by kernel_rfl) (by kernel_rfl) (fun _ _ _ h => h) (Or.inl ⟨by rfl, ?hy1s⟩) (by assumption) ?rest1s
    case hy1s => (intro zz hSw; (try dsimp only at hSw); go_simp; (try with_reducible rfl))
    change wpAnyH _ _ _ _ _ _ _ (Act.put _ (some 9) _) _
    simp only [Act.put, List.setIfInBounds_toArray, List.set_cons_zero, List.set_cons_succ]
    refine wpAnyH_take (i := 2) (v := ?v2s) rfl (by kernel_rfl) (by kernel_rfl) (by kernel_rfl) (fun _ _ _ h => h) (Or.inl ⟨by rfl, ?hy2s⟩) (by assumption) ?rest2s
    case hy2s => (intro zz hSw; (try dsimp only at hSw); go_simp; (try with_reducible rfl))
    change wpAnyH _ _ _ _ _ _ _ (Act.put _ (some 10) _) _
    simp only [Act.put, List.setIfInBounds_toArray, List.set_cons_zero, List.set_cons_succ]
    refine wpAnyH_take (i := 3) (v := ?v3s) rfl (by kernel_rfl) (by kernel_rfl) (by kernel_rfl) (fun _ _ _ h => h) (Or.inl ⟨by rfl, ?hy3s⟩) (by assumption) ?rest3s
    case hy3s => (intro zz hSw; (try dsimp only at hSw); go_simp; (try with_reducible rfl))
    change wpAnyH _ _ _ _ _ _ _ (Act.put _ (some 11) _) _
    simp only [Act.put, List.setIfInBounds_toArray, List.set_cons_zero, List.set_cons_succ]
    refine wpAnyH_take (i := 4) (v := ?v4s) rfl (by kernel_rfl) (by kernel_rfl) (by kernel_rfl) (fun _ _ _ h => h) (Or.inl ⟨by rfl, ?hy4s⟩) (by assumption) ?rest4s
    case hy4s => (intro zz hSw; (try dsimp only at hSw); go_simp; (try with_reducible rfl))
    change wpAnyH _ _ _ _ _ _ _ (Act.put _ (some 12) _) _
    simp only [Act.put, List.setIfInBounds_toArray, List.set_cons_zero, List.set_cons_succ]
    refine wpAnyH_take (i := 5) (v := ?v5s) rfl (by kernel_rfl) (by kernel_rfl) (by kernel_rfl) (fun _ _ _ h => h) (Or.inl ⟨by rfl, ?hy5s⟩) (by assumption) ?rest5s
    case hy5s => (intro zz hSw; (try dsimp only at hSw); go_simp; (try with_reducible rfl))
    change wpAnyH _ _ _ _ _ _ _ (Act.put _ (some 13) _) _
    simp only [Act.put, List.setIfInBounds_toArray, List.set_cons_zero, List.set_cons_succ]
    refine wpAnyH_ready (rs := [6]) (by kernel_rfl) (by simp) (AllReadyH.cons rfl (fun K hK => ?_) (AllReadyH.nil))
    go_simp
    refine HV.out.mono ?_; rintro e w3 ⟨b3, -, e3⟩
    obtain rfl := e3 rfl
    exact ⟨rfl, (BU0.out).trans ((But.refl p w1).drew.trans (But.of b3)), (fun e => absurd (show (2 : Int) = 0 from by rw [← HX.out] at e; exact e) (by decide)), (fun _ => by rw [← HX.out])⟩
  · have HX := Lib.hid (show (⟨(if (st7 st.b (tx n) x).2 then st.c else 4), (st7 st.b (tx n) x).1, st.f⟩ : St0) = fin from HFIN.out)
    have EW2 : isW x = true := EW.out
    clear HFIN
    refine wp_region_held_drew (S := fun z => z.cell? ⟨r, 1, none⟩ = some (.string (tx n)) ∧ z.cell? ⟨r, 2, none⟩ = some (.slice sa sn sc)) (by kernel_rfl) ⟨d1, d2⟩ (fun hHeld => ?_)
    refine wpAnyH_take (i := 0) (v := ?v0t) rfl (by kernel_rfl) (by kernel_rfl) (by kernel_rfl) (fun _ _ _ h => h) (Or.inl ⟨by rfl, ?hy0t⟩) (by assumption) ?rest0t
    case hy0t => (intro zz hSw; (try dsimp only at hSw); go_simp; (try with_reducible rfl))
    change wpAnyH _ _ _ _ _ _ _ (Act.put _ (some 8) _) _
    simp only [Act.put, List.setIfInBounds_toArray, List.set_cons_zero, List.set_cons_succ]
    refine wpAnyH_take (i := 1) (v := ?v1t) rfl (by kernel_rfl) (by kernel_rfl) (by kernel_rfl) (fun _ _ _ h => h) (Or.inl ⟨by rfl, ?hy1t⟩) (by assumption) ?rest1t
    case hy1t => (intro zz hSw; (try dsimp only at hSw); go_simp; (try with_reducible rfl))
    change wpAnyH _ _ _ _ _ _ _ (Act.put _ (some 9) _) _
    simp only [Act.put, List.setIfInBounds_toArray, List.set_cons_zero, List.set_cons_succ]
    refine wpAnyH_take (i := 2) (v := ?v2t) rfl (by kernel_rfl) (by kernel_rfl) (by kernel_rfl) (fun _ _ _ h => h) (Or.inl ⟨by rfl, ?hy2t⟩) (by assumption) ?rest2t
    case hy2t => (intro zz hSw; (try dsimp only at hSw); go_simp; (try with_reducible rfl))
    change wpAnyH _ _ _ _ _ _ _ (Act.put _ (some 10) _) _
    simp only [Act.put, List.setIfInBounds_toArray, List.set_cons_zero, List.set_cons_succ]
    refine wpAnyH_take (i := 3) (v := ?v3t) rfl (by kernel_rfl) (by kernel_rfl) (by kernel_rfl) (fun _ _ _ h => h) (Or.inl ⟨by rfl, ?hy3t⟩) (by assumption) ?rest3t
    case hy3t => (intro zz hSw; (try dsimp only at hSw); go_simp; (try with_reducible rfl))
    change wpAnyH _ _ _ _ _ _ _ (Act.put _ (some 11) _) _
    simp only [Act.put, List.setIfInBounds_toArray, List.set_cons_zero, List.set_cons_succ]
    refine wpAnyH_take (i := 4) (v := ?v4t) rfl (by kernel_rfl) (by kernel_rfl) (by kernel_rfl) (fun _ _ _ h => h) (Or.inl ⟨by rfl, ?hy4t⟩) (by assumption) ?rest4t
    case hy4t => (intro zz hSw; (try dsimp only at hSw); go_simp; (try with_reducible rfl))
    change wpAnyH _ _ _ _ _ _ _ (Act.put _ (some 12) _) _
    simp only [Act.put, List.setIfInBounds_toArray, List.set_cons_zero, List.set_cons_succ]
    refine wpAnyH_take (i := 5) (v := ?v5t) rfl (by kernel_rfl) (by kernel_rfl) (by kernel_rfl) (fun _ _ _ h => h) (Or.inl ⟨by rfl, ?hy5t⟩) (by assumption) ?rest5t
    case hy5t => (intro zz hSw; (try dsimp only at hSw); go_simp; (try with_reducible rfl))
    change wpAnyH _ _ _ _ _ _ _ (Act.put _ (some 13) _) _
    simp only [Act.put, List.setIfInBounds_toArray, List.set_cons_zero, List.set_cons_succ]
    refine wpAnyH_ready (rs := [6]) (by kernel_rfl) (by simp) (AllReadyH.cons rfl (fun K hK => ?_) (AllReadyH.nil))
    go_simp
    refine HV.out.mono ?_; rintro e w3 ⟨b3, e3, -⟩
    obtain rfl := e3 rfl
    have X3 := Lib.hid (X2.out.next b3)
    have B3 := Lib.hid ((But.refl p w1).drew.trans (But.of b3) : But p w1 w3)
    have r3 := (World.cell?_of_block (w := w1.drew) (a := ⟨r, 1, none⟩) (b3.block r Q1.out.lt)).trans hHeld.1
    have r4 := (World.cell?_of_block (w := w1.drew) (a := ⟨r, 2, none⟩) (b3.block r Q1.out.lt)).trans hHeld.2
    have l3 : r < w3.heap.size := Nat.lt_of_lt_of_le hrl b3.size
    refine hK.out _ _ ⟨r3, r4⟩ (fun hHeld => ?_)
    clear hK K b3
    refine wpAnyH_ready (rs := [7]) (by kernel_rfl) (by simp) (AllReadyH.cons rfl (fun K hK => ?_) (AllReadyH.nil))
    go_simp
    refine (SET.out _ X3.out x EW2).mono ?_; rintro e w4 ⟨b4, h4, k4⟩
    rw [HX.out] at h4 k4
    by_cases hz : fin.c = 0
    · obtain ⟨rfl, x4⟩ := h4 hz
      have XR := Lib.hid x4
      have ZC := Lib.hid hz
      have BU := Lib.hid (B3.out.trans b4)
      refine hK.out _ _ ⟨(b4.cell (p := ⟨r, 1, none⟩) l3 hrp).trans r3, (b4.cell (p := ⟨r, 2, none⟩) l3 hrp).trans r4⟩ (fun hHeld => ?_)
      clear hK K b4 h4 k4 x4
      refine wpAnyH_done (by kernel_rfl) ?_ _
      clear hHeld
      exact bodyPost_end (v := .tuple #[]) (by simp [results, Tryz.results97, go_sem]) rfl ⟨(BU0.out).trans BU.out, (fun hz => ⟨rfl, XR.out⟩), fun e => absurd ZC.out e⟩
    · obtain rfl := k4 hz
      exact ⟨rfl, (BU0.out).trans (B3.out.trans b4), (fun e => absurd e hz), fun _ => rfl⟩
end Go.Proofs.YtfnnoehpahdgcaaGreatDoor.Cl
