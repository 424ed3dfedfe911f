/-
  The specification's run of a statement: contract of spec.l10Deed for set ('deed_set'). (Made by gen_mr.py.)
-/
import Derived.Test.YtfnnoehpahdgcaaGreatDoorMf
namespace Go.Proofs.YtfnnoehpahdgcaaGreatDoor.Cl
open Go.RowKit Wd Rp Kp
set_option linter.unusedVariables false
set_option maxHeartbeats 8000000 in
set_option maxRecDepth 100000 in
theorem deed_set (w0 : World) (p : Nat) (a : Option Addr) (cap : Nat) (l : List Tk) (n : Nat) (ga : Option Addr) (gc : Nat) (gs : List Int) (C : Rcx w0 a n cap l ga gc gs) (m : Tk) (ex : List Tk) (hw : Sm.wf 5 (.set m ex)) : DeedR w0 p a n cap l ga gc gs (.set m ex) := by
  intro k r st w hd hc hR
  have hd0 : l.drop k = setT :: (m :: (ex ++ r)) := by rw [hd]; rfl
  obtain ⟨hk1, hk2, hd1⟩ := drop_head hd0
  obtain ⟨hk3, hk4, hd2⟩ := drop_head hd1
  have hkn : k + 1 < n := by have := C.hn; omega
  have HB := Lib.hid (deedS_all a cap l n C.hn C.hl C.hm 5 (by decide) w (k : Int) ⟨by omega, by have := C.hl; omega⟩ (C.hv.below hR.bw))
  rw [(Sm.det l (.set m ex) 5 k r hw hd).1] at HB
  have he : eOk ex := by rw [Sm.wf] at hw; exact hw.2.ok
  have HSUM := Lib.hid (fun w h => l10Sum_any w0 p a cap l n C.hn C.hl C.hm C.hv ga gc gs C.hg C.hg3 he (k + 1 + 1) r hd2 st w h)
  have hE : Sm.run gs (.set m ex) st = (if (evE gs st.b ex).2 = false then ⟨2, st.b, st.f⟩ else ⟨(if (st7 st.b (tx m) (evE gs st.b ex).1).2 then st.c else 4), (st7 st.b (tx m) (evE gs st.b ex).1).1, st.f⟩) := by rw [Sm.run]
  rw [hE]; clear hE
  rw [show ((k + 1 + 1 : Nat) : Int) = (k : Int) + 2 by omega] at HSUM
  generalize ((k + (Sm.fl (.set m ex)).length : Nat) : Int) = y at *
  generalize ((k + 1 + 1 + ex.length : Nat) : Int) = y2 at *
  generalize evE gs st.b ex = xx at *
  obtain ⟨x, is⟩ := xx
  generalize hfin : (if (x, is).2 = false then (⟨2, st.b, st.f⟩ : St0) else ⟨(if (st7 st.b (tx m) (x, is).1).2 then st.c else 4), (st7 st.b (tx m) (x, is).1).1, st.f⟩) = fin
  have HFIN := Lib.hid hfin; clear hfin
  have HR := Lib.hid hR; clear hR
  have HV := Lib.hid (C.hv.below HR.out.bw)
  have hl4 := C.hl
  clear hd hd0 hd1 hd2 he hw
  go_enter Tryz.func83, Tryz.ntmps83
  go_wp2_with fail
  refine HB.out.mono ?_; rintro e w1 ⟨rfl, b1⟩
  have HR1 := Lib.hid (HR.out.next b1)
  have HV1 := Lib.hid (HV.out.below b1); clear b1
  obtain ⟨g', o', rfl, hg, c0⟩ := HV1.out.tx hk1
  replace c0 : w1.cell? ⟨g', o' + k, none⟩ = some (.string ⟨#[115, 101, 116]⟩) := c0
  have TOK := Lib.hid (show ∀ z, Below w0.heap.size w0 z → z.cell? ⟨g', o' + (k + 1), none⟩ = some (.string (tx m)) from fun z hz => by
    obtain ⟨g4, o4, e4, -, c4⟩ := (C.hv.below hz).tx hk3
    cases e4; exact c4)
  have i1 : (k : Int) + 1 ≤ 9223372036854775807 := by omega
  have i2 : (k : Int) + 2 ≤ 9223372036854775807 := by omega
  have i7 : IntKind.i64.wrap ((k : Int) + 1) = ((k + 1 : Nat) : Int) := by rw [IntKind.wrap_i64]; omega
  have i8 : (0 : Int) ≤ (k : Int) + 1 := by omega
  have i9 : (k : Int) + 1 < (n : Int) := by omega
  have HS1 := Lib.hid (HSUM.out w1 HR1.out)
  clear hk1 hk3 hg
  cases is
  · have HX := Lib.hid (show (⟨2, st.b, st.f⟩ : St0) = fin from HFIN.out)
    go_wp2_with fail
    refine HS1.out.mono ?_; rintro e w2 ⟨rfl, hR2⟩
    have HR2 := Lib.hid (show Rn w0 p ⟨2, st.b, st.f⟩ w2 from hR2); clear hR2
    have c2 : w2.cell? ⟨p, 0, none⟩ = some (.int .i64 2) := HR2.out.c
    go_wp2_with fail
    go_ret
    exact ⟨rfl, by rw [← HX.out]; exact HR2.out⟩
  · have HX := Lib.hid (show (⟨(if (st7 st.b (tx m) x).2 then st.c else 4), (st7 st.b (tx m) x).1, st.f⟩ : St0) = fin from HFIN.out)
    clear HFIN
    have HLEN := Lib.hid (st7_len (n := tx m) (x := x) HR.out.bl)
    generalize hq : st7 st.b (tx m) x = q at *
    obtain ⟨l7, fg⟩ := q
    go_wp2_with fail
    refine HS1.out.mono ?_; rintro e w2 ⟨rfl, hR2⟩
    have HR2 := Lib.hid (show Rn w0 p st w2 from hR2)
    have c2 : w2.cell? ⟨p, 0, none⟩ = some (.int .i64 0) := by rw [← hc]; exact HR2.out.c
    obtain ⟨v, cv, hO, hne⟩ := HR2.out.b
    clear hR2
    have HR3 := Lib.hid (HR2.out.next (Below.refl _ _).drew)
    have O2 := Lib.hid (hO.next (Below.refl _ _).drew)
    have HL := Lib.hid (l7Set_own w2.drew v st.b (tx m) x O2.out HR3.out.bw.size (by have := HR3.out.bl; omega))
    rw [hq] at HL
    have NE := Lib.hid hne
    have CV := Lib.hid (show w2.drew.cell? ⟨p, 1, none⟩ = some v from cv)
    clear hO hne hq
    go_wp2_with fail
    refine wp_region_held_drew (S := fun z => z.cell? ⟨g', o' + (k + 1), none⟩ = some (.string (tx m)) ∧ Below w0.heap.size w0 z) (by kernel_rfl) ⟨TOK.out _ HR3.out.bw, HR3.out.bw⟩ (fun hHeld => ?_)
    refine wpAnyH_take (i := 0) (v := ?v0s) rfl (by kernel_rfl) (by kernel_rfl) (by kernel_rfl) (fun _ _ _ h => h) (Or.inl ⟨by rfl, ?hy0s⟩) (by assumption) ?rest0s
    case hy0s => (intro zz hSw; (try dsimp only at hSw); go_simp; (try with_reducible rfl))
    change wpAnyH _ _ _ _ _ _ _ (Act.put _ (some 42) _) _
    simp only [Act.put, List.setIfInBounds_toArray, List.set_cons_zero, List.set_cons_succ]
    refine wpAnyH_take (i := 1) (v := ?v1s) rfl (by kernel_rfl) (by kernel_rfl) (by kernel_rfl) (fun _ _ _ h => h) (Or.inl ⟨by rfl, ?hy1s⟩) (by assumption) ?rest1s
    case hy1s => (intro zz hSw; (try dsimp only at hSw); go_simp; (try with_reducible rfl))
    change wpAnyH _ _ _ _ _ _ _ (Act.put _ (some 43) _) _
    simp only [Act.put, List.setIfInBounds_toArray, List.set_cons_zero, List.set_cons_succ]
    refine wpAnyH_take (i := 2) (v := ?v2s) rfl (by kernel_rfl) (by kernel_rfl) (by kernel_rfl) (fun _ _ _ h => h) (Or.inl ⟨by rfl, ?hy2s⟩) (by assumption) ?rest2s
    case hy2s => (intro zz hSw; (try dsimp only at hSw); go_simp; (try with_reducible rfl))
    change wpAnyH _ _ _ _ _ _ _ (Act.put _ (some 44) _) _
    simp only [Act.put, List.setIfInBounds_toArray, List.set_cons_zero, List.set_cons_succ]
    refine wpAnyH_take (i := 4) (v := ?v4s) rfl (by kernel_rfl) (by kernel_rfl) (by kernel_rfl) (fun _ _ _ h => h) (Or.inl ⟨by rfl, ?hy4s⟩) (by assumption) ?rest4s
    case hy4s => (intro zz hSw; (try dsimp only at hSw); go_simp; (try with_reducible rfl))
    change wpAnyH _ _ _ _ _ _ _ (Act.put _ (some 46) _) _
    simp only [Act.put, List.setIfInBounds_toArray, List.set_cons_zero, List.set_cons_succ]
    refine wpAnyH_take (i := 5) (v := ?v5s) rfl (by kernel_rfl) (by kernel_rfl) (by kernel_rfl) (fun _ _ _ h => h) (Or.inl ⟨by rfl, ?hy5s⟩) (by assumption) ?rest5s
    case hy5s => (intro zz hSw; (try dsimp only at hSw); go_simp; (try with_reducible rfl))
    change wpAnyH _ _ _ _ _ _ _ (Act.put _ (some 47) _) _
    simp only [Act.put, List.setIfInBounds_toArray, List.set_cons_zero, List.set_cons_succ]
    refine wpAnyH_take (i := 6) (v := ?v6s) rfl (by kernel_rfl) (by kernel_rfl) (by kernel_rfl) (fun _ _ _ h => h) (Or.inl ⟨by rfl, ?hy6s⟩) (by assumption) ?rest6s
    case hy6s => (intro zz hSw; (try dsimp only at hSw); go_simp; (try with_reducible rfl))
    change wpAnyH _ _ _ _ _ _ _ (Act.put _ (some 48) _) _
    simp only [Act.put, List.setIfInBounds_toArray, List.set_cons_zero, List.set_cons_succ]
    refine wpAnyH_take (i := 7) (v := ?v7s) rfl (by kernel_rfl) (by kernel_rfl) (by kernel_rfl) (fun _ _ _ h => h) (Or.inl ⟨by rfl, ?hy7s⟩) (by assumption) ?rest7s
    case hy7s => (intro zz hSw; (try dsimp only at hSw); go_simp; (try with_reducible rfl))
    change wpAnyH _ _ _ _ _ _ _ (Act.put _ (some 49) _) _
    simp only [Act.put, List.setIfInBounds_toArray, List.set_cons_zero, List.set_cons_succ]
    refine wpAnyH_take (i := 8) (v := ?v8s) rfl (by kernel_rfl) (by kernel_rfl) (by kernel_rfl) (fun _ _ _ h => h) (Or.inl ⟨by rfl, ?hy8s⟩) (by assumption) ?rest8s
    case hy8s => (intro zz hSw; (try dsimp only at hSw); go_simp; (try with_reducible rfl))
    change wpAnyH _ _ _ _ _ _ _ (Act.put _ (some 50) _) _
    simp only [Act.put, List.setIfInBounds_toArray, List.set_cons_zero, List.set_cons_succ]
    refine wpAnyH_take (i := 9) (v := ?v9s) rfl (by kernel_rfl) (by kernel_rfl) (by kernel_rfl) (fun _ _ _ h => h) (Or.inl ⟨by rfl, ?hy9s⟩) (by assumption) ?rest9s
    case hy9s => (intro zz hSw; (try dsimp only at hSw); go_simp; (try with_reducible rfl))
    change wpAnyH _ _ _ _ _ _ _ (Act.put _ (some 51) _) _
    simp only [Act.put, List.setIfInBounds_toArray, List.set_cons_zero, List.set_cons_succ]
    refine wpAnyH_ready (rs := [3]) (by kernel_rfl) (by simp) (AllReadyH.cons rfl (fun K hK => ?_) (AllReadyH.nil))
    go_simp
    refine hK.out _ _ hHeld (fun hHeld => ?_)
    clear hK K
    refine wpAnyH_ready (rs := [10]) (by kernel_rfl) (by simp) (AllReadyH.cons rfl (fun K hK => ?_) (AllReadyH.nil))
    go_simp
    refine HL.out.mono ?_; rintro e w3 ⟨v3, rfl, o3, b3, k3⟩
    obtain ⟨va3, vc3, rfl, -⟩ := o3.view
    have HR4 := Lib.hid (HR3.out.putB CV.out k3 o3 b3 HLEN.out)
    have f3 : w3.frozen? ⟨p, 1, none⟩ = false := by have := HR4.out.fz.2.1; simpa only [World.frozen?_setCell] using this
    have f30 : w3.frozen? ⟨p, 0, none⟩ = false := by have := HR4.out.fz.1; simpa only [World.frozen?_setCell] using this
    have K3 := k3.blk p HR3.out.hp NE.out
    have c3 := (World.cell?_of_block (w := w2.drew) (a := ⟨p, 1, none⟩) K3).trans CV.out
    have c30 : w3.cell? ⟨p, 0, none⟩ = some (.int .i64 0) := (World.cell?_of_block (w := w2.drew) (a := ⟨p, 0, none⟩) K3).trans c2
    have p3 := Nat.lt_of_lt_of_le HR3.out.hp k3.size
    refine hK.out _ _ ⟨TOK.out _ (hHeld.2.trans b3), hHeld.2.trans b3⟩ (fun hHeld => ?_)
    clear hK K o3 b3 k3 K3
    refine wpAnyH_take (i := 11) (v := ?v11s) rfl (by kernel_rfl) (by kernel_rfl) (by kernel_rfl) (fun _ _ _ h => h) (Or.inl ⟨by rfl, ?hy11s⟩) (by assumption) ?rest11s
    case hy11s => (intro zz hSw; (try dsimp only at hSw); go_simp; (try with_reducible rfl))
    change wpAnyH _ _ _ _ _ _ _ (Act.put _ (some 41) _) _
    simp only [Act.put, List.setIfInBounds_toArray, List.set_cons_zero, List.set_cons_succ]
    refine wpAnyH_take (i := 12) (v := ?v12s) rfl (by kernel_rfl) (by kernel_rfl) (by kernel_rfl) (fun _ _ _ h => h) (Or.inl ⟨by rfl, ?hy12s⟩) (by assumption) ?rest12s
    case hy12s => (intro zz hSw; (try dsimp only at hSw); go_simp; (try with_reducible rfl))
    change wpAnyH _ _ _ _ _ _ _ (Act.put _ (some 53) _) _
    simp only [Act.put, List.setIfInBounds_toArray, List.set_cons_zero, List.set_cons_succ]
    refine wpAnyH_take (i := 13) (v := ?v13s) rfl (by kernel_rfl) (by kernel_rfl) (by kernel_rfl) (fun _ _ _ h => h) (Or.inl ⟨by rfl, ?hy13s⟩) (by assumption) ?rest13s
    case hy13s => (intro zz hSw; (try dsimp only at hSw); go_simp; (try with_reducible rfl))
    change wpAnyH _ _ _ _ _ _ _ (Act.put _ (some 54) _) _
    simp only [Act.put, List.setIfInBounds_toArray, List.set_cons_zero, List.set_cons_succ]
    refine wpAnyH_take (i := 14) (v := ?v14s) rfl (by kernel_rfl) (by kernel_rfl) (by kernel_rfl) (fun _ _ _ h => h) (Or.inl ⟨by rfl, ?hy14s⟩) (by assumption) ?rest14s
    case hy14s => (intro zz hSw; (try dsimp only at hSw); go_simp; (try with_reducible rfl))
    change wpAnyH _ _ _ _ _ _ _ (Act.put _ (some 12) _) _
    simp only [Act.put, List.setIfInBounds_toArray, List.set_cons_zero, List.set_cons_succ]
    refine wpAnyH_take (i := 15) (v := ?v15s) rfl (by kernel_rfl) (by kernel_rfl) (by kernel_rfl) (fun _ _ _ h => h) (Or.inl ⟨by rfl, ?hy15s⟩) (by assumption) ?rest15s
    case hy15s => (intro zz hSw; (try dsimp only at hSw); go_simp; (try with_reducible rfl))
    change wpAnyH _ _ _ _ _ _ _ (Act.put _ (some 13) _) _
    simp only [Act.put, List.setIfInBounds_toArray, List.set_cons_zero, List.set_cons_succ]
    refine wpAnyH_done (by kernel_rfl) ?_ _
    clear hHeld
    cases fg
    · go_wp2_with fail
      go_ret
      exact ⟨rfl, by rw [← HX.out]; exact HR4.out.putC 4⟩
    · go_wp2_with fail
      go_ret
      exact ⟨rfl, by rw [← HX.out]; exact HR4.out⟩
end Go.Proofs.YtfnnoehpahdgcaaGreatDoor.Cl
