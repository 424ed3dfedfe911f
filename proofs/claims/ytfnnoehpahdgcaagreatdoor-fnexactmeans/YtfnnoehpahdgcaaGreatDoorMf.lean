/-
  The specification's run of a statement: contracts of spec.l10Deed for set, cut, stop ('deed_set', 'deed_cut', 'deed_stop').
-/
import Derived.Test.YtfnnoehpahdgcaaGreatDoorMo
namespace Go.Proofs.YtfnnoehpahdgcaaGreatDoor.Cl
open Go.RowKit Wd Rp Kp
set_option linter.unusedVariables false
/-- What a run reads: the recipe, the arguments. -/
structure Rcx (w0 : World) (a : Option Addr) (n cap : Nat) (l : List Tk) (ga : Option Addr) (gc : Nat) (gs : List Int) : Prop where
  hn : l.length = n
  hl : n ≤ 4194304
  hm : ∀ s ∈ l, s.length ≤ 4194304
  hv : V1 w0 a cap (txL l)
  hg : V1 w0 ga gc (inL gs)
  hg3 : gs.length = 3
theorem st7_len {l : List Bi} {n : ByteArray} {x : Int} (h : l.length ≤ 12) : (st7 l n x).1.length ≤ 12 := by
  have h2 := stI_len l n x
  unfold st7
  by_cases ha : isAt n l = true
  · rw [if_pos ha]
    rw [if_pos ha] at h2
    show (stI l n x).length ≤ 12
    omega
  · rw [if_neg ha]
    rw [if_neg ha] at h2
    split
    · exact h
    · show (stI l n x).length ≤ 12
      omega
theorem ctI_le {l : List Bi} {n : ByteArray} (h : l.length ≤ 12) : (ctI l n).length ≤ 12 := by have := ctI_len l n; split at this <;> omega
set_option maxHeartbeats 4000000 in
set_option maxRecDepth 100000 in
theorem deed_stop (w0 : World) (p : Nat) (a : Option Addr) (cap : Nat) (l : List Tk) (n : Nat) (ga : Option Addr) (gc : Nat) (gs : List Int) (C : Rcx w0 a n cap l ga gc gs) : DeedR w0 p a n cap l ga gc gs .stop := by
  intro k r st w hd hc hR
  have hw : Sm.wf 5 .stop := by rw [Sm.wf]; trivial
  have HB := Lib.hid (deedS_all a cap l n C.hn C.hl C.hm 5 (by decide) w (k : Int) ⟨by omega, by have h1 := (drop_head (show l.drop k = stopT :: r from hd)).2.1; have := C.hn; have := C.hl; omega⟩ (C.hv.below hR.bw))
  rw [(Sm.det l .stop 5 k r hw hd).1] at HB
  obtain ⟨hk1, hk2, hd1⟩ := drop_head (show l.drop k = stopT :: r from hd)
  have hkn : k < n := by have := C.hn; omega
  have hE : Sm.run gs .stop st = ⟨1, st.b, st.f⟩ := by rw [Sm.run]
  rw [hE]; clear hE
  generalize ((k + (Sm.fl .stop).length : Nat) : Int) = y at *
  have HR := Lib.hid hR; clear hR
  have HV := Lib.hid (C.hv.below HR.out.bw)
  clear hd hd1
  go_enter Tryz.func83, Tryz.ntmps83
  go_wp2_with fail
  refine HB.out.mono ?_; rintro e w1 ⟨rfl, b1⟩
  have HR1 := Lib.hid (HR.out.next b1)
  obtain ⟨g', o', rfl, hg, c0⟩ := (HV.out.below b1).tx hk1
  replace c0 : w1.cell? ⟨g', o' + k, none⟩ = some (.string ⟨#[115, 116, 111, 112]⟩) := c0
  have f1 := HR1.out.fz.1
  have c1 := HR1.out.c
  clear b1 hg hk1
  go_wp2_with fail
  go_ret
  exact ⟨rfl, HR1.out.putC 1⟩
set_option maxHeartbeats 4000000 in
set_option maxRecDepth 100000 in
theorem deed_cut (w0 : World) (p : Nat) (a : Option Addr) (cap : Nat) (l : List Tk) (n : Nat) (ga : Option Addr) (gc : Nat) (gs : List Int) (C : Rcx w0 a n cap l ga gc gs) (m : Tk) (hm : nmB m = true) : DeedR w0 p a n cap l ga gc gs (.cut m) := by
  intro k r st w hd hc hR
  have hw : Sm.wf 5 (.cut m) := by rw [Sm.wf]; exact hm
  have hd0 : l.drop k = cutT :: (m :: r) := by rw [hd]; rfl
  obtain ⟨hk1, hk2, hd1⟩ := drop_head hd0
  obtain ⟨hk3, hk4, -⟩ := drop_head hd1
  have hkn : k + 1 < n := by have := C.hn; omega
  have HB := Lib.hid (deedS_all a cap l n C.hn C.hl C.hm 5 (by decide) w (k : Int) ⟨by omega, by have := C.hl; omega⟩ (C.hv.below hR.bw))
  rw [(Sm.det l (.cut m) 5 k r hw hd).1] at HB
  have hE : Sm.run gs (.cut m) st = ⟨st.c, ctI st.b (tx m), st.f⟩ := by rw [Sm.run]
  rw [hE]; clear hE
  generalize ((k + (Sm.fl (.cut m)).length : Nat) : Int) = y at *
  have HR := Lib.hid hR; clear hR
  have HV := Lib.hid (C.hv.below HR.out.bw)
  have hl4 := C.hl
  clear hd hd0 hd1
  go_enter Tryz.func83, Tryz.ntmps83
  go_wp2_with fail
  refine HB.out.mono ?_; rintro e w1 ⟨rfl, b1⟩
  have HR1 := Lib.hid (HR.out.next b1)
  have HV1 := Lib.hid (HV.out.below b1); clear b1
  obtain ⟨g', o', rfl, hg, c0⟩ := HV1.out.tx hk1
  obtain ⟨g2, o2, e2, hg2, c2⟩ := HV1.out.tx hk3
  cases e2
  replace c0 : w1.cell? ⟨g', o' + k, none⟩ = some (.string ⟨#[99, 117, 116]⟩) := c0
  have TOK := Lib.hid (show ∀ z, Below w0.heap.size w0 z → z.cell? ⟨g', o' + (k + 1), none⟩ = some (.string (tx m)) from fun z hz => by
    obtain ⟨g4, o4, e4, -, c4⟩ := (C.hv.below hz).tx hk3
    cases e4; exact c4)
  obtain ⟨v, cv, hO, hne⟩ := HR1.out.b
  have HR2 := Lib.hid (HR1.out.next (Below.refl _ _).drew)
  have O2 := Lib.hid (hO.next (Below.refl _ _).drew)
  have HL := Lib.hid (l7Cut_own w1.drew v st.b (tx m) O2.out HR2.out.bw.size (by have := HR2.out.bl; omega))
  have NE := Lib.hid hne
  have CV := Lib.hid (show w1.drew.cell? ⟨p, 1, none⟩ = some v from cv)
  have i1 : (k : Int) + 1 ≤ 9223372036854775807 := by omega
  have i7 : IntKind.i64.wrap ((k : Int) + 1) = ((k + 1 : Nat) : Int) := by rw [IntKind.wrap_i64]; omega
  have i8 : (0 : Int) ≤ (k : Int) + 1 := by omega
  have i9 : (k : Int) + 1 < (n : Int) := by omega
  clear hO hne hk1 hk3 hg hg2
  go_wp2_with fail
  refine wp_region_held_drew (S := fun z => z.cell? ⟨g', o' + (k + 1), none⟩ = some (.string (tx m)) ∧ Below w0.heap.size w0 z) (by kernel_rfl) ⟨TOK.out _ HR2.out.bw, HR2.out.bw⟩ (fun hHeld => ?_)
  refine wpAnyH_take (i := 0) (v := ?v0c) rfl (by kernel_rfl) (by kernel_rfl) (by kernel_rfl) (fun _ _ _ h => h) (Or.inl ⟨by rfl, ?hy0c⟩) (by assumption) ?rest0c
  case hy0c => (intro zz hSw; (try dsimp only at hSw); go_simp; (try with_reducible rfl))
  change wpAnyH _ _ _ _ _ _ _ (Act.put _ (some 66) _) _
  simp only [Act.put, List.setIfInBounds_toArray, List.set_cons_zero, List.set_cons_succ]
  refine wpAnyH_take (i := 1) (v := ?v1c) rfl (by kernel_rfl) (by kernel_rfl) (by kernel_rfl) (fun _ _ _ h => h) (Or.inl ⟨by rfl, ?hy1c⟩) (by assumption) ?rest1c
  case hy1c => (intro zz hSw; (try dsimp only at hSw); go_simp; (try with_reducible rfl))
  change wpAnyH _ _ _ _ _ _ _ (Act.put _ (some 67) _) _
  simp only [Act.put, List.setIfInBounds_toArray, List.set_cons_zero, List.set_cons_succ]
  refine wpAnyH_take (i := 2) (v := ?v2c) rfl (by kernel_rfl) (by kernel_rfl) (by kernel_rfl) (fun _ _ _ h => h) (Or.inl ⟨by rfl, ?hy2c⟩) (by assumption) ?rest2c
  case hy2c => (intro zz hSw; (try dsimp only at hSw); go_simp; (try with_reducible rfl))
  change wpAnyH _ _ _ _ _ _ _ (Act.put _ (some 68) _) _
  simp only [Act.put, List.setIfInBounds_toArray, List.set_cons_zero, List.set_cons_succ]
  refine wpAnyH_take (i := 3) (v := ?v3c) rfl (by kernel_rfl) (by kernel_rfl) (by kernel_rfl) (fun _ _ _ h => h) (Or.inl ⟨by rfl, ?hy3c⟩) (by assumption) ?rest3c
  case hy3c => (intro zz hSw; (try dsimp only at hSw); go_simp; (try with_reducible rfl))
  change wpAnyH _ _ _ _ _ _ _ (Act.put _ (some 69) _) _
  simp only [Act.put, List.setIfInBounds_toArray, List.set_cons_zero, List.set_cons_succ]
  refine wpAnyH_take (i := 5) (v := ?v5c) rfl (by kernel_rfl) (by kernel_rfl) (by kernel_rfl) (fun _ _ _ h => h) (Or.inl ⟨by rfl, ?hy5c⟩) (by assumption) ?rest5c
  case hy5c => (intro zz hSw; (try dsimp only at hSw); go_simp; (try with_reducible rfl))
  change wpAnyH _ _ _ _ _ _ _ (Act.put _ (some 71) _) _
  simp only [Act.put, List.setIfInBounds_toArray, List.set_cons_zero, List.set_cons_succ]
  refine wpAnyH_take (i := 6) (v := ?v6c) rfl (by kernel_rfl) (by kernel_rfl) (by kernel_rfl) (fun _ _ _ h => h) (Or.inl ⟨by rfl, ?hy6c⟩) (by assumption) ?rest6c
  case hy6c => (intro zz hSw; (try dsimp only at hSw); go_simp; (try with_reducible rfl))
  change wpAnyH _ _ _ _ _ _ _ (Act.put _ (some 72) _) _
  simp only [Act.put, List.setIfInBounds_toArray, List.set_cons_zero, List.set_cons_succ]
  refine wpAnyH_take (i := 7) (v := ?v7c) rfl (by kernel_rfl) (by kernel_rfl) (by kernel_rfl) (fun _ _ _ h => h) (Or.inl ⟨by rfl, ?hy7c⟩) (by assumption) ?rest7c
  case hy7c => (intro zz hSw; (try dsimp only at hSw); go_simp; (try with_reducible rfl))
  change wpAnyH _ _ _ _ _ _ _ (Act.put _ (some 73) _) _
  simp only [Act.put, List.setIfInBounds_toArray, List.set_cons_zero, List.set_cons_succ]
  refine wpAnyH_take (i := 8) (v := ?v8c) rfl (by kernel_rfl) (by kernel_rfl) (by kernel_rfl) (fun _ _ _ h => h) (Or.inl ⟨by rfl, ?hy8c⟩) (by assumption) ?rest8c
  case hy8c => (intro zz hSw; (try dsimp only at hSw); go_simp; (try with_reducible rfl))
  change wpAnyH _ _ _ _ _ _ _ (Act.put _ (some 74) _) _
  simp only [Act.put, List.setIfInBounds_toArray, List.set_cons_zero, List.set_cons_succ]
  refine wpAnyH_take (i := 9) (v := ?v9c) rfl (by kernel_rfl) (by kernel_rfl) (by kernel_rfl) (fun _ _ _ h => h) (Or.inl ⟨by rfl, ?hy9c⟩) (by assumption) ?rest9c
  case hy9c => (intro zz hSw; (try dsimp only at hSw); go_simp; (try with_reducible rfl))
  change wpAnyH _ _ _ _ _ _ _ (Act.put _ (some 75) _) _
  simp only [Act.put, List.setIfInBounds_toArray, List.set_cons_zero, List.set_cons_succ]
  refine wpAnyH_ready (rs := [4]) (by kernel_rfl) (by simp) (AllReadyH.cons rfl (fun K hK => ?_) (AllReadyH.nil))
  go_simp
  refine hK.out _ _ hHeld (fun hHeld => ?_)
  clear hK K
  refine wpAnyH_ready (rs := [10]) (by kernel_rfl) (by simp) (AllReadyH.cons rfl (fun K hK => ?_) (AllReadyH.nil))
  go_simp
  refine HL.out.mono ?_; rintro e w3 ⟨v3, rfl, o3, b3, k3⟩
  obtain ⟨va3, vc3, rfl, -⟩ := o3.view
  have HR3 := Lib.hid (HR2.out.putB CV.out k3 o3 b3 (ctI_le HR2.out.bl))
  have F3 := Lib.hid (show w3.frozen? ⟨p, 1, none⟩ = false by have := HR3.out.fz.2.1; simpa only [World.frozen?_setCell] using this)
  have C3 := Lib.hid ((World.cell?_of_block (w := w1.drew) (a := ⟨p, 1, none⟩) (k3.blk p HR2.out.hp NE.out)).trans CV.out)
  have P3 := Lib.hid (Nat.lt_of_lt_of_le HR2.out.hp k3.size)
  refine hK.out _ _ ⟨TOK.out _ (hHeld.2.trans b3), hHeld.2.trans b3⟩ (fun hHeld => ?_)
  clear hK K o3 b3 k3
  have f3 := F3.out
  have p3 := P3.out
  have c3 := C3.out
  refine wpAnyH_take (i := 11) (v := ?v11c) rfl (by kernel_rfl) (by kernel_rfl) (by kernel_rfl) (fun _ _ _ h => h) (Or.inl ⟨by rfl, ?hy11c⟩) (by assumption) ?rest11c
  case hy11c => (intro zz hSw; (try dsimp only at hSw); go_simp; (try with_reducible rfl))
  change wpAnyH _ _ _ _ _ _ _ (Act.put _ (some 77) _) _
  simp only [Act.put, List.setIfInBounds_toArray, List.set_cons_zero, List.set_cons_succ]
  refine wpAnyH_take (i := 12) (v := ?v12c) rfl (by kernel_rfl) (by kernel_rfl) (by kernel_rfl) (fun _ _ _ h => h) (Or.inl ⟨by rfl, ?hy12c⟩) (by assumption) ?rest12c
  case hy12c => (intro zz hSw; (try dsimp only at hSw); go_simp; (try with_reducible rfl))
  change wpAnyH _ _ _ _ _ _ _ (Act.put _ (some 78) _) _
  simp only [Act.put, List.setIfInBounds_toArray, List.set_cons_zero, List.set_cons_succ]
  refine wpAnyH_ready (rs := [13]) (by kernel_rfl) (by simp) (AllReadyH.cons rfl (fun K hK => ?_) (AllReadyH.nil))
  go_simp
  refine hK.out _ _ ⟨TOK.out _ HR3.out.bw, HR3.out.bw⟩ (fun hHeld => ?_)
  clear hK K
  refine wpAnyH_done (by kernel_rfl) ?_ _
  go_wp2_with fail
  go_ret
  exact ⟨rfl, HR3.out⟩
end Go.Proofs.YtfnnoehpahdgcaaGreatDoor.Cl
