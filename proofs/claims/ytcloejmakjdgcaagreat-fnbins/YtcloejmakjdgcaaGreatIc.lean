/-
  spec.BinsOf: the bins of a row; laws.likeBins. (Made by gen_ic.py.)
-/
import Derived.Test.YtcloejmakjdgcaaGreatIb
import Derived.Test.YtcloejmakjdgcaaGreatQc
namespace Go.Proofs.YtcloejmakjdgcaaGreat.Cl
open Go.RowKit Wd Rp Kp Ra
set_option linter.unusedVariables false
def bnP (h : List Cel) (ss : List (List Cel)) (R : ByteArray) (T : Int) : List Bi := if okB h ss && (nmB R.data.toList && inB T 0 1000000) then (if 12 < (binsL R T (mgA h ss)).length then [] else binsL R T (mgA h ss)) else []
set_option maxRecDepth 100000 in
set_option maxHeartbeats 4000000 in
theorem specBins_any {B : Nat} {hv sv : Value} {h : List Cel} {ss : List (List Cel)} (R : ByteArray) (T : Int) (w : World) (ow : OwB B w hv sv h ss) (hlow : Low h ss) (hmod : Mod h ss) (hR : R.size ≤ 9223372036854775806) :
    Calls Tryz.prog 13 #[.agg #[hv, sv], .string R, .int .i64 T] w (BiPost (bnP h ss R T) w) := by
  have H0 := Lib.hid (bel1 w (.cells #[hv, sv] 27))
  have HO := Lib.hid (ow.next H0.out)
  have F0 := Lib.hid (Bb.made hv sv w 27)
  have HLM := Lib.hid (And.intro hlow hmod); clear hlow hmod
  obtain ⟨a, ca, sa, sc, hs, rfl, rfl, -, -⟩ := ow.view
  clear ow
  generalize h.length = n0 at *
  generalize ss.length = n1 at *
  obtain ⟨x, hx⟩ : ∃ x, okB h ss = x := ⟨_, rfl⟩
  obtain ⟨y, hy⟩ : ∃ y, nmB R.data.toList = y := ⟨_, rfl⟩
  obtain ⟨z, hz⟩ : ∃ z, inB T 0 1000000 = z := ⟨_, rfl⟩
  have HX := Lib.hid hx
  have HY := Lib.hid hy
  have HZ := Lib.hid hz
  have HP := Lib.hid (show bnP h ss R T = if x && (y && z) then (if 12 < (binsL R T (mgA h ss)).length then [] else binsL R T (mgA h ss)) else [] from by unfold bnP; rw [hx, hy, hz])
  clear hx hy hz
  go_enter Tryz.func13, Tryz.ntmps13
  go_wp2_with fail
  refine (specBarnO _ HO.out HLM.out.1 HLM.out.2).mono ?_; rintro e w1 ⟨rfl, b1⟩
  have HO1 := Lib.hid (HO.out.next b1)
  have F1 := Lib.hid (F0.out.next b1)
  have B1 := Lib.hid (bel_tr H0.out b1 (Nat.le_refl _)); clear b1 HO F0 H0
  rw [HX.out]
  cases x
  · have HE := Lib.hid (HP.out.trans rfl)
    go_wp2_with fail
    go_ret
    exact ⟨_, rfl, by rw [HE.out]; exact OwI.start B1.out.size, B1.out.alloc B1.out.size _⟩
  go_wp2_with fail
  refine (specName_is HY.out w1 hR).mono ?_; rintro e w2 ⟨rfl, rfl⟩
  cases y
  · have HE := Lib.hid (HP.out.trans rfl)
    go_wp2_with fail
    go_ret
    exact ⟨_, rfl, by rw [HE.out]; exact OwI.start B1.out.size, B1.out.alloc B1.out.size _⟩
  go_wp2_with fail
  refine (timeB_is HZ.out w1).mono ?_; rintro e w2 ⟨rfl, rfl⟩
  cases z
  · have HE := Lib.hid (HP.out.trans rfl)
    go_wp2_with fail
    go_ret
    exact ⟨_, rfl, by rw [HE.out]; exact OwI.start B1.out.size, B1.out.alloc B1.out.size _⟩
  obtain ⟨x0, x1, -, -, -⟩ := id F1.out
  go_wp2_with fail
  refine (l7Bins_any R T w1 HO1.out HX.out).mono ?_; rintro e w3 ⟨v, rfl, o3, b3⟩
  have B3 := Lib.hid (bel_tr B1.out b3 (Nat.le_refl _))
  have O3 := Lib.hid (o3.mono B1.out.size)
  obtain ⟨va, vc, rfl, -⟩ := o3.view
  clear o3 b3 x0 x1 F1 HO1 B1
  by_cases hb : 12 < (binsL R T (mgA h ss)).length
  · have HE := Lib.hid (HP.out.trans (if_pos hb))
    have z1 : (12 : Int) < ((binsL R T (mgA h ss)).length : Int) := by omega
    generalize (binsL R T (mgA h ss)).length = ml at *
    go_wp2_with fail
    go_ret
    exact ⟨_, rfl, by rw [HE.out]; exact OwI.start B3.out.size, B3.out.alloc B3.out.size _⟩
  · have HE := Lib.hid (HP.out.trans (if_neg hb))
    have z1 : ¬ (12 : Int) < ((binsL R T (mgA h ss)).length : Int) := by omega
    generalize (binsL R T (mgA h ss)).length = ml at *
    go_wp2_with fail
    go_ret
    exact ⟨_, rfl, by rw [HE.out]; exact O3.out, B3.out⟩
theorem bin_self (n : ByteArray) (v : Int) (w : World) : (Op.equalIn 10000 48 (.agg #[.string n, .int .i64 v]) (.agg #[.string n, .int .i64 v])).run Tryz.prog w = .ok true w := by
  have u2 := Tryz.underlying2
  have a2 := Tryz.isAgg2
  have z2 := Tryz.sizeOf2
  have a9 := Tryz.isAgg9
  have z9 := Tryz.sizeOf9
  have s9 := fun a w => str_self 9998 a w
  have hS : Tryz.prog.underlying 48 = some (.struct (Tryz.prog.fieldsOf 48)) := by kernel_rfl
  rw [show (10000 : Nat) = 9999 + 1 from rfl, run_equalIn_struct w 9999 48 _ _ hS (by kernel_rfl)]
  simp only [Program.fieldsOf, Tryz.underlying48]
  go_simp
set_option maxRecDepth 100000 in
set_option maxHeartbeats 4000000 in
theorem likeBins_same (w : World) (a b : Option Addr) (ca cb : Nat) (l : List Bi) (n : Nat) (hn : l.length = n) (hv : VwI w a ca l) (hu : VwI w b cb l) (hl : n ≤ 4194304) :
    Calls Tryz.prog 12 #[.slice a n ca, .slice b n cb] w fun e w' => e = .returned (.bool true) ∧ Below w.heap.size w w' := by
  have HV := Lib.hid hv; clear hv
  have HU := Lib.hid hu; clear hu
  have q0 : ((n : Int) != (n : Int)) = false := by simp
  go_enter Tryz.func12, Tryz.ntmps12
  go_wp2
  go_loopw [5] (fun i wr => ∃ k : Nat, k ≤ n ∧ i = .int .i64 k ∧ Below w.heap.size w wr) (fun i _ => n - intV i)
  case atStart => exact ⟨0, Nat.zero_le _, rfl, Below.refl _ _⟩
  case round =>
    obtain ⟨k, hk, rfl, hbel⟩ := hrel
    have HB := Lib.hid hbel; clear hbel
    by_cases hlt : k < n
    · obtain ⟨c, hc⟩ : ∃ c, l[k]? = some c := ⟨l[k], List.getElem?_eq_getElem (by omega)⟩
      obtain ⟨g, o, rfl, hg, h5⟩ := HV.out.2.2.2 k c hc
      obtain ⟨h, p, rfl, hh, h6⟩ := HU.out.2.2.2 k c hc
      have h5' : At2 wr g (o + k * 2) c := h5.same (HB.out.block g hg)
      have h6' : At2 wr h (p + k * 2) c := h6.same (HB.out.block h hh)
      have hg' : g < wr.heap.size := Nat.lt_of_lt_of_le hg HB.out.size
      have hh' : h < wr.heap.size := Nat.lt_of_lt_of_le hh HB.out.size
      have HS := Lib.hid (show wr.drew.cell? ⟨g, o + k * 2, none⟩ = some (.string c.n) ∧ wr.drew.cell? ⟨g, o + k * 2 + 1, none⟩ = some (.int .i64 c.v) ∧ wr.drew.cell? ⟨h, p + k * 2, none⟩ = some (.string c.n) ∧ wr.drew.cell? ⟨h, p + k * 2 + 1, none⟩ = some (.int .i64 c.v) ∧ Below wr.heap.size wr wr.drew from ⟨h5'.1, h5'.2, h6'.1, h6'.2, (Below.refl _ _).drew⟩)
      have hCE := bin_self c.n c.v
      clear h5 h6 hg hh hc h5' h6'
      go_wp2_with fail
      refine wp_region_held_drew (S := fun z => z.cell? ⟨g, o + k * 2, none⟩ = some (.string c.n) ∧ z.cell? ⟨g, o + k * 2 + 1, none⟩ = some (.int .i64 c.v) ∧ z.cell? ⟨h, p + k * 2, none⟩ = some (.string c.n) ∧ z.cell? ⟨h, p + k * 2 + 1, none⟩ = some (.int .i64 c.v) ∧ Below wr.heap.size wr z) (by kernel_rfl) HS.out (fun hHeld => ?_)
      refine wpAnyH_take (i := 0) (v := ?v0a) rfl (by kernel_rfl) (by kernel_rfl) (by kernel_rfl) (fun _ _ _ h => h) (Or.inl ⟨by rfl, ?hy0a⟩) (by assumption) ?rest0a
      case hy0a => (intro zz hSw; (try dsimp only at hSw); go_simp; (try with_reducible rfl))
      change wpAnyH _ _ _ _ _ _ _ (Act.put _ (some 17) _) _
      simp only [Act.put, List.setIfInBounds_toArray, List.set_cons_zero, List.set_cons_succ]
      refine wpAnyH_take (i := 1) (v := ?v1a) rfl (by kernel_rfl) (by kernel_rfl) (by kernel_rfl) (fun _ _ _ h => h) (Or.inl ⟨by rfl, ?hy1a⟩) (by assumption) ?rest1a
      case hy1a => (intro zz hSw; (try dsimp only at hSw); go_simp; (try with_reducible rfl))
      change wpAnyH _ _ _ _ _ _ _ (Act.put _ (some 18) _) _
      simp only [Act.put, List.setIfInBounds_toArray, List.set_cons_zero, List.set_cons_succ]
      refine wpAnyH_take (i := 2) (v := ?v2a) rfl (by kernel_rfl) (by kernel_rfl) (by kernel_rfl) (fun _ _ _ h => h) (Or.inl ⟨by rfl, ?hy2a⟩) (by assumption) ?rest2a
      case hy2a => (intro zz hSw; (try dsimp only at hSw); go_simp; (try with_reducible rfl))
      change wpAnyH _ _ _ _ _ _ _ (Act.put _ (some 19) _) _
      simp only [Act.put, List.setIfInBounds_toArray, List.set_cons_zero, List.set_cons_succ]
      refine wpAnyH_take (i := 3) (v := ?v3a) rfl (by kernel_rfl) (by kernel_rfl) (by kernel_rfl) (fun _ _ _ h => h) (Or.inl ⟨by rfl, ?hy3a⟩) (by assumption) ?rest3a
      case hy3a => (intro zz hSw; (try dsimp only at hSw); go_simp; (try with_reducible rfl))
      change wpAnyH _ _ _ _ _ _ _ (Act.put _ (some 20) _) _
      simp only [Act.put, List.setIfInBounds_toArray, List.set_cons_zero, List.set_cons_succ]
      refine wpAnyH_take (i := 4) (v := ?v4a) rfl (by kernel_rfl) (by kernel_rfl) (by kernel_rfl) (fun _ _ _ h => h) (Or.inl ⟨by rfl, ?hy4a⟩) (by assumption) ?rest4a
      case hy4a => (intro zz hSw; (try dsimp only at hSw); go_simp; (try with_reducible rfl))
      change wpAnyH _ _ _ _ _ _ _ (Act.put _ (some 21) _) _
      simp only [Act.put, List.setIfInBounds_toArray, List.set_cons_zero, List.set_cons_succ]
      refine wpAnyH_take (i := 5) (v := ?v5a) rfl (by kernel_rfl) (by kernel_rfl) (by kernel_rfl) (fun _ _ _ h => h) (Or.inl ⟨by rfl, ?hy5a⟩) (by assumption) ?rest5a
      case hy5a => (intro zz hSw; (try dsimp only at hSw); go_simp; (try with_reducible rfl))
      change wpAnyH _ _ _ _ _ _ _ (Act.put _ (some 22) _) _
      simp only [Act.put, List.setIfInBounds_toArray, List.set_cons_zero, List.set_cons_succ]
      refine wpAnyH_take (i := 6) (v := ?v6a) rfl (by kernel_rfl) (by kernel_rfl) (by kernel_rfl) (fun _ _ _ h => h) (Or.inl ⟨by rfl, ?hy6a⟩) (by assumption) ?rest6a
      case hy6a => (intro zz hSw; (try dsimp only at hSw); go_simp; (try with_reducible rfl))
      change wpAnyH _ _ _ _ _ _ _ (Act.put _ (some 23) _) _
      simp only [Act.put, List.setIfInBounds_toArray, List.set_cons_zero, List.set_cons_succ]
      refine wpAnyH_take (i := 7) (v := ?v7a) rfl (by kernel_rfl) (by kernel_rfl) (by kernel_rfl) (fun _ _ _ h => h) (Or.inl ⟨by rfl, ?hy7a⟩) (by assumption) ?rest7a
      case hy7a => (intro zz hSw; (try dsimp only at hSw); go_simp; (try with_reducible rfl))
      change wpAnyH _ _ _ _ _ _ _ (Act.put _ (some 24) _) _
      simp only [Act.put, List.setIfInBounds_toArray, List.set_cons_zero, List.set_cons_succ]
      refine wpAnyH_take (i := 8) (v := ?v8a) rfl (by kernel_rfl) (by kernel_rfl) (by kernel_rfl) (fun _ _ _ h => h) (Or.inl ⟨by rfl, ?hy8a⟩) (by assumption) ?rest8a
      case hy8a => (intro zz hSw; (try dsimp only at hSw); go_simp; (try with_reducible rfl))
      change wpAnyH _ _ _ _ _ _ _ (Act.put _ (some 25) _) _
      simp only [Act.put, List.setIfInBounds_toArray, List.set_cons_zero, List.set_cons_succ]
      refine wpAnyH_done (by kernel_rfl) ?_ _
      have HG := Lib.hid (bel_tr HB.out hHeld.2.2.2.2 (Nat.le_refl _)); clear hHeld HS
      go_wp2_with fail
      go_roundw
      case rel => exact ⟨k + 1, by omega, by go_num, HG.out⟩
      case measure => simp [intV]; omega
    · obtain rfl : k = n := by omega
      go_wp2_with fail
      go_ret
      exact ⟨rfl, HB.out⟩
theorem likeI_own {B C : Nat} {v v' : Value} {l : List Bi} (w : World) (o : OwI B w v l) (o' : OwI C w v' l) (hl : l.length ≤ 4194304) :
    Calls Tryz.prog 12 #[v, v'] w fun e w' => e = .returned (.bool true) ∧ Below w.heap.size w w' := by
  obtain ⟨a, c, rfl, h1⟩ := o.view
  obtain ⟨a', c', rfl, h1'⟩ := o'.view
  exact likeBins_same w a a' c c' l _ rfl h1 h1' hl
end Go.Proofs.YtcloejmakjdgcaaGreat.Cl
