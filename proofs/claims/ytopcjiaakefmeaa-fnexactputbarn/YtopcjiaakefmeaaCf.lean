/-
  Equal slices of cells are found equal by laws.eqCellS. (Made by gen_cf.py.)
-/
import Derived.Test.YtopcjiaakefmeaaCe
import Derived.Test.YtopcjiaakefmeaaCc
namespace Go.Proofs.Ytopcjiaakefmeaa.Cl
open Go.RowKit Wd Rp Kp
set_option linter.unusedVariables false
set_option maxRecDepth 100000 in
set_option maxHeartbeats 4000000 in
theorem eqCellS_same (w : World) (a b : Option Addr) (ca cb : Nat) (l : List Cel) (hv : Vw w a ca l) (hu : Vw w b cb l) (hl : l.length ≤ 4194304) :
    Calls Try.prog 45 #[.slice a l.length ca, .slice b l.length cb] w fun e w' => e = .returned (.bool true) ∧ Below w.heap.size w w' := by
  have HV := Lib.hid hv; clear hv
  have HU := Lib.hid hu; clear hu
  have q0 : ((l.length : Int) != (l.length : Int)) = false := by simp
  generalize hn : l.length = n at *
  go_enter Try.func45, Try.ntmps45
  go_wp2
  go_loopw [5] (fun i wr => ∃ k : Nat, k ≤ n ∧ i = .int .i64 k ∧ Below w.heap.size w wr) (fun i _ => n - intV i)
  case atStart => exact ⟨0, Nat.zero_le _, rfl, Below.refl _ _⟩
  case round =>
    obtain ⟨k, hk, rfl, hbel⟩ := hrel
    have HB := Lib.hid hbel; clear hbel
    by_cases hlt : k < n
    · obtain ⟨c, hc⟩ : ∃ c, l[k]? = some c := ⟨l[k], List.getElem?_eq_getElem (by omega)⟩
      obtain ⟨g, o, rfl, hg, h5⟩ := HV.out.2.2.2 k c hc
      obtain ⟨h, p, rfl, hh, h6⟩ := HU.out.2.2.2 k c hc
      have h5' : At5 wr g (o + k * 5) c := h5.same (HB.out.block g hg)
      have h6' : At5 wr h (p + k * 5) c := h6.same (HB.out.block h hh)
      have hg' : g < wr.heap.size := Nat.lt_of_lt_of_le hg HB.out.size
      have hh' : h < wr.heap.size := Nat.lt_of_lt_of_le hh HB.out.size
      have HS := Lib.hid (show wr.drew.cell? ⟨g, o + k * 5, none⟩ = some (.string c.r) ∧ wr.drew.cell? ⟨g, o + k * 5 + 1, none⟩ = some (.string c.b) ∧ wr.drew.cell? ⟨g, o + k * 5 + 2, none⟩ = some (.int .i64 c.t) ∧ wr.drew.cell? ⟨g, o + k * 5 + 3, none⟩ = some (.int .i64 c.v) ∧ wr.drew.cell? ⟨g, o + k * 5 + 4, none⟩ = some (.bool c.g) ∧ wr.drew.cell? ⟨h, p + k * 5, none⟩ = some (.string c.r) ∧ wr.drew.cell? ⟨h, p + k * 5 + 1, none⟩ = some (.string c.b) ∧ wr.drew.cell? ⟨h, p + k * 5 + 2, none⟩ = some (.int .i64 c.t) ∧ wr.drew.cell? ⟨h, p + k * 5 + 3, none⟩ = some (.int .i64 c.v) ∧ wr.drew.cell? ⟨h, p + k * 5 + 4, none⟩ = some (.bool c.g) ∧ Below wr.heap.size wr wr.drew from ⟨h5'.1, h5'.2.1, h5'.2.2.1, h5'.2.2.2.1, h5'.2.2.2.2, h6'.1, h6'.2.1, h6'.2.2.1, h6'.2.2.2.1, h6'.2.2.2.2, (Below.refl _ _).drew⟩)
      have HC := Lib.hid (eqCell_same c.r c.b c.t c.v c.g)
      clear h5 h6 hg hh hc h5' h6'
      go_wp2_with fail
      refine wp_region_held_drew (S := fun z => z.cell? ⟨g, o + k * 5, none⟩ = some (.string c.r) ∧ z.cell? ⟨g, o + k * 5 + 1, none⟩ = some (.string c.b) ∧ z.cell? ⟨g, o + k * 5 + 2, none⟩ = some (.int .i64 c.t) ∧ z.cell? ⟨g, o + k * 5 + 3, none⟩ = some (.int .i64 c.v) ∧ z.cell? ⟨g, o + k * 5 + 4, none⟩ = some (.bool c.g) ∧ z.cell? ⟨h, p + k * 5, none⟩ = some (.string c.r) ∧ z.cell? ⟨h, p + k * 5 + 1, none⟩ = some (.string c.b) ∧ z.cell? ⟨h, p + k * 5 + 2, none⟩ = some (.int .i64 c.t) ∧ z.cell? ⟨h, p + k * 5 + 3, none⟩ = some (.int .i64 c.v) ∧ z.cell? ⟨h, p + k * 5 + 4, none⟩ = some (.bool c.g) ∧ Below wr.heap.size wr z) (by kernel_rfl) HS.out (fun hHeld => ?_)
      refine wpAnyH_take (i := 0) (v := ?v0a) rfl (by kernel_rfl) (by kernel_rfl) (by kernel_rfl) (fun _ _ _ h => h) (Or.inl ⟨by rfl, ?hy0a⟩) (by assumption) ?rest0a
      case hy0a => (intro zz hSw; (try dsimp only at hSw); go_simp; (try with_reducible rfl))
      change wpAnyH _ _ _ _ _ _ _ (Act.put _ (some 17) _) _
      simp only [Act.put, List.setIfInBounds_toArray, List.set_cons_zero, List.set_cons_succ]
      refine wpAnyH_take (i := 1) (v := ?v1a) rfl (by kernel_rfl) (by kernel_rfl) (by kernel_rfl) (fun _ _ _ h => h) (Or.inl ⟨by rfl, ?hy1a⟩) (by assumption) ?rest1a
      case hy1a => (intro zz hSw; (try dsimp only at hSw); go_simp; (try with_reducible rfl))
      change wpAnyH _ _ _ _ _ _ _ (Act.put _ (some 18) _) _
      simp only [Act.put, List.setIfInBounds_toArray, List.set_cons_zero, List.set_cons_succ]
      refine wpAnyH_take (i := 2) (v := ?v2a) rfl (by kernel_rfl) (by kernel_rfl) (by kernel_rfl) (fun _ _ _ h => h) (Or.inl ⟨by rfl, ?hy2a⟩) (by assumption) ?rest2a
      case hy2a => (intro zz hSw; (try dsimp only at hSw); go_simp; (try with_reducible rfl))
      change wpAnyH _ _ _ _ _ _ _ (Act.put _ (some 19) _) _
      simp only [Act.put, List.setIfInBounds_toArray, List.set_cons_zero, List.set_cons_succ]
      refine wpAnyH_take (i := 3) (v := ?v3a) rfl (by kernel_rfl) (by kernel_rfl) (by kernel_rfl) (fun _ _ _ h => h) (Or.inl ⟨by rfl, ?hy3a⟩) (by assumption) ?rest3a
      case hy3a => (intro zz hSw; (try dsimp only at hSw); go_simp; (try with_reducible rfl))
      change wpAnyH _ _ _ _ _ _ _ (Act.put _ (some 20) _) _
      simp only [Act.put, List.setIfInBounds_toArray, List.set_cons_zero, List.set_cons_succ]
      refine wpAnyH_take (i := 4) (v := ?v4a) rfl (by kernel_rfl) (by kernel_rfl) (by kernel_rfl) (fun _ _ _ h => h) (Or.inl ⟨by rfl, ?hy4a⟩) (by assumption) ?rest4a
      case hy4a => (intro zz hSw; (try dsimp only at hSw); go_simp; (try with_reducible rfl))
      change wpAnyH _ _ _ _ _ _ _ (Act.put _ (some 21) _) _
      simp only [Act.put, List.setIfInBounds_toArray, List.set_cons_zero, List.set_cons_succ]
      refine wpAnyH_take (i := 5) (v := ?v5a) rfl (by kernel_rfl) (by kernel_rfl) (by kernel_rfl) (fun _ _ _ h => h) (Or.inl ⟨by rfl, ?hy5a⟩) (by assumption) ?rest5a
      case hy5a => (intro zz hSw; (try dsimp only at hSw); go_simp; (try with_reducible rfl))
      change wpAnyH _ _ _ _ _ _ _ (Act.put _ (some 22) _) _
      simp only [Act.put, List.setIfInBounds_toArray, List.set_cons_zero, List.set_cons_succ]
      refine wpAnyH_take (i := 6) (v := ?v6a) rfl (by kernel_rfl) (by kernel_rfl) (by kernel_rfl) (fun _ _ _ h => h) (Or.inl ⟨by rfl, ?hy6a⟩) (by assumption) ?rest6a
      case hy6a => (intro zz hSw; (try dsimp only at hSw); go_simp; (try with_reducible rfl))
      change wpAnyH _ _ _ _ _ _ _ (Act.put _ (some 23) _) _
      simp only [Act.put, List.setIfInBounds_toArray, List.set_cons_zero, List.set_cons_succ]
      refine wpAnyH_take (i := 7) (v := ?v7a) rfl (by kernel_rfl) (by kernel_rfl) (by kernel_rfl) (fun _ _ _ h => h) (Or.inl ⟨by rfl, ?hy7a⟩) (by assumption) ?rest7a
      case hy7a => (intro zz hSw; (try dsimp only at hSw); go_simp; (try with_reducible rfl))
      change wpAnyH _ _ _ _ _ _ _ (Act.put _ (some 24) _) _
      simp only [Act.put, List.setIfInBounds_toArray, List.set_cons_zero, List.set_cons_succ]
      refine wpAnyH_ready (rs := [8]) (by kernel_rfl) (by simp) (AllReadyH.cons rfl (fun K hK => ?_) AllReadyH.nil)
      go_simp
      refine (HC.out _).mono ?_; rintro e w' ⟨rfl, bel⟩
      refine hK.out _ _ (⟨cob bel hHeld.2.2.2.2.2.2.2.2.2.2 hg' hHeld.1, cob bel hHeld.2.2.2.2.2.2.2.2.2.2 hg' hHeld.2.1, cob bel hHeld.2.2.2.2.2.2.2.2.2.2 hg' hHeld.2.2.1, cob bel hHeld.2.2.2.2.2.2.2.2.2.2 hg' hHeld.2.2.2.1, cob bel hHeld.2.2.2.2.2.2.2.2.2.2 hg' hHeld.2.2.2.2.1, cob bel hHeld.2.2.2.2.2.2.2.2.2.2 hh' hHeld.2.2.2.2.2.1, cob bel hHeld.2.2.2.2.2.2.2.2.2.2 hh' hHeld.2.2.2.2.2.2.1, cob bel hHeld.2.2.2.2.2.2.2.2.2.2 hh' hHeld.2.2.2.2.2.2.2.1, cob bel hHeld.2.2.2.2.2.2.2.2.2.2 hh' hHeld.2.2.2.2.2.2.2.2.1, cob bel hHeld.2.2.2.2.2.2.2.2.2.2 hh' hHeld.2.2.2.2.2.2.2.2.2.1, bel_tr hHeld.2.2.2.2.2.2.2.2.2.2 bel (Nat.le_refl _)⟩) (fun hHeld => ?_)
      clear hK K bel
      refine wpAnyH_take (i := 9) (v := ?v9a) rfl (by kernel_rfl) (by kernel_rfl) (by kernel_rfl) (fun _ _ _ h => h) (Or.inl ⟨by rfl, ?hy9a⟩) (by assumption) ?rest9a
      case hy9a => (intro zz hSw; (try dsimp only at hSw); go_simp; (try with_reducible rfl))
      change wpAnyH _ _ _ _ _ _ _ (Act.put _ (some 26) _) _
      simp only [Act.put, List.setIfInBounds_toArray, List.set_cons_zero, List.set_cons_succ]
      refine wpAnyH_done (by kernel_rfl) ?_ _
      have HG := Lib.hid (bel_tr HB.out hHeld.2.2.2.2.2.2.2.2.2.2 (Nat.le_refl _)); clear hHeld HS
      go_wp2_with fail
      go_roundw
      case rel => exact ⟨k + 1, by omega, by go_num, HG.out⟩
      case measure => simp [intV]; omega
    · obtain rfl : k = n := by omega
      go_wp2_with fail
      go_ret
      exact ⟨rfl, HB.out⟩
end Go.Proofs.Ytopcjiaakefmeaa.Cl
