/-
  Proved: for every input the Go function laws.FnExactPutCell returns true, and each argument reads afterwards as it read before.
  Conditions: none beyond those of the given row.
-/
import Derived.Test.YtkkpokfekbdigaaRows
import Derived.WalkKit
import Derived.ProofKit
import Derived.OpenShut
import Derived.ShutString
import Derived.Carry
import Derived.Below
import Derived.Test.YtkkpokfekbdigaaCo
import Derived.Test.YtkkpokfekbdigaaFr
namespace Go.Proofs.Ytkkpokfekbdigaa.fnExactPutCell
open Go.ChangeShapes Go.WideShapes Go.ChangeAt Go.RowKit
open Go.ChangeMaps (open_string shut_string)
set_option linter.unusedVariables false

theorem laidOut : laidOutB Try.prog = true := by kernel_rfl
theorem own : ownKnob Try.prog.godebug = none := by kernel_rfl

open Kp Cl
theorem mod_of {l : List Cel} {n : Int} (h : ∀ c ∈ l, (c.r.size : Int) ≤ n ∧ (c.b.size : Int) ≤ n) (hn : n ≤ 1048576) : ∀ c ∈ l, c.mod := fun c hc => by
  have := h c hc
  exact ⟨by omega, by omega⟩
set_option maxHeartbeats 8000000 in
theorem walk (w : World) (a : Option Addr) (cap : Nat) (l : List Cel) (c : Cel) (n : Nat) (hn : l.length = n) (hv : Vw w a cap l) (hm : ∀ c ∈ l, c.r.size ≤ 9223372036854775807 ∧ c.b.size ≤ 9223372036854775807) (hr : c.r.size ≤ 9223372036854775807) (hb : c.b.size ≤ 9223372036854775807) :
    Calls Try.prog 9 #[.slice a n cap, .agg #[.string c.r, .string c.b, .int .i64 c.t, .int .i64 c.v, .bool c.g]] w fun e w' => e = .returned (.bool true) ∧ Below w.heap.size w w' := by
  have HM := Lib.hid hm; clear hm
  go_enter Try.func9, Try.ntmps9
  go_wp2_with fail
  have X0 := Bc.made c.r c.b c.t c.v c.g w 56
  have b0 := bel1 w (.cells #[.string c.r, .string c.b, .int .i64 c.t, .int .i64 c.v, .bool c.g] 56)
  have hv0 := hv.below b0
  generalize w.alloc (Obj.cells #[Value.string c.r, Value.string c.b, Value.int IntKind.i64 c.t, Value.int IntKind.i64 c.v, Value.bool c.g] 56) = w0 at X0 b0 hv0 ⊢
  have HB0 := Lib.hid b0; clear b0 hv
  have HX := Lib.hid X0; clear X0
  have HV := Lib.hid hv0; clear hv0
  generalize hq0 : w.heap.size = q at HX ⊢
  have HSZ := Lib.hid (szCellS_any w0 a cap l 1048576 HV.out HM.out (by decide) (by decide))
  rw [hn] at HSZ
  refine HSZ.out.mono ?_; rintro e w1 ⟨z, rfl, b1, hz⟩
  have B1 := Lib.hid b1; clear b1 HSZ
  rcases hz with hz | ⟨z0, z1, hzl, hmm⟩
  · go_wp2_with fail
    go_ret
    exact ⟨rfl, bel_tr HB0.out B1.out (Nat.le_refl _)⟩
  have hll : n ≤ 1048576 := by omega
  have HMM := Lib.hid (mod_of hmm (by decide)); clear hmm
  have q0 : ¬ z < 0 := by omega
  obtain ⟨x0, x1, x2, x3, x4, -⟩ := HX.out.next B1.out
  have HZ := Lib.hid (fun w => szCell_any c.r c.b c.t c.v z c.g w hr hb z0 (by omega))
  have HL : 0 ≤ szL c.r c.b z → _ := szL_le
  generalize szL c.r c.b z = y at HZ HL
  by_cases hy : y < 0
  · clear HL
    go_wp2_with fail
    refine (HZ.out _).mono ?_; rintro e w2 ⟨rfl, b2⟩
    have B2 := Lib.hid (bel_tr B1.out b2 (Nat.le_refl _)); clear b2 x0 x1 x2 x3 x4
    go_wp2_with fail
    go_ret
    exact ⟨rfl, bel_tr HB0.out B2.out (Nat.le_refl _)⟩
  have HCM := Lib.hid (show c.mod from by obtain ⟨h1, h2, -⟩ := HL (by omega); exact ⟨by omega, by omega⟩); clear HL
  go_wp2_with fail
  refine (HZ.out _).mono ?_; rintro e w2 ⟨rfl, b2⟩
  have B2 := Lib.hid (bel_tr B1.out b2 (Nat.le_refl _)); clear b2 x0 x1 x2 x3 x4 HZ B1
  obtain ⟨x0, x1, x2, x3, x4, hq⟩ := HX.out.next B2.out
  have SOA := Lib.hid (show ∀ z, Below w2.heap.size w2 z → (z.cell? ⟨q, 0, none⟩ = some (.string c.r) ∧ z.cell? ⟨q, 1, none⟩ = some (.string c.b) ∧ z.cell? ⟨q, 2, none⟩ = some (.int .i64 c.t) ∧ z.cell? ⟨q, 3, none⟩ = some (.int .i64 c.v) ∧ z.cell? ⟨q, 4, none⟩ = some (.bool c.g) ∧ Below w2.heap.size w2 z) from fun z hz => ⟨coc hz hq x0, coc hz hq x1, coc hz hq x2, coc hz hq x3, coc hz hq x4,  hz⟩)
  clear x0 x1 x2 x3 x4
  go_wp2_with fail
  refine wp_region_held_drew (S := fun z => z.cell? ⟨q, 0, none⟩ = some (.string c.r) ∧ z.cell? ⟨q, 1, none⟩ = some (.string c.b) ∧ z.cell? ⟨q, 2, none⟩ = some (.int .i64 c.t) ∧ z.cell? ⟨q, 3, none⟩ = some (.int .i64 c.v) ∧ z.cell? ⟨q, 4, none⟩ = some (.bool c.g) ∧ Below w2.heap.size w2 z) (by kernel_rfl) (SOA.out _ (Below.refl _ _).drew) (fun hHeld => ?_)
  refine wpAnyH_take (i := 0) (v := ?v0a) rfl (by kernel_rfl) (by kernel_rfl) (by kernel_rfl) (fun _ _ _ h => h) (Or.inl ⟨by rfl, ?hy0a⟩) (by assumption) ?rest0a
  case hy0a => (intro zz hSw; (try dsimp only at hSw); go_simp; (try with_reducible rfl))
  change wpAnyH _ _ _ _ _ _ _ (Act.put _ (some 27) _) _
  simp only [Act.put, List.setIfInBounds_toArray, List.set_cons_zero, List.set_cons_succ]
  refine wpAnyH_take (i := 2) (v := ?v2a) rfl (by kernel_rfl) (by kernel_rfl) (by kernel_rfl) (fun _ _ _ h => h) (Or.inl ⟨by rfl, ?hy2a⟩) (by assumption) ?rest2a
  case hy2a => (intro zz hSw; (try dsimp only at hSw); go_simp; (try with_reducible rfl))
  change wpAnyH _ _ _ _ _ _ _ (Act.put _ (some 29) _) _
  simp only [Act.put, List.setIfInBounds_toArray, List.set_cons_zero, List.set_cons_succ]
  refine wpAnyH_ready (rs := [1]) (by kernel_rfl) (by simp) (AllReadyH.cons rfl (fun K hK => ?_) (AllReadyH.nil))
  go_simp
  refine (toCellS_is _ a cap l n hn (HV.out.below (bel_tr B2.out hHeld.2.2.2.2.2 (Nat.le_refl _))) hll).mono ?_; rintro e w' ⟨g1, rfl, -, o1, bel⟩
  have O1 := Lib.hid o1; clear o1
  refine hK.out _ _ (SOA.out _ (bel_tr hHeld.2.2.2.2.2 bel (Nat.le_refl _))) (fun hHeld => ?_)
  clear hK K bel
  refine wpAnyH_ready (rs := [3]) (by kernel_rfl) (by simp) (AllReadyH.cons rfl (fun K hK => ?_) (AllReadyH.nil))
  go_simp
  refine (toCell_any c.r c.b c.t c.v c.g _).mono ?_; rintro e w' ⟨rfl, bel⟩
  have O1 := Lib.hid (O1.out.next bel)
  refine hK.out _ _ (SOA.out _ (bel_tr hHeld.2.2.2.2.2 bel (Nat.le_refl _))) (fun hHeld => ?_)
  clear hK K bel
  refine wpAnyH_ready (rs := [4]) (by kernel_rfl) (by simp) (AllReadyH.cons rfl (fun K hK => ?_) (AllReadyH.nil))
  go_simp
  refine (specPut_own _ (c := c) O1.out hn HMM.out HCM.out (by omega)).mono ?_; rintro e w' ⟨va, rfl, o2, bel⟩
  have O2 := Lib.hid (o2.mono hHeld.2.2.2.2.2.size); clear o2 O1
  refine hK.out _ _ (SOA.out _ (bel_tr hHeld.2.2.2.2.2 bel (Nat.le_refl _))) (fun hHeld => ?_)
  clear hK K bel
  refine wpAnyH_take (i := 5) (v := ?v5a) rfl (by kernel_rfl) (by kernel_rfl) (by kernel_rfl) (fun _ _ _ h => h) (Or.inl ⟨by rfl, ?hy5a⟩) (by assumption) ?rest5a
  case hy5a => (intro zz hSw; (try dsimp only at hSw); go_simp; (try with_reducible rfl))
  change wpAnyH _ _ _ _ _ _ _ (Act.put _ (some 26) _) _
  simp only [Act.put, List.setIfInBounds_toArray, List.set_cons_zero, List.set_cons_succ]
  refine wpAnyH_take (i := 6) (v := ?v6a) rfl (by kernel_rfl) (by kernel_rfl) (by kernel_rfl) (fun _ _ _ h => h) (Or.inl ⟨by rfl, ?hy6a⟩) (by assumption) ?rest6a
  case hy6a => (intro zz hSw; (try dsimp only at hSw); go_simp; (try with_reducible rfl))
  change wpAnyH _ _ _ _ _ _ _ (Act.put _ (some 32) _) _
  simp only [Act.put, List.setIfInBounds_toArray, List.set_cons_zero, List.set_cons_succ]
  refine wpAnyH_take (i := 7) (v := ?v7a) rfl (by kernel_rfl) (by kernel_rfl) (by kernel_rfl) (fun _ _ _ h => h) (Or.inl ⟨by rfl, ?hy7a⟩) (by assumption) ?rest7a
  case hy7a => (intro zz hSw; (try dsimp only at hSw); go_simp; (try with_reducible rfl))
  change wpAnyH _ _ _ _ _ _ _ (Act.put _ (some 33) _) _
  simp only [Act.put, List.setIfInBounds_toArray, List.set_cons_zero, List.set_cons_succ]
  refine wpAnyH_take (i := 8) (v := ?v8a) rfl (by kernel_rfl) (by kernel_rfl) (by kernel_rfl) (fun _ _ _ h => h) (Or.inl ⟨by rfl, ?hy8a⟩) (by assumption) ?rest8a
  case hy8a => (intro zz hSw; (try dsimp only at hSw); go_simp; (try with_reducible rfl))
  change wpAnyH _ _ _ _ _ _ _ (Act.put _ (some 6) _) _
  simp only [Act.put, List.setIfInBounds_toArray, List.set_cons_zero, List.set_cons_succ]
  refine wpAnyH_take (i := 9) (v := ?v9a) rfl (by kernel_rfl) (by kernel_rfl) (by kernel_rfl) (fun _ _ _ h => h) (Or.inl ⟨by rfl, ?hy9a⟩) (by assumption) ?rest9a
  case hy9a => (intro zz hSw; (try dsimp only at hSw); go_simp; (try with_reducible rfl))
  change wpAnyH _ _ _ _ _ _ _ (Act.put _ (some 7) _) _
  simp only [Act.put, List.setIfInBounds_toArray, List.set_cons_zero, List.set_cons_succ]
  refine wpAnyH_done (by kernel_rfl) ?_ _
  have BR := Lib.hid hHeld.2.2.2.2.2; clear hHeld SOA hq
  generalize hw3 : w' = w3 at *
  clear hw3
  have B3 := Lib.hid (bel_tr B2.out BR.out (Nat.le_refl _)); clear BR B2
  have O3 := Lib.hid O2.out; clear O2
  have AP := Lib.hid O3.out.low
  have HPN := putP_len l c
  obtain ⟨PL, ok, hPL⟩ : ∃ PL ok, putP l c = (PL, ok) := ⟨_, _, rfl⟩
  have hpost : ∀ w e w', PutPost l c w e w' → ∃ v, e = .returned (.tuple #[v, .bool ok]) ∧ OwC w.heap.size w' v PL ∧ Below w.heap.size w w' := fun w e w' h => by unfold PutPost at h; rw [hPL] at h; exact h
  have HPOST := Lib.hid hpost; clear hpost
  rw [hPL] at HPN O3 ⊢
  simp only at HPN O3 ⊢
  generalize hpn : PL.length = p at HPN
  clear hPL
  have hself : (!(ok == ok)) = false := by simp
  have hself2 : (ok != ok) = false := by simp
  go_wp2_with fail
  refine (toCellS_is w3 a cap l n hn (HV.out.below B3.out) hll).mono ?_; rintro e w4 ⟨gx, rfl, gxl, ox, b4⟩
  have B4 := Lib.hid (bel_tr B3.out b4 (Nat.le_refl _))
  have O4 := Lib.hid (O3.out.next b4)
  have OX4 := Lib.hid ox; clear b4 ox O3
  obtain ⟨x0, x1, x2, x3, x4, -⟩ := HX.out.next B4.out
  go_wp2_with fail
  refine (toCell_any c.r c.b c.t c.v c.g _).mono ?_; rintro e w5 ⟨rfl, b5⟩
  have B5 := Lib.hid (bel_tr B4.out b5 (Nat.le_refl _))
  have O5 := Lib.hid (O4.out.next b5)
  have OX5 := Lib.hid (OX4.out.next b5); clear b5 O4 OX4 x0 x1 x2 x3 x4 B4
  have gxh : gx < w5.heap.size := OX5.out.low gx rfl
  go_wp2_with fail
  refine (implPut_own w5 (c := c) OX5.out hn (by omega)).mono ?_; intro e w6 hp6
  obtain ⟨vg, rfl, og, b6⟩ := HPOST.out _ _ _ hp6
  clear hp6
  have B6 := Lib.hid (bel_tr B5.out b6 (Nat.le_refl _))
  have O6 := Lib.hid (O5.out.next b6)
  have OX6 := Lib.hid (OX5.out.next b6)
  have OG6 := Lib.hid og
  have AG := Lib.hid og.lt; clear b6 og O5 OX5 B5
  go_wp2_with fail
  refine (eqS_own w6 OG6.out O6.out (by omega)).mono ?_; rintro e w7 ⟨rfl, b7⟩
  have B7 := Lib.hid (bel_tr B6.out b7 (Nat.le_refl _))
  have O7 := Lib.hid (O6.out.next b7)
  have OX7 := Lib.hid (OX6.out.next b7)
  have OG7 := Lib.hid (OG6.out.next b7); clear b7 O6 OX6 OG6 B6
  go_wp2_with fail
  refine (toCellS_is w7 a cap l n hn (HV.out.below B7.out) hll).mono ?_; rintro e w8 ⟨gy, rfl, -, oy, b8⟩
  have B8 := Lib.hid (bel_tr B7.out b8 (Nat.le_refl _))
  have O8 := Lib.hid (O7.out.next b8)
  have OX8 := Lib.hid (OX7.out.next b8)
  have OG8 := Lib.hid (OG7.out.next b8)
  have OY8 := Lib.hid oy; clear b8 O7 OX7 OG7 B7 oy
  go_wp2_with fail
  refine (eqS_own w8 OX8.out OY8.out (by omega)).mono ?_; rintro e w9 ⟨rfl, b9⟩
  have B9 := Lib.hid (bel_tr B8.out b9 (Nat.le_refl _))
  have O9 := Lib.hid (O8.out.next b9)
  have OX9 := Lib.hid (OX8.out.next b9)
  have OG9 := Lib.hid (OG8.out.next b9); clear b9 O8 OX8 OG8 B8 OY8
  go_wp2_with fail
  refine (mark_own w9 OX9.out hn (by omega)).mono ?_; rintro e w10 ⟨rfl, g10, -⟩
  have r0 : w0.heap.size ≤ gx := Nat.le_trans B3.out.size gxl
  have B10 := Lib.hid (B9.out.grown g10 B9.out.size (fun j hj => by cases hj; exact r0))
  have O10 := Lib.hid (O9.out.grown g10 (fun k hk e => by cases e; have h : gx < w3.heap.size := AP.out _ hk; omega))
  have OG10 := Lib.hid (OG9.out.grown g10 (fun k hk e => by cases e; have h : w5.heap.size ≤ gx := AG.out _ hk; omega)); clear g10 O9 OX9 OG9 B9
  have k0 : ¬ ((1 + 5 * n : Nat) : Int) < 0 := by omega
  generalize ((1 + 5 * n : Nat) : Int) = kk at k0 ⊢
  go_wp2_with fail
  refine (eqS_own w10 OG10.out O10.out (by omega)).mono ?_; rintro e w11 ⟨rfl, b11⟩
  have B11 := Lib.hid (bel_tr B10.out b11 (Nat.le_refl _))
  have O11 := Lib.hid (O10.out.next b11)
  have OG11 := Lib.hid (OG10.out.next b11); clear b11 O10 OG10 B10
  have m0 : ¬ ((1 + 5 * p : Nat) : Int) < 0 := by omega
  have m1 : (((1 + 5 * p : Nat) : Int) != ((1 + 5 * p : Nat) : Int)) = false := by simp
  go_wp2_with fail
  refine (mark_own w11 OG11.out hpn (by omega)).mono ?_; rintro e w12 ⟨rfl, g12, PM, hPM, hMk, og12⟩
  have s5 : w3.heap.size ≤ w5.heap.size := by omega
  have B12 := Lib.hid (B11.out.grown g12 B11.out.size (fun j hj => by have := AG.out j hj; have := B3.out.size; omega))
  have O12 := Lib.hid (O11.out.grown g12 (fun k hk e => by have := AP.out _ hk; have := AG.out _ e; omega))
  have OG12 := Lib.hid og12
  have HMK := Lib.hid hMk; clear g12 og12 hMk O11 OG11 B11
  have HH := Lib.hid (fun w (h : OwC w5.heap.size w vg PM) => held_own (n := p) w h hPM HMK.out (by omega))
  generalize ((1 + 5 * p : Nat) : Int) = mm at m0 m1 HH ⊢
  go_wp2_with fail
  refine (HH.out w12 OG12.out).mono ?_; rintro e w13 ⟨rfl, b13⟩
  have B13 := Lib.hid (bel_tr B12.out b13 (Nat.le_refl _))
  have O13 := Lib.hid (O12.out.next b13)
  have OG13 := Lib.hid (OG12.out.next b13); clear b13 O12 OG12 B12
  obtain ⟨x0, x1, x2, x3, x4, hq⟩ := HX.out.next B13.out
  have SOB := Lib.hid (show ∀ z, Below w13.heap.size w13 z → (z.cell? ⟨q, 0, none⟩ = some (.string c.r) ∧ z.cell? ⟨q, 1, none⟩ = some (.string c.b) ∧ z.cell? ⟨q, 2, none⟩ = some (.int .i64 c.t) ∧ z.cell? ⟨q, 3, none⟩ = some (.int .i64 c.v) ∧ z.cell? ⟨q, 4, none⟩ = some (.bool c.g) ∧ Below w13.heap.size w13 z) from fun z hz => ⟨coc hz hq x0, coc hz hq x1, coc hz hq x2, coc hz hq x3, coc hz hq x4,  hz⟩)
  clear x0 x1 x2 x3 x4
  go_wp2_with fail
  refine wp_region_held_drew (S := fun z => z.cell? ⟨q, 0, none⟩ = some (.string c.r) ∧ z.cell? ⟨q, 1, none⟩ = some (.string c.b) ∧ z.cell? ⟨q, 2, none⟩ = some (.int .i64 c.t) ∧ z.cell? ⟨q, 3, none⟩ = some (.int .i64 c.v) ∧ z.cell? ⟨q, 4, none⟩ = some (.bool c.g) ∧ Below w13.heap.size w13 z) (by kernel_rfl) (SOB.out _ (Below.refl _ _).drew) (fun hHeld => ?_)
  refine wpAnyH_take (i := 0) (v := ?v0b) rfl (by kernel_rfl) (by kernel_rfl) (by kernel_rfl) (fun _ _ _ h => h) (Or.inl ⟨by rfl, ?hy0b⟩) (by assumption) ?rest0b
  case hy0b => (intro zz hSw; (try dsimp only at hSw); go_simp; (try with_reducible rfl))
  change wpAnyH _ _ _ _ _ _ _ (Act.put _ (some 85) _) _
  simp only [Act.put, List.setIfInBounds_toArray, List.set_cons_zero, List.set_cons_succ]
  refine wpAnyH_take (i := 2) (v := ?v2b) rfl (by kernel_rfl) (by kernel_rfl) (by kernel_rfl) (fun _ _ _ h => h) (Or.inl ⟨by rfl, ?hy2b⟩) (by assumption) ?rest2b
  case hy2b => (intro zz hSw; (try dsimp only at hSw); go_simp; (try with_reducible rfl))
  change wpAnyH _ _ _ _ _ _ _ (Act.put _ (some 87) _) _
  simp only [Act.put, List.setIfInBounds_toArray, List.set_cons_zero, List.set_cons_succ]
  refine wpAnyH_ready (rs := [1]) (by kernel_rfl) (by simp) (AllReadyH.cons rfl (fun K hK => ?_) (AllReadyH.nil))
  go_simp
  refine (toCellS_is _ a cap l n hn (HV.out.below (bel_tr B13.out hHeld.2.2.2.2.2 (Nat.le_refl _))) hll).mono ?_; rintro e w' ⟨g1, rfl, -, o1, bel⟩
  have O1 := Lib.hid o1; clear o1
  refine hK.out _ _ (SOB.out _ (bel_tr hHeld.2.2.2.2.2 bel (Nat.le_refl _))) (fun hHeld => ?_)
  clear hK K bel
  refine wpAnyH_ready (rs := [3]) (by kernel_rfl) (by simp) (AllReadyH.cons rfl (fun K hK => ?_) (AllReadyH.nil))
  go_simp
  refine (toCell_any c.r c.b c.t c.v c.g _).mono ?_; rintro e w' ⟨rfl, bel⟩
  have O1 := Lib.hid (O1.out.next bel)
  refine hK.out _ _ (SOB.out _ (bel_tr hHeld.2.2.2.2.2 bel (Nat.le_refl _))) (fun hHeld => ?_)
  clear hK K bel
  refine wpAnyH_ready (rs := [4]) (by kernel_rfl) (by simp) (AllReadyH.cons rfl (fun K hK => ?_) (AllReadyH.nil))
  go_simp
  refine (implPut_own _ (c := c) O1.out hn (by omega)).mono ?_; intro e w' hp2
  obtain ⟨vb, rfl, o2, bel⟩ := HPOST.out _ _ _ hp2
  clear hp2
  have O2 := Lib.hid (o2.mono hHeld.2.2.2.2.2.size); clear o2 O1
  refine hK.out _ _ (SOB.out _ (bel_tr hHeld.2.2.2.2.2 bel (Nat.le_refl _))) (fun hHeld => ?_)
  clear hK K bel
  refine wpAnyH_take (i := 5) (v := ?v5b) rfl (by kernel_rfl) (by kernel_rfl) (by kernel_rfl) (fun _ _ _ h => h) (Or.inl ⟨by rfl, ?hy5b⟩) (by assumption) ?rest5b
  case hy5b => (intro zz hSw; (try dsimp only at hSw); go_simp; (try with_reducible rfl))
  change wpAnyH _ _ _ _ _ _ _ (Act.put _ (some 84) _) _
  simp only [Act.put, List.setIfInBounds_toArray, List.set_cons_zero, List.set_cons_succ]
  refine wpAnyH_take (i := 6) (v := ?v6b) rfl (by kernel_rfl) (by kernel_rfl) (by kernel_rfl) (fun _ _ _ h => h) (Or.inl ⟨by rfl, ?hy6b⟩) (by assumption) ?rest6b
  case hy6b => (intro zz hSw; (try dsimp only at hSw); go_simp; (try with_reducible rfl))
  change wpAnyH _ _ _ _ _ _ _ (Act.put _ (some 90) _) _
  simp only [Act.put, List.setIfInBounds_toArray, List.set_cons_zero, List.set_cons_succ]
  refine wpAnyH_take (i := 7) (v := ?v7b) rfl (by kernel_rfl) (by kernel_rfl) (by kernel_rfl) (fun _ _ _ h => h) (Or.inl ⟨by rfl, ?hy7b⟩) (by assumption) ?rest7b
  case hy7b => (intro zz hSw; (try dsimp only at hSw); go_simp; (try with_reducible rfl))
  change wpAnyH _ _ _ _ _ _ _ (Act.put _ (some 91) _) _
  simp only [Act.put, List.setIfInBounds_toArray, List.set_cons_zero, List.set_cons_succ]
  refine wpAnyH_take (i := 8) (v := ?v8b) rfl (by kernel_rfl) (by kernel_rfl) (by kernel_rfl) (fun _ _ _ h => h) (Or.inl ⟨by rfl, ?hy8b⟩) (by assumption) ?rest8b
  case hy8b => (intro zz hSw; (try dsimp only at hSw); go_simp; (try with_reducible rfl))
  change wpAnyH _ _ _ _ _ _ _ (Act.put _ (some 14) _) _
  simp only [Act.put, List.setIfInBounds_toArray, List.set_cons_zero, List.set_cons_succ]
  refine wpAnyH_take (i := 9) (v := ?v9b) rfl (by kernel_rfl) (by kernel_rfl) (by kernel_rfl) (fun _ _ _ h => h) (Or.inl ⟨by rfl, ?hy9b⟩) (by assumption) ?rest9b
  case hy9b => (intro zz hSw; (try dsimp only at hSw); go_simp; (try with_reducible rfl))
  change wpAnyH _ _ _ _ _ _ _ (Act.put _ (some 15) _) _
  simp only [Act.put, List.setIfInBounds_toArray, List.set_cons_zero, List.set_cons_succ]
  refine wpAnyH_done (by kernel_rfl) ?_ _
  have BR := Lib.hid hHeld.2.2.2.2.2; clear hHeld SOB hq
  generalize hw14 : w' = w14 at *
  clear hw14
  have O14 := Lib.hid (O13.out.next BR.out)
  have OG14 := Lib.hid (OG13.out.next BR.out)
  have B14 := Lib.hid (bel_tr B13.out BR.out (Nat.le_refl _)); clear BR B13 O13 OG13
  go_wp2_with fail
  refine (eqS_own w14 O2.out O14.out (by omega)).mono ?_; rintro e w15 ⟨rfl, b15⟩
  have B15 := Lib.hid (bel_tr B14.out b15 (Nat.le_refl _))
  have OG15 := Lib.hid (OG14.out.next b15); clear b15 O14 OG14 B14
  go_wp2_with fail
  refine (HH.out w15 OG15.out).mono ?_; rintro e w16 ⟨rfl, b16⟩
  have B16 := Lib.hid (bel_tr B15.out b16 (Nat.le_refl _)); clear b16
  go_wp2_with fail
  go_ret
  exact ⟨rfl, bel_tr HB0.out B16.out (Nat.le_refl _)⟩

set_option maxRecDepth 100000 in
theorem lifted (os : Os) (started : os.Started) (H : Type) (enc : TypeId × Value → H) :
    ReturnsInHanded {} Try.checked os 9 .any (Rows.fnExactPutCellSpec.pre6 enc Try.prog Try.f9 Rows.fnExactPutCellRow.domain false) (Rows.fnExactPutCellSpec.post enc Try.prog Try.f9 false true false false) := by
  refine returnsInHanded_of_change (C := Try.checked) own started (by kernel_rfl) Try.func9
    (ChangeSpec.witness6 (enc := enc) (C := Try.checked) false ⟨#[], #[.slice none 0 0, .agg #[.string ByteArray.empty, .string ByteArray.empty, .int .i64 0, .int .i64 0, .bool false]], []⟩ 8 (by kernel_rfl) (by kernel_rfl) (by kernel_rfl) (by kernel_rfl)) ?_
  intro W base args ds gs before hval0 hW hcnd _
  have hval : ∀ (j : Nat) t v, Try.f9.params[j]? = some t → args[j]? = some v → Value.okWide Try.prog W .any base t v := hval0
  have hW' := hW
  obtain ⟨p, q, hA0, hV, rfl, hfz, hnd⟩ := hW
  have hA : DataW.TrodAll enc Try.prog W 0 (fun _ => true) true Try.f9.params.toList args.toList ds p := hA0
  rw [Try.params9] at hA hval
  obtain ⟨v0, vs0, d0, ds0, p0, q0, hargs, rfl, rfl, h0, r0⟩ := trodAll_cons hA
  obtain ⟨v1, vs1, d1, ds1, p1, q1, rfl, rfl, rfl, h1, r1⟩ := trodAll_cons r0
  obtain ⟨rfl, rfl, rfl⟩ := trodAll_nil r1
  obtain rfl : args = #[v0, v1] := by cases args; simp_all
  obtain ⟨rfl, rfl⟩ := trodVars_none hV
  have k0 := h0
  have lt0 : ∀ x ∈ p0, x.block < W.heap.size := by obtain ⟨m, hm⟩ := k0; exact DataW.trod_lt m _ _ _ hm
  have k1 := h1
  have lt1 : ∀ x ∈ p1, x.block < W.heap.size := by obtain ⟨m, hm⟩ := k1; exact DataW.trod_lt m _ _ _ hm
  clear hA0 hval0
  obtain ⟨a, cap, l, rfl, hvw, hsz⟩ := Fr.openCells (hval 0 60 v0 rfl rfl) h0
  obtain ⟨r, b, t, u, g, rfl, hr, hb, -, -⟩ := Fr.openCell (hval 1 56 v1 rfl rfl) h1
  unfold maxLen at hr hb hsz
  refine (walk W a cap l ⟨r, b, t, u, g⟩ _ rfl hvw (fun c hc => by have := hsz c hc; omega) (by omega) (by omega)).mono fun e W' ⟨he, bel⟩ => ?_
  subst he
  exact ⟨_, rfl, _, _, _, [], _, [], hW', trodAll_mk1 (shut_bool Try.underlying4 _), (trodAll_cons_mk (Below.trod laidOut (by kernel_rfl) (of_decide_eq_true (by kernel_rfl)) k0 bel lt0) (trodAll_cons_mk (Below.trod laidOut (by kernel_rfl) (of_decide_eq_true (by kernel_rfl)) k1 bel lt1) trodAll_mk0)), rfl, bel.frame _, fun h => by cases h⟩

theorem over : Rows.fnExactPutCellRow.holds Try.pinned (OpenSpec.ofChange Rows.fnExactPutCellSpec) :=
  OpenClaim.holds_of_wide 9 Try.f9 rfl rfl rfl rfl rfl rfl rfl ⟨rfl, rfl, rfl, rfl, rfl⟩ rfl rfl rfl rfl rfl (by kernel_rfl) Try.func9 (by kernel_rfl)
    (of_decide_eq_true (by kernel_rfl)) (by unfold Func.isWrapper; first | (rw [if_pos (by decide +kernel)]; kernel_rfl) | (rw [if_neg (by decide +kernel)]; exact ⟨rfl, rfl⟩))
    (fun os started H enc _ => lifted os started H enc)

theorem proved : Rows.FnExactPutCellSaid := over
#print axioms proved
end Go.Proofs.Ytkkpokfekbdigaa.fnExactPutCell
