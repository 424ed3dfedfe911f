/-
  Proved: for every input the Go function laws.FnExactSame returns true, and each argument reads afterwards as it read before.
  Conditions: none beyond those of the given row.
-/
import Derived.Test.YtfnnoehpahdgcaaRows
import Derived.WalkKit
import Derived.ProofKit
import Derived.OpenShut
import Derived.ShutString
import Derived.Carry
import Derived.Below
import Derived.Test.YtfnnoehpahdgcaaHa
import Derived.Test.YtfnnoehpahdgcaaJn
namespace Go.Proofs.Ytfnnoehpahdgcaa.fnExactSame
open Go.ChangeShapes Go.WideShapes Go.ChangeAt Go.RowKit
open Go.ChangeMaps (open_string shut_string)
set_option linter.unusedVariables false

theorem laidOut : laidOutB Try.prog = true := by kernel_rfl
theorem own : ownKnob Try.prog.godebug = none := by kernel_rfl

open Kp Cl
set_option maxHeartbeats 8000000 in
set_option maxRecDepth 100000 in
theorem walk (w : World) (c1 f1 c2 f2 : Int) (a b : Option Addr) (ca cb : Nat) (l m : List Bi) (n n2 : Nat) (hn : l.length = n) (hn2 : m.length = n2) (hv : VwI w a ca l) (hu : VwI w b cb m) (hm : ∀ c ∈ l, c.n.size ≤ 9223372036854775807) (hm2 : ∀ c ∈ m, c.n.size ≤ 9223372036854775807) :
    Calls Try.prog 3 #[.agg #[.int .i64 c1, .slice a n ca, .int .i64 f1], .agg #[.int .i64 c2, .slice b n2 cb, .int .i64 f2]] w fun e w' => e = .returned (.bool true) ∧ Below w.heap.size w w' := by
  have hbl := bel2 w (.cells #[.int .i64 c1, .slice a n ca, .int .i64 f1] 24) (.cells #[.int .i64 c2, .slice b n2 cb, .int .i64 f2] 24)
  have N1 := Tri.made (.int .i64 c1) (.slice a n ca) (.int .i64 f1) w 24
  have N2 := Tri.made (.int .i64 c2) (.slice b n2 cb) (.int .i64 f2) (w.alloc (.cells #[.int .i64 c1, .slice a n ca, .int .i64 f1] 24)) 24
  have KA := Lib.hid (N1.below (bel1 _ (.cells #[.int .i64 c2, .slice b n2 cb, .int .i64 f2] 24)) N1.2.2)
  rw [World.size_alloc] at N2
  have KB := Lib.hid N2
  have B1 := Lib.hid hbl
  have HV := Lib.hid hv
  have HU := Lib.hid hu
  have HM2 := Lib.hid hm2; clear hm2
  have HSZ := Lib.hid (szEnd_any _ c1 a ca l f1 n 1048576 hn (HV.out.below hbl) hm (by decide) (by decide))
  clear N1 N2 hbl hv hu
  obtain ⟨w1, hw0⟩ : ∃ w1, (w.alloc (.cells #[.int .i64 c1, .slice a n ca, .int .i64 f1] 24)).alloc (.cells #[.int .i64 c2, .slice b n2 cb, .int .i64 f2] 24) = w1 := ⟨_, rfl⟩
  rw [hw0] at KA KB B1 HSZ
  go_enter Try.func3, Try.ntmps3
  have Z1 := Lib.hid B1.out.size
  obtain ⟨⟨kA0, kA1, kA2⟩, ⟨kA3, kA4, kA5⟩, -⟩ := id KA.out
  obtain ⟨⟨kB0, kB1, kB2⟩, ⟨kB3, kB4, kB5⟩, -⟩ := id KB.out
  go_wp2_with fail
  clear hw0
  clear kA0 kA1 kA2 kA3 kA4 kA5 kB0 kB1 kB2 kB3 kB4 kB5
  refine HSZ.out.mono ?_; rintro e w2 ⟨z, rfl, b2, hz⟩
  have B2 := Lib.hid (bel_tr B1.out b2 (Nat.le_refl _))
  have Z2 := Lib.hid b2.size
  have KA := Lib.hid (KA.out.below b2 KA.out.2.2)
  have KB := Lib.hid (KB.out.below b2 KB.out.2.2)
  clear b2 HSZ hm
  rcases hz with hz | ⟨z0, z1, hzl, hma⟩
  · go_wp2_with fail
    go_ret
    exact ⟨rfl, B2.out⟩
  have hll : n ≤ 1048576 := by omega
  have q0 : ¬ z < 0 := by omega
  have HSB := Lib.hid (szEnd_any w2 c2 b cb m f2 n2 z hn2 (HU.out.below B2.out) HM2.out z0 z1)
  clear hma hzl
  obtain ⟨⟨kA0, kA1, kA2⟩, ⟨kA3, kA4, kA5⟩, -⟩ := id KA.out
  obtain ⟨⟨kB0, kB1, kB2⟩, ⟨kB3, kB4, kB5⟩, -⟩ := id KB.out
  go_wp2_with fail
  clear kA0 kA1 kA2 kA3 kA4 kA5 kB0 kB1 kB2 kB3 kB4 kB5
  refine HSB.out.mono ?_; rintro e w3 ⟨y, rfl, b3, hy⟩
  have B3 := Lib.hid (bel_tr B2.out b3 (Nat.le_refl _))
  have Z3 := Lib.hid b3.size
  have KA := Lib.hid (KA.out.below b3 KA.out.2.2)
  have KB := Lib.hid (KB.out.below b3 KB.out.2.2)
  clear b3 HSB
  rcases hy with hy | ⟨y0, y1, hyl, hyma⟩
  · go_wp2_with fail
    go_ret
    exact ⟨rfl, B3.out⟩
  have hbb : n2 ≤ 1048576 := by omega
  have q1 : ¬ y < 0 := by omega
  have HS := Lib.hid (fun w a b ca cb h1 h2 => specSame_any w c1 f1 c2 f2 a b ca cb l m n n2 hn hn2 h1 h2 (by omega))
  have HI := Lib.hid (fun w a b ca cb h1 h2 => implSame_any w c1 f1 c2 f2 a b ca cb l m n n2 hn hn2 h1 h2 (by omega))
  generalize sameE c1 l f1 c2 m f2 = xx at *
  clear z0 z1 y0 y1 hyl hyma q0
  obtain ⟨⟨kA0, kA1, kA2⟩, ⟨kA3, kA4, kA5⟩, -⟩ := id KA.out
  obtain ⟨⟨kB0, kB1, kB2⟩, ⟨kB3, kB4, kB5⟩, -⟩ := id KB.out
  go_wp2_with fail
  clear kA0 kA1 kA2 kA3 kA4 kA5 kB0 kB1 kB2 kB3 kB4 kB5
  obtain ⟨⟨hA0, hA1, hA2⟩, -, hAq⟩ := id KA.out
  obtain ⟨⟨hB0, hB1, hB2⟩, -, hBq⟩ := id KB.out
  have SOF := Lib.hid (show ∀ z, Below w3.heap.size w3 z → (z.cell? ⟨w.heap.size, 0, none⟩ = some (.int .i64 c1) ∧ z.cell? ⟨w.heap.size, 1, none⟩ = some (.slice a n ca) ∧ z.cell? ⟨w.heap.size, 2, none⟩ = some (.int .i64 f1) ∧ z.cell? ⟨w.heap.size + 1, 0, none⟩ = some (.int .i64 c2) ∧ z.cell? ⟨w.heap.size + 1, 1, none⟩ = some (.slice b n2 cb) ∧ z.cell? ⟨w.heap.size + 1, 2, none⟩ = some (.int .i64 f2) ∧ Below w3.heap.size w3 z) from fun z hz => ⟨coc hz hAq hA0, coc hz hAq hA1, coc hz hAq hA2, coc hz hBq hB0, coc hz hBq hB1, coc hz hBq hB2,  hz⟩)
  clear hA0 hA1 hA2 hB0 hB1 hB2
  refine wp_region_held_drew (S := fun z => z.cell? ⟨w.heap.size, 0, none⟩ = some (.int .i64 c1) ∧ z.cell? ⟨w.heap.size, 1, none⟩ = some (.slice a n ca) ∧ z.cell? ⟨w.heap.size, 2, none⟩ = some (.int .i64 f1) ∧ z.cell? ⟨w.heap.size + 1, 0, none⟩ = some (.int .i64 c2) ∧ z.cell? ⟨w.heap.size + 1, 1, none⟩ = some (.slice b n2 cb) ∧ z.cell? ⟨w.heap.size + 1, 2, none⟩ = some (.int .i64 f2) ∧ Below w3.heap.size w3 z) (by kernel_rfl) (SOF.out _ (Below.refl _ _).drew) (fun hHeld => ?_)
  refine wpAnyH_take (i := 0) (v := ?v0a) rfl (by kernel_rfl) (by kernel_rfl) (by kernel_rfl) (fun _ _ _ h => h) (Or.inl ⟨by rfl, ?hy0a⟩) (by assumption) ?rest0a
  case hy0a => (intro zz hSw; (try dsimp only at hSw); go_simp; (try with_reducible rfl))
  change wpAnyH _ _ _ _ _ _ _ (Act.put _ (some 20) _) _
  simp only [Act.put, List.setIfInBounds_toArray, List.set_cons_zero, List.set_cons_succ]
  refine wpAnyH_take (i := 2) (v := ?v2a) rfl (by kernel_rfl) (by kernel_rfl) (by kernel_rfl) (fun _ _ _ h => h) (Or.inl ⟨by rfl, ?hy2a⟩) (by assumption) ?rest2a
  case hy2a => (intro zz hSw; (try dsimp only at hSw); go_simp; (try with_reducible rfl))
  change wpAnyH _ _ _ _ _ _ _ (Act.put _ (some 22) _) _
  simp only [Act.put, List.setIfInBounds_toArray, List.set_cons_zero, List.set_cons_succ]
  refine wpAnyH_ready (rs := [1]) (by kernel_rfl) (by simp) (AllReadyH.cons rfl (fun K hK => ?_) (AllReadyH.nil))
  go_simp
  refine (toEnd_is _ c1 a ca l f1 n hn (HV.out.below (bel_tr B3.out hHeld.2.2.2.2.2.2 (Nat.le_refl _))) hll).mono ?_; rintro e w4 ⟨ga, rfl, o, bel⟩
  have OA := Lib.hid o; clear o
  have BA := Lib.hid bel
  refine hK.out _ _ (SOF.out _ (bel_tr hHeld.2.2.2.2.2.2 bel (Nat.le_refl _))) (fun hHeld => ?_)
  clear hK K bel
  refine wpAnyH_ready (rs := [3]) (by kernel_rfl) (by simp) (AllReadyH.cons rfl (fun K hK => ?_) (AllReadyH.nil))
  go_simp
  refine (toEnd_is _ c2 b cb m f2 n2 hn2 (HU.out.below (bel_tr B3.out hHeld.2.2.2.2.2.2 (Nat.le_refl _))) hbb).mono ?_; rintro e w5 ⟨gb, rfl, o, bel⟩
  have OB := Lib.hid o; clear o
  have OA2 := Lib.hid (OA.out.next bel); clear OA BA
  refine hK.out _ _ (SOF.out _ (bel_tr hHeld.2.2.2.2.2.2 bel (Nat.le_refl _))) (fun hHeld => ?_)
  clear hK K bel
  refine wpAnyH_ready (rs := [4]) (by kernel_rfl) (by simp) (AllReadyH.cons rfl (fun K hK => ?_) (AllReadyH.nil))
  go_simp
  refine (HS.out _ _ _ _ _ OA2.out.vw OB.out.vw).mono ?_; rintro e w6 ⟨rfl, bel⟩
  clear OA2 OB
  refine hK.out _ _ (SOF.out _ (bel_tr hHeld.2.2.2.2.2.2 bel (Nat.le_refl _))) (fun hHeld => ?_)
  clear hK K bel
  refine wpAnyH_take (i := 5) (v := ?v5a) rfl (by kernel_rfl) (by kernel_rfl) (by kernel_rfl) (fun _ _ _ h => h) (Or.inl ⟨by rfl, ?hy5a⟩) (by assumption) ?rest5a
  case hy5a => (intro zz hSw; (try dsimp only at hSw); go_simp; (try with_reducible rfl))
  change wpAnyH _ _ _ _ _ _ _ (Act.put _ (some 6) _) _
  simp only [Act.put, List.setIfInBounds_toArray, List.set_cons_zero, List.set_cons_succ]
  refine wpAnyH_done (by kernel_rfl) ?_ _
  have bx := hHeld.2.2.2.2.2.2; clear hHeld SOF
  clear hAq hBq
  have B6 := Lib.hid (bel_tr B3.out bx (Nat.le_refl _))
  have Z6 := Lib.hid bx.size
  have KA := Lib.hid (KA.out.below bx KA.out.2.2)
  have KB := Lib.hid (KB.out.below bx KB.out.2.2)
  clear bx
  have q2 : (xx != xx) = false := by simp
  obtain ⟨⟨kA0, kA1, kA2⟩, ⟨kA3, kA4, kA5⟩, -⟩ := id KA.out
  obtain ⟨⟨kB0, kB1, kB2⟩, ⟨kB3, kB4, kB5⟩, -⟩ := id KB.out
  go_wp2_with fail
  clear kA0 kA1 kA2 kA3 kA4 kA5 kB0 kB1 kB2 kB3 kB4 kB5
  refine (toEnd_is w6 c1 a ca l f1 n hn (HV.out.below B6.out) hll).mono ?_; rintro e w7 ⟨gx, rfl, o, b7⟩
  have TX := Lib.hid (show ∀ k, (.slice (some ⟨gx, 0, none⟩) n n : Value).ownBlock = some k → w6.heap.size ≤ k from OwI.lt o)
  have UX := Lib.hid (show ∀ k, (.slice (some ⟨gx, 0, none⟩) n n : Value).ownBlock = some k → w7.heap.size > k from OwI.low o)
  have B7 := Lib.hid (bel_tr B6.out b7 (Nat.le_refl _))
  have Z7 := Lib.hid b7.size
  have KA := Lib.hid (KA.out.below b7 KA.out.2.2)
  have KB := Lib.hid (KB.out.below b7 KB.out.2.2)
  have OX := Lib.hid o; clear o b7
  obtain ⟨⟨kA0, kA1, kA2⟩, ⟨kA3, kA4, kA5⟩, -⟩ := id KA.out
  obtain ⟨⟨kB0, kB1, kB2⟩, ⟨kB3, kB4, kB5⟩, -⟩ := id KB.out
  have b8 := bel1 w7 (.cells #[.int .i64 c1, .slice (some ⟨gx, 0, none⟩) n n, .int .i64 f1] 29)
  have B8 := Lib.hid (bel_tr B7.out b8 (Nat.le_refl _))
  have Z8 := Lib.hid b8.size
  have OX := Lib.hid (OX.out.next b8)
  have KA := Lib.hid (KA.out.below b8 KA.out.2.2)
  have KB := Lib.hid (KB.out.below b8 KB.out.2.2)
  clear b8
  have KX := Lib.hid (Tri.made (.int .i64 c1) (.slice (some ⟨gx, 0, none⟩) n n) (.int .i64 f1) w7 29)
  obtain ⟨⟨mA0, mA1, mA2⟩, ⟨mA3, mA4, mA5⟩, -⟩ := id KA.out
  obtain ⟨⟨mB0, mB1, mB2⟩, ⟨mB3, mB4, mB5⟩, -⟩ := id KB.out
  obtain ⟨⟨mX0, mX1, mX2⟩, ⟨mX3, mX4, mX5⟩, -⟩ := id KX.out
  go_wp2_with fail
  clear kA0 kA1 kA2 kA3 kA4 kA5 kB0 kB1 kB2 kB3 kB4 kB5 mA0 mA1 mA2 mA3 mA4 mA5 mB0 mB1 mB2 mB3 mB4 mB5 mX0 mX1 mX2 mX3 mX4 mX5
  generalize w7.alloc (.cells #[.int .i64 c1, .slice (some ⟨gx, 0, none⟩) n n, .int .i64 f1] 29) = w8 at B8 Z8 OX KA KB KX ⊢
  refine (toEnd_is w8 c2 b cb m f2 n2 hn2 (HU.out.below B8.out) hbb).mono ?_; rintro e w9 ⟨gy, rfl, o, b9⟩
  have TY := Lib.hid (show ∀ k, (.slice (some ⟨gy, 0, none⟩) n2 n2 : Value).ownBlock = some k → w8.heap.size ≤ k from OwI.lt o)
  have UY := Lib.hid (show ∀ k, (.slice (some ⟨gy, 0, none⟩) n2 n2 : Value).ownBlock = some k → w9.heap.size > k from OwI.low o)
  have B9 := Lib.hid (bel_tr B8.out b9 (Nat.le_refl _))
  have Z9 := Lib.hid b9.size
  have OX := Lib.hid (OX.out.next b9)
  have KA := Lib.hid (KA.out.below b9 KA.out.2.2)
  have KB := Lib.hid (KB.out.below b9 KB.out.2.2)
  have KX := Lib.hid (KX.out.below b9 KX.out.2.2)
  have OY := Lib.hid o; clear o b9
  obtain ⟨⟨kA0, kA1, kA2⟩, ⟨kA3, kA4, kA5⟩, -⟩ := id KA.out
  obtain ⟨⟨kB0, kB1, kB2⟩, ⟨kB3, kB4, kB5⟩, -⟩ := id KB.out
  obtain ⟨⟨kX0, kX1, kX2⟩, ⟨kX3, kX4, kX5⟩, -⟩ := id KX.out
  have b10 := bel1 w9 (.cells #[.int .i64 c2, .slice (some ⟨gy, 0, none⟩) n2 n2, .int .i64 f2] 29)
  have B10 := Lib.hid (bel_tr B9.out b10 (Nat.le_refl _))
  have Z10 := Lib.hid b10.size
  have OX := Lib.hid (OX.out.next b10)
  have OY := Lib.hid (OY.out.next b10)
  have KA := Lib.hid (KA.out.below b10 KA.out.2.2)
  have KB := Lib.hid (KB.out.below b10 KB.out.2.2)
  have KX := Lib.hid (KX.out.below b10 KX.out.2.2)
  clear b10
  have KY := Lib.hid (Tri.made (.int .i64 c2) (.slice (some ⟨gy, 0, none⟩) n2 n2) (.int .i64 f2) w9 29)
  obtain ⟨⟨mA0, mA1, mA2⟩, ⟨mA3, mA4, mA5⟩, -⟩ := id KA.out
  obtain ⟨⟨mB0, mB1, mB2⟩, ⟨mB3, mB4, mB5⟩, -⟩ := id KB.out
  obtain ⟨⟨mX0, mX1, mX2⟩, ⟨mX3, mX4, mX5⟩, -⟩ := id KX.out
  obtain ⟨⟨mY0, mY1, mY2⟩, ⟨mY3, mY4, mY5⟩, -⟩ := id KY.out
  go_wp2_with fail
  clear kA0 kA1 kA2 kA3 kA4 kA5 kB0 kB1 kB2 kB3 kB4 kB5 kX0 kX1 kX2 kX3 kX4 kX5 mA0 mA1 mA2 mA3 mA4 mA5 mB0 mB1 mB2 mB3 mB4 mB5 mX0 mX1 mX2 mX3 mX4 mX5 mY0 mY1 mY2 mY3 mY4 mY5
  generalize w9.alloc (.cells #[.int .i64 c2, .slice (some ⟨gy, 0, none⟩) n2 n2, .int .i64 f2] 29) = w10 at B10 Z10 OX OY KA KB KX KY ⊢
  refine (HI.out w10 _ _ _ _ OX.out.vw OY.out.vw).mono ?_; rintro e w11 ⟨rfl, b11⟩
  have B11 := Lib.hid (bel_tr B10.out b11 (Nat.le_refl _))
  have Z11 := Lib.hid b11.size
  have OX := Lib.hid (OX.out.next b11)
  have OY := Lib.hid (OY.out.next b11)
  have KA := Lib.hid (KA.out.below b11 KA.out.2.2)
  have KB := Lib.hid (KB.out.below b11 KB.out.2.2)
  have KX := Lib.hid (KX.out.below b11 KX.out.2.2)
  have KY := Lib.hid (KY.out.below b11 KY.out.2.2)
  clear b11
  obtain ⟨⟨kA0, kA1, kA2⟩, ⟨kA3, kA4, kA5⟩, -⟩ := id KA.out
  obtain ⟨⟨kB0, kB1, kB2⟩, ⟨kB3, kB4, kB5⟩, -⟩ := id KB.out
  obtain ⟨⟨kX0, kX1, kX2⟩, ⟨kX3, kX4, kX5⟩, -⟩ := id KX.out
  obtain ⟨⟨kY0, kY1, kY2⟩, ⟨kY3, kY4, kY5⟩, -⟩ := id KY.out
  go_wp2_with fail
  clear kA0 kA1 kA2 kA3 kA4 kA5 kB0 kB1 kB2 kB3 kB4 kB5 kX0 kX1 kX2 kX3 kX4 kX5 kY0 kY1 kY2 kY3 kY4 kY5
  obtain ⟨⟨hX0, hX1, hX2⟩, -, hXq⟩ := id KX.out
  obtain ⟨⟨hA0, hA1, hA2⟩, -, hAq⟩ := id KA.out
  have SOF := Lib.hid (show ∀ z, Below w11.heap.size w11 z → (z.cell? ⟨w7.heap.size, 0, none⟩ = some (.int .i64 c1) ∧ z.cell? ⟨w7.heap.size, 1, none⟩ = some (.slice (some ⟨gx, 0, none⟩) n n) ∧ z.cell? ⟨w7.heap.size, 2, none⟩ = some (.int .i64 f1) ∧ z.cell? ⟨w.heap.size, 0, none⟩ = some (.int .i64 c1) ∧ z.cell? ⟨w.heap.size, 1, none⟩ = some (.slice a n ca) ∧ z.cell? ⟨w.heap.size, 2, none⟩ = some (.int .i64 f1) ∧ Below w11.heap.size w11 z) from fun z hz => ⟨coc hz hXq hX0, coc hz hXq hX1, coc hz hXq hX2, coc hz hAq hA0, coc hz hAq hA1, coc hz hAq hA2,  hz⟩)
  clear hX0 hX1 hX2 hA0 hA1 hA2
  refine wp_region_held_drew (S := fun z => z.cell? ⟨w7.heap.size, 0, none⟩ = some (.int .i64 c1) ∧ z.cell? ⟨w7.heap.size, 1, none⟩ = some (.slice (some ⟨gx, 0, none⟩) n n) ∧ z.cell? ⟨w7.heap.size, 2, none⟩ = some (.int .i64 f1) ∧ z.cell? ⟨w.heap.size, 0, none⟩ = some (.int .i64 c1) ∧ z.cell? ⟨w.heap.size, 1, none⟩ = some (.slice a n ca) ∧ z.cell? ⟨w.heap.size, 2, none⟩ = some (.int .i64 f1) ∧ Below w11.heap.size w11 z) (by kernel_rfl) (SOF.out _ (Below.refl _ _).drew) (fun hHeld => ?_)
  refine wpAnyH_take (i := 0) (v := ?v0b) rfl (by kernel_rfl) (by kernel_rfl) (by kernel_rfl) (fun _ _ _ h => h) (Or.inl ⟨by rfl, ?hy0b⟩) (by assumption) ?rest0b
  case hy0b => (intro zz hSw; (try dsimp only at hSw); go_simp; (try with_reducible rfl))
  change wpAnyH _ _ _ _ _ _ _ (Act.put _ (some 35) _) _
  simp only [Act.put, List.setIfInBounds_toArray, List.set_cons_zero, List.set_cons_succ]
  refine wpAnyH_take (i := 1) (v := ?v1b) rfl (by kernel_rfl) (by kernel_rfl) (by kernel_rfl) (fun _ _ _ h => h) (Or.inl ⟨by rfl, ?hy1b⟩) (by assumption) ?rest1b
  case hy1b => (intro zz hSw; (try dsimp only at hSw); go_simp; (try with_reducible rfl))
  change wpAnyH _ _ _ _ _ _ _ (Act.put _ (some 36) _) _
  simp only [Act.put, List.setIfInBounds_toArray, List.set_cons_zero, List.set_cons_succ]
  refine wpAnyH_ready (rs := [2]) (by kernel_rfl) (by simp) (AllReadyH.cons rfl (fun K hK => ?_) (AllReadyH.nil))
  go_simp
  refine (toEnd_is _ c1 a ca l f1 n hn (HV.out.below (bel_tr B11.out hHeld.2.2.2.2.2.2 (Nat.le_refl _))) hll).mono ?_; rintro e w12 ⟨gt, rfl, o, bel⟩
  have OT1 := Lib.hid o; clear o
  have OX2 := Lib.hid (OX.out.next (bel_tr hHeld.2.2.2.2.2.2 bel (Nat.le_refl _)))
  refine hK.out _ _ (SOF.out _ (bel_tr hHeld.2.2.2.2.2.2 bel (Nat.le_refl _))) (fun hHeld => ?_)
  clear hK K bel
  refine wpAnyH_ready (rs := [3]) (by kernel_rfl) (by simp) (AllReadyH.cons rfl (fun K hK => ?_) (AllReadyH.nil))
  go_simp
  refine (eqEnd_same _ c1 f1 _ _ _ _ l n hn OX2.out.vw OT1.out.vw (by omega)).mono ?_; rintro e w13 ⟨rfl, bel⟩
  clear OX2 OT1
  refine hK.out _ _ (SOF.out _ (bel_tr hHeld.2.2.2.2.2.2 bel (Nat.le_refl _))) (fun hHeld => ?_)
  clear hK K bel
  refine wpAnyH_take (i := 4) (v := ?v4b) rfl (by kernel_rfl) (by kernel_rfl) (by kernel_rfl) (fun _ _ _ h => h) (Or.inl ⟨by rfl, ?hy4b⟩) (by assumption) ?rest4b
  case hy4b => (intro zz hSw; (try dsimp only at hSw); go_simp; (try with_reducible rfl))
  change wpAnyH _ _ _ _ _ _ _ (Act.put _ (some 39) _) _
  simp only [Act.put, List.setIfInBounds_toArray, List.set_cons_zero, List.set_cons_succ]
  refine wpAnyH_done (by kernel_rfl) ?_ _
  have bx := hHeld.2.2.2.2.2.2; clear hHeld SOF
  clear hXq hAq
  have B13 := Lib.hid (bel_tr B11.out bx (Nat.le_refl _))
  have Z13 := Lib.hid bx.size
  have OX := Lib.hid (OX.out.next bx)
  have OY := Lib.hid (OY.out.next bx)
  have KA := Lib.hid (KA.out.below bx KA.out.2.2)
  have KB := Lib.hid (KB.out.below bx KB.out.2.2)
  have KX := Lib.hid (KX.out.below bx KX.out.2.2)
  have KY := Lib.hid (KY.out.below bx KY.out.2.2)
  clear bx
  clear OX
  clear KX
  obtain ⟨⟨kA0, kA1, kA2⟩, ⟨kA3, kA4, kA5⟩, -⟩ := id KA.out
  obtain ⟨⟨kB0, kB1, kB2⟩, ⟨kB3, kB4, kB5⟩, -⟩ := id KB.out
  obtain ⟨⟨kY0, kY1, kY2⟩, ⟨kY3, kY4, kY5⟩, -⟩ := id KY.out
  go_wp2_with fail
  clear kA0 kA1 kA2 kA3 kA4 kA5 kB0 kB1 kB2 kB3 kB4 kB5 kY0 kY1 kY2 kY3 kY4 kY5
  obtain ⟨⟨hY0, hY1, hY2⟩, -, hYq⟩ := id KY.out
  obtain ⟨⟨hB0, hB1, hB2⟩, -, hBq⟩ := id KB.out
  have SOF := Lib.hid (show ∀ z, Below w13.heap.size w13 z → (z.cell? ⟨w9.heap.size, 0, none⟩ = some (.int .i64 c2) ∧ z.cell? ⟨w9.heap.size, 1, none⟩ = some (.slice (some ⟨gy, 0, none⟩) n2 n2) ∧ z.cell? ⟨w9.heap.size, 2, none⟩ = some (.int .i64 f2) ∧ z.cell? ⟨w.heap.size + 1, 0, none⟩ = some (.int .i64 c2) ∧ z.cell? ⟨w.heap.size + 1, 1, none⟩ = some (.slice b n2 cb) ∧ z.cell? ⟨w.heap.size + 1, 2, none⟩ = some (.int .i64 f2) ∧ Below w13.heap.size w13 z) from fun z hz => ⟨coc hz hYq hY0, coc hz hYq hY1, coc hz hYq hY2, coc hz hBq hB0, coc hz hBq hB1, coc hz hBq hB2,  hz⟩)
  clear hY0 hY1 hY2 hB0 hB1 hB2
  refine wp_region_held_drew (S := fun z => z.cell? ⟨w9.heap.size, 0, none⟩ = some (.int .i64 c2) ∧ z.cell? ⟨w9.heap.size, 1, none⟩ = some (.slice (some ⟨gy, 0, none⟩) n2 n2) ∧ z.cell? ⟨w9.heap.size, 2, none⟩ = some (.int .i64 f2) ∧ z.cell? ⟨w.heap.size + 1, 0, none⟩ = some (.int .i64 c2) ∧ z.cell? ⟨w.heap.size + 1, 1, none⟩ = some (.slice b n2 cb) ∧ z.cell? ⟨w.heap.size + 1, 2, none⟩ = some (.int .i64 f2) ∧ Below w13.heap.size w13 z) (by kernel_rfl) (SOF.out _ (Below.refl _ _).drew) (fun hHeld => ?_)
  refine wpAnyH_take (i := 0) (v := ?v0c) rfl (by kernel_rfl) (by kernel_rfl) (by kernel_rfl) (fun _ _ _ h => h) (Or.inl ⟨by rfl, ?hy0c⟩) (by assumption) ?rest0c
  case hy0c => (intro zz hSw; (try dsimp only at hSw); go_simp; (try with_reducible rfl))
  change wpAnyH _ _ _ _ _ _ _ (Act.put _ (some 40) _) _
  simp only [Act.put, List.setIfInBounds_toArray, List.set_cons_zero, List.set_cons_succ]
  refine wpAnyH_take (i := 1) (v := ?v1c) rfl (by kernel_rfl) (by kernel_rfl) (by kernel_rfl) (fun _ _ _ h => h) (Or.inl ⟨by rfl, ?hy1c⟩) (by assumption) ?rest1c
  case hy1c => (intro zz hSw; (try dsimp only at hSw); go_simp; (try with_reducible rfl))
  change wpAnyH _ _ _ _ _ _ _ (Act.put _ (some 41) _) _
  simp only [Act.put, List.setIfInBounds_toArray, List.set_cons_zero, List.set_cons_succ]
  refine wpAnyH_ready (rs := [2]) (by kernel_rfl) (by simp) (AllReadyH.cons rfl (fun K hK => ?_) (AllReadyH.nil))
  go_simp
  refine (toEnd_is _ c2 b cb m f2 n2 hn2 (HU.out.below (bel_tr B13.out hHeld.2.2.2.2.2.2 (Nat.le_refl _))) hbb).mono ?_; rintro e w14 ⟨gu, rfl, o, bel⟩
  have OT1 := Lib.hid o; clear o
  have OY2 := Lib.hid (OY.out.next (bel_tr hHeld.2.2.2.2.2.2 bel (Nat.le_refl _)))
  refine hK.out _ _ (SOF.out _ (bel_tr hHeld.2.2.2.2.2.2 bel (Nat.le_refl _))) (fun hHeld => ?_)
  clear hK K bel
  refine wpAnyH_ready (rs := [3]) (by kernel_rfl) (by simp) (AllReadyH.cons rfl (fun K hK => ?_) (AllReadyH.nil))
  go_simp
  refine (eqEnd_same _ c2 f2 _ _ _ _ m n2 hn2 OY2.out.vw OT1.out.vw (by omega)).mono ?_; rintro e w15 ⟨rfl, bel⟩
  clear OY2 OT1
  refine hK.out _ _ (SOF.out _ (bel_tr hHeld.2.2.2.2.2.2 bel (Nat.le_refl _))) (fun hHeld => ?_)
  clear hK K bel
  refine wpAnyH_take (i := 4) (v := ?v4c) rfl (by kernel_rfl) (by kernel_rfl) (by kernel_rfl) (fun _ _ _ h => h) (Or.inl ⟨by rfl, ?hy4c⟩) (by assumption) ?rest4c
  case hy4c => (intro zz hSw; (try dsimp only at hSw); go_simp; (try with_reducible rfl))
  change wpAnyH _ _ _ _ _ _ _ (Act.put _ (some 44) _) _
  simp only [Act.put, List.setIfInBounds_toArray, List.set_cons_zero, List.set_cons_succ]
  refine wpAnyH_done (by kernel_rfl) ?_ _
  have bx := hHeld.2.2.2.2.2.2; clear hHeld SOF
  clear hYq hBq
  have B15 := Lib.hid (bel_tr B13.out bx (Nat.le_refl _))
  have Z15 := Lib.hid bx.size
  have OY := Lib.hid (OY.out.next bx)
  have KA := Lib.hid (KA.out.below bx KA.out.2.2)
  have KB := Lib.hid (KB.out.below bx KB.out.2.2)
  have KY := Lib.hid (KY.out.below bx KY.out.2.2)
  clear bx
  go_wp2_with fail
  go_ret
  exact ⟨rfl, B15.out⟩

set_option maxRecDepth 100000 in
theorem lifted (os : Os) (started : os.Started) (H : Type) (enc : TypeId × Value → H) :
    ReturnsInHanded {} Try.checked os 3 .any (Rows.fnExactSameSpec.pre6 enc Try.prog Try.f3 Rows.fnExactSameRow.domain false) (Rows.fnExactSameSpec.post enc Try.prog Try.f3 false true false false) := by
  refine returnsInHanded_of_change (C := Try.checked) own started (by kernel_rfl) Try.func3
    (ChangeSpec.witness6 (enc := enc) (C := Try.checked) false ⟨#[], #[.agg #[.int .i64 0, .slice none 0 0, .int .i64 0], .agg #[.int .i64 0, .slice none 0 0, .int .i64 0]], []⟩ 8 (by kernel_rfl) (by kernel_rfl) (by kernel_rfl) (by kernel_rfl)) ?_
  intro W base args ds gs before hval0 hW hcnd _
  have hval : ∀ (j : Nat) t v, Try.f3.params[j]? = some t → args[j]? = some v → Value.okWide Try.prog W .any base t v := hval0
  have hW' := hW
  obtain ⟨p, q, hA0, hV, rfl, hfz, hnd⟩ := hW
  have hA : DataW.TrodAll enc Try.prog W 0 (fun _ => true) true Try.f3.params.toList args.toList ds p := hA0
  rw [Try.params3] at hA hval
  obtain ⟨v0, vs0, d0, ds0, p0, q0, hargs, rfl, rfl, h0, r0⟩ := trodAll_cons hA
  obtain ⟨v1, vs1, d1, ds1, p1, q1, rfl, rfl, rfl, h1, r1⟩ := trodAll_cons r0
  obtain ⟨rfl, rfl, rfl⟩ := trodAll_nil r1
  obtain rfl : args = #[v0, v1] := by cases args; simp_all
  obtain ⟨rfl, rfl⟩ := trodVars_none hV
  have k0 := h0
  have lt0 : ∀ x ∈ p0, x.block < W.heap.size := by obtain ⟨m, hm⟩ := k0; exact DataW.trod_lt m _ _ _ hm
  have k1 := h1
  have lt1 : ∀ x ∈ p1, x.block < W.heap.size := by obtain ⟨m, hm⟩ := k1; exact DataW.trod_lt m _ _ _ hm
  clear hA0 hval0
  obtain ⟨c1, a, ca, l, f1, rfl, hvw, hsz, -, -⟩ := Fr.openEnd (hval 0 24 v0 rfl rfl) h0
  obtain ⟨c2, b, cb, m, f2, rfl, huw, hsu, -, -⟩ := Fr.openEnd (hval 1 24 v1 rfl rfl) h1
  unfold maxLen at hsz hsu
  refine (walk W c1 f1 c2 f2 a b ca cb l m _ _ rfl rfl hvw huw (fun c hc => by have := hsz c hc; omega) (fun c hc => by have := hsu c hc; omega)).mono fun e W' ⟨he, bel⟩ => ?_
  subst he
  exact ⟨_, rfl, _, _, _, [], _, [], hW', trodAll_mk1 (shut_bool Try.underlying4 _), (trodAll_cons_mk (Below.trod laidOut (by kernel_rfl) (of_decide_eq_true (by kernel_rfl)) k0 bel lt0) (trodAll_cons_mk (Below.trod laidOut (by kernel_rfl) (of_decide_eq_true (by kernel_rfl)) k1 bel lt1) trodAll_mk0)), rfl, bel.frame _, fun h => by cases h⟩

theorem over : Rows.fnExactSameRow.holds Try.pinned (OpenSpec.ofChange Rows.fnExactSameSpec) :=
  OpenClaim.holds_of_wide 3 Try.f3 rfl rfl rfl rfl rfl rfl rfl ⟨rfl, rfl, rfl, rfl, rfl⟩ rfl rfl rfl rfl rfl (by kernel_rfl) Try.func3 (by kernel_rfl)
    (of_decide_eq_true (by kernel_rfl)) (by unfold Func.isWrapper; first | (rw [if_pos (by decide +kernel)]; kernel_rfl) | (rw [if_neg (by decide +kernel)]; exact ⟨rfl, rfl⟩))
    (fun os started H enc _ => lifted os started H enc)

theorem proved : Rows.FnExactSameSaid := over
#print axioms proved
end Go.Proofs.Ytfnnoehpahdgcaa.fnExactSame
