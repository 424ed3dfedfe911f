/-
  Proved: for every input the Go function laws.FnExactValueIn returns true, and each argument reads afterwards as it read before.
  Conditions: none beyond those of the given row.
-/
import Derived.Test.YtcloejmakjdgcaaRows
import Derived.WalkKit
import Derived.ProofKit
import Derived.OpenShut
import Derived.ShutString
import Derived.Carry
import Derived.Below
import Derived.Test.YtcloejmakjdgcaaJc
import Derived.Test.YtcloejmakjdgcaaJo
namespace Go.Proofs.Ytcloejmakjdgcaa.fnExactValueIn
open Go.ChangeShapes Go.WideShapes Go.ChangeAt Go.RowKit
open Go.ChangeMaps (open_string shut_string)
set_option linter.unusedVariables false

theorem laidOut : laidOutB Try.prog = true := by kernel_rfl
theorem own : ownKnob Try.prog.godebug = none := by kernel_rfl

open Kp Cl
set_option maxHeartbeats 4000000 in
set_option maxRecDepth 100000 in
theorem walk (w : World) (a : Option Addr) (ca : Nat) (l : List Bi) (n : Nat) (s : ByteArray) (hn : l.length = n) (hv : VwI w a ca l) (hm : ∀ c ∈ l, c.n.size ≤ 9223372036854775807) (hs : s.size ≤ 9223372036854775807) :
    Calls Try.prog 11 #[.slice a n ca, .string s] w fun e w' => e = .returned (.bool true) ∧ Below w.heap.size w w' := by
  have HV := Lib.hid hv; clear hv
  by_cases hss : 1048576 < s.size
  · have i0 : (1048576 : Int) < (s.size : Int) := by omega
    go_enter Try.func11, Try.ntmps11
    go_wp2_with fail
    go_ret
    exact ⟨rfl, Below.refl _ _⟩
  have i0 : ¬ (1048576 : Int) < (s.size : Int) := by omega
  have HSZ := Lib.hid (szBinS_any w a ca l n 1048576 hn HV.out hm (by decide) (by decide))
  go_enter Try.func11, Try.ntmps11
  go_wp2_with fail
  refine HSZ.out.mono ?_; rintro e w1 ⟨z, rfl, b1, hz⟩
  have B1 := Lib.hid b1; clear b1 HSZ
  rcases hz with hz | ⟨z0, z1, hzl, hma⟩
  · go_wp2_with fail
    go_ret
    exact ⟨rfl, B1.out⟩
  have hll : n ≤ 1048576 := by omega
  have q0 : ¬ z < 0 := by omega
  clear z0 z1 hzl hma
  go_wp2_with fail
  refine (toBinS_is w1 a ca l n hn (HV.out.below B1.out) hll).mono ?_; rintro e w2 ⟨g2, rfl, -, o2, b2⟩
  have B2 := Lib.hid (bel_tr B1.out b2 (Nat.le_refl _)); clear b2
  have HC := Lib.hid (specValue_any w2 _ _ l n s hn o2.vw (by omega)); clear o2
  have HC2 := Lib.hid (fun w4 {g : Nat} (h : VwI w4 (some ⟨g, 0, none⟩) n l) => implValue_any w4 _ _ l n s hn h (by omega))
  generalize (valL s l).1 = x1 at *
  generalize (valL s l).2 = x2 at *
  have q1 : (x1 != x1) = false := by simp
  have q2 : (x2 != x2) = false := by simp
  go_wp2_with fail
  refine HC.out.mono ?_; rintro e w3 ⟨rfl, b3⟩
  have B3 := Lib.hid (bel_tr B2.out b3 (Nat.le_refl _)); clear b3 HC
  go_wp2_with fail
  refine (toBinS_is w3 a ca l n hn (HV.out.below B3.out) hll).mono ?_; rintro e w4 ⟨g4, rfl, -, o4, b4⟩
  have B4 := Lib.hid (bel_tr B3.out b4 (Nat.le_refl _)); clear b4
  have O4 := Lib.hid o4; clear o4
  go_wp2_with fail
  refine (HC2.out w4 O4.out.vw).mono ?_; rintro e w5 ⟨rfl, b5⟩
  have B5 := Lib.hid (bel_tr B4.out b5 (Nat.le_refl _))
  have O5 := Lib.hid (O4.out.next b5); clear b5 O4
  go_wp2_with fail
  refine (toBinS_is w5 a ca l n hn (HV.out.below B5.out) hll).mono ?_; rintro e w6 ⟨g6, rfl, -, o6, b6⟩
  have B6 := Lib.hid (bel_tr B5.out b6 (Nat.le_refl _))
  have O6 := Lib.hid (O5.out.next b6)
  have P6 := Lib.hid o6; clear b6 o6
  go_wp2_with fail
  refine (eqI_own w6 O6.out P6.out (by rw [hn]; omega)).mono ?_; rintro e w7 ⟨rfl, b7⟩
  have B7 := Lib.hid (bel_tr B6.out b7 (Nat.le_refl _)); clear b7
  go_wp2_with fail
  go_ret
  exact ⟨rfl, B7.out⟩

set_option maxRecDepth 100000 in
theorem lifted (os : Os) (started : os.Started) (H : Type) (enc : TypeId × Value → H) :
    ReturnsInHanded {} Try.checked os 11 .any (Rows.fnExactValueInSpec.pre6 enc Try.prog Try.f11 Rows.fnExactValueInRow.domain false) (Rows.fnExactValueInSpec.post enc Try.prog Try.f11 false true false false) := by
  refine returnsInHanded_of_change (C := Try.checked) own started (by kernel_rfl) Try.func11
    (ChangeSpec.witness6 (enc := enc) (C := Try.checked) false ⟨#[], #[.slice none 0 0, .string ByteArray.empty], []⟩ 8 (by kernel_rfl) (by kernel_rfl) (by kernel_rfl) (by kernel_rfl)) ?_
  intro W base args ds gs before hval0 hW hcnd _
  have hval : ∀ (j : Nat) t v, Try.f11.params[j]? = some t → args[j]? = some v → Value.okWide Try.prog W .any base t v := hval0
  have hW' := hW
  obtain ⟨p, q, hA0, hV, rfl, hfz, hnd⟩ := hW
  have hA : DataW.TrodAll enc Try.prog W 0 (fun _ => true) true Try.f11.params.toList args.toList ds p := hA0
  rw [Try.params11] at hA hval
  obtain ⟨v0, vs0, d0, ds0, p0, q0, hargs, rfl, rfl, h0, r0⟩ := trodAll_cons hA
  obtain ⟨v1, vs1, d1, ds1, p1, q1, rfl, rfl, rfl, h1, r1⟩ := trodAll_cons r0
  obtain ⟨rfl, rfl, rfl⟩ := trodAll_nil r1
  obtain rfl : args = #[v0, v1] := by cases args; simp_all
  obtain ⟨rfl, rfl⟩ := trodVars_none hV
  have k0 := h0
  have lt0 : ∀ x ∈ p0, x.block < W.heap.size := by obtain ⟨m, hm⟩ := k0; exact DataW.trod_lt m _ _ _ hm
  have k1 := h1
  have lt1 : ∀ x ∈ p1, x.block < W.heap.size := by obtain ⟨m, hm⟩ := k1; exact DataW.trod_lt m _ _ _ hm
  clear hA0 hval0
  obtain ⟨a, ca, l, rfl, hvw, hsz⟩ := Fr.openBins (hval 0 69 v0 rfl rfl) h0
  unfold maxLen at hsz
  obtain ⟨s, rfl, -, -, hs3⟩ := open_string Try.underlying9 (hval 1 9 v1 rfl rfl) h1
  unfold maxLen at hs3
  refine (walk W a ca l _ s rfl hvw (fun c hc => by have := hsz c hc; omega) (by omega)).mono fun e W' ⟨he, bel⟩ => ?_
  subst he
  exact ⟨_, rfl, _, _, _, [], _, [], hW', trodAll_mk1 (shut_bool Try.underlying4 _), (trodAll_cons_mk (Below.trod laidOut (by kernel_rfl) (of_decide_eq_true (by kernel_rfl)) k0 bel lt0) (trodAll_cons_mk (Below.trod laidOut (by kernel_rfl) (of_decide_eq_true (by kernel_rfl)) k1 bel lt1) trodAll_mk0)), rfl, bel.frame _, fun h => by cases h⟩

theorem over : Rows.fnExactValueInRow.holds Try.pinned (OpenSpec.ofChange Rows.fnExactValueInSpec) :=
  OpenClaim.holds_of_wide 11 Try.f11 rfl rfl rfl rfl rfl rfl rfl ⟨rfl, rfl, rfl, rfl, rfl⟩ rfl rfl rfl rfl rfl (by kernel_rfl) Try.func11 (by kernel_rfl)
    (of_decide_eq_true (by kernel_rfl)) (by unfold Func.isWrapper; first | (rw [if_pos (by decide +kernel)]; kernel_rfl) | (rw [if_neg (by decide +kernel)]; exact ⟨rfl, rfl⟩))
    (fun os started H enc _ => lifted os started H enc)

theorem proved : Rows.FnExactValueInSaid := over
#print axioms proved
end Go.Proofs.Ytcloejmakjdgcaa.fnExactValueIn
