/-
  Proved: for every input the Go function laws.FnExactFind returns true, and each argument reads afterwards as it read before.
  Conditions: none beyond those of the given row.
-/
import Derived.Test.YtkkpokfekbdigaaRows
import Derived.WalkKit
import Derived.ProofKit
import Derived.OpenShut
import Derived.ShutString
import Derived.Carry
import Derived.Below
import Derived.Test.YtkkpokfekbdigaaCs
import Derived.Test.YtkkpokfekbdigaaCo
import Derived.Test.YtkkpokfekbdigaaFr
namespace Go.Proofs.Ytkkpokfekbdigaa.fnExactFind
open Go.ChangeShapes Go.WideShapes Go.ChangeAt Go.RowKit
open Go.ChangeMaps (open_string shut_string)
set_option linter.unusedVariables false

theorem laidOut : laidOutB Try.prog = true := by kernel_rfl
theorem own : ownKnob Try.prog.godebug = none := by kernel_rfl

open Kp Cl
theorem mod_of {l : List Cel} {n : Int} (h : ∀ c ∈ l, (c.r.size : Int) ≤ n ∧ (c.b.size : Int) ≤ n) (hn : n ≤ 1048576) : ∀ c ∈ l, c.mod := fun c hc => by
  have := h c hc
  exact ⟨by omega, by omega⟩
theorem spec_own (w : World) {B : Nat} {v : Value} {l : List Cel} {K x : Cel} {y : Bool} {n : Nat} (ho : OwC B w v l) (hn : l.length = n) (hm : ∀ c ∈ l, c.mod) (hK : K.mod) (hl : n ≤ 4194304) (h : findP l K = (x, y)) :
    Calls Try.prog 27 #[v, .string K.r, .string K.b, .int .i64 K.t] w fun e w' => e = .returned (.tuple #[.agg #[.string x.r, .string x.b, .int .i64 x.t, .int .i64 x.v, .bool x.g], .bool y]) ∧ Below w.heap.size w w' := by
  obtain ⟨a, ca, rfl, h1, -⟩ := ho.view
  have := specFind_any w a ca l K n hn h1 hm hK hl
  rw [h] at this; rw [hn]; exact this
theorem impl_own (w : World) {B : Nat} {v : Value} {l : List Cel} {K x : Cel} {y : Bool} {n : Nat} (ho : OwC B w v l) (hn : l.length = n) (hl : n ≤ 4194304) (h : findP l K = (x, y)) :
    Calls Try.prog 20 #[v, .string K.r, .string K.b, .int .i64 K.t] w fun e w' => e = .returned (.tuple #[.agg #[.string x.r, .string x.b, .int .i64 x.t, .int .i64 x.v, .bool x.g], .bool y]) ∧ Below w.heap.size w w' := by
  obtain ⟨a, ca, rfl, h1, -⟩ := ho.view
  have := implFind_any w a ca l K n hn h1 hl
  rw [h] at this; rw [hn]; exact this
set_option maxHeartbeats 4000000 in
theorem walk (w : World) (a : Option Addr) (cap : Nat) (l : List Cel) (K : Cel) (n : Nat) (hn : l.length = n) (hv : Vw w a cap l) (hm : ∀ c ∈ l, c.r.size ≤ 9223372036854775807 ∧ c.b.size ≤ 9223372036854775807) :
    Calls Try.prog 10 #[.slice a n cap, .string K.r, .string K.b, .int .i64 K.t] w fun e w' => e = .returned (.bool true) ∧ Below w.heap.size w w' := by
  have HV := Lib.hid hv; clear hv
  have HM := Lib.hid hm; clear hm
  by_cases h1 : 1048576 < K.r.size
  · have q1 : (1048576 : Int) < (K.r.size : Int) := by omega
    go_enter Try.func10, Try.ntmps10
    go_wp2_with fail
    go_ret
    exact ⟨rfl, Below.refl _ _⟩
  have q1 : ¬ (1048576 : Int) < (K.r.size : Int) := by omega
  by_cases h2 : 1048576 < K.b.size
  · have q2 : (1048576 : Int) < (K.b.size : Int) := by omega
    go_enter Try.func10, Try.ntmps10
    go_wp2_with fail
    go_ret
    exact ⟨rfl, Below.refl _ _⟩
  have q2 : ¬ (1048576 : Int) < (K.b.size : Int) := by omega
  have HKM := Lib.hid (show K.mod from ⟨by omega, by omega⟩)
  have HSZ := Lib.hid (szCellS_any w a cap l 1048576 HV.out HM.out (by decide) (by decide))
  rw [hn] at HSZ
  go_enter Try.func10, Try.ntmps10
  go_wp2_with fail
  refine HSZ.out.mono ?_; rintro e w1 ⟨z, rfl, b1, hz⟩
  have B1 := Lib.hid b1; clear b1 HSZ
  rcases hz with hz | ⟨z0, z1, hzl, hmm⟩
  · go_wp2_with fail
    go_ret
    exact ⟨rfl, B1.out⟩
  have hll : n ≤ 1048576 := by omega
  have HMM := Lib.hid (mod_of hmm (by decide)); clear hmm
  have q0 : ¬ z < 0 := by omega
  obtain ⟨x, y, hxy⟩ : ∃ x y, findP l K = (x, y) := ⟨_, _, rfl⟩
  have HXY := Lib.hid hxy; clear hxy
  go_wp2_with fail
  refine (toCellS_is w1 a cap l n hn (HV.out.below B1.out) hll).mono ?_; rintro e w2 ⟨g2, rfl, -, o2, b2⟩
  have B2 := Lib.hid (bel_tr B1.out b2 (Nat.le_refl _))
  have O2 := Lib.hid o2; clear b2 o2 B1
  go_wp2_with fail
  refine (spec_own w2 (K := K) O2.out hn HMM.out HKM.out (by omega) HXY.out).mono ?_; rintro e w3 ⟨rfl, b3⟩
  have B3 := Lib.hid (bel_tr B2.out b3 (Nat.le_refl _)); clear b3 B2 O2
  have X3 := Lib.hid (Bc.made x.r x.b x.t x.v x.g w3 28)
  have BA := Lib.hid (bel1 w3 (.cells #[.string x.r, .string x.b, .int .i64 x.t, .int .i64 x.v, .bool x.g] 28))
  go_wp2_with fail
  generalize w3.alloc (Obj.cells #[Value.string x.r, Value.string x.b, Value.int IntKind.i64 x.t, Value.int IntKind.i64 x.v, Value.bool x.g] 28) = w4 at X3 BA ⊢
  have B4 := Lib.hid (bel_tr B3.out BA.out (Nat.le_refl _)); clear B3 BA
  generalize w3.heap.size = q at X3 ⊢
  refine (toCellS_is w4 a cap l n hn (HV.out.below B4.out) hll).mono ?_; rintro e w5 ⟨g5, rfl, -, o5, b5⟩
  have B5 := Lib.hid (bel_tr B4.out b5 (Nat.le_refl _))
  have X5 := Lib.hid (X3.out.next b5)
  have O5 := Lib.hid o5; clear b5 o5 B4 X3
  go_wp2_with fail
  refine (impl_own w5 (K := K) O5.out hn (by omega) HXY.out).mono ?_; rintro e w6 ⟨rfl, b6⟩
  have B6 := Lib.hid (bel_tr B5.out b6 (Nat.le_refl _))
  have X6 := Lib.hid (X5.out.next b6)
  have O6 := Lib.hid (O5.out.next b6); clear b6 B5 X5 O5
  have X7 := Lib.hid (Bc.made x.r x.b x.t x.v x.g w6 28)
  have BC := Lib.hid (bel1 w6 (.cells #[.string x.r, .string x.b, .int .i64 x.t, .int .i64 x.v, .bool x.g] 28))
  obtain ⟨t0, t1, t2, t3, t4, -⟩ := X6.out.next BC.out
  have hself : (!(y == y)) = false := by simp
  have hself2 : (y != y) = false := by simp
  go_wp2_with fail
  refine (eqCell_same x.r x.b x.t x.v x.g _).mono ?_; rintro e w8 ⟨rfl, b8⟩
  have B8 := Lib.hid (bel_tr (bel_tr B6.out BC.out (Nat.le_refl _)) b8 (Nat.le_refl _))
  have O8 := Lib.hid ((O6.out.next BC.out).next b8); clear b8 t0 t1 t2 t3 t4
  go_wp2_with fail
  refine (toCellS_is w8 a cap l n hn (HV.out.below B8.out) hll).mono ?_; rintro e w9 ⟨g9, rfl, -, o9, b9⟩
  have B9 := Lib.hid (bel_tr B8.out b9 (Nat.le_refl _))
  have O9 := Lib.hid (O8.out.next b9)
  have P9 := Lib.hid o9; clear b9 o9
  go_wp2_with fail
  refine (eqS_own w9 O9.out P9.out (by omega)).mono ?_; rintro e w10 ⟨rfl, b10⟩
  have B10 := Lib.hid (bel_tr B9.out b10 (Nat.le_refl _)); clear b10
  go_wp2_with fail
  go_ret
  exact ⟨rfl, B10.out⟩

set_option maxRecDepth 100000 in
theorem lifted (os : Os) (started : os.Started) (H : Type) (enc : TypeId × Value → H) :
    ReturnsInHanded {} Try.checked os 10 .any (Rows.fnExactFindSpec.pre6 enc Try.prog Try.f10 Rows.fnExactFindRow.domain false) (Rows.fnExactFindSpec.post enc Try.prog Try.f10 false true false false) := by
  refine returnsInHanded_of_change (C := Try.checked) own started (by kernel_rfl) Try.func10
    (ChangeSpec.witness6 (enc := enc) (C := Try.checked) false ⟨#[], #[.slice none 0 0, .string ByteArray.empty, .string ByteArray.empty, .int .i64 0], []⟩ 8 (by kernel_rfl) (by kernel_rfl) (by kernel_rfl) (by kernel_rfl)) ?_
  intro W base args ds gs before hval0 hW hcnd _
  have hval : ∀ (j : Nat) t v, Try.f10.params[j]? = some t → args[j]? = some v → Value.okWide Try.prog W .any base t v := hval0
  have hW' := hW
  obtain ⟨p, q, hA0, hV, rfl, hfz, hnd⟩ := hW
  have hA : DataW.TrodAll enc Try.prog W 0 (fun _ => true) true Try.f10.params.toList args.toList ds p := hA0
  rw [Try.params10] at hA hval
  obtain ⟨v0, vs0, d0, ds0, p0, q0, hargs, rfl, rfl, h0, r0⟩ := trodAll_cons hA
  obtain ⟨v1, vs1, d1, ds1, p1, q1, rfl, rfl, rfl, h1, r1⟩ := trodAll_cons r0
  obtain ⟨v2, vs2, d2, ds2, p2, q2, rfl, rfl, rfl, h2, r2⟩ := trodAll_cons r1
  obtain ⟨v3, vs3, d3, ds3, p3, q3, rfl, rfl, rfl, h3, r3⟩ := trodAll_cons r2
  obtain ⟨rfl, rfl, rfl⟩ := trodAll_nil r3
  obtain rfl : args = #[v0, v1, v2, v3] := by cases args; simp_all
  obtain ⟨rfl, rfl⟩ := trodVars_none hV
  have k0 := h0
  have lt0 : ∀ x ∈ p0, x.block < W.heap.size := by obtain ⟨m, hm⟩ := k0; exact DataW.trod_lt m _ _ _ hm
  have k1 := h1
  have lt1 : ∀ x ∈ p1, x.block < W.heap.size := by obtain ⟨m, hm⟩ := k1; exact DataW.trod_lt m _ _ _ hm
  have k2 := h2
  have lt2 : ∀ x ∈ p2, x.block < W.heap.size := by obtain ⟨m, hm⟩ := k2; exact DataW.trod_lt m _ _ _ hm
  have k3 := h3
  have lt3 : ∀ x ∈ p3, x.block < W.heap.size := by obtain ⟨m, hm⟩ := k3; exact DataW.trod_lt m _ _ _ hm
  clear hA0 hval0
  obtain ⟨a, cap, l, rfl, hvw, hsz⟩ := Fr.openCells (hval 0 60 v0 rfl rfl) h0
  obtain ⟨r, rfl, -, -, -⟩ := open_string Try.underlying9 (hval 1 9 v1 rfl rfl) h1
  obtain ⟨b, rfl, -, -, -⟩ := open_string Try.underlying9 (hval 2 9 v2 rfl rfl) h2
  obtain ⟨t, rfl, -⟩ := open_int Try.underlying2 (hval 3 2 v3 rfl rfl) h3
  unfold maxLen at hsz
  refine (walk W a cap l ⟨r, b, t, 0, false⟩ _ rfl hvw (fun c hc => by have := hsz c hc; omega)).mono fun e W' ⟨he, bel⟩ => ?_
  subst he
  exact ⟨_, rfl, _, _, _, [], _, [], hW', trodAll_mk1 (shut_bool Try.underlying4 _), (trodAll_cons_mk (Below.trod laidOut (by kernel_rfl) (of_decide_eq_true (by kernel_rfl)) k0 bel lt0) (trodAll_cons_mk (Below.trod laidOut (by kernel_rfl) (of_decide_eq_true (by kernel_rfl)) k1 bel lt1) (trodAll_cons_mk (Below.trod laidOut (by kernel_rfl) (of_decide_eq_true (by kernel_rfl)) k2 bel lt2) (trodAll_cons_mk (Below.trod laidOut (by kernel_rfl) (of_decide_eq_true (by kernel_rfl)) k3 bel lt3) trodAll_mk0)))), rfl, bel.frame _, fun h => by cases h⟩

theorem over : Rows.fnExactFindRow.holds Try.pinned (OpenSpec.ofChange Rows.fnExactFindSpec) :=
  OpenClaim.holds_of_wide 10 Try.f10 rfl rfl rfl rfl rfl rfl rfl ⟨rfl, rfl, rfl, rfl, rfl⟩ rfl rfl rfl rfl rfl (by kernel_rfl) Try.func10 (by kernel_rfl)
    (of_decide_eq_true (by kernel_rfl)) (by unfold Func.isWrapper; first | (rw [if_pos (by decide +kernel)]; kernel_rfl) | (rw [if_neg (by decide +kernel)]; exact ⟨rfl, rfl⟩))
    (fun os started H enc _ => lifted os started H enc)

theorem proved : Rows.FnExactFindSaid := over
#print axioms proved
end Go.Proofs.Ytkkpokfekbdigaa.fnExactFind
