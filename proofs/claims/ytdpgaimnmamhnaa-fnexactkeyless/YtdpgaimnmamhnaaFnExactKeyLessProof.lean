/-
  Proved: for every input the Go function laws.FnExactKeyLess returns true, and each argument reads afterwards as it read before.
  Conditions: none beyond those of the given row.
-/
import Derived.Test.YtdpgaimnmamhnaaRows
import Derived.WalkKit
import Derived.ProofKit
import Derived.OpenShut
import Derived.ShutString
import Derived.Carry
import Derived.Below
import Derived.Test.YtdpgaimnmamhnaaKm
import Derived.Test.YtdpgaimnmamhnaaFr
namespace Go.Proofs.Ytdpgaimnmamhnaa.fnExactKeyLess
open Go.ChangeShapes Go.WideShapes Go.ChangeAt Go.RowKit
open Go.ChangeMaps (open_string shut_string)
set_option linter.unusedVariables false

theorem laidOut : laidOutB Try.prog = true := by kernel_rfl
theorem own : ownKnob Try.prog.godebug = none := by kernel_rfl

open Kp
theorem szL_le {r b : ByteArray} {n : Int} (h : 0 ≤ szL r b n) : (r.size : Int) ≤ n ∧ (b.size : Int) ≤ n ∧ szL r b n ≤ n := by
  unfold szL at h ⊢
  split at h
  · omega
  · split at h
    · omega
    · rename_i h1 h2
      rw [if_neg h1, if_neg h2]; omega
set_option maxHeartbeats 2000000 in
theorem walk (r b : ByteArray) (t : Int) (r' b' : ByteArray) (t' : Int) (hr : r.size ≤ 9223372036854775807) (hb : b.size ≤ 9223372036854775807) (hr' : r'.size ≤ 9223372036854775807) (hb' : b'.size ≤ 9223372036854775807) (w : World) :
    Calls Try.prog 5 #[.agg #[.string r, .string b, .int .i64 t], .agg #[.string r', .string b', .int .i64 t']] w fun e w' => e = .returned (.bool true) ∧ Below w.heap.size w w' := by
  have HB := Lib.hid (bel2 w)
  have HX := Lib.hid (Bx.two r b t r' b' t' w)
  by_cases hs : szL r b 1048576 < 0
  · go_enter Try.func5, Try.ntmps5
    go_wp2_with fail
    refine (szKey_any r b t 1048576 _ hr hb (by decide) (by decide)).mono ?_; rintro e w1 ⟨rfl, b1⟩
    go_wp2_with fail
    go_ret
    exact ⟨rfl, bel_tr (HB.out _ _) b1 (Nat.le_refl _)⟩
  · obtain ⟨s1, s2, s3⟩ := szL_le (Int.not_lt.1 hs)
    by_cases hs' : szL r' b' (szL r b 1048576) < 0
    · go_enter Try.func5, Try.ntmps5
      go_wp2_with fail
      refine (szKey_any r b t 1048576 _ hr hb (by decide) (by decide)).mono ?_; rintro e w1 ⟨rfl, b1⟩
      have B1 := Lib.hid (bel_tr (HB.out _ _) b1 (Nat.le_refl _))
      obtain ⟨y0, y1, y2, -⟩ := (HX.out _).2.next b1; clear b1
      go_wp2_with fail
      refine (szKey_any r' b' t' _ _ hr' hb' (by omega) (by omega)).mono ?_; rintro e w2 ⟨rfl, b2⟩
      have B2 := Lib.hid (bel_tr B1.out b2 (Nat.le_refl _)); clear b2
      go_wp2_with fail
      go_ret
      exact ⟨rfl, B2.out⟩
    · obtain ⟨s4, s5, s6⟩ := szL_le (Int.not_lt.1 hs')
      go_enter Try.func5, Try.ntmps5
      go_wp2_with fail
      refine (szKey_any r b t 1048576 _ hr hb (by decide) (by decide)).mono ?_; rintro e w1 ⟨rfl, b1⟩
      have B1 := Lib.hid (bel_tr (HB.out _ _) b1 (Nat.le_refl _))
      have HXa := Lib.hid ((HX.out _).1.next b1)
      have HXb := Lib.hid ((HX.out _).2.next b1); clear b1
      obtain ⟨y0, y1, y2, -⟩ := id HXb.out
      go_wp2_with fail
      refine (szKey_any r' b' t' _ _ hr' hb' (by omega) (by omega)).mono ?_; rintro e w2 ⟨rfl, b2⟩
      have B2 := Lib.hid (bel_tr B1.out b2 (Nat.le_refl _))
      clear y0 y1 y2
      obtain ⟨x0, x1, x2, xl⟩ := HXa.out.next b2
      obtain ⟨y0, y1, y2, yl⟩ := HXb.out.next b2; clear b2
      have hd2 : Hd w w2.drew := ⟨B2.out.drew, yl⟩
      have HS := Lib.hid (show r.size ≤ 9223372036854775806 ∧ b.size ≤ 9223372036854775806 ∧ r'.size ≤ 9223372036854775806 ∧ b'.size ≤ 9223372036854775806 from ⟨by omega, by omega, by omega, by omega⟩)
      clear s1 s2 s3 s4 s5 s6
      go_wp2_with fail
      go_region_held3 (fun z => z.cell? ⟨w.heap.size, 0, none⟩ = some (.string r) ∧ z.cell? ⟨w.heap.size, 1, none⟩ = some (.string b) ∧ z.cell? ⟨w.heap.size, 2, none⟩ = some (.int .i64 t) ∧ z.cell? ⟨w.heap.size + 1, 0, none⟩ = some (.string r') ∧ z.cell? ⟨w.heap.size + 1, 1, none⟩ = some (.string b') ∧ z.cell? ⟨w.heap.size + 1, 2, none⟩ = some (.int .i64 t') ∧ Hd w z)
        (first | exact ⟨x0, x1, x2, y0, y1, y2, hd2⟩ | (refine two_next (by assumption) ?_; assumption))
        (first | (go_at_call 10; refine (toKey_any _ _ _ _).mono ?_; rintro e w' ⟨rfl, bel⟩) | (go_at_call 12; refine (specLess_any _ _ _ _ _ _ _ HS.out.1 HS.out.2.1 HS.out.2.2.1 HS.out.2.2.2).mono ?_; rintro e w' ⟨rfl, bel⟩))
      clear x0 x1 x2 y0 y1 y2 hd2
      rename_i hh
      have hh2 := two_next (Below.refl _ _).drew hh
      clear hh bel
      have HH := Lib.hid hh2; clear hh2
      go_wp2_with fail
      go_region_held3 (fun z => z.cell? ⟨w.heap.size, 0, none⟩ = some (.string r) ∧ z.cell? ⟨w.heap.size, 1, none⟩ = some (.string b) ∧ z.cell? ⟨w.heap.size, 2, none⟩ = some (.int .i64 t) ∧ z.cell? ⟨w.heap.size + 1, 0, none⟩ = some (.string r') ∧ z.cell? ⟨w.heap.size + 1, 1, none⟩ = some (.string b') ∧ z.cell? ⟨w.heap.size + 1, 2, none⟩ = some (.int .i64 t') ∧ Hd w z)
        (first | exact HH.out | (refine two_next (by assumption) ?_; assumption))
        (first | (go_at_call 10; refine (toKey_any _ _ _ _).mono ?_; rintro e w' ⟨rfl, bel⟩) | (go_at_call 13; refine (implLess_any _ _ _ _ _ _ _).mono ?_; rintro e w' ⟨rfl, bel⟩))
      rename_i hg
      have HG := Lib.hid hg; clear hg
      have hself : (!(lessB r b t r' b' t' == lessB r b t r' b' t')) = false := by simp
      go_wp2_with fail
      go_ret
      exact ⟨rfl, HG.out.2.2.2.2.2.2.1⟩

set_option maxRecDepth 100000 in
theorem lifted (os : Os) (started : os.Started) (H : Type) (enc : TypeId × Value → H) :
    ReturnsInHanded {} Try.checked os 5 .any (Rows.fnExactKeyLessSpec.pre6 enc Try.prog Try.f5 Rows.fnExactKeyLessRow.domain false) (Rows.fnExactKeyLessSpec.post enc Try.prog Try.f5 false true false false) := by
  refine returnsInHanded_of_change (C := Try.checked) own started (by kernel_rfl) Try.func5
    (ChangeSpec.witness6 (enc := enc) (C := Try.checked) false ⟨#[], #[.agg #[.string ByteArray.empty, .string ByteArray.empty, .int .i64 0], .agg #[.string ByteArray.empty, .string ByteArray.empty, .int .i64 0]], []⟩ 8 (by kernel_rfl) (by kernel_rfl) (by kernel_rfl) (by kernel_rfl)) ?_
  intro W base args ds gs before hval0 hW hcnd _
  have hval : ∀ (j : Nat) t v, Try.f5.params[j]? = some t → args[j]? = some v → Value.okWide Try.prog W .any base t v := hval0
  have hW' := hW
  obtain ⟨p, q, hA0, hV, rfl, hfz, hnd⟩ := hW
  have hA : DataW.TrodAll enc Try.prog W 0 (fun _ => true) true Try.f5.params.toList args.toList ds p := hA0
  rw [Try.params5] at hA hval
  obtain ⟨v0, vs0, d0, ds0, p0, q0, hargs, rfl, rfl, h0, r0⟩ := trodAll_cons hA
  obtain ⟨v1, vs1, d1, ds1, p1, q1, rfl, rfl, rfl, h1, r1⟩ := trodAll_cons r0
  obtain ⟨rfl, rfl, rfl⟩ := trodAll_nil r1
  obtain rfl : args = #[v0, v1] := by cases args; simp_all
  obtain ⟨rfl, rfl⟩ := trodVars_none hV
  have k0 := h0
  have lt0 : ∀ x ∈ p0, x.block < W.heap.size := by obtain ⟨m, hm⟩ := k0; exact DataW.trod_lt m _ _ _ hm
  have k1 := h1
  have lt1 : ∀ x ∈ p1, x.block < W.heap.size := by obtain ⟨m, hm⟩ := k1; exact DataW.trod_lt m _ _ _ hm
  clear hA0 hval0
  obtain ⟨r, b, t, rfl, hr, hb, ht⟩ := Fr.openKey (hval 0 24 v0 rfl rfl) h0
  obtain ⟨r', b', t', rfl, hr', hb', ht'⟩ := Fr.openKey (hval 1 24 v1 rfl rfl) h1
  unfold maxLen at hr hb hr' hb'
  refine (walk r b t r' b' t' (by omega) (by omega) (by omega) (by omega) W).mono fun e W' ⟨he, bel⟩ => ?_
  subst he
  exact ⟨_, rfl, _, _, _, [], _, [], hW', trodAll_mk1 (shut_bool Try.underlying4 _), (trodAll_cons_mk (Below.trod laidOut (by kernel_rfl) (of_decide_eq_true (by kernel_rfl)) k0 bel lt0) (trodAll_cons_mk (Below.trod laidOut (by kernel_rfl) (of_decide_eq_true (by kernel_rfl)) k1 bel lt1) trodAll_mk0)), rfl, bel.frame _, fun h => by cases h⟩

theorem over : Rows.fnExactKeyLessRow.holds Try.pinned (OpenSpec.ofChange Rows.fnExactKeyLessSpec) :=
  OpenClaim.holds_of_wide 5 Try.f5 rfl rfl rfl rfl rfl rfl rfl ⟨rfl, rfl, rfl, rfl, rfl⟩ rfl rfl rfl rfl rfl (by kernel_rfl) Try.func5 (by kernel_rfl)
    (of_decide_eq_true (by kernel_rfl)) (by unfold Func.isWrapper; first | (rw [if_pos (by decide +kernel)]; kernel_rfl) | (rw [if_neg (by decide +kernel)]; exact ⟨rfl, rfl⟩))
    (fun os started H enc _ => lifted os started H enc)

theorem proved : Rows.FnExactKeyLessSaid := over
#print axioms proved
end Go.Proofs.Ytdpgaimnmamhnaa.fnExactKeyLess
