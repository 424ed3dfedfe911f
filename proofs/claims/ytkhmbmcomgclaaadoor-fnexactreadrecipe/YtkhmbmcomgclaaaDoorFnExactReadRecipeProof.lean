/-
  Proved: for every input the Go function laws.FnExactReadRecipe returns true, and each argument reads afterwards as it read before (the tied card: the library's variables that the row lists start as the program's text lays them).
  Conditions: none beyond those of the given card.
-/
import Derived.Test.YtkhmbmcomgclaaaDoorRows
import Derived.WalkKit
import Derived.ProofKit
import Derived.OpenShut
import Derived.ShutString
import Derived.Carry
import Derived.Below
import Derived.ChangeOld
import Derived.LaidMore
import Derived.Stop.Joined
import Derived.SevenTiedAt
import Derived.Test.YtkhmbmcomgclaaaDoorCards
import Derived.Test.YtkhmbmcomgclaaaDoorTie
import Derived.Lay
import Derived.Test.YtkhmbmcomgclaaaDoorNk
import Derived.Test.YtkhmbmcomgclaaaDoorNl
import Derived.Test.YtkhmbmcomgclaaaDoorLr
import Derived.Test.YtkhmbmcomgclaaaDoorFr
namespace Go.Proofs.YtkhmbmcomgclaaaDoor.fnExactReadRecipe
open Go.ChangeShapes Go.WideShapes Go.ChangeAt Go.RowKit
open Go.ChangeMaps (open_string shut_string)
set_option linter.unusedVariables false

theorem laidOut : laidOutB Tryd.prog = true := by kernel_rfl
theorem own : ownKnob Tryd.prog.godebug = none := by kernel_rfl

open Kp Cl Rp
set_option maxHeartbeats 4000000 in
set_option maxRecDepth 100000 in
theorem walk (s : ByteArray) (w : World) (hL : Lib3 w) (hM : LibX w) :
    Calls Tryd.prog 6 #[.string s] w fun e w' => e = .returned (.bool true) ∧ Below w.heap.size w w' := by
  by_cases hbig : 1048576 < s.size
  · clear hL hM
    have h1 : (1048576 : Int) < (s.size : Int) := by omega
    go_enter Tryd.func6, Tryd.ntmps6
    go_wp2
    go_ret
    exact ⟨rfl, Below.refl _ _⟩
  · have HL := Lib.hid hL; clear hL
    have HM := Lib.hid hM; clear hM
    have h1 : ¬ (1048576 : Int) < (s.size : Int) := by omega
    obtain ⟨t, rfl⟩ : ∃ t, s = tx t := ⟨s.data.toList, (tx_of s).symm⟩
    have ht : t.length ≤ 1048576 := by rw [tx_size] at hbig; omega
    have HLN := Lib.hid (show (rdR t).1.length ≤ 4194304 from by
      unfold rdR
      have := (spl_lens 32 t).1
      split
      · simp
      · split
        · show (spl 32 t).length ≤ _; omega
        · simp)
    have HSP := Lib.hid (fun w => specRead_any w t (by omega))
    have HIM := Lib.hid (fun w h h' => implRead_any w t (by omega) h h')
    unfold ReadsR at HSP HIM
    generalize rdR t = rr at *
    obtain ⟨m, ok⟩ := rr
    dsimp only at HSP HIM HLN
    have hself : (ok != ok) = false := by simp
    clear hbig ht
    go_enter Tryd.func6, Tryd.ntmps6
    go_wp2_with fail
    refine (HSP.out _).mono ?_; rintro e w1 ⟨v1, rfl, hown1, b1⟩
    have B1 := Lib.hid b1; clear b1
    have HO1 := Lib.hid (Nx.owt_of hown1); clear hown1
    go_wp2_with fail
    refine (HIM.out w1 (lib3_below HL.out B1.out) (HM.out.next B1.out)).mono ?_; rintro e w2 ⟨v2, rfl, hown2, b2⟩
    have HO2 := Lib.hid (Nx.owt_of hown2); clear hown2
    have B12 := Lib.hid b2
    have HV2 := Lib.hid (HO1.out.next b2)
    have B2 := Lib.hid (bel_tr B1.out b2 (Nat.le_refl _)); clear b2
    go_wp2_with fail
    refine (Nx.eqStringS_same w2 HO2.out HV2.out HLN.out).mono ?_; rintro e w3 ⟨rfl, b3⟩
    have HO3 := Lib.hid (HO2.out.next b3)
    have B13 := Lib.hid (bel_tr B12.out b3 (Nat.le_refl _)); clear b3
    go_wp2_with fail
    refine (Nx.mark_any w3 B13.out.size HO3.out HLN.out).mono ?_; rintro e w4 ⟨rfl, b4, n, hn, hmk, hown4⟩
    have q1 : ¬ ((m.length + 1 : Nat) : Int) < 0 := by omega
    have q2 : (((m.length + 1 : Nat) : Int) != ((m.length + 1 : Nat) : Int)) = false := by simp
    generalize hc : ((m.length + 1 : Nat) : Int) = c at q1 q2 ⊢
    have HC := Lib.hid hc; clear hc
    have HMK := Lib.hid hmk; clear hmk
    have HO4 := Lib.hid hown4; clear hown4
    have B14 := Lib.hid (B13.out.trans b4); clear b4
    go_wp2_with fail
    refine (Nx.held_any w4 HO4.out HMK.out (by have := HLN.out; omega)).mono ?_; rintro e w5 ⟨rfl, b5⟩
    rw [hn, HC.out]
    have HO5 := Lib.hid (HO4.out.next b5)
    have B15 := Lib.hid (bel_tr B14.out b5 (Nat.le_refl _)); clear b5
    go_wp2_with fail
    have BW5 := Lib.hid (bel_tr B1.out B15.out (Nat.le_refl _))
    refine (HIM.out w5 (lib3_below HL.out BW5.out) (HM.out.next BW5.out)).mono ?_; rintro e w6 ⟨v3, rfl, hown6, b6⟩
    have HR6 := Lib.hid (Nx.owt_of hown6); clear hown6
    have HO6 := Lib.hid (HO5.out.next b6)
    have B16 := Lib.hid (bel_tr B15.out b6 (Nat.le_refl _)); clear b6
    have HV6 := Lib.hid (HO1.out.next B16.out)
    go_wp2_with fail
    refine (Nx.eqStringS_same w6 HR6.out HV6.out HLN.out).mono ?_; rintro e w7 ⟨rfl, b7⟩
    have HO7 := Lib.hid (HO6.out.next b7)
    have B17 := Lib.hid (bel_tr B16.out b7 (Nat.le_refl _)); clear b7
    go_wp2_with fail
    refine (Nx.held_any w7 HO7.out HMK.out (by have := HLN.out; omega)).mono ?_; rintro e w8 ⟨rfl, b8⟩
    rw [hn, HC.out]
    have B18 := Lib.hid (bel_tr B17.out b8 (Nat.le_refl _)); clear b8
    go_wp2_with fail
    go_ret
    exact ⟨rfl, bel_tr B1.out B18.out (Nat.le_refl _)⟩

set_option maxRecDepth 100000 in
theorem lifted (os : Os) (started : os.Started) (H : Type) (enc : TypeId × Value → H) :
    ReturnsInHanded {} Tryd.checked os 6 .any (fun w args => (Rows.fnExactReadRecipeSpec.pre enc Tryd.prog Tryd.f6 Rows.fnExactReadRecipeRow.domain false w args ∧ laidMetH Tryd.prog Rows.fnExactReadRecipeRow.laid w) ∧ sizedMet enc Tryd.prog Tryd.f6 (OpenSpec.ofChange Rows.fnExactReadRecipeSpec) false w args) (Rows.fnExactReadRecipeSpec.post enc Tryd.prog Tryd.f6 false true false false) := by
  refine Fr.handed_and_shaped (C := Tryd.checked) (X := fun w _ => laidMetH Tryd.prog Rows.fnExactReadRecipeRow.laid w) (fun _ _ _ hh h => h.of_heap hh) own started (by kernel_rfl) Tryd.func6
    (ChangeSpec.witness_shaped (enc := enc) (C := Tryd.checked) (os := os) (X := fun w _ => laidMetH Tryd.prog Rows.fnExactReadRecipeRow.laid w) false (World.laidAll Tryd.prog os Rows.fnExactReadRecipeRow.laid) #[.string ByteArray.empty] 8 (World.laidAll_os _ _ _) (World.shaped_of_ZipB (by kernel_rfl) (by kernel_rfl)) (by kernel_rfl) (by kernel_rfl) (by kernel_rfl) (by rw [MakeChecks.laidMetH_plain _ _ _ (by kernel_rfl)]; exact laidMet_laidAll _ (by kernel_rfl) (by kernel_rfl))) ?_
  intro W base args ds gs before hval0 hW hcnd _ hL hsh _
  have hval : ∀ (j : Nat) t v, Tryd.f6.params[j]? = some t → args[j]? = some v → Value.okWide Tryd.prog W .any base t v := hval0
  have hW' := hW
  obtain ⟨p, q, hA0, hV, rfl, hfz, hnd⟩ := hW
  have hA : DataW.TrodAll enc Tryd.prog W 0 (fun _ => true) true Tryd.f6.params.toList args.toList ds p := hA0
  rw [Tryd.params6] at hA hval
  obtain ⟨v0, vs0, d0, ds0, p0, q0, hargs, rfl, rfl, h0, r0⟩ := trodAll_cons hA
  obtain ⟨rfl, rfl, rfl⟩ := trodAll_nil r0
  obtain rfl : args = #[v0] := by cases args; simp_all
  obtain ⟨rfl, rfl⟩ := trodVars_none hV
  have k0 := h0
  have lt0 : ∀ x ∈ p0, x.block < W.heap.size := by obtain ⟨m, hm⟩ := k0; exact DataW.trod_lt m _ _ _ hm
  clear hA0 hval0
  obtain ⟨s, rfl, -, -, hs⟩ := open_string Tryd.underlying9 (hval 0 9 v0 rfl rfl) h0
  have hT : Rp.Lib3 W := by
    have hL2 : laidMetH Tryd.prog Rows.fnExactReadRecipeRow.laid W := hL
    have hL3 := (MakeChecks.laidMetH_plain _ _ _ (by kernel_rfl)).mp hL2
    exact Cl.lib3X_of hL3.tail.tail
  refine (walk s W hT (Cl.libX_of hsh)).mono fun e W' ⟨he, bel⟩ => ?_
  subst he
  exact ⟨_, rfl, _, _, _, [], _, [], hW', trodAll_mk1 (shut_bool Tryd.underlying4 _), (trodAll_cons_mk (Below.trod laidOut (by kernel_rfl) (of_decide_eq_true (by kernel_rfl)) k0 bel lt0) trodAll_mk0), rfl, bel.frame _, fun h => by cases h⟩

theorem over : Rows.fnExactReadRecipeRow.holds Tryd.pinned (OpenSpec.ofChange Rows.fnExactReadRecipeSpec) :=
  OpenClaim.holds_of_wide 6 Tryd.f6 rfl rfl rfl rfl rfl rfl rfl ⟨rfl, rfl, rfl, rfl, rfl⟩ rfl rfl rfl rfl rfl (by kernel_rfl) Tryd.func6 (by kernel_rfl)
    (of_decide_eq_true (by kernel_rfl)) (by unfold Func.isWrapper; first | (rw [if_pos (by decide +kernel)]; kernel_rfl) | (rw [if_neg (by decide +kernel)]; exact ⟨rfl, rfl⟩))
    (fun os started H enc _ => lifted os started H enc)

theorem row_proved : Rows.FnExactReadRecipeSaid := over
theorem proved : Rows.FnExactReadRecipeCardSaid :=
  Claim7.holds_tied_plain_at .later [] [.data, .data, .data, .data, .sentinel, .sentinel, .pinned] true (true, "7ce810de9bbbb2047db74c3d63dbc9282eb4de9e37bb46e47e2460883a784a1e") true
    row_proved (fun _ h => by cases h) (by kernel_rfl) (fun _ h => by cases h) fnExactReadRecipe_row_tie rfl ⟨rfl, rfl⟩ (by kernel_rfl) rfl
    (fun f fn hf hfn => by
      obtain rfl : f = 6 := Option.some.inj ((show Tryd.prog.funcNamed "loop.example/g00526/laws.FnExactReadRecipe" = some 6 by kernel_rfl).symm.trans hf) |>.symm
      obtain rfl : fn = Tryd.f6 := (Option.some.inj (Tryd.func6.symm.trans hfn)).symm
      exact ⟨by kernel_rfl, fun j t ht => by
        rw [Tryd.params6] at ht
        have hm : t ∈ [9] := by simpa using Array.mem_of_getElem? ht
        have hall : ([9].all fun u => !Tryd.prog.wantsStandIn u) = true := by kernel_rfl
        exact (show Tryd.prog.wantsStandIn t = false by simpa using List.all_eq_true.1 hall t hm)⟩)
    (by kernel_rfl)
#print axioms proved
end Go.Proofs.YtkhmbmcomgclaaaDoor.fnExactReadRecipe
