/-
  Proved: for every input the Go function laws.FnExactShelfOf returns true, and each argument reads afterwards as it read before (the tied card: the library's variables that the row lists start as the program's text lays them).
  Conditions: none beyond those of the given card.
-/
import Derived.Test.YtdalncgbbkeimaaDoorRows
import Derived.WalkKit
import Derived.ProofKit
import Derived.OpenShut
import Derived.ShutString
import Derived.Carry
import Derived.Below
import Derived.ChangeOld
import Derived.LaidMore
import Derived.Stop.Joined
import Derived.SevenTiedAt
import Derived.Test.YtdalncgbbkeimaaDoorCards
import Derived.Test.YtdalncgbbkeimaaDoorTie
import Derived.Lay
import Derived.Test.YtdalncgbbkeimaaDoorUd
import Derived.Test.YtdalncgbbkeimaaDoorCo
import Derived.Test.YtdalncgbbkeimaaDoorKb
import Derived.Test.YtdalncgbbkeimaaDoorFr
namespace Go.Proofs.YtdalncgbbkeimaaDoor.fnExactShelfOf
open Go.ChangeShapes Go.WideShapes Go.ChangeAt Go.RowKit
open Go.ChangeMaps (open_string shut_string)
set_option linter.unusedVariables false

theorem laidOut : laidOutB Tryd.prog = true := by kernel_rfl
theorem own : ownKnob Tryd.prog.godebug = none := by kernel_rfl

open Kp Cl Rp
/-- The one answer for a text. -/
theorem so_fix (s : List UInt8) : ∃ (cs : List Cel) (ok : Bool), cs.length ≤ 200 ∧ ∀ {F : Nat} {a : Array Value} {w : World}, Calls Tryd.prog F a w (SoPost s w) → Calls Tryd.prog F a w fun e w' => ∃ v, e = .returned (.tuple #[v, .bool ok]) ∧ OwC w.heap.size w' v cs ∧ Below w.heap.size w w' := by
  by_cases hd : ∃ d, SoIs s d
  · obtain ⟨d, hd⟩ := hd
    refine ⟨d, true, (okL_iff.1 hd.1).2, fun h => h.mono fun e w' ⟨v, cs, ok, he, ho, hb, hc⟩ => ?_⟩
    rcases hc with ⟨rfl, hc⟩ | ⟨-, -, hc⟩
    · exact ⟨v, he, so_uniq hc hd ▸ ho, hb⟩
    · exact absurd hd (hc d)
  · refine ⟨[], false, Nat.zero_le _, fun h => h.mono fun e w' ⟨v, cs, ok, he, ho, hb, hc⟩ => ?_⟩
    rcases hc with ⟨-, hc⟩ | ⟨rfl, rfl, -⟩
    · exact absurd ⟨cs, hc⟩ hd
    · exact ⟨v, he, ho, hb⟩
set_option maxHeartbeats 8000000 in
set_option maxRecDepth 100000 in
theorem walk (s : ByteArray) (w : World) (hL : Lib3 w) (hM : LibM w) (hT : LibT w) :
    Calls Tryd.prog 10 #[.string s] w fun e w' => e = .returned (.bool true) ∧ Below w.heap.size w w' := by
  by_cases hbig : 1048576 < s.size
  · clear hL hM hT
    have h1 : (1048576 : Int) < (s.size : Int) := by omega
    go_enter Tryd.func10, Tryd.ntmps10
    go_wp2
    go_ret
    exact ⟨rfl, Below.refl _ _⟩
  have HL := Lib.hid hL; clear hL
  have HM := Lib.hid hM; clear hM
  have HLT := Lib.hid hT; clear hT
  have h1 : ¬ (1048576 : Int) < (s.size : Int) := by omega
  obtain ⟨cs, ok, hp4, hfix⟩ := so_fix s.data.toList
  have HSP := Lib.hid (fun w => hfix (specSo_any s w (by omega)))
  have HIM := Lib.hid (fun w h h' h'' => hfix (implSo_any s w (by omega) h'' h h'))
  clear hfix
  have hl4 : cs.length ≤ 4194304 := by omega
  have hself : (!(ok == ok)) = false := by simp
  have hself2 : (ok != ok) = false := by simp
  go_enter Tryd.func10, Tryd.ntmps10
  go_wp2_with fail
  refine (HSP.out _).mono ?_; rintro e w1 ⟨vp, rfl, o, b1⟩
  have TP := Lib.hid (show ∀ k, (vp : Value).ownBlock = some k → w.heap.size ≤ k from OwC.lt o)
  have UP := Lib.hid (show ∀ k, (vp : Value).ownBlock = some k → w1.heap.size > k from OwC.low o)
  have OP := Lib.hid o
  have B1 := Lib.hid b1; clear o b1
  have Z1 := Lib.hid B1.out.size
  go_wp2_with fail
  refine (HIM.out w1 (lib3_next HL.out B1.out) (HM.out.next B1.out) (HLT.out.next B1.out)).mono ?_; rintro e w2 ⟨vg, rfl, o, b2⟩
  have TG := Lib.hid (show ∀ k, (vg : Value).ownBlock = some k → w1.heap.size ≤ k from OwC.lt o)
  have UG := Lib.hid (show ∀ k, (vg : Value).ownBlock = some k → w2.heap.size > k from OwC.low o)
  have B2 := Lib.hid (bel_tr B1.out b2 (Nat.le_refl _))
  have Z2 := Lib.hid b2.size
  have OP := Lib.hid (OP.out.next b2)
  have OG := Lib.hid o; clear o b2
  go_wp2_with fail
  refine (eqS_own w2 OG.out OP.out hl4).mono ?_; rintro e w3 ⟨rfl, b3⟩
  have B3 := Lib.hid (bel_tr B2.out b3 (Nat.le_refl _))
  have Z3 := Lib.hid b3.size
  have OP := Lib.hid (OP.out.next b3)
  have OG := Lib.hid (OG.out.next b3)
  clear b3
  generalize hpn : cs.length = p at hp4
  have HPN := Lib.hid hpn; clear hpn
  have m0 : ¬ ((1 + 5 * p : Nat) : Int) < 0 := by omega
  have m1 : (((1 + 5 * p : Nat) : Int) != ((1 + 5 * p : Nat) : Int)) = false := by simp
  go_wp2_with fail
  refine (mark_own w3 OG.out HPN.out (by omega)).mono ?_; rintro e w4 ⟨rfl, g4, PM, hPM, hMk, og⟩
  have B4 := Lib.hid (B3.out.grown g4 B3.out.size (fun j hj => by have := TG.out j hj; have := B3.out.size; have := Z1.out; have := Z2.out; have := Z3.out; omega))
  have OP := Lib.hid (OP.out.grown g4 (fun k hk e => by have := TG.out k e; have := UG.out k e; have := TP.out k hk; have := UP.out k hk; have := Z1.out; have := Z2.out; have := Z3.out; omega))
  have Z4 := Lib.hid g4.size
  clear g4
  have OG := Lib.hid og
  have HMK := Lib.hid hMk; clear og hMk
  have HH := Lib.hid (fun w (h : OwC w1.heap.size w vg PM) => held_own (n := p) w h hPM HMK.out (by omega))
  generalize ((1 + 5 * p : Nat) : Int) = mm at m0 m1 HH ⊢
  go_wp2_with fail
  refine (HH.out w4 OG.out).mono ?_; rintro e w5 ⟨rfl, b5⟩
  have B5 := Lib.hid (bel_tr B4.out b5 (Nat.le_refl _))
  have Z5 := Lib.hid b5.size
  have OP := Lib.hid (OP.out.next b5)
  have OG := Lib.hid (OG.out.next b5)
  clear b5
  go_wp2_with fail
  refine (HIM.out w5 (lib3_next HL.out B5.out) (HM.out.next B5.out) (HLT.out.next B5.out)).mono ?_; rintro e w6 ⟨vh, rfl, o, b6⟩
  have TH := Lib.hid (show ∀ k, (vh : Value).ownBlock = some k → w5.heap.size ≤ k from OwC.lt o)
  have UH := Lib.hid (show ∀ k, (vh : Value).ownBlock = some k → w6.heap.size > k from OwC.low o)
  have B6 := Lib.hid (bel_tr B5.out b6 (Nat.le_refl _))
  have Z6 := Lib.hid b6.size
  have OP := Lib.hid (OP.out.next b6)
  have OG := Lib.hid (OG.out.next b6)
  have OH := Lib.hid o; clear o b6
  go_wp2_with fail
  refine (eqS_own w6 OH.out OP.out hl4).mono ?_; rintro e w7 ⟨rfl, b7⟩
  have B7 := Lib.hid (bel_tr B6.out b7 (Nat.le_refl _))
  have Z7 := Lib.hid b7.size
  have OP := Lib.hid (OP.out.next b7)
  have OG := Lib.hid (OG.out.next b7)
  have OH := Lib.hid (OH.out.next b7)
  clear b7
  go_wp2_with fail
  refine (HH.out w7 OG.out).mono ?_; rintro e w8 ⟨rfl, b8⟩
  have B8 := Lib.hid (bel_tr B7.out b8 (Nat.le_refl _))
  have Z8 := Lib.hid b8.size
  have OP := Lib.hid (OP.out.next b8)
  have OG := Lib.hid (OG.out.next b8)
  have OH := Lib.hid (OH.out.next b8)
  clear b8
  go_wp2_with fail
  go_ret
  exact ⟨rfl, B8.out⟩

set_option maxRecDepth 100000 in
theorem lifted (os : Os) (started : os.Started) (H : Type) (enc : TypeId × Value → H) :
    ReturnsInHanded {} Tryd.checked os 10 .any (fun w args => (Rows.fnExactShelfOfSpec.pre enc Tryd.prog Tryd.f10 Rows.fnExactShelfOfRow.domain false w args ∧ laidMetH Tryd.prog Rows.fnExactShelfOfRow.laid w) ∧ sizedMet enc Tryd.prog Tryd.f10 (OpenSpec.ofChange Rows.fnExactShelfOfSpec) false w args) (Rows.fnExactShelfOfSpec.post enc Tryd.prog Tryd.f10 false true false false) := by
  refine Fr.handed_and_shaped (C := Tryd.checked) (X := fun w _ => laidMetH Tryd.prog Rows.fnExactShelfOfRow.laid w) (fun _ _ _ hh h => h.of_heap hh) own started (by kernel_rfl) Tryd.func10
    (ChangeSpec.witness_shaped (enc := enc) (C := Tryd.checked) (os := os) (X := fun w _ => laidMetH Tryd.prog Rows.fnExactShelfOfRow.laid w) false (World.laidAll Tryd.prog os Rows.fnExactShelfOfRow.laid) #[.string ByteArray.empty] 8 (World.laidAll_os _ _ _) (World.shaped_of_ZipB (by kernel_rfl) (by kernel_rfl)) (by kernel_rfl) (by kernel_rfl) (by kernel_rfl) (by rw [MakeChecks.laidMetH_plain _ _ _ (by kernel_rfl)]; exact laidMet_laidAll _ (by kernel_rfl) (by kernel_rfl))) ?_
  intro W base args ds gs before hval0 hW hcnd _ hL hsh _
  have hval : ∀ (j : Nat) t v, Tryd.f10.params[j]? = some t → args[j]? = some v → Value.okWide Tryd.prog W .any base t v := hval0
  have hW' := hW
  obtain ⟨p, q, hA0, hV, rfl, hfz, hnd⟩ := hW
  have hA : DataW.TrodAll enc Tryd.prog W 0 (fun _ => true) true Tryd.f10.params.toList args.toList ds p := hA0
  rw [Tryd.params10] at hA hval
  obtain ⟨v0, vs0, d0, ds0, p0, q0, hargs, rfl, rfl, h0, r0⟩ := trodAll_cons hA
  obtain ⟨rfl, rfl, rfl⟩ := trodAll_nil r0
  obtain rfl : args = #[v0] := by cases args; simp_all
  obtain ⟨rfl, rfl⟩ := trodVars_none hV
  have k0 := h0
  have lt0 : ∀ x ∈ p0, x.block < W.heap.size := by obtain ⟨m, hm⟩ := k0; exact DataW.trod_lt m _ _ _ hm
  clear hA0 hval0
  obtain ⟨s, rfl, -, -, hs⟩ := open_string Tryd.underlying9 (hval 0 9 v0 rfl rfl) h0
  have hT : Rp.Lib3 W := by
    have hL2 : laidMetH Tryd.prog Rows.fnExactShelfOfRow.laid W := hL
    have hL3 := (MakeChecks.laidMetH_plain _ _ _ (by kernel_rfl)).mp hL2
    exact Cl.lib3_of hL3.tail.tail
  have hT2 : LibT W := Cl.libT_of3 hT
  refine (walk s W hT (Cl.libM_of hsh) hT2).mono fun e W' ⟨he, bel⟩ => ?_
  subst he
  exact ⟨_, rfl, _, _, _, [], _, [], hW', trodAll_mk1 (shut_bool Tryd.underlying4 _), (trodAll_cons_mk (Below.trod laidOut (by kernel_rfl) (of_decide_eq_true (by kernel_rfl)) k0 bel lt0) trodAll_mk0), rfl, bel.frame _, fun h => by cases h⟩

theorem over : Rows.fnExactShelfOfRow.holds Tryd.pinned (OpenSpec.ofChange Rows.fnExactShelfOfSpec) :=
  OpenClaim.holds_of_wide 10 Tryd.f10 rfl rfl rfl rfl rfl rfl rfl ⟨rfl, rfl, rfl, rfl, rfl⟩ rfl rfl rfl rfl rfl (by kernel_rfl) Tryd.func10 (by kernel_rfl)
    (of_decide_eq_true (by kernel_rfl)) (by unfold Func.isWrapper; first | (rw [if_pos (by decide +kernel)]; kernel_rfl) | (rw [if_neg (by decide +kernel)]; exact ⟨rfl, rfl⟩))
    (fun os started H enc _ => lifted os started H enc)

theorem row_proved : Rows.FnExactShelfOfSaid := over
theorem proved : Rows.FnExactShelfOfCardSaid :=
  Claim7.holds_tied_plain_at .later [] [.data, .data, .data, .data, .sentinel, .sentinel, .pinned] true (true, "613096e7dbea012c8784386493c07f8b2d7642914d7d7ac9330c688bac471690") true
    row_proved (fun _ h => by cases h) (by kernel_rfl) (fun _ h => by cases h) fnExactShelfOf_row_tie rfl ⟨rfl, rfl⟩ (by kernel_rfl) rfl
    (fun f fn hf hfn => by
      obtain rfl : f = 10 := Option.some.inj ((show Tryd.prog.funcNamed "loop.example/g00526/laws.FnExactShelfOf" = some 10 by kernel_rfl).symm.trans hf) |>.symm
      obtain rfl : fn = Tryd.f10 := (Option.some.inj (Tryd.func10.symm.trans hfn)).symm
      exact ⟨by kernel_rfl, fun j t ht => by
        rw [Tryd.params10] at ht
        have hm : t ∈ [9] := by simpa using Array.mem_of_getElem? ht
        have hall : ([9].all fun u => !Tryd.prog.wantsStandIn u) = true := by kernel_rfl
        exact (show Tryd.prog.wantsStandIn t = false by simpa using List.all_eq_true.1 hall t hm)⟩)
    (by kernel_rfl)
#print axioms proved
end Go.Proofs.YtdalncgbbkeimaaDoor.fnExactShelfOf
