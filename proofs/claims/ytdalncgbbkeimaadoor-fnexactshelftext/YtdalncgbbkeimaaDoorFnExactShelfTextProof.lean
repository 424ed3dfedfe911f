/-
  Proved: for every input the Go function laws.FnExactShelfText returns true, and each argument reads afterwards as it read before (the tied card: the library's variables that the row lists start as the program's text lays them).
  Conditions: none beyond those of the given card.
-/
import Derived.Test.YtdalncgbbkeimaaDoorRows
import Derived.WalkKit
import Derived.ProofKit
import Derived.OpenShut
import Derived.ShutString
import Derived.Carry
import Derived.Below
import Derived.ChangeOld
import Derived.LaidMore
import Derived.Stop.Joined
import Derived.SevenTiedAt
import Derived.Test.YtdalncgbbkeimaaDoorCards
import Derived.Test.YtdalncgbbkeimaaDoorTie
import Derived.Test.YtdalncgbbkeimaaDoorUb
import Derived.Test.YtdalncgbbkeimaaDoorCo
import Derived.Test.YtdalncgbbkeimaaDoorKb
import Derived.Test.YtdalncgbbkeimaaDoorFr
namespace Go.Proofs.YtdalncgbbkeimaaDoor.fnExactShelfText
open Go.ChangeShapes Go.WideShapes Go.ChangeAt Go.RowKit
open Go.ChangeMaps (open_string shut_string)
set_option linter.unusedVariables false

theorem laidOut : laidOutB Tryd.prog = true := by kernel_rfl
theorem own : ownKnob Tryd.prog.godebug = none := by kernel_rfl

open Kp Cl
theorem mod_of {l : List Cel} {n : Int} (h : ∀ c ∈ l, (c.r.size : Int) ≤ n ∧ (c.b.size : Int) ≤ n) (hn : n ≤ 1048576) : ∀ c ∈ l, c.mod := fun c hc => by
  have := h c hc
  exact ⟨by omega, by omega⟩
set_option maxHeartbeats 8000000 in
set_option maxRecDepth 100000 in
theorem walk (w : World) (a : Option Addr) (ca : Nat) (l : List Cel) (n : Nat) (hn : l.length = n) (hv : Vw w a ca l) (hm : ∀ c ∈ l, c.r.size ≤ 9223372036854775807 ∧ c.b.size ≤ 9223372036854775807) (hL : LibT w) :
    Calls Tryd.prog 9 #[.slice a n ca] w fun e w' => e = .returned (.bool true) ∧ Below w.heap.size w w' := by
  have HM := Lib.hid hm; clear hm
  have HV := Lib.hid hv; clear hv
  have HLT := Lib.hid hL; clear hL
  have HSZ := Lib.hid (szCellS_any w a ca l 1048576 HV.out HM.out (by decide) (by decide))
  rw [hn] at HSZ
  go_enter Tryd.func9, Tryd.ntmps9
  go_wp2_with fail
  refine HSZ.out.mono ?_; rintro e w1 ⟨z, rfl, b1, hz⟩
  have B1 := Lib.hid b1; clear b1 HSZ
  rcases hz with hz | ⟨z0, z1, hzl, hma⟩
  · go_wp2_with fail
    go_ret
    exact ⟨rfl, B1.out⟩
  have hll : n ≤ 1048576 := by omega
  have HMA := Lib.hid (mod_of hma (by decide)); clear hma
  have q0 : ¬ z < 0 := by omega
  have hl4 : l.length ≤ 4194304 := by omega
  clear z0 z1 hzl
  have Z1 := Lib.hid B1.out.size
  go_wp2_with fail
  refine (toCellS_is w1 a ca l n hn (HV.out.below B1.out) hll).mono ?_; rintro e w2 ⟨q1, rfl, -, o, b2⟩
  have Ta := Lib.hid (show ∀ k, (.slice (some ⟨q1, 0, none⟩) n n : Value).ownBlock = some k → w1.heap.size ≤ k from OwC.lt o)
  have Ua := Lib.hid (show ∀ k, (.slice (some ⟨q1, 0, none⟩) n n : Value).ownBlock = some k → w2.heap.size > k from OwC.low o)
  have B2 := Lib.hid (bel_tr B1.out b2 (Nat.le_refl _))
  have Z2 := Lib.hid b2.size
  have Oa := Lib.hid o; clear o b2
  go_wp2_with fail
  refine (specShelf_any w2 _ _ l n hn Oa.out.vw HMA.out (by omega)).mono ?_; rintro e w3 ⟨rfl, b3⟩
  have B3 := Lib.hid (bel_tr B2.out b3 (Nat.le_refl _))
  have Z3 := Lib.hid b3.size
  have Oa := Lib.hid (Oa.out.next b3)
  clear b3
  clear Oa
  go_wp2_with fail
  refine (toCellS_is w3 a ca l n hn (HV.out.below B3.out) hll).mono ?_; rintro e w4 ⟨q2, rfl, -, o, b4⟩
  have Tx := Lib.hid (show ∀ k, (.slice (some ⟨q2, 0, none⟩) n n : Value).ownBlock = some k → w3.heap.size ≤ k from OwC.lt o)
  have Ux := Lib.hid (show ∀ k, (.slice (some ⟨q2, 0, none⟩) n n : Value).ownBlock = some k → w4.heap.size > k from OwC.low o)
  have B4 := Lib.hid (bel_tr B3.out b4 (Nat.le_refl _))
  have Z4 := Lib.hid b4.size
  have Ox := Lib.hid o; clear o b4
  go_wp2_with fail
  refine (implShelf_any w4 _ _ l n hn Ox.out.vw (by omega) (HLT.out.next B4.out)).mono ?_; rintro e w5 ⟨rfl, b5⟩
  have B5 := Lib.hid (bel_tr B4.out b5 (Nat.le_refl _))
  have Z5 := Lib.hid b5.size
  have Ox := Lib.hid (Ox.out.next b5)
  clear b5
  have hst : ((tx (stP l)).toList == (tx (stP l)).toList) = true := by simp
  have hst2 : ((tx (stP l)).toList != (tx (stP l)).toList) = false := by simp
  generalize tx (stP l) = st at *
  go_wp2_with fail
  refine (toCellS_is w5 a ca l n hn (HV.out.below B5.out) hll).mono ?_; rintro e w6 ⟨q3, rfl, -, o, b6⟩
  have Tt := Lib.hid (show ∀ k, (.slice (some ⟨q3, 0, none⟩) n n : Value).ownBlock = some k → w5.heap.size ≤ k from OwC.lt o)
  have Ut := Lib.hid (show ∀ k, (.slice (some ⟨q3, 0, none⟩) n n : Value).ownBlock = some k → w6.heap.size > k from OwC.low o)
  have B6 := Lib.hid (bel_tr B5.out b6 (Nat.le_refl _))
  have Z6 := Lib.hid b6.size
  have Ox := Lib.hid (Ox.out.next b6)
  have Ot := Lib.hid o; clear o b6
  go_wp2_with fail
  refine (eqS_own w6 Ox.out Ot.out hl4).mono ?_; rintro e w7 ⟨rfl, b7⟩
  have B7 := Lib.hid (bel_tr B6.out b7 (Nat.le_refl _))
  have Z7 := Lib.hid b7.size
  have Ox := Lib.hid (Ox.out.next b7)
  have Ot := Lib.hid (Ot.out.next b7)
  clear b7
  go_wp2_with fail
  go_ret
  exact ⟨rfl, B7.out⟩

theorem door_met (os : Os) (args : Array Value) : laidMetH Tryd.prog Rows.fnExactShelfTextRow.laid ((World.doorLaid Tryd.prog 400 os).forCall (fun _ _ => 0) ⟨#[], args, []⟩).memory :=
  laidMetH_of_parts3 (fuel := 8) (laidMet_of_run' 8 (by kernel_rfl) (by kernel_rfl)) (by kernel_rfl) (by kernel_rfl)
set_option maxRecDepth 100000 in
theorem lifted (os : Os) (started : os.Started) (H : Type) (enc : TypeId × Value → H) :
    ReturnsInHanded {} Tryd.checked os 9 .any (fun w args => (Rows.fnExactShelfTextSpec.pre enc Tryd.prog Tryd.f9 Rows.fnExactShelfTextRow.domain false w args ∧ laidMetH Tryd.prog Rows.fnExactShelfTextRow.laid w) ∧ sizedMet enc Tryd.prog Tryd.f9 (OpenSpec.ofChange Rows.fnExactShelfTextSpec) false w args) (Rows.fnExactShelfTextSpec.post enc Tryd.prog Tryd.f9 false true false false) := by
  refine returnsInHanded_of_change_and (C := Tryd.checked) (X := fun w _ => laidMetH Tryd.prog Rows.fnExactShelfTextRow.laid w) (fun _ _ _ hh h => h.of_heap hh) own started (by kernel_rfl) Tryd.func9
    (ChangeSpec.witness_shaped (enc := enc) (C := Tryd.checked) (os := os) (X := fun w _ => laidMetH Tryd.prog Rows.fnExactShelfTextRow.laid w) false (World.doorLaid Tryd.prog 400 os) #[.slice none 0 0] 8 rfl (World.shaped_of_RefB (by kernel_rfl) (by kernel_rfl)) (by kernel_rfl) (by kernel_rfl) (by kernel_rfl) (door_met os _)) ?_
  intro W base args ds gs before hval0 hW hcnd _ hL _
  have hval : ∀ (j : Nat) t v, Tryd.f9.params[j]? = some t → args[j]? = some v → Value.okWide Tryd.prog W .any base t v := hval0
  have hW' := hW
  obtain ⟨p, q, hA0, hV, rfl, hfz, hnd⟩ := hW
  have hA : DataW.TrodAll enc Tryd.prog W 0 (fun _ => true) true Tryd.f9.params.toList args.toList ds p := hA0
  rw [Tryd.params9] at hA hval
  obtain ⟨v0, vs0, d0, ds0, p0, q0, hargs, rfl, rfl, h0, r0⟩ := trodAll_cons hA
  obtain ⟨rfl, rfl, rfl⟩ := trodAll_nil r0
  obtain rfl : args = #[v0] := by cases args; simp_all
  obtain ⟨rfl, rfl⟩ := trodVars_none hV
  have k0 := h0
  have lt0 : ∀ x ∈ p0, x.block < W.heap.size := by obtain ⟨m, hm⟩ := k0; exact DataW.trod_lt m _ _ _ hm
  clear hA0 hval0
  have hT : LibT W := by
    have hL2 : laidMetH Tryd.prog Rows.fnExactShelfTextRow.laid W := hL
    have hL3 := (MakeChecks.laidMetH_plain _ _ _ (by kernel_rfl)).mp hL2
    exact libT_of hL3.tail.tail
  obtain ⟨a, ca, l, rfl, hvw, hsz⟩ := Fr.openCells (hval 0 52 v0 rfl rfl) h0
  unfold maxLen at hsz
  refine (walk W a ca l _ rfl hvw (fun c hc => by have := hsz c hc; omega) hT).mono fun e W' ⟨he, bel⟩ => ?_
  subst he
  exact ⟨_, rfl, _, _, _, [], _, [], hW', trodAll_mk1 (shut_bool Tryd.underlying4 _), (trodAll_cons_mk (Below.trod laidOut (by kernel_rfl) (of_decide_eq_true (by kernel_rfl)) k0 bel lt0) trodAll_mk0), rfl, bel.frame _, fun h => by cases h⟩

theorem over : Rows.fnExactShelfTextRow.holds Tryd.pinned (OpenSpec.ofChange Rows.fnExactShelfTextSpec) :=
  OpenClaim.holds_of_wide 9 Tryd.f9 rfl rfl rfl rfl rfl rfl rfl ⟨rfl, rfl, rfl, rfl, rfl⟩ rfl rfl rfl rfl rfl (by kernel_rfl) Tryd.func9 (by kernel_rfl)
    (of_decide_eq_true (by kernel_rfl)) (by unfold Func.isWrapper; first | (rw [if_pos (by decide +kernel)]; kernel_rfl) | (rw [if_neg (by decide +kernel)]; exact ⟨rfl, rfl⟩))
    (fun os started H enc _ => lifted os started H enc)

theorem row_proved : Rows.FnExactShelfTextSaid := over
theorem proved : Rows.FnExactShelfTextCardSaid :=
  Claim7.holds_tied_plain_at .later [] [.data, .data, .data] true (true, "613096e7dbea012c8784386493c07f8b2d7642914d7d7ac9330c688bac471690") true
    row_proved (fun _ h => by cases h) (by kernel_rfl) (fun _ h => by cases h) fnExactShelfText_row_tie rfl ⟨rfl, rfl⟩ (by kernel_rfl) rfl
    (fun f fn hf hfn => by
      obtain rfl : f = 9 := Option.some.inj ((show Tryd.prog.funcNamed "loop.example/g00526/laws.FnExactShelfText" = some 9 by kernel_rfl).symm.trans hf) |>.symm
      obtain rfl : fn = Tryd.f9 := (Option.some.inj (Tryd.func9.symm.trans hfn)).symm
      exact ⟨by kernel_rfl, fun j t ht => by
        rw [Tryd.params9] at ht
        have hm : t ∈ [52] := by simpa using Array.mem_of_getElem? ht
        have hall : ([52].all fun u => !Tryd.prog.wantsStandIn u) = true := by kernel_rfl
        exact (show Tryd.prog.wantsStandIn t = false by simpa using List.all_eq_true.1 hall t hm)⟩)
    (by kernel_rfl)
#print axioms proved
end Go.Proofs.YtdalncgbbkeimaaDoor.fnExactShelfText
