/-
  Texts of mine, joined (part 2 of 7): what the law at hand reaches of them; each text's own words stand in the verifier's repo.
-/
import Derived.Test.YtoiphglfngkoiaaGreatDoorSk1
import Derived.Test.YtoiphglfngkoiaaGreatDoorRows
import Derived.WalkKit
import Derived.IntWalk
import Derived.Laws.Bits128
import Derived.Lib.Hide
import Derived.Lib.ParseIntBTie
import Derived.Lib.ParseIntBCases
import Derived.Lib.ItoaMem
import Derived.Lib.IndexMore
import Derived.Lib.Repeat
import Derived.WalkSpells
import Derived.Below
import Derived.Carry
import Derived.WalkSmall
import Derived.Laws.Closers25b
import Derived.Lib.Strings
import Derived.Lib.SmallJoins
import Derived.Lib.AppendIntMem
import Derived.Maps.AppendAt
import Derived.OwnWalk
import Derived.WalkLawsBesides
import Derived.Deep.QuietTactic
import Derived.BigQuiet
import Derived.Deep.RegionHeld3
import Derived.Laws.OwnMore
import Derived.Laws.StructEq
import Derived.BigFrame
import Derived.Deep.Upon
import Derived.Laws.CopyRow
import Derived.Laws.BytesArg
import Derived.RowKit3
import Derived.Shelf.Strconv.Itoa4
import Derived.Shelf.Strconv.ParseIntPublic10
import Derived.Shelf.Strconv.ErrVarParseInt
import Derived.Test.YtoiphglfngkoiaaGreatDoorProg
import Derived.LaidMore
import Derived.Stop.LaidErr
import Derived.Lib.LaidTab
import Derived.Deep.LoopGhost
import Derived.RangeFuncWrites
import Derived.RangeFuncCalls
import Derived.RangeFuncBox
import Derived.RangeFuncNested
import Derived.RangeFuncLeaves
import Derived.Shelf.Abstract
import Derived.Shelf.RegionOpen
import Derived.OwnWalkIn
import Derived.TacticsInMore
import Derived.LoopNIn
import Derived.LoopIn
import Derived.Lib.AtoiErrMem
import Derived.OpenShut
import Derived.Lib.ConvBytes
import Derived.Deep.RegionLaw
import Derived.Deep.AppendLies
import Derived.Lib.AppendZeros
import Derived.ProofKit
import Derived.Handed
import Derived.SizedLaws
import Derived.ShutString
import Derived.Deep.Slices
import Derived.Deep.Fields
import Derived.ChangeSame
namespace Go.Proofs.YtoiphglfngkoiaaGreatDoor.Cl
set_option linter.unusedVariables false
open Go.RowKit Wd Rp Kp
theorem en_step_op {l : List Tk} {k m : Nat} {c : Tk} (hc : l[k]? = some c) (h : isO c = true) : en (l.drop k) (m + 1) = (en (l.drop (k + 1)) (m + 2)).map (· + 1) := by
  rw [List.drop_eq_getElem_cons (List.getElem?_eq_some_iff.1 hc).1, (List.getElem?_eq_some_iff.1 hc).2, en_op h]
theorem en_step_leaf {l : List Tk} {k m : Nat} {c : Tk} (hc : l[k]? = some c) (h : isL c = true) : en (l.drop k) (m + 1) = (en (l.drop (k + 1)) m).map (· + 1) := by
  rw [List.drop_eq_getElem_cons (List.getElem?_eq_some_iff.1 hc).1, (List.getElem?_eq_some_iff.1 hc).2, en_leaf h]
theorem en_step_bad {l : List Tk} {k m : Nat} {c : Tk} (hc : l[k]? = some c) (h : isO c = false) (h2 : isL c = false) : en (l.drop k) (m + 1) = none := by
  rw [List.drop_eq_getElem_cons (List.getElem?_eq_some_iff.1 hc).1, (List.getElem?_eq_some_iff.1 hc).2, en_bad h h2]
def Opn (l : List Tk) (k j m : Nat) : Prop := k ≤ j ∧ m ≤ j - k + 1 ∧ en (l.drop k) 1 = (en (l.drop j) m).map (· + (j - k))
theorem Opn.start (l : List Tk) (k : Nat) : Opn l k k 1 := ⟨Nat.le_refl _, by omega, by simp⟩
theorem Opn.op {l : List Tk} {k j m : Nat} {c : Tk} (h : Opn l k j (m + 1)) (hc : l[j]? = some c) (ho : isO c = true) : Opn l k (j + 1) (m + 2) := by
  obtain ⟨h1, h2, h3⟩ := h
  refine ⟨by omega, by omega, ?_⟩
  rw [h3, en_step_op hc ho, Option.map_map]
  congr 1; funext x; show x + 1 + (j - k) = x + (j + 1 - k); omega
theorem Opn.leaf {l : List Tk} {k j m : Nat} {c : Tk} (h : Opn l k j (m + 1)) (hc : l[j]? = some c) (ho : isL c = true) : Opn l k (j + 1) m := by
  obtain ⟨h1, h2, h3⟩ := h
  refine ⟨by omega, by omega, ?_⟩
  rw [h3, en_step_leaf hc ho, Option.map_map]
  congr 1; funext x; show x + 1 + (j - k) = x + (j + 1 - k); omega
theorem Opn.bad {l : List Tk} {k j m : Nat} {c : Tk} (h : Opn l k j (m + 1)) (hc : l[j]? = some c) (h1 : isO c = false) (h2 : isL c = false) : edV l (k : Int) = -1 := by
  unfold edV; rw [enA_nat, h.2.2, en_step_bad hc h1 h2]; rfl
theorem Opn.out {l : List Tk} {k j m : Nat} (h : Opn l k j (m + 1)) (hj : l.length ≤ j) : edV l (k : Int) = -1 := by
  unfold edV; rw [enA_nat, h.2.2, List.drop_eq_nil_of_le hj, en_nil]; rfl
theorem Opn.done {l : List Tk} {k j : Nat} (h : Opn l k j 0) : edV l (k : Int) = (j : Int) := by
  unfold edV; rw [enA_nat, h.2.2, en_zero]
  have := h.1
  show (k : Int) + ((0 + (j - k) : Nat) : Int) = j
  omega
theorem isL_of {c : Tk} (ho : isO c = false) (h : rdB c = true ∨ gvN c ≠ 0 ∨ nmB c = true) : isL c = true := by
  unfold isO at ho; unfold isL
  have e : opN c = 0 := by simpa using ho
  rcases h with h | h | h <;> simp [e, h]
theorem isL_not {c : Tk} (h1 : rdB c = false) (h2 : gvN c = 0) (h3 : nmB c = false) : isL c = false := by unfold isL; simp [h1, h2, h3]
theorem edV_neg {l : List Tk} {i : Int} (h : i < 0) : edV l i = -1 := by unfold edV; rw [enA_neg h]
theorem isO_ne {s : Tk} (h : isO s = true) : opN s ≠ 0 := by unfold isO at h; simpa using h
theorem isL_0 {s : Tk} (h : isL s = true) : opN s = 0 := by
  have := isL_O h
  unfold isO at this; simpa using this
theorem rd_word {s : Tk} (h : rdB s = true) : isW (rdV s) = true := by
  unfold rdB at h; unfold rdV
  cases e : rd s with
  | none => rw [e] at h; cases h
  | some v => exact ((rd_iff s v).1 e).1
theorem wrap32_w {n : Int} (h : isW n = true) : wrap32 n = n := by
  obtain ⟨h1, h2⟩ := (isW_iff n).1 h
  unfold wrap32; omega
theorem tx_neL {a b : Tk} (h : ¬ a = b) : ((tx a).toList == b) = false := by rw [Lib.toList_data, tx_data, beq_eq_false_iff_ne]; exact h
theorem lib3_below {w w' : World} (h : Lib3 w) (hb : Below w.heap.size w w') : Lib3 w' := h.carry hb ⟨h.2.2.2.1, h.2.2.2.2.1, h.2.2.2.2.2⟩
set_option maxHeartbeats 4000000 in
set_option maxRecDepth 100000 in
theorem l8End_any (w : World) (a : Option Addr) (cap : Nat) (l : List Tk) (n : Nat) (i : Int) (hi : I64 i) (hn : l.length = n) (hv : V1 w a cap (txL l)) (hl : n ≤ 4194304) (hm : ∀ s ∈ l, s.length ≤ 4194304) :
    Calls Tryz.prog 36 #[.slice a n cap, .int .i64 i] w fun e w' => e = .returned (.int .i64 (edV l i)) ∧ Below w.heap.size w w' := by
  have HV := Lib.hid hv; clear hv
  have HN := Lib.hid hn; clear hn
  have HM := Lib.hid hm; clear hm
  by_cases hneg : i < 0
  · have HE := Lib.hid (edV_neg (l := l) hneg)
    go_enter Tryz.func36, Tryz.ntmps36
    go_wp2_with fail
    go_loopw [1, 5] (fun q o wr => q = .int .i64 i ∧ o = .int .i64 1 ∧ wr = w) (fun _ _ _ => 0)
    case atStart => exact ⟨rfl, rfl, rfl⟩
    case round =>
      obtain ⟨rfl, rfl, rfl⟩ := hrel
      go_wp2_with fail
      go_ret
      exact ⟨by rw [HE.out]; rfl, Below.refl _ _⟩
  obtain ⟨k, rfl⟩ : ∃ k : Nat, i = k := ⟨i.toNat, by omega⟩
  obtain ⟨hi0, hi1⟩ := hi
  go_enter Tryz.func36, Tryz.ntmps36
  go_wp2_with fail
  go_loopw [1, 5] (fun q o wr => ∃ j m : Nat, q = .int .i64 j ∧ o = .int .i64 m ∧ (j ≤ n ∨ j = k) ∧ Opn l k j m ∧ Below w.heap.size w wr) (fun q _ _ => n - intV q)
  case atStart => exact ⟨k, 1, rfl, rfl, Or.inr rfl, Opn.start l k, Below.refl _ _⟩
  case round =>
    obtain ⟨j, m, rfl, rfl, hj, hop, hbel⟩ := hrel
    have HB := Lib.hid hbel; clear hbel
    have HO := Lib.hid hop
    obtain ⟨hkj, hmj, -⟩ := hop
    have hj2 : j ≤ 9223372036854775807 := by omega
    cases m with
    | zero =>
      have HE := Lib.hid HO.out.done
      go_wp2_with fail
      go_ret
      exact ⟨by rw [HE.out]; rfl, HB.out⟩
    | succ m =>
      have p0 : (0 : Int) < ((m + 1 : Nat) : Int) := by omega
      have p1 : ¬ (j : Int) < 0 := by omega
      have p1d : decide ((j : Int) < 0) = false := by simp
      by_cases hlt : j < n
      · have p2 : ¬ (n : Int) ≤ (j : Int) := by omega
        have p2d : decide ((n : Int) ≤ (j : Int)) = false := by simpa using p2
        obtain ⟨c, hc⟩ : ∃ c, l[j]? = some c := ⟨l[j]'(by have := HN.out; omega), List.getElem?_eq_getElem _⟩
        obtain ⟨g, o, rfl, hg, g0⟩ := HV.out.tx hc
        have c0 : wr.cell? ⟨g, o + j, none⟩ = some (.string (tx c)) := (World.cell?_of_block (w := w) (HB.out.block g hg)).trans g0
        have HC := Lib.hid hc
        have hcl : c.length ≤ 4194304 := HM.out c (List.mem_of_getElem? hc)
        have HR := Lib.hid (fun w => rdS_any c w (by omega))
        have HP := Lib.hid (fun w => l8Op_any w c)
        have HG := Lib.hid (fun w => l8Given_any w c)
        have HS := Lib.hid (fun w => nmS_any c w (by omega))
        have HGL := Lib.hid (gvN_le c)
        have HPL := Lib.hid (opN_le c)
        clear hc hg g0
        by_cases ho : opN c = 0
        · have HX := Lib.hid (show isO c = false by unfold isO; simp [ho])
          rw [ho] at HP
          have HLF := Lib.hid (fun h => (HO.out.leaf HC.out (isL_of HX.out h)))
          have HBD := Lib.hid (fun h1 h2 h3 => (HO.out.bad HC.out HX.out (isL_not h1 h2 h3)))
          clear ho
          cases hr : rdB c
          · rw [hr] at HR HBD
            by_cases hgv : gvN c = 0
            · rw [hgv] at HG HBD
              cases hnm : nmB c
              · rw [hnm] at HS HBD
                have HE := Lib.hid (HBD.out rfl rfl rfl)
                clear HBD HLF HX hr hgv hnm
                generalize rdV c = rv at *
                generalize tx c = x at *
                go_wp2_with fail
                refine (HR.out _).mono ?_; rintro e w1 ⟨rfl, rfl⟩
                go_wp2_with fail
                refine (HP.out _).mono ?_; rintro e w2 ⟨rfl, b2⟩
                have B2 := Lib.hid (bel_tr HB.out b2 (Nat.le_refl _)); clear b2
                go_wp2_with fail
                refine (HG.out _).mono ?_; rintro e w3 ⟨rfl, b3⟩
                have B3 := Lib.hid (bel_tr B2.out b3 (Nat.le_refl _)); clear b3
                go_wp2_with fail
                refine (HS.out _).mono ?_; rintro e w4 ⟨rfl, rfl⟩
                go_wp2_with fail
                go_ret
                exact ⟨by rw [HE.out]; rfl, B3.out⟩
              · rw [hnm] at HS
                have HN2 := Lib.hid (HLF.out (Or.inr (Or.inr hnm)))
                clear HBD HLF HX hr hgv hnm
                generalize rdV c = rv at *
                generalize tx c = x at *
                go_wp2_with fail
                refine (HR.out _).mono ?_; rintro e w1 ⟨rfl, rfl⟩
                go_wp2_with fail
                refine (HP.out _).mono ?_; rintro e w2 ⟨rfl, b2⟩
                have B2 := Lib.hid (bel_tr HB.out b2 (Nat.le_refl _)); clear b2
                go_wp2_with fail
                refine (HG.out _).mono ?_; rintro e w3 ⟨rfl, b3⟩
                have B3 := Lib.hid (bel_tr B2.out b3 (Nat.le_refl _)); clear b3
                go_wp2_with fail
                refine (HS.out _).mono ?_; rintro e w4 ⟨rfl, rfl⟩
                go_wp2_with fail
                go_roundw
                case rel => exact ⟨j + 1, m, by go_num, by go_num, Or.inl (by omega), HN2.out, B3.out⟩
                case measure => simp [intV]; omega
            · have HN2 := Lib.hid (HLF.out (Or.inr (Or.inl hgv)))
              have p3 : (0 : Int) ≤ (gvN c : Int) - 1 := by omega
              have p3d : decide ((0 : Int) ≤ (gvN c : Int) - 1) = true := by simpa using p3
              clear HBD HLF HX hr hgv
              generalize (gvN c : Int) - 1 = y at *
              generalize rdV c = rv at *
              generalize tx c = x at *
              go_wp2_with fail
              refine (HR.out _).mono ?_; rintro e w1 ⟨rfl, rfl⟩
              go_wp2_with fail
              refine (HP.out _).mono ?_; rintro e w2 ⟨rfl, b2⟩
              have B2 := Lib.hid (bel_tr HB.out b2 (Nat.le_refl _)); clear b2
              go_wp2_with fail
              refine (HG.out _).mono ?_; rintro e w3 ⟨rfl, b3⟩
              have B3 := Lib.hid (bel_tr B2.out b3 (Nat.le_refl _)); clear b3
              go_wp2_with fail
              go_roundw
              case rel => exact ⟨j + 1, m, by go_num, by go_num, Or.inl (by omega), HN2.out, B3.out⟩
              case measure => simp [intV]; omega
          · rw [hr] at HR
            have HN2 := Lib.hid (HLF.out (Or.inl hr))
            clear HBD HLF HX hr
            generalize rdV c = rv at *
            generalize tx c = x at *
            go_wp2_with fail
            refine (HR.out _).mono ?_; rintro e w1 ⟨rfl, rfl⟩
            go_wp2_with fail
            refine (HP.out _).mono ?_; rintro e w2 ⟨rfl, b2⟩
            have B2 := Lib.hid (bel_tr HB.out b2 (Nat.le_refl _)); clear b2
            go_wp2_with fail
            go_roundw
            case rel => exact ⟨j + 1, m, by go_num, by go_num, Or.inl (by omega), HN2.out, B2.out⟩
            case measure => simp [intV]; omega
        · have HN2 := Lib.hid (HO.out.op HC.out (show isO c = true by unfold isO; simp [ho]))
          have p4 : (0 : Int) < (opN c : Int) := by omega
          have p5 : (opN c : Int) ≤ 7 := by have := HPL.out; omega
          clear HPL HGL HC ho
          generalize (opN c : Int) = y at *
          generalize rdB c = rb at *
          generalize rdV c = rv at *
          generalize tx c = x at *
          go_wp2_with fail
          refine (HR.out _).mono ?_; rintro e w1 ⟨rfl, rfl⟩
          go_wp2_with fail
          refine (HP.out _).mono ?_; rintro e w2 ⟨rfl, b2⟩
          have B2 := Lib.hid (bel_tr HB.out b2 (Nat.le_refl _)); clear b2
          go_wp2_with fail
          go_roundw
          case rel => exact ⟨j + 1, m + 2, by go_num, by go_num, Or.inl (by omega), HN2.out, B2.out⟩
          case measure => simp [intV]; omega
      · have p2 : (n : Int) ≤ (j : Int) := by omega
        have p2d : decide ((n : Int) ≤ (j : Int)) = true := by simpa using p2
        have HE := Lib.hid (HO.out.out (by have := HN.out; omega))
        go_wp2_with fail
        go_ret
        exact ⟨by rw [HE.out]; rfl, HB.out⟩
set_option maxHeartbeats 4000000 in
set_option maxRecDepth 100000 in
theorem operatorOf_any (s : Tk) (w : World) : Calls Tryz.prog 70 #[.string (tx s)] w fun e w' => e = .returned (.int .i64 (opN s)) ∧ w = w' := by
  by_cases h0 : s = [43]
  · subst h0
    show Calls Tryz.prog 70 #[.string ⟨#[43]⟩] w _
    go_enter Tryz.func70, Tryz.ntmps70
    go_wp2_with fail
    go_ret
    exact ⟨rfl, rfl⟩
  by_cases h1 : s = [45]
  · subst h1
    show Calls Tryz.prog 70 #[.string ⟨#[45]⟩] w _
    go_enter Tryz.func70, Tryz.ntmps70
    go_wp2_with fail
    go_ret
    exact ⟨rfl, rfl⟩
  by_cases h2 : s = [42]
  · subst h2
    show Calls Tryz.prog 70 #[.string ⟨#[42]⟩] w _
    go_enter Tryz.func70, Tryz.ntmps70
    go_wp2_with fail
    go_ret
    exact ⟨rfl, rfl⟩
  by_cases h3 : s = [47]
  · subst h3
    show Calls Tryz.prog 70 #[.string ⟨#[47]⟩] w _
    go_enter Tryz.func70, Tryz.ntmps70
    go_wp2_with fail
    go_ret
    exact ⟨rfl, rfl⟩
  by_cases h4 : s = [60]
  · subst h4
    show Calls Tryz.prog 70 #[.string ⟨#[60]⟩] w _
    go_enter Tryz.func70, Tryz.ntmps70
    go_wp2_with fail
    go_ret
    exact ⟨rfl, rfl⟩
  by_cases h5 : s = [61]
  · subst h5
    show Calls Tryz.prog 70 #[.string ⟨#[61]⟩] w _
    go_enter Tryz.func70, Tryz.ntmps70
    go_wp2_with fail
    go_ret
    exact ⟨rfl, rfl⟩
  by_cases h6 : s = [38]
  · subst h6
    show Calls Tryz.prog 70 #[.string ⟨#[38]⟩] w _
    go_enter Tryz.func70, Tryz.ntmps70
    go_wp2_with fail
    go_ret
    exact ⟨rfl, rfl⟩
  have q0 : ((tx s).toList == [43]) = false := tx_neL h0
  have q1 : ((tx s).toList == [45]) = false := tx_neL h1
  have q2 : ((tx s).toList == [42]) = false := tx_neL h2
  have q3 : ((tx s).toList == [47]) = false := tx_neL h3
  have q4 : ((tx s).toList == [60]) = false := tx_neL h4
  have q5 : ((tx s).toList == [61]) = false := tx_neL h5
  have q6 : ((tx s).toList == [38]) = false := tx_neL h6
  have HE := Lib.hid (show opN s = 0 by unfold opN opsL; simp only [at?]; rw [if_neg (fun e => h0 e.symm), if_neg (fun e => h1 e.symm), if_neg (fun e => h2 e.symm), if_neg (fun e => h3 e.symm), if_neg (fun e => h4 e.symm), if_neg (fun e => h5 e.symm), if_neg (fun e => h6 e.symm)]; rfl)
  clear h0 h1 h2 h3 h4 h5 h6
  generalize tx s = x at *
  go_enter Tryz.func70, Tryz.ntmps70
  go_wp2_with fail
  go_ret
  exact ⟨by rw [HE.out]; rfl, rfl⟩
def sgV (s : Tk) : Value := if gvN s ≠ 0 then .iface 89 (.int .i64 ((gvN s : Int) - 1)) else if opN s ≠ 0 then .iface 75 (.int .i64 (opN s)) else if nmB s then .iface 90 (.string (tx s)) else if rdB s then .iface 88 (.int .i32 (rdV s)) else .nilIface
theorem sgV_op {s : Tk} (h : isO s = true) : sgV s = .iface 75 (.int .i64 (opN s)) := by
  have h1 : opN s ≠ 0 := by unfold isO at h; simpa using h
  have h2 : gvN s = 0 := by
    apply Decidable.byContradiction; intro h2
    exact h1 (gv_op h2)
  unfold sgV; rw [if_neg (by omega), if_pos h1]
theorem sgV_bad {s : Tk} (h : isO s = false) (h2 : isL s = false) : sgV s = .nilIface := by
  have h1 : opN s = 0 := by unfold isO at h; simpa using h
  unfold isL at h2
  simp only [h1, beq_self_eq_true, Bool.true_and, Bool.or_eq_false_iff] at h2
  obtain ⟨h3, h4, h5⟩ := h2
  unfold sgV; rw [if_neg (by simpa using h3), if_neg (by omega), h4, h5]; rfl
theorem sgV_leaf {s : Tk} (h : isL s = true) : ∃ T x, sgV s = .iface T x ∧ ∀ w, (Instr.typeAssert (.iface T x) 86 75 true).run Tryz.prog w = .ok (.tuple #[.int .i64 0, .bool false]) w := by
  unfold isL at h
  simp only [Bool.and_eq_true, beq_iff_eq, Bool.or_eq_true] at h
  obtain ⟨h1, h2⟩ := h
  unfold sgV
  by_cases hg : gvN s ≠ 0
  · rw [if_pos hg]; exact ⟨_, _, rfl, ta_op_gv _⟩
  rw [if_neg hg, if_neg (by omega)]
  cases hn : nmB s
  · cases hr : rdB s
    · rw [hn, hr] at h2; simp at h2; exact absurd h2 hg
    · exact ⟨_, _, rfl, ta_op_wd _⟩
  · exact ⟨_, _, rfl, ta_op_nm _⟩
set_option maxHeartbeats 4000000 in
set_option maxRecDepth 100000 in
theorem signOf_any (s : Tk) (w : World) (hL : Lib3 w) (hs : s.length ≤ 4194304) : Calls Tryz.prog 60 #[.string (tx s)] w fun e w' => e = .returned (sgV s) ∧ Below w.heap.size w w' := by
  by_cases h0 : s = [64, 48]
  · subst h0
    show Calls Tryz.prog 60 #[.string ⟨#[64, 48]⟩] w _
    go_enter Tryz.func60, Tryz.ntmps60
    go_wp2_with fail
    go_ret
    exact ⟨rfl, Below.refl _ _⟩
  by_cases h1 : s = [64, 49]
  · subst h1
    show Calls Tryz.prog 60 #[.string ⟨#[64, 49]⟩] w _
    go_enter Tryz.func60, Tryz.ntmps60
    go_wp2_with fail
    go_ret
    exact ⟨rfl, Below.refl _ _⟩
  by_cases h2 : s = [64, 50]
  · subst h2
    show Calls Tryz.prog 60 #[.string ⟨#[64, 50]⟩] w _
    go_enter Tryz.func60, Tryz.ntmps60
    go_wp2_with fail
    go_ret
    exact ⟨rfl, Below.refl _ _⟩
  have q0 : ((tx s).toList == [64, 48]) = false := tx_neL h0
  have q1 : ((tx s).toList == [64, 49]) = false := tx_neL h1
  have q2 : ((tx s).toList == [64, 50]) = false := tx_neL h2
  have HG := Lib.hid (show gvN s = 0 by unfold gvN gvsL; simp only [at?]; rw [if_neg (fun e => h0 e.symm), if_neg (fun e => h1 e.symm), if_neg (fun e => h2 e.symm)]; rfl)
  have HSG := Lib.hid (show sgV s = if opN s ≠ 0 then .iface 75 (.int .i64 (opN s)) else if nmB s then .iface 90 (.string (tx s)) else if rdB s then .iface 88 (.int .i32 (rdV s)) else .nilIface by unfold sgV; rw [HG.out]; rfl)
  have HO := Lib.hid (fun w => operatorOf_any s w)
  have HN := Lib.hid (fun w => nmI_any s w)
  have HR := Lib.hid (rdI_any s w hL (by omega))
  clear h0 h1 h2 hL
  generalize sgV s = y at *
  obtain ⟨o, ho⟩ : ∃ o, opN s = o := ⟨_, rfl⟩
  rw [ho] at HO HSG
  have ho7 : o ≤ 7 := by rw [← ho]; exact opN_le s
  clear ho
  by_cases h : o = 0
  · subst h
    cases hn : nmB s
    · rw [hn] at HN HSG
      cases hr : rdB s
      · rw [hr] at HR HSG
        have HE := Lib.hid (HSG.out.trans rfl); clear HSG hn hr
        
        generalize nmB s = nb at *
        generalize rdB s = rb at *
        generalize rdV s = rv at *
        generalize tx s = x at *
        go_enter Tryz.func60, Tryz.ntmps60
        go_wp2_with fail
        refine (HO.out _).mono ?_; rintro e w1 ⟨rfl, rfl⟩
        go_wp2_with fail
        refine (HN.out _).mono ?_; rintro e w2 ⟨rfl, rfl⟩
        go_wp2_with fail
        refine HR.out.mono ?_; rintro e w3 ⟨rfl, b3⟩
        have B3 := Lib.hid b3; clear b3
        go_wp2_with fail
        go_ret
        exact ⟨by rw [HE.out]; rfl, B3.out⟩
      · rw [hr] at HR HSG
        have HW := Lib.hid (wrap32_w (rd_word hr))
        have HE := Lib.hid (HSG.out.trans rfl); clear HSG hn hr
        
        generalize nmB s = nb at *
        generalize rdB s = rb at *
        generalize rdV s = rv at *
        generalize tx s = x at *
        go_enter Tryz.func60, Tryz.ntmps60
        go_wp2_with fail
        refine (HO.out _).mono ?_; rintro e w1 ⟨rfl, rfl⟩
        go_wp2_with fail
        refine (HN.out _).mono ?_; rintro e w2 ⟨rfl, rfl⟩
        go_wp2_with fail
        refine HR.out.mono ?_; rintro e w3 ⟨rfl, b3⟩
        have B3 := Lib.hid b3; clear b3
        go_wp2_with fail
        go_ret
        exact ⟨by rw [HE.out]; show Ending.returned (Value.iface 88 (.int .i32 (wrap32 rv))) = _; rw [HW.out]; rfl, B3.out⟩
    · rw [hn] at HN HSG
      have HE := Lib.hid (HSG.out.trans rfl); clear HSG hn HR
      
      generalize nmB s = nb at *
      generalize rdB s = rb at *
      generalize rdV s = rv at *
      generalize tx s = x at *
      go_enter Tryz.func60, Tryz.ntmps60
      go_wp2_with fail
      refine (HO.out _).mono ?_; rintro e w1 ⟨rfl, rfl⟩
      go_wp2_with fail
      refine (HN.out _).mono ?_; rintro e w2 ⟨rfl, rfl⟩
      go_wp2_with fail
      go_ret
      exact ⟨by rw [HE.out]; rfl, Below.refl _ _⟩
  · have HE := Lib.hid (HSG.out.trans (if_pos h)); clear HSG HR
    have q5 : (((o : Int) != 0)) = true := by simp; omega
    
    generalize nmB s = nb at *
    generalize rdB s = rb at *
    generalize rdV s = rv at *
    generalize tx s = x at *
    go_enter Tryz.func60, Tryz.ntmps60
    go_wp2_with fail
    refine (HO.out _).mono ?_; rintro e w1 ⟨rfl, rfl⟩
    go_wp2_with fail
    go_ret
    exact ⟨by rw [HE.out]; rfl, Below.refl _ _⟩
set_option maxHeartbeats 4000000 in
set_option maxRecDepth 100000 in
theorem implEnd_any (w : World) (a : Option Addr) (cap : Nat) (l : List Tk) (n : Nat) (i : Int) (hi : I64 i) (hn : l.length = n) (hv : V1 w a cap (txL l)) (hl : n ≤ 4194304) (hm : ∀ s ∈ l, s.length ≤ 4194304) (hL : Lib3 w) :
    Calls Tryz.prog 63 #[.slice a n cap, .int .i64 i] w fun e w' => e = .returned (.int .i64 (edV l i)) ∧ Below w.heap.size w w' := by
  have HV := Lib.hid hv; clear hv
  have HN := Lib.hid hn; clear hn
  have HM := Lib.hid hm; clear hm
  have HL := Lib.hid hL; clear hL
  by_cases hneg : i < 0
  · have HE := Lib.hid (edV_neg (l := l) hneg)
    go_enter Tryz.func63, Tryz.ntmps63
    go_wp2_with fail
    go_ret
    exact ⟨by rw [HE.out]; rfl, Below.refl _ _⟩
  obtain ⟨k, rfl⟩ : ∃ k : Nat, i = k := ⟨i.toNat, by omega⟩
  obtain ⟨hi0, hi1⟩ := hi
  go_enter Tryz.func63, Tryz.ntmps63
  go_wp2_with fail
  go_loopw [5, 6] (fun o q wr => ∃ j m : Nat, q = .int .i64 j ∧ o = .int .i64 (m + 1 : Nat) ∧ (j ≤ n ∨ j = k) ∧ Opn l k j (m + 1) ∧ Below w.heap.size w wr) (fun _ q _ => n - intV q)
  case atStart => exact ⟨k, 0, rfl, rfl, Or.inr rfl, Opn.start l k, Below.refl _ _⟩
  case round =>
    obtain ⟨j, m, rfl, rfl, hj, hop, hbel⟩ := hrel
    have HB := Lib.hid hbel; clear hbel
    have HO := Lib.hid hop
    obtain ⟨hkj, hmj, -⟩ := hop
    have hj2 : j ≤ 9223372036854775807 := by omega
    by_cases hlt : j < n
    · obtain ⟨c, hc⟩ : ∃ c, l[j]? = some c := ⟨l[j]'(by have := HN.out; omega), List.getElem?_eq_getElem _⟩
      obtain ⟨g, o, rfl, hg, g0⟩ := HV.out.tx hc
      have c0 : wr.cell? ⟨g, o + j, none⟩ = some (.string (tx c)) := (World.cell?_of_block (w := w) (HB.out.block g hg)).trans g0
      have HC := Lib.hid hc
      have hcl : c.length ≤ 4194304 := HM.out c (List.mem_of_getElem? hc)
      have HS := Lib.hid (signOf_any c wr (lib3_below HL.out HB.out) hcl)
      clear hc hg g0
      cases ho : isO c
      · cases hl2 : isL c
        · have HE := Lib.hid (HO.out.bad HC.out ho hl2)
          rw [sgV_bad ho hl2] at HS
          have nn := nn_nil
          clear HC HO ho hl2
          generalize tx c = x at *
          go_wp2_with fail
          refine HS.out.mono ?_; rintro e w1 ⟨rfl, b1⟩
          have B1 := Lib.hid (bel_tr HB.out b1 (Nat.le_refl _)); clear b1
          go_wp2_with fail
          go_ret
          exact ⟨by rw [HE.out]; rfl, B1.out⟩
        · obtain ⟨T, v, hsv, hta⟩ := sgV_leaf hl2
          rw [hsv] at HS
          have nn := nn_if T v
          have HN2 := Lib.hid (HO.out.leaf HC.out hl2)
          clear HC HO ho hl2 hsv
          generalize tx c = x at *
          cases m with
          | zero =>
            have HE := Lib.hid HN2.out.done
            go_wp2_with fail
            refine HS.out.mono ?_; rintro e w1 ⟨rfl, b1⟩
            have B1 := Lib.hid (bel_tr HB.out b1 (Nat.le_refl _)); clear b1
            go_wp2_with fail
            go_ret
            exact ⟨by rw [HE.out]; rfl, B1.out⟩
          | succ m =>
            have p6 : (((m + 1 + 1 : Nat) : Int) - 1 == 0) = false := by rw [beq_eq_false_iff_ne]; omega
            go_wp2_with fail
            refine HS.out.mono ?_; rintro e w1 ⟨rfl, b1⟩
            have B1 := Lib.hid (bel_tr HB.out b1 (Nat.le_refl _)); clear b1
            go_wp2_with fail
            go_roundw
            case rel => exact ⟨j + 1, m, by go_num, by go_num, Or.inl (by omega), HN2.out, B1.out⟩
            case measure => simp [intV]; omega
      · rw [sgV_op ho] at HS
        have nn := nn_if 75 (.int .i64 (opN c))
        have hta := ta_op (.int .i64 (opN c))
        have HN2 := Lib.hid (HO.out.op HC.out ho)
        clear HC HO ho
        generalize (opN c : Int) = y at *
        generalize tx c = x at *
        have p6 : (((m + 1 : Nat) : Int) + 1 == 0) = false := by rw [beq_eq_false_iff_ne]; omega
        go_wp2_with fail
        refine HS.out.mono ?_; rintro e w1 ⟨rfl, b1⟩
        have B1 := Lib.hid (bel_tr HB.out b1 (Nat.le_refl _)); clear b1
        go_wp2_with fail
        go_roundw
        case rel => exact ⟨j + 1, m + 1, by go_num, by go_num, Or.inl (by omega), HN2.out, B1.out⟩
        case measure => simp [intV]; omega
    · have HE := Lib.hid (HO.out.out (by have := HN.out; omega))
      go_wp2_with fail
      go_ret
      exact ⟨by rw [HE.out]; rfl, HB.out⟩
end Go.Proofs.YtoiphglfngkoiaaGreatDoor.Cl
namespace Go.Proofs.YtoiphglfngkoiaaGreatDoor.Cl
set_option linter.unusedVariables false
open Go.RowKit Wd Rp Kp
theorem VwI.grown {w w' : World} {a : Option Addr} {cap : Nat} {l : List Bi} {row : Option Nat} (h : VwI w a cap l) (hg : w.grownBy w' row) (hne : ∀ g o, l ≠ [] → a = some ⟨g, o, none⟩ → row ≠ some g) : VwI w' a cap l := by
  obtain ⟨h1, h2, h3, h4⟩ := h
  refine ⟨h1, h2, h3, fun k c hk => ?_⟩
  obtain ⟨g, o, e, hlt, hc⟩ := h4 k c hk
  exact ⟨g, o, e, Nat.lt_of_lt_of_le hlt hg.size, hc.same (hg.block g hlt (fun e2 => hne g o (fun e3 => by rw [e3] at hk; simp at hk) e e2.symm))⟩
theorem VwI.at {w : World} {a : Option Addr} {cap : Nat} {l : List Bi} (h : VwI w a cap l) {k : Nat} (hk : k ≤ l.length) : VwI w a cap (l.take k) := h.take hk (Nat.le_trans hk h.1) (Nat.le_refl _) h.2.2.1
def st7 (l : List Bi) (n : ByteArray) (x : Int) : List Bi × Bool := if isAt n l then (stI l n x, true) else if l.length = 12 then (l, false) else (stI l n x, true)
end Go.Proofs.YtoiphglfngkoiaaGreatDoor.Cl
namespace Go.Proofs.YtoiphglfngkoiaaGreatDoor.Cl
set_option linter.unusedVariables false
open Go.RowKit Wd Rp Kp
theorem drop_head {l : List Tk} {k : Nat} {s : Tk} {r : List Tk} (h : l.drop k = s :: r) : l[k]? = some s ∧ k < l.length ∧ l.drop (k + 1) = r := by
  have h1 : (l.drop k)[0]? = some s := by rw [h]; rfl
  rw [List.getElem?_drop, Nat.add_zero] at h1
  refine ⟨h1, (List.getElem?_eq_some_iff.1 h1).1, ?_⟩
  rw [← List.drop_drop, h]; rfl
theorem drop_more {l x r : List Tk} {k : Nat} (h : l.drop k = x ++ r) : l.drop (k + x.length) = r := by rw [← List.drop_drop, h, List.drop_left]
theorem su_len {l : List Tk} {i : Int} {u : Su} {r : List Tk} (h0 : 0 ≤ i) (h : l.drop i.toNat = u.fl ++ r) : i + u.fl.length ≤ l.length := by
  have := congrArg List.length h
  rw [List.length_drop, List.length_append] at this
  have := u.pos
  omega
theorem edV_some {l : List Tk} {i : Int} {m : Nat} (h : enA l i = some m) : edV l i = i + m := by unfold edV; rw [h]
theorem edV_none {l : List Tk} {i : Int} (h : enA l i = none) : edV l i = -1 := by unfold edV; rw [h]
theorem kdG_yes {o : Nat} {a b : Int} (ha : a = tkK o) (hb : b = tkK o) : kdG o a b = ylK o := by unfold kdG; rw [if_pos ⟨ha, hb⟩]
theorem kdG_no {o : Nat} {a b : Int} (h : ¬ (a = tkK o ∧ b = tkK o)) : kdG o a b = 0 := by unfold kdG; rw [if_neg h]
set_option maxHeartbeats 4000000 in
set_option maxRecDepth 100000 in
theorem l8Kind_any (a : Option Addr) (cap : Nat) (l : List Tk) (n : Nat) (hn : l.length = n) (hl : n ≤ 4194304) (hm : ∀ s ∈ l, s.length ≤ 4194304) : ∀ (u : Su), u.ok → ∀ (i : Int) (r : List Tk) (w : World), 0 ≤ i → l.drop i.toNat = u.fl ++ r → V1 w a cap (txL l) →
    Calls Tryz.prog 53 #[.slice a n cap, .int .i64 i] w fun e w' => e = .returned (.tuple #[.int .i64 (u.fo kdF kdG), .int .i64 (i + (u.fl.length : Int))]) ∧ Below w.heap.size w w' := by
  intro u
  induction u with
  | one s =>
    intro hu i r w hi hd hv
    have h0 := isL_0 hu
    obtain ⟨hs, hlt, -⟩ := drop_head hd
    obtain ⟨k, rfl⟩ : ∃ k : Nat, i = k := ⟨i.toNat, by omega⟩
    simp only [Int.toNat_natCast] at hs hlt
    obtain ⟨g, o, rfl, hg, c0⟩ := hv.tx hs
    have HO := Lib.hid (fun w => l8Op_any w s)
    have hsl : s.length ≤ 4194304 := hm s (List.mem_of_getElem? hs)
    have hlk : k < n := by omega
    clear hv hs hg hd
    rw [h0] at HO
    generalize tx s = x at *
    go_enter Tryz.func53, Tryz.ntmps53
    go_wp2_with fail
    refine (HO.out _).mono ?_; rintro e w1 ⟨rfl, b1⟩
    have B1 := Lib.hid b1; clear b1
    go_wp2_with fail
    go_ret2
    exact ⟨rfl, B1.out⟩
  | two s x y ihx ihy =>
    intro hu i r w hi hd hv
    rw [Su.fl, List.cons_append, List.append_assoc] at hd
    obtain ⟨hs, hlt, hd2⟩ := drop_head hd
    have hd1 := hd2
    have hd3 := drop_more hd2
    have e1 : i.toNat + 1 = (i + 1).toNat := by omega
    have e3 : i.toNat + 1 + x.fl.length = (i + 1 + x.fl.length).toNat := by omega
    rw [e1] at hd1
    rw [e3] at hd3
    have hlx := su_len (u := x) (by omega) hd1
    have hly := su_len (u := y) (by omega) hd3
    have HX := Lib.hid (fun w h => ihx hu.2.1 (i + 1) (y.fl ++ r) w (by omega) hd1 h)
    have HY := Lib.hid (fun w h => ihy hu.2.2 (i + 1 + x.fl.length) r w (by omega) hd3 h)
    have hon := isO_ne hu.1
    have ho7 := opN_le s
    have hln : ((Su.two s x y).fl.length : Int) = 1 + x.fl.length + y.fl.length := by simp [Su.fl]; omega
    have HLN := Lib.hid hln; clear hln ihx ihy hd hd1 hd2 hd3 e1 e3 hu
    obtain ⟨k, rfl⟩ : ∃ k : Nat, i = k := ⟨i.toNat, by omega⟩
    simp only [Int.toNat_natCast] at hs hlt
    obtain ⟨g, q, rfl, hg, c0⟩ := hv.tx hs
    have HV := Lib.hid hv
    have HO := Lib.hid (fun w => l8Op_any w s)
    have hlk : k < n := by omega
    clear hs hg hv
    have HE := Lib.hid (show Su.fo kdF kdG (.two s x y) = kdG (opN s) (x.fo kdF kdG) (y.fo kdF kdG) from rfl)
    have hp : ((opN s : Int) == 0) = false := by rw [beq_eq_false_iff_ne]; omega
    generalize hlx' : x.fl.length = lx at *
    generalize hly' : y.fl.length = ly at *
    generalize Su.fo kdF kdG (.two s x y) = kr at *
    generalize x.fo kdF kdG = kx at *
    generalize y.fo kdF kdG = ky at *
    generalize opN s = o at *
    generalize (Su.two s x y).fl.length = ll at *
    generalize tx s = xs at *
    clear hlx' hly' hon
    by_cases h7 : o = 7
    · subst h7
      have htk : tkK 7 = 2 := rfl
      by_cases hx : kx = 2
      · by_cases hy : ky = 2
        · subst hx hy
          
          have HE2 := Lib.hid (HE.out.trans ((kdG_yes (o := 7) rfl rfl : _ = (2 : Int)))); clear HE
          go_enter Tryz.func53, Tryz.ntmps53
          go_wp2_with fail
          refine (HO.out _).mono ?_; rintro e w1 ⟨rfl, b1⟩
          have V1' := Lib.hid (HV.out.below b1)
          have B1 := Lib.hid b1; clear b1
          go_wp2_with fail
          refine (HX.out w1 V1'.out).mono ?_; rintro e w2 ⟨rfl, b2⟩
          have V2' := Lib.hid (V1'.out.below b2)
          have B2 := Lib.hid (bel_tr B1.out b2 (Nat.le_refl _)); clear b2
          go_wp2_with fail
          refine (HY.out w2 V2'.out).mono ?_; rintro e w3 ⟨rfl, b3⟩
          have B3 := Lib.hid (bel_tr B2.out b3 (Nat.le_refl _)); clear b3
          go_wp2_with fail
          go_ret2
          refine ⟨?_, B3.out⟩
          rw [HE2.out, HLN.out]
          exact congrArg (fun z => Ending.returned (Value.tuple #[.int .i64 2, .int .i64 z])) (by omega)
        · subst hx
          have q1 : (ky != 2) = true := by simpa using hy
          
          have HE2 := Lib.hid (HE.out.trans (kdG_no (by rintro ⟨-, h⟩; exact hy (h.trans htk)))); clear HE
          go_enter Tryz.func53, Tryz.ntmps53
          go_wp2_with fail
          refine (HO.out _).mono ?_; rintro e w1 ⟨rfl, b1⟩
          have V1' := Lib.hid (HV.out.below b1)
          have B1 := Lib.hid b1; clear b1
          go_wp2_with fail
          refine (HX.out w1 V1'.out).mono ?_; rintro e w2 ⟨rfl, b2⟩
          have V2' := Lib.hid (V1'.out.below b2)
          have B2 := Lib.hid (bel_tr B1.out b2 (Nat.le_refl _)); clear b2
          go_wp2_with fail
          refine (HY.out w2 V2'.out).mono ?_; rintro e w3 ⟨rfl, b3⟩
          have B3 := Lib.hid (bel_tr B2.out b3 (Nat.le_refl _)); clear b3
          go_wp2_with fail
          go_ret2
          refine ⟨?_, B3.out⟩
          rw [HE2.out, HLN.out]
          exact congrArg (fun z => Ending.returned (Value.tuple #[.int .i64 0, .int .i64 z])) (by omega)
      · have q1 : (kx != 2) = true := by simpa using hx
        
        have HE2 := Lib.hid (HE.out.trans (kdG_no (by rintro ⟨h, -⟩; exact hx (h.trans htk)))); clear HE
        go_enter Tryz.func53, Tryz.ntmps53
        go_wp2_with fail
        refine (HO.out _).mono ?_; rintro e w1 ⟨rfl, b1⟩
        have V1' := Lib.hid (HV.out.below b1)
        have B1 := Lib.hid b1; clear b1
        go_wp2_with fail
        refine (HX.out w1 V1'.out).mono ?_; rintro e w2 ⟨rfl, b2⟩
        have V2' := Lib.hid (V1'.out.below b2)
        have B2 := Lib.hid (bel_tr B1.out b2 (Nat.le_refl _)); clear b2
        go_wp2_with fail
        refine (HY.out w2 V2'.out).mono ?_; rintro e w3 ⟨rfl, b3⟩
        have B3 := Lib.hid (bel_tr B2.out b3 (Nat.le_refl _)); clear b3
        go_wp2_with fail
        go_ret2
        refine ⟨?_, B3.out⟩
        rw [HE2.out, HLN.out]
        exact congrArg (fun z => Ending.returned (Value.tuple #[.int .i64 0, .int .i64 z])) (by omega)
    · have htk : tkK o = 1 := by unfold tkK; rw [if_neg h7]
      have q7 : ((o : Int) == 7) = false := by rw [beq_eq_false_iff_ne]; omega
      by_cases hx : kx = 1
      · by_cases hy : ky = 1
        · subst hx hy
          by_cases h5 : 5 ≤ o
          · have p5 : (5 : Int) ≤ (o : Int) := by omega
            
            have HE2 := Lib.hid (HE.out.trans (((kdG_yes htk.symm htk.symm).trans (by unfold ylK; rw [if_pos h5]) : _ = (2 : Int)))); clear HE
            go_enter Tryz.func53, Tryz.ntmps53
            go_wp2_with fail
            refine (HO.out _).mono ?_; rintro e w1 ⟨rfl, b1⟩
            have V1' := Lib.hid (HV.out.below b1)
            have B1 := Lib.hid b1; clear b1
            go_wp2_with fail
            refine (HX.out w1 V1'.out).mono ?_; rintro e w2 ⟨rfl, b2⟩
            have V2' := Lib.hid (V1'.out.below b2)
            have B2 := Lib.hid (bel_tr B1.out b2 (Nat.le_refl _)); clear b2
            go_wp2_with fail
            refine (HY.out w2 V2'.out).mono ?_; rintro e w3 ⟨rfl, b3⟩
            have B3 := Lib.hid (bel_tr B2.out b3 (Nat.le_refl _)); clear b3
            go_wp2_with fail
            go_ret2
            refine ⟨?_, B3.out⟩
            rw [HE2.out, HLN.out]
            exact congrArg (fun z => Ending.returned (Value.tuple #[.int .i64 2, .int .i64 z])) (by omega)
          · have p5 : ¬ (5 : Int) ≤ (o : Int) := by omega
            
            have HE2 := Lib.hid (HE.out.trans (((kdG_yes htk.symm htk.symm).trans (by unfold ylK; rw [if_neg h5]) : _ = (1 : Int)))); clear HE
            go_enter Tryz.func53, Tryz.ntmps53
            go_wp2_with fail
            refine (HO.out _).mono ?_; rintro e w1 ⟨rfl, b1⟩
            have V1' := Lib.hid (HV.out.below b1)
            have B1 := Lib.hid b1; clear b1
            go_wp2_with fail
            refine (HX.out w1 V1'.out).mono ?_; rintro e w2 ⟨rfl, b2⟩
            have V2' := Lib.hid (V1'.out.below b2)
            have B2 := Lib.hid (bel_tr B1.out b2 (Nat.le_refl _)); clear b2
            go_wp2_with fail
            refine (HY.out w2 V2'.out).mono ?_; rintro e w3 ⟨rfl, b3⟩
            have B3 := Lib.hid (bel_tr B2.out b3 (Nat.le_refl _)); clear b3
            go_wp2_with fail
            go_ret2
            refine ⟨?_, B3.out⟩
            rw [HE2.out, HLN.out]
            exact congrArg (fun z => Ending.returned (Value.tuple #[.int .i64 1, .int .i64 z])) (by omega)
        · subst hx
          have q1 : (ky != 1) = true := by simpa using hy
          
          have HE2 := Lib.hid (HE.out.trans (kdG_no (by rintro ⟨-, h⟩; exact hy (h.trans htk)))); clear HE
          go_enter Tryz.func53, Tryz.ntmps53
          go_wp2_with fail
          refine (HO.out _).mono ?_; rintro e w1 ⟨rfl, b1⟩
          have V1' := Lib.hid (HV.out.below b1)
          have B1 := Lib.hid b1; clear b1
          go_wp2_with fail
          refine (HX.out w1 V1'.out).mono ?_; rintro e w2 ⟨rfl, b2⟩
          have V2' := Lib.hid (V1'.out.below b2)
          have B2 := Lib.hid (bel_tr B1.out b2 (Nat.le_refl _)); clear b2
          go_wp2_with fail
          refine (HY.out w2 V2'.out).mono ?_; rintro e w3 ⟨rfl, b3⟩
          have B3 := Lib.hid (bel_tr B2.out b3 (Nat.le_refl _)); clear b3
          go_wp2_with fail
          go_ret2
          refine ⟨?_, B3.out⟩
          rw [HE2.out, HLN.out]
          exact congrArg (fun z => Ending.returned (Value.tuple #[.int .i64 0, .int .i64 z])) (by omega)
      · have q1 : (kx != 1) = true := by simpa using hx
        
        have HE2 := Lib.hid (HE.out.trans (kdG_no (by rintro ⟨h, -⟩; exact hx (h.trans htk)))); clear HE
        go_enter Tryz.func53, Tryz.ntmps53
        go_wp2_with fail
        refine (HO.out _).mono ?_; rintro e w1 ⟨rfl, b1⟩
        have V1' := Lib.hid (HV.out.below b1)
        have B1 := Lib.hid b1; clear b1
        go_wp2_with fail
        refine (HX.out w1 V1'.out).mono ?_; rintro e w2 ⟨rfl, b2⟩
        have V2' := Lib.hid (V1'.out.below b2)
        have B2 := Lib.hid (bel_tr B1.out b2 (Nat.le_refl _)); clear b2
        go_wp2_with fail
        refine (HY.out w2 V2'.out).mono ?_; rintro e w3 ⟨rfl, b3⟩
        have B3 := Lib.hid (bel_tr B2.out b3 (Nat.le_refl _)); clear b3
        go_wp2_with fail
        go_ret2
        refine ⟨?_, B3.out⟩
        rw [HE2.out, HLN.out]
        exact congrArg (fun z => Ending.returned (Value.tuple #[.int .i64 0, .int .i64 z])) (by omega)
set_option maxRecDepth 100000 in
theorem l1Max_any (a b : Int) (w : World) : Calls Tryz.prog 62 #[.int .i64 a, .int .i64 b] w fun e w' => e = .returned (.int .i64 (mxI a b)) ∧ w = w' := by
  by_cases h : b < a
  · have HE := Lib.hid (show mxI a b = a by unfold mxI; rw [if_pos h])
    go_enter Tryz.func62, Tryz.ntmps62
    go_wp2_with fail
    go_ret
    exact ⟨by rw [HE.out]; rfl, rfl⟩
  · have HE := Lib.hid (show mxI a b = b by unfold mxI; rw [if_neg h])
    go_enter Tryz.func62, Tryz.ntmps62
    go_wp2_with fail
    go_ret
    exact ⟨by rw [HE.out]; rfl, rfl⟩
set_option maxHeartbeats 4000000 in
set_option maxRecDepth 100000 in
theorem l8Depth_any (a : Option Addr) (cap : Nat) (l : List Tk) (n : Nat) (hn : l.length = n) (hl : n ≤ 4194304) (hm : ∀ s ∈ l, s.length ≤ 4194304) : ∀ (u : Su), u.ok → ∀ (i : Int) (r : List Tk) (w : World), 0 ≤ i → l.drop i.toNat = u.fl ++ r → V1 w a cap (txL l) →
    Calls Tryz.prog 54 #[.slice a n cap, .int .i64 i] w fun e w' => e = .returned (.tuple #[.int .i64 (u.fo dpF dpG), .int .i64 (i + (u.fl.length : Int))]) ∧ Below w.heap.size w w' := by
  intro u
  induction u with
  | one s =>
    intro hu i r w hi hd hv
    have h0 := isL_0 hu
    obtain ⟨hs, hlt, -⟩ := drop_head hd
    obtain ⟨k, rfl⟩ : ∃ k : Nat, i = k := ⟨i.toNat, by omega⟩
    simp only [Int.toNat_natCast] at hs hlt
    obtain ⟨g, o, rfl, hg, c0⟩ := hv.tx hs
    have HO := Lib.hid (fun w => l8Op_any w s)
    have hsl : s.length ≤ 4194304 := hm s (List.mem_of_getElem? hs)
    have hlk : k < n := by omega
    clear hv hs hg hd
    rw [h0] at HO
    generalize tx s = x at *
    go_enter Tryz.func54, Tryz.ntmps54
    go_wp2_with fail
    refine (HO.out _).mono ?_; rintro e w1 ⟨rfl, b1⟩
    have B1 := Lib.hid b1; clear b1
    go_wp2_with fail
    go_ret2
    exact ⟨rfl, B1.out⟩
  | two s x y ihx ihy =>
    intro hu i r w hi hd hv
    rw [Su.fl, List.cons_append, List.append_assoc] at hd
    obtain ⟨hs, hlt, hd2⟩ := drop_head hd
    have hd1 := hd2
    have hd3 := drop_more hd2
    have e1 : i.toNat + 1 = (i + 1).toNat := by omega
    have e3 : i.toNat + 1 + x.fl.length = (i + 1 + x.fl.length).toNat := by omega
    rw [e1] at hd1
    rw [e3] at hd3
    have hlx := su_len (u := x) (by omega) hd1
    have hly := su_len (u := y) (by omega) hd3
    have HX := Lib.hid (fun w h => ihx hu.2.1 (i + 1) (y.fl ++ r) w (by omega) hd1 h)
    have HY := Lib.hid (fun w h => ihy hu.2.2 (i + 1 + x.fl.length) r w (by omega) hd3 h)
    have hon := isO_ne hu.1
    have ho7 := opN_le s
    have hln : ((Su.two s x y).fl.length : Int) = 1 + x.fl.length + y.fl.length := by simp [Su.fl]; omega
    have HLN := Lib.hid hln; clear hln ihx ihy hd hd1 hd2 hd3 e1 e3 hu
    obtain ⟨k, rfl⟩ : ∃ k : Nat, i = k := ⟨i.toNat, by omega⟩
    simp only [Int.toNat_natCast] at hs hlt
    obtain ⟨g, q, rfl, hg, c0⟩ := hv.tx hs
    have HV := Lib.hid hv
    have HO := Lib.hid (fun w => l8Op_any w s)
    have hlk : k < n := by omega
    clear hs hg hv
    have HE := Lib.hid (show Su.fo dpF dpG (.two s x y) = wrap64 (1 + mxI (x.fo dpF dpG) (y.fo dpF dpG)) from rfl)
    have hp : ((opN s : Int) == 0) = false := by rw [beq_eq_false_iff_ne]; omega
    have HMX := Lib.hid (fun w => l1Max_any (x.fo dpF dpG) (y.fo dpF dpG) w)
    generalize hlx' : x.fl.length = lx at *
    generalize hly' : y.fl.length = ly at *
    generalize Su.fo dpF dpG (.two s x y) = kr at *
    generalize x.fo dpF dpG = kx at *
    generalize y.fo dpF dpG = ky at *
    generalize mxI kx ky = mm at *
    generalize opN s = o at *
    generalize (Su.two s x y).fl.length = ll at *
    generalize tx s = xs at *
    clear hlx' hly' hon
    go_enter Tryz.func54, Tryz.ntmps54
    go_wp2_with fail
    refine (HO.out _).mono ?_; rintro e w1 ⟨rfl, b1⟩
    have V1' := Lib.hid (HV.out.below b1)
    have B1 := Lib.hid b1; clear b1
    go_wp2_with fail
    refine (HX.out w1 V1'.out).mono ?_; rintro e w2 ⟨rfl, b2⟩
    have V2' := Lib.hid (V1'.out.below b2)
    have B2 := Lib.hid (bel_tr B1.out b2 (Nat.le_refl _)); clear b2
    go_wp2_with fail
    refine (HY.out w2 V2'.out).mono ?_; rintro e w3 ⟨rfl, b3⟩
    have B3 := Lib.hid (bel_tr B2.out b3 (Nat.le_refl _)); clear b3
    go_wp2_with fail
    refine (HMX.out _).mono ?_; rintro e w4 ⟨rfl, rfl⟩
    go_wp2_with fail
    go_ret2
    refine ⟨?_, B3.out⟩
    rw [HE.out, HLN.out]
    exact congrArg (fun z => Ending.returned (Value.tuple #[.int .i64 (wrap64 (1 + mm)), .int .i64 z])) (by omega)
set_option maxHeartbeats 4000000 in
set_option maxRecDepth 100000 in
theorem specKind_any (w : World) (a : Option Addr) (cap : Nat) (l : List Tk) (n : Nat) (i : Int) (hi : I64 i) (hn : l.length = n) (hv : V1 w a cap (txL l)) (hl : n ≤ 4194304) (hm : ∀ s ∈ l, s.length ≤ 4194304) :
    Calls Tryz.prog 37 #[.slice a n cap, .int .i64 i] w fun e w' => e = .returned (.int .i64 (kdV l i)) ∧ Below w.heap.size w w' := by
  have HEN := Lib.hid (l8End_any w a cap l n i hi hn hv hl hm)
  cases he : enA l i with
  | none =>
    have HE := Lib.hid (show kdV l i = 0 from foV_none _ _ _ he)
    rw [edV_none he] at HEN
    go_enter Tryz.func37, Tryz.ntmps37
    go_wp2_with fail
    refine HEN.out.mono ?_; rintro e w1 ⟨rfl, b1⟩
    have B1 := Lib.hid b1; clear b1
    go_wp2_with fail
    go_ret
    exact ⟨by rw [HE.out]; rfl, B1.out⟩
  | some m =>
    obtain ⟨u, hu, h0, hm2, hd, hf⟩ := foV_tree kdF kdG 0 he
    have HE := Lib.hid (show kdV l i = u.fo kdF kdG from hf)
    rw [edV_some he] at HEN
    have HV := Lib.hid hv
    have HK := Lib.hid (fun w h => l8Kind_any a cap l n hn hl hm u hu i _ w h0 hd h)
    have p0 : ¬ i + (m : Int) < 0 := by omega
    clear hd hu hf he hv
    generalize (u.fl.length : Int) = ul at *
    generalize u.fo kdF kdG = kr at *
    generalize i + (m : Int) = z at *
    go_enter Tryz.func37, Tryz.ntmps37
    go_wp2_with fail
    refine HEN.out.mono ?_; rintro e w1 ⟨rfl, b1⟩
    have V1' := Lib.hid (HV.out.below b1)
    have B1 := Lib.hid b1; clear b1
    go_wp2_with fail
    refine (HK.out _ V1'.out).mono ?_; rintro e w2 ⟨rfl, b2⟩
    have B2 := Lib.hid (bel_tr B1.out b2 (Nat.le_refl _)); clear b2
    go_wp2_with fail
    go_ret
    exact ⟨by rw [HE.out]; rfl, B2.out⟩
set_option maxHeartbeats 4000000 in
set_option maxRecDepth 100000 in
theorem specDepth_any (w : World) (a : Option Addr) (cap : Nat) (l : List Tk) (n : Nat) (i : Int) (hi : I64 i) (hn : l.length = n) (hv : V1 w a cap (txL l)) (hl : n ≤ 4194304) (hm : ∀ s ∈ l, s.length ≤ 4194304) :
    Calls Tryz.prog 38 #[.slice a n cap, .int .i64 i] w fun e w' => e = .returned (.int .i64 (dpV l i)) ∧ Below w.heap.size w w' := by
  have HEN := Lib.hid (l8End_any w a cap l n i hi hn hv hl hm)
  cases he : enA l i with
  | none =>
    have HE := Lib.hid (show dpV l i = 0 from foV_none _ _ _ he)
    rw [edV_none he] at HEN
    go_enter Tryz.func38, Tryz.ntmps38
    go_wp2_with fail
    refine HEN.out.mono ?_; rintro e w1 ⟨rfl, b1⟩
    have B1 := Lib.hid b1; clear b1
    go_wp2_with fail
    go_ret
    exact ⟨by rw [HE.out]; rfl, B1.out⟩
  | some m =>
    obtain ⟨u, hu, h0, hm2, hd, hf⟩ := foV_tree dpF dpG 0 he
    have HE := Lib.hid (show dpV l i = u.fo dpF dpG from hf)
    rw [edV_some he] at HEN
    have HV := Lib.hid hv
    have HK := Lib.hid (fun w h => l8Depth_any a cap l n hn hl hm u hu i _ w h0 hd h)
    have p0 : ¬ i + (m : Int) < 0 := by omega
    clear hd hu hf he hv
    generalize (u.fl.length : Int) = ul at *
    generalize u.fo dpF dpG = kr at *
    generalize i + (m : Int) = z at *
    go_enter Tryz.func38, Tryz.ntmps38
    go_wp2_with fail
    refine HEN.out.mono ?_; rintro e w1 ⟨rfl, b1⟩
    have V1' := Lib.hid (HV.out.below b1)
    have B1 := Lib.hid b1; clear b1
    go_wp2_with fail
    refine (HK.out _ V1'.out).mono ?_; rintro e w2 ⟨rfl, b2⟩
    have B2 := Lib.hid (bel_tr B1.out b2 (Nat.le_refl _)); clear b2
    go_wp2_with fail
    go_ret
    exact ⟨by rw [HE.out]; rfl, B2.out⟩
end Go.Proofs.YtoiphglfngkoiaaGreatDoor.Cl
namespace Go.Proofs.YtoiphglfngkoiaaGreatDoor.Cl
set_option linter.unusedVariables false
open Go.RowKit Wd Rp Kp
def tkA (l : List Tk) (i : Int) : Option Tk := if i < 0 then none else l[i.toNat]?
theorem tkA_nat (l : List Tk) (k : Nat) : tkA l (k : Int) = l[k]? := by unfold tkA; rw [if_neg (by omega)]; rfl
theorem tkA_neg {l : List Tk} {i : Int} (h : i < 0) : tkA l i = none := by unfold tkA; rw [if_pos h]
theorem tkA_out {l : List Tk} {i : Int} (h : (l.length : Int) ≤ i) : tkA l i = none := by
  unfold tkA
  rw [if_neg (by omega)]
  exact List.getElem?_eq_none (by omega)
theorem tkA_some {l : List Tk} {i : Int} {s : Tk} (h : tkA l i = some s) : 0 ≤ i ∧ i < l.length ∧ l[i.toNat]? = some s := by
  unfold tkA at h
  split at h
  · cases h
  · have := (List.getElem?_eq_some_iff.1 h).1
    exact ⟨by omega, by omega, h⟩
def nmA (l : List Tk) (i : Int) : Bool := match tkA l i with | some s => nmB s | none => false
def smV (l : List Tk) (kind i : Int) : Int := if edV l i < 0 ∨ kdV l i ≠ kind ∨ 5 < dpV l i then -1 else edV l i
def setT : Tk := [115, 101, 116]
def cutT : Tk := [99, 117, 116]
def stopT : Tk := [115, 116, 111, 112]
def ifT : Tk := [105, 102]
def whT : Tk := [119, 104, 105, 108, 101]
def ddG (l : List Tk) (B : Int → Int) (i : Int) : Int := match tkA l i with
  | none => -1
  | some s => if s = setT then (if nmA l (i + 1) then smV l 1 (i + 2) else -1) else if s = cutT then (if nmA l (i + 1) then i + 2 else -1) else if s = stopT then i + 1
    else if s = ifT then B (B (smV l 2 (i + 1))) else if s = whT then B (smV l 2 (i + 1)) else -1
def blE (l : List Tk) (f : Int → Int) : Nat → Int → Int
  | 0, _ => -1
  | n + 1, i => match tkA l i with | none => -1 | some s => if s = [93] then i + 1 else blE l f n (f i)
def blS (l : List Tk) (f : Int → Int) (i : Int) : Int := if tkA l i = some [91] then blE l f (l.length + 1) (i + 1) else -1
def ddE (l : List Tk) : Nat → Int → Int
  | 0 => ddG l (fun _ => -1)
  | d + 1 => ddG l (blS l (ddE l d))
def Ahd (l : List Tk) (i r : Int) : Prop := r = -1 ∨ (0 ≤ i ∧ i < r ∧ r ≤ l.length)
theorem Ahd.trans {l : List Tk} {i j r : Int} (h : Ahd l i j) (k : Ahd l j r) : Ahd l i r := by unfold Ahd at *; omega
theorem ed_ahd (l : List Tk) (i : Int) : Ahd l i (edV l i) := by
  unfold edV
  cases h : enA l i with
  | none => exact Or.inl rfl
  | some n =>
    right
    unfold enA at h
    split at h
    · cases h
    · have h1 := en_le h
      have h2 := en_pos h
      rw [List.length_drop] at h1
      show 0 ≤ i ∧ i < i + (n : Int) ∧ i + (n : Int) ≤ l.length
      omega
theorem sm_ahd (l : List Tk) (kind i : Int) : Ahd l i (smV l kind i) := by
  unfold smV
  split
  · exact Or.inl rfl
  · exact ed_ahd l i
theorem dd_ahd {l : List Tk} {B : Int → Int} (hB : ∀ i, Ahd l i (B i)) (i : Int) : Ahd l i (ddG l B i) := by
  unfold ddG
  cases h : tkA l i with
  | none => exact Or.inl rfl
  | some s =>
    obtain ⟨h0, h1, -⟩ := tkA_some h
    dsimp only
    split
    · split
      · have := sm_ahd l 1 (i + 2)
        unfold Ahd at *; omega
      · exact Or.inl rfl
    · split
      · split
        · rename_i hn
          unfold nmA at hn
          cases h2 : tkA l (i + 1) with
          | none => rw [h2] at hn; cases hn
          | some t => have := tkA_some h2; right; omega
        · exact Or.inl rfl
      · split
        · right; omega
        · split
          · have h2 := sm_ahd l 2 (i + 1)
            have h3 := (h2.trans (hB _)).trans (hB _)
            unfold Ahd at *; omega
          · split
            · have h2 := sm_ahd l 2 (i + 1)
              have h3 := h2.trans (hB _)
              unfold Ahd at *; omega
            · exact Or.inl rfl
theorem ble_ahd {l : List Tk} {f : Int → Int} (hf : ∀ i, Ahd l i (f i)) : ∀ (n : Nat) (i : Int), Ahd l i (blE l f n i)
  | 0, i => Or.inl rfl
  | n + 1, i => by
    unfold blE
    cases h : tkA l i with
    | none => exact Or.inl rfl
    | some s =>
      obtain ⟨h0, h1, -⟩ := tkA_some h
      dsimp only
      split
      · right; omega
      · exact (hf i).trans (ble_ahd hf n _)
theorem bls_ahd {l : List Tk} {f : Int → Int} (hf : ∀ i, Ahd l i (f i)) (i : Int) : Ahd l i (blS l f i) := by
  unfold blS
  split
  · rename_i h
    have := tkA_some h
    have := ble_ahd hf (l.length + 1) (i + 1)
    unfold Ahd at *; omega
  · exact Or.inl rfl
theorem ddE_ahd (l : List Tk) : ∀ (d : Nat) (i : Int), Ahd l i (ddE l d i)
  | 0, i => dd_ahd (fun _ => Or.inl rfl) i
  | d + 1, i => dd_ahd (bls_ahd (ddE_ahd l d)) i
def dsE (l : List Tk) : Nat → Int → Int
  | 0, i => i
  | n + 1, i => if 0 ≤ i ∧ i < l.length then dsE l n (ddE l 5 i) else i
def rcB (l : List Tk) : Bool := if l.length ≤ 120 then decide (dsE l l.length 0 = l.length) else false
end Go.Proofs.YtoiphglfngkoiaaGreatDoor.Cl
namespace Go.Proofs.YtoiphglfngkoiaaGreatDoor.Cl
set_option linter.unusedVariables false
open Go.RowKit Wd Rp Kp
theorem sm_neg {l : List Tk} {kind i : Int} (h : edV l i < 0) : smV l kind i = -1 := by unfold smV; rw [if_pos (Or.inl h)]
theorem sm_kind {l : List Tk} {kind i : Int} (h : kdV l i ≠ kind) : smV l kind i = -1 := by unfold smV; rw [if_pos (Or.inr (Or.inl h))]
theorem sm_deep {l : List Tk} {kind i : Int} (h : 5 < dpV l i) : smV l kind i = -1 := by unfold smV; rw [if_pos (Or.inr (Or.inr h))]
theorem sm_yes {l : List Tk} {kind i : Int} (h1 : ¬ edV l i < 0) (h2 : kdV l i = kind) (h3 : ¬ 5 < dpV l i) : smV l kind i = edV l i := by
  unfold smV; rw [if_neg (by rintro (h | h | h) <;> contradiction)]
def GivesI (x : Int) (w : World) (e : Ending) (w' : World) : Prop := e = .returned (.int .i64 x) ∧ Below w.heap.size w w'
def GivesB (x : Bool) (w : World) (e : Ending) (w' : World) : Prop := e = .returned (.bool x) ∧ Below w.heap.size w w'
set_option maxHeartbeats 4000000 in
set_option maxRecDepth 100000 in
theorem l9Sum_any (w : World) (a : Option Addr) (cap : Nat) (l : List Tk) (n : Nat) (kind i : Int) (hi : I64 i) (hn : l.length = n) (hv : V1 w a cap (txL l)) (hl : n ≤ 4194304) (hm : ∀ s ∈ l, s.length ≤ 4194304) :
    Calls Tryz.prog 26 #[.slice a n cap, .int .i64 i, .int .i64 kind] w (GivesI (smV l kind i) w) := by
  have HE := Lib.hid (l8End_any w a cap l n i hi hn hv hl hm)
  have HK := Lib.hid (fun w h => specKind_any w a cap l n i hi hn h hl hm)
  have HD := Lib.hid (fun w h => specDepth_any w a cap l n i hi hn h hl hm)
  have HV := Lib.hid hv; clear hv hm
  have S1 := Lib.hid (fun h => sm_neg (l := l) (kind := kind) (i := i) h)
  have S2 := Lib.hid (fun h => sm_kind (l := l) (kind := kind) (i := i) h)
  have S3 := Lib.hid (fun h => sm_deep (l := l) (kind := kind) (i := i) h)
  have S4 := Lib.hid (fun h1 h2 h3 => sm_yes (l := l) (kind := kind) (i := i) h1 h2 h3)
  generalize smV l kind i = r at *
  generalize edV l i = x at *
  generalize kdV l i = y at *
  generalize dpV l i = z at *
  go_enter Tryz.func26, Tryz.ntmps26
  go_wp2_with fail
  refine HE.out.mono ?_; rintro e w1 ⟨rfl, b1⟩
  have V1' := Lib.hid (HV.out.below b1)
  have B1 := Lib.hid b1; clear b1
  by_cases hx : x < 0
  · have p0 : decide (x < 0) = true := by simpa using hx
    go_wp2_with fail
    go_ret
    exact ⟨by rw [S1.out hx]; rfl, B1.out⟩
  have p0 : decide (x < 0) = false := by simpa using hx
  have HK1 := Lib.hid (HK.out w1 V1'.out)
  go_wp2_with fail
  refine HK1.out.mono ?_; rintro e w2 ⟨rfl, b2⟩
  have V2' := Lib.hid (V1'.out.below b2)
  have B2 := Lib.hid (bel_tr B1.out b2 (Nat.le_refl _)); clear b2
  by_cases hy : y = kind
  · subst hy
    have HD1 := Lib.hid (HD.out w2 V2'.out)
    go_wp2_with fail
    refine HD1.out.mono ?_; rintro e w3 ⟨rfl, b3⟩
    have B3 := Lib.hid (bel_tr B2.out b3 (Nat.le_refl _)); clear b3
    by_cases hz : 5 < z
    · have q0 : decide (5 < z) = true := by simpa using hz
      go_wp2_with fail
      go_ret
      exact ⟨by rw [S3.out hz]; rfl, B3.out⟩
    · have q0 : decide (5 < z) = false := by simpa using hz
      go_wp2_with fail
      go_ret
      exact ⟨by rw [S4.out hx trivial hz]; rfl, B3.out⟩
  · have p1 : (y == kind) = false := beq_eq_false_iff_ne.2 hy
    go_wp2_with fail
    go_ret
    exact ⟨by rw [S2.out hy]; rfl, B2.out⟩
set_option maxHeartbeats 4000000 in
set_option maxRecDepth 100000 in
theorem l9Name_any (w : World) (a : Option Addr) (cap : Nat) (l : List Tk) (n : Nat) (i : Int) (hn : l.length = n) (hv : V1 w a cap (txL l)) (hl : n ≤ 4194304) (hm : ∀ s ∈ l, s.length ≤ 4194304) :
    Calls Tryz.prog 25 #[.slice a n cap, .int .i64 i] w fun e w' => e = .returned (.bool (nmA l i)) ∧ w = w' := by
  cases h : tkA l i with
  | none =>
    have HR := Lib.hid (show nmA l i = false by unfold nmA; rw [h])
    have hc : i < 0 ∨ (n : Int) ≤ i := by
      by_cases g : i < 0
      · exact Or.inl g
      · right
        unfold tkA at h
        rw [if_neg g] at h
        have := List.getElem?_eq_none_iff.1 h
        omega
    clear h hv hm
    generalize nmA l i = r at *
    rcases hc with h1 | h1
    · have p0 : decide (0 ≤ i) = false := by simpa using h1
      go_enter Tryz.func25, Tryz.ntmps25
      go_wp2_with fail
      go_ret
      exact ⟨by rw [HR.out]; rfl, rfl⟩
    · have p0 : decide (0 ≤ i) = true := by simp; omega
      have p1 : decide (i < (n : Int)) = false := by simpa using h1
      go_enter Tryz.func25, Tryz.ntmps25
      go_wp2_with fail
      go_ret
      exact ⟨by rw [HR.out]; rfl, rfl⟩
  | some s =>
    obtain ⟨h0, h1, hs⟩ := tkA_some h
    have HR := Lib.hid (show nmA l i = nmB s by unfold nmA; rw [h])
    obtain ⟨k, rfl⟩ : ∃ k : Nat, i = k := ⟨i.toNat, by omega⟩
    rw [Int.toNat_natCast] at hs
    obtain ⟨g, o, rfl, hg, c0⟩ := hv.tx hs
    have HN := Lib.hid (nmS_any s w (by have := hm s (List.mem_of_getElem? hs); omega))
    have hk : k < n := by omega
    clear h hv hm hs hg
    generalize nmA l (k : Int) = r at *
    generalize nmB s = q at *
    have p0 : decide (0 ≤ (k : Int)) = true := by simp
    have p1 : decide ((k : Int) < (n : Int)) = true := by simpa using hk
    go_enter Tryz.func25, Tryz.ntmps25
    go_wp2_with fail
    refine HN.out.mono ?_; rintro e w1 ⟨rfl, rfl⟩
    go_wp2_with fail
    go_ret
    exact ⟨by rw [HR.out]; rfl, rfl⟩
end Go.Proofs.YtoiphglfngkoiaaGreatDoor.Cl
namespace Go.Proofs.YtoiphglfngkoiaaGreatDoor.Cl
set_option linter.unusedVariables false
open Go.RowKit Wd Rp Kp
theorem tkA_none {l : List Tk} {i : Int} (h : tkA l i = none) : i < 0 ∨ (l.length : Int) ≤ i := by
  by_cases g : i < 0
  · exact Or.inl g
  · right
    unfold tkA at h
    rw [if_neg g] at h
    have := List.getElem?_eq_none_iff.1 h
    omega
def DeedS (a : Option Addr) (n cap : Nat) (l : List Tk) (d : Int) (f : Int → Int) : Prop := ∀ (w : World) (i : Int), I64 i → V1 w a cap (txL l) → Calls Tryz.prog 20 #[.slice a n cap, .int .i64 i, .int .i64 d] w (GivesI (f i) w)
def BlokS (a : Option Addr) (n cap : Nat) (l : List Tk) (d : Int) (f : Int → Int) : Prop := ∀ (w : World) (i : Int), I64 i → V1 w a cap (txL l) → Calls Tryz.prog 27 #[.slice a n cap, .int .i64 i, .int .i64 d] w (GivesI (f i) w)
theorem bls_no {l : List Tk} {f : Int → Int} {i : Int} (h : tkA l i ≠ some [91]) : blS l f i = -1 := by unfold blS; rw [if_neg h]
theorem bls_in {l : List Tk} {f : Int → Int} {i : Int} (h : tkA l i = some [91]) : blS l f i = blE l f (l.length + 1) (i + 1) := by unfold blS; rw [if_pos h]
theorem ble_none {l : List Tk} {f : Int → Int} {i : Int} {k : Nat} (h : tkA l i = none) : blE l f k i = -1 := by
  cases k with
  | zero => rfl
  | succ k => unfold blE; rw [h]
theorem ble_end {l : List Tk} {f : Int → Int} {i : Int} {k : Nat} (h : tkA l i = some [93]) : blE l f (k + 1) i = i + 1 := by unfold blE; rw [h]; rfl
theorem ble_more {l : List Tk} {f : Int → Int} {i : Int} {k : Nat} {s : Tk} (h : tkA l i = some s) (hs : s ≠ [93]) : blE l f (k + 1) i = blE l f k (f i) := by rw [blE, h]; exact if_neg hs
set_option maxHeartbeats 4000000 in
set_option maxRecDepth 100000 in
theorem blok0 (a : Option Addr) (cap : Nat) (l : List Tk) (n : Nat) (hn : l.length = n) (hl : n ≤ 4194304) : BlokS a n cap l 0 (fun _ => -1) := by
  intro w i hi hv
  have HR0 := Lib.hid (show (fun _ => -1 : Int → Int) i = -1 from rfl)
  generalize (fun _ => -1 : Int → Int) i = r at *
  cases h : tkA l i with
  | none =>
    have HR := Lib.hid (show r = -1 from HR0.out)
    have hc := tkA_none h
    rw [hn] at hc
    clear h hv
    rcases hc with h1 | h1
    · have p0 : decide (i < 0) = true := by simpa using h1
      go_enter Tryz.func27, Tryz.ntmps27
      go_wp2_with fail
      go_ret
      exact ⟨by rw [HR.out]; rfl, Below.refl _ _⟩
    · have p0 : decide (i < 0) = false := by simp; omega
      have p1 : decide ((n : Int) ≤ i) = true := by simpa using h1
      go_enter Tryz.func27, Tryz.ntmps27
      go_wp2_with fail
      go_ret
      exact ⟨by rw [HR.out]; rfl, Below.refl _ _⟩
  | some s =>
    obtain ⟨h0, h1, hs⟩ := tkA_some h
    obtain ⟨k, rfl⟩ : ∃ k : Nat, i = k := ⟨i.toNat, by omega⟩
    rw [Int.toNat_natCast] at hs
    have HV := Lib.hid hv
    obtain ⟨g, o, rfl, hg, c0⟩ := hv.tx hs
    have hk : k < n := by omega
    have p0 : decide ((k : Int) < 0) = false := by simp
    have p1 : decide ((n : Int) ≤ (k : Int)) = false := by simpa using hk
    have p1n : ¬ (n : Int) ≤ (k : Int) := by omega
    have p1m : decide (n ≤ k) = false := by simpa using hk
    by_cases hb : s = [91]
    · subst hb
      replace c0 : w.cell? ⟨g, o + k, none⟩ = some (.string ⟨#[91]⟩) := c0
      clear h hs hg hv HV
      go_enter Tryz.func27, Tryz.ntmps27
      go_wp2_with fail
      go_ret
      exact ⟨by rw [HR0.out]; rfl, Below.refl _ _⟩
    · have HR := Lib.hid (show r = -1 from HR0.out)
      have q1 := tx_neL hb
      clear h hs hg hv HV
      go_enter Tryz.func27, Tryz.ntmps27
      go_wp2_with fail
      go_ret
      exact ⟨by rw [HR.out]; rfl, Below.refl _ _⟩
set_option maxHeartbeats 8000000 in
set_option maxRecDepth 100000 in
theorem blok1 (a : Option Addr) (cap : Nat) (l : List Tk) (n : Nat) (hn : l.length = n) (hl : n ≤ 4194304) (d : Int) (hd : 0 < d) (hd2 : d ≤ 1000) (f : Int → Int) (hf : ∀ i, Ahd l i (f i)) (ih : DeedS a n cap l (d - 1) f) : BlokS a n cap l d (blS l f) := by
  intro w i hi hv
  have IH := Lib.hid ih; clear ih
  have HF := Lib.hid hf; clear hf
  have N0 := Lib.hid (fun h => bls_no (l := l) (f := f) (i := i) h)
  have N1 := Lib.hid (fun h => bls_in (l := l) (f := f) (i := i) h)
  generalize blS l f i = r at *
  cases h : tkA l i with
  | none =>
    have HR := Lib.hid (show r = -1 from N0.out (by rw [h]; intro e; cases e))
    have hc := tkA_none h
    rw [hn] at hc
    clear h hv
    rcases hc with h1 | h1
    · have p0 : decide (i < 0) = true := by simpa using h1
      go_enter Tryz.func27, Tryz.ntmps27
      go_wp2_with fail
      go_ret
      exact ⟨by rw [HR.out]; rfl, Below.refl _ _⟩
    · have p0 : decide (i < 0) = false := by simp; omega
      have p1 : decide ((n : Int) ≤ i) = true := by simpa using h1
      go_enter Tryz.func27, Tryz.ntmps27
      go_wp2_with fail
      go_ret
      exact ⟨by rw [HR.out]; rfl, Below.refl _ _⟩
  | some s =>
    obtain ⟨h0, h1, hs⟩ := tkA_some h
    obtain ⟨k, rfl⟩ : ∃ k : Nat, i = k := ⟨i.toNat, by omega⟩
    rw [Int.toNat_natCast] at hs
    have HV := Lib.hid hv
    obtain ⟨g, o, rfl, hg, c0⟩ := hv.tx hs
    have hk : k < n := by omega
    have p0 : decide ((k : Int) < 0) = false := by simp
    have p1 : decide ((n : Int) ≤ (k : Int)) = false := by simpa using hk
    have p1n : ¬ (n : Int) ≤ (k : Int) := by omega
    have p1m : decide (n ≤ k) = false := by simpa using hk
    by_cases hb : s = [91]
    · subst hb
      replace c0 : w.cell? ⟨g, o + k, none⟩ = some (.string ⟨#[91]⟩) := c0
      have HR := Lib.hid (N1.out h)
      have pd : (d == 0) = false := beq_eq_false_iff_ne.2 (by omega)
      have pw : IntKind.i64.wrap (d - 1) = d - 1 := by rw [IntKind.wrap_i64]; omega
      clear h hs hg hv N0 N1
      go_enter Tryz.func27, Tryz.ntmps27
      go_wp2_with fail
      go_loopg [1] (l.length + 1) (fun j q wr => ∃ z : Int, q = .int .i64 z ∧ r = blE l f j z ∧ (z = -1 ∨ (0 ≤ z ∧ z ≤ n ∧ n - z < j)) ∧ Below w.heap.size w wr)
      case atStart => exact ⟨(k : Int) + 1, by go_num, HR.out, Or.inr (by omega), Below.refl _ _⟩
      case round =>
        clear HR
        obtain ⟨z, rfl, hr, hz, hbel⟩ := hrel
        have HR := Lib.hid hr
        have HB := Lib.hid hbel
        have HV1 := Lib.hid (HV.out.below hbel)
        clear hr hbel c0
        cases h : tkA l z with
        | none =>
          have HE := Lib.hid (HR.out.trans (ble_none h))
          have hc := tkA_none h
          rw [hn] at hc
          clear h
          by_cases h1 : z < 0
          · have t0 : decide (0 ≤ z) = false := by simpa using h1
            have t1 : decide (z < 0) = true := by simpa using h1
            go_wp2_with fail
            go_ret
            exact ⟨by rw [HE.out]; rfl, HB.out⟩
          · have t0 : decide (0 ≤ z) = true := by simp; omega
            have t1 : decide (z < 0) = false := by simpa using h1
            have t2 : decide (z < (n : Int)) = false := by simp; omega
            have t3 : decide ((n : Int) ≤ z) = true := by simp; omega
            go_wp2_with fail
            go_ret
            exact ⟨by rw [HE.out]; rfl, HB.out⟩
        | some s =>
          obtain ⟨h0, h1, hs⟩ := tkA_some h
          obtain ⟨m, rfl⟩ : ∃ m : Nat, z = m := ⟨z.toNat, by omega⟩
          rw [Int.toNat_natCast] at hs
          obtain ⟨j, rfl⟩ : ∃ j', gk = j' + 1 := ⟨gk - 1, by omega⟩
          obtain ⟨g', o', e, hg, c0⟩ := HV1.out.tx hs
          cases e
          have hmn : m < n := by omega
          have hj : n - m < j + 1 := by omega
          clear hz h0 h1
          have t0 : decide (0 ≤ (m : Int)) = true := by simp
          have t1 : decide ((m : Int) < 0) = false := by simp
          have t2 : decide ((m : Int) < (n : Int)) = true := by simpa using hmn
          have t3 : decide ((n : Int) ≤ (m : Int)) = false := by simpa using hmn
          have t3n : ¬ (n : Int) ≤ (m : Int) := by omega
          have t3m : decide (n ≤ m) = false := by simpa using hmn
          have t2n : (m : Int) < (n : Int) := by omega
          have t2m : decide (m < n) = true := by simpa using hmn
          by_cases hb : s = [93]
          · subst hb
            replace c0 : wr.cell? ⟨g, o + m, none⟩ = some (.string ⟨#[93]⟩) := c0
            have HE := Lib.hid (HR.out.trans (ble_end h))
            clear h hs hg
            have i1 : (m : Int) + 1 ≤ 9223372036854775807 := by omega
            go_wp2_with fail
            go_ret
            exact ⟨by rw [HE.out]; rfl, HB.out⟩
          · have HE := Lib.hid (HR.out.trans (ble_more h hb))
            have q1 := tx_neL hb
            have HC := Lib.hid (IH.out wr (m : Int) ⟨by omega, by omega⟩ HV1.out)
            have HA := Lib.hid (HF.out (m : Int))
            generalize hy : f (m : Int) = y at HE HC HA
            clear h hs hg hy
            go_wp2_with fail
            refine HC.out.mono ?_; rintro e w1 ⟨rfl, b1⟩
            have B1 := Lib.hid (bel_tr HB.out b1 (Nat.le_refl _)); clear b1
            go_wp2_with fail
            go_roundg j
            case measure => omega
            case rel => exact ⟨y, rfl, HE.out, (by have := HA.out; unfold Ahd at this; omega), B1.out⟩
    · have HR := Lib.hid (show r = -1 from N0.out (by rw [h]; intro e; cases e; exact hb rfl))
      have q1 := tx_neL hb
      clear h hs hg hv HV
      go_enter Tryz.func27, Tryz.ntmps27
      go_wp2_with fail
      go_ret
      exact ⟨by rw [HR.out]; rfl, Below.refl _ _⟩
end Go.Proofs.YtoiphglfngkoiaaGreatDoor.Cl
namespace Go.Proofs.YtoiphglfngkoiaaGreatDoor.Cl
set_option linter.unusedVariables false
open Go.RowKit Wd Rp Kp
theorem ddG_none {l : List Tk} {B : Int → Int} {i : Int} (h : tkA l i = none) : ddG l B i = -1 := by unfold ddG; rw [h]
theorem ddG_some {l : List Tk} {B : Int → Int} {i : Int} {s : Tk} (h : tkA l i = some s) : ddG l B i = (if s = setT then (if nmA l (i + 1) then smV l 1 (i + 2) else -1) else if s = cutT then (if nmA l (i + 1) then i + 2 else -1) else if s = stopT then i + 1
    else if s = ifT then B (B (smV l 2 (i + 1))) else if s = whT then B (smV l 2 (i + 1)) else -1) := by unfold ddG; rw [h]
theorem ahd_i64 {l : List Tk} {i r : Int} (h : Ahd l i r) (hl : l.length ≤ 4194304) : I64 r := by unfold Ahd at h; exact ⟨by omega, by omega⟩
set_option maxHeartbeats 8000000 in
set_option maxRecDepth 100000 in
theorem deedS (a : Option Addr) (cap : Nat) (l : List Tk) (n : Nat) (hn : l.length = n) (hl : n ≤ 4194304) (hm : ∀ s ∈ l, s.length ≤ 4194304) (d : Int) (B : Int → Int) (hB : ∀ i, Ahd l i (B i)) (ih : BlokS a n cap l d B) : DeedS a n cap l d (ddG l B) := by
  intro w i hi hv
  have IH := Lib.hid ih; clear ih
  have HA := Lib.hid hB; clear hB
  cases h : tkA l i with
  | none =>
    have HR := Lib.hid (ddG_none (B := B) h)
    generalize ddG l B i = r at *
    have hc := tkA_none h
    rw [hn] at hc
    clear h hv
    rcases hc with h1 | h1
    · have p0 : decide (i < 0) = true := by simpa using h1
      go_enter Tryz.func20, Tryz.ntmps20
      go_wp2_with fail
      go_ret
      exact ⟨by rw [HR.out]; rfl, Below.refl _ _⟩
    · have p0 : decide (i < 0) = false := by simp; omega
      have p1 : decide ((n : Int) ≤ i) = true := by simpa using h1
      go_enter Tryz.func20, Tryz.ntmps20
      go_wp2_with fail
      go_ret
      exact ⟨by rw [HR.out]; rfl, Below.refl _ _⟩
  | some s =>
    obtain ⟨h0, h1, hs⟩ := tkA_some h
    have HM := Lib.hid (ddG_some (B := B) h)
    generalize ddG l B i = r at *
    obtain ⟨k, rfl⟩ : ∃ k : Nat, i = k := ⟨i.toNat, by omega⟩
    rw [Int.toNat_natCast] at hs
    have HV := Lib.hid hv
    have HN := Lib.hid (fun w h => l9Name_any w a cap l n ((k : Int) + 1) hn h hl hm)
    have HS := Lib.hid (fun w kind i hi h => l9Sum_any w a cap l n kind i hi hn h hl hm)
    have HSA := Lib.hid (fun kind i => ahd_i64 (sm_ahd l kind i) (by omega))
    have HBA := Lib.hid (fun i => ahd_i64 (HA.out i) (by omega))
    obtain ⟨g, o, rfl, hg, c0⟩ := hv.tx hs
    have hk : k < n := by omega
    have p0 : decide ((k : Int) < 0) = false := by simp
    have p1 : decide ((n : Int) ≤ (k : Int)) = false := by simpa using hk
    have p1n : ¬ (n : Int) ≤ (k : Int) := by omega
    have p1m : decide (n ≤ k) = false := by simpa using hk
    clear hv hs hg h
    by_cases b0 : s = setT
    · subst b0
      replace HM := Lib.hid (HM.out.trans (if_pos rfl))
      replace c0 : w.cell? ⟨g, o + k, none⟩ = some (.string ⟨#[115, 101, 116]⟩) := c0
      have HN0 := Lib.hid (HN.out w HV.out)
      generalize nmA l ((k : Int) + 1) = nm at *
      have HS0 := Lib.hid (HS.out w 1 ((k : Int) + 2) ⟨by omega, by omega⟩ HV.out)
      generalize smV l 1 ((k : Int) + 2) = x at *
      go_enter Tryz.func20, Tryz.ntmps20
      go_wp2_with fail
      refine HN0.out.mono ?_; rintro e w1 ⟨rfl, rfl⟩
      cases nm
      · go_wp2_with fail
        go_ret
        exact ⟨by rw [HM.out]; rfl, Below.refl _ _⟩
      · go_wp2_with fail
        refine HS0.out.mono ?_; rintro e w2 ⟨rfl, b2⟩
        have B2 := Lib.hid b2; clear b2
        go_wp2_with fail
        go_ret
        exact ⟨by rw [HM.out]; rfl, B2.out⟩
    replace HM := Lib.hid (HM.out.trans (if_neg b0))
    have q0 := tx_neL b0
    unfold setT at q0
    by_cases b1 : s = cutT
    · subst b1
      replace HM := Lib.hid (HM.out.trans (if_pos rfl))
      replace c0 : w.cell? ⟨g, o + k, none⟩ = some (.string ⟨#[99, 117, 116]⟩) := c0
      have HN0 := Lib.hid (HN.out w HV.out)
      generalize nmA l ((k : Int) + 1) = nm at *
      go_enter Tryz.func20, Tryz.ntmps20
      go_wp2_with fail
      refine HN0.out.mono ?_; rintro e w1 ⟨rfl, rfl⟩
      cases nm
      · go_wp2_with fail
        go_ret
        exact ⟨by rw [HM.out]; rfl, Below.refl _ _⟩
      · go_wp2_with fail
        go_ret
        exact ⟨by rw [HM.out]; rfl, Below.refl _ _⟩
    replace HM := Lib.hid (HM.out.trans (if_neg b1))
    have q1 := tx_neL b1
    unfold cutT at q1
    by_cases b2 : s = stopT
    · subst b2
      replace HM := Lib.hid (HM.out.trans (if_pos rfl))
      replace c0 : w.cell? ⟨g, o + k, none⟩ = some (.string ⟨#[115, 116, 111, 112]⟩) := c0
      go_enter Tryz.func20, Tryz.ntmps20
      go_wp2_with fail
      go_ret
      exact ⟨by rw [HM.out]; rfl, Below.refl _ _⟩
    replace HM := Lib.hid (HM.out.trans (if_neg b2))
    have q2 := tx_neL b2
    unfold stopT at q2
    by_cases b3 : s = ifT
    · subst b3
      replace HM := Lib.hid (HM.out.trans (if_pos rfl))
      replace c0 : w.cell? ⟨g, o + k, none⟩ = some (.string ⟨#[105, 102]⟩) := c0
      have HS0 := Lib.hid (HS.out w 2 ((k : Int) + 1) ⟨by omega, by omega⟩ HV.out)
      have HX := Lib.hid (HSA.out 2 ((k : Int) + 1))
      generalize smV l 2 ((k : Int) + 1) = x at *
      have HY := Lib.hid (HBA.out x)
      have HB1 := Lib.hid (fun w h => IH.out w x HX.out h)
      generalize hy : B x = y at HM HY HB1
      clear hy
      have HB2 := Lib.hid (fun w h => IH.out w y HY.out h)
      generalize hz : B y = z at HM HB2
      clear hz
      go_enter Tryz.func20, Tryz.ntmps20
      go_wp2_with fail
      refine HS0.out.mono ?_; rintro e w2 ⟨rfl, b2⟩
      have V2 := Lib.hid (HV.out.below b2)
      have B2 := Lib.hid b2; clear b2
      have HB1' := Lib.hid (HB1.out w2 V2.out)
      go_wp2_with fail
      refine HB1'.out.mono ?_; rintro e w3 ⟨rfl, b3⟩
      have V3 := Lib.hid (V2.out.below b3)
      have B3 := Lib.hid (bel_tr B2.out b3 (Nat.le_refl _)); clear b3
      have HB2' := Lib.hid (HB2.out w3 V3.out)
      go_wp2_with fail
      refine HB2'.out.mono ?_; rintro e w4 ⟨rfl, b4⟩
      have B4 := Lib.hid (bel_tr B3.out b4 (Nat.le_refl _)); clear b4
      go_wp2_with fail
      go_ret
      exact ⟨by rw [HM.out]; rfl, B4.out⟩
    replace HM := Lib.hid (HM.out.trans (if_neg b3))
    have q3 := tx_neL b3
    unfold ifT at q3
    by_cases b4 : s = whT
    · subst b4
      replace HM := Lib.hid (HM.out.trans (if_pos rfl))
      replace c0 : w.cell? ⟨g, o + k, none⟩ = some (.string ⟨#[119, 104, 105, 108, 101]⟩) := c0
      have HS0 := Lib.hid (HS.out w 2 ((k : Int) + 1) ⟨by omega, by omega⟩ HV.out)
      have HX := Lib.hid (HSA.out 2 ((k : Int) + 1))
      generalize smV l 2 ((k : Int) + 1) = x at *
      have HY := Lib.hid (HBA.out x)
      have HB1 := Lib.hid (fun w h => IH.out w x HX.out h)
      generalize hy : B x = y at HM HY HB1
      clear hy
      go_enter Tryz.func20, Tryz.ntmps20
      go_wp2_with fail
      refine HS0.out.mono ?_; rintro e w2 ⟨rfl, b2⟩
      have V2 := Lib.hid (HV.out.below b2)
      have B2 := Lib.hid b2; clear b2
      have HB1' := Lib.hid (HB1.out w2 V2.out)
      go_wp2_with fail
      refine HB1'.out.mono ?_; rintro e w3 ⟨rfl, b3⟩
      have V3 := Lib.hid (V2.out.below b3)
      have B3 := Lib.hid (bel_tr B2.out b3 (Nat.le_refl _)); clear b3
      go_wp2_with fail
      go_ret
      exact ⟨by rw [HM.out]; rfl, B3.out⟩
    replace HM := Lib.hid (HM.out.trans (if_neg b4))
    have q4 := tx_neL b4
    unfold whT at q4
    go_enter Tryz.func20, Tryz.ntmps20
    go_wp2_with fail
    go_ret
    exact ⟨by rw [HM.out]; rfl, Below.refl _ _⟩
theorem deedS_all (a : Option Addr) (cap : Nat) (l : List Tk) (n : Nat) (hn : l.length = n) (hl : n ≤ 4194304) (hm : ∀ s ∈ l, s.length ≤ 4194304) : ∀ d : Nat, d ≤ 100 → DeedS a n cap l d (ddE l d)
  | 0, _ => deedS a cap l n hn hl hm 0 _ (fun _ => Or.inl rfl) (blok0 a cap l n hn hl)
  | d + 1, hd => by
    have h := deedS_all a cap l n hn hl hm d (by omega)
    exact deedS a cap l n hn hl hm ((d + 1 : Nat) : Int) _ (bls_ahd (ddE_ahd l d)) (blok1 a cap l n hn hl _ (by omega) (by omega) _ (ddE_ahd l d) (by rw [show ((d + 1 : Nat) : Int) - 1 = (d : Nat) by omega]; exact h))
theorem dsE_in {l : List Tk} {i : Int} {k : Nat} (h0 : 0 ≤ i) (h1 : i < l.length) : dsE l (k + 1) i = dsE l k (ddE l 5 i) := by rw [dsE, if_pos ⟨h0, h1⟩]
theorem dsE_out {l : List Tk} {i : Int} {k : Nat} (h : i < 0 ∨ (l.length : Int) ≤ i) : dsE l k i = i := by
  cases k with
  | zero => rfl
  | succ k => rw [dsE, if_neg (by omega)]
set_option maxHeartbeats 4000000 in
set_option maxRecDepth 100000 in
theorem specRecipeOk_any (w : World) (a : Option Addr) (cap : Nat) (l : List Tk) (n : Nat) (hn : l.length = n) (hv : V1 w a cap (txL l)) (hl : n ≤ 4194304) (hm : ∀ s ∈ l, s.length ≤ 4194304) :
    Calls Tryz.prog 13 #[.slice a n cap] w (GivesB (rcB l) w) := by
  have HV := Lib.hid hv; clear hv
  have HD := Lib.hid (fun w i hi h => deedS_all a cap l n hn hl hm 5 (by decide) w i hi h)
  have HA := Lib.hid (fun i => ddE_ahd l 5 i)
  by_cases hlong : l.length ≤ 120
  · have HR := Lib.hid (show rcB l = decide (dsE l l.length 0 = l.length) by unfold rcB; rw [if_pos hlong])
    have y0 : decide ((n : Int) ≤ 120) = true := by simp; omega
    have y1 : (n : Int) ≤ 120 := by omega
    have y2 : decide (n ≤ 120) = true := by simp; omega
    generalize rcB l = r at *
    go_enter Tryz.func13, Tryz.ntmps13
    go_wp2_with fail
    go_loopg [3] (l.length + 1) (fun j q wr => ∃ z : Int, q = .int .i64 z ∧ dsE l l.length 0 = dsE l (j - 1) z ∧ (z = -1 ∨ (0 ≤ z ∧ z ≤ n ∧ n - z < j)) ∧ Below w.heap.size w wr)
    case atStart => exact ⟨0, rfl, rfl, Or.inr (by omega), Below.refl _ _⟩
    case round =>
      obtain ⟨z, rfl, hr, hz, hbel⟩ := hrel
      have HE := Lib.hid hr
      have HB := Lib.hid hbel
      have HV1 := Lib.hid (HV.out.below hbel)
      clear hr hbel
      by_cases h0 : z < 0
      · have t0 : decide (0 ≤ z) = false := by simpa using h0
        have HX := Lib.hid (HE.out.trans (dsE_out (Or.inl h0)))
        have t1 : (z == (n : Int)) = false := beq_eq_false_iff_ne.2 (by omega)
        go_wp2_with fail
        go_ret
        exact ⟨by rw [HR.out, HX.out, hn, show decide (z = (n : Int)) = false by simp; omega]; rfl, HB.out⟩
      · have t0 : decide (0 ≤ z) = true := by simp; omega
        by_cases h1 : z < (n : Int)
        · obtain ⟨m, rfl⟩ : ∃ m : Nat, z = m := ⟨z.toNat, by omega⟩
          have hmn : m < n := by omega
          have t1 : decide ((m : Int) < (n : Int)) = true := by simpa using hmn
          have t2 : decide (m < n) = true := by simpa using hmn
          obtain ⟨j, rfl⟩ : ∃ j', gk = j' + 2 := ⟨gk - 2, by omega⟩
          have HX := Lib.hid (HE.out.trans (show dsE l (j + 2 - 1) (m : Int) = dsE l (j + 1 - 1) (ddE l 5 m) from dsE_in (k := j) (by omega) (by omega)))
          have HC := Lib.hid (HD.out wr (m : Int) ⟨by omega, by omega⟩ HV1.out)
          have HY := Lib.hid (HA.out (m : Int))
          generalize hy : ddE l 5 (m : Int) = y at HX HC HY
          clear hy
          go_wp2_with fail
          refine HC.out.mono ?_; rintro e w1 ⟨rfl, b1⟩
          have B1 := Lib.hid (bel_tr HB.out b1 (Nat.le_refl _)); clear b1
          go_wp2_with fail
          go_roundg (j + 1)
          case measure => omega
          case rel => exact ⟨y, rfl, HX.out, (by have := HY.out; unfold Ahd at this; omega), B1.out⟩
        · have t1 : decide (z < (n : Int)) = false := by simpa using h1
          have HX := Lib.hid (HE.out.trans (dsE_out (Or.inr (by omega))))
          have hzn : z = n := by omega
          subst hzn
          go_wp2_with fail
          go_ret
          exact ⟨by rw [HR.out, HX.out, hn]; simp, HB.out⟩
  · have HR := Lib.hid (show rcB l = false by unfold rcB; rw [if_neg hlong])
    have y0 : decide ((n : Int) ≤ 120) = false := by simp; omega
    have y1 : ¬ (n : Int) ≤ 120 := by omega
    have y2 : decide (n ≤ 120) = false := by simp; omega
    have y3 : decide ((0 : Int) < (n : Int)) = true := by simp; omega
    have y4 : decide (0 < n) = true := by simp; omega
    have y5 : ((0 : Int) == (n : Int)) = false := beq_eq_false_iff_ne.2 (by omega)
    generalize rcB l = r at *
    go_enter Tryz.func13, Tryz.ntmps13
    go_wp2_with fail
    go_loopw [3] (fun q wr => q = .int .i64 0 ∧ wr = w) (fun _ _ => 0)
    case atStart => exact ⟨rfl, rfl⟩
    case round =>
      obtain ⟨rfl, rfl⟩ := hrel
      go_wp2_with fail
      go_ret
      exact ⟨by rw [HR.out]; rfl, Below.refl _ _⟩
end Go.Proofs.YtoiphglfngkoiaaGreatDoor.Cl
namespace Go.Proofs.YtoiphglfngkoiaaGreatDoor.Cl
set_option linter.unusedVariables false
open Go.RowKit Wd Rp Kp
theorem ahd_neg {l : List Tk} {f : Int → Int} (hf : ∀ i, Ahd l i (f i)) : f (-1) = -1 := by
  have := hf (-1)
  unfold Ahd at this
  omega
end Go.Proofs.YtoiphglfngkoiaaGreatDoor.Cl
namespace Go.Proofs.YtoiphglfngkoiaaGreatDoor.Cl
set_option linter.unusedVariables false
open Go.RowKit Wd Rp Kp
abbrev Rc := Tk × List Tk
def tkN (l : List Tk) (i : Int) : Tk := (tkA l i).getD []
def smT (l : List Tk) (i : Int) : List Tk := match enA l i with | some n => (l.drop i.toNat).take n | none => []
def ddQ (l : List Tk) (B : Int → Int) (R : Int → List Rc) (i : Int) : List Rc := match tkA l i with
  | none => []
  | some s => if s = setT then [(tkN l (i + 1), smT l (i + 2))] else if s = cutT then [(tkN l (i + 1), [])] else if s = stopT then [([], [])]
    else if s = ifT then ([], smT l (i + 1)) :: (R (smV l 2 (i + 1)) ++ R (B (smV l 2 (i + 1)))) else if s = whT then ([], smT l (i + 1)) :: R (smV l 2 (i + 1)) else []
def dlE (l : List Tk) (f : Int → Int) : Nat → Int → Int
  | 0, i => i
  | n + 1, i => match tkA l i with | none => i | some s => if s = [93] then i else dlE l f n (f i)
def dlR (l : List Tk) (f : Int → Int) (R : Int → List Rc) : Nat → Int → List Rc
  | 0, _ => []
  | n + 1, i => match tkA l i with | none => [] | some s => if s = [93] then [] else R i ++ dlR l f R n (f i)
def blR (l : List Tk) (f : Int → Int) (R : Int → List Rc) (i : Int) : List Rc := dlR l f R (l.length + 1) (i + 1)
def ddR (l : List Tk) : Nat → Int → List Rc
  | 0 => ddQ l (fun _ => -1) (fun _ => [])
  | d + 1 => ddQ l (blS l (ddE l d)) (blR l (ddE l d) (ddR l d))
def rcR (l : List Tk) : List Rc := dlR l (ddE l 5) (ddR l 5) (l.length + 1) 0
theorem ble_neg (l : List Tk) (f : Int → Int) (n : Nat) {i : Int} (h : i < 0) : blE l f n i = -1 := by
  cases n with
  | zero => rfl
  | succ n => rw [blE, tkA_neg h]
theorem dlE_neg (l : List Tk) (f : Int → Int) (n : Nat) {i : Int} (h : i < 0) : dlE l f n i = i := by
  cases n with
  | zero => rfl
  | succ n => rw [dlE, tkA_neg h]
theorem ble_dl {l : List Tk} {f : Int → Int} (hf : ∀ i, Ahd l i (f i)) : ∀ (n : Nat) (i : Int), (i < 0 ∨ (l.length : Int) - i < n) → blE l f n i = if tkA l (dlE l f n i) = some [93] then dlE l f n i + 1 else -1
  | 0, i, h => by
    have e1 : blE l f 0 i = -1 := rfl
    have e2 : dlE l f 0 i = i := rfl
    rw [e1, e2]
    cases e : tkA l i with
    | none => simp
    | some s => have := tkA_some e; omega
  | n + 1, i, h => by
    cases e : tkA l i with
    | none =>
      have e1 : blE l f (n + 1) i = -1 := by rw [blE, e]
      have e2 : dlE l f (n + 1) i = i := by rw [dlE, e]
      rw [e1, e2, e]; simp
    | some s =>
      by_cases hs : s = [93]
      · have e1 : blE l f (n + 1) i = i + 1 := by rw [blE, e]; exact if_pos hs
        have e2 : dlE l f (n + 1) i = i := by rw [dlE, e]; exact if_pos hs
        rw [e1, e2, e, hs, if_pos rfl]
      · have e1 : blE l f (n + 1) i = blE l f n (f i) := by rw [blE, e]; exact if_neg hs
        have e2 : dlE l f (n + 1) i = dlE l f n (f i) := by rw [dlE, e]; exact if_neg hs
        rw [e1, e2]
        have := tkA_some e
        have := hf i
        unfold Ahd at this
        exact ble_dl hf n (f i) (by omega)
theorem dsE_dl (l : List Tk) : ∀ (n : Nat) (i : Int), (i < 0 ∨ (l.length : Int) - i ≤ n) → ∀ m : Nat, n ≤ m → (dsE l n i = l.length ↔ dlE l (ddE l 5) m i = l.length)
  | 0, i, h, m, _ => by
    have e : dsE l 0 i = i := rfl
    rw [e]
    have : dlE l (ddE l 5) m i = i := by
      cases m with
      | zero => rfl
      | succ m =>
        rw [dlE]
        cases e : tkA l i with
        | none => rfl
        | some s => have := tkA_some e; omega
    rw [this]
  | n + 1, i, h, m, hm => by
    obtain ⟨m, rfl⟩ : ∃ k, m = k + 1 := ⟨m - 1, by omega⟩
    by_cases hi : 0 ≤ i ∧ i < l.length
    · rw [dsE, if_pos hi]
      obtain ⟨s, hs⟩ : ∃ s, tkA l i = some s := by
        unfold tkA
        rw [if_neg (by omega)]
        exact ⟨l[i.toNat]'(by omega), List.getElem?_eq_getElem _⟩
      by_cases hb : s = [93]
      · have e1 : ddE l 5 i = -1 := by
          show ddG l _ i = -1
          unfold ddG
          rw [hs, hb]
          simp [setT, cutT, stopT, ifT, whT]
        have e2 : dlE l (ddE l 5) (m + 1) i = i := by rw [dlE, hs]; exact if_pos hb
        rw [e1, e2, dsE_out (Or.inl (by omega))]
        omega
      · have e2 : dlE l (ddE l 5) (m + 1) i = dlE l (ddE l 5) m (ddE l 5 i) := by rw [dlE, hs]; exact if_neg hb
        rw [e2]
        have := ddE_ahd l 5 i
        unfold Ahd at this
        exact dsE_dl l n (ddE l 5 i) (by omega) m (by omega)
    · rw [dsE, if_neg hi]
      have : dlE l (ddE l 5) (m + 1) i = i := by
        rw [dlE]
        cases e : tkA l i with
        | none => rfl
        | some s => have := tkA_some e; omega
      rw [this]
theorem rcB_dl (l : List Tk) : rcB l = (decide (l.length ≤ 120) && decide (dlE l (ddE l 5) (l.length + 1) 0 = l.length)) := by
  unfold rcB
  split
  · rename_i h
    rw [decide_eq_true h, Bool.true_and]
    exact decide_eq_decide.2 (dsE_dl l l.length 0 (by omega) _ (by omega))
  · rename_i h
    rw [decide_eq_false h, Bool.false_and]
theorem ddQ_some {l : List Tk} {B : Int → Int} {R : Int → List Rc} {i : Int} {s : Tk} (h : tkA l i = some s) : ddQ l B R i = if s = setT then [(tkN l (i + 1), smT l (i + 2))] else if s = cutT then [(tkN l (i + 1), [])] else if s = stopT then [([], [])]
    else if s = ifT then ([], smT l (i + 1)) :: (R (smV l 2 (i + 1)) ++ R (B (smV l 2 (i + 1)))) else if s = whT then ([], smT l (i + 1)) :: R (smV l 2 (i + 1)) else [] := by unfold ddQ; rw [h]
theorem foV_agr {R : Type} (f : Tk → R) (g : Nat → R → R → R) (z : R) {l m : List Tk} {i j : Int} {n : Nat} (h : enA l i = some n) (h2 : enA m j = some n) (hp : (m.drop j.toNat).take n = (l.drop i.toNat).take n) : foV f g z m j = foV f g z l i := by
  unfold foV
  rw [h, h2]
  dsimp only
  rw [hp]
theorem nmB_nil : nmB [] = false := by decide
end Go.Proofs.YtoiphglfngkoiaaGreatDoor.Cl
namespace Go.Proofs.YtoiphglfngkoiaaGreatDoor.Cl
set_option linter.unusedVariables false
open Go.RowKit Wd Rp Kp
end Go.Proofs.YtoiphglfngkoiaaGreatDoor.Cl
namespace Go.Proofs.YtoiphglfngkoiaaGreatDoor.Cl
set_option linter.unusedVariables false
open Go.RowKit Wd Rp Kp
inductive ScR (l : List Tk) : Int → List Rc → Prop
  | fin : ScR l (l.length : Int) []
  | br {i : Int} {s : Tk} {F : List Rc} : tkA l i = some s → (s = [91] ∨ s = [93]) → ScR l (i + 1) F → ScR l i F
  | set {i : Int} {F : List Rc} : tkA l i = some setT → nmA l (i + 1) = true → smV l 1 (i + 2) ≠ -1 → ScR l (smV l 1 (i + 2)) F → ScR l i ((tkN l (i + 1), smT l (i + 2)) :: F)
  | cut {i : Int} {F : List Rc} : tkA l i = some cutT → nmA l (i + 1) = true → ScR l (i + 2) F → ScR l i ((tkN l (i + 1), []) :: F)
  | stop {i : Int} {F : List Rc} : tkA l i = some stopT → ScR l (i + 1) F → ScR l i (([], []) :: F)
  | iw {i : Int} {s : Tk} {F : List Rc} : tkA l i = some s → (s = ifT ∨ s = whT) → smV l 2 (i + 1) ≠ -1 → ScR l (smV l 2 (i + 1)) F → ScR l i (([], smT l (i + 1)) :: F)
theorem ScR.at {l : List Tk} {i : Int} {F : List Rc} (h : ScR l i F) : 0 ≤ i ∧ i ≤ l.length := by
  cases h with
  | fin => omega
  | br h _ _ => have := tkA_some h; omega
  | set h _ _ _ => have := tkA_some h; omega
  | cut h _ _ => have := tkA_some h; omega
  | stop h _ => have := tkA_some h; omega
  | iw h _ _ _ => have := tkA_some h; omega
end Go.Proofs.YtoiphglfngkoiaaGreatDoor.Cl
namespace Go.Proofs.YtoiphglfngkoiaaGreatDoor.Cl
set_option linter.unusedVariables false
open Go.RowKit Wd Rp Kp
mutual
/-- A statement. -/
inductive Sm where
  | set (n : Tk) (e : List Tk)
  | cut (n : Tk)
  | stop
  | ifs (e : List Tk) (a b : Sl)
  | whl (e : List Tk) (a : Sl)
/-- Statements one after the other. -/
inductive Sl where
  | nil
  | cons (s : Sm) (r : Sl)
end
structure St0 where
  c : Int
  b : List Bi
  f : Int
def evE (gs : List Int) (bs : List Bi) (e : List Tk) : Int × Bool := foV (vlF gs bs) vlG (0, false) e 0
def whR (gs : List Int) (e : List Tk) (body : St0 → St0) : Nat → St0 → St0
  | 0, st => st
  | n + 1, st => if st.f = 0 then ⟨3, st.b, st.f⟩ else
      if (evE gs st.b e).2 = false then ⟨2, st.b, st.f - 1⟩ else if (evE gs st.b e).1 = 0 then ⟨st.c, st.b, st.f - 1⟩ else
        if (body ⟨st.c, st.b, st.f - 1⟩).c = 0 then whR gs e body n (body ⟨st.c, st.b, st.f - 1⟩) else body ⟨st.c, st.b, st.f - 1⟩
mutual
/-- What a statement does. -/
def Sm.run (gs : List Int) : Sm → St0 → St0
  | .set n e, st => if (evE gs st.b e).2 = false then ⟨2, st.b, st.f⟩ else ⟨(if (st7 st.b (tx n) (evE gs st.b e).1).2 then st.c else 4), (st7 st.b (tx n) (evE gs st.b e).1).1, st.f⟩
  | .cut n, st => ⟨st.c, ctI st.b (tx n), st.f⟩
  | .stop, st => ⟨1, st.b, st.f⟩
  | .ifs e a b, st => if (evE gs st.b e).2 = false then ⟨2, st.b, st.f⟩ else if (evE gs st.b e).1 = 0 then Sl.run gs b st else Sl.run gs a st
  | .whl e a, st => whR gs e (fun s => Sl.run gs a s) (st.f.toNat + 1) st
def Sl.run (gs : List Int) : Sl → St0 → St0
  | .nil, st => st
  | .cons s r, st => if (Sm.run gs s st).c = 0 then Sl.run gs r (Sm.run gs s st) else Sm.run gs s st
end
end Go.Proofs.YtoiphglfngkoiaaGreatDoor.Cl
namespace Go.Proofs.YtoiphglfngkoiaaGreatDoor.Cl
set_option linter.unusedVariables false
open Go.RowKit Wd Rp Kp
theorem isL_nm {s : Tk} (h : isL s = true) (h1 : gvN s = 0) (h2 : rdB s = false) : nmB s = true := by
  unfold isL at h
  rw [h1, h2] at h
  simp at h
  exact h.2
theorem kdV_some {l : List Tk} {i : Int} (h : kdV l i ≠ 0) : ∃ n, enA l i = some n := by
  cases e : enA l i with
  | none => exact absurd (foV_none kdF kdG 0 e) h
  | some n => exact ⟨n, rfl⟩
end Go.Proofs.YtoiphglfngkoiaaGreatDoor.Cl
namespace Go.Proofs.YtoiphglfngkoiaaGreatDoor.Cl
set_option linter.unusedVariables false
open Go.RowKit Wd Rp Kp
def eOk (e : List Tk) : Prop := ∃ u : Su, u.ok ∧ e = u.fl
mutual
/-- What holds of all that is set, of all that is cut, of all that is asked. -/
def Sm.all (S : Tk → List Tk → Prop) (C : Tk → Prop) (E : List Tk → Prop) : Sm → Prop
  | .set n e => S n e
  | .cut n => C n
  | .stop => True
  | .ifs e a b => E e ∧ Sl.all S C E a ∧ Sl.all S C E b
  | .whl e a => E e ∧ Sl.all S C E a
def Sl.all (S : Tk → List Tk → Prop) (C : Tk → Prop) (E : List Tk → Prop) : Sl → Prop
  | .nil => True
  | .cons s r => Sm.all S C E s ∧ Sl.all S C E r
end
def Sl.ok (s : Sl) : Prop := s.all (fun n e => nmB n = true ∧ eOk e) (fun n => nmB n = true) eOk
def Sl.free (z : ByteArray) (s : Sl) : Prop := s.all (fun n _ => (tx n).toList ≠ z.toList) (fun n => (tx n).toList ≠ z.toList) (fun _ => True)
end Go.Proofs.YtoiphglfngkoiaaGreatDoor.Cl
namespace Go.Proofs.YtoiphglfngkoiaaGreatDoor.Cl
set_option linter.unusedVariables false
open Go.RowKit Wd Rp Kp
mutual
/-- A statement's text. -/
def Sm.fl : Sm → List Tk
  | .set n e => setT :: n :: e
  | .cut n => [cutT, n]
  | .stop => [stopT]
  | .ifs e a b => ifT :: (e ++ ([91] :: (Sl.fl a ++ ([93] :: [91] :: (Sl.fl b ++ [[93]])))))
  | .whl e a => whT :: (e ++ ([91] :: (Sl.fl a ++ [[93]])))
def Sl.fl : Sl → List Tk
  | .nil => []
  | .cons s r => Sm.fl s ++ Sl.fl r
end
def eK (kind : Int) (e : List Tk) : Prop := ∃ u : Su, u.ok ∧ e = u.fl ∧ u.fo kdF kdG = kind ∧ ¬ 5 < u.fo dpF dpG
mutual
/-- Brackets so deep at most. -/
def Sm.wf : Nat → Sm → Prop
  | _, .set n e => nmB n = true ∧ eK 1 e
  | _, .cut n => nmB n = true
  | _, .stop => True
  | 0, .ifs _ _ _ => False
  | 0, .whl _ _ => False
  | d + 1, .ifs e a b => eK 2 e ∧ Sl.wf d a ∧ Sl.wf d b
  | d + 1, .whl e a => eK 2 e ∧ Sl.wf d a
def Sl.wf : Nat → Sl → Prop
  | _, .nil => True
  | d, .cons s r => Sm.wf d s ∧ Sl.wf d r
end
mutual
/-- What is read of a statement. -/
def Sm.rd : Sm → List Rc
  | .set n e => [(n, e)]
  | .cut n => [(n, [])]
  | .stop => [([], [])]
  | .ifs e a b => ([], e) :: (Sl.rd a ++ Sl.rd b)
  | .whl e a => ([], e) :: Sl.rd a
def Sl.rd : Sl → List Rc
  | .nil => []
  | .cons s r => Sm.rd s ++ Sl.rd r
end
theorem Sm.pos (s : Sm) : 1 ≤ s.fl.length := by cases s <;> simp [Sm.fl]
theorem eK.ok {kind : Int} {e : List Tk} (h : eK kind e) : eOk e := by obtain ⟨u, h1, h2, -⟩ := h; exact ⟨u, h1, h2⟩
end Go.Proofs.YtoiphglfngkoiaaGreatDoor.Cl
namespace Go.Proofs.YtoiphglfngkoiaaGreatDoor.Cl
set_option linter.unusedVariables false
open Go.RowKit Wd Rp Kp
theorem tkA_drop {l : List Tk} {i : Int} {s : Tk} (h : tkA l i = some s) : 0 ≤ i ∧ l.drop i.toNat = s :: l.drop (i + 1).toNat := by
  obtain ⟨h0, h1, h2⟩ := tkA_some h
  obtain ⟨h3, rfl⟩ := List.getElem?_eq_some_iff.1 h2
  refine ⟨h0, ?_⟩
  rw [List.drop_eq_getElem_cons h3, show (i + 1).toNat = i.toNat + 1 by omega]
theorem sm_tree {l : List Tk} {kind i : Int} (hk : kind ≠ 0) (h : smV l kind i ≠ -1) : ∃ e, eK kind e ∧ 0 ≤ i ∧ l.drop i.toNat = e ++ l.drop (smV l kind i).toNat := by
  unfold smV at h ⊢
  split at h
  · exact absurd rfl h
  · rename_i hn
    rw [if_neg hn]
    have h1 : kdV l i = kind := by apply Decidable.byContradiction; intro e; exact hn (Or.inr (Or.inl e))
    have h2 : ¬ 5 < dpV l i := fun e => hn (Or.inr (Or.inr e))
    obtain ⟨m, he⟩ := kdV_some (l := l) (i := i) (by rw [h1]; exact hk)
    obtain ⟨u, hu, h0, hm, hd, hf⟩ := foV_tree kdF kdG 0 he
    obtain ⟨k, rfl⟩ : ∃ k : Nat, i = k := ⟨i.toNat, by omega⟩
    rw [Int.toNat_natCast] at hd
    refine ⟨u.fl, ⟨u, hu, rfl, by rw [← h1]; exact hf.symm, by rw [← foV_of dpF dpG 0 hu hd]; exact h2⟩, h0, ?_⟩
    rw [edV_some he, Int.toNat_natCast, hd, show ((k : Int) + (m : Int)).toNat = k + m by omega]
theorem sm_det {l : List Tk} {kind : Int} {k : Nat} {e r : List Tk} (h : eK kind e) (hd : l.drop k = e ++ r) : smV l kind (k : Int) = ((k + e.length : Nat) : Int) ∧ smT l (k : Int) = e := by
  obtain ⟨u, hu, rfl, h1, h2⟩ := h
  have he := enA_of hu hd
  have h3 : edV l (k : Int) = ((k + u.fl.length : Nat) : Int) := by rw [edV_some he]; omega
  have h4 : kdV l (k : Int) = kind := by rw [← h1]; exact foV_of kdF kdG 0 hu hd
  have h5 : dpV l (k : Int) = u.fo dpF dpG := foV_of dpF dpG 0 hu hd
  constructor
  · rw [sm_yes (by rw [h3]; omega) h4 (by rw [h5]; exact h2), h3]
  · unfold smT
    rw [he]
    show (l.drop k).take u.fl.length = _
    rw [hd, List.take_left]
def Sm.shape (W : Sl → Prop) : Sm → Prop
  | .set n e => nmB n = true ∧ eK 1 e
  | .cut n => nmB n = true
  | .stop => True
  | .ifs e a b => eK 2 e ∧ W a ∧ W b
  | .whl e a => eK 2 e ∧ W a
theorem Sm.wf_shape {d : Nat} {s : Sm} (h : s.shape (Sl.wf d)) : s.wf (d + 1) := by
  cases s <;> rw [Sm.wf] <;> first | exact h | trivial
theorem Sm.wf_shape0 {s : Sm} (h : s.shape (fun _ => False)) : s.wf 0 := by
  cases s with
  | set n e => rw [Sm.wf]; exact h
  | cut n => rw [Sm.wf]; exact h
  | stop => rw [Sm.wf]; trivial
  | ifs e a b => exact h.2.1.elim
  | whl e a => exact h.2.elim
def IsBlok (l : List Tk) (B : Int → Int) (W : Sl → Prop) : Prop := ∀ i, B i ≠ -1 → ∃ a : Sl, W a ∧ l.drop i.toNat = [91] :: (a.fl ++ ([93] :: l.drop (B i).toNat))
def IsDeed (l : List Tk) (f : Int → Int) (W : Sm → Prop) : Prop := ∀ i, f i ≠ -1 → ∃ s : Sm, W s ∧ l.drop i.toNat = s.fl ++ l.drop (f i).toNat
theorem nmA_some {l : List Tk} {i : Int} (h : nmA l i = true) : ∃ n, tkA l i = some n ∧ nmB n = true := by
  unfold nmA at h
  cases e : tkA l i with
  | none => rw [e] at h; cases h
  | some n => rw [e] at h; exact ⟨n, rfl, h⟩
theorem dd_tree {l : List Tk} {B : Int → Int} {W : Sl → Prop} (hA : ∀ i, Ahd l i (B i)) (hB : IsBlok l B W) : IsDeed l (ddG l B) (Sm.shape W) := by
  intro i hn
  cases h : tkA l i with
  | none => unfold ddG at hn; rw [h] at hn; exact absurd rfl hn
  | some s =>
    obtain ⟨h0, hd⟩ := tkA_drop h
    rw [ddG_some h] at hn ⊢
    by_cases h1 : s = setT
    · subst h1
      rw [if_pos rfl] at hn ⊢
      by_cases hm : nmA l (i + 1) = true
      · rw [if_pos hm] at hn ⊢
        obtain ⟨n, hn1, hn2⟩ := nmA_some hm
        obtain ⟨-, hd2⟩ := tkA_drop hn1
        obtain ⟨e, he, -, hd3⟩ := sm_tree (by decide) hn
        rw [show i + 1 + 1 = i + 2 by omega] at hd2
        exact ⟨.set n e, ⟨hn2, he⟩, by rw [hd, hd2, hd3]; simp [Sm.fl]⟩
      · rw [if_neg hm] at hn; exact absurd rfl hn
    · rw [if_neg h1] at hn ⊢
      by_cases h2 : s = cutT
      · subst h2
        rw [if_pos rfl] at hn ⊢
        by_cases hm : nmA l (i + 1) = true
        · rw [if_pos hm] at hn ⊢
          obtain ⟨n, hn1, hn2⟩ := nmA_some hm
          obtain ⟨-, hd2⟩ := tkA_drop hn1
          rw [show i + 1 + 1 = i + 2 by omega] at hd2
          exact ⟨.cut n, hn2, by rw [hd, hd2]; simp [Sm.fl]⟩
        · rw [if_neg hm] at hn; exact absurd rfl hn
      · rw [if_neg h2] at hn ⊢
        by_cases h3 : s = stopT
        · subst h3
          rw [if_pos rfl]
          exact ⟨.stop, trivial, by rw [hd]; simp [Sm.fl]⟩
        · rw [if_neg h3] at hn ⊢
          by_cases h4 : s = ifT
          · subst h4
            rw [if_pos rfl] at hn ⊢
            have k1 : B (smV l 2 (i + 1)) ≠ -1 := fun e => hn (by rw [e]; exact ahd_neg hA)
            have k2 : smV l 2 (i + 1) ≠ -1 := fun e => k1 (by rw [e]; exact ahd_neg hA)
            obtain ⟨e, he, -, hd2⟩ := sm_tree (by decide) k2
            obtain ⟨a, ha, hd3⟩ := hB _ k1
            obtain ⟨b, hb, hd4⟩ := hB _ hn
            exact ⟨.ifs e a b, ⟨he, ha, hb⟩, by rw [hd, hd2, hd3, hd4]; simp [Sm.fl]⟩
          · rw [if_neg h4] at hn ⊢
            by_cases h5 : s = whT
            · subst h5
              rw [if_pos rfl] at hn ⊢
              have k2 : smV l 2 (i + 1) ≠ -1 := fun e => hn (by rw [e]; exact ahd_neg hA)
              obtain ⟨e, he, -, hd2⟩ := sm_tree (by decide) k2
              obtain ⟨a, ha, hd3⟩ := hB _ hn
              exact ⟨.whl e a, ⟨he, ha⟩, by rw [hd, hd2, hd3]; simp [Sm.fl]⟩
            · rw [if_neg h5] at hn; exact absurd rfl hn
theorem ble_tree {l : List Tk} {f : Int → Int} {d : Nat} (hf : IsDeed l f (Sm.wf d)) : ∀ (n : Nat) (i : Int), blE l f n i ≠ -1 → ∃ a : Sl, a.wf d ∧ l.drop i.toNat = a.fl ++ ([93] :: l.drop (blE l f n i).toNat)
  | 0, i, h => absurd rfl h
  | n + 1, i, h => by
    cases e : tkA l i with
    | none => rw [blE, e] at h; exact absurd rfl h
    | some s =>
      by_cases hs : s = [93]
      · subst hs
        have e1 : blE l f (n + 1) i = i + 1 := by rw [blE, e]; exact if_pos rfl
        rw [e1]
        exact ⟨.nil, by rw [Sl.wf]; trivial, by rw [(tkA_drop e).2]; simp [Sl.fl]⟩
      · have e1 : blE l f (n + 1) i = blE l f n (f i) := by rw [blE, e]; exact if_neg hs
        rw [e1] at h ⊢
        have k1 : f i ≠ -1 := fun g => h (by rw [g]; exact ble_neg l f n (by omega))
        obtain ⟨t, ht, hd⟩ := hf i k1
        obtain ⟨a, ha, hd2⟩ := ble_tree hf n _ h
        exact ⟨.cons t a, by rw [Sl.wf]; exact ⟨ht, ha⟩, by rw [hd, hd2]; simp [Sl.fl]⟩
theorem bls_tree {l : List Tk} {f : Int → Int} {d : Nat} (hf : IsDeed l f (Sm.wf d)) : IsBlok l (blS l f) (Sl.wf d) := by
  intro i h
  by_cases hb : tkA l i = some [91]
  · have e : blS l f i = blE l f (l.length + 1) (i + 1) := by unfold blS; rw [if_pos hb]
    rw [e] at h ⊢
    obtain ⟨a, ha, hd⟩ := ble_tree hf _ _ h
    exact ⟨a, ha, by rw [(tkA_drop hb).2, hd]⟩
  · exact absurd (by unfold blS; rw [if_neg hb]) h
theorem ddE_tree (l : List Tk) : ∀ d : Nat, IsDeed l (ddE l d) (Sm.wf d)
  | 0 => fun i h => by
    obtain ⟨s, hs, hd⟩ := dd_tree (l := l) (B := fun _ => -1) (W := fun _ => False) (fun _ => Or.inl rfl) (fun i h => absurd rfl h) i h
    exact ⟨s, Sm.wf_shape0 hs, hd⟩
  | d + 1 => fun i h => by
    obtain ⟨s, hs, hd⟩ := dd_tree (bls_ahd (ddE_ahd l d)) (bls_tree (ddE_tree l d)) i h
    exact ⟨s, Sm.wf_shape hs, hd⟩
theorem dl_tree {l : List Tk} {f : Int → Int} {d : Nat} (hf : IsDeed l f (Sm.wf d)) : ∀ (n : Nat) (i : Int), dlE l f n i = l.length → ∃ a : Sl, a.wf d ∧ l.drop i.toNat = a.fl
  | 0, i, h => ⟨.nil, by rw [Sl.wf]; trivial, by have : i = l.length := h; subst this; simp [Sl.fl]⟩
  | n + 1, i, h => by
    cases e : tkA l i with
    | none => rw [dlE, e] at h; exact ⟨.nil, by rw [Sl.wf]; trivial, by have : i = l.length := h; subst this; simp [Sl.fl]⟩
    | some s =>
      by_cases hs : s = [93]
      · have e1 : dlE l f (n + 1) i = i := by rw [dlE, e]; exact if_pos hs
        have := tkA_some e
        omega
      · have e1 : dlE l f (n + 1) i = dlE l f n (f i) := by rw [dlE, e]; exact if_neg hs
        rw [e1] at h
        have k1 : f i ≠ -1 := fun g => by rw [g, dlE_neg l f n (by omega)] at h; omega
        obtain ⟨t, ht, hd⟩ := hf i k1
        obtain ⟨a, ha, hd2⟩ := dl_tree hf n _ h
        exact ⟨.cons t a, by rw [Sl.wf]; exact ⟨ht, ha⟩, by rw [hd, hd2]; simp [Sl.fl]⟩
theorem rc_tree {l : List Tk} (h : rcB l = true) : ∃ t : Sl, t.wf 5 ∧ l = t.fl := by
  rw [rcB_dl, Bool.and_eq_true, decide_eq_true_eq, decide_eq_true_eq] at h
  obtain ⟨a, ha, hd⟩ := dl_tree (ddE_tree l 5) _ 0 h.2
  exact ⟨a, ha, hd⟩
end Go.Proofs.YtoiphglfngkoiaaGreatDoor.Cl
namespace Go.Proofs.YtoiphglfngkoiaaGreatDoor.Cl
set_option linter.unusedVariables false
open Go.RowKit Wd Rp Kp
theorem tkA_of {l : List Tk} {k : Nat} {s : Tk} {r : List Tk} (h : l.drop k = s :: r) : tkA l (k : Int) = some s := by rw [tkA_nat]; exact (drop_head h).1
theorem Sm.head (s : Sm) : ∃ t q, s.fl = t :: q ∧ t ≠ [93] := by
  cases s <;> exact ⟨_, _, rfl, by decide⟩
theorem nmA_of {l : List Tk} {k : Nat} {n : Tk} {r : List Tk} (h : l.drop k = n :: r) (hn : nmB n = true) : nmA l (k : Int) = true := by unfold nmA; rw [tkA_of h]; exact hn
theorem cutT_setT : (cutT = setT) = False := eq_false (by decide)
theorem stopT_setT : (stopT = setT) = False := eq_false (by decide)
theorem stopT_cutT : (stopT = cutT) = False := eq_false (by decide)
theorem ifT_setT : (ifT = setT) = False := eq_false (by decide)
theorem ifT_cutT : (ifT = cutT) = False := eq_false (by decide)
theorem ifT_stopT : (ifT = stopT) = False := eq_false (by decide)
theorem whT_setT : (whT = setT) = False := eq_false (by decide)
theorem whT_cutT : (whT = cutT) = False := eq_false (by decide)
theorem whT_stopT : (whT = stopT) = False := eq_false (by decide)
theorem whT_ifT : (whT = ifT) = False := eq_false (by decide)
theorem ddE_G (l : List Tk) : ∀ d : Nat, ∃ B R, ddE l d = ddG l B ∧ ddR l d = ddQ l B R
  | 0 => ⟨_, _, rfl, rfl⟩
  | d + 1 => ⟨_, _, rfl, rfl⟩
theorem blk_of {l : List Tk} {f : Int → Int} {R : Int → List Rc} (hA : ∀ i, Ahd l i (f i)) {a : List Tk} {rd : List Rc} {k : Nat} {r : List Tk} (hd : l.drop k = [91] :: (a ++ ([93] :: r)))
    (h : ∀ n, a.length < n → dlE l f n ((k + 1 : Nat) : Int) = ((k + 1 + a.length : Nat) : Int) ∧ dlR l f R n ((k + 1 : Nat) : Int) = rd) : blS l f (k : Int) = ((k + a.length + 2 : Nat) : Int) ∧ blR l f R (k : Int) = rd := by
  obtain ⟨h1, h2, h3⟩ := drop_head hd
  have hlen := congrArg List.length h3
  rw [List.length_drop, List.length_append, List.length_cons] at hlen
  obtain ⟨e1, e2⟩ := h (l.length + 1) (by omega)
  constructor
  · unfold blS
    rw [if_pos (tkA_of hd), show (k : Int) + 1 = ((k + 1 : Nat) : Int) by omega, ble_dl hA _ _ (by omega), e1, if_pos (tkA_of (drop_more h3))]
    omega
  · unfold blR
    rw [show (k : Int) + 1 = ((k + 1 : Nat) : Int) by omega]
    exact e2
mutual
theorem Sm.det (l : List Tk) : ∀ (s : Sm) (d k : Nat) (r : List Tk), s.wf d → l.drop k = s.fl ++ r → ddE l d (k : Int) = ((k + s.fl.length : Nat) : Int) ∧ ddR l d (k : Int) = s.rd
  | .set n e, d, k, r, hw, hd => by
    rw [Sm.wf] at hw
    obtain ⟨B, R, hB, hR⟩ := ddE_G l d
    rw [hB, hR]
    have hd1 : l.drop k = setT :: (n :: (e ++ r)) := by rw [hd]; rfl
    have hd2 := (drop_head hd1).2.2
    have hd3 := (drop_head hd2).2.2
    obtain ⟨h1, h2⟩ := sm_det hw.2 hd3
    rw [ddG_some (tkA_of hd1), ddQ_some (tkA_of hd1)]
    simp only [if_true, eq_self]
    rw [show (k : Int) + 1 = ((k + 1 : Nat) : Int) by omega, show (k : Int) + 2 = ((k + 1 + 1 : Nat) : Int) by omega, if_pos (nmA_of hd2 hw.1), h1, h2]
    refine ⟨by rw [Sm.fl]; simp only [List.length_cons]; omega, ?_⟩
    rw [Sm.rd]
    unfold tkN
    rw [tkA_of hd2]; rfl
  | .cut n, d, k, r, hw, hd => by
    rw [Sm.wf] at hw
    obtain ⟨B, R, hB, hR⟩ := ddE_G l d
    rw [hB, hR]
    have hd1 : l.drop k = cutT :: (n :: r) := by rw [hd]; rfl
    have hd2 := (drop_head hd1).2.2
    rw [ddG_some (tkA_of hd1), ddQ_some (tkA_of hd1)]
    simp only [cutT_setT, if_false, if_true, eq_self]
    rw [show (k : Int) + 1 = ((k + 1 : Nat) : Int) by omega, if_pos (nmA_of hd2 hw)]
    refine ⟨by rw [Sm.fl]; simp only [List.length_cons, List.length_nil]; omega, ?_⟩
    rw [Sm.rd]
    unfold tkN
    rw [tkA_of hd2]; rfl
  | .stop, d, k, r, hw, hd => by
    obtain ⟨B, R, hB, hR⟩ := ddE_G l d
    rw [hB, hR]
    have hd1 : l.drop k = stopT :: r := by rw [hd]; rfl
    rw [ddG_some (tkA_of hd1), ddQ_some (tkA_of hd1)]
    simp only [stopT_setT, stopT_cutT, if_false, if_true, eq_self]
    refine ⟨by rw [Sm.fl]; simp only [List.length_cons, List.length_nil]; omega, ?_⟩
    rw [Sm.rd]
  | .ifs e a b, 0, k, r, hw, hd => by rw [Sm.wf] at hw; exact hw.elim
  | .ifs e a b, d + 1, k, r, hw, hd => by
    rw [Sm.wf] at hw
    have hd1 : l.drop k = ifT :: (e ++ ([91] :: (a.fl ++ ([93] :: ([91] :: (b.fl ++ ([93] :: r))))))) := by rw [hd]; simp [Sm.fl]
    have hd2 := (drop_head hd1).2.2
    obtain ⟨h1, h2⟩ := sm_det hw.1 hd2
    have hd3 := drop_more hd2
    obtain ⟨h3, h4⟩ := blk_of (ddE_ahd l d) (R := ddR l d) (rd := a.rd) hd3 (fun n hn => Sl.det l a d _ _ n hw.2.1 (drop_head hd3).2.2 (Or.inr ⟨_, rfl⟩) hn)
    have hd4 : l.drop (k + 1 + e.length + a.fl.length + 2) = [91] :: (b.fl ++ ([93] :: r)) := by
      have := (drop_head (drop_more (drop_head hd3).2.2)).2.2
      rw [show k + 1 + e.length + a.fl.length + 2 = k + 1 + e.length + 1 + a.fl.length + 1 by omega]; exact this
    obtain ⟨h5, h6⟩ := blk_of (ddE_ahd l d) (R := ddR l d) (rd := b.rd) hd4 (fun n hn => Sl.det l b d _ _ n hw.2.2 (drop_head hd4).2.2 (Or.inr ⟨_, rfl⟩) hn)
    have hE : ddE l (d + 1) (k : Int) = ddG l (blS l (ddE l d)) (k : Int) := rfl
    have hR : ddR l (d + 1) (k : Int) = ddQ l (blS l (ddE l d)) (blR l (ddE l d) (ddR l d)) (k : Int) := rfl
    rw [hE, hR, ddG_some (tkA_of hd1), ddQ_some (tkA_of hd1)]
    simp only [ifT_setT, ifT_cutT, ifT_stopT, if_false, if_true, eq_self]
    rw [show (k : Int) + 1 = ((k + 1 : Nat) : Int) by omega, h1, h2, h3, h4, h5, h6]
    refine ⟨by rw [Sm.fl]; simp only [List.length_cons, List.length_nil, List.length_append]; omega, ?_⟩
    rw [Sm.rd]
  | .whl e a, 0, k, r, hw, hd => by rw [Sm.wf] at hw; exact hw.elim
  | .whl e a, d + 1, k, r, hw, hd => by
    rw [Sm.wf] at hw
    have hd1 : l.drop k = whT :: (e ++ ([91] :: (a.fl ++ ([93] :: r)))) := by rw [hd]; simp [Sm.fl]
    have hd2 := (drop_head hd1).2.2
    obtain ⟨h1, h2⟩ := sm_det hw.1 hd2
    have hd3 := drop_more hd2
    obtain ⟨h3, h4⟩ := blk_of (ddE_ahd l d) (R := ddR l d) (rd := a.rd) hd3 (fun n hn => Sl.det l a d _ _ n hw.2 (drop_head hd3).2.2 (Or.inr ⟨_, rfl⟩) hn)
    have hE : ddE l (d + 1) (k : Int) = ddG l (blS l (ddE l d)) (k : Int) := rfl
    have hR : ddR l (d + 1) (k : Int) = ddQ l (blS l (ddE l d)) (blR l (ddE l d) (ddR l d)) (k : Int) := rfl
    rw [hE, hR, ddG_some (tkA_of hd1), ddQ_some (tkA_of hd1)]
    simp only [whT_setT, whT_cutT, whT_stopT, whT_ifT, if_false, if_true, eq_self]
    rw [show (k : Int) + 1 = ((k + 1 : Nat) : Int) by omega, h1, h2, h3, h4]
    refine ⟨by rw [Sm.fl]; simp only [List.length_cons, List.length_nil, List.length_append]; omega, ?_⟩
    rw [Sm.rd]
theorem Sl.det (l : List Tk) : ∀ (a : Sl) (d k : Nat) (r : List Tk) (n : Nat), a.wf d → l.drop k = a.fl ++ r → (r = [] ∨ ∃ q, r = [93] :: q) → a.fl.length < n → dlE l (ddE l d) n (k : Int) = ((k + a.fl.length : Nat) : Int) ∧ dlR l (ddE l d) (ddR l d) n (k : Int) = a.rd
  | .nil, d, k, r, 0, hw, hd, hr, hn => by omega
  | .nil, d, k, r, n + 1, hw, hd, hr, hn => by
    have hd : l.drop k = r := hd
    rw [Sl.rd]
    have e0 : ((k + (Sl.fl .nil).length : Nat) : Int) = (k : Int) := by rw [Sl.fl]; simp
    rw [e0]
    rcases hr with rfl | ⟨q, rfl⟩
    · have hk : l.length ≤ k := List.drop_eq_nil_iff.1 hd
      rw [dlE, dlR, tkA_out (by omega)]
      exact ⟨rfl, rfl⟩
    · rw [dlE, dlR, tkA_of hd]
      exact ⟨if_pos rfl, if_pos rfl⟩
  | .cons s t, d, k, r, 0, hw, hd, hr, hn => by omega
  | .cons s t, d, k, r, n + 1, hw, hd, hr, hn => by
    rw [Sl.wf] at hw
    rw [Sl.fl, List.length_append] at hn
    have hd1 : l.drop k = s.fl ++ (t.fl ++ r) := by rw [hd, Sl.fl, List.append_assoc]
    obtain ⟨h1, h2⟩ := Sm.det l s d k _ hw.1 hd1
    obtain ⟨c, q, hq, hc⟩ := s.head
    have hp := s.pos
    obtain ⟨h3, h4⟩ := Sl.det l t d (k + s.fl.length) r n hw.2 (drop_more hd1) hr (by omega)
    have ht : tkA l (k : Int) = some c := tkA_of (by rw [hd1, hq]; rfl)
    rw [dlE, dlR, ht]
    dsimp only
    rw [if_neg hc, if_neg hc, h1, h2, h3, h4, Sl.fl, Sl.rd, List.length_append]
    exact ⟨by omega, rfl⟩
end
end Go.Proofs.YtoiphglfngkoiaaGreatDoor.Cl
namespace Go.Proofs.YtoiphglfngkoiaaGreatDoor.Ra
set_option linter.unusedVariables false
open Go.RowKit
structure Kept (F : Nat → Prop) (g : Option Nat) (w w' : World) : Prop where
  os : w'.os = w.os
  tape : w'.tape = w.tape
  output : w'.output = w.output
  size : w.heap.size ≤ w'.heap.size
  block : ∀ k, k < w.heap.size → ¬ F k → g ≠ some k → w'.heap[k]? = w.heap[k]?
  other : ∀ (k : Nat) (o : Obj), w.heap[k]? = some o → o.isCells = false → ¬ F k → w'.heap[k]? = some o
theorem Kept.refl (F : Nat → Prop) (g : Option Nat) (w : World) : Kept F g w w := ⟨rfl, rfl, rfl, Nat.le_refl _, fun _ _ _ _ => rfl, fun _ _ h _ _ => h⟩
theorem Kept.trans {F : Nat → Prop} {g : Option Nat} {x y z : World} (h : Kept F g x y) (k : Kept F g y z) : Kept F g x z :=
  ⟨k.os.trans h.os, k.tape.trans h.tape, k.output.trans h.output, Nat.le_trans h.size k.size, fun i hi hf hg => (k.block i (Nat.lt_of_lt_of_le hi h.size) hf hg).trans (h.block i hi hf hg), fun i o hi ho hf => k.other i o (h.other i o hi ho hf) ho hf⟩
theorem Kept.wider {F G : Nat → Prop} {g : Option Nat} {x y : World} (h : Kept F g x y) (hF : ∀ k, F k → G k) : Kept G g x y := ⟨h.os, h.tape, h.output, h.size, fun i hi hf hg => h.block i hi (fun e => hf (hF i e)) hg, fun i o hi ho hf => h.other i o hi ho (fun e => hf (hF i e))⟩
theorem Kept.of_below {F : Nat → Prop} {g : Option Nat} {x y : World} (h : Below x.heap.size x y) : Kept F g x y := ⟨h.os, h.tape, h.output, h.size, fun i hi _ _ => h.block i hi, fun i o hi _ _ => (h.block i (Array.getElem?_eq_some_iff.1 hi).1).trans hi⟩
theorem Kept.of_grown {F : Nat → Prop} {g : Option Nat} {x y : World} {row : Option Nat} (h : x.grownBy y row) (hr : ∀ k, row = some k → F k ∨ (g = some k ∧ ∀ o, x.heap[k]? = some o → o.isCells = true)) : Kept F g x y :=
  ⟨h.os, h.tape, h.output, h.size, fun i hi hf hg => h.block i hi (fun e => (hr i e.symm).elim hf (fun q => hg q.1)), fun i o hi ho hf => (h.block i (Array.getElem?_eq_some_iff.1 hi).1 (fun e => (hr i e.symm).elim hf (fun q => by rw [q.2 o hi] at ho; cases ho))).trans hi⟩
theorem Kept.keeps {F : Nat → Prop} {g : Option Nat} {x y : World} {B : Nat} (h : Kept F g x y) (hF : ∀ k, F k → k < B) : KeepsFrom B x y := ⟨h.size, fun k o hk ho hc => h.other k o ho hc (fun e => by have := hF k e; omega)⟩
theorem Kept.below {F : Nat → Prop} {g : Option Nat} {x y : World} {B : Nat} (h : Kept F g x y) (hB : B ≤ x.heap.size) (hF : ∀ k, F k → B ≤ k) (hg : ∀ k, g = some k → B ≤ k) : Below B x y :=
  ⟨h.os, h.tape, h.output, h.size, fun i hi => h.block i (by omega) (fun e => by have := hF i e; omega) (fun e => by have := hg i e; omega)⟩
theorem Kept.set {F : Nat → Prop} {g : Option Nat} {w : World} {p : Addr} (h : F p.block) (v : Value) : Kept F g w (w.setCell p v) :=
  ⟨rfl, rfl, rfl, by rw [World.size_setCell]; exact Nat.le_refl _, fun k _ hf _ => Below.heap_setCell _ _ _ k (fun e => hf (by rw [e]; exact h)), fun k o hk _ hf => (Below.heap_setCell _ _ _ k (fun e => hf (by rw [e]; exact h))).trans hk⟩
def Newer (n m : Nat) (g g' : Option Nat) : Prop := g' = g ∨ ∃ k, g' = some k ∧ n ≤ k ∧ k < m
def Hands (P : Program) (f : Nat) (lb : Array Value) (F : Nat → Prop) (xs : List Value) (w : World) : Prop :=
  ∀ (l : Nat) (J : List Value × Option Nat → World → Prop) (Jx : List Value → World → Prop) (W : World), Below w.heap.size w W → w.heap.size ≤ l → l < W.heap.size → (∀ k, F k → k < l) → OwnFrom W.heap.size J → OwnFrom W.heap.size Jx →
    (∀ pre x, (pre ++ [x]) <+: xs → ∀ g W1 m, J (pre, g) W1 → YieldAt Fence.wide m P l #[x] W1 fun e W' =>
      (e = .returned (.bool true) ∧ ∃ g', J (pre ++ [x], g') W' ∧ Newer W1.heap.size W'.heap.size g g' ∧ Kept (fun k => F k ∨ k = l) g W1 W') ∨ (e = .returned (.bool false) ∧ Jx (pre ++ [x]) W' ∧ KeepsFrom (l + 1) W1 W')) →
    J ([], none) W → ∀ n, CallsIn Fence.wide n P f (#[.func (.yield l) #[] #[]] ++ lb) W fun e W' => (∃ v, e = .returned v) ∧ ((∃ g, J (xs, g) W') ∨ ∃ pre, pre <+: xs ∧ Jx pre W')
theorem Hands.later {P : Program} {f : Nat} {lb : Array Value} {F : Nat → Prop} {xs : List Value} {w w' : World} (h : Hands P f lb F xs w) (hb : Below w.heap.size w w') : Hands P f lb F xs w' :=
  fun l J Jx W hW hl => h l J Jx W (hb.trans (hW.mono hb.size)) (Nat.le_trans hb.size hl)
theorem OwnFrom.wider {β : Type} {B C : Nat} {I : β → World → Prop} (h : OwnFrom B I) (hBC : B ≤ C) : OwnFrom C I :=
  fun s W W' row hs hg hr => h s W W' row hs hg fun r e => ⟨Nat.le_trans hBC (hr r e).1, (hr r e).2⟩
theorem KeepsFrom.wider {B C : Nat} {W W' : World} (h : KeepsFrom B W W') (hBC : B ≤ C) : KeepsFrom C W W' := ⟨h.size, fun k o hk => h.same k o (Nat.le_trans hBC hk)⟩
theorem Below.keeps {B : Nat} {W W' : World} (h : Below W.heap.size W W') : KeepsFrom B W W' := ⟨h.size, fun k o _ hk _ => (h.block k (Array.getElem?_eq_some_iff.1 hk).1).trans hk⟩
def Two (D : Nat) (r : Loop) (W : World) : Prop := W.heap[D + 1]? = some (.loop r) ∧ W.heap[D]? = some (.deferred (some []))
theorem Two.put {D : Nat} {r : Loop} {W : World} (h : Two D r W) (r' : Loop) : Two D r' (W.putObj (D + 1) (.loop r')) :=
  ⟨World.putObj_heap_same (Array.getElem?_eq_some_iff.1 h.1).1, (World.putObj_heap_other (by omega)).trans h.2⟩
theorem Two.own (D : Nat) (r : Loop) {B : Nat} (hB : D + 2 ≤ B) {β : Type} : OwnFrom B (fun (_ : β) W => Two D r W) := fun _ W W' row hs hg hr => by
  have key : ∀ k o, k < B → W.heap[k]? = some o → W'.heap[k]? = some o := fun k o hk ho =>
    (hg.block k (Array.getElem?_eq_some_iff.1 ho).1 (fun e => by have := (hr k e.symm).1; omega)).trans ho
  exact ⟨key _ _ (by omega) hs.1, key _ _ (by omega) hs.2⟩
theorem Two.keeps {D B : Nat} {r : Loop} {W W' : World} (h : Two D r W) (hk : KeepsFrom B W W') (hB : B ≤ D) : Two D r W' := ⟨hk.same _ _ (by omega) h.1 rfl, hk.same _ _ hB h.2 rfl⟩
theorem put_kept {F : Nat → Prop} {g : Option Nat} {l : Nat} {W : World} {o : Obj} (h : F l) : Kept F g W (W.putObj l o) :=
  ⟨rfl, rfl, rfl, by simp, fun k _ hf _ => World.putObj_heap_other (fun e => hf (by rw [e]; exact h)), fun k o hk _ hf => (World.putObj_heap_other (fun e => hf (by rw [e]; exact h))).trans hk⟩
theorem put_below {n₀ l : Nat} {W : World} {o : Obj} (h : n₀ ≤ l) (hn : n₀ ≤ W.heap.size) : Below n₀ W (W.putObj l o) :=
  (Below.refl n₀ W).grown (grownBy_putObj' W l o) hn (fun k e => by cases e; exact h)
theorem put_keeps {B l : Nat} {W : World} {o : Obj} (h : l < B) : KeepsFrom B W (W.putObj l o) := ⟨by simp, fun k o' hk ho _ => (World.putObj_heap_other (by omega)).trans ho⟩
theorem put_keeps' {l : Nat} {W W2 : World} {o : Obj} (h : W.putObj l o = W2) : KeepsFrom (l + 1) W W2 := by rw [← h]; exact put_keeps (by omega)
end Go.Proofs.YtoiphglfngkoiaaGreatDoor.Ra
namespace Go.Proofs.YtoiphglfngkoiaaGreatDoor.Ra
set_option linter.unusedVariables false
open Go.RowKit Go.Shelf
attribute [local go_sem] Oper.semAt_some
structure Hd where
  a : Option Addr
  n : Nat
  c : Nat
def Hd.val (h : Hd) : Value := .slice h.a h.n h.c
def Hds (n₀ : Nat) (w : World) (a : Option Addr) (hs : List Hd) : Prop := ∀ (j : Nat) (h : Hd), hs[j]? = some h → ∃ g o, a = some ⟨g, o, none⟩ ∧ g < n₀ ∧ w.cell? ⟨g, o + j, none⟩ = some (.slice h.a h.n h.c)
theorem Hds.below {n₀ : Nat} {w w' : World} {a : Option Addr} {hs : List Hd} (h : Hds n₀ w a hs) (hb : Below n₀ w w') : Hds n₀ w' a hs := fun j x hx => by
  obtain ⟨g, o, e, hg, hc⟩ := h j x hx
  exact ⟨g, o, e, hg, (hb.cell (p := ⟨g, o + j, none⟩) hg).trans hc⟩
theorem pre_len {hs : List Hd} {pre : List Value} (h : pre <+: hs.map Hd.val) : pre.length ≤ hs.length := by have := h.length_le; simpa using this
end Go.Proofs.YtoiphglfngkoiaaGreatDoor.Ra
namespace Go.Proofs.YtoiphglfngkoiaaGreatDoor.Ra
set_option linter.unusedVariables false
open Go.RowKit Go.Shelf
attribute [local go_sem] Oper.semAt_some
theorem cell_block {w w' : World} {q o : Nat} {v : Value} (e : w'.heap[q]? = w.heap[q]?) (h : w.cell? ⟨q, o, none⟩ = some v) : w'.cell? ⟨q, o, none⟩ = some v := (World.cell?_of_block (w := w) e).trans h
theorem cell_lt {w : World} {p : Addr} {v : Value} (h : w.cell? p = some v) : p.block < w.heap.size := by
  unfold World.cell? at h
  cases ho : w.heap[p.block]? with
  | none => simp [ho] at h
  | some o => exact (Array.getElem?_eq_some_iff.1 ho).1
def Mine (Y B : Nat) (l n c sn sc : Nat) (a sa : Option Addr) (hs : List Hd) (n₀ : Nat) (W : World) : Prop :=
  W.cell? ⟨Y, 0, none⟩ = some (.func (.yield l) #[] #[]) ∧ W.cell? ⟨B, 0, none⟩ = some (.slice a n c) ∧ W.cell? ⟨B, 1, none⟩ = some (.slice sa sn sc) ∧ Hds n₀ W sa hs
theorem Mine.kept {Y B l n c sn sc n₀ : Nat} {a sa : Option Addr} {hs : List Hd} {W W' : World} {F : Nat → Prop} {g : Option Nat} (h : Mine Y B l n c sn sc a sa hs n₀ W) (hk : Kept F g W W') (hY : ¬ F Y) (hB : ¬ F B) (hS : ∀ g o, sa = some ⟨g, o, none⟩ → hs ≠ [] → ¬ F g) (gY : g ≠ some Y) (gB : g ≠ some B) (gS : ∀ q, g = some q → n₀ ≤ q) : Mine Y B l n c sn sc a sa hs n₀ W' := by
  obtain ⟨h1, h2, h3, h4⟩ := h
  refine ⟨cell_block (hk.block Y (cell_lt h1) hY gY) h1, cell_block (hk.block B (cell_lt h2) hB gB) h2, cell_block (hk.block B (cell_lt h2) hB gB) h3, fun j x hx => ?_⟩
  obtain ⟨q, o, e, hq, hc⟩ := h4 j x hx
  exact ⟨q, o, e, hq, cell_block (hk.block q (cell_lt hc) (hS q o e (fun e => by rw [e] at hx; simp at hx)) (fun e => by have := gS q e; omega)) hc⟩
theorem Mine.below {Y B l n c sn sc n₀ m : Nat} {a sa : Option Addr} {hs : List Hd} {W W' : World} (h : Mine Y B l n c sn sc a sa hs n₀ W) (hb : Below m W W') (hY : Y < m) (hB : B < m) (hn : n₀ ≤ m) : Mine Y B l n c sn sc a sa hs n₀ W' := by
  obtain ⟨h1, h2, h3, h4⟩ := h
  refine ⟨cell_block (hb.block Y hY) h1, cell_block (hb.block B hB) h2, cell_block (hb.block B hB) h3, fun j x hx => ?_⟩
  obtain ⟨q, o, e, hq, hc⟩ := h4 j x hx
  exact ⟨q, o, e, hq, cell_block (hb.block q (by omega)) hc⟩
end Go.Proofs.YtoiphglfngkoiaaGreatDoor.Ra
namespace Go.Proofs.YtoiphglfngkoiaaGreatDoor.Ra
set_option linter.unusedVariables false
open Go.RowKit
def Hands2 (P : Program) (f : Nat) (lb : Array Value) (F : Nat → Prop) (xs : List (Array Value)) (w : World) : Prop :=
  ∀ (l : Nat) (J : List (Array Value) × Option Nat → World → Prop) (Jx : List (Array Value) → World → Prop) (W : World), Below w.heap.size w W → w.heap.size ≤ l → l < W.heap.size → (∀ k, F k → k < l) → OwnFrom W.heap.size J → OwnFrom W.heap.size Jx →
    (∀ pre x, (pre ++ [x]) <+: xs → ∀ g W1 m, J (pre, g) W1 → YieldAt Fence.wide m P l x W1 fun e W' =>
      (e = .returned (.bool true) ∧ ∃ g', J (pre ++ [x], g') W' ∧ Newer W1.heap.size W'.heap.size g g' ∧ Kept (fun k => F k ∨ k = l) g W1 W') ∨ (e = .returned (.bool false) ∧ Jx (pre ++ [x]) W' ∧ KeepsFrom (l + 1) W1 W')) →
    J ([], none) W → ∀ n, CallsIn Fence.wide n P f (#[.func (.yield l) #[] #[]] ++ lb) W fun e W' => (∃ v, e = .returned v) ∧ ((∃ g, J (xs, g) W') ∨ ∃ pre, pre <+: xs ∧ Jx pre W')
theorem Hands2.later {P : Program} {f : Nat} {lb : Array Value} {F : Nat → Prop} {xs : List (Array Value)} {w w' : World} (h : Hands2 P f lb F xs w) (hb : Below w.heap.size w w') : Hands2 P f lb F xs w' :=
  fun l J Jx W hW hl => h l J Jx W (hb.trans (hW.mono hb.size)) (Nat.le_trans hb.size hl)
def Rounds2 (B : Nat) (F : Nat → Prop) (I : List (Array Value) × Option Nat → World → Prop) (Ix : Code → List (Array Value) → World → Prop) (xs : List (Array Value)) (g : Option Nat) (W : World) : Exit → Act → World → Prop
  | .normal, _, W' => KeepsFrom B W W' ∧ Kept F g W W' ∧ ∃ g', Newer W.heap.size W'.heap.size g g' ∧ I (xs, g') W'
  | .ret, _, W' => KeepsFrom B W W' ∧ Ix .ret xs W'
  | .exit id, _, W' => KeepsFrom B W W' ∧ Ix (.exit id) xs W'
  | .goto t, _, W' => KeepsFrom B W W' ∧ Ix (.goto t) xs W'
  | .panic _, _, _ => False
  | .outgrown, _, _ => False
theorem loop_hands2 {P : Program} {n : Nat} {g : Operand} {ps : Array Tmp} {assign body : Code} {Q : Exit → Act → World → Prop} {a : Act} {w : World}
    {gf : Nat} {lb : Array Value} (hg : a.eval g = .func (.func gf) #[] lb) (eg : ∀ args w, (callFunc gf args).run P w = .ok (.enter gf args) w)
    {F : Nat → Prop} {xs : List (Array Value)} {w0 : World} (hseq : Hands2 P gf lb F xs w0) (hb0 : Below w0.heap.size w0 w) (hF : ∀ k, F k → k < w.heap.size) (hps : ∀ x ∈ xs, ps.size = x.size)
    (I : List (Array Value) × Option Nat → World → Prop) (Ix : Code → List (Array Value) → World → Prop) (hI : OwnFrom w.heap.size I) (hIx : ∀ c, OwnFrom w.heap.size (Ix c)) (h0 : I ([], none) w) (a₁ : Array Value → Act)
    (hassign : ∀ (l m : Nat) (x : Array Value), x ∈ xs → ∀ (W : World) (K : Act → World → Prop), K (a₁ x) W →
      assign.wpIn (Fence.wide.inRound l) m P (Exit.then K (fun _ _ _ => False)) { tmps := (ps.zip x).foldl (fun t (p, v) => t.setIfInBounds p v) a.tmps, defers := [] } W)
    (hbody : ∀ (l m : Nat) (pre : List (Array Value)) (x : Array Value) (g : Option Nat) (W : World), (pre ++ [x]) <+: xs → w.heap.size ≤ W.heap.size → I (pre, g) W → body.wpIn (Fence.wide.inRound l) m P (Rounds2 w.heap.size F I Ix (pre ++ [x]) g W) (a₁ x) W)
    (hdone : ∀ (D : Nat) (g : Option Nat) (W : World), w.heap.size ≤ D → I (xs, g) W → W.heap[D]? = some (.deferred (some [])) → Q .normal { a with defers := { target := .collected D, args := #[] } :: a.defers } W)
    (hstop : ∀ (D : Nat) (c : Code) (pre : List (Array Value)) (W : World), w.heap.size ≤ D → pre <+: xs → Ix c pre W → W.heap[D]? = some (.deferred (some [])) → c.wpIn Fence.wide n P Q { a with defers := { target := .collected D, args := #[] } :: a.defers } W) :
    (Code.rangeFunc g ps assign body).wpIn Fence.wide n P Q a w := by
  refine wpIn_rangeFunc fun fn _ => ?_
  generalize hD : w.heap.size = D at *
  have hrc : ∃ rc : LoopState → Option Code → Loop, rc = fun st pe => { state := st, pending := pe, fn, tmps := a.tmps, params := ps, assign, body, defers := D } := ⟨_, rfl⟩
  obtain ⟨rc, hrc⟩ := hrc
  have hent := run_enterLoop_outer (P := P) (w := w) fn a.tmps ps assign body
  rw [hD] at hent
  have hW1 : ∃ W1, W1 = (w.alloc (.deferred (some []))).alloc (.loop (rc .ready none)) := ⟨_, rfl⟩
  obtain ⟨W1, hW1⟩ := hW1
  have s1 : W1.heap.size = D + 2 := by rw [hW1]; simp [hD]
  have t1 : Two D (rc .ready none) W1 := by
    have e2 := World.alloc_heap_new (w.alloc (.deferred (some []))) (.loop (rc .ready none))
    have e1 := World.alloc_heap_new w (.deferred (some []))
    rw [World.size_alloc, hD] at e2
    rw [hD] at e1
    rw [hW1]
    exact ⟨e2, (Below.heap_alloc _ _ D (by simp [hD])).trans e1⟩
  have i1 : I ([], none) W1 := by rw [hW1]; exact hI.alloc _ (hI.alloc _ h0)
  have b1 : Below w0.heap.size w0 W1 := by
    have := hb0.size
    rw [hW1]; exact hb0.trans ((((Below.refl _ w).alloc (Nat.le_refl _) _).alloc (by simp) _).mono this)
  have hend := fun (st : LoopState) (pe : Option Code) (h : (rc st pe).state ≠ .busy) (W : World) (t : Two D (rc st pe) W) => run_endLoop (P := P) t.1 h
  refine ⟨D + 1, [{ target := .collected D, args := #[] }], W1, { target := .fn (.func gf) lb, args := #[.func (.yield (D + 1)) #[] #[]] }, W1, gf, #[.func (.yield (D + 1)) #[] #[]] ++ lb, W1, ?_, ?_, fun _ _ => trivial, ?_, fun h => (by cases h), ?_⟩
  · rw [hW1, hrc]; exact hent
  · simp only [resolve, hg]; simp [go_sem]
  · simp [invoke, go_sem, eg]
  refine (hseq (D + 1) (fun s W => I s W ∧ Two D (rc .ready none) W) (fun pre W => ∃ c, Ix c pre W ∧ Two D (rc .done (some c)) W) W1 b1 (by have := hb0.size; omega) (by omega) (fun k hk => by have := hF k hk; omega) ?_ ?_ ?_ ⟨i1, t1⟩ (n - 1)).mono ?_
  · exact OwnFrom.and (OwnFrom.wider hI (by omega)) (Two.own D _ (by omega))
  · rintro pre W W' row ⟨c, hc, ht⟩ hgr hr
    exact ⟨c, OwnFrom.wider (hIx c) (by omega) pre W W' row hc hgr hr, Two.own D _ (Nat.le_of_eq s1.symm) pre W W' row ht hgr hr⟩
  · rintro pre x hx gg W m ⟨hi, ht⟩
    have hlt : D + 1 < W.heap.size := (Array.getElem?_eq_some_iff.1 ht.1).1
    have hy := run_yield (P := P) (args := x) ht.1 (by rw [hrc]; exact (hps x (hx.subset (by simp))).symm)
    have hbe := run_beginRound (P := P) ht.1 (by rw [hrc])
    have t2 := ht.put { rc .ready none with state := .busy }
    have i2 : I (pre, gg) (W.putObj (D + 1) (.loop { rc .ready none with state := .busy })) := hI.putObj _ hi (by omega) ht.1 rfl
    have k2 : Kept (fun k => F k ∨ k = D + 1) gg W (W.putObj (D + 1) (.loop { rc .ready none with state := .busy })) := put_kept (Or.inr rfl)
    have z2 : (W.putObj (D + 1) (.loop { rc .ready none with state := .busy })).heap.size = W.heap.size := by simp
    rw [hrc] at hy
    refine ⟨fn, _, assign, body, hy, roundIn_of_wpIn trivial (hassign (D + 1) m x (hx.subset (by simp)) W _ ⟨_, hbe, ?_⟩)⟩
    generalize hW2 : W.putObj (D + 1) (.loop { rc .ready none with state := .busy }) = W2 at t2 i2 k2 z2 ⊢
    have l2 : D + 1 < W2.heap.size := (Array.getElem?_eq_some_iff.1 t2.1).1
    refine wpIn_mono (hbody (D + 1) m pre x gg W2 hx (by omega) i2) ?_
    have out : ∀ (c : Code) (W3 : World), KeepsFrom D W2 W3 → Ix c (pre ++ [x]) W3 → ∃ v w', (Instr.endRound (D + 1) (some c)).run P W3 = .ok v w' ∧ ((Ending.returned v = .returned (.bool true) ∧ ∃ g', (I (pre ++ [x], g') w' ∧ Two D (rc .ready none) w') ∧ Newer W.heap.size w'.heap.size gg g' ∧ Kept (fun k => F k ∨ k = D + 1) gg W w') ∨ (Ending.returned v = .returned (.bool false) ∧ (∃ c, Ix c (pre ++ [x]) w' ∧ Two D (rc .done (some c)) w') ∧ KeepsFrom (D + 1 + 1) W w')) := fun c W3 hk hix => by
      have t3 := t2.keeps hk (Nat.le_refl _)
      refine ⟨_, _, run_endRound (P := P) (some c) t3.1, .inr ⟨rfl, ⟨c, (hIx c).putObj _ hix (by omega) t3.1 rfl, ?_⟩, ((put_keeps' hW2).trans (KeepsFrom.wider hk (by omega))).trans (put_keeps (by omega))⟩⟩
      have := t3.put (rc .done (some c))
      rw [hrc] at this ⊢; exact this
    rintro e a3 W3 hp
    cases e with
    | normal =>
      obtain ⟨hk, hb, g', hn', hi3⟩ := hp
      have t3 := t2.keeps hk (Nat.le_refl _)
      have l3 : D + 1 < W3.heap.size := (Array.getElem?_eq_some_iff.1 t3.1).1
      refine ⟨_, _, run_endRound (P := P) none t3.1, .inl ⟨rfl, g', ⟨hI.putObj _ hi3 (by omega) t3.1 rfl, ?_⟩, by rw [← z2, World.putObj_size]; exact hn', (k2.trans (hb.wider fun _ h => Or.inl h)).trans (put_kept (Or.inr rfl))⟩⟩
      have := t3.put (rc .ready none)
      rw [hrc] at this ⊢; exact this
    | ret => exact out _ W3 hp.1 hp.2
    | exit id => exact out _ W3 hp.1 hp.2
    | goto t => exact out _ W3 hp.1 hp.2
    | panic ch => exact hp.elim
    | outgrown => exact hp.elim
  · rintro e W2 ⟨⟨v, rfl⟩, ⟨gg, hi, ht⟩ | ⟨pre, hpre, c, hi, ht⟩⟩
    · refine ⟨none, W2.putObj (D + 1) (.loop { rc .ready none with state := .exhausted }), ?_, hdone D gg _ (Nat.le_refl _) (hI.putObj _ hi (by omega) ht.1 rfl) ((World.putObj_heap_other (by omega)).trans ht.2)⟩
      have := hend .ready none (by rw [hrc]; simp) W2 ht
      rw [hrc] at this ⊢; exact this
    · refine ⟨some c, W2.putObj (D + 1) (.loop { rc .done (some c) with state := .exhausted }), ?_, hstop D c pre _ (Nat.le_refl _) hpre ((hIx c).putObj _ hi (by omega) ht.1 rfl) ((World.putObj_heap_other (by omega)).trans ht.2)⟩
      have := hend .done (some c) (by rw [hrc]; simp) W2 ht
      rw [hrc] at this ⊢; exact this
theorem loop_hands22 (p1 p2 d : Nat) {P : Program} {n : Nat} {g : Operand} {assign body : Code} {Q : Exit → Act → World → Prop} {a : Act} {w : World}
    {gf : Nat} {lb : Array Value} (hg : a.eval g = .func (.func gf) #[] lb) (eg : ∀ args w, (callFunc gf args).run P w = .ok (.enter gf args) w)
    {F : Nat → Prop} {xs : List (Array Value)} {w0 : World} (hx2 : ∀ x ∈ xs, ∃ y z, x = #[y, z]) (hseq : Hands2 P gf lb F xs w0) (hb0 : Below w0.heap.size w0 w) (hF : ∀ k, F k → k < w.heap.size)
    (I : List (Array Value) × Option Nat → World → Prop) (Ix : Code → List (Array Value) → World → Prop) (hI : OwnFrom w.heap.size I) (hIx : ∀ c, OwnFrom w.heap.size (Ix c)) (h0 : I ([], none) w)
    (hassign : ∀ (l m : Nat) (x y : Value) (W : World) (K : Act → World → Prop), K { tmps := (((a.tmps.setIfInBounds p1 x).setIfInBounds p2 y)).setIfInBounds d y, defers := [] } W →
      assign.wpIn (Fence.wide.inRound l) m P (Exit.then K (fun _ _ _ => False)) { tmps := (a.tmps.setIfInBounds p1 x).setIfInBounds p2 y, defers := [] } W)
    (hbody : ∀ (l m : Nat) (pre : List (Array Value)) (x y : Value) (g : Option Nat) (W : World), (pre ++ [#[x, y]]) <+: xs → w.heap.size ≤ W.heap.size → I (pre, g) W → body.wpIn (Fence.wide.inRound l) m P (Rounds2 w.heap.size F I Ix (pre ++ [#[x, y]]) g W) { tmps := ((a.tmps.setIfInBounds p1 x).setIfInBounds p2 y).setIfInBounds d y, defers := [] } W)
    (hdone : ∀ (D : Nat) (g : Option Nat) (W : World), w.heap.size ≤ D → I (xs, g) W → W.heap[D]? = some (.deferred (some [])) → Q .normal { a with defers := { target := .collected D, args := #[] } :: a.defers } W)
    (hstop : ∀ (D : Nat) (c : Code) (pre : List (Array Value)) (W : World), w.heap.size ≤ D → pre <+: xs → Ix c pre W → W.heap[D]? = some (.deferred (some [])) → c.wpIn Fence.wide n P Q { a with defers := { target := .collected D, args := #[] } :: a.defers } W) :
    (Code.rangeFunc g #[p1, p2] assign body).wpIn Fence.wide n P Q a w := by
  refine loop_hands2 hg eg hseq hb0 hF (fun x hx => by obtain ⟨y, z, rfl⟩ := hx2 x hx; rfl) I Ix hI hIx h0 (fun x => { tmps := ((a.tmps.setIfInBounds p1 (x.getD 0 undef)).setIfInBounds p2 (x.getD 1 undef)).setIfInBounds d (x.getD 1 undef), defers := [] }) ?_ ?_ hdone hstop
  · intro l m x hx W K hK
    obtain ⟨y, z, rfl⟩ := hx2 x hx
    have := hassign l m y z W K hK
    simpa using this
  · intro l m pre x g W hx hw hi
    obtain ⟨y, z, rfl⟩ := hx2 x (hx.subset (by simp))
    exact hbody l m pre y z g W hx hw hi
end Go.Proofs.YtoiphglfngkoiaaGreatDoor.Ra
namespace Go.Proofs.YtoiphglfngkoiaaGreatDoor.Cl
set_option linter.unusedVariables false
open Go.RowKit Wd Rp Kp Ra Go.Shelf
attribute [local go_sem] Oper.semAt_some
def bkI (l : List Tk) (j : Nat) : Array Value := #[.int .i64 ((l.length - 1 - j : Nat) : Int), tv (l.getD (l.length - 1 - j) [])]
def bkL (l : List Tk) : List (Array Value) := (List.range l.length).map (bkI l)
theorem bkL_len (l : List Tk) : (bkL l).length = l.length := by unfold bkL; rw [List.length_map, List.length_range]
theorem bkL_get {l : List Tk} {k : Nat} (h : k < l.length) : (bkL l)[k]? = some (bkI l k) := by unfold bkL; rw [List.getElem?_map, List.getElem?_range h]; rfl
theorem bkL_two (l : List Tk) : ∀ x ∈ bkL l, ∃ y z, x = #[y, z] := fun x hx => by
  unfold bkL at hx
  rw [List.mem_map] at hx
  obtain ⟨k, -, rfl⟩ := hx
  exact ⟨_, _, rfl⟩
theorem pre_bk {l : List Tk} {pre : List (Array Value)} {x : Array Value} (h : (pre ++ [x]) <+: bkL l) : pre.length < l.length ∧ x = bkI l pre.length := by
  obtain ⟨r, hr⟩ := h
  have h1 : (bkL l)[pre.length]? = some x := by rw [← hr]; simp
  have h2 := (List.getElem?_eq_some_iff.1 h1).1
  rw [bkL_len] at h2
  rw [bkL_get h2] at h1
  exact ⟨h2, (Option.some.inj h1).symm⟩
theorem next_bk {xs : List (Array Value)} {k : Nat} {x : Array Value} (h : xs[k]? = some x) : xs.take (k + 1) = xs.take k ++ [x] := by
  rw [List.take_succ_eq_append_getElem (List.getElem?_eq_some_iff.1 h).1, (List.getElem?_eq_some_iff.1 h).2]
set_option maxRecDepth 100000 in
set_option maxHeartbeats 2000000 in
theorem backward1_hands (F : Nat → Prop) (n₀ B : Nat) (a : Option Addr) (cap N : Nat) (ts : List Tk) (hN : ts.length = N) (hlen : N ≤ 4194304) (w : World) (hB : B < w.heap.size) (hn : n₀ ≤ w.heap.size)
    (hbox : w.cell? ⟨B, 0, none⟩ = some (.slice a N cap)) (hx : ∀ k c, ts[k]? = some c → ∃ g o, a = some ⟨g, o, none⟩ ∧ g < n₀ ∧ w.cell? ⟨g, o + k, none⟩ = some (.string (tx c))) (hF : ∀ g o, a = some ⟨g, o, none⟩ → ts ≠ [] → ¬ F g) (hFB : ¬ F B) (hB0 : B < n₀) :
    Hands2 Tryz.prog 69 #[.pointer (some ⟨B, 0, none⟩)] F (bkL ts) w := by
  intro l J Jx W hW hl0 hl hFk hJ hJx hY h0 n
  clear hFk
  have hc0 := Lib.hid ((hW.cell (p := ⟨B, 0, none⟩) hB).trans hbox)
  have hx0 := Lib.hid (show ∀ k c, ts[k]? = some c → ∃ g o, a = some ⟨g, o, none⟩ ∧ g < n₀ ∧ W.cell? ⟨g, o + k, none⟩ = some (.string (tx c)) from fun k c hk => by
    obtain ⟨g, o, e, hg, hc⟩ := hx k c hk
    exact ⟨g, o, e, hg, (hW.cell (p := ⟨g, o + k, none⟩) (Nat.lt_of_lt_of_le hg hn)).trans hc⟩); clear hx hbox
  have hws := hW.size
  clear hW
  have HY := Lib.hid hY; clear hY
  have HF := Lib.hid (And.intro hF hFB); clear hF hFB
  have HL := Lib.hid hN
  have hcw := hc0.out
  refine callsIn_of_wp Tryz.func69 rfl trivial ?_ rfl
  simp only [Tryz.ntmps69, List.size_toArray, List.length_cons, List.length_nil, Nat.reduceAdd, Nat.reduceSub, Array.replicate_succ, Array.replicate_zero, List.push_toArray, List.append_toArray, List.nil_append, List.cons_append]
  gi_wp2
  gi_loopw [3] (fun i wr => ∃ (k m : Nat) (gg : Option Nat), k + m = N ∧ i = .int .i64 ((m : Int) - 1) ∧ J ((bkL ts).take k, gg) wr ∧ (∀ q, gg = some q → W.heap.size ≤ q) ∧ W.heap.size ≤ wr.heap.size ∧ ∀ q, q < n₀ → ¬ F q → wr.heap[q]? = W.heap[q]?) (fun i _ => (intOf i + 1).toNat)
  case atStart => exact ⟨0, N, none, by omega, rfl, h0, (fun q e => by cases e), Nat.le_refl _, fun _ _ _ => rfl⟩
  case round =>
    obtain ⟨k, m, gg, hk, rfl, hJs, hgg, hsz, hnx⟩ := hrel
    clear hcw
    cases m with
    | succ m =>
      have hmi : ((m + 1 : Nat) : Int) - 1 = (m : Int) := by omega
      rw [hmi]
      obtain ⟨c, hc⟩ : ∃ c, ts[m]? = some c := ⟨ts[m]'(by omega), List.getElem?_eq_getElem _⟩
      have hv : (bkL ts)[k]? = some #[.int .i64 (m : Int), .string (tx c)] := by
        rw [bkL_get (by omega)]
        unfold bkI
        rw [show ts.length - 1 - k = m by omega, List.getD_eq_getElem?_getD, hc]; rfl
      obtain ⟨g, o, rfl, hg, hgc⟩ := hx0.out m c hc
      have hcx : wr.cell? ⟨g, o + m, none⟩ = some (.string (tx c)) := (World.cell?_of_block (hnx g hg (HF.out.1 g o rfl (fun e => by rw [e] at hc; simp at hc)))).trans hgc
      have hcb : wr.cell? ⟨B, 0, none⟩ = some (.slice (some ⟨g, o, none⟩) N cap) := (World.cell?_of_block (hnx B hB0 HF.out.2)).trans hc0.out
      obtain ⟨fn, tmps, assign, body, hy, hR⟩ := HY.out _ _ (by rw [← next_bk hv]; exact List.take_prefix _ _) gg wr (n - 1) hJs
      rw [← next_bk hv] at hR
      have HNX := Lib.hid hnx; clear hnx
      have HGG := Lib.hid hgg; clear hgg
      clear hgc hc hv hmi
      generalize tx c = s at *
      gi_wp2
      refine ⟨fun h => (by cases h), hR.mono ?_⟩
      rintro e W3 (⟨rfl, g', hJ3, hn3, hk3⟩ | ⟨rfl, hJx3, -⟩)
      · have K3 := Lib.hid (And.intro hn3 hk3); clear hn3 hk3
        gi_wp2
        go_roundw
        case rel =>
          refine ⟨k + 1, m, g', by omega, rfl, hJ3, fun q hq => ?_, Nat.le_trans hsz K3.out.2.size, fun q hq hf => (K3.out.2.block q (by omega) (fun e => e.elim hf (fun e => by omega)) (fun e => by have := HGG.out q e; omega)).trans (HNX.out q hq hf)⟩
          rcases K3.out.1 with e | ⟨q', e, h', -⟩
          · exact HGG.out q (by rw [← e]; exact hq)
          · rw [e] at hq; cases hq; omega
        case measure => simp [intOf]
      · gi_wp2
        refine bodyPost_ret (results_none rfl _ _ _) rfl ?_
        exact ⟨⟨_, rfl⟩, .inr ⟨_, List.take_prefix _ _, hJx3⟩⟩
    | zero =>
      obtain rfl : k = N := by omega
      rw [List.take_of_length_le (by rw [bkL_len, HL.out]; exact Nat.le_refl _)] at hJs
      have HJ := Lib.hid hJs; clear hJs hnx hgg
      gi_wp2
      go_end0
      exact ⟨⟨_, rfl⟩, .inl ⟨gg, HJ.out⟩⟩
set_option maxHeartbeats 1000000 in
theorem backward_any (a : Option Addr) (n cap : Nat) (w : World) : Calls Tryz.prog 59 #[.slice a n cap] w fun e w' =>
    e = .returned (.func (.func 69) #[] #[.pointer (some ⟨w.heap.size, 0, none⟩)]) ∧ w' = w.alloc (.cells #[.slice a n cap] 22) := by
  go_enter Tryz.func59, Tryz.ntmps59
  go_wp2
  go_ret
  exact ⟨rfl, rfl⟩
end Go.Proofs.YtoiphglfngkoiaaGreatDoor.Cl
namespace Go.Proofs.YtoiphglfngkoiaaGreatDoor.Ra
set_option linter.unusedVariables false
open Go.RowKit
theorem rowsIn_of {P : Program} {n : Nat} {row : String} {args : Array Value} {w : World} {R : Value → World → Prop} (h : Rows P row args w R) : RowsIn Fence.wide n P row args w R :=
  fun c cs _ => let ⟨v, w', r, s⟩ := h c cs; ⟨v, w', r, stepsIn_wide.2 s⟩
theorem uponIn_of {P : Program} {n l : Nat} {o : Oper} {a : Act} {K K' : Act → World → Prop} {Q : Exit → Act → World → Prop} {r : Result Next} (hK : ∀ a w, K a w → K' a w) (h : o.upon P a K Q r) : o.uponIn (Fence.wide.inRound l) n P a K' Q r := by
  cases r with
  | ok x w' =>
    cases x with
    | value v => exact hK _ _ h
    | skip => exact hK _ _ h
    | defer d => exact hK _ _ h
    | enter f args =>
      refine ⟨(fun e => by cases e), CallsIn.inRound l (callsIn_wide.2 (Calls.mono h fun e w'' he => ?_))⟩
      cases e with
      | returned v => exact hK _ _ he
      | panicked c => exact he
      | outgrown => exact he
    | row row args => exact ⟨(fun e => by cases e), rowsIn_of (Rows.mono h fun v w'' he => hK _ _ he)⟩
    | _ => exact h.elim
  | halt x w' => cases x <;> first | exact h | exact h.elim
theorem wpAnyIn_of {P : Program} {md : Region.Mode} {ops : Array Oper} {Q : Exit → Act → World → Prop} {n l : Nat} (hd : ∀ (i : Nat) (o : Oper), ops[i]? = some o → ∀ c, o.op ≠ .defer c) (hl : ∀ a w, ¬ Q .outgrown a w) :
    ∀ (fuel : Nat) (listed : Array Bool) (a : Act) (w : World), wpAny P md ops Q fuel listed a w → wpAnyIn (Fence.wide.inRound l) n P md ops Q fuel listed a w
  | 0, _, _, _, h => h
  | fuel + 1, listed, a, w, h => by
    refine ⟨h.1, fun i hi => ?_⟩
    have hk := h.2 i hi
    unfold wpOp at hk
    unfold wpOpIn
    cases ho : ops[i]? with
    | none => rw [ho] at hk; exact wpAnyIn_of hd hl fuel _ a w hk
    | some o =>
      rw [ho] at hk
      simp only at hk ⊢
      split
      · rename_i hw
        rw [if_pos hw] at hk
        rcases hk with hk | ⟨-, a', w', hq⟩
        · refine ⟨fun _ _ => trivial, ?_⟩
          have e := Oper.semAt_some l a.eval o (hd i o ho)
          rw [Fence.inRound_round, e]
          exact uponIn_of (fun a w h => wpAnyIn_of hd hl fuel _ a w h) hk
        · exact absurd hq (hl a' w')
      · rename_i hw
        rw [if_neg hw] at hk
        exact ⟨fun _ _ => trivial, wpAnyIn_of hd hl fuel _ _ w hk⟩
theorem wpIn_region_held {P : Program} {ops : Array Oper} {Q : Exit → Act → World → Prop} {S : World → Prop} {n l id : Nat} {a : Act} {w : World} (hm : P.follows .mixedOrders = true) (hd : ∀ (i : Nat) (o : Oper), ops[i]? = some o → ∀ c, o.op ≠ .defer c) (hl : ∀ a w, ¬ Q .outgrown a w)
    (hS : S w.drew) (h : S w.drew → wpAnyH P .any ops Q S ops.size (Array.replicate ops.size false) a w.drew) : (Code.region id ops true).wpIn (Fence.wide.inRound l) n P Q a w :=
  wpIn_region_any hm (wpAnyIn_of hd hl _ _ _ _ (wpAny_of_held _ _ _ _ (h hS)))
def Op.defers : Op → Bool
  | .defer _ => true
  | _ => false
theorem defers_none {ops : Array Oper} (h : ops.all (fun o => !Op.defers o.op) = true) : ∀ (i : Nat) (o : Oper), ops[i]? = some o → ∀ c, o.op ≠ .defer c := fun i o hi c e => by
  have := Array.all_eq_true'.1 h o (Array.mem_of_getElem? hi)
  rw [e] at this; cases this
end Go.Proofs.YtoiphglfngkoiaaGreatDoor.Ra
