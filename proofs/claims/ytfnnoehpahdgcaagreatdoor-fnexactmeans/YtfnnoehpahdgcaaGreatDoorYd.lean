/-
  Where an expression ends: contracts of spec.l8End, SumEnd, and of impl.operatorOf, signOf, SumEnd.
-/
import Derived.Test.YtfnnoehpahdgcaaGreatDoorYc
namespace Go.Proofs.YtfnnoehpahdgcaaGreatDoor.Cl
open Go.RowKit Wd Rp Kp
set_option linter.unusedVariables false
theorem en_step_op {l : List Tk} {k m : Nat} {c : Tk} (hc : l[k]? = some c) (h : isO c = true) : en (l.drop k) (m + 1) = (en (l.drop (k + 1)) (m + 2)).map (· + 1) := by
  rw [List.drop_eq_getElem_cons (List.getElem?_eq_some_iff.1 hc).1, (List.getElem?_eq_some_iff.1 hc).2, en_op h]
theorem en_step_leaf {l : List Tk} {k m : Nat} {c : Tk} (hc : l[k]? = some c) (h : isL c = true) : en (l.drop k) (m + 1) = (en (l.drop (k + 1)) m).map (· + 1) := by
  rw [List.drop_eq_getElem_cons (List.getElem?_eq_some_iff.1 hc).1, (List.getElem?_eq_some_iff.1 hc).2, en_leaf h]
theorem en_step_bad {l : List Tk} {k m : Nat} {c : Tk} (hc : l[k]? = some c) (h : isO c = false) (h2 : isL c = false) : en (l.drop k) (m + 1) = none := by
  rw [List.drop_eq_getElem_cons (List.getElem?_eq_some_iff.1 hc).1, (List.getElem?_eq_some_iff.1 hc).2, en_bad h h2]
/-- So far: from k on, m expressions are open at j. -/
def Opn (l : List Tk) (k j m : Nat) : Prop := k ≤ j ∧ m ≤ j - k + 1 ∧ en (l.drop k) 1 = (en (l.drop j) m).map (· + (j - k))
theorem Opn.start (l : List Tk) (k : Nat) : Opn l k k 1 := ⟨Nat.le_refl _, by omega, by simp⟩
theorem Opn.op {l : List Tk} {k j m : Nat} {c : Tk} (h : Opn l k j (m + 1)) (hc : l[j]? = some c) (ho : isO c = true) : Opn l k (j + 1) (m + 2) := by
  obtain ⟨h1, h2, h3⟩ := h
  refine ⟨by omega, by omega, ?_⟩
  rw [h3, en_step_op hc ho, Option.map_map]
  congr 1; funext x; show x + 1 + (j - k) = x + (j + 1 - k); omega
theorem Opn.leaf {l : List Tk} {k j m : Nat} {c : Tk} (h : Opn l k j (m + 1)) (hc : l[j]? = some c) (ho : isL c = true) : Opn l k (j + 1) m := by
  obtain ⟨h1, h2, h3⟩ := h
  refine ⟨by omega, by omega, ?_⟩
  rw [h3, en_step_leaf hc ho, Option.map_map]
  congr 1; funext x; show x + 1 + (j - k) = x + (j + 1 - k); omega
theorem Opn.bad {l : List Tk} {k j m : Nat} {c : Tk} (h : Opn l k j (m + 1)) (hc : l[j]? = some c) (h1 : isO c = false) (h2 : isL c = false) : edV l (k : Int) = -1 := by
  unfold edV; rw [enA_nat, h.2.2, en_step_bad hc h1 h2]; rfl
theorem Opn.out {l : List Tk} {k j m : Nat} (h : Opn l k j (m + 1)) (hj : l.length ≤ j) : edV l (k : Int) = -1 := by
  unfold edV; rw [enA_nat, h.2.2, List.drop_eq_nil_of_le hj, en_nil]; rfl
theorem Opn.done {l : List Tk} {k j : Nat} (h : Opn l k j 0) : edV l (k : Int) = (j : Int) := by
  unfold edV; rw [enA_nat, h.2.2, en_zero]
  have := h.1
  show (k : Int) + ((0 + (j - k) : Nat) : Int) = j
  omega
theorem isL_of {c : Tk} (ho : isO c = false) (h : rdB c = true ∨ gvN c ≠ 0 ∨ nmB c = true) : isL c = true := by
  unfold isO at ho; unfold isL
  have e : opN c = 0 := by simpa using ho
  rcases h with h | h | h <;> simp [e, h]
theorem isL_not {c : Tk} (h1 : rdB c = false) (h2 : gvN c = 0) (h3 : nmB c = false) : isL c = false := by unfold isL; simp [h1, h2, h3]
theorem edV_neg {l : List Tk} {i : Int} (h : i < 0) : edV l i = -1 := by unfold edV; rw [enA_neg h]
theorem isO_ne {s : Tk} (h : isO s = true) : opN s ≠ 0 := by unfold isO at h; simpa using h
theorem isL_0 {s : Tk} (h : isL s = true) : opN s = 0 := by
  have := isL_O h
  unfold isO at this; simpa using this
theorem rd_word {s : Tk} (h : rdB s = true) : isW (rdV s) = true := by
  unfold rdB at h; unfold rdV
  cases e : rd s with
  | none => rw [e] at h; cases h
  | some v => exact ((rd_iff s v).1 e).1
theorem wrap32_w {n : Int} (h : isW n = true) : wrap32 n = n := by
  obtain ⟨h1, h2⟩ := (isW_iff n).1 h
  unfold wrap32; omega
theorem tx_neL {a b : Tk} (h : ¬ a = b) : ((tx a).toList == b) = false := by rw [Lib.toList_data, tx_data, beq_eq_false_iff_ne]; exact h
theorem lib3_below {w w' : World} (h : Lib3 w) (hb : Below w.heap.size w w') : Lib3 w' := h.carry hb ⟨h.2.2.2.1, h.2.2.2.2.1, h.2.2.2.2.2⟩
set_option maxHeartbeats 4000000 in
set_option maxRecDepth 100000 in
theorem l8End_any (w : World) (a : Option Addr) (cap : Nat) (l : List Tk) (n : Nat) (i : Int) (hi : I64 i) (hn : l.length = n) (hv : V1 w a cap (txL l)) (hl : n ≤ 4194304) (hm : ∀ s ∈ l, s.length ≤ 4194304) :
    Calls Tryz.prog 59 #[.slice a n cap, .int .i64 i] w fun e w' => e = .returned (.int .i64 (edV l i)) ∧ Below w.heap.size w w' := by
  have HV := Lib.hid hv; clear hv
  have HN := Lib.hid hn; clear hn
  have HM := Lib.hid hm; clear hm
  by_cases hneg : i < 0
  · have HE := Lib.hid (edV_neg (l := l) hneg)
    go_enter Tryz.func59, Tryz.ntmps59
    go_wp2_with fail
    go_loopw [1, 5] (fun q o wr => q = .int .i64 i ∧ o = .int .i64 1 ∧ wr = w) (fun _ _ _ => 0)
    case atStart => exact ⟨rfl, rfl, rfl⟩
    case round =>
      obtain ⟨rfl, rfl, rfl⟩ := hrel
      go_wp2_with fail
      go_ret
      exact ⟨by rw [HE.out]; rfl, Below.refl _ _⟩
  obtain ⟨k, rfl⟩ : ∃ k : Nat, i = k := ⟨i.toNat, by omega⟩
  obtain ⟨hi0, hi1⟩ := hi
  go_enter Tryz.func59, Tryz.ntmps59
  go_wp2_with fail
  go_loopw [1, 5] (fun q o wr => ∃ j m : Nat, q = .int .i64 j ∧ o = .int .i64 m ∧ (j ≤ n ∨ j = k) ∧ Opn l k j m ∧ Below w.heap.size w wr) (fun q _ _ => n - intV q)
  case atStart => exact ⟨k, 1, rfl, rfl, Or.inr rfl, Opn.start l k, Below.refl _ _⟩
  case round =>
    obtain ⟨j, m, rfl, rfl, hj, hop, hbel⟩ := hrel
    have HB := Lib.hid hbel; clear hbel
    have HO := Lib.hid hop
    obtain ⟨hkj, hmj, -⟩ := hop
    have hj2 : j ≤ 9223372036854775807 := by omega
    cases m with
    | zero =>
      have HE := Lib.hid HO.out.done
      go_wp2_with fail
      go_ret
      exact ⟨by rw [HE.out]; rfl, HB.out⟩
    | succ m =>
      have p0 : (0 : Int) < ((m + 1 : Nat) : Int) := by omega
      have p1 : ¬ (j : Int) < 0 := by omega
      have p1d : decide ((j : Int) < 0) = false := by simp
      by_cases hlt : j < n
      · have p2 : ¬ (n : Int) ≤ (j : Int) := by omega
        have p2d : decide ((n : Int) ≤ (j : Int)) = false := by simpa using p2
        obtain ⟨c, hc⟩ : ∃ c, l[j]? = some c := ⟨l[j]'(by have := HN.out; omega), List.getElem?_eq_getElem _⟩
        obtain ⟨g, o, rfl, hg, g0⟩ := HV.out.tx hc
        have c0 : wr.cell? ⟨g, o + j, none⟩ = some (.string (tx c)) := (World.cell?_of_block (w := w) (HB.out.block g hg)).trans g0
        have HC := Lib.hid hc
        have hcl : c.length ≤ 4194304 := HM.out c (List.mem_of_getElem? hc)
        have HR := Lib.hid (fun w => rdS_any c w (by omega))
        have HP := Lib.hid (fun w => l8Op_any w c)
        have HG := Lib.hid (fun w => l8Given_any w c)
        have HS := Lib.hid (fun w => nmS_any c w (by omega))
        have HGL := Lib.hid (gvN_le c)
        have HPL := Lib.hid (opN_le c)
        clear hc hg g0
        by_cases ho : opN c = 0
        · have HX := Lib.hid (show isO c = false by unfold isO; simp [ho])
          rw [ho] at HP
          have HLF := Lib.hid (fun h => (HO.out.leaf HC.out (isL_of HX.out h)))
          have HBD := Lib.hid (fun h1 h2 h3 => (HO.out.bad HC.out HX.out (isL_not h1 h2 h3)))
          clear ho
          cases hr : rdB c
          · rw [hr] at HR HBD
            by_cases hgv : gvN c = 0
            · rw [hgv] at HG HBD
              cases hnm : nmB c
              · rw [hnm] at HS HBD
                have HE := Lib.hid (HBD.out rfl rfl rfl)
                clear HBD HLF HX hr hgv hnm
                generalize rdV c = rv at *
                generalize tx c = x at *
                go_wp2_with fail
                refine (HR.out _).mono ?_; rintro e w1 ⟨rfl, rfl⟩
                go_wp2_with fail
                refine (HP.out _).mono ?_; rintro e w2 ⟨rfl, b2⟩
                have B2 := Lib.hid (bel_tr HB.out b2 (Nat.le_refl _)); clear b2
                go_wp2_with fail
                refine (HG.out _).mono ?_; rintro e w3 ⟨rfl, b3⟩
                have B3 := Lib.hid (bel_tr B2.out b3 (Nat.le_refl _)); clear b3
                go_wp2_with fail
                refine (HS.out _).mono ?_; rintro e w4 ⟨rfl, rfl⟩
                go_wp2_with fail
                go_ret
                exact ⟨by rw [HE.out]; rfl, B3.out⟩
              · rw [hnm] at HS
                have HN2 := Lib.hid (HLF.out (Or.inr (Or.inr hnm)))
                clear HBD HLF HX hr hgv hnm
                generalize rdV c = rv at *
                generalize tx c = x at *
                go_wp2_with fail
                refine (HR.out _).mono ?_; rintro e w1 ⟨rfl, rfl⟩
                go_wp2_with fail
                refine (HP.out _).mono ?_; rintro e w2 ⟨rfl, b2⟩
                have B2 := Lib.hid (bel_tr HB.out b2 (Nat.le_refl _)); clear b2
                go_wp2_with fail
                refine (HG.out _).mono ?_; rintro e w3 ⟨rfl, b3⟩
                have B3 := Lib.hid (bel_tr B2.out b3 (Nat.le_refl _)); clear b3
                go_wp2_with fail
                refine (HS.out _).mono ?_; rintro e w4 ⟨rfl, rfl⟩
                go_wp2_with fail
                go_roundw
                case rel => exact ⟨j + 1, m, by go_num, by go_num, Or.inl (by omega), HN2.out, B3.out⟩
                case measure => simp [intV]; omega
            · have HN2 := Lib.hid (HLF.out (Or.inr (Or.inl hgv)))
              have p3 : (0 : Int) ≤ (gvN c : Int) - 1 := by omega
              have p3d : decide ((0 : Int) ≤ (gvN c : Int) - 1) = true := by simpa using p3
              clear HBD HLF HX hr hgv
              generalize (gvN c : Int) - 1 = y at *
              generalize rdV c = rv at *
              generalize tx c = x at *
              go_wp2_with fail
              refine (HR.out _).mono ?_; rintro e w1 ⟨rfl, rfl⟩
              go_wp2_with fail
              refine (HP.out _).mono ?_; rintro e w2 ⟨rfl, b2⟩
              have B2 := Lib.hid (bel_tr HB.out b2 (Nat.le_refl _)); clear b2
              go_wp2_with fail
              refine (HG.out _).mono ?_; rintro e w3 ⟨rfl, b3⟩
              have B3 := Lib.hid (bel_tr B2.out b3 (Nat.le_refl _)); clear b3
              go_wp2_with fail
              go_roundw
              case rel => exact ⟨j + 1, m, by go_num, by go_num, Or.inl (by omega), HN2.out, B3.out⟩
              case measure => simp [intV]; omega
          · rw [hr] at HR
            have HN2 := Lib.hid (HLF.out (Or.inl hr))
            clear HBD HLF HX hr
            generalize rdV c = rv at *
            generalize tx c = x at *
            go_wp2_with fail
            refine (HR.out _).mono ?_; rintro e w1 ⟨rfl, rfl⟩
            go_wp2_with fail
            refine (HP.out _).mono ?_; rintro e w2 ⟨rfl, b2⟩
            have B2 := Lib.hid (bel_tr HB.out b2 (Nat.le_refl _)); clear b2
            go_wp2_with fail
            go_roundw
            case rel => exact ⟨j + 1, m, by go_num, by go_num, Or.inl (by omega), HN2.out, B2.out⟩
            case measure => simp [intV]; omega
        · have HN2 := Lib.hid (HO.out.op HC.out (show isO c = true by unfold isO; simp [ho]))
          have p4 : (0 : Int) < (opN c : Int) := by omega
          have p5 : (opN c : Int) ≤ 7 := by have := HPL.out; omega
          clear HPL HGL HC ho
          generalize (opN c : Int) = y at *
          generalize rdB c = rb at *
          generalize rdV c = rv at *
          generalize tx c = x at *
          go_wp2_with fail
          refine (HR.out _).mono ?_; rintro e w1 ⟨rfl, rfl⟩
          go_wp2_with fail
          refine (HP.out _).mono ?_; rintro e w2 ⟨rfl, b2⟩
          have B2 := Lib.hid (bel_tr HB.out b2 (Nat.le_refl _)); clear b2
          go_wp2_with fail
          go_roundw
          case rel => exact ⟨j + 1, m + 2, by go_num, by go_num, Or.inl (by omega), HN2.out, B2.out⟩
          case measure => simp [intV]; omega
      · have p2 : (n : Int) ≤ (j : Int) := by omega
        have p2d : decide ((n : Int) ≤ (j : Int)) = true := by simpa using p2
        have HE := Lib.hid (HO.out.out (by have := HN.out; omega))
        go_wp2_with fail
        go_ret
        exact ⟨by rw [HE.out]; rfl, HB.out⟩
set_option maxHeartbeats 4000000 in
set_option maxRecDepth 100000 in
theorem operatorOf_any (s : Tk) (w : World) : Calls Tryz.prog 160 #[.string (tx s)] w fun e w' => e = .returned (.int .i64 (opN s)) ∧ w = w' := by
  by_cases h0 : s = [43]
  · subst h0
    show Calls Tryz.prog 160 #[.string ⟨#[43]⟩] w _
    go_enter Tryz.func160, Tryz.ntmps160
    go_wp2_with fail
    go_ret
    exact ⟨rfl, rfl⟩
  by_cases h1 : s = [45]
  · subst h1
    show Calls Tryz.prog 160 #[.string ⟨#[45]⟩] w _
    go_enter Tryz.func160, Tryz.ntmps160
    go_wp2_with fail
    go_ret
    exact ⟨rfl, rfl⟩
  by_cases h2 : s = [42]
  · subst h2
    show Calls Tryz.prog 160 #[.string ⟨#[42]⟩] w _
    go_enter Tryz.func160, Tryz.ntmps160
    go_wp2_with fail
    go_ret
    exact ⟨rfl, rfl⟩
  by_cases h3 : s = [47]
  · subst h3
    show Calls Tryz.prog 160 #[.string ⟨#[47]⟩] w _
    go_enter Tryz.func160, Tryz.ntmps160
    go_wp2_with fail
    go_ret
    exact ⟨rfl, rfl⟩
  by_cases h4 : s = [60]
  · subst h4
    show Calls Tryz.prog 160 #[.string ⟨#[60]⟩] w _
    go_enter Tryz.func160, Tryz.ntmps160
    go_wp2_with fail
    go_ret
    exact ⟨rfl, rfl⟩
  by_cases h5 : s = [61]
  · subst h5
    show Calls Tryz.prog 160 #[.string ⟨#[61]⟩] w _
    go_enter Tryz.func160, Tryz.ntmps160
    go_wp2_with fail
    go_ret
    exact ⟨rfl, rfl⟩
  by_cases h6 : s = [38]
  · subst h6
    show Calls Tryz.prog 160 #[.string ⟨#[38]⟩] w _
    go_enter Tryz.func160, Tryz.ntmps160
    go_wp2_with fail
    go_ret
    exact ⟨rfl, rfl⟩
  have q0 : ((tx s).toList == [43]) = false := tx_neL h0
  have q1 : ((tx s).toList == [45]) = false := tx_neL h1
  have q2 : ((tx s).toList == [42]) = false := tx_neL h2
  have q3 : ((tx s).toList == [47]) = false := tx_neL h3
  have q4 : ((tx s).toList == [60]) = false := tx_neL h4
  have q5 : ((tx s).toList == [61]) = false := tx_neL h5
  have q6 : ((tx s).toList == [38]) = false := tx_neL h6
  have HE := Lib.hid (show opN s = 0 by unfold opN opsL; simp only [at?]; rw [if_neg (fun e => h0 e.symm), if_neg (fun e => h1 e.symm), if_neg (fun e => h2 e.symm), if_neg (fun e => h3 e.symm), if_neg (fun e => h4 e.symm), if_neg (fun e => h5 e.symm), if_neg (fun e => h6 e.symm)]; rfl)
  clear h0 h1 h2 h3 h4 h5 h6
  generalize tx s = x at *
  go_enter Tryz.func160, Tryz.ntmps160
  go_wp2_with fail
  go_ret
  exact ⟨by rw [HE.out]; rfl, rfl⟩
def sgV (s : Tk) : Value := if gvN s ≠ 0 then .iface 158 (.int .i64 ((gvN s : Int) - 1)) else if opN s ≠ 0 then .iface 150 (.int .i64 (opN s)) else if nmB s then .iface 159 (.string (tx s)) else if rdB s then .iface 134 (.int .i32 (rdV s)) else .nilIface
theorem sgV_op {s : Tk} (h : isO s = true) : sgV s = .iface 150 (.int .i64 (opN s)) := by
  have h1 : opN s ≠ 0 := by unfold isO at h; simpa using h
  have h2 : gvN s = 0 := by
    apply Decidable.byContradiction; intro h2
    exact h1 (gv_op h2)
  unfold sgV; rw [if_neg (by omega), if_pos h1]
theorem sgV_bad {s : Tk} (h : isO s = false) (h2 : isL s = false) : sgV s = .nilIface := by
  have h1 : opN s = 0 := by unfold isO at h; simpa using h
  unfold isL at h2
  simp only [h1, beq_self_eq_true, Bool.true_and, Bool.or_eq_false_iff] at h2
  obtain ⟨h3, h4, h5⟩ := h2
  unfold sgV; rw [if_neg (by simpa using h3), if_neg (by omega), h4, h5]; rfl
/-- A leaf's sign: not nil, and no operator. -/
theorem sgV_leaf {s : Tk} (h : isL s = true) : ∃ T x, sgV s = .iface T x ∧ ∀ w, (Instr.typeAssert (.iface T x) 142 150 true).run Tryz.prog w = .ok (.tuple #[.int .i64 0, .bool false]) w := by
  unfold isL at h
  simp only [Bool.and_eq_true, beq_iff_eq, Bool.or_eq_true] at h
  obtain ⟨h1, h2⟩ := h
  unfold sgV
  by_cases hg : gvN s ≠ 0
  · rw [if_pos hg]; exact ⟨_, _, rfl, ta_op_gv _⟩
  rw [if_neg hg, if_neg (by omega)]
  cases hn : nmB s
  · cases hr : rdB s
    · rw [hn, hr] at h2; simp at h2; exact absurd h2 hg
    · exact ⟨_, _, rfl, ta_op_wd _⟩
  · exact ⟨_, _, rfl, ta_op_nm _⟩
set_option maxHeartbeats 4000000 in
set_option maxRecDepth 100000 in
theorem signOf_any (s : Tk) (w : World) (hL : Lib3 w) (hs : s.length ≤ 4194304) : Calls Tryz.prog 150 #[.string (tx s)] w fun e w' => e = .returned (sgV s) ∧ Below w.heap.size w w' := by
  by_cases h0 : s = [64, 48]
  · subst h0
    show Calls Tryz.prog 150 #[.string ⟨#[64, 48]⟩] w _
    go_enter Tryz.func150, Tryz.ntmps150
    go_wp2_with fail
    go_ret
    exact ⟨rfl, Below.refl _ _⟩
  by_cases h1 : s = [64, 49]
  · subst h1
    show Calls Tryz.prog 150 #[.string ⟨#[64, 49]⟩] w _
    go_enter Tryz.func150, Tryz.ntmps150
    go_wp2_with fail
    go_ret
    exact ⟨rfl, Below.refl _ _⟩
  by_cases h2 : s = [64, 50]
  · subst h2
    show Calls Tryz.prog 150 #[.string ⟨#[64, 50]⟩] w _
    go_enter Tryz.func150, Tryz.ntmps150
    go_wp2_with fail
    go_ret
    exact ⟨rfl, Below.refl _ _⟩
  have q0 : ((tx s).toList == [64, 48]) = false := tx_neL h0
  have q1 : ((tx s).toList == [64, 49]) = false := tx_neL h1
  have q2 : ((tx s).toList == [64, 50]) = false := tx_neL h2
  have HG := Lib.hid (show gvN s = 0 by unfold gvN gvsL; simp only [at?]; rw [if_neg (fun e => h0 e.symm), if_neg (fun e => h1 e.symm), if_neg (fun e => h2 e.symm)]; rfl)
  have HSG := Lib.hid (show sgV s = if opN s ≠ 0 then .iface 150 (.int .i64 (opN s)) else if nmB s then .iface 159 (.string (tx s)) else if rdB s then .iface 134 (.int .i32 (rdV s)) else .nilIface by unfold sgV; rw [HG.out]; rfl)
  have HO := Lib.hid (fun w => operatorOf_any s w)
  have HN := Lib.hid (fun w => nmI_any s w)
  have HR := Lib.hid (rdI_any s w hL (by omega))
  clear h0 h1 h2 hL
  generalize sgV s = y at *
  obtain ⟨o, ho⟩ : ∃ o, opN s = o := ⟨_, rfl⟩
  rw [ho] at HO HSG
  have ho7 : o ≤ 7 := by rw [← ho]; exact opN_le s
  clear ho
  by_cases h : o = 0
  · subst h
    cases hn : nmB s
    · rw [hn] at HN HSG
      cases hr : rdB s
      · rw [hr] at HR HSG
        have HE := Lib.hid (HSG.out.trans rfl); clear HSG hn hr
        
        generalize nmB s = nb at *
        generalize rdB s = rb at *
        generalize rdV s = rv at *
        generalize tx s = x at *
        go_enter Tryz.func150, Tryz.ntmps150
        go_wp2_with fail
        refine (HO.out _).mono ?_; rintro e w1 ⟨rfl, rfl⟩
        go_wp2_with fail
        refine (HN.out _).mono ?_; rintro e w2 ⟨rfl, rfl⟩
        go_wp2_with fail
        refine HR.out.mono ?_; rintro e w3 ⟨rfl, b3⟩
        have B3 := Lib.hid b3; clear b3
        go_wp2_with fail
        go_ret
        exact ⟨by rw [HE.out]; rfl, B3.out⟩
      · rw [hr] at HR HSG
        have HW := Lib.hid (wrap32_w (rd_word hr))
        have HE := Lib.hid (HSG.out.trans rfl); clear HSG hn hr
        
        generalize nmB s = nb at *
        generalize rdB s = rb at *
        generalize rdV s = rv at *
        generalize tx s = x at *
        go_enter Tryz.func150, Tryz.ntmps150
        go_wp2_with fail
        refine (HO.out _).mono ?_; rintro e w1 ⟨rfl, rfl⟩
        go_wp2_with fail
        refine (HN.out _).mono ?_; rintro e w2 ⟨rfl, rfl⟩
        go_wp2_with fail
        refine HR.out.mono ?_; rintro e w3 ⟨rfl, b3⟩
        have B3 := Lib.hid b3; clear b3
        go_wp2_with fail
        go_ret
        exact ⟨by rw [HE.out]; show Ending.returned (Value.iface 134 (.int .i32 (wrap32 rv))) = _; rw [HW.out]; rfl, B3.out⟩
    · rw [hn] at HN HSG
      have HE := Lib.hid (HSG.out.trans rfl); clear HSG hn HR
      
      generalize nmB s = nb at *
      generalize rdB s = rb at *
      generalize rdV s = rv at *
      generalize tx s = x at *
      go_enter Tryz.func150, Tryz.ntmps150
      go_wp2_with fail
      refine (HO.out _).mono ?_; rintro e w1 ⟨rfl, rfl⟩
      go_wp2_with fail
      refine (HN.out _).mono ?_; rintro e w2 ⟨rfl, rfl⟩
      go_wp2_with fail
      go_ret
      exact ⟨by rw [HE.out]; rfl, Below.refl _ _⟩
  · have HE := Lib.hid (HSG.out.trans (if_pos h)); clear HSG HR
    have q5 : (((o : Int) != 0)) = true := by simp; omega
    
    generalize nmB s = nb at *
    generalize rdB s = rb at *
    generalize rdV s = rv at *
    generalize tx s = x at *
    go_enter Tryz.func150, Tryz.ntmps150
    go_wp2_with fail
    refine (HO.out _).mono ?_; rintro e w1 ⟨rfl, rfl⟩
    go_wp2_with fail
    go_ret
    exact ⟨by rw [HE.out]; rfl, Below.refl _ _⟩
set_option maxHeartbeats 4000000 in
set_option maxRecDepth 100000 in
theorem implEnd_any (w : World) (a : Option Addr) (cap : Nat) (l : List Tk) (n : Nat) (i : Int) (hi : I64 i) (hn : l.length = n) (hv : V1 w a cap (txL l)) (hl : n ≤ 4194304) (hm : ∀ s ∈ l, s.length ≤ 4194304) (hL : Lib3 w) :
    Calls Tryz.prog 142 #[.slice a n cap, .int .i64 i] w fun e w' => e = .returned (.int .i64 (edV l i)) ∧ Below w.heap.size w w' := by
  have HV := Lib.hid hv; clear hv
  have HN := Lib.hid hn; clear hn
  have HM := Lib.hid hm; clear hm
  have HL := Lib.hid hL; clear hL
  by_cases hneg : i < 0
  · have HE := Lib.hid (edV_neg (l := l) hneg)
    go_enter Tryz.func142, Tryz.ntmps142
    go_wp2_with fail
    go_ret
    exact ⟨by rw [HE.out]; rfl, Below.refl _ _⟩
  obtain ⟨k, rfl⟩ : ∃ k : Nat, i = k := ⟨i.toNat, by omega⟩
  obtain ⟨hi0, hi1⟩ := hi
  go_enter Tryz.func142, Tryz.ntmps142
  go_wp2_with fail
  go_loopw [5, 6] (fun o q wr => ∃ j m : Nat, q = .int .i64 j ∧ o = .int .i64 (m + 1 : Nat) ∧ (j ≤ n ∨ j = k) ∧ Opn l k j (m + 1) ∧ Below w.heap.size w wr) (fun _ q _ => n - intV q)
  case atStart => exact ⟨k, 0, rfl, rfl, Or.inr rfl, Opn.start l k, Below.refl _ _⟩
  case round =>
    obtain ⟨j, m, rfl, rfl, hj, hop, hbel⟩ := hrel
    have HB := Lib.hid hbel; clear hbel
    have HO := Lib.hid hop
    obtain ⟨hkj, hmj, -⟩ := hop
    have hj2 : j ≤ 9223372036854775807 := by omega
    by_cases hlt : j < n
    · obtain ⟨c, hc⟩ : ∃ c, l[j]? = some c := ⟨l[j]'(by have := HN.out; omega), List.getElem?_eq_getElem _⟩
      obtain ⟨g, o, rfl, hg, g0⟩ := HV.out.tx hc
      have c0 : wr.cell? ⟨g, o + j, none⟩ = some (.string (tx c)) := (World.cell?_of_block (w := w) (HB.out.block g hg)).trans g0
      have HC := Lib.hid hc
      have hcl : c.length ≤ 4194304 := HM.out c (List.mem_of_getElem? hc)
      have HS := Lib.hid (signOf_any c wr (lib3_below HL.out HB.out) hcl)
      clear hc hg g0
      cases ho : isO c
      · cases hl2 : isL c
        · have HE := Lib.hid (HO.out.bad HC.out ho hl2)
          rw [sgV_bad ho hl2] at HS
          have nn := nn_nil
          clear HC HO ho hl2
          generalize tx c = x at *
          go_wp2_with fail
          refine HS.out.mono ?_; rintro e w1 ⟨rfl, b1⟩
          have B1 := Lib.hid (bel_tr HB.out b1 (Nat.le_refl _)); clear b1
          go_wp2_with fail
          go_ret
          exact ⟨by rw [HE.out]; rfl, B1.out⟩
        · obtain ⟨T, v, hsv, hta⟩ := sgV_leaf hl2
          rw [hsv] at HS
          have nn := nn_if T v
          have HN2 := Lib.hid (HO.out.leaf HC.out hl2)
          clear HC HO ho hl2 hsv
          generalize tx c = x at *
          cases m with
          | zero =>
            have HE := Lib.hid HN2.out.done
            go_wp2_with fail
            refine HS.out.mono ?_; rintro e w1 ⟨rfl, b1⟩
            have B1 := Lib.hid (bel_tr HB.out b1 (Nat.le_refl _)); clear b1
            go_wp2_with fail
            go_ret
            exact ⟨by rw [HE.out]; rfl, B1.out⟩
          | succ m =>
            have p6 : (((m + 1 + 1 : Nat) : Int) - 1 == 0) = false := by rw [beq_eq_false_iff_ne]; omega
            go_wp2_with fail
            refine HS.out.mono ?_; rintro e w1 ⟨rfl, b1⟩
            have B1 := Lib.hid (bel_tr HB.out b1 (Nat.le_refl _)); clear b1
            go_wp2_with fail
            go_roundw
            case rel => exact ⟨j + 1, m, by go_num, by go_num, Or.inl (by omega), HN2.out, B1.out⟩
            case measure => simp [intV]; omega
      · rw [sgV_op ho] at HS
        have nn := nn_if 150 (.int .i64 (opN c))
        have hta := ta_op (.int .i64 (opN c))
        have HN2 := Lib.hid (HO.out.op HC.out ho)
        clear HC HO ho
        generalize (opN c : Int) = y at *
        generalize tx c = x at *
        have p6 : (((m + 1 : Nat) : Int) + 1 == 0) = false := by rw [beq_eq_false_iff_ne]; omega
        go_wp2_with fail
        refine HS.out.mono ?_; rintro e w1 ⟨rfl, b1⟩
        have B1 := Lib.hid (bel_tr HB.out b1 (Nat.le_refl _)); clear b1
        go_wp2_with fail
        go_roundw
        case rel => exact ⟨j + 1, m + 1, by go_num, by go_num, Or.inl (by omega), HN2.out, B1.out⟩
        case measure => simp [intV]; omega
    · have HE := Lib.hid (HO.out.out (by have := HN.out; omega))
      go_wp2_with fail
      go_ret
      exact ⟨by rw [HE.out]; rfl, HB.out⟩
end Go.Proofs.YtfnnoehpahdgcaaGreatDoor.Cl
