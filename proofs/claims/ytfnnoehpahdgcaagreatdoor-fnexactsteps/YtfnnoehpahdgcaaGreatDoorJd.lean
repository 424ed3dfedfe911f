/-
  Bins: contracts of strings.Compare, of the search by names (slices.BinarySearchFunc), of the list's methods split, with, without, copied, of slices.Concat and slices.Grow over them, of impl.SetBin and impl.CutBin. (Made by gen_jd.py.)
-/
import Derived.Test.YtfnnoehpahdgcaaGreatDoorJc
import Derived.Lib.AppendZeros
namespace Go.Proofs.YtfnnoehpahdgcaaGreatDoor.Cl
open Go.RowKit Wd Rp Kp
set_option linter.unusedVariables false
theorem cmp_lt : ∀ x y : List UInt8, decide (Lib.compareBytes x y < 0) = Op.bytesLess x y
  | [], [] => rfl
  | [], _ :: _ => rfl
  | _ :: _, [] => rfl
  | a :: x, b :: y => by
    have ih := cmp_lt x y
    simp only [Lib.compareBytes, Op.bytesLess]
    by_cases h1 : a < b
    · simp [h1]
    · by_cases h2 : b < a
      · have : (a == b) = false := by
          rw [beq_eq_false_iff_ne]; intro e; subst e; exact h1 h2
        simp [h1, h2, this]
      · have e : a = b := by
          rw [UInt8.lt_iff_toNat_lt] at h1 h2
          exact UInt8.toNat_inj.1 (by omega)
        subst e
        simp only [h1, if_false, decide_false, Bool.false_or, beq_self_eq_true, Bool.true_and]
        exact ih
theorem cmp_zero : ∀ x y : List UInt8, (Lib.compareBytes x y == 0) = (x == y)
  | [], [] => rfl
  | [], _ :: _ => rfl
  | _ :: _, [] => rfl
  | a :: x, b :: y => by
    have ih := cmp_zero x y
    simp only [Lib.compareBytes]
    by_cases h1 : a < b
    · have : a ≠ b := by intro e; subst e; rw [UInt8.lt_iff_toNat_lt] at h1; omega
      simp [h1, this]
    · by_cases h2 : b < a
      · have : a ≠ b := by intro e; subst e; exact h1 h2
        simp [h1, h2, this]
      · have e : a = b := by
          rw [UInt8.lt_iff_toNat_lt] at h1 h2
          exact UInt8.toNat_inj.1 (by omega)
        subst e
        simp only [h1, if_false, ih]
        simp
theorem sbP_len (l : List Bi) (n : ByteArray) (v : Int) (h : l.length ≤ 4194304) : (sbP l n v).1.length ≤ 4194304 := by
  unfold sbP
  split
  · split
    · rename_i h1
      rw [Bool.and_eq_true, decide_eq_true_eq] at h1
      have := h1.2
      show (stI l n v).length ≤ 4194304
      omega
    · exact h
  · exact Nat.zero_le _
theorem cbP_len (l : List Bi) (n : ByteArray) (h : l.length ≤ 4194304) : (cbP l n).length ≤ 4194304 := by
  unfold cbP
  split
  · rw [ctI_len]; split <;> omega
  · exact Nat.zero_le _
theorem ba_toList (s : ByteArray) : s.data.toList = s.toList := (Lib.toList_data s).symm
def cmpB (a b : ByteArray) : Int := Lib.compareBytes a.data.toList b.data.toList
theorem cmpB_lt (a b : ByteArray) : decide (cmpB a b < 0) = Op.bytesLess a.toList b.toList := by unfold cmpB; rw [cmp_lt, ba_toList, ba_toList]
theorem cmpB_zero (a b : ByteArray) : (cmpB a b == 0) = (a.toList == b.toList) := by unfold cmpB; rw [cmp_zero, ba_toList, ba_toList]
set_option maxRecDepth 100000 in
theorem cmpS_any (a b : ByteArray) (w : World) : Calls Tryz.prog 165 #[.string a, .string b] w fun e w' => e = .returned (.int .i64 (cmpB a b)) ∧ w = w' := by
  go_enter Tryz.func165, Tryz.ntmps165
  go_wp2
  rw [run_callFunc_extern Tryz.func175 (by kernel_rfl) (by kernel_rfl) (by kernel_rfl) (e := Extern.BytealgCompare.compare) (by kernel_rfl), Lib.run_compareString]
  simp only [Result.andThen]
  rw [Oper.upon_value]
  go_wp2
  go_ret
  exact ⟨rfl, rfl⟩
set_option maxRecDepth 100000 in
theorem cmp_any (a b : ByteArray) (w : World) : Calls Tryz.prog 154 #[.string a, .string b] w fun e w' => e = .returned (.int .i64 (cmpB a b)) ∧ w = w' := by
  go_enter Tryz.func154, Tryz.ntmps154
  go_wp2_with fail
  refine (cmpS_any _ _ _).mono ?_; rintro e w1 ⟨rfl, rfl⟩
  go_wp2_with fail
  go_ret
  exact ⟨rfl, rfl⟩
set_option maxRecDepth 100000 in
theorem byName_any (c : Bi) (s : ByteArray) (w : World) : Calls Tryz.prog 153 #[.agg #[.string c.n, .int .i64 c.v], .string s] w fun e w' => e = .returned (.int .i64 (cmpB c.n s)) ∧ Below w.heap.size w w' := by
  have hmn := m_name c.n c.v
  have hen := e_name
  have H0 := Lib.hid (bel1 w (.cells #[.string c.n, .int .i64 c.v] 44))
  go_enter Tryz.func153, Tryz.ntmps153
  go_wp2_with fail
  refine (nameB_any c.n c.v _).mono ?_; rintro e w1 ⟨rfl, b1⟩
  have B1 := Lib.hid (bel_tr H0.out b1 (Nat.le_refl _)); clear b1
  go_wp2_with fail
  refine (cmp_any _ _ _).mono ?_; rintro e w2 ⟨rfl, rfl⟩
  go_wp2_with fail
  go_ret
  exact ⟨rfl, B1.out⟩
set_option maxHeartbeats 4000000 in
set_option maxRecDepth 100000 in
theorem search2_any (w : World) (a : Option Addr) (cap : Nat) (l : List Bi) (n : Nat) (s : ByteArray) (hn : l.length = n) (hv : VwI w a cap l) (hl : n ≤ 4194304) (hasc : Asc l) :
    Calls Tryz.prog 152 #[.slice a n cap, .string s, .func (.func 153) #[] #[]] w fun e w' => e = .returned (.tuple #[.int .i64 (cntI s l : Nat), .bool (isAt s l)]) ∧ Below w.heap.size w w' := by
  have HV := Lib.hid hv; clear hv
  have HN := Lib.hid hn; clear hn
  have HA := Lib.hid hasc; clear hasc
  go_enter Tryz.func152, Tryz.ntmps152
  go_wp2_with fail
  go_loopw [9, 10, 11] (fun x y _ wr => ∃ i j : Nat, x = .int .i64 i ∧ y = .int .i64 j ∧ i ≤ j ∧ j ≤ n ∧ (∀ (m : Nat) (c : Bi), m < i → l[m]? = some c → Op.bytesLess c.n.toList s.toList = true) ∧ (∀ (m : Nat) (c : Bi), j ≤ m → l[m]? = some c → Op.bytesLess c.n.toList s.toList = false) ∧ Below w.heap.size w wr) (fun x y _ _ => intV y - intV x)
  case atStart => exact ⟨0, n, rfl, rfl, Nat.zero_le _, Nat.le_refl _, (fun m c hm => by omega), (fun m c hm hc => by have := (List.getElem?_eq_some_iff.1 hc).1; have := HN.out; omega), Below.refl _ _⟩
  case round =>
    obtain ⟨i, j, rfl, rfl, hij, hjn, hlo, hhi, hbel⟩ := hrel
    have HB := Lib.hid hbel; clear hbel
    have HLO := Lib.hid hlo; clear hlo
    have HHI := Lib.hid hhi; clear hhi
    by_cases hlt : i < j
    · have hh : (i + j) / 2 < n := by omega
      obtain ⟨c, hc⟩ : ∃ c, l[(i + j) / 2]? = some c := ⟨l[(i + j) / 2]'(by have := HN.out; omega), List.getElem?_eq_getElem _⟩
      obtain ⟨g, o, rfl, hg, h5⟩ := HV.out.2.2.2 _ c hc
      obtain ⟨c0, c1⟩ : At2 wr g (o + (i + j) / 2 * 2) c := h5.same (HB.out.block g hg)
      have e1 : (((i : Int) + (j : Int)) / 2).toNat = (i + j) / 2 := by omega
      have e2 : (0 : Int) ≤ ((i : Int) + (j : Int)) / 2 := by omega
      have e3 : ((i : Int) + (j : Int)) / 2 < (n : Int) := by omega
      have hbn := Lib.hid (byName_any c s)
      have hlt0 := cmpB_lt c.n s
      generalize cmpB c.n s = cv at *
      cases hle : Op.bytesLess c.n.toList s.toList
      · have q1 : ¬ cv < 0 := by rw [hle] at hlt0; simpa using hlt0
        have HHI2 := Lib.hid (show ∀ (m : Nat) (d : Bi), (i + j) / 2 ≤ m → l[m]? = some d → Op.bytesLess d.n.toList s.toList = false from fun m d hm hd => by
          rcases Nat.eq_or_lt_of_le hm with em | em
          · subst em; rw [hc] at hd; cases hd; exact hle
          · cases hx : Op.bytesLess d.n.toList s.toList with
            | false => rfl
            | true => rw [bl_tr (asc_lt HA.out em hc hd) hx] at hle; cases hle)
        clear hc hle hlt0 h5 hg
        go_wp2_with fail
        refine (hbn.out _).mono ?_; rintro e w1 ⟨rfl, b1⟩
        have B1 := Lib.hid (bel_tr HB.out b1 (Nat.le_refl _)); clear b1
        go_wp2_with fail
        go_roundw
        case rel => exact ⟨i, (i + j) / 2, rfl, by go_num, by omega, by omega, HLO.out, HHI2.out, B1.out⟩
        case measure => simp [intV]; omega
      · have q1 : cv < 0 := by rw [hle] at hlt0; simpa using hlt0
        have HLO2 := Lib.hid (show ∀ (m : Nat) (d : Bi), m < (i + j) / 2 + 1 → l[m]? = some d → Op.bytesLess d.n.toList s.toList = true from fun m d hm hd => by
          rcases Nat.eq_or_lt_of_le (Nat.lt_succ_iff.1 hm) with em | em
          · subst em; rw [hc] at hd; cases hd; exact hle
          · exact bl_tr (asc_lt HA.out em hd hc) hle)
        clear hc hle hlt0 h5 hg
        go_wp2_with fail
        refine (hbn.out _).mono ?_; rintro e w1 ⟨rfl, b1⟩
        have B1 := Lib.hid (bel_tr HB.out b1 (Nat.le_refl _)); clear b1
        go_wp2_with fail
        go_roundw
        case rel => exact ⟨(i + j) / 2 + 1, j, by go_num, rfl, by omega, by omega, HLO2.out, HHI.out, B1.out⟩
        case measure => simp [intV]; omega
    · obtain rfl : i = j := by omega
      have HE := Lib.hid (show cntI s l = i from cntI_eq (by have := HN.out; omega) HLO.out (fun c hc => HHI.out i c (Nat.le_refl _) hc))
      by_cases hin : i < n
      · obtain ⟨c, hc⟩ : ∃ c, l[i]? = some c := ⟨l[i]'(by have := HN.out; omega), List.getElem?_eq_getElem _⟩
        obtain ⟨g, o, rfl, hg, h5⟩ := HV.out.2.2.2 _ c hc
        obtain ⟨c0, c1⟩ : At2 wr g (o + i * 2) c := h5.same (HB.out.block g hg)
        have HAT := Lib.hid (show isAt s l = (cmpB c.n s == 0) by rw [isAt_some (by rw [HE.out]; exact hc), cmpB_zero])
        have hbn := Lib.hid (byName_any c s)
        generalize cmpB c.n s = cv at *
        clear hc h5 hg
        go_wp2_with fail
        refine (hbn.out _).mono ?_; rintro e w1 ⟨rfl, b1⟩
        have B1 := Lib.hid (bel_tr HB.out b1 (Nat.le_refl _)); clear b1
        go_wp2_with fail
        refine bodyPost_ret (v := .tuple #[.int .i64 (i : Int), .bool (cv == 0)]) (by simp [results, Tryz.results152, go_sem]) rfl ⟨by rw [HE.out, HAT.out], B1.out⟩
      · have HAT := Lib.hid (show isAt s l = false from isAt_none (by rw [HE.out, HN.out]; omega))
        have i1 : ¬ (i : Int) < (n : Int) := by omega
        go_wp2_with fail
        refine bodyPost_ret (v := .tuple #[.int .i64 (i : Int), .bool false]) (by simp [results, Tryz.results152, go_sem]) rfl ⟨by rw [HE.out, HAT.out], HB.out⟩
/-- What split gives back. -/
def SplPost (a : Option Addr) (cap : Nat) (l : List Bi) (s : ByteArray) (w : World) (e : Ending) (w' : World) : Prop := ∃ b cb, e = .returned (.tuple #[.slice a (cntI s l) cap, .slice b (behI s l).length cb]) ∧ VwI w b cb (behI s l) ∧ Below w.heap.size w w'
set_option maxHeartbeats 4000000 in
set_option maxRecDepth 100000 in
theorem split_any (w : World) (a : Option Addr) (cap : Nat) (l : List Bi) (n : Nat) (s : ByteArray) (hn : l.length = n) (hv : VwI w a cap l) (hl : n ≤ 4194304) (hasc : Asc l) :
    Calls Tryz.prog 138 #[.slice a n cap, .string s] w (SplPost a cap l s w) := by
  have hcl := cntI_le s l
  have hbl := behI_len s l
  have HS := Lib.hid (search2_any w a cap l n s hn hv hl hasc); clear hasc
  have HV := Lib.hid hv; clear hv
  rw [hn] at hcl hbl
  obtain ⟨hr2, -⟩ := cutI_to 110 (by kernel_rfl) (by kernel_rfl) a n cap (cntI s l) hcl (by rw [← hn]; exact HV.out.1) HV.out.2.2.1
  cases hat : isAt s l
  · obtain ⟨b, cb, hr1, hv1⟩ := cutI_from 110 (by kernel_rfl) (by kernel_rfl) a n cap (cntI s l) hcl
    have HBE := Lib.hid (show behI s l = l.drop (cntI s l) by unfold behI; rw [if_neg (by rw [hat]; decide)])
    have HV1 := Lib.hid (hv1 w l HV.out hn); clear hv1
    have HBL := Lib.hid (show (behI s l).length = n - cntI s l by rw [hbl, if_neg (by rw [hat]; decide)]; omega)
    rw [hat] at HS
    rw [← HBE.out] at HV1
    unfold SplPost
    generalize behI s l = bh at *
    generalize cntI s l = k at *
    clear hbl
    go_enter Tryz.func138, Tryz.ntmps138
    go_wp2_with fail
    refine HS.out.mono ?_; rintro e w1 ⟨rfl, b1⟩
    have B1 := Lib.hid b1; clear b1
    go_wp2_with fail
    refine wp_region_held_drew (S := fun z => Below w1.heap.size w1 z) (by kernel_rfl) (Below.refl _ _).drew (fun hHeld => ?_)
    refine wpAnyH_take (i := 0) (v := ?v0p) rfl (by kernel_rfl) (by kernel_rfl) (by kernel_rfl) (fun _ _ _ h => h) (Or.inl ⟨by rfl, ?hy0p⟩) (by assumption) ?rest0p
    case hy0p => (intro zz hSw; (try dsimp only at hSw); go_simp; (try with_reducible rfl))
    change wpAnyH _ _ _ _ _ _ _ (Act.put _ (some 22) _) _
    simp only [Act.put, List.setIfInBounds_toArray, List.set_cons_zero, List.set_cons_succ]
    refine wpAnyH_take (i := 1) (v := ?v1p) rfl (by kernel_rfl) (by kernel_rfl) (by kernel_rfl) (fun _ _ _ h => h) (Or.inl ⟨by rfl, ?hy1p⟩) (by assumption) ?rest1p
    case hy1p => (intro zz hSw; (try dsimp only at hSw); go_simp; (try with_reducible rfl))
    change wpAnyH _ _ _ _ _ _ _ (Act.put _ (some 23) _) _
    simp only [Act.put, List.setIfInBounds_toArray, List.set_cons_zero, List.set_cons_succ]
    refine wpAnyH_take (i := 2) (v := ?v2p) rfl (by kernel_rfl) (by kernel_rfl) (by kernel_rfl) (fun _ _ _ h => h) (Or.inl ⟨by rfl, ?hy2p⟩) (by assumption) ?rest2p
    case hy2p => (intro zz hSw; (try dsimp only at hSw); go_simp; (try with_reducible rfl))
    change wpAnyH _ _ _ _ _ _ _ (Act.put _ (some 24) _) _
    simp only [Act.put, List.setIfInBounds_toArray, List.set_cons_zero, List.set_cons_succ]
    refine wpAnyH_take (i := 3) (v := ?v3p) rfl (by kernel_rfl) (by kernel_rfl) (by kernel_rfl) (fun _ _ _ h => h) (Or.inl ⟨by rfl, ?hy3p⟩) (by assumption) ?rest3p
    case hy3p => (intro zz hSw; (try dsimp only at hSw); go_simp; (try with_reducible rfl))
    change wpAnyH _ _ _ _ _ _ _ (Act.put _ (some 25) _) _
    simp only [Act.put, List.setIfInBounds_toArray, List.set_cons_zero, List.set_cons_succ]
    refine wpAnyH_take (i := 4) (v := ?v4p) rfl (by kernel_rfl) (by kernel_rfl) (by kernel_rfl) (fun _ _ _ h => h) (Or.inl ⟨by rfl, ?hy4p⟩) (by assumption) ?rest4p
    case hy4p => (intro zz hSw; (try dsimp only at hSw); go_simp; (try with_reducible rfl))
    change wpAnyH _ _ _ _ _ _ _ (Act.put _ (some 26) _) _
    simp only [Act.put, List.setIfInBounds_toArray, List.set_cons_zero, List.set_cons_succ]
    refine wpAnyH_take (i := 5) (v := ?v5p) rfl (by kernel_rfl) (by kernel_rfl) (by kernel_rfl) (fun _ _ _ h => h) (Or.inl ⟨by rfl, ?hy5p⟩) (by assumption) ?rest5p
    case hy5p => (intro zz hSw; (try dsimp only at hSw); go_simp; (try with_reducible rfl))
    change wpAnyH _ _ _ _ _ _ _ (Act.put _ (some 27) _) _
    simp only [Act.put, List.setIfInBounds_toArray, List.set_cons_zero, List.set_cons_succ]
    refine wpAnyH_take (i := 6) (v := ?v6p) rfl (by kernel_rfl) (by kernel_rfl) (by kernel_rfl) (fun _ _ _ h => h) (Or.inl ⟨by rfl, ?hy6p⟩) (by assumption) ?rest6p
    case hy6p => (intro zz hSw; (try dsimp only at hSw); go_simp; (try with_reducible rfl))
    change wpAnyH _ _ _ _ _ _ _ (Act.put _ (some 4) _) _
    simp only [Act.put, List.setIfInBounds_toArray, List.set_cons_zero, List.set_cons_succ]
    refine wpAnyH_take (i := 7) (v := ?v7p) rfl (by kernel_rfl) (by kernel_rfl) (by kernel_rfl) (fun _ _ _ h => h) (Or.inl ⟨by rfl, ?hy7p⟩) (by assumption) ?rest7p
    case hy7p => (intro zz hSw; (try dsimp only at hSw); go_simp; (try with_reducible rfl))
    change wpAnyH _ _ _ _ _ _ _ (Act.put _ (some 5) _) _
    simp only [Act.put, List.setIfInBounds_toArray, List.set_cons_zero, List.set_cons_succ]
    refine wpAnyH_done (by kernel_rfl) ?_ _
    have BX := Lib.hid hHeld; clear hHeld
    generalize w1.drew = w9 at *
    go_wp2_with fail
    refine bodyPost_ret (v := .tuple #[.slice a k cap, .slice b (n - k) cb]) (by simp [results, Tryz.results138, go_sem]) rfl ⟨b, cb, by rw [HBL.out], HV1.out, bel_tr B1.out BX.out (Nat.le_refl _)⟩
  · have hkl := isAt_lt hat
    rw [hn] at hkl
    obtain ⟨b, cb, hr1, hv1⟩ := cutI_from 110 (by kernel_rfl) (by kernel_rfl) a n cap (cntI s l + 1) hkl
    rw [show ((cntI s l + 1 : Nat) : Int) = (cntI s l : Int) + 1 by omega] at hr1
    have HBE := Lib.hid (show behI s l = l.drop (cntI s l + 1) by unfold behI; rw [if_pos hat])
    have HV1 := Lib.hid (hv1 w l HV.out hn); clear hv1
    have HBL := Lib.hid (show (behI s l).length = n - (cntI s l + 1) by rw [hbl, if_pos hat]; omega)
    rw [hat] at HS
    rw [← HBE.out] at HV1
    unfold SplPost
    generalize behI s l = bh at *
    generalize cntI s l = k at *
    clear hbl
    have i7 : IntKind.i64.wrap ((k : Int) + 1) = (k : Int) + 1 := by rw [IntKind.wrap_i64]; omega
    go_enter Tryz.func138, Tryz.ntmps138
    go_wp2_with fail
    refine HS.out.mono ?_; rintro e w1 ⟨rfl, b1⟩
    have B1 := Lib.hid b1; clear b1
    go_wp2_with fail
    refine wp_region_held_drew (S := fun z => Below w1.heap.size w1 z) (by kernel_rfl) (Below.refl _ _).drew (fun hHeld => ?_)
    refine wpAnyH_take (i := 0) (v := ?v0q) rfl (by kernel_rfl) (by kernel_rfl) (by kernel_rfl) (fun _ _ _ h => h) (Or.inl ⟨by rfl, ?hy0q⟩) (by assumption) ?rest0q
    case hy0q => (intro zz hSw; (try dsimp only at hSw); go_simp; (try with_reducible rfl))
    change wpAnyH _ _ _ _ _ _ _ (Act.put _ (some 15) _) _
    simp only [Act.put, List.setIfInBounds_toArray, List.set_cons_zero, List.set_cons_succ]
    refine wpAnyH_take (i := 1) (v := ?v1q) rfl (by kernel_rfl) (by kernel_rfl) (by kernel_rfl) (fun _ _ _ h => h) (Or.inl ⟨by rfl, ?hy1q⟩) (by assumption) ?rest1q
    case hy1q => (intro zz hSw; (try dsimp only at hSw); go_simp; (try with_reducible rfl))
    change wpAnyH _ _ _ _ _ _ _ (Act.put _ (some 16) _) _
    simp only [Act.put, List.setIfInBounds_toArray, List.set_cons_zero, List.set_cons_succ]
    refine wpAnyH_take (i := 2) (v := ?v2q) rfl (by kernel_rfl) (by kernel_rfl) (by kernel_rfl) (fun _ _ _ h => h) (Or.inl ⟨by rfl, ?hy2q⟩) (by assumption) ?rest2q
    case hy2q => (intro zz hSw; (try dsimp only at hSw); go_simp; (try with_reducible rfl))
    change wpAnyH _ _ _ _ _ _ _ (Act.put _ (some 17) _) _
    simp only [Act.put, List.setIfInBounds_toArray, List.set_cons_zero, List.set_cons_succ]
    refine wpAnyH_take (i := 3) (v := ?v3q) rfl (by kernel_rfl) (by kernel_rfl) (by kernel_rfl) (fun _ _ _ h => h) (Or.inl ⟨by rfl, ?hy3q⟩) (by assumption) ?rest3q
    case hy3q => (intro zz hSw; (try dsimp only at hSw); go_simp; (try with_reducible rfl))
    change wpAnyH _ _ _ _ _ _ _ (Act.put _ (some 18) _) _
    simp only [Act.put, List.setIfInBounds_toArray, List.set_cons_zero, List.set_cons_succ]
    refine wpAnyH_take (i := 4) (v := ?v4q) rfl (by kernel_rfl) (by kernel_rfl) (by kernel_rfl) (fun _ _ _ h => h) (Or.inl ⟨by rfl, ?hy4q⟩) (by assumption) ?rest4q
    case hy4q => (intro zz hSw; (try dsimp only at hSw); go_simp; (try with_reducible rfl))
    change wpAnyH _ _ _ _ _ _ _ (Act.put _ (some 19) _) _
    simp only [Act.put, List.setIfInBounds_toArray, List.set_cons_zero, List.set_cons_succ]
    refine wpAnyH_take (i := 5) (v := ?v5q) rfl (by kernel_rfl) (by kernel_rfl) (by kernel_rfl) (fun _ _ _ h => h) (Or.inl ⟨by rfl, ?hy5q⟩) (by assumption) ?rest5q
    case hy5q => (intro zz hSw; (try dsimp only at hSw); go_simp; (try with_reducible rfl))
    change wpAnyH _ _ _ _ _ _ _ (Act.put _ (some 20) _) _
    simp only [Act.put, List.setIfInBounds_toArray, List.set_cons_zero, List.set_cons_succ]
    refine wpAnyH_take (i := 6) (v := ?v6q) rfl (by kernel_rfl) (by kernel_rfl) (by kernel_rfl) (fun _ _ _ h => h) (Or.inl ⟨by rfl, ?hy6q⟩) (by assumption) ?rest6q
    case hy6q => (intro zz hSw; (try dsimp only at hSw); go_simp; (try with_reducible rfl))
    change wpAnyH _ _ _ _ _ _ _ (Act.put _ (some 21) _) _
    simp only [Act.put, List.setIfInBounds_toArray, List.set_cons_zero, List.set_cons_succ]
    refine wpAnyH_take (i := 7) (v := ?v7q) rfl (by kernel_rfl) (by kernel_rfl) (by kernel_rfl) (fun _ _ _ h => h) (Or.inl ⟨by rfl, ?hy7q⟩) (by assumption) ?rest7q
    case hy7q => (intro zz hSw; (try dsimp only at hSw); go_simp; (try with_reducible rfl))
    change wpAnyH _ _ _ _ _ _ _ (Act.put _ (some 4) _) _
    simp only [Act.put, List.setIfInBounds_toArray, List.set_cons_zero, List.set_cons_succ]
    refine wpAnyH_take (i := 8) (v := ?v8q) rfl (by kernel_rfl) (by kernel_rfl) (by kernel_rfl) (fun _ _ _ h => h) (Or.inl ⟨by rfl, ?hy8q⟩) (by assumption) ?rest8q
    case hy8q => (intro zz hSw; (try dsimp only at hSw); go_simp; (try with_reducible rfl))
    change wpAnyH _ _ _ _ _ _ _ (Act.put _ (some 5) _) _
    simp only [Act.put, List.setIfInBounds_toArray, List.set_cons_zero, List.set_cons_succ]
    refine wpAnyH_done (by kernel_rfl) ?_ _
    have BX := Lib.hid hHeld; clear hHeld
    generalize w1.drew = w9 at *
    go_wp2_with fail
    refine bodyPost_ret (v := .tuple #[.slice a k cap, .slice b (n - (k + 1)) cb]) (by simp [results, Tryz.results138, go_sem]) rfl ⟨b, cb, by rw [HBL.out], HV1.out, bel_tr B1.out BX.out (Nat.le_refl _)⟩
set_option maxHeartbeats 4000000 in
set_option maxRecDepth 100000 in
theorem grow_any (w : World) (k : Nat) (hk : k ≤ 4000) : Calls Tryz.prog 155 #[.slice none 0 0, .int .i64 (k : Int)] w fun e w' => ∃ v, e = .returned v ∧ OwI w.heap.size w' v [] ∧ Below w.heap.size w w' := by
  obtain ⟨i0, hi, hz0, hz1, hz2⟩ := info_parts infoI
  have hT : Tryz.prog.underlying 110 = some (.slice 44) := Tryz.underlying110
  by_cases h0 : 0 < k
  · have h1 := grownCap_ge w k 0 44
    have hcm : grownCap w k 0 44 ≤ maxLen := grownCap_le_maxLen w k 0 44 (by unfold maxLen; omega)
    have hrun := fun ty => Lib.run_append_nil_zeros (P := Tryz.prog) w 110 3 ty 44 i0 _ .i64 .i64 hT Tryz.underlying3 hi hz0 k h0 (by rw [hz1]; decide) (by omega) (by rw [hz2]; omega)
    have HOW := Lib.hid (show OwI w.heap.size (w.drew.alloc (.cells (Builtin.zeroCells (Value.agg #[.string ⟨#[]⟩, .int .i64 0]).cells k ++ Builtin.zeroCells (Value.agg #[.string ⟨#[]⟩, .int .i64 0]).cells (grownCap w k 0 44 - k)) 44)) (.slice (some ⟨w.heap.size, 0, none⟩) 0 (grownCap w k 0 44)) [] from
      ⟨rfl, .inr ⟨w.heap.size, grownCap w k 0 44, _, rfl, Nat.le_refl _, heap_alloc_new w.drew _, Nat.zero_le _, hcm, by
        simp only [Array.size_append, size_zeroCells]
        show k * 2 + (grownCap w k 0 44 - k) * 2 = _
        omega, rfl⟩⟩)
    have HBW := Lib.hid (show Below w.heap.size w (w.drew.alloc (.cells (Builtin.zeroCells (Value.agg #[.string ⟨#[]⟩, .int .i64 0]).cells k ++ Builtin.zeroCells (Value.agg #[.string ⟨#[]⟩, .int .i64 0]).cells (grownCap w k 0 44 - k)) 44)) from (Below.refl _ _).drew.alloc (Nat.le_refl _) _)
    generalize w.drew.alloc (.cells (Builtin.zeroCells (Value.agg #[.string ⟨#[]⟩, .int .i64 0]).cells k ++ Builtin.zeroCells (Value.agg #[.string ⟨#[]⟩, .int .i64 0]).cells (grownCap w k 0 44 - k)) 44) = w2 at *
    generalize grownCap w k 0 44 = gc at *
    generalize hq : w.heap.size = q at *
    have hr2 := (cutI_to 110 (by kernel_rfl) (by kernel_rfl) (some ⟨q, 0, none⟩) k gc 0 (Nat.zero_le _) h1 (fun e => by cases e)).1
    have hrn := (cutI_to 110 (by kernel_rfl) (by kernel_rfl) none 0 0 0 (Nat.le_refl _) (Nat.le_refl _) (fun _ => rfl)).1
    have i1 : ¬ (k : Int) < 0 := by omega
    have i2 : (0 : Int) < (k : Int) := by omega
    go_enter Tryz.func155, Tryz.ntmps155
    go_wp2_with (at_builtin; refine Lib.wpList_append_run _ rfl (.tmp 20) (.tmp 21) 110 3 rfl (.slice none 0 0) (.int .i64 (k : Int)) rfl rfl _ _ (hrun _) ?_)
    go_ret
    exact ⟨_, rfl, HOW.out, HBW.out⟩
  · obtain rfl : k = 0 := by omega
    go_enter Tryz.func155, Tryz.ntmps155
    go_wp2_with fail
    go_ret
    exact ⟨_, rfl, OwI.nothing _ _, Below.refl _ _⟩
/-- A part to be joined. -/
structure Pt where
  a : Option Addr
  cap : Nat
  l : List Bi
def joinP (ps : List Pt) : List Bi := ps.flatMap (·.l)
/-- The headers of the parts lie at block g. -/
def Parts (w : World) (g : Nat) (ps : List Pt) : Prop := ∀ (i : Nat) (p : Pt), ps[i]? = some p → w.cell? ⟨g, i, none⟩ = some (.slice p.a p.l.length p.cap) ∧ VwI w p.a p.cap p.l
theorem Parts.below {w w' : World} {g : Nat} {ps : List Pt} (h : Parts w g ps) (hg : g < w.heap.size) (hb : Below w.heap.size w w') : Parts w' g ps := fun i p hp => by
  obtain ⟨h1, h2⟩ := h i p hp
  exact ⟨(World.cell?_of_block (w := w) (hb.block g hg)).trans h1, h2.below hb⟩
theorem joinP_succ {ps : List Pt} {k : Nat} {p : Pt} (h : ps[k]? = some p) : joinP (ps.take (k + 1)) = joinP (ps.take k) ++ p.l := by
  unfold joinP
  rw [List.take_add_one, h, List.flatMap_append]; simp
theorem joinP_le (ps : List Pt) (k : Nat) : (joinP (ps.take k)).length ≤ (joinP ps).length := by
  unfold joinP
  conv => rhs; rw [← List.take_append_drop k ps]
  rw [List.flatMap_append, List.length_append]; omega
set_option maxHeartbeats 4000000 in
set_option maxRecDepth 100000 in
theorem concat_any (w : World) (g m cap : Nat) (ps : List Pt) (hm : ps.length = m) (hg : g < w.heap.size) (hp : Parts w g ps) (hl : (joinP ps).length ≤ 4000) (hmm : m ≤ 1000) :
    Calls Tryz.prog 139 #[.slice (some ⟨g, 0, none⟩) m cap] w fun e w' => ∃ v, e = .returned v ∧ OwI w.heap.size w' v (joinP ps) ∧ Below w.heap.size w w' := by
  have hT : Tryz.prog.underlying 110 = some (.slice 44) := Tryz.underlying110
  have HP := Lib.hid hp; clear hp
  have HM := Lib.hid hm; clear hm
  have HLE := Lib.hid (joinP_le ps)
  go_enter Tryz.func139, Tryz.ntmps139
  go_wp2_with fail
  go_loopw [3, 11] (fun s i wr => ∃ k : Nat, k ≤ m ∧ i = .int .i64 k ∧ s = .int .i64 ((joinP (ps.take k)).length : Nat) ∧ Below w.heap.size w wr) (fun _ i _ => m - intV i)
  case atStart => exact ⟨0, Nat.zero_le _, rfl, rfl, Below.refl _ _⟩
  case round =>
    obtain ⟨k, hk, rfl, rfl, hbel0⟩ := hrel
    have HB0 := Lib.hid hbel0; clear hbel0
    have hle := HLE.out k
    by_cases hlt : k < m
    · obtain ⟨p, hpk⟩ : ∃ p, ps[k]? = some p := ⟨ps[k]'(by have := HM.out; omega), List.getElem?_eq_getElem _⟩
      obtain ⟨h1, -⟩ := HP.out.below hg HB0.out k p hpk
      have hle2 := HLE.out (k + 1)
      have HJ := Lib.hid (show (joinP (ps.take (k + 1))).length = (joinP (ps.take k)).length + p.l.length by rw [joinP_succ hpk, List.length_append])
      rw [HJ.out] at hle2
      generalize (joinP (ps.take k)).length = sz at *
      have i1 : ¬ ((sz : Int) + (p.l.length : Int)) < 0 := by omega
      clear hpk
      go_wp2_with fail
      go_roundw
      case rel => exact ⟨k + 1, by omega, by go_num, by rw [HJ.out]; congr 1, HB0.out⟩
      case measure => simp [intV]; omega
    · obtain rfl : k = m := by omega
      have HA := Lib.hid (show ps.take k = ps by rw [List.take_of_length_le (by rw [HM.out]; exact Nat.le_refl _)])
      rw [HA.out] at hle ⊢
      generalize hsz : (joinP ps).length = sz at *
      go_wp2_with fail
      refine (grow_any _ sz hl).mono ?_; rintro e w1 ⟨v, rfl, o1, b1⟩
      have O1 := Lib.hid (o1.mono HB0.out.size)
      have B1 := Lib.hid (bel_tr HB0.out b1 (Nat.le_refl _)); clear b1
      obtain ⟨v1a, v1c, e1, -⟩ := o1.view
      subst e1
      clear o1
      go_wp2_with fail
      go_loopw [6, 27] (fun x i wr2 => ∃ k2 : Nat, k2 ≤ k ∧ i = .int .i64 k2 ∧ OwI w.heap.size wr2 x (joinP (ps.take k2)) ∧ Below w.heap.size w wr2) (fun _ i _ => k - intV i)
      case atStart => exact ⟨0, Nat.zero_le _, rfl, by rw [List.take_zero]; exact O1.out, B1.out⟩
      case round =>
        obtain ⟨k2, hk2, rfl, hown, hbel⟩ := hrel
        have HO := Lib.hid hown
        have HB := Lib.hid hbel; clear hbel
        obtain ⟨v2a, v2c, e2, -⟩ := hown.view
        clear hown
        subst e2
        by_cases hlt2 : k2 < k
        · obtain ⟨p, hpk⟩ : ∃ p, ps[k2]? = some p := ⟨ps[k2]'(by have := HM.out; omega), List.getElem?_eq_getElem _⟩
          obtain ⟨h1, hv⟩ := HP.out.below hg HB.out k2 p hpk
          have HV := Lib.hid hv; clear hv
          have hle2 := HLE.out (k2 + 1)
          have HJ := Lib.hid (joinP_succ hpk)
          rw [HJ.out, List.length_append] at hle2
          have T1 : (joinP (ps.take k2)).length + p.l.length ≤ 10000000 := by omega
          generalize joinP (ps.take k2) = jl at *
          go_wp2_with (first
            | (at_builtin; refine append_binsT rfl (.tmp 31) (.tmp 32) 110 hT rfl (base := w.heap.size) (l := jl) (m := p.l) rfl rfl rfl HO.out HV.out T1 HB.out.size ?_; intro v5 w5 o5 g5))
          have O5 := Lib.hid o5
          have B5 := Lib.hid (HB.out.grown g5 HB.out.size (fun j hj => OwI.lt HO.out j hj)); clear o5 g5
          go_wp2_with fail
          go_roundw
          case rel => exact ⟨k2 + 1, by omega, by go_num, by rw [HJ.out]; exact O5.out, B5.out⟩
          case measure => simp [intV]; omega
        · obtain rfl : k2 = k := by omega
          rw [HA.out] at HO ⊢
          go_wp2_with fail
          go_ret
          exact ⟨_, rfl, HO.out, HB.out⟩
theorem cell_new (w : World) (cs : Array Value) (T : TypeId) (i : Nat) (v : Value) (h : cs[i]? = some v) : (w.alloc (.cells cs T)).cell? ⟨w.heap.size, i, none⟩ = some v := by
  simp only [World.cell?, new_of]
  exact h
set_option maxHeartbeats 4000000 in
set_option maxRecDepth 100000 in
theorem copied_any (w : World) (a : Option Addr) (cap : Nat) (l : List Bi) (n : Nat) (hn : l.length = n) (hv : VwI w a cap l) (hl : n ≤ 4000) :
    Calls Tryz.prog 133 #[.slice a n cap] w fun e w' => ∃ v, e = .returned v ∧ OwI w.heap.size w' v l ∧ Below w.heap.size w w' := by
  have HB := Lib.hid (bel1 w (.cells #[.slice a n cap] 110))
  have HC := Lib.hid (concat_any (w.alloc (.cells #[.slice a n cap] 110)) w.heap.size 1 1 [⟨a, cap, l⟩] rfl (by simp) (fun i p hp => by
    match i, hp with
    | 0, hp =>
      simp at hp; subst hp
      exact ⟨cell_new _ _ _ _ _ (by rw [hn]; rfl), hv.below HB.out⟩) (by simp [joinP]; omega) (by decide))
  rw [show joinP [⟨a, cap, l⟩] = l by simp [joinP]] at HC
  go_enter Tryz.func133, Tryz.ntmps133
  go_wp2_with fail
  refine HC.out.mono ?_; rintro e w1 ⟨v, rfl, o1, b1⟩
  have B1 := Lib.hid (bel_tr HB.out b1 (Nat.le_refl _))
  have O1 := Lib.hid (o1.mono HB.out.size)
  obtain ⟨va, vc, rfl, -⟩ := o1.view
  rw [hn] at O1 ⊢
  clear o1 b1
  go_wp2_with fail
  go_ret
  exact ⟨_, rfl, O1.out, B1.out⟩
set_option maxHeartbeats 4000000 in
set_option maxRecDepth 100000 in
theorem without_any (w : World) (a : Option Addr) (cap : Nat) (l : List Bi) (n : Nat) (s : ByteArray) (hn : l.length = n) (hv : VwI w a cap l) (hl : n ≤ 3000) (hasc : Asc l) :
    Calls Tryz.prog 124 #[.slice a n cap, .string s] w fun e w' => ∃ v, e = .returned v ∧ OwI w.heap.size w' v (ctI l s) ∧ Below w.heap.size w w' := by
  have HS := Lib.hid (split_any w a cap l n s hn hv (by omega) hasc)
  have HV := Lib.hid hv; clear hv
  have hcl := cntI_le s l
  have HTK := Lib.hid (takeI_len s l)
  have hcln := ctI_len l s
  have hcl4 : (ctI l s).length ≤ 4000 := by rw [hcln]; split <;> omega
  clear hcln
  go_enter Tryz.func124, Tryz.ntmps124
  go_wp2_with fail
  refine HS.out.mono ?_; rintro e w1 ⟨b, cb, rfl, hvb, b1⟩
  have B1 := Lib.hid b1
  have V1 := Lib.hid (HV.out.at hcl |>.below b1)
  have V2 := Lib.hid (hvb.below b1); clear hvb b1
  have HB := Lib.hid (bel1 w1 (.cells #[.slice a (cntI s l) cap, .slice b (behI s l).length cb] 110))
  have HC := Lib.hid (concat_any (w1.alloc (.cells #[.slice a (cntI s l) cap, .slice b (behI s l).length cb] 110)) w1.heap.size 2 2 [⟨a, cap, l.take (cntI s l)⟩, ⟨b, cb, behI s l⟩] rfl (by simp) (fun i p hp => by
    match i, hp with
    | 0, hp =>
      simp at hp; subst hp
      exact ⟨cell_new _ _ _ _ _ (by rw [HTK.out]; rfl), V1.out.below HB.out⟩
    | 1, hp =>
      simp at hp; subst hp
      exact ⟨cell_new _ _ _ _ _ rfl, V2.out.below HB.out⟩) (by rw [show joinP [⟨a, cap, l.take (cntI s l)⟩, ⟨b, cb, behI s l⟩] = ctI l s by simp [joinP, ctI]]; exact hcl4) (by decide))
  rw [show joinP [⟨a, cap, l.take (cntI s l)⟩, ⟨b, cb, behI s l⟩] = ctI l s by simp [joinP, ctI]] at HC
  generalize (behI s l).length = bl at *
  generalize cntI s l = k at *
  go_wp2_with fail
  refine HC.out.mono ?_; rintro e w2 ⟨v, rfl, o2, b2⟩
  have B2 := Lib.hid (bel_tr B1.out (bel_tr HB.out b2 (Nat.le_refl _)) (Nat.le_refl _))
  have O2 := Lib.hid (o2.mono (Nat.le_trans B1.out.size HB.out.size))
  obtain ⟨va, vc, rfl, -⟩ := o2.view
  clear o2 b2
  go_wp2_with fail
  go_ret
  exact ⟨_, rfl, O2.out, B2.out⟩
set_option maxHeartbeats 4000000 in
set_option maxRecDepth 100000 in
theorem with_any (w : World) (a : Option Addr) (cap : Nat) (l : List Bi) (n : Nat) (s : ByteArray) (x : Int) (hn : l.length = n) (hv : VwI w a cap l) (hl : n ≤ 3000) (hasc : Asc l) :
    Calls Tryz.prog 132 #[.slice a n cap, .agg #[.string s, .int .i64 x]] w fun e w' => ∃ v, e = .returned v ∧ OwI w.heap.size w' v (stI l s x) ∧ Below w.heap.size w w' := by
  have HB0 := Lib.hid (bel1 w (.cells #[.string s, .int .i64 x] 44))
  have HX0 := Lib.hid (Bn2.made s x w 44)
  have HV := Lib.hid hv; clear hv
  have hmn := m_name s x
  have hen := e_name
  have hcl := cntI_le s l
  have HTK := Lib.hid (takeI_len s l)
  have hcln := stI_len l s x
  have hcl4 : (stI l s x).length ≤ 4000 := by rw [hcln]; split <;> omega
  clear hcln
  go_enter Tryz.func132, Tryz.ntmps132
  go_wp2_with fail
  refine (nameB_any s x _).mono ?_; rintro e w1 ⟨rfl, b1⟩
  have B1 := Lib.hid (bel_tr HB0.out b1 (Nat.le_refl _))
  have X1 := Lib.hid (HX0.out.next b1); clear b1
  have HS := Lib.hid (split_any w1 a cap l n s hn (HV.out.below B1.out) (by omega) hasc)
  go_wp2_with fail
  refine HS.out.mono ?_; rintro e w2 ⟨b, cb, rfl, hvb, b2⟩
  have B2 := Lib.hid (bel_tr B1.out b2 (Nat.le_refl _))
  have V1 := Lib.hid (HV.out.at hcl |>.below B2.out)
  have V2 := Lib.hid (hvb.below b2)
  obtain ⟨x0, x1, -⟩ := X1.out.next b2
  clear hvb b2
  have HL := Lib.hid (bel1 w2 (.cells #[.string s, .int .i64 x] 44))
  have V3 := Lib.hid (VwI.lit w2 ⟨s, x⟩)
  have zl : (w2.alloc (.cells #[.string s, .int .i64 x] 44)).heap.size = w2.heap.size + 1 := by simp
  have HJ := Lib.hid (show joinP [⟨a, cap, l.take (cntI s l)⟩, ⟨some ⟨w2.heap.size, 0, none⟩, 1, [⟨s, x⟩]⟩, ⟨b, cb, behI s l⟩] = stI l s x by simp [joinP, stI])
  have HC := Lib.hid (fun (w3 : World) (hb : Below (w2.alloc (.cells #[.string s, .int .i64 x] 44)).heap.size (w2.alloc (.cells #[.string s, .int .i64 x] 44)) w3) (g : Nat) (hg : g < w3.heap.size) (h0 : w3.cell? ⟨g, 0, none⟩ = some (.slice a (cntI s l) cap)) (h1 : w3.cell? ⟨g, 1, none⟩ = some (.slice (some ⟨w2.heap.size, 0, none⟩) 1 1)) (h2 : w3.cell? ⟨g, 2, none⟩ = some (.slice b (behI s l).length cb)) => concat_any w3 g 3 3 [⟨a, cap, l.take (cntI s l)⟩, ⟨some ⟨w2.heap.size, 0, none⟩, 1, [⟨s, x⟩]⟩, ⟨b, cb, behI s l⟩] rfl hg (fun i p hp => by
    match i, hp with
    | 0, hp =>
      simp at hp; subst hp
      exact ⟨by rw [HTK.out]; exact h0, (V1.out.below HL.out).below hb⟩
    | 1, hp =>
      simp at hp; subst hp
      exact ⟨h1, V3.out.below hb⟩
    | 2, hp =>
      simp at hp; subst hp
      exact ⟨h2, (V2.out.below HL.out).below hb⟩) (by rw [HJ.out]; exact hcl4) (by decide))
  rw [HJ.out] at HC
  clear HJ
  generalize (behI s l).length = bl at *
  generalize cntI s l = k at *
  have C0 := cell_new (w2.alloc (.cells #[.string s, .int .i64 x] 44)) #[.slice a k cap, .slice (some ⟨w2.heap.size, 0, none⟩) 1 1, .slice b bl cb] 110 0 _ rfl
  have C1 := cell_new (w2.alloc (.cells #[.string s, .int .i64 x] 44)) #[.slice a k cap, .slice (some ⟨w2.heap.size, 0, none⟩) 1 1, .slice b bl cb] 110 1 _ rfl
  have C2 := cell_new (w2.alloc (.cells #[.string s, .int .i64 x] 44)) #[.slice a k cap, .slice (some ⟨w2.heap.size, 0, none⟩) 1 1, .slice b bl cb] 110 2 _ rfl
  rw [zl] at C0 C1 C2
  have HB3 := Lib.hid (bel1 (w2.alloc (.cells #[.string s, .int .i64 x] 44)) (.cells #[.slice a k cap, .slice (some ⟨w2.heap.size, 0, none⟩) 1 1, .slice b bl cb] 110))
  have HC4 := Lib.hid (HC.out _ HB3.out (w2.heap.size + 1) (by simp) C0 C1 C2)
  have HB4 := Lib.hid (bel_tr B2.out (bel_tr HL.out HB3.out (Nat.le_refl _)) (Nat.le_refl _))
  clear C0 C1 C2
  go_wp2_with fail
  refine HC4.out.mono ?_; rintro e w4 ⟨v, rfl, o4, b4⟩
  have B5 := Lib.hid (bel_tr HB4.out b4 (Nat.le_refl _))
  have O4 := Lib.hid (o4.mono HB4.out.size)
  obtain ⟨va, vc, rfl, -⟩ := o4.view
  clear o4 b4
  go_wp2_with fail
  go_ret
  exact ⟨_, rfl, O4.out, B5.out⟩
set_option maxHeartbeats 4000000 in
set_option maxRecDepth 100000 in
theorem implSet_any (w : World) (a : Option Addr) (cap : Nat) (l : List Bi) (n : Nat) (s : ByteArray) (x : Int) (hn : l.length = n) (hv : VwI w a cap l) (hl : n ≤ 4194304) :
    Calls Tryz.prog 122 #[.slice a n cap, .string s, .int .i64 x] w (SbPost w.heap.size (sbP l s x) w) := by
  have HV := Lib.hid hv; clear hv
  cases hok : okI l
  · have HE := Lib.hid (sbP_no (n := s) (v := x) hok)
    have HBK := Lib.hid (implBins_is hok w a cap n hn HV.out hl); clear hok
    go_enter Tryz.func122, Tryz.ntmps122
    go_wp2_with fail
    refine HBK.out.mono ?_; rintro e w1 ⟨rfl, b1⟩
    have B1 := Lib.hid b1; clear b1
    go_wp2_with fail
    refine bodyPost_ret (v := .tuple #[.slice none 0 0, .bool false]) (by simp [results, Tryz.results122, go_sem]) rfl ⟨_, by rw [HE.out], by rw [HE.out]; exact OwI.nothing _ _, B1.out⟩
  · have HOK := Lib.hid hok
    have hl12 : n ≤ 12 := by rw [← hn]; exact (okI_iff.1 hok).1
    have hasc := (okI_iff.1 hok).2.1
    have HBK := Lib.hid (implBins_is hok w a cap n hn HV.out hl); clear hok
    have HW := Lib.hid (fun w1 (hv : VwI w1 a cap l) => with_any w1 a cap l n s x hn hv (by omega) hasc); clear hasc
    have HSL := Lib.hid (stI_len l s x)
    have HBO := Lib.hid (binOk_any ⟨s, x⟩)
    have HOS := Lib.hid (show (⟨s, x⟩ : Bi).ok = (nmB s.data.toList && isW x) from rfl)
    cases hb : (nmB s.data.toList && isW x)
    · have HE := Lib.hid (sbP_bad (n := s) (v := x) HOK.out hb)
      rw [HOS.out, hb] at HBO
      clear hb
      go_enter Tryz.func122, Tryz.ntmps122
      go_wp2_with fail
      refine HBK.out.mono ?_; rintro e w1 ⟨rfl, b1⟩
      have B1 := Lib.hid (bel_tr b1 (bel1 w1 (.cells #[.string s, .int .i64 x] 44)) (Nat.le_refl _)); clear b1
      have X1 := Lib.hid (Bn2.made s x w1 44)
      go_wp2_with fail
      refine (HW.out _ (HV.out.below B1.out)).mono ?_; rintro e w2 ⟨v, rfl, o2, b2⟩
      have B2 := Lib.hid (bel_tr B1.out b2 (Nat.le_refl _))
      obtain ⟨x0, x1, -⟩ := X1.out.next b2
      obtain ⟨va, vc, rfl, -⟩ := o2.view
      clear o2 b2
      go_wp2_with fail
      refine (HBO.out _).mono ?_; rintro e w3 ⟨rfl, b3⟩
      have B3 := Lib.hid (bel_tr B2.out b3 (Nat.le_refl _)); clear b3 x0 x1
      go_wp2_with fail
      refine (copied_any w3 a cap l n hn (HV.out.below B3.out) (by omega)).mono ?_; rintro e w4 ⟨v4, rfl, o4, b4⟩
      have B4 := Lib.hid (bel_tr B3.out b4 (Nat.le_refl _))
      have O4 := Lib.hid (o4.mono B3.out.size); clear o4 b4
      go_wp2_with fail
      refine bodyPost_ret (v := .tuple #[v4, .bool false]) (by simp [results, Tryz.results122, go_sem]) rfl ⟨_, by rw [HE.out], by rw [HE.out]; exact O4.out, B4.out⟩
    · rw [HOS.out, hb] at HBO
      by_cases h12 : (stI l s x).length ≤ 12
      · have HE := Lib.hid (sbP_yes (n := s) (v := x) HOK.out hb h12)
        have i1 : ¬ (12 : Int) < ((stI l s x).length : Int) := by omega
        clear hb h12
        go_enter Tryz.func122, Tryz.ntmps122
        go_wp2_with fail
        refine HBK.out.mono ?_; rintro e w1 ⟨rfl, b1⟩
        have B1 := Lib.hid (bel_tr b1 (bel1 w1 (.cells #[.string s, .int .i64 x] 44)) (Nat.le_refl _)); clear b1
        have X1 := Lib.hid (Bn2.made s x w1 44)
        go_wp2_with fail
        refine (HW.out _ (HV.out.below B1.out)).mono ?_; rintro e w2 ⟨v, rfl, o2, b2⟩
        have B2 := Lib.hid (bel_tr B1.out b2 (Nat.le_refl _))
        obtain ⟨x0, x1, -⟩ := X1.out.next b2
        have O2 := Lib.hid (o2.mono B1.out.size)
        obtain ⟨va, vc, rfl, -⟩ := o2.view
        clear o2 b2
        generalize (stI l s x).length = sl at *
        go_wp2_with fail
        refine (HBO.out _).mono ?_; rintro e w3 ⟨rfl, b3⟩
        have B3 := Lib.hid (bel_tr B2.out b3 (Nat.le_refl _))
        have O3 := Lib.hid (O2.out.next b3); clear b3 x0 x1
        go_wp2_with fail
        refine bodyPost_ret (v := .tuple #[.slice va sl vc, .bool true]) (by simp [results, Tryz.results122, go_sem]) rfl ⟨_, by rw [HE.out], by rw [HE.out]; exact O3.out, B3.out⟩
      · have HE := Lib.hid (sbP_long (n := s) (v := x) HOK.out h12)
        have i1 : (12 : Int) < ((stI l s x).length : Int) := by omega
        clear hb h12
        go_enter Tryz.func122, Tryz.ntmps122
        go_wp2_with fail
        refine HBK.out.mono ?_; rintro e w1 ⟨rfl, b1⟩
        have B1 := Lib.hid (bel_tr b1 (bel1 w1 (.cells #[.string s, .int .i64 x] 44)) (Nat.le_refl _)); clear b1
        have X1 := Lib.hid (Bn2.made s x w1 44)
        go_wp2_with fail
        refine (HW.out _ (HV.out.below B1.out)).mono ?_; rintro e w2 ⟨v, rfl, o2, b2⟩
        have B2 := Lib.hid (bel_tr B1.out b2 (Nat.le_refl _))
        obtain ⟨x0, x1, -⟩ := X1.out.next b2
        obtain ⟨va, vc, rfl, -⟩ := o2.view
        clear o2 b2
        generalize (stI l s x).length = sl at *
        go_wp2_with fail
        refine (HBO.out _).mono ?_; rintro e w3 ⟨rfl, b3⟩
        have B3 := Lib.hid (bel_tr B2.out b3 (Nat.le_refl _)); clear b3 x0 x1
        go_wp2_with fail
        refine (copied_any w3 a cap l n hn (HV.out.below B3.out) (by omega)).mono ?_; rintro e w4 ⟨v4, rfl, o4, b4⟩
        have B4 := Lib.hid (bel_tr B3.out b4 (Nat.le_refl _))
        have O4 := Lib.hid (o4.mono B3.out.size); clear o4 b4
        go_wp2_with fail
        refine bodyPost_ret (v := .tuple #[v4, .bool false]) (by simp [results, Tryz.results122, go_sem]) rfl ⟨_, by rw [HE.out], by rw [HE.out]; exact O4.out, B4.out⟩
set_option maxHeartbeats 4000000 in
set_option maxRecDepth 100000 in
theorem implCut_any (w : World) (a : Option Addr) (cap : Nat) (l : List Bi) (n : Nat) (s : ByteArray) (hn : l.length = n) (hv : VwI w a cap l) (hl : n ≤ 4194304) :
    Calls Tryz.prog 111 #[.slice a n cap, .string s] w (CbPost w.heap.size (cbP l s) w) := by
  have HV := Lib.hid hv; clear hv
  cases hok : okI l
  · have HE := Lib.hid (cbP_no (n := s) hok)
    have HBK := Lib.hid (implBins_is hok w a cap n hn HV.out hl); clear hok
    go_enter Tryz.func111, Tryz.ntmps111
    go_wp2_with fail
    refine HBK.out.mono ?_; rintro e w1 ⟨rfl, b1⟩
    have B1 := Lib.hid b1; clear b1
    go_wp2_with fail
    go_ret
    exact ⟨_, rfl, by rw [HE.out]; exact OwI.nothing _ _, B1.out⟩
  · have hl12 : n ≤ 12 := by rw [← hn]; exact (okI_iff.1 hok).1
    have hasc := (okI_iff.1 hok).2.1
    have HE := Lib.hid (cbP_yes (n := s) hok)
    have HBK := Lib.hid (implBins_is hok w a cap n hn HV.out hl); clear hok
    have HW := Lib.hid (fun w1 (hv : VwI w1 a cap l) => without_any w1 a cap l n s hn hv (by omega) hasc); clear hasc
    go_enter Tryz.func111, Tryz.ntmps111
    go_wp2_with fail
    refine HBK.out.mono ?_; rintro e w1 ⟨rfl, b1⟩
    have B1 := Lib.hid b1; clear b1
    go_wp2_with fail
    refine (HW.out _ (HV.out.below B1.out)).mono ?_; rintro e w2 ⟨v, rfl, o2, b2⟩
    have B2 := Lib.hid (bel_tr B1.out b2 (Nat.le_refl _))
    have O2 := Lib.hid (o2.mono B1.out.size)
    obtain ⟨va, vc, rfl, -⟩ := o2.view
    clear o2 b2
    rw [← HE.out] at O2 ⊢
    generalize (cbP l s).length = sl at *
    go_wp2_with fail
    go_ret
    exact ⟨_, rfl, O2.out, B2.out⟩
end Go.Proofs.YtfnnoehpahdgcaaGreatDoor.Cl
