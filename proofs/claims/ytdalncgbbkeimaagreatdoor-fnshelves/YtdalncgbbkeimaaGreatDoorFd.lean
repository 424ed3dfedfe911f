/-
  Contracts of spec.l3Plain, spec.l3Frame, spec.Framed, impl.Framed: 'plB', 'fr', 'frm' of the text's bytes; nothing that was there turns.
-/
import Derived.Test.YtdalncgbbkeimaaGreatDoorFq
import Derived.Test.YtdalncgbbkeimaaGreatDoorTx
import Derived.Test.YtdalncgbbkeimaaGreatDoorDg
import Derived.Test.YtdalncgbbkeimaaGreatDoorSh
import Derived.Lib.IndexLaws
namespace Go.Proofs.YtdalncgbbkeimaaGreatDoor.Fq
open Go.RowKit Wd Rp Kp
def PlPost (s : ByteArray) (w : World) (e : Ending) (w' : World) : Prop := e = .returned (.bool (plB s.data.toList)) ∧ w = w'
set_option maxHeartbeats 1000000 in
theorem plain_any (s : ByteArray) (w : World) (hs : s.size ≤ 9223372036854775806) : Calls Tryz.prog 70 #[.string s] w (PlPost s w) := by
  go_enter Tryz.func70, Tryz.ntmps70
  go_wp2
  go_loop [3] (fun i => ∃ k : Nat, k ≤ s.size ∧ i = .int .i64 k ∧ (s.data.toList.take k).all nn = true) (fun i => s.size - (intOf i).toNat)
  case atStart => exact ⟨0, Nat.zero_le _, rfl, rfl⟩
  case round =>
    obtain ⟨k, hk, rfl, hall⟩ := hrel
    have HA := Lib.hid hall; clear hall
    by_cases hlt : k < s.size
    · have HP := Lib.hid (ltake_snoc s k hlt)
      cases hd : nn s[k]
      · have q : ((s[k].toNat : Int) == 10) = true := by rw [nn_ten hd]; rfl
        have HN := Lib.hid (lnot_all s k hlt hd); clear hd
        go_wp2
        go_ret
        exact ⟨by rw [plB, HN.out]; rfl, rfl⟩
      · have q : ((s[k].toNat : Int) == 10) = false := by
          rw [beq_eq_false_iff_ne]; intro e
          have : s[k] = 10 := UInt8.toNat_inj.1 (by show s[k].toNat = 10; omega)
          rw [this, nn_10] at hd; cases hd
        have HD := Lib.hid hd; clear hd
        go_wp2
        go_round
        case rel => exact ⟨k + 1, by omega, by go_num, by rw [HP.out, List.all_append, HA.out]; simp [HD.out]⟩
        case measure => simp [intOf]; omega
    · obtain rfl : k = s.size := by omega
      have HE := Lib.hid (mtake_all s)
      have hv : decide ((s.size : Int) ≤ 300) = plB s.data.toList := by
        rw [plB, llen]; rw [HE.out] at HA; rw [HA.out, Bool.true_and, decide_eq_decide]; omega
      have HV := Lib.hid hv; clear hv
      go_wp2
      go_ret
      exact ⟨by rw [← HV.out]; rfl, rfl⟩
theorem plain_is {s : ByteArray} {v : Bool} (h : plB s.data.toList = v) (w : World) (hs : s.size ≤ 9223372036854775806) : Calls Tryz.prog 70 #[.string s] w fun e w' => e = .returned (.bool v) ∧ w = w' :=
  (plain_any s w hs).mono fun _ _ ⟨he, hw⟩ => ⟨by rw [he, h], hw⟩
theorem dec_sz (n : Nat) (h : n ≤ 9223372036854775807) : (tx (Lib.decDigits n)).size ≤ 20 := by
  rw [tx_size]; have := dec_len 18 n (by omega); omega
theorem fr_join (s : ByteArray) : ((((tx (Lib.decDigits s.size) ++ (⟨#[32]⟩ : ByteArray)) ++ tx (Lib.decDigits (mkN s.data.toList))) ++ (⟨#[32]⟩ : ByteArray)) ++ s) ++ (⟨#[10]⟩ : ByteArray) = tx (fr s.data.toList) := by
  apply tx_eq
  rw [Joins.data_append, Joins.data_append, Joins.data_append, Joins.data_append, Joins.data_append, tx_data, tx_data, fr, llen]
  simp
theorem l1Int_nat (n : Nat) (w : World) (hn : n ≤ 9223372036854775807) :
    Calls Tryz.prog 43 #[.int .i64 n] w fun e w' => e = .returned (.string (tx (Lib.decDigits n))) ∧ Below w.heap.size w w' := by
  refine (l1Int_any n w (by omega) (by omega)).mono ?_
  rintro e w2 ⟨rfl, hb⟩
  exact ⟨by rw [Lib.itoa_nonneg]; rfl, hb⟩
/-- What l3Frame gives. -/
def FrPost (l : List UInt8) (w : World) (e : Ending) (w' : World) : Prop := e = .returned (.string (tx l)) ∧ Below w.heap.size w w'
/-- The sums of the parts of a frame are no overflow. -/
theorem fr_sums {p q s : ByteArray} (hp : p.size ≤ 20) (hq : q.size ≤ 20) (hs : s.size ≤ 4194304) :
    (¬ 9223372036854775807 < p.size + (⟨#[32]⟩ : ByteArray).size) ∧ (¬ 9223372036854775807 < (p ++ (⟨#[32]⟩ : ByteArray)).size + q.size) ∧
    (¬ 9223372036854775807 < ((p ++ (⟨#[32]⟩ : ByteArray)) ++ q).size + (⟨#[32]⟩ : ByteArray).size) ∧ (¬ 9223372036854775807 < (((p ++ (⟨#[32]⟩ : ByteArray)) ++ q) ++ (⟨#[32]⟩ : ByteArray)).size + s.size) ∧
    (¬ 9223372036854775807 < ((((p ++ (⟨#[32]⟩ : ByteArray)) ++ q) ++ (⟨#[32]⟩ : ByteArray)) ++ s).size + (⟨#[10]⟩ : ByteArray).size) := by
  have e1 : (⟨#[32]⟩ : ByteArray).size = 1 := rfl
  have e2 : (⟨#[10]⟩ : ByteArray).size = 1 := rfl
  simp only [ByteArray.size_append, e1, e2]
  omega
set_option maxHeartbeats 1000000 in
theorem l3Frame_any (s : ByteArray) (w : World) (hs : s.size ≤ 4194304) : Calls Tryz.prog 23 #[.string s] w (FrPost (fr s.data.toList) w) := by
  have HJ := Lib.hid (fr_join s)
  have hp := dec_sz s.size (by omega)
  have hq := dec_sz (mkN s.data.toList) (by have := mk_lt s.data.toList; omega)
  have H1 := Lib.hid (l1Int_nat s.size w (by omega))
  have H2 := Lib.hid (fun w => l1Int_nat (mkN s.data.toList) w (by have := mk_lt s.data.toList; omega))
  generalize tx (Lib.decDigits s.size) = p at hp H1 HJ
  generalize tx (Lib.decDigits (mkN s.data.toList)) = q at hq H2 HJ
  obtain ⟨g1, g2, g3, g4, g5⟩ := fr_sums hp hq hs
  go_enter Tryz.func23, Tryz.ntmps23
  go_wp2_with fail
  refine H1.out.mono ?_; rintro e w1 ⟨rfl, b1⟩
  have B1 := Lib.hid b1; clear b1
  go_wp2_with fail
  refine (specMark_any s w1 (by omega)).mono ?_; rintro e w2 ⟨rfl, rfl⟩
  go_wp2_with fail
  refine (H2.out _).mono ?_; rintro e w2 ⟨rfl, b2⟩
  have B2 := Lib.hid (bel_tr B1.out b2 (Nat.le_refl _)); clear b2
  go_wp2_with fail
  go_ret
  exact ⟨by rw [← HJ.out]; rfl, B2.out⟩
theorem frm_yes' {s : ByteArray} (h : plB s.data.toList = true) : s.size ≤ 300 := by rw [← llen]; exact (plB_iff.1 h).2
theorem itoa_nat (n : Nat) (hn : n ≤ 9223372036854775807) (w : World) (hL : LibT w) :
    Calls Tryz.prog 36 #[.int .i64 n] w fun e w' => e = .returned (.string (tx (Lib.decDigits n))) ∧ Below w.heap.size w w' := by
  refine (Tryz.strconv_Itoa n (by omega) (by omega) w hL.1).mono ?_
  rintro e w2 ⟨rfl, k, os, rfl⟩
  exact ⟨by rw [Lib.itoa_nonneg]; rfl, Lib.below_grow _ _ (Nat.le_refl _) _ _⟩
theorem fmt_nat (n : Nat) (hn : n ≤ 9223372036854775807) (w : World) (hL : LibT w) :
    Calls Tryz.prog 37 #[.int .i64 n, .int .i64 10] w fun e w' => e = .returned (.string (tx (Lib.decDigits n))) ∧ Below w.heap.size w w' := by
  refine (Tryz.strconv_FormatInt_10 n (by omega) (by omega) w hL.1).mono ?_
  rintro e w2 ⟨rfl, k, os, rfl⟩
  exact ⟨by rw [Lib.itoa_nonneg]; rfl, Lib.below_grow _ _ (Nat.le_refl _) _ _⟩
theorem has_ten {l : List UInt8} : decide (0 ≤ Lib.indexByte l 10) = !(l.all nn) := by
  cases h : l.all nn
  · have hge := Lib.indexByte_ge l 10
    have : ¬ Lib.indexByte l 10 = -1 := fun e => by
      have hno := Lib.indexByte_none e
      have : l.all nn = true := by
        rw [List.all_eq_true]; intro c hc
        obtain ⟨k, hk⟩ := List.mem_iff_getElem?.1 hc
        simp only [nn, bne_iff_ne, ne_eq]; rintro rfl; exact hno k hk
      rw [this] at h; cases h
    simp; omega
  · have hge := Lib.indexByte_ge l 10
    have : Lib.indexByte l 10 < 0 := by
      rcases Int.lt_or_le (Lib.indexByte l 10) 0 with h0 | h0
      · exact h0
      · obtain ⟨o, ho⟩ := Int.eq_ofNat_of_zero_le h0
        have hs := (Lib.indexByte_some ho).1
        have := List.all_eq_true.1 h 10 (List.mem_iff_getElem?.2 ⟨o, hs⟩)
        cases this
    simp; omega
theorem contains_is {s : ByteArray} {v : Bool} (h : (!(s.data.toList.all nn)) = v) (w : World) :
    Calls Tryz.prog 35 #[.string s, .string ⟨#[10]⟩] w fun e w' => e = .returned (.bool v) ∧ w = w' := by
  refine (Tryz.strings_Contains_one s 10 w).mono ?_
  rintro e w2 ⟨rfl, rfl⟩
  exact ⟨by rw [has_ten, h], rfl⟩
set_option maxHeartbeats 1000000 in
theorem implFramed_any (s : ByteArray) (w : World) (hL : LibT w) : Calls Tryz.prog 16 #[.string s] w (FrPost (frm s.data.toList) w) := by
  by_cases hs : 300 < s.size
  · clear hL
    have h : plB s.data.toList = false := by rw [plB, llen]; simp; intro _; exact hs
    have HN := Lib.hid (frm_no h); clear h
    have h1 : decide ((300 : Int) < (s.size : Int)) = true := by simp; omega
    go_enter Tryz.func16, Tryz.ntmps16
    go_wp2
    go_ret
    exact ⟨by rw [HN.out]; rfl, Below.refl _ _⟩
  · have h1 : decide ((300 : Int) < (s.size : Int)) = false := by simp; omega
    cases ha : s.data.toList.all nn
    · clear hL
      have h : plB s.data.toList = false := by rw [plB, ha]; rfl
      have HN := Lib.hid (frm_no h); clear h
      have HC := Lib.hid (fun w => contains_is (s := s) (v := true) (by rw [ha]; rfl) w); clear ha
      go_enter Tryz.func16, Tryz.ntmps16
      go_wp2_with fail
      refine (HC.out w).mono ?_; rintro e w1 ⟨rfl, rfl⟩
      go_wp2_with fail
      go_ret
      exact ⟨by rw [HN.out]; rfl, Below.refl _ _⟩
    · have h : plB s.data.toList = true := by rw [plB, ha, llen]; simp; omega
      have HN := Lib.hid (frm_yes h); clear h
      have HC := Lib.hid (fun w => contains_is (s := s) (v := false) (by rw [ha]; rfl) w); clear ha
      have HJ := Lib.hid (fr_join s)
      have hp := dec_sz s.size (by omega)
      have hq := dec_sz (mkN s.data.toList) (by have := mk_lt s.data.toList; omega)
      have H1 := Lib.hid (itoa_nat s.size (by omega) w hL)
      have H2 := Lib.hid (fmt_nat (mkN s.data.toList) (by have := mk_lt s.data.toList; omega))
      have HL := Lib.hid hL; clear hL
      generalize tx (Lib.decDigits s.size) = p at hp H1 HJ
      generalize tx (Lib.decDigits (mkN s.data.toList)) = q at hq H2 HJ
      obtain ⟨g1, g2, g3, g4, g5⟩ := fr_sums hp hq (show s.size ≤ 4194304 by omega)
      go_enter Tryz.func16, Tryz.ntmps16
      go_wp2_with fail
      refine (HC.out w).mono ?_; rintro e w1 ⟨rfl, rfl⟩
      go_wp2_with fail
      refine H1.out.mono ?_; rintro e w1 ⟨rfl, b1⟩
      have HL1 := Lib.hid (HL.out.next b1)
      have B1 := Lib.hid b1; clear b1
      go_wp2_with fail
      refine (implMark_any s w1 (by omega)).mono ?_; rintro e w2 ⟨rfl, rfl⟩
      go_wp2_with fail
      refine (H2.out _ HL1.out).mono ?_; rintro e w2 ⟨rfl, b2⟩
      have B2 := Lib.hid (bel_tr B1.out b2 (Nat.le_refl _)); clear b2
      go_wp2_with fail
      go_ret
      exact ⟨by rw [HN.out, ← HJ.out]; rfl, B2.out⟩
end Go.Proofs.YtdalncgbbkeimaaGreatDoor.Fq
