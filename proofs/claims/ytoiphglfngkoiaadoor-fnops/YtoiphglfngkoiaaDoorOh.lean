/-
  OpOk: contracts of spec.OpOk, impl.OpOk: 'opB' of the instruction. (Made by gen_oh.py.)
-/
import Derived.Test.YtoiphglfngkoiaaDoorKv
import Derived.Test.YtoiphglfngkoiaaDoorCa
namespace Go.Proofs.YtoiphglfngkoiaaDoor.Cl
open Go.RowKit Wd Rp Kp
set_option linter.unusedVariables false
theorem nmS_is (s : Tk) (w : World) (hs : s.length ≤ 9223372036854775806) : Calls Tryd.prog 38 #[.string (tx s)] w fun e w' => e = .returned (.bool (nmB s)) ∧ w = w' := by
  have h := specName_any (tx s) w (by rw [tx_size]; exact hs)
  unfold NmPost at h
  rw [tx_data] at h; exact h
theorem nmI_is (s : Tk) (w : World) : Calls Tryd.prog 35 #[.string (tx s)] w fun e w' => e = .returned (.bool (nmB s)) ∧ w = w' := by
  have h := implName_any (tx s) w
  unfold NmPost at h
  rw [tx_data] at h; exact h
theorem tx_mt (m : Tk) : (tx m).toList.isEmpty = m.isEmpty := by rw [Lib.toList_data, tx_data]
theorem tx_mtB (m : Tk) : ((tx m).toList == []) = m.isEmpty := by rw [Lib.toList_data, tx_data]; cases m <;> rfl
theorem op_eq (k n : Int) (m : Tk) (w : World) : (Op.equalIn 10000 25 (.agg #[.int .i64 k, .int .i64 n, .string (tx m)]) (.agg #[.int .i64 k, .int .i64 0, .string ⟨#[]⟩])).run Tryd.prog w = .ok (decide (n = 0) && m.isEmpty) w := by
  have u2 := Tryd.underlying2
  have a2 := Tryd.isAgg2
  have z2 := Tryd.sizeOf2
  have a9 := Tryd.isAgg9
  have z9 := Tryd.sizeOf9
  have s9 := fun (a b : ByteArray) (w : World) => run_equalIn_string (P := Tryd.prog) w 9998 9 a b Tryd.underlying9
  have hS : Tryd.prog.underlying 25 = some (.struct (Tryd.prog.fieldsOf 25)) := by kernel_rfl
  rw [show (10000 : Nat) = 9999 + 1 from rfl, run_equalIn_struct w 9999 25 _ _ hS (by kernel_rfl)]
  simp only [Program.fieldsOf, Tryd.underlying25]
  by_cases hn : n = 0
  · subst hn
    go_simp
    rw [show (tx m).toList = m by rw [Lib.toList_data, tx_data]]
    cases m <;> simp
  · go_simp
theorem l11Place_any (n : Int) (w : World) : Calls Tryd.prog 39 #[.int .i64 n] w fun e w' => e = .returned (.bool (inB n 0 300)) ∧ w = w' := by
  have HN := Lib.hid (fun w => l1In_any n 0 300 w)
  go_enter Tryd.func39, Tryd.ntmps39
  go_wp2_with fail
  refine (HN.out _).mono ?_; rintro e w1 ⟨rfl, rfl⟩
  go_wp2_with fail
  go_ret
  exact ⟨rfl, rfl⟩
set_option maxHeartbeats 4000000 in
set_option maxRecDepth 100000 in
theorem specOp_1 (n : Int) (m : Tk) (w : World) :
    Calls Tryd.prog 14 #[.agg #[.int .i64 1, .int .i64 n, .string (tx m)]] w fun e w' => e = .returned (.bool (opB ⟨1, n, m⟩)) ∧ Below w.heap.size w w' := by
  have HB := Lib.hid (bel1 w (.cells #[.int .i64 1, .int .i64 n, .string (tx m)] 25))
  have HM := tx_mt m
  have HM2 := tx_mtB m
  have HE := Lib.hid (show opB ⟨1, n, m⟩ = (isW n && m.isEmpty) from rfl)
  have HN := Lib.hid (fun w => word_is (rfl : isW n = isW n) w)
  generalize isW n = b at *
  cases b
  · go_enter Tryd.func14, Tryd.ntmps14
    go_wp2_with fail
    refine (HN.out _).mono ?_; rintro e w1 ⟨rfl, rfl⟩
    go_wp2_with fail
    refine bodyPost_ret (v := .bool false) (by simp [results, Tryd.results14, go_sem]) rfl ⟨by rw [HE.out]; rfl, HB.out⟩
  · go_enter Tryd.func14, Tryd.ntmps14
    go_wp2_with fail
    refine (HN.out _).mono ?_; rintro e w1 ⟨rfl, rfl⟩
    go_wp2_with fail
    refine bodyPost_ret (v := .bool m.isEmpty) (by simp [results, Tryd.results14, go_sem]) rfl ⟨by rw [HE.out]; rfl, HB.out⟩
set_option maxHeartbeats 4000000 in
set_option maxRecDepth 100000 in
theorem specOp_2 (n : Int) (m : Tk) (w : World) :
    Calls Tryd.prog 14 #[.agg #[.int .i64 2, .int .i64 n, .string (tx m)]] w fun e w' => e = .returned (.bool (opB ⟨2, n, m⟩)) ∧ Below w.heap.size w w' := by
  have HB := Lib.hid (bel1 w (.cells #[.int .i64 2, .int .i64 n, .string (tx m)] 25))
  have HM := tx_mt m
  have HM2 := tx_mtB m
  have HE := Lib.hid (show opB ⟨2, n, m⟩ = (inB n 0 2 && m.isEmpty) from rfl)
  have HN := Lib.hid (fun w => l1In_any n 0 2 w)
  generalize inB n 0 2 = b at *
  cases b
  · go_enter Tryd.func14, Tryd.ntmps14
    go_wp2_with fail
    refine (HN.out _).mono ?_; rintro e w1 ⟨rfl, rfl⟩
    go_wp2_with fail
    refine bodyPost_ret (v := .bool false) (by simp [results, Tryd.results14, go_sem]) rfl ⟨by rw [HE.out]; rfl, HB.out⟩
  · go_enter Tryd.func14, Tryd.ntmps14
    go_wp2_with fail
    refine (HN.out _).mono ?_; rintro e w1 ⟨rfl, rfl⟩
    go_wp2_with fail
    refine bodyPost_ret (v := .bool m.isEmpty) (by simp [results, Tryd.results14, go_sem]) rfl ⟨by rw [HE.out]; rfl, HB.out⟩
set_option maxHeartbeats 4000000 in
set_option maxRecDepth 100000 in
theorem specOp_3 (n : Int) (m : Tk) (w : World) (hm : m.length ≤ 9223372036854775806) :
    Calls Tryd.prog 14 #[.agg #[.int .i64 3, .int .i64 n, .string (tx m)]] w fun e w' => e = .returned (.bool (opB ⟨3, n, m⟩)) ∧ Below w.heap.size w w' := by
  have HB := Lib.hid (bel1 w (.cells #[.int .i64 3, .int .i64 n, .string (tx m)] 25))
  have HM := tx_mt m
  have HM2 := tx_mtB m
  have HE := Lib.hid (show opB ⟨3, n, m⟩ = (nmB m && decide (n = 0)) from rfl)
  have HN := Lib.hid (fun w => nmS_is m w (by omega))
  by_cases hn : n = 0
  · subst hn
    generalize nmB m = b at *
    cases b
    · go_enter Tryd.func14, Tryd.ntmps14
      go_wp2_with fail
      refine (HN.out _).mono ?_; rintro e w1 ⟨rfl, rfl⟩
      go_wp2_with fail
      refine bodyPost_ret (v := .bool false) (by simp [results, Tryd.results14, go_sem]) rfl ⟨by rw [HE.out]; rfl, HB.out⟩
    · go_enter Tryd.func14, Tryd.ntmps14
      go_wp2_with fail
      refine (HN.out _).mono ?_; rintro e w1 ⟨rfl, rfl⟩
      go_wp2_with fail
      refine bodyPost_ret (v := .bool true) (by simp [results, Tryd.results14, go_sem]) rfl ⟨by rw [HE.out]; rfl, HB.out⟩
  · have hnb : (n == 0) = false := beq_eq_false_iff_ne.2 hn
    have hnd : decide (n = 0) = false := decide_eq_false hn
    rw [hnd] at HE
    generalize nmB m = b at *
    cases b
    · go_enter Tryd.func14, Tryd.ntmps14
      go_wp2_with fail
      refine (HN.out _).mono ?_; rintro e w1 ⟨rfl, rfl⟩
      go_wp2_with fail
      refine bodyPost_ret (v := .bool false) (by simp [results, Tryd.results14, go_sem]) rfl ⟨by rw [HE.out]; rfl, HB.out⟩
    · go_enter Tryd.func14, Tryd.ntmps14
      go_wp2_with fail
      refine (HN.out _).mono ?_; rintro e w1 ⟨rfl, rfl⟩
      go_wp2_with fail
      refine bodyPost_ret (v := .bool false) (by simp [results, Tryd.results14, go_sem]) rfl ⟨by rw [HE.out]; rfl, HB.out⟩
set_option maxHeartbeats 4000000 in
set_option maxRecDepth 100000 in
theorem specOp_4 (n : Int) (m : Tk) (w : World) :
    Calls Tryd.prog 14 #[.agg #[.int .i64 4, .int .i64 n, .string (tx m)]] w fun e w' => e = .returned (.bool (opB ⟨4, n, m⟩)) ∧ Below w.heap.size w w' := by
  have HB := Lib.hid (bel1 w (.cells #[.int .i64 4, .int .i64 n, .string (tx m)] 25))
  have HM := tx_mt m
  have HM2 := tx_mtB m
  have HE := Lib.hid (show opB ⟨4, n, m⟩ = (inB n 1 7 && m.isEmpty) from rfl)
  have HN := Lib.hid (fun w => l1In_any n 1 7 w)
  generalize inB n 1 7 = b at *
  cases b
  · go_enter Tryd.func14, Tryd.ntmps14
    go_wp2_with fail
    refine (HN.out _).mono ?_; rintro e w1 ⟨rfl, rfl⟩
    go_wp2_with fail
    refine bodyPost_ret (v := .bool false) (by simp [results, Tryd.results14, go_sem]) rfl ⟨by rw [HE.out]; rfl, HB.out⟩
  · go_enter Tryd.func14, Tryd.ntmps14
    go_wp2_with fail
    refine (HN.out _).mono ?_; rintro e w1 ⟨rfl, rfl⟩
    go_wp2_with fail
    refine bodyPost_ret (v := .bool m.isEmpty) (by simp [results, Tryd.results14, go_sem]) rfl ⟨by rw [HE.out]; rfl, HB.out⟩
set_option maxHeartbeats 4000000 in
set_option maxRecDepth 100000 in
theorem specOp_5 (n : Int) (m : Tk) (w : World) (hm : m.length ≤ 9223372036854775806) :
    Calls Tryd.prog 14 #[.agg #[.int .i64 5, .int .i64 n, .string (tx m)]] w fun e w' => e = .returned (.bool (opB ⟨5, n, m⟩)) ∧ Below w.heap.size w w' := by
  have HB := Lib.hid (bel1 w (.cells #[.int .i64 5, .int .i64 n, .string (tx m)] 25))
  have HM := tx_mt m
  have HM2 := tx_mtB m
  have HE := Lib.hid (show opB ⟨5, n, m⟩ = (nmB m && decide (n = 0)) from rfl)
  have HN := Lib.hid (fun w => nmS_is m w (by omega))
  by_cases hn : n = 0
  · subst hn
    generalize nmB m = b at *
    cases b
    · go_enter Tryd.func14, Tryd.ntmps14
      go_wp2_with fail
      refine (HN.out _).mono ?_; rintro e w1 ⟨rfl, rfl⟩
      go_wp2_with fail
      refine bodyPost_ret (v := .bool false) (by simp [results, Tryd.results14, go_sem]) rfl ⟨by rw [HE.out]; rfl, HB.out⟩
    · go_enter Tryd.func14, Tryd.ntmps14
      go_wp2_with fail
      refine (HN.out _).mono ?_; rintro e w1 ⟨rfl, rfl⟩
      go_wp2_with fail
      refine bodyPost_ret (v := .bool true) (by simp [results, Tryd.results14, go_sem]) rfl ⟨by rw [HE.out]; rfl, HB.out⟩
  · have hnb : (n == 0) = false := beq_eq_false_iff_ne.2 hn
    have hnd : decide (n = 0) = false := decide_eq_false hn
    rw [hnd] at HE
    generalize nmB m = b at *
    cases b
    · go_enter Tryd.func14, Tryd.ntmps14
      go_wp2_with fail
      refine (HN.out _).mono ?_; rintro e w1 ⟨rfl, rfl⟩
      go_wp2_with fail
      refine bodyPost_ret (v := .bool false) (by simp [results, Tryd.results14, go_sem]) rfl ⟨by rw [HE.out]; rfl, HB.out⟩
    · go_enter Tryd.func14, Tryd.ntmps14
      go_wp2_with fail
      refine (HN.out _).mono ?_; rintro e w1 ⟨rfl, rfl⟩
      go_wp2_with fail
      refine bodyPost_ret (v := .bool false) (by simp [results, Tryd.results14, go_sem]) rfl ⟨by rw [HE.out]; rfl, HB.out⟩
set_option maxHeartbeats 4000000 in
set_option maxRecDepth 100000 in
theorem specOp_6 (n : Int) (m : Tk) (w : World) (hm : m.length ≤ 9223372036854775806) :
    Calls Tryd.prog 14 #[.agg #[.int .i64 6, .int .i64 n, .string (tx m)]] w fun e w' => e = .returned (.bool (opB ⟨6, n, m⟩)) ∧ Below w.heap.size w w' := by
  have HB := Lib.hid (bel1 w (.cells #[.int .i64 6, .int .i64 n, .string (tx m)] 25))
  have HM := tx_mt m
  have HM2 := tx_mtB m
  have HE := Lib.hid (show opB ⟨6, n, m⟩ = (nmB m && decide (n = 0)) from rfl)
  have HN := Lib.hid (fun w => nmS_is m w (by omega))
  by_cases hn : n = 0
  · subst hn
    generalize nmB m = b at *
    cases b
    · go_enter Tryd.func14, Tryd.ntmps14
      go_wp2_with fail
      refine (HN.out _).mono ?_; rintro e w1 ⟨rfl, rfl⟩
      go_wp2_with fail
      refine bodyPost_ret (v := .bool false) (by simp [results, Tryd.results14, go_sem]) rfl ⟨by rw [HE.out]; rfl, HB.out⟩
    · go_enter Tryd.func14, Tryd.ntmps14
      go_wp2_with fail
      refine (HN.out _).mono ?_; rintro e w1 ⟨rfl, rfl⟩
      go_wp2_with fail
      refine bodyPost_ret (v := .bool true) (by simp [results, Tryd.results14, go_sem]) rfl ⟨by rw [HE.out]; rfl, HB.out⟩
  · have hnb : (n == 0) = false := beq_eq_false_iff_ne.2 hn
    have hnd : decide (n = 0) = false := decide_eq_false hn
    rw [hnd] at HE
    generalize nmB m = b at *
    cases b
    · go_enter Tryd.func14, Tryd.ntmps14
      go_wp2_with fail
      refine (HN.out _).mono ?_; rintro e w1 ⟨rfl, rfl⟩
      go_wp2_with fail
      refine bodyPost_ret (v := .bool false) (by simp [results, Tryd.results14, go_sem]) rfl ⟨by rw [HE.out]; rfl, HB.out⟩
    · go_enter Tryd.func14, Tryd.ntmps14
      go_wp2_with fail
      refine (HN.out _).mono ?_; rintro e w1 ⟨rfl, rfl⟩
      go_wp2_with fail
      refine bodyPost_ret (v := .bool false) (by simp [results, Tryd.results14, go_sem]) rfl ⟨by rw [HE.out]; rfl, HB.out⟩
set_option maxHeartbeats 4000000 in
set_option maxRecDepth 100000 in
theorem specOp_7 (n : Int) (m : Tk) (w : World) :
    Calls Tryd.prog 14 #[.agg #[.int .i64 7, .int .i64 n, .string (tx m)]] w fun e w' => e = .returned (.bool (opB ⟨7, n, m⟩)) ∧ Below w.heap.size w w' := by
  have HB := Lib.hid (bel1 w (.cells #[.int .i64 7, .int .i64 n, .string (tx m)] 25))
  have HM := tx_mt m
  have HM2 := tx_mtB m
  have HE := Lib.hid (show opB ⟨7, n, m⟩ = (inB n 0 300 && m.isEmpty) from rfl)
  have HN := Lib.hid (fun w => l11Place_any n w)
  generalize inB n 0 300 = b at *
  cases b
  · go_enter Tryd.func14, Tryd.ntmps14
    go_wp2_with fail
    refine (HN.out _).mono ?_; rintro e w1 ⟨rfl, rfl⟩
    go_wp2_with fail
    refine bodyPost_ret (v := .bool false) (by simp [results, Tryd.results14, go_sem]) rfl ⟨by rw [HE.out]; rfl, HB.out⟩
  · go_enter Tryd.func14, Tryd.ntmps14
    go_wp2_with fail
    refine (HN.out _).mono ?_; rintro e w1 ⟨rfl, rfl⟩
    go_wp2_with fail
    refine bodyPost_ret (v := .bool m.isEmpty) (by simp [results, Tryd.results14, go_sem]) rfl ⟨by rw [HE.out]; rfl, HB.out⟩
set_option maxHeartbeats 4000000 in
set_option maxRecDepth 100000 in
theorem specOp_8 (n : Int) (m : Tk) (w : World) :
    Calls Tryd.prog 14 #[.agg #[.int .i64 8, .int .i64 n, .string (tx m)]] w fun e w' => e = .returned (.bool (opB ⟨8, n, m⟩)) ∧ Below w.heap.size w w' := by
  have HB := Lib.hid (bel1 w (.cells #[.int .i64 8, .int .i64 n, .string (tx m)] 25))
  have HM := tx_mt m
  have HM2 := tx_mtB m
  have HE := Lib.hid (show opB ⟨8, n, m⟩ = (inB n 0 300 && m.isEmpty) from rfl)
  have HN := Lib.hid (fun w => l11Place_any n w)
  generalize inB n 0 300 = b at *
  cases b
  · go_enter Tryd.func14, Tryd.ntmps14
    go_wp2_with fail
    refine (HN.out _).mono ?_; rintro e w1 ⟨rfl, rfl⟩
    go_wp2_with fail
    refine bodyPost_ret (v := .bool false) (by simp [results, Tryd.results14, go_sem]) rfl ⟨by rw [HE.out]; rfl, HB.out⟩
  · go_enter Tryd.func14, Tryd.ntmps14
    go_wp2_with fail
    refine (HN.out _).mono ?_; rintro e w1 ⟨rfl, rfl⟩
    go_wp2_with fail
    refine bodyPost_ret (v := .bool m.isEmpty) (by simp [results, Tryd.results14, go_sem]) rfl ⟨by rw [HE.out]; rfl, HB.out⟩
set_option maxHeartbeats 4000000 in
set_option maxRecDepth 100000 in
theorem specOp_x (k n : Int) (hk : k < 1 ∨ 8 < k) (m : Tk) (w : World) :
    Calls Tryd.prog 14 #[.agg #[.int .i64 k, .int .i64 n, .string (tx m)]] w fun e w' => e = .returned (.bool (opB ⟨k, n, m⟩)) ∧ Below w.heap.size w w' := by
  have HB := Lib.hid (bel1 w (.cells #[.int .i64 k, .int .i64 n, .string (tx m)] 25))
  have HQ := op_eq k n m
  have HE := Lib.hid (show opB ⟨k, n, m⟩ = (inB k 9 11 && (decide (n = 0) && m.isEmpty)) by
    unfold opB isNm
    simp only
    rw [if_neg (by omega), if_neg (by omega), decide_eq_false (by omega : ¬ k = 3), decide_eq_false (by omega : ¬ k = 5), decide_eq_false (by omega : ¬ k = 6), if_neg (by decide), if_neg (by omega), if_neg (by omega)])
  have q1 : (k == 1) = false := beq_eq_false_iff_ne.2 (by omega)
  have q2 : (k == 2) = false := beq_eq_false_iff_ne.2 (by omega)
  have q3 : (k == 3) = false := beq_eq_false_iff_ne.2 (by omega)
  have q4 : (k == 4) = false := beq_eq_false_iff_ne.2 (by omega)
  have q5 : (k == 5) = false := beq_eq_false_iff_ne.2 (by omega)
  have q6 : (k == 6) = false := beq_eq_false_iff_ne.2 (by omega)
  have q7 : (k == 7) = false := beq_eq_false_iff_ne.2 (by omega)
  have q8 : (k == 8) = false := beq_eq_false_iff_ne.2 (by omega)
  by_cases h1 : 9 ≤ k
  · by_cases h2 : k ≤ 11
    · have HI := Lib.hid (show inB k 9 11 = true by unfold inB; simp [h1, h2])
      rw [HI.out] at HE
      generalize (decide (n = 0) && m.isEmpty) = z at *
      go_enter Tryd.func14, Tryd.ntmps14
      go_wp2_with fail
      refine (l1In_any k 9 11 _).mono ?_; rintro e w1 ⟨rfl, rfl⟩
      rw [HI.out]
      go_wp2_with fail
      refine bodyPost_ret (v := .bool z) (by simp [results, Tryd.results14, go_sem]) rfl ⟨by rw [HE.out]; rfl, HB.out⟩
    · have HI := Lib.hid (show inB k 9 11 = false by unfold inB; simp [h2])
      rw [HI.out] at HE
      go_enter Tryd.func14, Tryd.ntmps14
      go_wp2_with fail
      refine (l1In_any k 9 11 _).mono ?_; rintro e w1 ⟨rfl, rfl⟩
      rw [HI.out]
      go_wp2_with fail
      refine bodyPost_ret (v := .bool false) (by simp [results, Tryd.results14, go_sem]) rfl ⟨by rw [HE.out]; rfl, HB.out⟩
  · have HI := Lib.hid (show inB k 9 11 = false by unfold inB; simp [h1])
    rw [HI.out] at HE
    go_enter Tryd.func14, Tryd.ntmps14
    go_wp2_with fail
    refine (l1In_any k 9 11 _).mono ?_; rintro e w1 ⟨rfl, rfl⟩
    rw [HI.out]
    go_wp2_with fail
    refine bodyPost_ret (v := .bool false) (by simp [results, Tryd.results14, go_sem]) rfl ⟨by rw [HE.out]; rfl, HB.out⟩
theorem specOp_any (k n : Int) (m : Tk) (w : World) (hm : m.length ≤ 9223372036854775806) :
    Calls Tryd.prog 14 #[.agg #[.int .i64 k, .int .i64 n, .string (tx m)]] w fun e w' => e = .returned (.bool (opB ⟨k, n, m⟩)) ∧ Below w.heap.size w w' := by
  by_cases hk : k < 1 ∨ 8 < k
  · exact specOp_x k n hk m w
  · have : k = 1 ∨ k = 2 ∨ k = 3 ∨ k = 4 ∨ k = 5 ∨ k = 6 ∨ k = 7 ∨ k = 8 := by omega
    rcases this with rfl | rfl | rfl | rfl | rfl | rfl | rfl | rfl
    · exact specOp_1 n m w
    · exact specOp_2 n m w
    · exact specOp_3 n m w hm
    · exact specOp_4 n m w
    · exact specOp_5 n m w hm
    · exact specOp_6 n m w hm
    · exact specOp_7 n m w
    · exact specOp_8 n m w
theorem operandOf_1 (w : World) : Calls Tryd.prog 19 #[.int .i64 1] w fun e w' => e = .returned (.int .i64 1) ∧ w = w' := by
  go_enter Tryd.func19, Tryd.ntmps19
  go_wp2_with fail
  go_ret
  exact ⟨rfl, rfl⟩
theorem operandOf_2 (w : World) : Calls Tryd.prog 19 #[.int .i64 2] w fun e w' => e = .returned (.int .i64 1) ∧ w = w' := by
  go_enter Tryd.func19, Tryd.ntmps19
  go_wp2_with fail
  go_ret
  exact ⟨rfl, rfl⟩
theorem operandOf_3 (w : World) : Calls Tryd.prog 19 #[.int .i64 3] w fun e w' => e = .returned (.int .i64 2) ∧ w = w' := by
  go_enter Tryd.func19, Tryd.ntmps19
  go_wp2_with fail
  go_ret
  exact ⟨rfl, rfl⟩
theorem operandOf_4 (w : World) : Calls Tryd.prog 19 #[.int .i64 4] w fun e w' => e = .returned (.int .i64 1) ∧ w = w' := by
  go_enter Tryd.func19, Tryd.ntmps19
  go_wp2_with fail
  go_ret
  exact ⟨rfl, rfl⟩
theorem operandOf_5 (w : World) : Calls Tryd.prog 19 #[.int .i64 5] w fun e w' => e = .returned (.int .i64 2) ∧ w = w' := by
  go_enter Tryd.func19, Tryd.ntmps19
  go_wp2_with fail
  go_ret
  exact ⟨rfl, rfl⟩
theorem operandOf_6 (w : World) : Calls Tryd.prog 19 #[.int .i64 6] w fun e w' => e = .returned (.int .i64 2) ∧ w = w' := by
  go_enter Tryd.func19, Tryd.ntmps19
  go_wp2_with fail
  go_ret
  exact ⟨rfl, rfl⟩
theorem operandOf_7 (w : World) : Calls Tryd.prog 19 #[.int .i64 7] w fun e w' => e = .returned (.int .i64 1) ∧ w = w' := by
  go_enter Tryd.func19, Tryd.ntmps19
  go_wp2_with fail
  go_ret
  exact ⟨rfl, rfl⟩
theorem operandOf_8 (w : World) : Calls Tryd.prog 19 #[.int .i64 8] w fun e w' => e = .returned (.int .i64 1) ∧ w = w' := by
  go_enter Tryd.func19, Tryd.ntmps19
  go_wp2_with fail
  go_ret
  exact ⟨rfl, rfl⟩
theorem operandOf_x (k : Int) (hk : k < 1 ∨ 8 < k) (w : World) : Calls Tryd.prog 19 #[.int .i64 k] w fun e w' => e = .returned (.int .i64 0) ∧ w = w' := by
  have q1 : (k == 1) = false := beq_eq_false_iff_ne.2 (by omega)
  have q2 : (k == 2) = false := beq_eq_false_iff_ne.2 (by omega)
  have q3 : (k == 3) = false := beq_eq_false_iff_ne.2 (by omega)
  have q4 : (k == 4) = false := beq_eq_false_iff_ne.2 (by omega)
  have q5 : (k == 5) = false := beq_eq_false_iff_ne.2 (by omega)
  have q6 : (k == 6) = false := beq_eq_false_iff_ne.2 (by omega)
  have q7 : (k == 7) = false := beq_eq_false_iff_ne.2 (by omega)
  have q8 : (k == 8) = false := beq_eq_false_iff_ne.2 (by omega)
  go_enter Tryd.func19, Tryd.ntmps19
  go_wp2_with fail
  go_ret
  exact ⟨rfl, rfl⟩
set_option maxHeartbeats 1000000 in
theorem numberOk_1 (n : Int) (w : World) : Calls Tryd.prog 34 #[.int .i64 1, .int .i64 n] w fun e w' => e = .returned (.bool (isW n)) ∧ w = w' := by
  have HW := Lib.hid (fun w => wordOk_is (rfl : isW n = isW n) w)
  go_enter Tryd.func34, Tryd.ntmps34
  go_wp2_with fail
  refine (HW.out _).mono ?_; rintro e w1 ⟨rfl, rfl⟩
  go_wp2_with fail
  go_ret
  exact ⟨rfl, rfl⟩
set_option maxHeartbeats 1000000 in
theorem numberOk_2 (n : Int) (w : World) : Calls Tryd.prog 34 #[.int .i64 2, .int .i64 n] w fun e w' => e = .returned (.bool (inB n 0 2)) ∧ w = w' := by
  by_cases h1 : 0 ≤ n
  · by_cases h2 : n ≤ 2
    · have HE := Lib.hid (show inB n 0 2 = true by unfold inB; simp [h1, h2])
      have h3 : n < 3 := by omega
      go_enter Tryd.func34, Tryd.ntmps34
      go_wp2_with fail
      go_ret
      exact ⟨by rw [HE.out]; rfl, rfl⟩
    · have HE := Lib.hid (show inB n 0 2 = false by unfold inB; simp [h2])
      have h3 : ¬ n < 3 := by omega
      go_enter Tryd.func34, Tryd.ntmps34
      go_wp2_with fail
      go_ret
      exact ⟨by rw [HE.out]; rfl, rfl⟩
  · have HE := Lib.hid (show inB n 0 2 = false by unfold inB; simp [h1])
    go_enter Tryd.func34, Tryd.ntmps34
    go_wp2_with fail
    go_ret
    exact ⟨by rw [HE.out]; rfl, rfl⟩
set_option maxHeartbeats 1000000 in
theorem numberOk_4 (n : Int) (w : World) : Calls Tryd.prog 34 #[.int .i64 4, .int .i64 n] w fun e w' => e = .returned (.bool (inB n 1 7)) ∧ w = w' := by
  by_cases h1 : 1 ≤ n
  · by_cases h2 : n ≤ 7
    · have HE := Lib.hid (show inB n 1 7 = true by unfold inB; simp [h1, h2])
      have h3 : n < 8 := by omega
      go_enter Tryd.func34, Tryd.ntmps34
      go_wp2_with fail
      go_ret
      exact ⟨by rw [HE.out]; rfl, rfl⟩
    · have HE := Lib.hid (show inB n 1 7 = false by unfold inB; simp [h2])
      have h3 : ¬ n < 8 := by omega
      go_enter Tryd.func34, Tryd.ntmps34
      go_wp2_with fail
      go_ret
      exact ⟨by rw [HE.out]; rfl, rfl⟩
  · have HE := Lib.hid (show inB n 1 7 = false by unfold inB; simp [h1])
    go_enter Tryd.func34, Tryd.ntmps34
    go_wp2_with fail
    go_ret
    exact ⟨by rw [HE.out]; rfl, rfl⟩
set_option maxHeartbeats 1000000 in
theorem numberOk_7 (n : Int) (w : World) : Calls Tryd.prog 34 #[.int .i64 7, .int .i64 n] w fun e w' => e = .returned (.bool (inB n 0 300)) ∧ w = w' := by
  by_cases h1 : 0 ≤ n
  · by_cases h2 : n ≤ 300
    · have HE := Lib.hid (show inB n 0 300 = true by unfold inB; simp [h1, h2])
      have h3 : n < 301 := by omega
      go_enter Tryd.func34, Tryd.ntmps34
      go_wp2_with fail
      go_ret
      exact ⟨by rw [HE.out]; rfl, rfl⟩
    · have HE := Lib.hid (show inB n 0 300 = false by unfold inB; simp [h2])
      have h3 : ¬ n < 301 := by omega
      go_enter Tryd.func34, Tryd.ntmps34
      go_wp2_with fail
      go_ret
      exact ⟨by rw [HE.out]; rfl, rfl⟩
  · have HE := Lib.hid (show inB n 0 300 = false by unfold inB; simp [h1])
    go_enter Tryd.func34, Tryd.ntmps34
    go_wp2_with fail
    go_ret
    exact ⟨by rw [HE.out]; rfl, rfl⟩
set_option maxHeartbeats 1000000 in
theorem numberOk_8 (n : Int) (w : World) : Calls Tryd.prog 34 #[.int .i64 8, .int .i64 n] w fun e w' => e = .returned (.bool (inB n 0 300)) ∧ w = w' := by
  by_cases h1 : 0 ≤ n
  · by_cases h2 : n ≤ 300
    · have HE := Lib.hid (show inB n 0 300 = true by unfold inB; simp [h1, h2])
      have h3 : n < 301 := by omega
      go_enter Tryd.func34, Tryd.ntmps34
      go_wp2_with fail
      go_ret
      exact ⟨by rw [HE.out]; rfl, rfl⟩
    · have HE := Lib.hid (show inB n 0 300 = false by unfold inB; simp [h2])
      have h3 : ¬ n < 301 := by omega
      go_enter Tryd.func34, Tryd.ntmps34
      go_wp2_with fail
      go_ret
      exact ⟨by rw [HE.out]; rfl, rfl⟩
  · have HE := Lib.hid (show inB n 0 300 = false by unfold inB; simp [h1])
    go_enter Tryd.func34, Tryd.ntmps34
    go_wp2_with fail
    go_ret
    exact ⟨by rw [HE.out]; rfl, rfl⟩
set_option maxHeartbeats 4000000 in
set_option maxRecDepth 100000 in
theorem implOp_1 (n : Int) (m : Tk) (w : World) :
    Calls Tryd.prog 13 #[.agg #[.int .i64 1, .int .i64 n, .string (tx m)]] w fun e w' => e = .returned (.bool (opB ⟨1, n, m⟩)) ∧ Below w.heap.size w w' := by
  have HB := Lib.hid (bel1 w (.cells #[.int .i64 1, .int .i64 n, .string (tx m)] 25))
  have HM := tx_mt m
  have HM2 := tx_mtB m
  have HE := Lib.hid (show opB ⟨1, n, m⟩ = (isW n && m.isEmpty) from rfl)
  have HN := Lib.hid (fun w => numberOk_1 n w)
  generalize isW n = b at *
  cases he : m.isEmpty
  · rw [he] at HM HM2 HE
    go_enter Tryd.func13, Tryd.ntmps13
    go_wp2_with fail
    refine (operandOf_1 _).mono ?_; rintro e w1 ⟨rfl, rfl⟩
    go_wp2_with fail
    refine bodyPost_ret (v := .bool false) (by simp [results, Tryd.results13, go_sem]) rfl ⟨by rw [HE.out]; cases b <;> rfl, HB.out⟩
  · rw [he] at HM HM2 HE
    go_enter Tryd.func13, Tryd.ntmps13
    go_wp2_with fail
    refine (operandOf_1 _).mono ?_; rintro e w1 ⟨rfl, rfl⟩
    go_wp2_with fail
    refine (HN.out _).mono ?_; rintro e w1 ⟨rfl, rfl⟩
    go_wp2_with fail
    refine bodyPost_ret (v := .bool b) (by simp [results, Tryd.results13, go_sem]) rfl ⟨by rw [HE.out]; cases b <;> rfl, HB.out⟩
set_option maxHeartbeats 4000000 in
set_option maxRecDepth 100000 in
theorem implOp_2 (n : Int) (m : Tk) (w : World) :
    Calls Tryd.prog 13 #[.agg #[.int .i64 2, .int .i64 n, .string (tx m)]] w fun e w' => e = .returned (.bool (opB ⟨2, n, m⟩)) ∧ Below w.heap.size w w' := by
  have HB := Lib.hid (bel1 w (.cells #[.int .i64 2, .int .i64 n, .string (tx m)] 25))
  have HM := tx_mt m
  have HM2 := tx_mtB m
  have HE := Lib.hid (show opB ⟨2, n, m⟩ = (inB n 0 2 && m.isEmpty) from rfl)
  have HN := Lib.hid (fun w => numberOk_2 n w)
  generalize inB n 0 2 = b at *
  cases he : m.isEmpty
  · rw [he] at HM HM2 HE
    go_enter Tryd.func13, Tryd.ntmps13
    go_wp2_with fail
    refine (operandOf_2 _).mono ?_; rintro e w1 ⟨rfl, rfl⟩
    go_wp2_with fail
    refine bodyPost_ret (v := .bool false) (by simp [results, Tryd.results13, go_sem]) rfl ⟨by rw [HE.out]; cases b <;> rfl, HB.out⟩
  · rw [he] at HM HM2 HE
    go_enter Tryd.func13, Tryd.ntmps13
    go_wp2_with fail
    refine (operandOf_2 _).mono ?_; rintro e w1 ⟨rfl, rfl⟩
    go_wp2_with fail
    refine (HN.out _).mono ?_; rintro e w1 ⟨rfl, rfl⟩
    go_wp2_with fail
    refine bodyPost_ret (v := .bool b) (by simp [results, Tryd.results13, go_sem]) rfl ⟨by rw [HE.out]; cases b <;> rfl, HB.out⟩
set_option maxHeartbeats 4000000 in
set_option maxRecDepth 100000 in
theorem implOp_3 (n : Int) (m : Tk) (w : World) :
    Calls Tryd.prog 13 #[.agg #[.int .i64 3, .int .i64 n, .string (tx m)]] w fun e w' => e = .returned (.bool (opB ⟨3, n, m⟩)) ∧ Below w.heap.size w w' := by
  have HB := Lib.hid (bel1 w (.cells #[.int .i64 3, .int .i64 n, .string (tx m)] 25))
  have HM := tx_mt m
  have HM2 := tx_mtB m
  have HE := Lib.hid (show opB ⟨3, n, m⟩ = (nmB m && decide (n = 0)) from rfl)
  have HN := Lib.hid (fun w => nmI_is m w)
  by_cases hn : n = 0
  · subst hn
    generalize nmB m = b at *
    go_enter Tryd.func13, Tryd.ntmps13
    go_wp2_with fail
    refine (operandOf_3 _).mono ?_; rintro e w1 ⟨rfl, rfl⟩
    go_wp2_with fail
    refine (HN.out _).mono ?_; rintro e w1 ⟨rfl, rfl⟩
    go_wp2_with fail
    refine bodyPost_ret (v := .bool b) (by simp [results, Tryd.results13, go_sem]) rfl ⟨by rw [HE.out]; cases b <;> rfl, HB.out⟩
  · have hnb : (n == 0) = false := beq_eq_false_iff_ne.2 hn
    have hnd : decide (n = 0) = false := decide_eq_false hn
    rw [hnd] at HE
    generalize nmB m = b at *
    go_enter Tryd.func13, Tryd.ntmps13
    go_wp2_with fail
    refine (operandOf_3 _).mono ?_; rintro e w1 ⟨rfl, rfl⟩
    go_wp2_with fail
    refine bodyPost_ret (v := .bool false) (by simp [results, Tryd.results13, go_sem]) rfl ⟨by rw [HE.out]; cases b <;> rfl, HB.out⟩
set_option maxHeartbeats 4000000 in
set_option maxRecDepth 100000 in
theorem implOp_4 (n : Int) (m : Tk) (w : World) :
    Calls Tryd.prog 13 #[.agg #[.int .i64 4, .int .i64 n, .string (tx m)]] w fun e w' => e = .returned (.bool (opB ⟨4, n, m⟩)) ∧ Below w.heap.size w w' := by
  have HB := Lib.hid (bel1 w (.cells #[.int .i64 4, .int .i64 n, .string (tx m)] 25))
  have HM := tx_mt m
  have HM2 := tx_mtB m
  have HE := Lib.hid (show opB ⟨4, n, m⟩ = (inB n 1 7 && m.isEmpty) from rfl)
  have HN := Lib.hid (fun w => numberOk_4 n w)
  generalize inB n 1 7 = b at *
  cases he : m.isEmpty
  · rw [he] at HM HM2 HE
    go_enter Tryd.func13, Tryd.ntmps13
    go_wp2_with fail
    refine (operandOf_4 _).mono ?_; rintro e w1 ⟨rfl, rfl⟩
    go_wp2_with fail
    refine bodyPost_ret (v := .bool false) (by simp [results, Tryd.results13, go_sem]) rfl ⟨by rw [HE.out]; cases b <;> rfl, HB.out⟩
  · rw [he] at HM HM2 HE
    go_enter Tryd.func13, Tryd.ntmps13
    go_wp2_with fail
    refine (operandOf_4 _).mono ?_; rintro e w1 ⟨rfl, rfl⟩
    go_wp2_with fail
    refine (HN.out _).mono ?_; rintro e w1 ⟨rfl, rfl⟩
    go_wp2_with fail
    refine bodyPost_ret (v := .bool b) (by simp [results, Tryd.results13, go_sem]) rfl ⟨by rw [HE.out]; cases b <;> rfl, HB.out⟩
set_option maxHeartbeats 4000000 in
set_option maxRecDepth 100000 in
theorem implOp_5 (n : Int) (m : Tk) (w : World) :
    Calls Tryd.prog 13 #[.agg #[.int .i64 5, .int .i64 n, .string (tx m)]] w fun e w' => e = .returned (.bool (opB ⟨5, n, m⟩)) ∧ Below w.heap.size w w' := by
  have HB := Lib.hid (bel1 w (.cells #[.int .i64 5, .int .i64 n, .string (tx m)] 25))
  have HM := tx_mt m
  have HM2 := tx_mtB m
  have HE := Lib.hid (show opB ⟨5, n, m⟩ = (nmB m && decide (n = 0)) from rfl)
  have HN := Lib.hid (fun w => nmI_is m w)
  by_cases hn : n = 0
  · subst hn
    generalize nmB m = b at *
    go_enter Tryd.func13, Tryd.ntmps13
    go_wp2_with fail
    refine (operandOf_5 _).mono ?_; rintro e w1 ⟨rfl, rfl⟩
    go_wp2_with fail
    refine (HN.out _).mono ?_; rintro e w1 ⟨rfl, rfl⟩
    go_wp2_with fail
    refine bodyPost_ret (v := .bool b) (by simp [results, Tryd.results13, go_sem]) rfl ⟨by rw [HE.out]; cases b <;> rfl, HB.out⟩
  · have hnb : (n == 0) = false := beq_eq_false_iff_ne.2 hn
    have hnd : decide (n = 0) = false := decide_eq_false hn
    rw [hnd] at HE
    generalize nmB m = b at *
    go_enter Tryd.func13, Tryd.ntmps13
    go_wp2_with fail
    refine (operandOf_5 _).mono ?_; rintro e w1 ⟨rfl, rfl⟩
    go_wp2_with fail
    refine bodyPost_ret (v := .bool false) (by simp [results, Tryd.results13, go_sem]) rfl ⟨by rw [HE.out]; cases b <;> rfl, HB.out⟩
set_option maxHeartbeats 4000000 in
set_option maxRecDepth 100000 in
theorem implOp_6 (n : Int) (m : Tk) (w : World) :
    Calls Tryd.prog 13 #[.agg #[.int .i64 6, .int .i64 n, .string (tx m)]] w fun e w' => e = .returned (.bool (opB ⟨6, n, m⟩)) ∧ Below w.heap.size w w' := by
  have HB := Lib.hid (bel1 w (.cells #[.int .i64 6, .int .i64 n, .string (tx m)] 25))
  have HM := tx_mt m
  have HM2 := tx_mtB m
  have HE := Lib.hid (show opB ⟨6, n, m⟩ = (nmB m && decide (n = 0)) from rfl)
  have HN := Lib.hid (fun w => nmI_is m w)
  by_cases hn : n = 0
  · subst hn
    generalize nmB m = b at *
    go_enter Tryd.func13, Tryd.ntmps13
    go_wp2_with fail
    refine (operandOf_6 _).mono ?_; rintro e w1 ⟨rfl, rfl⟩
    go_wp2_with fail
    refine (HN.out _).mono ?_; rintro e w1 ⟨rfl, rfl⟩
    go_wp2_with fail
    refine bodyPost_ret (v := .bool b) (by simp [results, Tryd.results13, go_sem]) rfl ⟨by rw [HE.out]; cases b <;> rfl, HB.out⟩
  · have hnb : (n == 0) = false := beq_eq_false_iff_ne.2 hn
    have hnd : decide (n = 0) = false := decide_eq_false hn
    rw [hnd] at HE
    generalize nmB m = b at *
    go_enter Tryd.func13, Tryd.ntmps13
    go_wp2_with fail
    refine (operandOf_6 _).mono ?_; rintro e w1 ⟨rfl, rfl⟩
    go_wp2_with fail
    refine bodyPost_ret (v := .bool false) (by simp [results, Tryd.results13, go_sem]) rfl ⟨by rw [HE.out]; cases b <;> rfl, HB.out⟩
set_option maxHeartbeats 4000000 in
set_option maxRecDepth 100000 in
theorem implOp_7 (n : Int) (m : Tk) (w : World) :
    Calls Tryd.prog 13 #[.agg #[.int .i64 7, .int .i64 n, .string (tx m)]] w fun e w' => e = .returned (.bool (opB ⟨7, n, m⟩)) ∧ Below w.heap.size w w' := by
  have HB := Lib.hid (bel1 w (.cells #[.int .i64 7, .int .i64 n, .string (tx m)] 25))
  have HM := tx_mt m
  have HM2 := tx_mtB m
  have HE := Lib.hid (show opB ⟨7, n, m⟩ = (inB n 0 300 && m.isEmpty) from rfl)
  have HN := Lib.hid (fun w => numberOk_7 n w)
  generalize inB n 0 300 = b at *
  cases he : m.isEmpty
  · rw [he] at HM HM2 HE
    go_enter Tryd.func13, Tryd.ntmps13
    go_wp2_with fail
    refine (operandOf_7 _).mono ?_; rintro e w1 ⟨rfl, rfl⟩
    go_wp2_with fail
    refine bodyPost_ret (v := .bool false) (by simp [results, Tryd.results13, go_sem]) rfl ⟨by rw [HE.out]; cases b <;> rfl, HB.out⟩
  · rw [he] at HM HM2 HE
    go_enter Tryd.func13, Tryd.ntmps13
    go_wp2_with fail
    refine (operandOf_7 _).mono ?_; rintro e w1 ⟨rfl, rfl⟩
    go_wp2_with fail
    refine (HN.out _).mono ?_; rintro e w1 ⟨rfl, rfl⟩
    go_wp2_with fail
    refine bodyPost_ret (v := .bool b) (by simp [results, Tryd.results13, go_sem]) rfl ⟨by rw [HE.out]; cases b <;> rfl, HB.out⟩
set_option maxHeartbeats 4000000 in
set_option maxRecDepth 100000 in
theorem implOp_8 (n : Int) (m : Tk) (w : World) :
    Calls Tryd.prog 13 #[.agg #[.int .i64 8, .int .i64 n, .string (tx m)]] w fun e w' => e = .returned (.bool (opB ⟨8, n, m⟩)) ∧ Below w.heap.size w w' := by
  have HB := Lib.hid (bel1 w (.cells #[.int .i64 8, .int .i64 n, .string (tx m)] 25))
  have HM := tx_mt m
  have HM2 := tx_mtB m
  have HE := Lib.hid (show opB ⟨8, n, m⟩ = (inB n 0 300 && m.isEmpty) from rfl)
  have HN := Lib.hid (fun w => numberOk_8 n w)
  generalize inB n 0 300 = b at *
  cases he : m.isEmpty
  · rw [he] at HM HM2 HE
    go_enter Tryd.func13, Tryd.ntmps13
    go_wp2_with fail
    refine (operandOf_8 _).mono ?_; rintro e w1 ⟨rfl, rfl⟩
    go_wp2_with fail
    refine bodyPost_ret (v := .bool false) (by simp [results, Tryd.results13, go_sem]) rfl ⟨by rw [HE.out]; cases b <;> rfl, HB.out⟩
  · rw [he] at HM HM2 HE
    go_enter Tryd.func13, Tryd.ntmps13
    go_wp2_with fail
    refine (operandOf_8 _).mono ?_; rintro e w1 ⟨rfl, rfl⟩
    go_wp2_with fail
    refine (HN.out _).mono ?_; rintro e w1 ⟨rfl, rfl⟩
    go_wp2_with fail
    refine bodyPost_ret (v := .bool b) (by simp [results, Tryd.results13, go_sem]) rfl ⟨by rw [HE.out]; cases b <;> rfl, HB.out⟩
set_option maxHeartbeats 4000000 in
set_option maxRecDepth 100000 in
theorem implOp_x (k n : Int) (hk : k < 1 ∨ 8 < k) (m : Tk) (w : World) :
    Calls Tryd.prog 13 #[.agg #[.int .i64 k, .int .i64 n, .string (tx m)]] w fun e w' => e = .returned (.bool (opB ⟨k, n, m⟩)) ∧ Below w.heap.size w w' := by
  have HB := Lib.hid (bel1 w (.cells #[.int .i64 k, .int .i64 n, .string (tx m)] 25))
  have HQ := op_eq k n m
  have HE := Lib.hid (show opB ⟨k, n, m⟩ = (inB k 9 11 && (decide (n = 0) && m.isEmpty)) by
    unfold opB isNm
    simp only
    rw [if_neg (by omega), if_neg (by omega), decide_eq_false (by omega : ¬ k = 3), decide_eq_false (by omega : ¬ k = 5), decide_eq_false (by omega : ¬ k = 6), if_neg (by decide), if_neg (by omega), if_neg (by omega)])
  have q1 : (k == 1) = false := beq_eq_false_iff_ne.2 (by omega)
  have q2 : (k == 2) = false := beq_eq_false_iff_ne.2 (by omega)
  have q3 : (k == 3) = false := beq_eq_false_iff_ne.2 (by omega)
  have q4 : (k == 4) = false := beq_eq_false_iff_ne.2 (by omega)
  have q5 : (k == 5) = false := beq_eq_false_iff_ne.2 (by omega)
  have q6 : (k == 6) = false := beq_eq_false_iff_ne.2 (by omega)
  have q7 : (k == 7) = false := beq_eq_false_iff_ne.2 (by omega)
  have q8 : (k == 8) = false := beq_eq_false_iff_ne.2 (by omega)
  by_cases h1 : 9 ≤ k
  · by_cases h2 : k ≤ 11
    · have HI := Lib.hid (show inB k 9 11 = true by unfold inB; simp [h1, h2])
      rw [HI.out] at HE
      generalize (decide (n = 0) && m.isEmpty) = z at *
      go_enter Tryd.func13, Tryd.ntmps13
      go_wp2_with fail
      refine (operandOf_x k hk _).mono ?_; rintro e w1 ⟨rfl, rfl⟩
      go_wp2_with fail
      refine bodyPost_ret (v := .bool z) (by simp [results, Tryd.results13, go_sem]) rfl ⟨by rw [HE.out]; rfl, HB.out⟩
    · have HI := Lib.hid (show inB k 9 11 = false by unfold inB; simp [h2])
      rw [HI.out] at HE
      go_enter Tryd.func13, Tryd.ntmps13
      go_wp2_with fail
      refine (operandOf_x k hk _).mono ?_; rintro e w1 ⟨rfl, rfl⟩
      go_wp2_with fail
      refine bodyPost_ret (v := .bool false) (by simp [results, Tryd.results13, go_sem]) rfl ⟨by rw [HE.out]; rfl, HB.out⟩
  · have HI := Lib.hid (show inB k 9 11 = false by unfold inB; simp [h1])
    rw [HI.out] at HE
    go_enter Tryd.func13, Tryd.ntmps13
    go_wp2_with fail
    refine (operandOf_x k hk _).mono ?_; rintro e w1 ⟨rfl, rfl⟩
    go_wp2_with fail
    refine bodyPost_ret (v := .bool false) (by simp [results, Tryd.results13, go_sem]) rfl ⟨by rw [HE.out]; rfl, HB.out⟩
theorem implOp_any (k n : Int) (m : Tk) (w : World) (hm : m.length ≤ 9223372036854775806) :
    Calls Tryd.prog 13 #[.agg #[.int .i64 k, .int .i64 n, .string (tx m)]] w fun e w' => e = .returned (.bool (opB ⟨k, n, m⟩)) ∧ Below w.heap.size w w' := by
  by_cases hk : k < 1 ∨ 8 < k
  · exact implOp_x k n hk m w
  · have : k = 1 ∨ k = 2 ∨ k = 3 ∨ k = 4 ∨ k = 5 ∨ k = 6 ∨ k = 7 ∨ k = 8 := by omega
    rcases this with rfl | rfl | rfl | rfl | rfl | rfl | rfl | rfl
    · exact implOp_1 n m w
    · exact implOp_2 n m w
    · exact implOp_3 n m w
    · exact implOp_4 n m w
    · exact implOp_5 n m w
    · exact implOp_6 n m w
    · exact implOp_7 n m w
    · exact implOp_8 n m w
end Go.Proofs.YtoiphglfngkoiaaDoor.Cl
