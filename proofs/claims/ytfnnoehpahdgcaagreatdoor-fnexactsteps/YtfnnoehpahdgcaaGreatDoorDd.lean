/-
  Contracts of impl.Did and spec.Did: both give the plain function 'did', for every three int64, and leave what was there.
-/
import Derived.Test.YtfnnoehpahdgcaaGreatDoorWd
import Derived.RowKit3
import Derived.Below
namespace Go.Proofs.YtfnnoehpahdgcaaGreatDoor.Wd
open Go.RowKit
set_option linter.unusedVariables false

/-- The first result of Did. -/
def didV (op a b : Int) : Int :=
  if isW a && isW b then
    if op = 1 then wr (a + b) else if op = 2 then wr (a - b) else if op = 3 then wr (a * b)
    else if op = 4 then (if b = 0 then 0 else wr (a.tdiv b))
    else if op = 5 then (if a < b then 1 else 0) else if op = 6 then (if a = b then 1 else 0)
    else if op = 7 then (if a ≠ 0 ∧ b ≠ 0 then 1 else 0) else 0
  else 0
/-- The second. -/
def didB (op a b : Int) : Bool :=
  isW a && isW b && (decide (1 ≤ op) && decide (op ≤ 7)) && !(decide (op = 4) && decide (b = 0))

theorem implDid_na (op a b : Int) (w : World) (ha : isW a = false) :
    Calls Tryz.prog 151 #[.int .i64 op, .int .i64 a, .int .i64 b] w fun e w' => e = .returned (.tuple #[.int .i64 0, .bool false]) ∧ w = w' := by
  go_enter Tryz.func151, Tryz.ntmps151
  go_wp2_with (go_at_call 96; refine (implWordOk_any _ _).mono ?_; rintro e w' ⟨rfl, rfl⟩)
  go_ret2
  exact ⟨rfl, rfl⟩
theorem implDid_nb (op a b : Int) (w : World) (ha : isW a = true) (hb : isW b = false) :
    Calls Tryz.prog 151 #[.int .i64 op, .int .i64 a, .int .i64 b] w fun e w' => e = .returned (.tuple #[.int .i64 0, .bool false]) ∧ w = w' := by
  go_enter Tryz.func151, Tryz.ntmps151
  go_wp2_with (go_at_call 96; refine (implWordOk_any _ _).mono ?_; rintro e w' ⟨rfl, rfl⟩)
  go_ret2
  exact ⟨rfl, rfl⟩
theorem implDid_zero (a : Int) (w : World) (ha : isW a = true) :
    Calls Tryz.prog 151 #[.int .i64 4, .int .i64 a, .int .i64 0] w fun e w' => e = .returned (.tuple #[.int .i64 0, .bool false]) ∧ w = w' := by
  have hb : isW 0 = true := by decide
  go_enter Tryz.func151, Tryz.ntmps151
  go_wp2_with (go_at_call 96; refine (implWordOk_any _ _).mono ?_; rintro e w' ⟨rfl, rfl⟩)
  go_ret2
  exact ⟨rfl, rfl⟩
theorem nn40 (w : World) : Sem.run Tryz.prog (binOp BinOp.neq 175 Value.nilFunc Value.nilFunc) w = .ok (.bool false) w := by kernel_rfl
theorem fn40 (fn : Fn) (x y : Array Value) (w : World) : Sem.run Tryz.prog (binOp BinOp.neq 175 (Value.func fn x y) Value.nilFunc) w = .ok (.bool true) w := by kernel_rfl
theorem nn42 (w : World) : Sem.run Tryz.prog (binOp BinOp.neq 177 Value.nilFunc Value.nilFunc) w = .ok (.bool false) w := by kernel_rfl
theorem fn42 (fn : Fn) (x y : Array Value) (w : World) : Sem.run Tryz.prog (binOp BinOp.neq 177 (Value.func fn x y) Value.nilFunc) w = .ok (.bool true) w := by kernel_rfl
theorem implDid_1 (a b : Int) (w : World) (ha : isW a = true) (hb : isW b = true) (a1 : -2147483648 ≤ a) (a2 : a ≤ 2147483647) (b1 : -2147483648 ≤ b) (b2 : b ≤ 2147483647)  :
    Calls Tryz.prog 151 #[.int .i64 1, .int .i64 a, .int .i64 b] w fun e w' => e = .returned (.tuple #[.int .i64 (wr (a + b)), .bool true]) ∧ w = w' := by
  have g1 := fn40
  go_enter Tryz.func151, Tryz.ntmps151
  go_wp2_with (first | (go_at_call 96; refine (implWordOk_any _ _).mono ?_; rintro e w' ⟨rfl, rfl⟩) | go_in)
  go_ret2
  exact ⟨by rw [wr64]; rfl, rfl⟩

theorem implDid_2 (a b : Int) (w : World) (ha : isW a = true) (hb : isW b = true) (a1 : -2147483648 ≤ a) (a2 : a ≤ 2147483647) (b1 : -2147483648 ≤ b) (b2 : b ≤ 2147483647)  :
    Calls Tryz.prog 151 #[.int .i64 2, .int .i64 a, .int .i64 b] w fun e w' => e = .returned (.tuple #[.int .i64 (wr (a - b)), .bool true]) ∧ w = w' := by
  have g1 := fn40
  go_enter Tryz.func151, Tryz.ntmps151
  go_wp2_with (first | (go_at_call 96; refine (implWordOk_any _ _).mono ?_; rintro e w' ⟨rfl, rfl⟩) | go_in)
  go_ret2
  exact ⟨by rw [wr64]; rfl, rfl⟩

theorem implDid_3 (a b : Int) (w : World) (ha : isW a = true) (hb : isW b = true) (a1 : -2147483648 ≤ a) (a2 : a ≤ 2147483647) (b1 : -2147483648 ≤ b) (b2 : b ≤ 2147483647)  :
    Calls Tryz.prog 151 #[.int .i64 3, .int .i64 a, .int .i64 b] w fun e w' => e = .returned (.tuple #[.int .i64 (wr (a * b)), .bool true]) ∧ w = w' := by
  have g1 := fn40
  go_enter Tryz.func151, Tryz.ntmps151
  go_wp2_with (first | (go_at_call 96; refine (implWordOk_any _ _).mono ?_; rintro e w' ⟨rfl, rfl⟩) | go_in)
  go_ret2
  exact ⟨by rw [wr64]; rfl, rfl⟩

theorem implDid_4 (a b : Int) (w : World) (ha : isW a = true) (hb : isW b = true) (a1 : -2147483648 ≤ a) (a2 : a ≤ 2147483647) (b1 : -2147483648 ≤ b) (b2 : b ≤ 2147483647) (h : (b == 0) = false) (h' : ¬ b = 0) :
    Calls Tryz.prog 151 #[.int .i64 4, .int .i64 a, .int .i64 b] w fun e w' => e = .returned (.tuple #[.int .i64 (wr (a.tdiv b)), .bool true]) ∧ w = w' := by
  have g1 := fn40
  go_enter Tryz.func151, Tryz.ntmps151
  go_wp2_with (first | (go_at_call 96; refine (implWordOk_any _ _).mono ?_; rintro e w' ⟨rfl, rfl⟩) | go_in)
  go_ret2
  exact ⟨by rw [wr64]; rfl, rfl⟩

theorem implDid_5t (a b : Int) (w : World) (ha : isW a = true) (hb : isW b = true) (a1 : -2147483648 ≤ a) (a2 : a ≤ 2147483647) (b1 : -2147483648 ≤ b) (b2 : b ≤ 2147483647) (h : a < b) :
    Calls Tryz.prog 151 #[.int .i64 5, .int .i64 a, .int .i64 b] w fun e w' => e = .returned (.tuple #[.int .i64 1, .bool true]) ∧ w = w' := by
  have g1 := nn40
  have g2 := fn42
  go_enter Tryz.func151, Tryz.ntmps151
  go_wp2_with (first | (go_at_call 96; refine (implWordOk_any _ _).mono ?_; rintro e w' ⟨rfl, rfl⟩) | go_in)
  go_ret2
  exact ⟨rfl, rfl⟩

theorem implDid_5f (a b : Int) (w : World) (ha : isW a = true) (hb : isW b = true) (a1 : -2147483648 ≤ a) (a2 : a ≤ 2147483647) (b1 : -2147483648 ≤ b) (b2 : b ≤ 2147483647) (h : ¬ a < b) :
    Calls Tryz.prog 151 #[.int .i64 5, .int .i64 a, .int .i64 b] w fun e w' => e = .returned (.tuple #[.int .i64 0, .bool true]) ∧ w = w' := by
  have g1 := nn40
  have g2 := fn42
  go_enter Tryz.func151, Tryz.ntmps151
  go_wp2_with (first | (go_at_call 96; refine (implWordOk_any _ _).mono ?_; rintro e w' ⟨rfl, rfl⟩) | go_in)
  go_ret2
  exact ⟨rfl, rfl⟩

theorem implDid_6t (a b : Int) (w : World) (ha : isW a = true) (hb : isW b = true) (a1 : -2147483648 ≤ a) (a2 : a ≤ 2147483647) (b1 : -2147483648 ≤ b) (b2 : b ≤ 2147483647) (h : (a == b) = true) :
    Calls Tryz.prog 151 #[.int .i64 6, .int .i64 a, .int .i64 b] w fun e w' => e = .returned (.tuple #[.int .i64 1, .bool true]) ∧ w = w' := by
  have g1 := nn40
  have g2 := fn42
  go_enter Tryz.func151, Tryz.ntmps151
  go_wp2_with (first | (go_at_call 96; refine (implWordOk_any _ _).mono ?_; rintro e w' ⟨rfl, rfl⟩) | go_in)
  go_ret2
  exact ⟨rfl, rfl⟩

theorem implDid_6f (a b : Int) (w : World) (ha : isW a = true) (hb : isW b = true) (a1 : -2147483648 ≤ a) (a2 : a ≤ 2147483647) (b1 : -2147483648 ≤ b) (b2 : b ≤ 2147483647) (h : (a == b) = false) :
    Calls Tryz.prog 151 #[.int .i64 6, .int .i64 a, .int .i64 b] w fun e w' => e = .returned (.tuple #[.int .i64 0, .bool true]) ∧ w = w' := by
  have g1 := nn40
  have g2 := fn42
  go_enter Tryz.func151, Tryz.ntmps151
  go_wp2_with (first | (go_at_call 96; refine (implWordOk_any _ _).mono ?_; rintro e w' ⟨rfl, rfl⟩) | go_in)
  go_ret2
  exact ⟨rfl, rfl⟩

theorem implDid_7t (a b : Int) (w : World) (ha : isW a = true) (hb : isW b = true) (a1 : -2147483648 ≤ a) (a2 : a ≤ 2147483647) (b1 : -2147483648 ≤ b) (b2 : b ≤ 2147483647) (h : (a != 0) = true) (h' : (b != 0) = true) :
    Calls Tryz.prog 151 #[.int .i64 7, .int .i64 a, .int .i64 b] w fun e w' => e = .returned (.tuple #[.int .i64 1, .bool true]) ∧ w = w' := by
  have g1 := nn40
  have g2 := fn42
  go_enter Tryz.func151, Tryz.ntmps151
  go_wp2_with (first | (go_at_call 96; refine (implWordOk_any _ _).mono ?_; rintro e w' ⟨rfl, rfl⟩) | go_in)
  go_ret2
  exact ⟨rfl, rfl⟩

theorem implDid_7a (a b : Int) (w : World) (ha : isW a = true) (hb : isW b = true) (a1 : -2147483648 ≤ a) (a2 : a ≤ 2147483647) (b1 : -2147483648 ≤ b) (b2 : b ≤ 2147483647) (h : (a != 0) = false) :
    Calls Tryz.prog 151 #[.int .i64 7, .int .i64 a, .int .i64 b] w fun e w' => e = .returned (.tuple #[.int .i64 0, .bool true]) ∧ w = w' := by
  have g1 := nn40
  have g2 := fn42
  go_enter Tryz.func151, Tryz.ntmps151
  go_wp2_with (first | (go_at_call 96; refine (implWordOk_any _ _).mono ?_; rintro e w' ⟨rfl, rfl⟩) | go_in)
  go_ret2
  exact ⟨rfl, rfl⟩

theorem implDid_7b (a b : Int) (w : World) (ha : isW a = true) (hb : isW b = true) (a1 : -2147483648 ≤ a) (a2 : a ≤ 2147483647) (b1 : -2147483648 ≤ b) (b2 : b ≤ 2147483647) (h : (a != 0) = true) (h' : (b != 0) = false) :
    Calls Tryz.prog 151 #[.int .i64 7, .int .i64 a, .int .i64 b] w fun e w' => e = .returned (.tuple #[.int .i64 0, .bool true]) ∧ w = w' := by
  have g1 := nn40
  have g2 := fn42
  go_enter Tryz.func151, Tryz.ntmps151
  go_wp2_with (first | (go_at_call 96; refine (implWordOk_any _ _).mono ?_; rintro e w' ⟨rfl, rfl⟩) | go_in)
  go_ret2
  exact ⟨rfl, rfl⟩

theorem implDid_x (op a b : Int) (w : World) (ha : isW a = true) (hb : isW b = true) (a1 : -2147483648 ≤ a) (a2 : a ≤ 2147483647) (b1 : -2147483648 ≤ b) (b2 : b ≤ 2147483647) (h1 : (op == 1) = false) (h2 : (op == 2) = false) (h3 : (op == 3) = false) (h4 : (op == 4) = false) (h5 : (op == 5) = false) (h6 : (op == 6) = false) (h7 : (op == 7) = false) :
    Calls Tryz.prog 151 #[.int .i64 op, .int .i64 a, .int .i64 b] w fun e w' => e = .returned (.tuple #[.int .i64 0, .bool false]) ∧ w = w' := by
  have g1 := nn40
  have g2 := nn42
  go_enter Tryz.func151, Tryz.ntmps151
  go_wp2_with (first | (go_at_call 96; refine (implWordOk_any _ _).mono ?_; rintro e w' ⟨rfl, rfl⟩) | go_in)
  go_ret2
  exact ⟨rfl, rfl⟩

theorem specDid_na (op a b : Int) (w : World) (ha : isW a = false) :
    Calls Tryz.prog 127 #[.int .i64 op, .int .i64 a, .int .i64 b] w fun e w' => e = .returned (.tuple #[.int .i64 0, .bool false]) ∧ w = w' := by
  go_enter Tryz.func127, Tryz.ntmps127
  go_wp2_with (go_at_call 57; refine (l1Word_any _ _).mono ?_; rintro e w' ⟨rfl, rfl⟩)
  go_ret2
  exact ⟨rfl, rfl⟩
theorem specDid_nb (op a b : Int) (w : World) (ha : isW a = true) (hb : isW b = false) :
    Calls Tryz.prog 127 #[.int .i64 op, .int .i64 a, .int .i64 b] w fun e w' => e = .returned (.tuple #[.int .i64 0, .bool false]) ∧ w = w' := by
  go_enter Tryz.func127, Tryz.ntmps127
  go_wp2_with (go_at_call 57; refine (l1Word_any _ _).mono ?_; rintro e w' ⟨rfl, rfl⟩)
  go_ret2
  exact ⟨rfl, rfl⟩
theorem specDid_zero (a : Int) (w : World) (ha : isW a = true) :
    Calls Tryz.prog 127 #[.int .i64 4, .int .i64 a, .int .i64 0] w fun e w' => e = .returned (.tuple #[.int .i64 0, .bool false]) ∧ w = w' := by
  have hb : isW 0 = true := by decide
  go_enter Tryz.func127, Tryz.ntmps127
  go_wp2_with (go_at_call 57; refine (l1Word_any _ _).mono ?_; rintro e w' ⟨rfl, rfl⟩)
  go_ret2
  exact ⟨rfl, rfl⟩
theorem mul_bd (a b : Int) (a1 : -2147483648 ≤ a) (a2 : a ≤ 2147483647) (b1 : -2147483648 ≤ b) (b2 : b ≤ 2147483647) : -4611686018427387904 ≤ a * b ∧ a * b ≤ 4611686018427387904 := by
  have h1 : (a * b).natAbs ≤ 2147483648 * 2147483648 := by rw [Int.natAbs_mul]; exact Nat.mul_le_mul (by omega) (by omega)
  omega
theorem tdiv_bd (a b : Int) (a1 : -2147483648 ≤ a) (a2 : a ≤ 2147483647) : -2147483648 ≤ a.tdiv b ∧ a.tdiv b ≤ 2147483648 := by
  have h1 : (a.tdiv b).natAbs ≤ a.natAbs := by rw [Int.natAbs_tdiv]; exact Nat.div_le_self _ _
  omega

theorem specDid_1 (a b : Int) (w : World) (ha : isW a = true) (hb : isW b = true) (a1 : -2147483648 ≤ a) (a2 : a ≤ 2147483647) (b1 : -2147483648 ≤ b) (b2 : b ≤ 2147483647)  :
    Calls Tryz.prog 127 #[.int .i64 1, .int .i64 a, .int .i64 b] w fun e w' => e = .returned (.tuple #[.int .i64 (wr (a + b)), .bool true]) ∧ w = w' := by
  go_enter Tryz.func127, Tryz.ntmps127
  go_wp2_with (first | (go_at_call 57; refine (l1Word_any _ _).mono ?_; rintro e w' ⟨rfl, rfl⟩) | (go_at_call 140; refine (specWrap_any _ _).mono ?_; rintro e w' ⟨rfl, rfl⟩) | go_in)
  go_ret2
  exact ⟨rfl, rfl⟩

theorem specDid_2 (a b : Int) (w : World) (ha : isW a = true) (hb : isW b = true) (a1 : -2147483648 ≤ a) (a2 : a ≤ 2147483647) (b1 : -2147483648 ≤ b) (b2 : b ≤ 2147483647)  :
    Calls Tryz.prog 127 #[.int .i64 2, .int .i64 a, .int .i64 b] w fun e w' => e = .returned (.tuple #[.int .i64 (wr (a - b)), .bool true]) ∧ w = w' := by
  go_enter Tryz.func127, Tryz.ntmps127
  go_wp2_with (first | (go_at_call 57; refine (l1Word_any _ _).mono ?_; rintro e w' ⟨rfl, rfl⟩) | (go_at_call 140; refine (specWrap_any _ _).mono ?_; rintro e w' ⟨rfl, rfl⟩) | go_in)
  go_ret2
  exact ⟨rfl, rfl⟩

theorem specDid_3 (a b : Int) (w : World) (ha : isW a = true) (hb : isW b = true) (a1 : -2147483648 ≤ a) (a2 : a ≤ 2147483647) (b1 : -2147483648 ≤ b) (b2 : b ≤ 2147483647)  :
    Calls Tryz.prog 127 #[.int .i64 3, .int .i64 a, .int .i64 b] w fun e w' => e = .returned (.tuple #[.int .i64 (wr (a * b)), .bool true]) ∧ w = w' := by
  obtain ⟨m1, m2⟩ := mul_bd a b a1 a2 b1 b2
  go_enter Tryz.func127, Tryz.ntmps127
  go_wp2_with (first | (go_at_call 57; refine (l1Word_any _ _).mono ?_; rintro e w' ⟨rfl, rfl⟩) | (go_at_call 140; refine (specWrap_any _ _).mono ?_; rintro e w' ⟨rfl, rfl⟩) | go_in)
  go_ret2
  exact ⟨rfl, rfl⟩

theorem specDid_4 (a b : Int) (w : World) (ha : isW a = true) (hb : isW b = true) (a1 : -2147483648 ≤ a) (a2 : a ≤ 2147483647) (b1 : -2147483648 ≤ b) (b2 : b ≤ 2147483647) (h : (b == 0) = false) (h' : ¬ b = 0) :
    Calls Tryz.prog 127 #[.int .i64 4, .int .i64 a, .int .i64 b] w fun e w' => e = .returned (.tuple #[.int .i64 (wr (a.tdiv b)), .bool true]) ∧ w = w' := by
  obtain ⟨m1, m2⟩ := tdiv_bd a b a1 a2
  go_enter Tryz.func127, Tryz.ntmps127
  go_wp2_with (first | (go_at_call 57; refine (l1Word_any _ _).mono ?_; rintro e w' ⟨rfl, rfl⟩) | (go_at_call 140; refine (specWrap_any _ _).mono ?_; rintro e w' ⟨rfl, rfl⟩) | go_in)
  go_ret2
  exact ⟨rfl, rfl⟩

theorem specDid_5t (a b : Int) (w : World) (ha : isW a = true) (hb : isW b = true) (a1 : -2147483648 ≤ a) (a2 : a ≤ 2147483647) (b1 : -2147483648 ≤ b) (b2 : b ≤ 2147483647) (h : a < b) :
    Calls Tryz.prog 127 #[.int .i64 5, .int .i64 a, .int .i64 b] w fun e w' => e = .returned (.tuple #[.int .i64 1, .bool true]) ∧ w = w' := by
  go_enter Tryz.func127, Tryz.ntmps127
  go_wp2_with (first | (go_at_call 57; refine (l1Word_any _ _).mono ?_; rintro e w' ⟨rfl, rfl⟩) | (go_at_call 140; refine (specWrap_any _ _).mono ?_; rintro e w' ⟨rfl, rfl⟩) | go_in)
  go_ret2
  exact ⟨rfl, rfl⟩

theorem specDid_5f (a b : Int) (w : World) (ha : isW a = true) (hb : isW b = true) (a1 : -2147483648 ≤ a) (a2 : a ≤ 2147483647) (b1 : -2147483648 ≤ b) (b2 : b ≤ 2147483647) (h : ¬ a < b) :
    Calls Tryz.prog 127 #[.int .i64 5, .int .i64 a, .int .i64 b] w fun e w' => e = .returned (.tuple #[.int .i64 0, .bool true]) ∧ w = w' := by
  go_enter Tryz.func127, Tryz.ntmps127
  go_wp2_with (first | (go_at_call 57; refine (l1Word_any _ _).mono ?_; rintro e w' ⟨rfl, rfl⟩) | (go_at_call 140; refine (specWrap_any _ _).mono ?_; rintro e w' ⟨rfl, rfl⟩) | go_in)
  go_ret2
  exact ⟨rfl, rfl⟩

theorem specDid_6t (a b : Int) (w : World) (ha : isW a = true) (hb : isW b = true) (a1 : -2147483648 ≤ a) (a2 : a ≤ 2147483647) (b1 : -2147483648 ≤ b) (b2 : b ≤ 2147483647) (h : (a == b) = true) :
    Calls Tryz.prog 127 #[.int .i64 6, .int .i64 a, .int .i64 b] w fun e w' => e = .returned (.tuple #[.int .i64 1, .bool true]) ∧ w = w' := by
  go_enter Tryz.func127, Tryz.ntmps127
  go_wp2_with (first | (go_at_call 57; refine (l1Word_any _ _).mono ?_; rintro e w' ⟨rfl, rfl⟩) | (go_at_call 140; refine (specWrap_any _ _).mono ?_; rintro e w' ⟨rfl, rfl⟩) | go_in)
  go_ret2
  exact ⟨rfl, rfl⟩

theorem specDid_6f (a b : Int) (w : World) (ha : isW a = true) (hb : isW b = true) (a1 : -2147483648 ≤ a) (a2 : a ≤ 2147483647) (b1 : -2147483648 ≤ b) (b2 : b ≤ 2147483647) (h : (a == b) = false) :
    Calls Tryz.prog 127 #[.int .i64 6, .int .i64 a, .int .i64 b] w fun e w' => e = .returned (.tuple #[.int .i64 0, .bool true]) ∧ w = w' := by
  go_enter Tryz.func127, Tryz.ntmps127
  go_wp2_with (first | (go_at_call 57; refine (l1Word_any _ _).mono ?_; rintro e w' ⟨rfl, rfl⟩) | (go_at_call 140; refine (specWrap_any _ _).mono ?_; rintro e w' ⟨rfl, rfl⟩) | go_in)
  go_ret2
  exact ⟨rfl, rfl⟩

theorem specDid_7t (a b : Int) (w : World) (ha : isW a = true) (hb : isW b = true) (a1 : -2147483648 ≤ a) (a2 : a ≤ 2147483647) (b1 : -2147483648 ≤ b) (b2 : b ≤ 2147483647) (h : (a != 0) = true) (h' : (b != 0) = true) :
    Calls Tryz.prog 127 #[.int .i64 7, .int .i64 a, .int .i64 b] w fun e w' => e = .returned (.tuple #[.int .i64 1, .bool true]) ∧ w = w' := by
  go_enter Tryz.func127, Tryz.ntmps127
  go_wp2_with (first | (go_at_call 57; refine (l1Word_any _ _).mono ?_; rintro e w' ⟨rfl, rfl⟩) | (go_at_call 140; refine (specWrap_any _ _).mono ?_; rintro e w' ⟨rfl, rfl⟩) | go_in)
  go_ret2
  exact ⟨rfl, rfl⟩

theorem specDid_7a (a b : Int) (w : World) (ha : isW a = true) (hb : isW b = true) (a1 : -2147483648 ≤ a) (a2 : a ≤ 2147483647) (b1 : -2147483648 ≤ b) (b2 : b ≤ 2147483647) (h : (a != 0) = false) :
    Calls Tryz.prog 127 #[.int .i64 7, .int .i64 a, .int .i64 b] w fun e w' => e = .returned (.tuple #[.int .i64 0, .bool true]) ∧ w = w' := by
  go_enter Tryz.func127, Tryz.ntmps127
  go_wp2_with (first | (go_at_call 57; refine (l1Word_any _ _).mono ?_; rintro e w' ⟨rfl, rfl⟩) | (go_at_call 140; refine (specWrap_any _ _).mono ?_; rintro e w' ⟨rfl, rfl⟩) | go_in)
  go_ret2
  exact ⟨rfl, rfl⟩

theorem specDid_7b (a b : Int) (w : World) (ha : isW a = true) (hb : isW b = true) (a1 : -2147483648 ≤ a) (a2 : a ≤ 2147483647) (b1 : -2147483648 ≤ b) (b2 : b ≤ 2147483647) (h : (a != 0) = true) (h' : (b != 0) = false) :
    Calls Tryz.prog 127 #[.int .i64 7, .int .i64 a, .int .i64 b] w fun e w' => e = .returned (.tuple #[.int .i64 0, .bool true]) ∧ w = w' := by
  go_enter Tryz.func127, Tryz.ntmps127
  go_wp2_with (first | (go_at_call 57; refine (l1Word_any _ _).mono ?_; rintro e w' ⟨rfl, rfl⟩) | (go_at_call 140; refine (specWrap_any _ _).mono ?_; rintro e w' ⟨rfl, rfl⟩) | go_in)
  go_ret2
  exact ⟨rfl, rfl⟩

theorem specDid_x (op a b : Int) (w : World) (ha : isW a = true) (hb : isW b = true) (a1 : -2147483648 ≤ a) (a2 : a ≤ 2147483647) (b1 : -2147483648 ≤ b) (b2 : b ≤ 2147483647) (h1 : (op == 1) = false) (h2 : (op == 2) = false) (h3 : (op == 3) = false) (h4 : (op == 4) = false) (h5 : (op == 5) = false) (h6 : (op == 6) = false) (h7 : (op == 7) = false) :
    Calls Tryz.prog 127 #[.int .i64 op, .int .i64 a, .int .i64 b] w fun e w' => e = .returned (.tuple #[.int .i64 0, .bool false]) ∧ w = w' := by
  go_enter Tryz.func127, Tryz.ntmps127
  go_wp2_with (first | (go_at_call 57; refine (l1Word_any _ _).mono ?_; rintro e w' ⟨rfl, rfl⟩) | (go_at_call 140; refine (specWrap_any _ _).mono ?_; rintro e w' ⟨rfl, rfl⟩) | go_in)
  go_ret2
  exact ⟨rfl, rfl⟩
end Go.Proofs.YtfnnoehpahdgcaaGreatDoor.Wd
