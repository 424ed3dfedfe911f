/-
  Contracts of impl.Did and spec.Did: both give the plain function 'did', for every three int64, and leave what was there.
-/
import Derived.Test.YtoiphglfngkoiaaDoorWd
import Derived.RowKit3
import Derived.Below
namespace Go.Proofs.YtoiphglfngkoiaaDoor.Wd
open Go.RowKit
set_option linter.unusedVariables false

/-- The first result of Did. -/
def didV (op a b : Int) : Int :=
  if isW a && isW b then
    if op = 1 then wr (a + b) else if op = 2 then wr (a - b) else if op = 3 then wr (a * b)
    else if op = 4 then (if b = 0 then 0 else wr (a.tdiv b))
    else if op = 5 then (if a < b then 1 else 0) else if op = 6 then (if a = b then 1 else 0)
    else if op = 7 then (if a ≠ 0 ∧ b ≠ 0 then 1 else 0) else 0
  else 0
/-- The second. -/
def didB (op a b : Int) : Bool :=
  isW a && isW b && (decide (1 ≤ op) && decide (op ≤ 7)) && !(decide (op = 4) && decide (b = 0))

theorem nn42 (w : World) : Sem.run Tryd.prog (binOp BinOp.neq 127 Value.nilFunc Value.nilFunc) w = .ok (.bool false) w := by kernel_rfl
theorem fn42 (fn : Fn) (x y : Array Value) (w : World) : Sem.run Tryd.prog (binOp BinOp.neq 127 (Value.func fn x y) Value.nilFunc) w = .ok (.bool true) w := by kernel_rfl
theorem mul_bd (a b : Int) (a1 : -2147483648 ≤ a) (a2 : a ≤ 2147483647) (b1 : -2147483648 ≤ b) (b2 : b ≤ 2147483647) : -4611686018427387904 ≤ a * b ∧ a * b ≤ 4611686018427387904 := by
  have h1 : (a * b).natAbs ≤ 2147483648 * 2147483648 := by rw [Int.natAbs_mul]; exact Nat.mul_le_mul (by omega) (by omega)
  omega
theorem tdiv_bd (a b : Int) (a1 : -2147483648 ≤ a) (a2 : a ≤ 2147483647) : -2147483648 ≤ a.tdiv b ∧ a.tdiv b ≤ 2147483648 := by
  have h1 : (a.tdiv b).natAbs ≤ a.natAbs := by rw [Int.natAbs_tdiv]; exact Nat.div_le_self _ _
  omega

end Go.Proofs.YtoiphglfngkoiaaDoor.Wd
