/-
  Instructions, plain: 'Ov', 'wdO' (the words of the kinds), 'opB' (what OpOk says).
-/
import Derived.Test.YtoiphglfngkoiaaDoorYa
namespace Go.Proofs.YtoiphglfngkoiaaDoor.Cl
open Go.RowKit Wd Rp Kp
set_option linter.unusedVariables false
/-- An instruction. -/
structure Ov where
  k : Int
  n : Int
  m : Tk
/-- No name. -/
def noN : Tk := []
theorem inB_11 {x lo hi : Int} : inB x lo hi = true ↔ lo ≤ x ∧ x ≤ hi := by unfold inB; simp
/-- The words of the kinds 1 to 11. -/
def wdO : List Tk := [[112, 117, 115, 104], [103, 105, 118, 101, 110], [108, 111, 97, 100], [100, 111], [115, 101, 116], [99, 117, 116], [103, 111], [117, 110, 108, 101, 115, 115], [116, 105, 99, 107], [115, 116, 111, 112], [101, 110, 100]]
/-- Does such a kind tell a name, a number? -/
def isNm (k : Int) : Bool := decide (k = 3) || (decide (k = 5) || decide (k = 6))
def isNu (k : Int) : Bool := !isNm k && decide (k ≤ 8)
/-- What OpOk says. -/
def opB (o : Ov) : Bool :=
  if o.k = 1 then isW o.n && o.m.isEmpty else if o.k = 2 then inB o.n 0 2 && o.m.isEmpty else if isNm o.k then nmB o.m && decide (o.n = 0) else
    if o.k = 4 then inB o.n 1 7 && o.m.isEmpty else if o.k = 7 ∨ o.k = 8 then inB o.n 0 300 && o.m.isEmpty else inB o.k 9 11 && (decide (o.n = 0) && o.m.isEmpty)
end Go.Proofs.YtoiphglfngkoiaaDoor.Cl
