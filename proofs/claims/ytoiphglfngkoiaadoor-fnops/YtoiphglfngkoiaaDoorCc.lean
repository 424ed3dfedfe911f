/-
  Contracts of spec.CellsOk and impl.CellsOk: both give 'okL' of what the slice reads as. (Made by gen_cc.py.)
-/
import Derived.Test.YtoiphglfngkoiaaDoorCa
import Derived.Deep.RegionHeld3
namespace Go.Proofs.YtoiphglfngkoiaaDoor.Cl
open Go.RowKit Wd Rp Kp
set_option linter.unusedVariables false
theorem cob {p : Addr} {v : Value} {r x y : World} (hb : Below x.heap.size x y) (h5 : Below r.heap.size r x) (hg : p.block < r.heap.size) (h : x.cell? p = some v) : y.cell? p = some v :=
  (World.cell?_of_block (w := x) (hb.block p.block (Nat.lt_of_lt_of_le hg h5.size))).trans h
theorem ok_key {c : Cel} (h : c.ok = true) : keyB c.r.data.toList c.b.data.toList c.t = true := by
  unfold Cel.ok cellB at h; rw [Bool.and_eq_true] at h; exact h.1
/-- impl.KeyLess. -/
def Cel.le (c d : Cel) : Bool := lessB c.r c.b c.t d.r d.b d.t
theorem le_ls {c d : Cel} (hc : c.ok = true) (hd : d.ok = true) : c.le d = c.ls d := by
  unfold Cel.le lessB; rw [ok_key hc, ok_key hd, Bool.true_and, Bool.true_and]; rfl
end Go.Proofs.YtoiphglfngkoiaaDoor.Cl
