/-
  Contracts of spec.NameOk and impl.NameOk: both give 'nmB' of the text's bytes, for every text, the world untouched.
-/
import Derived.Test.YtfnnoehpahdgcaaRp
import Derived.Test.YtfnnoehpahdgcaaTx
import Derived.WalkSpells
import Derived.Below
import Derived.Laws.Closers25b
import Derived.Lib.Strings
namespace Go.Proofs.Ytfnnoehpahdgcaa.Kp
open Go.RowKit Wd Rp
theorem low_of {c : UInt8} (h : isLow c = true) : (97 : Int) ≤ (c.toNat : Int) ∧ (c.toNat : Int) ≤ 122 := by simp [isLow] at h; omega
theorem low_not {c : UInt8} (h : isLow c = false) : (c.toNat : Int) < 97 ∨ (122 : Int) < (c.toNat : Int) := by
  have : ¬ (97 ≤ c.toNat ∧ c.toNat ≤ 122) := by intro g; have : isLow c = true := by simp [isLow, g.1, g.2]
                                                rw [this] at h; cases h
  omega
def NmPost (s : ByteArray) (w : World) (e : Ending) (w' : World) : Prop := e = .returned (.bool (nmB s.data.toList)) ∧ w = w'
theorem nm_no {s : ByteArray} {w : World} (k : Nat) (h : k < s.size) (hd : isLow s[k] = false) : NmPost s w (.returned (.bool false)) w := by
  refine ⟨?_, rfl⟩; unfold nmB; rw [lnot_all s k h hd]; rfl
theorem nm_in {s : ByteArray} {w : World} (h : (s.data.toList.take s.size).all isLow = true) : NmPost s w (.returned (.bool (inB (s.size : Int) 1 8))) w := by
  rw [List.take_of_length_le (by rw [llen]; exact Nat.le_refl _)] at h
  refine ⟨?_, rfl⟩; unfold nmB inB; rw [h, llen, Bool.true_and]
  congr 3 <;> (congr 1; simp; omega)
theorem nm_range {s : ByteArray} {w : World} (h : s.size < 1 ∨ 8 < s.size) : NmPost s w (.returned (.bool false)) w := by
  refine ⟨?_, rfl⟩; unfold nmB; rw [llen]
  have : (decide (1 ≤ s.size) && decide (s.size ≤ 8)) = false := by simp; omega
  rw [this, Bool.and_false]
theorem nm_yes {s : ByteArray} {w : World} (h : (s.data.toList.take s.size).all isLow = true) (h1 : 1 ≤ s.size) (h2 : s.size ≤ 8) : NmPost s w (.returned (.bool true)) w := by
  rw [List.take_of_length_le (by rw [llen]; exact Nat.le_refl _)] at h
  refine ⟨?_, rfl⟩; unfold nmB; rw [llen, h]; simp [h1, h2]

end Go.Proofs.Ytfnnoehpahdgcaa.Kp
