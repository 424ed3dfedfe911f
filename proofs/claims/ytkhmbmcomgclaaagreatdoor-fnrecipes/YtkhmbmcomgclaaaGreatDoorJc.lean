/-
  Bins: contracts of first, ValueIn (both), spec.l7Find, l7Copy, l7Set, l7Cut, SetBin, CutBin. (Made by gen_jc.py.)
-/
import Derived.Test.YtkhmbmcomgclaaaGreatDoorIw
import Derived.Test.YtkhmbmcomgclaaaGreatDoorJa
namespace Go.Proofs.YtkhmbmcomgclaaaGreatDoor.Cl
open Go.RowKit Wd Rp Kp
set_option linter.unusedVariables false
theorem valL_succ {n : ByteArray} {l : List Bi} {k : Nat} {c : Bi} (hc : l[k]? = some c) (h : ∀ (j : Nat) (d : Bi), j < k → l[j]? = some d → (d.n.toList == n.toList) = false) (hn : (c.n.toList == n.toList) = false) : ∀ (j : Nat) (d : Bi), j < k + 1 → l[j]? = some d → (d.n.toList == n.toList) = false := fun j d hj hd => by
  by_cases e : j = k
  · subst e; rw [hc] at hd; cases hd; exact hn
  · exact h j d (by omega) hd
theorem VwI.grown {w w' : World} {a : Option Addr} {cap : Nat} {l : List Bi} {row : Option Nat} (h : VwI w a cap l) (hg : w.grownBy w' row) (hne : ∀ g o, l ≠ [] → a = some ⟨g, o, none⟩ → row ≠ some g) : VwI w' a cap l := by
  obtain ⟨h1, h2, h3, h4⟩ := h
  refine ⟨h1, h2, h3, fun k c hk => ?_⟩
  obtain ⟨g, o, e, hlt, hc⟩ := h4 k c hk
  exact ⟨g, o, e, Nat.lt_of_lt_of_le hlt hg.size, hc.same (hg.block g hlt (fun e2 => hne g o (fun e3 => by rw [e3] at hk; simp at hk) e e2.symm))⟩
theorem VwI.at {w : World} {a : Option Addr} {cap : Nat} {l : List Bi} (h : VwI w a cap l) {k : Nat} (hk : k ≤ l.length) : VwI w a cap (l.take k) := h.take hk (Nat.le_trans hk h.1) (Nat.le_refl _) h.2.2.1
theorem ctI_no {l : List Bi} {n : ByteArray} (h : isAt n l = false) : ctI l n = l := by unfold ctI behI; rw [if_neg (by rw [h]; decide)]; exact List.take_append_drop _ _
end Go.Proofs.YtkhmbmcomgclaaaGreatDoor.Cl
