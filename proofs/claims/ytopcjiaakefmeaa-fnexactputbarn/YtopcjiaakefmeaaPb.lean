/-
  The contract of (impl.piles).Swap.
-/
import Derived.Test.YtopcjiaakefmeaaPa
import Derived.RegionTactic
namespace Go.Proofs.Ytopcjiaakefmeaa.Cl
open Go.RowKit Wd Rp Kp
set_option linter.unusedVariables false
/-- What a swap leaves. -/
def SwapPost (B b g cap : Nat) (l : List Pile) (w : World) (e : Ending) (w' : World) : Prop := e = .returned (.tuple #[]) ∧ RowP B w' g cap l ∧ Onl b g w w'
set_option maxHeartbeats 4000000 in
set_option maxRecDepth 100000 in
theorem swapP_ne (w : World) (b B g cap : Nat) (l : List Pile) (i j n : Nat) (p q : Pile) (hn : l.length = n) (hn2 : n ≤ 4194304) (hr : RowP B w g cap l) (hi : l[i]? = some p) (hj : l[j]? = some q) (hij : i ≠ j) :
    Calls Try.prog 164 #[.slice (some ⟨g, 0, none⟩) n cap, .int .i64 (i : Int), .int .i64 (j : Int)] w (SwapPost B b g cap (Hp.swp l i j p q) w) := by
  obtain ⟨x0, x1, x2, x3⟩ := hr.at hi
  obtain ⟨y0, y1, y2, y3⟩ := hr.at hj
  have hil := (List.getElem?_eq_some_iff.1 hi).1
  have hjl := (List.getElem?_eq_some_iff.1 hj).1
  have HR := Lib.hid ((hr.set hil q).set (i := j) (by rw [List.length_set]; exact hjl) p)
  rw [hn] at hil hjl
  have i1 : (i : Int) < (n : Int) := by omega
  have i2 : (0 : Int) ≤ (i : Int) := by omega
  have j1 : (j : Int) < (n : Int) := by omega
  have j2 : (0 : Int) ≤ (j : Int) := by omega
  have n1 : i * 2 ≠ j * 2 := by omega
  have n2 : i * 2 ≠ j * 2 + 1 := by omega
  have n3 : i * 2 + 1 ≠ j * 2 := by omega
  have n4 : i * 2 + 1 ≠ j * 2 + 1 := by omega
  have n5 : j * 2 ≠ i * 2 := by omega
  have n6 : j * 2 + 1 ≠ i * 2 := by omega
  have n7 : j * 2 ≠ i * 2 + 1 := by omega
  have n8 : j * 2 + 1 ≠ i * 2 + 1 := by omega
  have HO := Lib.hid (fun u0 u1 u2 u3 : Value => ((((Onl.refl b g w).setCell (p := ⟨g, i * 2, none⟩) (Or.inr rfl) u0).setCell (p := ⟨g, i * 2 + 1, none⟩) (Or.inr rfl) u1).setCell (p := ⟨g, j * 2, none⟩) (Or.inr rfl) u2).setCell (p := ⟨g, j * 2 + 1, none⟩) (Or.inr rfl) u3)
  clear hr hi hj hn
  unfold Hp.swp
  go_enter Try.func164, Try.ntmps164
  go_wp2_with fail
  go_region
  all_goals (try go_wp2)
  all_goals go_end0
  all_goals exact ⟨rfl, HR.out, (HO.out _ _ _ _).drew⟩
set_option maxHeartbeats 4000000 in
set_option maxRecDepth 100000 in
theorem swapP_same (w : World) (b B g cap : Nat) (l : List Pile) (n : Nat) (p : Pile) (hn : l.length = n) (hn2 : n ≤ 4194304) (hr : RowP B w g cap l) (hi : l[0]? = some p) :
    Calls Try.prog 164 #[.slice (some ⟨g, 0, none⟩) n cap, .int .i64 0, .int .i64 0] w (SwapPost B b g cap l w) := by
  obtain ⟨x0, x1, x2, x3⟩ := hr.at hi
  rw [Nat.zero_mul] at x0 x1 x2 x3
  have hil := (List.getElem?_eq_some_iff.1 hi).1
  have hl : l.set 0 p = l := by
    apply List.ext_getElem?
    intro k
    by_cases e : k = 0
    · subst e; rw [List.getElem?_set_self hil, hi]
    · rw [List.getElem?_set_ne (Ne.symm e)]
  have HR := Lib.hid (show RowP B ((((w.setCell ⟨g, 0, none⟩ (.int .i64 (p.k : Int))).setCell ⟨g, 0 + 1, none⟩ (.slice p.a p.c.length p.cap)).setCell ⟨g, 0, none⟩ (.int .i64 (p.k : Int))).setCell ⟨g, 0 + 1, none⟩ (.slice p.a p.c.length p.cap)) g cap l by
    have h1 := hr.set hil p
    rw [hl, Nat.zero_mul] at h1
    have h2 := h1.set hil p
    rw [hl, Nat.zero_mul] at h2; exact h2)
  rw [hn] at hil
  have i1 : (0 : Int) < (n : Int) := by omega
  have HO := Lib.hid (fun u0 u1 u2 u3 : Value => ((((Onl.refl b g w).setCell (p := ⟨g, 0, none⟩) (Or.inr rfl) u0).setCell (p := ⟨g, 0 + 1, none⟩) (Or.inr rfl) u1).setCell (p := ⟨g, 0, none⟩) (Or.inr rfl) u2).setCell (p := ⟨g, 0 + 1, none⟩) (Or.inr rfl) u3)
  clear hr hi hn hl
  go_enter Try.func164, Try.ntmps164
  go_wp2_with fail
  go_region
  all_goals (try go_wp2)
  all_goals go_end0
  all_goals exact ⟨rfl, HR.out, (HO.out _ _ _ _).drew⟩
end Go.Proofs.Ytopcjiaakefmeaa.Cl
