/-
  The specification's ends of blocks, statements and recipes: contracts of spec.l9Block, l9Deed, DeedEnd, RecipeOk. (Made by gen_ln.py.)
-/
import Derived.Test.YtkhmbmcomgclaaaDoorLb
import Derived.Deep.LoopGhost
namespace Go.Proofs.YtkhmbmcomgclaaaDoor.Cl
open Go.RowKit Wd Rp Kp
set_option linter.unusedVariables false
theorem tkA_none {l : List Tk} {i : Int} (h : tkA l i = none) : i < 0 ∨ (l.length : Int) ≤ i := by
  by_cases g : i < 0
  · exact Or.inl g
  · right
    unfold tkA at h
    rw [if_neg g] at h
    have := List.getElem?_eq_none_iff.1 h
    omega
/-- How far a place is from the end. -/
def atM (n : Nat) : Value → Nat | .int _ z => if z < 0 then 0 else n + 1 - z.toNat | _ => 0
/-- The contract of l9Deed, of l9Block. -/
def DeedS (a : Option Addr) (n cap : Nat) (l : List Tk) (d : Int) (f : Int → Int) : Prop := ∀ (w : World) (i : Int), I64 i → V1 w a cap (txL l) → Calls Tryd.prog 23 #[.slice a n cap, .int .i64 i, .int .i64 d] w (GivesI (f i) w)
def BlokS (a : Option Addr) (n cap : Nat) (l : List Tk) (d : Int) (f : Int → Int) : Prop := ∀ (w : World) (i : Int), I64 i → V1 w a cap (txL l) → Calls Tryd.prog 36 #[.slice a n cap, .int .i64 i, .int .i64 d] w (GivesI (f i) w)
theorem bls_no {l : List Tk} {f : Int → Int} {i : Int} (h : tkA l i ≠ some [91]) : blS l f i = -1 := by unfold blS; rw [if_neg h]
theorem bls_in {l : List Tk} {f : Int → Int} {i : Int} (h : tkA l i = some [91]) : blS l f i = blE l f (l.length + 1) (i + 1) := by unfold blS; rw [if_pos h]
theorem ble_none {l : List Tk} {f : Int → Int} {i : Int} {k : Nat} (h : tkA l i = none) : blE l f k i = -1 := by
  cases k with
  | zero => rfl
  | succ k => unfold blE; rw [h]
theorem ble_end {l : List Tk} {f : Int → Int} {i : Int} {k : Nat} (h : tkA l i = some [93]) : blE l f (k + 1) i = i + 1 := by unfold blE; rw [h]; rfl
theorem ble_more {l : List Tk} {f : Int → Int} {i : Int} {k : Nat} {s : Tk} (h : tkA l i = some s) (hs : s ≠ [93]) : blE l f (k + 1) i = blE l f k (f i) := by rw [blE, h]; exact if_neg hs
set_option maxHeartbeats 4000000 in
set_option maxRecDepth 100000 in
theorem blok0 (a : Option Addr) (cap : Nat) (l : List Tk) (n : Nat) (hn : l.length = n) (hl : n ≤ 4194304) : BlokS a n cap l 0 (fun _ => -1) := by
  intro w i hi hv
  have HR0 := Lib.hid (show (fun _ => -1 : Int → Int) i = -1 from rfl)
  generalize (fun _ => -1 : Int → Int) i = r at *
  cases h : tkA l i with
  | none =>
    have HR := Lib.hid (show r = -1 from HR0.out)
    have hc := tkA_none h
    rw [hn] at hc
    clear h hv
    rcases hc with h1 | h1
    · have p0 : decide (i < 0) = true := by simpa using h1
      go_enter Tryd.func36, Tryd.ntmps36
      go_wp2_with fail
      go_ret
      exact ⟨by rw [HR.out]; rfl, Below.refl _ _⟩
    · have p0 : decide (i < 0) = false := by simp; omega
      have p1 : decide ((n : Int) ≤ i) = true := by simpa using h1
      go_enter Tryd.func36, Tryd.ntmps36
      go_wp2_with fail
      go_ret
      exact ⟨by rw [HR.out]; rfl, Below.refl _ _⟩
  | some s =>
    obtain ⟨h0, h1, hs⟩ := tkA_some h
    obtain ⟨k, rfl⟩ : ∃ k : Nat, i = k := ⟨i.toNat, by omega⟩
    rw [Int.toNat_natCast] at hs
    have HV := Lib.hid hv
    obtain ⟨g, o, rfl, hg, c0⟩ := hv.tx hs
    have hk : k < n := by omega
    have p0 : decide ((k : Int) < 0) = false := by simp
    have p1 : decide ((n : Int) ≤ (k : Int)) = false := by simpa using hk
    have p1n : ¬ (n : Int) ≤ (k : Int) := by omega
    have p1m : decide (n ≤ k) = false := by simpa using hk
    by_cases hb : s = [91]
    · subst hb
      replace c0 : w.cell? ⟨g, o + k, none⟩ = some (.string ⟨#[91]⟩) := c0
      clear h hs hg hv HV
      go_enter Tryd.func36, Tryd.ntmps36
      go_wp2_with fail
      go_ret
      exact ⟨by rw [HR0.out]; rfl, Below.refl _ _⟩
    · have HR := Lib.hid (show r = -1 from HR0.out)
      have q1 := tx_neL hb
      clear h hs hg hv HV
      go_enter Tryd.func36, Tryd.ntmps36
      go_wp2_with fail
      go_ret
      exact ⟨by rw [HR.out]; rfl, Below.refl _ _⟩
set_option maxHeartbeats 8000000 in
set_option maxRecDepth 100000 in
theorem blok1 (a : Option Addr) (cap : Nat) (l : List Tk) (n : Nat) (hn : l.length = n) (hl : n ≤ 4194304) (d : Int) (hd : 0 < d) (hd2 : d ≤ 1000) (f : Int → Int) (hf : ∀ i, Ahd l i (f i)) (ih : DeedS a n cap l (d - 1) f) : BlokS a n cap l d (blS l f) := by
  intro w i hi hv
  have IH := Lib.hid ih; clear ih
  have HF := Lib.hid hf; clear hf
  have N0 := Lib.hid (fun h => bls_no (l := l) (f := f) (i := i) h)
  have N1 := Lib.hid (fun h => bls_in (l := l) (f := f) (i := i) h)
  generalize blS l f i = r at *
  cases h : tkA l i with
  | none =>
    have HR := Lib.hid (show r = -1 from N0.out (by rw [h]; intro e; cases e))
    have hc := tkA_none h
    rw [hn] at hc
    clear h hv
    rcases hc with h1 | h1
    · have p0 : decide (i < 0) = true := by simpa using h1
      go_enter Tryd.func36, Tryd.ntmps36
      go_wp2_with fail
      go_ret
      exact ⟨by rw [HR.out]; rfl, Below.refl _ _⟩
    · have p0 : decide (i < 0) = false := by simp; omega
      have p1 : decide ((n : Int) ≤ i) = true := by simpa using h1
      go_enter Tryd.func36, Tryd.ntmps36
      go_wp2_with fail
      go_ret
      exact ⟨by rw [HR.out]; rfl, Below.refl _ _⟩
  | some s =>
    obtain ⟨h0, h1, hs⟩ := tkA_some h
    obtain ⟨k, rfl⟩ : ∃ k : Nat, i = k := ⟨i.toNat, by omega⟩
    rw [Int.toNat_natCast] at hs
    have HV := Lib.hid hv
    obtain ⟨g, o, rfl, hg, c0⟩ := hv.tx hs
    have hk : k < n := by omega
    have p0 : decide ((k : Int) < 0) = false := by simp
    have p1 : decide ((n : Int) ≤ (k : Int)) = false := by simpa using hk
    have p1n : ¬ (n : Int) ≤ (k : Int) := by omega
    have p1m : decide (n ≤ k) = false := by simpa using hk
    by_cases hb : s = [91]
    · subst hb
      replace c0 : w.cell? ⟨g, o + k, none⟩ = some (.string ⟨#[91]⟩) := c0
      have HR := Lib.hid (N1.out h)
      have pd : (d == 0) = false := beq_eq_false_iff_ne.2 (by omega)
      have pw : IntKind.i64.wrap (d - 1) = d - 1 := by rw [IntKind.wrap_i64]; omega
      clear h hs hg hv N0 N1
      go_enter Tryd.func36, Tryd.ntmps36
      go_wp2_with fail
      go_loopg [1] (l.length + 1) (fun j q wr => ∃ z : Int, q = .int .i64 z ∧ r = blE l f j z ∧ (z = -1 ∨ (0 ≤ z ∧ z ≤ n ∧ n - z < j)) ∧ Below w.heap.size w wr)
      case atStart => exact ⟨(k : Int) + 1, by go_num, HR.out, Or.inr (by omega), Below.refl _ _⟩
      case round =>
        clear HR
        obtain ⟨z, rfl, hr, hz, hbel⟩ := hrel
        have HR := Lib.hid hr
        have HB := Lib.hid hbel
        have HV1 := Lib.hid (HV.out.below hbel)
        clear hr hbel c0
        cases h : tkA l z with
        | none =>
          have HE := Lib.hid (HR.out.trans (ble_none h))
          have hc := tkA_none h
          rw [hn] at hc
          clear h
          by_cases h1 : z < 0
          · have t0 : decide (0 ≤ z) = false := by simpa using h1
            have t1 : decide (z < 0) = true := by simpa using h1
            go_wp2_with fail
            go_ret
            exact ⟨by rw [HE.out]; rfl, HB.out⟩
          · have t0 : decide (0 ≤ z) = true := by simp; omega
            have t1 : decide (z < 0) = false := by simpa using h1
            have t2 : decide (z < (n : Int)) = false := by simp; omega
            have t3 : decide ((n : Int) ≤ z) = true := by simp; omega
            go_wp2_with fail
            go_ret
            exact ⟨by rw [HE.out]; rfl, HB.out⟩
        | some s =>
          obtain ⟨h0, h1, hs⟩ := tkA_some h
          obtain ⟨m, rfl⟩ : ∃ m : Nat, z = m := ⟨z.toNat, by omega⟩
          rw [Int.toNat_natCast] at hs
          obtain ⟨j, rfl⟩ : ∃ j', gk = j' + 1 := ⟨gk - 1, by omega⟩
          obtain ⟨g', o', e, hg, c0⟩ := HV1.out.tx hs
          cases e
          have hmn : m < n := by omega
          have hj : n - m < j + 1 := by omega
          clear hz h0 h1
          have t0 : decide (0 ≤ (m : Int)) = true := by simp
          have t1 : decide ((m : Int) < 0) = false := by simp
          have t2 : decide ((m : Int) < (n : Int)) = true := by simpa using hmn
          have t3 : decide ((n : Int) ≤ (m : Int)) = false := by simpa using hmn
          have t3n : ¬ (n : Int) ≤ (m : Int) := by omega
          have t3m : decide (n ≤ m) = false := by simpa using hmn
          have t2n : (m : Int) < (n : Int) := by omega
          have t2m : decide (m < n) = true := by simpa using hmn
          by_cases hb : s = [93]
          · subst hb
            replace c0 : wr.cell? ⟨g, o + m, none⟩ = some (.string ⟨#[93]⟩) := c0
            have HE := Lib.hid (HR.out.trans (ble_end h))
            clear h hs hg
            have i1 : (m : Int) + 1 ≤ 9223372036854775807 := by omega
            go_wp2_with fail
            go_ret
            exact ⟨by rw [HE.out]; rfl, HB.out⟩
          · have HE := Lib.hid (HR.out.trans (ble_more h hb))
            have q1 := tx_neL hb
            have HC := Lib.hid (IH.out wr (m : Int) ⟨by omega, by omega⟩ HV1.out)
            have HA := Lib.hid (HF.out (m : Int))
            generalize hy : f (m : Int) = y at HE HC HA
            clear h hs hg hy
            go_wp2_with fail
            refine HC.out.mono ?_; rintro e w1 ⟨rfl, b1⟩
            have B1 := Lib.hid (bel_tr HB.out b1 (Nat.le_refl _)); clear b1
            go_wp2_with fail
            go_roundg j
            case measure => omega
            case rel => exact ⟨y, rfl, HE.out, (by have := HA.out; unfold Ahd at this; omega), B1.out⟩
    · have HR := Lib.hid (show r = -1 from N0.out (by rw [h]; intro e; cases e; exact hb rfl))
      have q1 := tx_neL hb
      clear h hs hg hv HV
      go_enter Tryd.func36, Tryd.ntmps36
      go_wp2_with fail
      go_ret
      exact ⟨by rw [HR.out]; rfl, Below.refl _ _⟩
end Go.Proofs.YtkhmbmcomgclaaaDoor.Cl
