/-
  The specification's ends of statements and recipes: contracts of spec.l9Sum, l9Name, l9Block, l9Deed, DeedEnd, RecipeOk.
-/
import Derived.Test.YtkhmbmcomgclaaaDoorYe
import Derived.Test.YtkhmbmcomgclaaaDoorLa
namespace Go.Proofs.YtkhmbmcomgclaaaDoor.Cl
open Go.RowKit Wd Rp Kp
set_option linter.unusedVariables false
theorem sm_neg {l : List Tk} {kind i : Int} (h : edV l i < 0) : smV l kind i = -1 := by unfold smV; rw [if_pos (Or.inl h)]
theorem sm_kind {l : List Tk} {kind i : Int} (h : kdV l i ≠ kind) : smV l kind i = -1 := by unfold smV; rw [if_pos (Or.inr (Or.inl h))]
theorem sm_deep {l : List Tk} {kind i : Int} (h : 5 < dpV l i) : smV l kind i = -1 := by unfold smV; rw [if_pos (Or.inr (Or.inr h))]
theorem sm_yes {l : List Tk} {kind i : Int} (h1 : ¬ edV l i < 0) (h2 : kdV l i = kind) (h3 : ¬ 5 < dpV l i) : smV l kind i = edV l i := by
  unfold smV; rw [if_neg (by rintro (h | h | h) <;> contradiction)]
/-- A call that gives this number and only adds. -/
def GivesI (x : Int) (w : World) (e : Ending) (w' : World) : Prop := e = .returned (.int .i64 x) ∧ Below w.heap.size w w'
def GivesB (x : Bool) (w : World) (e : Ending) (w' : World) : Prop := e = .returned (.bool x) ∧ Below w.heap.size w w'
set_option maxHeartbeats 4000000 in
set_option maxRecDepth 100000 in
theorem l9Sum_any (w : World) (a : Option Addr) (cap : Nat) (l : List Tk) (n : Nat) (kind i : Int) (hi : I64 i) (hn : l.length = n) (hv : V1 w a cap (txL l)) (hl : n ≤ 4194304) (hm : ∀ s ∈ l, s.length ≤ 4194304) :
    Calls Tryd.prog 35 #[.slice a n cap, .int .i64 i, .int .i64 kind] w (GivesI (smV l kind i) w) := by
  have HE := Lib.hid (l8End_any w a cap l n i hi hn hv hl hm)
  have HK := Lib.hid (fun w h => specKind_any w a cap l n i hi hn h hl hm)
  have HD := Lib.hid (fun w h => specDepth_any w a cap l n i hi hn h hl hm)
  have HV := Lib.hid hv; clear hv hm
  have S1 := Lib.hid (fun h => sm_neg (l := l) (kind := kind) (i := i) h)
  have S2 := Lib.hid (fun h => sm_kind (l := l) (kind := kind) (i := i) h)
  have S3 := Lib.hid (fun h => sm_deep (l := l) (kind := kind) (i := i) h)
  have S4 := Lib.hid (fun h1 h2 h3 => sm_yes (l := l) (kind := kind) (i := i) h1 h2 h3)
  generalize smV l kind i = r at *
  generalize edV l i = x at *
  generalize kdV l i = y at *
  generalize dpV l i = z at *
  go_enter Tryd.func35, Tryd.ntmps35
  go_wp2_with fail
  refine HE.out.mono ?_; rintro e w1 ⟨rfl, b1⟩
  have V1' := Lib.hid (HV.out.below b1)
  have B1 := Lib.hid b1; clear b1
  by_cases hx : x < 0
  · have p0 : decide (x < 0) = true := by simpa using hx
    go_wp2_with fail
    go_ret
    exact ⟨by rw [S1.out hx]; rfl, B1.out⟩
  have p0 : decide (x < 0) = false := by simpa using hx
  have HK1 := Lib.hid (HK.out w1 V1'.out)
  go_wp2_with fail
  refine HK1.out.mono ?_; rintro e w2 ⟨rfl, b2⟩
  have V2' := Lib.hid (V1'.out.below b2)
  have B2 := Lib.hid (bel_tr B1.out b2 (Nat.le_refl _)); clear b2
  by_cases hy : y = kind
  · subst hy
    have HD1 := Lib.hid (HD.out w2 V2'.out)
    go_wp2_with fail
    refine HD1.out.mono ?_; rintro e w3 ⟨rfl, b3⟩
    have B3 := Lib.hid (bel_tr B2.out b3 (Nat.le_refl _)); clear b3
    by_cases hz : 5 < z
    · have q0 : decide (5 < z) = true := by simpa using hz
      go_wp2_with fail
      go_ret
      exact ⟨by rw [S3.out hz]; rfl, B3.out⟩
    · have q0 : decide (5 < z) = false := by simpa using hz
      go_wp2_with fail
      go_ret
      exact ⟨by rw [S4.out hx trivial hz]; rfl, B3.out⟩
  · have p1 : (y == kind) = false := beq_eq_false_iff_ne.2 hy
    go_wp2_with fail
    go_ret
    exact ⟨by rw [S2.out hy]; rfl, B2.out⟩
set_option maxHeartbeats 4000000 in
set_option maxRecDepth 100000 in
theorem l9Name_any (w : World) (a : Option Addr) (cap : Nat) (l : List Tk) (n : Nat) (i : Int) (hn : l.length = n) (hv : V1 w a cap (txL l)) (hl : n ≤ 4194304) (hm : ∀ s ∈ l, s.length ≤ 4194304) :
    Calls Tryd.prog 34 #[.slice a n cap, .int .i64 i] w fun e w' => e = .returned (.bool (nmA l i)) ∧ w = w' := by
  cases h : tkA l i with
  | none =>
    have HR := Lib.hid (show nmA l i = false by unfold nmA; rw [h])
    have hc : i < 0 ∨ (n : Int) ≤ i := by
      by_cases g : i < 0
      · exact Or.inl g
      · right
        unfold tkA at h
        rw [if_neg g] at h
        have := List.getElem?_eq_none_iff.1 h
        omega
    clear h hv hm
    generalize nmA l i = r at *
    rcases hc with h1 | h1
    · have p0 : decide (0 ≤ i) = false := by simpa using h1
      go_enter Tryd.func34, Tryd.ntmps34
      go_wp2_with fail
      go_ret
      exact ⟨by rw [HR.out]; rfl, rfl⟩
    · have p0 : decide (0 ≤ i) = true := by simp; omega
      have p1 : decide (i < (n : Int)) = false := by simpa using h1
      go_enter Tryd.func34, Tryd.ntmps34
      go_wp2_with fail
      go_ret
      exact ⟨by rw [HR.out]; rfl, rfl⟩
  | some s =>
    obtain ⟨h0, h1, hs⟩ := tkA_some h
    have HR := Lib.hid (show nmA l i = nmB s by unfold nmA; rw [h])
    obtain ⟨k, rfl⟩ : ∃ k : Nat, i = k := ⟨i.toNat, by omega⟩
    rw [Int.toNat_natCast] at hs
    obtain ⟨g, o, rfl, hg, c0⟩ := hv.tx hs
    have HN := Lib.hid (nmS_any s w (by have := hm s (List.mem_of_getElem? hs); omega))
    have hk : k < n := by omega
    clear h hv hm hs hg
    generalize nmA l (k : Int) = r at *
    generalize nmB s = q at *
    have p0 : decide (0 ≤ (k : Int)) = true := by simp
    have p1 : decide ((k : Int) < (n : Int)) = true := by simpa using hk
    go_enter Tryd.func34, Tryd.ntmps34
    go_wp2_with fail
    refine HN.out.mono ?_; rintro e w1 ⟨rfl, rfl⟩
    go_wp2_with fail
    go_ret
    exact ⟨by rw [HR.out]; rfl, rfl⟩
end Go.Proofs.YtkhmbmcomgclaaaDoor.Cl
