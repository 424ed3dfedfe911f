/-
  Recipes, plain: where a statement ends ('ddE', brackets so deep), where a block ends ('blS'), recipes ('rcB').
  The specification's ends of statements and recipes: contracts of spec.l9Sum, l9Name, l9Block, l9Deed, DeedEnd, RecipeOk.
  The specification's ends of blocks, statements and recipes: contracts of spec.l9Block, l9Deed, DeedEnd, RecipeOk. (Made by gen_ln.py.)
  The specification's ends of statements and recipes: contracts of spec.l9Deed, DeedEnd, RecipeOk. (Made by gen_lp.py.)
  Recipes, plain: what a scan of a valid recipe meets ('Scn'): from statement to statement, over the brackets.
  Recipes, plain: what is read of each statement ('ddR': its name, the tokens of its expression), in the order of a scan.
  The specification's count of statements: contracts of spec.l9Verb, DeedsIn. (Made by gen_lo.py.)
  Recipes, plain: what a scan of a valid recipe reads ('ScR'), how many statements it counts.
-/
import Derived.Test.YtfnnoehpahdgcaaGreatDoorYa
import Derived.Test.YtfnnoehpahdgcaaGreatDoorYe
import Derived.Deep.LoopGhost
namespace Go.Proofs.YtfnnoehpahdgcaaGreatDoor.Cl
open Go.RowKit Wd Rp Kp
set_option linter.unusedVariables false
/-- The token at a place. -/
def tkA (l : List Tk) (i : Int) : Option Tk := if i < 0 then none else l[i.toNat]?
theorem tkA_nat (l : List Tk) (k : Nat) : tkA l (k : Int) = l[k]? := by unfold tkA; rw [if_neg (by omega)]; rfl
theorem tkA_neg {l : List Tk} {i : Int} (h : i < 0) : tkA l i = none := by unfold tkA; rw [if_pos h]
theorem tkA_out {l : List Tk} {i : Int} (h : (l.length : Int) ≤ i) : tkA l i = none := by
  unfold tkA
  rw [if_neg (by omega)]
  exact List.getElem?_eq_none (by omega)
theorem tkA_some {l : List Tk} {i : Int} {s : Tk} (h : tkA l i = some s) : 0 ≤ i ∧ i < l.length ∧ l[i.toNat]? = some s := by
  unfold tkA at h
  split at h
  · cases h
  · have := (List.getElem?_eq_some_iff.1 h).1
    exact ⟨by omega, by omega, h⟩
/-- A name at a place. -/
def nmA (l : List Tk) (i : Int) : Bool := match tkA l i with | some s => nmB s | none => false
/-- Where the expression of a kind at a place ends, not too deep. -/
def smV (l : List Tk) (kind i : Int) : Int := if edV l i < 0 ∨ kdV l i ≠ kind ∨ 5 < dpV l i then -1 else edV l i
def setT : Tk := [115, 101, 116]
def cutT : Tk := [99, 117, 116]
def stopT : Tk := [115, 116, 111, 112]
def ifT : Tk := [105, 102]
def whT : Tk := [119, 104, 105, 108, 101]
/-- Where the statement at a place ends, B being where a block ends. -/
def ddG (l : List Tk) (B : Int → Int) (i : Int) : Int := match tkA l i with
  | none => -1
  | some s => if s = setT then (if nmA l (i + 1) then smV l 1 (i + 2) else -1) else if s = cutT then (if nmA l (i + 1) then i + 2 else -1) else if s = stopT then i + 1
    else if s = ifT then B (B (smV l 2 (i + 1))) else if s = whT then B (smV l 2 (i + 1)) else -1
/-- Statements up to ], at most n. -/
def blE (l : List Tk) (f : Int → Int) : Nat → Int → Int
  | 0, _ => -1
  | n + 1, i => match tkA l i with | none => -1 | some s => if s = [93] then i + 1 else blE l f n (f i)
def blS (l : List Tk) (f : Int → Int) (i : Int) : Int := if tkA l i = some [91] then blE l f (l.length + 1) (i + 1) else -1
def ddE (l : List Tk) : Nat → Int → Int
  | 0 => ddG l (fun _ => -1)
  | d + 1 => ddG l (blS l (ddE l d))
/-- -1 or a place behind, in the list. -/
def Ahd (l : List Tk) (i r : Int) : Prop := r = -1 ∨ (0 ≤ i ∧ i < r ∧ r ≤ l.length)
theorem Ahd.trans {l : List Tk} {i j r : Int} (h : Ahd l i j) (k : Ahd l j r) : Ahd l i r := by unfold Ahd at *; omega
theorem ed_ahd (l : List Tk) (i : Int) : Ahd l i (edV l i) := by
  unfold edV
  cases h : enA l i with
  | none => exact Or.inl rfl
  | some n =>
    right
    unfold enA at h
    split at h
    · cases h
    · have h1 := en_le h
      have h2 := en_pos h
      rw [List.length_drop] at h1
      show 0 ≤ i ∧ i < i + (n : Int) ∧ i + (n : Int) ≤ l.length
      omega
theorem sm_ahd (l : List Tk) (kind i : Int) : Ahd l i (smV l kind i) := by
  unfold smV
  split
  · exact Or.inl rfl
  · exact ed_ahd l i
theorem dd_ahd {l : List Tk} {B : Int → Int} (hB : ∀ i, Ahd l i (B i)) (i : Int) : Ahd l i (ddG l B i) := by
  unfold ddG
  cases h : tkA l i with
  | none => exact Or.inl rfl
  | some s =>
    obtain ⟨h0, h1, -⟩ := tkA_some h
    dsimp only
    split
    · split
      · have := sm_ahd l 1 (i + 2)
        unfold Ahd at *; omega
      · exact Or.inl rfl
    · split
      · split
        · rename_i hn
          unfold nmA at hn
          cases h2 : tkA l (i + 1) with
          | none => rw [h2] at hn; cases hn
          | some t => have := tkA_some h2; right; omega
        · exact Or.inl rfl
      · split
        · right; omega
        · split
          · have h2 := sm_ahd l 2 (i + 1)
            have h3 := (h2.trans (hB _)).trans (hB _)
            unfold Ahd at *; omega
          · split
            · have h2 := sm_ahd l 2 (i + 1)
              have h3 := h2.trans (hB _)
              unfold Ahd at *; omega
            · exact Or.inl rfl
theorem ble_ahd {l : List Tk} {f : Int → Int} (hf : ∀ i, Ahd l i (f i)) : ∀ (n : Nat) (i : Int), Ahd l i (blE l f n i)
  | 0, i => Or.inl rfl
  | n + 1, i => by
    unfold blE
    cases h : tkA l i with
    | none => exact Or.inl rfl
    | some s =>
      obtain ⟨h0, h1, -⟩ := tkA_some h
      dsimp only
      split
      · right; omega
      · exact (hf i).trans (ble_ahd hf n _)
theorem bls_ahd {l : List Tk} {f : Int → Int} (hf : ∀ i, Ahd l i (f i)) (i : Int) : Ahd l i (blS l f i) := by
  unfold blS
  split
  · rename_i h
    have := tkA_some h
    have := ble_ahd hf (l.length + 1) (i + 1)
    unfold Ahd at *; omega
  · exact Or.inl rfl
theorem ddE_ahd (l : List Tk) : ∀ (d : Nat) (i : Int), Ahd l i (ddE l d i)
  | 0, i => dd_ahd (fun _ => Or.inl rfl) i
  | d + 1, i => dd_ahd (bls_ahd (ddE_ahd l d)) i
/-- Where statements one behind the other lead, at most n of them, while none fails and the end is not reached. -/
def dsE (l : List Tk) : Nat → Int → Int
  | 0, i => i
  | n + 1, i => if 0 ≤ i ∧ i < l.length then dsE l n (ddE l 5 i) else i
/-- A recipe. -/
def rcB (l : List Tk) : Bool := if l.length ≤ 120 then decide (dsE l l.length 0 = l.length) else false
end Go.Proofs.YtfnnoehpahdgcaaGreatDoor.Cl
namespace Go.Proofs.YtfnnoehpahdgcaaGreatDoor.Cl
open Go.RowKit Wd Rp Kp
set_option linter.unusedVariables false
theorem sm_neg {l : List Tk} {kind i : Int} (h : edV l i < 0) : smV l kind i = -1 := by unfold smV; rw [if_pos (Or.inl h)]
theorem sm_kind {l : List Tk} {kind i : Int} (h : kdV l i ≠ kind) : smV l kind i = -1 := by unfold smV; rw [if_pos (Or.inr (Or.inl h))]
theorem sm_deep {l : List Tk} {kind i : Int} (h : 5 < dpV l i) : smV l kind i = -1 := by unfold smV; rw [if_pos (Or.inr (Or.inr h))]
theorem sm_yes {l : List Tk} {kind i : Int} (h1 : ¬ edV l i < 0) (h2 : kdV l i = kind) (h3 : ¬ 5 < dpV l i) : smV l kind i = edV l i := by
  unfold smV; rw [if_neg (by rintro (h | h | h) <;> contradiction)]
/-- A call that gives this number and only adds. -/
def GivesI (x : Int) (w : World) (e : Ending) (w' : World) : Prop := e = .returned (.int .i64 x) ∧ Below w.heap.size w w'
def GivesB (x : Bool) (w : World) (e : Ending) (w' : World) : Prop := e = .returned (.bool x) ∧ Below w.heap.size w w'
set_option maxHeartbeats 4000000 in
set_option maxRecDepth 100000 in
theorem l9Sum_any (w : World) (a : Option Addr) (cap : Nat) (l : List Tk) (n : Nat) (kind i : Int) (hi : I64 i) (hn : l.length = n) (hv : V1 w a cap (txL l)) (hl : n ≤ 4194304) (hm : ∀ s ∈ l, s.length ≤ 4194304) :
    Calls Tryz.prog 85 #[.slice a n cap, .int .i64 i, .int .i64 kind] w (GivesI (smV l kind i) w) := by
  have HE := Lib.hid (l8End_any w a cap l n i hi hn hv hl hm)
  have HK := Lib.hid (fun w h => specKind_any w a cap l n i hi hn h hl hm)
  have HD := Lib.hid (fun w h => specDepth_any w a cap l n i hi hn h hl hm)
  have HV := Lib.hid hv; clear hv hm
  have S1 := Lib.hid (fun h => sm_neg (l := l) (kind := kind) (i := i) h)
  have S2 := Lib.hid (fun h => sm_kind (l := l) (kind := kind) (i := i) h)
  have S3 := Lib.hid (fun h => sm_deep (l := l) (kind := kind) (i := i) h)
  have S4 := Lib.hid (fun h1 h2 h3 => sm_yes (l := l) (kind := kind) (i := i) h1 h2 h3)
  generalize smV l kind i = r at *
  generalize edV l i = x at *
  generalize kdV l i = y at *
  generalize dpV l i = z at *
  go_enter Tryz.func85, Tryz.ntmps85
  go_wp2_with fail
  refine HE.out.mono ?_; rintro e w1 ⟨rfl, b1⟩
  have V1' := Lib.hid (HV.out.below b1)
  have B1 := Lib.hid b1; clear b1
  by_cases hx : x < 0
  · have p0 : decide (x < 0) = true := by simpa using hx
    go_wp2_with fail
    go_ret
    exact ⟨by rw [S1.out hx]; rfl, B1.out⟩
  have p0 : decide (x < 0) = false := by simpa using hx
  have HK1 := Lib.hid (HK.out w1 V1'.out)
  go_wp2_with fail
  refine HK1.out.mono ?_; rintro e w2 ⟨rfl, b2⟩
  have V2' := Lib.hid (V1'.out.below b2)
  have B2 := Lib.hid (bel_tr B1.out b2 (Nat.le_refl _)); clear b2
  by_cases hy : y = kind
  · subst hy
    have HD1 := Lib.hid (HD.out w2 V2'.out)
    go_wp2_with fail
    refine HD1.out.mono ?_; rintro e w3 ⟨rfl, b3⟩
    have B3 := Lib.hid (bel_tr B2.out b3 (Nat.le_refl _)); clear b3
    by_cases hz : 5 < z
    · have q0 : decide (5 < z) = true := by simpa using hz
      go_wp2_with fail
      go_ret
      exact ⟨by rw [S3.out hz]; rfl, B3.out⟩
    · have q0 : decide (5 < z) = false := by simpa using hz
      go_wp2_with fail
      go_ret
      exact ⟨by rw [S4.out hx trivial hz]; rfl, B3.out⟩
  · have p1 : (y == kind) = false := beq_eq_false_iff_ne.2 hy
    go_wp2_with fail
    go_ret
    exact ⟨by rw [S2.out hy]; rfl, B2.out⟩
set_option maxHeartbeats 4000000 in
set_option maxRecDepth 100000 in
theorem l9Name_any (w : World) (a : Option Addr) (cap : Nat) (l : List Tk) (n : Nat) (i : Int) (hn : l.length = n) (hv : V1 w a cap (txL l)) (hl : n ≤ 4194304) (hm : ∀ s ∈ l, s.length ≤ 4194304) :
    Calls Tryz.prog 84 #[.slice a n cap, .int .i64 i] w fun e w' => e = .returned (.bool (nmA l i)) ∧ w = w' := by
  cases h : tkA l i with
  | none =>
    have HR := Lib.hid (show nmA l i = false by unfold nmA; rw [h])
    have hc : i < 0 ∨ (n : Int) ≤ i := by
      by_cases g : i < 0
      · exact Or.inl g
      · right
        unfold tkA at h
        rw [if_neg g] at h
        have := List.getElem?_eq_none_iff.1 h
        omega
    clear h hv hm
    generalize nmA l i = r at *
    rcases hc with h1 | h1
    · have p0 : decide (0 ≤ i) = false := by simpa using h1
      go_enter Tryz.func84, Tryz.ntmps84
      go_wp2_with fail
      go_ret
      exact ⟨by rw [HR.out]; rfl, rfl⟩
    · have p0 : decide (0 ≤ i) = true := by simp; omega
      have p1 : decide (i < (n : Int)) = false := by simpa using h1
      go_enter Tryz.func84, Tryz.ntmps84
      go_wp2_with fail
      go_ret
      exact ⟨by rw [HR.out]; rfl, rfl⟩
  | some s =>
    obtain ⟨h0, h1, hs⟩ := tkA_some h
    have HR := Lib.hid (show nmA l i = nmB s by unfold nmA; rw [h])
    obtain ⟨k, rfl⟩ : ∃ k : Nat, i = k := ⟨i.toNat, by omega⟩
    rw [Int.toNat_natCast] at hs
    obtain ⟨g, o, rfl, hg, c0⟩ := hv.tx hs
    have HN := Lib.hid (nmS_any s w (by have := hm s (List.mem_of_getElem? hs); omega))
    have hk : k < n := by omega
    clear h hv hm hs hg
    generalize nmA l (k : Int) = r at *
    generalize nmB s = q at *
    have p0 : decide (0 ≤ (k : Int)) = true := by simp
    have p1 : decide ((k : Int) < (n : Int)) = true := by simpa using hk
    go_enter Tryz.func84, Tryz.ntmps84
    go_wp2_with fail
    refine HN.out.mono ?_; rintro e w1 ⟨rfl, rfl⟩
    go_wp2_with fail
    go_ret
    exact ⟨by rw [HR.out]; rfl, rfl⟩
end Go.Proofs.YtfnnoehpahdgcaaGreatDoor.Cl
namespace Go.Proofs.YtfnnoehpahdgcaaGreatDoor.Cl
open Go.RowKit Wd Rp Kp
set_option linter.unusedVariables false
theorem tkA_none {l : List Tk} {i : Int} (h : tkA l i = none) : i < 0 ∨ (l.length : Int) ≤ i := by
  by_cases g : i < 0
  · exact Or.inl g
  · right
    unfold tkA at h
    rw [if_neg g] at h
    have := List.getElem?_eq_none_iff.1 h
    omega
/-- How far a place is from the end. -/
def atM (n : Nat) : Value → Nat | .int _ z => if z < 0 then 0 else n + 1 - z.toNat | _ => 0
/-- The contract of l9Deed, of l9Block. -/
def DeedS (a : Option Addr) (n cap : Nat) (l : List Tk) (d : Int) (f : Int → Int) : Prop := ∀ (w : World) (i : Int), I64 i → V1 w a cap (txL l) → Calls Tryz.prog 55 #[.slice a n cap, .int .i64 i, .int .i64 d] w (GivesI (f i) w)
def BlokS (a : Option Addr) (n cap : Nat) (l : List Tk) (d : Int) (f : Int → Int) : Prop := ∀ (w : World) (i : Int), I64 i → V1 w a cap (txL l) → Calls Tryz.prog 86 #[.slice a n cap, .int .i64 i, .int .i64 d] w (GivesI (f i) w)
theorem bls_no {l : List Tk} {f : Int → Int} {i : Int} (h : tkA l i ≠ some [91]) : blS l f i = -1 := by unfold blS; rw [if_neg h]
theorem bls_in {l : List Tk} {f : Int → Int} {i : Int} (h : tkA l i = some [91]) : blS l f i = blE l f (l.length + 1) (i + 1) := by unfold blS; rw [if_pos h]
theorem ble_none {l : List Tk} {f : Int → Int} {i : Int} {k : Nat} (h : tkA l i = none) : blE l f k i = -1 := by
  cases k with
  | zero => rfl
  | succ k => unfold blE; rw [h]
theorem ble_end {l : List Tk} {f : Int → Int} {i : Int} {k : Nat} (h : tkA l i = some [93]) : blE l f (k + 1) i = i + 1 := by unfold blE; rw [h]; rfl
theorem ble_more {l : List Tk} {f : Int → Int} {i : Int} {k : Nat} {s : Tk} (h : tkA l i = some s) (hs : s ≠ [93]) : blE l f (k + 1) i = blE l f k (f i) := by rw [blE, h]; exact if_neg hs
set_option maxHeartbeats 4000000 in
set_option maxRecDepth 100000 in
theorem blok0 (a : Option Addr) (cap : Nat) (l : List Tk) (n : Nat) (hn : l.length = n) (hl : n ≤ 4194304) : BlokS a n cap l 0 (fun _ => -1) := by
  intro w i hi hv
  have HR0 := Lib.hid (show (fun _ => -1 : Int → Int) i = -1 from rfl)
  generalize (fun _ => -1 : Int → Int) i = r at *
  cases h : tkA l i with
  | none =>
    have HR := Lib.hid (show r = -1 from HR0.out)
    have hc := tkA_none h
    rw [hn] at hc
    clear h hv
    rcases hc with h1 | h1
    · have p0 : decide (i < 0) = true := by simpa using h1
      go_enter Tryz.func86, Tryz.ntmps86
      go_wp2_with fail
      go_ret
      exact ⟨by rw [HR.out]; rfl, Below.refl _ _⟩
    · have p0 : decide (i < 0) = false := by simp; omega
      have p1 : decide ((n : Int) ≤ i) = true := by simpa using h1
      go_enter Tryz.func86, Tryz.ntmps86
      go_wp2_with fail
      go_ret
      exact ⟨by rw [HR.out]; rfl, Below.refl _ _⟩
  | some s =>
    obtain ⟨h0, h1, hs⟩ := tkA_some h
    obtain ⟨k, rfl⟩ : ∃ k : Nat, i = k := ⟨i.toNat, by omega⟩
    rw [Int.toNat_natCast] at hs
    have HV := Lib.hid hv
    obtain ⟨g, o, rfl, hg, c0⟩ := hv.tx hs
    have hk : k < n := by omega
    have p0 : decide ((k : Int) < 0) = false := by simp
    have p1 : decide ((n : Int) ≤ (k : Int)) = false := by simpa using hk
    have p1n : ¬ (n : Int) ≤ (k : Int) := by omega
    have p1m : decide (n ≤ k) = false := by simpa using hk
    by_cases hb : s = [91]
    · subst hb
      replace c0 : w.cell? ⟨g, o + k, none⟩ = some (.string ⟨#[91]⟩) := c0
      clear h hs hg hv HV
      go_enter Tryz.func86, Tryz.ntmps86
      go_wp2_with fail
      go_ret
      exact ⟨by rw [HR0.out]; rfl, Below.refl _ _⟩
    · have HR := Lib.hid (show r = -1 from HR0.out)
      have q1 := tx_neL hb
      clear h hs hg hv HV
      go_enter Tryz.func86, Tryz.ntmps86
      go_wp2_with fail
      go_ret
      exact ⟨by rw [HR.out]; rfl, Below.refl _ _⟩
set_option maxHeartbeats 8000000 in
set_option maxRecDepth 100000 in
theorem blok1 (a : Option Addr) (cap : Nat) (l : List Tk) (n : Nat) (hn : l.length = n) (hl : n ≤ 4194304) (d : Int) (hd : 0 < d) (hd2 : d ≤ 1000) (f : Int → Int) (hf : ∀ i, Ahd l i (f i)) (ih : DeedS a n cap l (d - 1) f) : BlokS a n cap l d (blS l f) := by
  intro w i hi hv
  have IH := Lib.hid ih; clear ih
  have HF := Lib.hid hf; clear hf
  have N0 := Lib.hid (fun h => bls_no (l := l) (f := f) (i := i) h)
  have N1 := Lib.hid (fun h => bls_in (l := l) (f := f) (i := i) h)
  generalize blS l f i = r at *
  cases h : tkA l i with
  | none =>
    have HR := Lib.hid (show r = -1 from N0.out (by rw [h]; intro e; cases e))
    have hc := tkA_none h
    rw [hn] at hc
    clear h hv
    rcases hc with h1 | h1
    · have p0 : decide (i < 0) = true := by simpa using h1
      go_enter Tryz.func86, Tryz.ntmps86
      go_wp2_with fail
      go_ret
      exact ⟨by rw [HR.out]; rfl, Below.refl _ _⟩
    · have p0 : decide (i < 0) = false := by simp; omega
      have p1 : decide ((n : Int) ≤ i) = true := by simpa using h1
      go_enter Tryz.func86, Tryz.ntmps86
      go_wp2_with fail
      go_ret
      exact ⟨by rw [HR.out]; rfl, Below.refl _ _⟩
  | some s =>
    obtain ⟨h0, h1, hs⟩ := tkA_some h
    obtain ⟨k, rfl⟩ : ∃ k : Nat, i = k := ⟨i.toNat, by omega⟩
    rw [Int.toNat_natCast] at hs
    have HV := Lib.hid hv
    obtain ⟨g, o, rfl, hg, c0⟩ := hv.tx hs
    have hk : k < n := by omega
    have p0 : decide ((k : Int) < 0) = false := by simp
    have p1 : decide ((n : Int) ≤ (k : Int)) = false := by simpa using hk
    have p1n : ¬ (n : Int) ≤ (k : Int) := by omega
    have p1m : decide (n ≤ k) = false := by simpa using hk
    by_cases hb : s = [91]
    · subst hb
      replace c0 : w.cell? ⟨g, o + k, none⟩ = some (.string ⟨#[91]⟩) := c0
      have HR := Lib.hid (N1.out h)
      have pd : (d == 0) = false := beq_eq_false_iff_ne.2 (by omega)
      have pw : IntKind.i64.wrap (d - 1) = d - 1 := by rw [IntKind.wrap_i64]; omega
      clear h hs hg hv N0 N1
      go_enter Tryz.func86, Tryz.ntmps86
      go_wp2_with fail
      go_loopg [1] (l.length + 1) (fun j q wr => ∃ z : Int, q = .int .i64 z ∧ r = blE l f j z ∧ (z = -1 ∨ (0 ≤ z ∧ z ≤ n ∧ n - z < j)) ∧ Below w.heap.size w wr)
      case atStart => exact ⟨(k : Int) + 1, by go_num, HR.out, Or.inr (by omega), Below.refl _ _⟩
      case round =>
        clear HR
        obtain ⟨z, rfl, hr, hz, hbel⟩ := hrel
        have HR := Lib.hid hr
        have HB := Lib.hid hbel
        have HV1 := Lib.hid (HV.out.below hbel)
        clear hr hbel c0
        cases h : tkA l z with
        | none =>
          have HE := Lib.hid (HR.out.trans (ble_none h))
          have hc := tkA_none h
          rw [hn] at hc
          clear h
          by_cases h1 : z < 0
          · have t0 : decide (0 ≤ z) = false := by simpa using h1
            have t1 : decide (z < 0) = true := by simpa using h1
            go_wp2_with fail
            go_ret
            exact ⟨by rw [HE.out]; rfl, HB.out⟩
          · have t0 : decide (0 ≤ z) = true := by simp; omega
            have t1 : decide (z < 0) = false := by simpa using h1
            have t2 : decide (z < (n : Int)) = false := by simp; omega
            have t3 : decide ((n : Int) ≤ z) = true := by simp; omega
            go_wp2_with fail
            go_ret
            exact ⟨by rw [HE.out]; rfl, HB.out⟩
        | some s =>
          obtain ⟨h0, h1, hs⟩ := tkA_some h
          obtain ⟨m, rfl⟩ : ∃ m : Nat, z = m := ⟨z.toNat, by omega⟩
          rw [Int.toNat_natCast] at hs
          obtain ⟨j, rfl⟩ : ∃ j', gk = j' + 1 := ⟨gk - 1, by omega⟩
          obtain ⟨g', o', e, hg, c0⟩ := HV1.out.tx hs
          cases e
          have hmn : m < n := by omega
          have hj : n - m < j + 1 := by omega
          clear hz h0 h1
          have t0 : decide (0 ≤ (m : Int)) = true := by simp
          have t1 : decide ((m : Int) < 0) = false := by simp
          have t2 : decide ((m : Int) < (n : Int)) = true := by simpa using hmn
          have t3 : decide ((n : Int) ≤ (m : Int)) = false := by simpa using hmn
          have t3n : ¬ (n : Int) ≤ (m : Int) := by omega
          have t3m : decide (n ≤ m) = false := by simpa using hmn
          have t2n : (m : Int) < (n : Int) := by omega
          have t2m : decide (m < n) = true := by simpa using hmn
          by_cases hb : s = [93]
          · subst hb
            replace c0 : wr.cell? ⟨g, o + m, none⟩ = some (.string ⟨#[93]⟩) := c0
            have HE := Lib.hid (HR.out.trans (ble_end h))
            clear h hs hg
            have i1 : (m : Int) + 1 ≤ 9223372036854775807 := by omega
            go_wp2_with fail
            go_ret
            exact ⟨by rw [HE.out]; rfl, HB.out⟩
          · have HE := Lib.hid (HR.out.trans (ble_more h hb))
            have q1 := tx_neL hb
            have HC := Lib.hid (IH.out wr (m : Int) ⟨by omega, by omega⟩ HV1.out)
            have HA := Lib.hid (HF.out (m : Int))
            generalize hy : f (m : Int) = y at HE HC HA
            clear h hs hg hy
            go_wp2_with fail
            refine HC.out.mono ?_; rintro e w1 ⟨rfl, b1⟩
            have B1 := Lib.hid (bel_tr HB.out b1 (Nat.le_refl _)); clear b1
            go_wp2_with fail
            go_roundg j
            case measure => omega
            case rel => exact ⟨y, rfl, HE.out, (by have := HA.out; unfold Ahd at this; omega), B1.out⟩
    · have HR := Lib.hid (show r = -1 from N0.out (by rw [h]; intro e; cases e; exact hb rfl))
      have q1 := tx_neL hb
      clear h hs hg hv HV
      go_enter Tryz.func86, Tryz.ntmps86
      go_wp2_with fail
      go_ret
      exact ⟨by rw [HR.out]; rfl, Below.refl _ _⟩
end Go.Proofs.YtfnnoehpahdgcaaGreatDoor.Cl
namespace Go.Proofs.YtfnnoehpahdgcaaGreatDoor.Cl
open Go.RowKit Wd Rp Kp
set_option linter.unusedVariables false
theorem ddG_none {l : List Tk} {B : Int → Int} {i : Int} (h : tkA l i = none) : ddG l B i = -1 := by unfold ddG; rw [h]
theorem ddG_some {l : List Tk} {B : Int → Int} {i : Int} {s : Tk} (h : tkA l i = some s) : ddG l B i = (if s = setT then (if nmA l (i + 1) then smV l 1 (i + 2) else -1) else if s = cutT then (if nmA l (i + 1) then i + 2 else -1) else if s = stopT then i + 1
    else if s = ifT then B (B (smV l 2 (i + 1))) else if s = whT then B (smV l 2 (i + 1)) else -1) := by unfold ddG; rw [h]
theorem ahd_i64 {l : List Tk} {i r : Int} (h : Ahd l i r) (hl : l.length ≤ 4194304) : I64 r := by unfold Ahd at h; exact ⟨by omega, by omega⟩
set_option maxHeartbeats 8000000 in
set_option maxRecDepth 100000 in
theorem deedS (a : Option Addr) (cap : Nat) (l : List Tk) (n : Nat) (hn : l.length = n) (hl : n ≤ 4194304) (hm : ∀ s ∈ l, s.length ≤ 4194304) (d : Int) (B : Int → Int) (hB : ∀ i, Ahd l i (B i)) (ih : BlokS a n cap l d B) : DeedS a n cap l d (ddG l B) := by
  intro w i hi hv
  have IH := Lib.hid ih; clear ih
  have HA := Lib.hid hB; clear hB
  cases h : tkA l i with
  | none =>
    have HR := Lib.hid (ddG_none (B := B) h)
    generalize ddG l B i = r at *
    have hc := tkA_none h
    rw [hn] at hc
    clear h hv
    rcases hc with h1 | h1
    · have p0 : decide (i < 0) = true := by simpa using h1
      go_enter Tryz.func55, Tryz.ntmps55
      go_wp2_with fail
      go_ret
      exact ⟨by rw [HR.out]; rfl, Below.refl _ _⟩
    · have p0 : decide (i < 0) = false := by simp; omega
      have p1 : decide ((n : Int) ≤ i) = true := by simpa using h1
      go_enter Tryz.func55, Tryz.ntmps55
      go_wp2_with fail
      go_ret
      exact ⟨by rw [HR.out]; rfl, Below.refl _ _⟩
  | some s =>
    obtain ⟨h0, h1, hs⟩ := tkA_some h
    have HM := Lib.hid (ddG_some (B := B) h)
    generalize ddG l B i = r at *
    obtain ⟨k, rfl⟩ : ∃ k : Nat, i = k := ⟨i.toNat, by omega⟩
    rw [Int.toNat_natCast] at hs
    have HV := Lib.hid hv
    have HN := Lib.hid (fun w h => l9Name_any w a cap l n ((k : Int) + 1) hn h hl hm)
    have HS := Lib.hid (fun w kind i hi h => l9Sum_any w a cap l n kind i hi hn h hl hm)
    have HSA := Lib.hid (fun kind i => ahd_i64 (sm_ahd l kind i) (by omega))
    have HBA := Lib.hid (fun i => ahd_i64 (HA.out i) (by omega))
    obtain ⟨g, o, rfl, hg, c0⟩ := hv.tx hs
    have hk : k < n := by omega
    have p0 : decide ((k : Int) < 0) = false := by simp
    have p1 : decide ((n : Int) ≤ (k : Int)) = false := by simpa using hk
    have p1n : ¬ (n : Int) ≤ (k : Int) := by omega
    have p1m : decide (n ≤ k) = false := by simpa using hk
    clear hv hs hg h
    by_cases b0 : s = setT
    · subst b0
      replace HM := Lib.hid (HM.out.trans (if_pos rfl))
      replace c0 : w.cell? ⟨g, o + k, none⟩ = some (.string ⟨#[115, 101, 116]⟩) := c0
      have HN0 := Lib.hid (HN.out w HV.out)
      generalize nmA l ((k : Int) + 1) = nm at *
      have HS0 := Lib.hid (HS.out w 1 ((k : Int) + 2) ⟨by omega, by omega⟩ HV.out)
      generalize smV l 1 ((k : Int) + 2) = x at *
      go_enter Tryz.func55, Tryz.ntmps55
      go_wp2_with fail
      refine HN0.out.mono ?_; rintro e w1 ⟨rfl, rfl⟩
      cases nm
      · go_wp2_with fail
        go_ret
        exact ⟨by rw [HM.out]; rfl, Below.refl _ _⟩
      · go_wp2_with fail
        refine HS0.out.mono ?_; rintro e w2 ⟨rfl, b2⟩
        have B2 := Lib.hid b2; clear b2
        go_wp2_with fail
        go_ret
        exact ⟨by rw [HM.out]; rfl, B2.out⟩
    replace HM := Lib.hid (HM.out.trans (if_neg b0))
    have q0 := tx_neL b0
    unfold setT at q0
    by_cases b1 : s = cutT
    · subst b1
      replace HM := Lib.hid (HM.out.trans (if_pos rfl))
      replace c0 : w.cell? ⟨g, o + k, none⟩ = some (.string ⟨#[99, 117, 116]⟩) := c0
      have HN0 := Lib.hid (HN.out w HV.out)
      generalize nmA l ((k : Int) + 1) = nm at *
      go_enter Tryz.func55, Tryz.ntmps55
      go_wp2_with fail
      refine HN0.out.mono ?_; rintro e w1 ⟨rfl, rfl⟩
      cases nm
      · go_wp2_with fail
        go_ret
        exact ⟨by rw [HM.out]; rfl, Below.refl _ _⟩
      · go_wp2_with fail
        go_ret
        exact ⟨by rw [HM.out]; rfl, Below.refl _ _⟩
    replace HM := Lib.hid (HM.out.trans (if_neg b1))
    have q1 := tx_neL b1
    unfold cutT at q1
    by_cases b2 : s = stopT
    · subst b2
      replace HM := Lib.hid (HM.out.trans (if_pos rfl))
      replace c0 : w.cell? ⟨g, o + k, none⟩ = some (.string ⟨#[115, 116, 111, 112]⟩) := c0
      go_enter Tryz.func55, Tryz.ntmps55
      go_wp2_with fail
      go_ret
      exact ⟨by rw [HM.out]; rfl, Below.refl _ _⟩
    replace HM := Lib.hid (HM.out.trans (if_neg b2))
    have q2 := tx_neL b2
    unfold stopT at q2
    by_cases b3 : s = ifT
    · subst b3
      replace HM := Lib.hid (HM.out.trans (if_pos rfl))
      replace c0 : w.cell? ⟨g, o + k, none⟩ = some (.string ⟨#[105, 102]⟩) := c0
      have HS0 := Lib.hid (HS.out w 2 ((k : Int) + 1) ⟨by omega, by omega⟩ HV.out)
      have HX := Lib.hid (HSA.out 2 ((k : Int) + 1))
      generalize smV l 2 ((k : Int) + 1) = x at *
      have HY := Lib.hid (HBA.out x)
      have HB1 := Lib.hid (fun w h => IH.out w x HX.out h)
      generalize hy : B x = y at HM HY HB1
      clear hy
      have HB2 := Lib.hid (fun w h => IH.out w y HY.out h)
      generalize hz : B y = z at HM HB2
      clear hz
      go_enter Tryz.func55, Tryz.ntmps55
      go_wp2_with fail
      refine HS0.out.mono ?_; rintro e w2 ⟨rfl, b2⟩
      have V2 := Lib.hid (HV.out.below b2)
      have B2 := Lib.hid b2; clear b2
      have HB1' := Lib.hid (HB1.out w2 V2.out)
      go_wp2_with fail
      refine HB1'.out.mono ?_; rintro e w3 ⟨rfl, b3⟩
      have V3 := Lib.hid (V2.out.below b3)
      have B3 := Lib.hid (bel_tr B2.out b3 (Nat.le_refl _)); clear b3
      have HB2' := Lib.hid (HB2.out w3 V3.out)
      go_wp2_with fail
      refine HB2'.out.mono ?_; rintro e w4 ⟨rfl, b4⟩
      have B4 := Lib.hid (bel_tr B3.out b4 (Nat.le_refl _)); clear b4
      go_wp2_with fail
      go_ret
      exact ⟨by rw [HM.out]; rfl, B4.out⟩
    replace HM := Lib.hid (HM.out.trans (if_neg b3))
    have q3 := tx_neL b3
    unfold ifT at q3
    by_cases b4 : s = whT
    · subst b4
      replace HM := Lib.hid (HM.out.trans (if_pos rfl))
      replace c0 : w.cell? ⟨g, o + k, none⟩ = some (.string ⟨#[119, 104, 105, 108, 101]⟩) := c0
      have HS0 := Lib.hid (HS.out w 2 ((k : Int) + 1) ⟨by omega, by omega⟩ HV.out)
      have HX := Lib.hid (HSA.out 2 ((k : Int) + 1))
      generalize smV l 2 ((k : Int) + 1) = x at *
      have HY := Lib.hid (HBA.out x)
      have HB1 := Lib.hid (fun w h => IH.out w x HX.out h)
      generalize hy : B x = y at HM HY HB1
      clear hy
      go_enter Tryz.func55, Tryz.ntmps55
      go_wp2_with fail
      refine HS0.out.mono ?_; rintro e w2 ⟨rfl, b2⟩
      have V2 := Lib.hid (HV.out.below b2)
      have B2 := Lib.hid b2; clear b2
      have HB1' := Lib.hid (HB1.out w2 V2.out)
      go_wp2_with fail
      refine HB1'.out.mono ?_; rintro e w3 ⟨rfl, b3⟩
      have V3 := Lib.hid (V2.out.below b3)
      have B3 := Lib.hid (bel_tr B2.out b3 (Nat.le_refl _)); clear b3
      go_wp2_with fail
      go_ret
      exact ⟨by rw [HM.out]; rfl, B3.out⟩
    replace HM := Lib.hid (HM.out.trans (if_neg b4))
    have q4 := tx_neL b4
    unfold whT at q4
    go_enter Tryz.func55, Tryz.ntmps55
    go_wp2_with fail
    go_ret
    exact ⟨by rw [HM.out]; rfl, Below.refl _ _⟩
theorem deedS_all (a : Option Addr) (cap : Nat) (l : List Tk) (n : Nat) (hn : l.length = n) (hl : n ≤ 4194304) (hm : ∀ s ∈ l, s.length ≤ 4194304) : ∀ d : Nat, d ≤ 100 → DeedS a n cap l d (ddE l d)
  | 0, _ => deedS a cap l n hn hl hm 0 _ (fun _ => Or.inl rfl) (blok0 a cap l n hn hl)
  | d + 1, hd => by
    have h := deedS_all a cap l n hn hl hm d (by omega)
    exact deedS a cap l n hn hl hm ((d + 1 : Nat) : Int) _ (bls_ahd (ddE_ahd l d)) (blok1 a cap l n hn hl _ (by omega) (by omega) _ (ddE_ahd l d) (by rw [show ((d + 1 : Nat) : Int) - 1 = (d : Nat) by omega]; exact h))
theorem dsE_in {l : List Tk} {i : Int} {k : Nat} (h0 : 0 ≤ i) (h1 : i < l.length) : dsE l (k + 1) i = dsE l k (ddE l 5 i) := by rw [dsE, if_pos ⟨h0, h1⟩]
theorem dsE_out {l : List Tk} {i : Int} {k : Nat} (h : i < 0 ∨ (l.length : Int) ≤ i) : dsE l k i = i := by
  cases k with
  | zero => rfl
  | succ k => rw [dsE, if_neg (by omega)]
set_option maxHeartbeats 4000000 in
set_option maxRecDepth 100000 in
theorem specRecipeOk_any (w : World) (a : Option Addr) (cap : Nat) (l : List Tk) (n : Nat) (hn : l.length = n) (hv : V1 w a cap (txL l)) (hl : n ≤ 4194304) (hm : ∀ s ∈ l, s.length ≤ 4194304) :
    Calls Tryz.prog 19 #[.slice a n cap] w (GivesB (rcB l) w) := by
  have HV := Lib.hid hv; clear hv
  have HD := Lib.hid (fun w i hi h => deedS_all a cap l n hn hl hm 5 (by decide) w i hi h)
  have HA := Lib.hid (fun i => ddE_ahd l 5 i)
  by_cases hlong : l.length ≤ 120
  · have HR := Lib.hid (show rcB l = decide (dsE l l.length 0 = l.length) by unfold rcB; rw [if_pos hlong])
    have y0 : decide ((n : Int) ≤ 120) = true := by simp; omega
    have y1 : (n : Int) ≤ 120 := by omega
    have y2 : decide (n ≤ 120) = true := by simp; omega
    generalize rcB l = r at *
    go_enter Tryz.func19, Tryz.ntmps19
    go_wp2_with fail
    go_loopg [3] (l.length + 1) (fun j q wr => ∃ z : Int, q = .int .i64 z ∧ dsE l l.length 0 = dsE l (j - 1) z ∧ (z = -1 ∨ (0 ≤ z ∧ z ≤ n ∧ n - z < j)) ∧ Below w.heap.size w wr)
    case atStart => exact ⟨0, rfl, rfl, Or.inr (by omega), Below.refl _ _⟩
    case round =>
      obtain ⟨z, rfl, hr, hz, hbel⟩ := hrel
      have HE := Lib.hid hr
      have HB := Lib.hid hbel
      have HV1 := Lib.hid (HV.out.below hbel)
      clear hr hbel
      by_cases h0 : z < 0
      · have t0 : decide (0 ≤ z) = false := by simpa using h0
        have HX := Lib.hid (HE.out.trans (dsE_out (Or.inl h0)))
        have t1 : (z == (n : Int)) = false := beq_eq_false_iff_ne.2 (by omega)
        go_wp2_with fail
        go_ret
        exact ⟨by rw [HR.out, HX.out, hn, show decide (z = (n : Int)) = false by simp; omega]; rfl, HB.out⟩
      · have t0 : decide (0 ≤ z) = true := by simp; omega
        by_cases h1 : z < (n : Int)
        · obtain ⟨m, rfl⟩ : ∃ m : Nat, z = m := ⟨z.toNat, by omega⟩
          have hmn : m < n := by omega
          have t1 : decide ((m : Int) < (n : Int)) = true := by simpa using hmn
          have t2 : decide (m < n) = true := by simpa using hmn
          obtain ⟨j, rfl⟩ : ∃ j', gk = j' + 2 := ⟨gk - 2, by omega⟩
          have HX := Lib.hid (HE.out.trans (show dsE l (j + 2 - 1) (m : Int) = dsE l (j + 1 - 1) (ddE l 5 m) from dsE_in (k := j) (by omega) (by omega)))
          have HC := Lib.hid (HD.out wr (m : Int) ⟨by omega, by omega⟩ HV1.out)
          have HY := Lib.hid (HA.out (m : Int))
          generalize hy : ddE l 5 (m : Int) = y at HX HC HY
          clear hy
          go_wp2_with fail
          refine HC.out.mono ?_; rintro e w1 ⟨rfl, b1⟩
          have B1 := Lib.hid (bel_tr HB.out b1 (Nat.le_refl _)); clear b1
          go_wp2_with fail
          go_roundg (j + 1)
          case measure => omega
          case rel => exact ⟨y, rfl, HX.out, (by have := HY.out; unfold Ahd at this; omega), B1.out⟩
        · have t1 : decide (z < (n : Int)) = false := by simpa using h1
          have HX := Lib.hid (HE.out.trans (dsE_out (Or.inr (by omega))))
          have hzn : z = n := by omega
          subst hzn
          go_wp2_with fail
          go_ret
          exact ⟨by rw [HR.out, HX.out, hn]; simp, HB.out⟩
  · have HR := Lib.hid (show rcB l = false by unfold rcB; rw [if_neg hlong])
    have y0 : decide ((n : Int) ≤ 120) = false := by simp; omega
    have y1 : ¬ (n : Int) ≤ 120 := by omega
    have y2 : decide (n ≤ 120) = false := by simp; omega
    have y3 : decide ((0 : Int) < (n : Int)) = true := by simp; omega
    have y4 : decide (0 < n) = true := by simp; omega
    have y5 : ((0 : Int) == (n : Int)) = false := beq_eq_false_iff_ne.2 (by omega)
    generalize rcB l = r at *
    go_enter Tryz.func19, Tryz.ntmps19
    go_wp2_with fail
    go_loopw [3] (fun q wr => q = .int .i64 0 ∧ wr = w) (fun _ _ => 0)
    case atStart => exact ⟨rfl, rfl⟩
    case round =>
      obtain ⟨rfl, rfl⟩ := hrel
      go_wp2_with fail
      go_ret
      exact ⟨by rw [HR.out]; rfl, Below.refl _ _⟩
end Go.Proofs.YtfnnoehpahdgcaaGreatDoor.Cl
namespace Go.Proofs.YtfnnoehpahdgcaaGreatDoor.Cl
open Go.RowKit Wd Rp Kp
set_option linter.unusedVariables false
/-- From this place on a scan meets brackets and beginnings of statements alone. -/
inductive Scn (l : List Tk) : Int → Prop
  | fin : Scn l (l.length : Int)
  | br {i : Int} {s : Tk} : tkA l i = some s → (s = [91] ∨ s = [93]) → Scn l (i + 1) → Scn l i
  | set {i : Int} : tkA l i = some setT → nmA l (i + 1) = true → smV l 1 (i + 2) ≠ -1 → Scn l (smV l 1 (i + 2)) → Scn l i
  | cut {i : Int} : tkA l i = some cutT → nmA l (i + 1) = true → Scn l (i + 2) → Scn l i
  | stop {i : Int} : tkA l i = some stopT → Scn l (i + 1) → Scn l i
  | iw {i : Int} {s : Tk} : tkA l i = some s → (s = ifT ∨ s = whT) → smV l 2 (i + 1) ≠ -1 → Scn l (smV l 2 (i + 1)) → Scn l i
theorem ahd_neg {l : List Tk} {f : Int → Int} (hf : ∀ i, Ahd l i (f i)) : f (-1) = -1 := by
  have := hf (-1)
  unfold Ahd at this
  omega
/-- A function that, where it ends, keeps a scan going. -/
def Keeps (l : List Tk) (f : Int → Int) : Prop := ∀ i, f i ≠ -1 → Scn l (f i) → Scn l i
theorem dd_scn {l : List Tk} {B : Int → Int} (hA : ∀ i, Ahd l i (B i)) (hB : Keeps l B) : Keeps l (ddG l B) := by
  intro i hn hs
  cases h : tkA l i with
  | none => unfold ddG at hn; rw [h] at hn; exact absurd rfl hn
  | some s =>
    have he : ddG l B i = (if s = setT then (if nmA l (i + 1) then smV l 1 (i + 2) else -1) else if s = cutT then (if nmA l (i + 1) then i + 2 else -1) else if s = stopT then i + 1
      else if s = ifT then B (B (smV l 2 (i + 1))) else if s = whT then B (smV l 2 (i + 1)) else -1) := by unfold ddG; rw [h]
    rw [he] at hn hs
    by_cases h1 : s = setT
    · subst h1
      rw [if_pos rfl] at hn hs
      by_cases hm : nmA l (i + 1) = true
      · rw [if_pos hm] at hn hs
        exact Scn.set h hm hn hs
      · rw [if_neg hm] at hn; exact absurd rfl hn
    · rw [if_neg h1] at hn hs
      by_cases h2 : s = cutT
      · subst h2
        rw [if_pos rfl] at hn hs
        by_cases hm : nmA l (i + 1) = true
        · rw [if_pos hm] at hs
          exact Scn.cut h hm hs
        · rw [if_neg hm] at hn; exact absurd rfl hn
      · rw [if_neg h2] at hn hs
        by_cases h3 : s = stopT
        · subst h3
          rw [if_pos rfl] at hs
          exact Scn.stop h hs
        · rw [if_neg h3] at hn hs
          by_cases h4 : s = ifT
          · rw [if_pos h4] at hn hs
            have k1 : B (smV l 2 (i + 1)) ≠ -1 := fun e => hn (by rw [e]; exact ahd_neg hA)
            have k2 : smV l 2 (i + 1) ≠ -1 := fun e => k1 (by rw [e]; exact ahd_neg hA)
            exact Scn.iw h (Or.inl h4) k2 (hB _ k1 (hB _ hn hs))
          · rw [if_neg h4] at hn hs
            by_cases h5 : s = whT
            · rw [if_pos h5] at hn hs
              have k2 : smV l 2 (i + 1) ≠ -1 := fun e => hn (by rw [e]; exact ahd_neg hA)
              exact Scn.iw h (Or.inr h5) k2 (hB _ hn hs)
            · rw [if_neg h5] at hn; exact absurd rfl hn
theorem ble_scn {l : List Tk} {f : Int → Int} (hA : ∀ i, Ahd l i (f i)) (hf : Keeps l f) : ∀ n : Nat, Keeps l (blE l f n)
  | 0 => fun i hn _ => absurd rfl hn
  | n + 1 => fun i hn hs => by
    cases h : tkA l i with
    | none => rw [blE, h] at hn; exact absurd rfl hn
    | some s =>
      by_cases hb : s = [93]
      · have he : blE l f (n + 1) i = i + 1 := by rw [blE, h]; exact if_pos hb
        rw [he] at hs
        exact Scn.br h (Or.inr hb) hs
      · have he : blE l f (n + 1) i = blE l f n (f i) := by rw [blE, h]; exact if_neg hb
        rw [he] at hn hs
        have k1 : f i ≠ -1 := fun e => hn (by rw [e]; have := ble_ahd hA n (-1); unfold Ahd at this; omega)
        exact hf i k1 (ble_scn hA hf n _ hn hs)
theorem bls_scn {l : List Tk} {f : Int → Int} (hA : ∀ i, Ahd l i (f i)) (hf : Keeps l f) : Keeps l (blS l f) := by
  intro i hn hs
  by_cases h : tkA l i = some [91]
  · have he : blS l f i = blE l f (l.length + 1) (i + 1) := by unfold blS; rw [if_pos h]
    rw [he] at hn hs
    exact Scn.br h (Or.inl rfl) (ble_scn hA hf _ _ hn hs)
  · have he : blS l f i = -1 := by unfold blS; rw [if_neg h]
    exact absurd he hn
theorem ddE_scn (l : List Tk) : ∀ d : Nat, Keeps l (ddE l d)
  | 0 => dd_scn (fun _ => Or.inl rfl) (fun i hn _ => absurd rfl hn)
  | d + 1 => dd_scn (bls_ahd (ddE_ahd l d)) (bls_scn (ddE_ahd l d) (ddE_scn l d))
theorem dsE_scn (l : List Tk) : ∀ (n : Nat) (i : Int), dsE l n i = l.length → Scn l i
  | 0, i, h => by have : i = l.length := h; rw [this]; exact Scn.fin
  | n + 1, i, h => by
    by_cases hc : 0 ≤ i ∧ i < l.length
    · rw [dsE, if_pos hc] at h
      have hs := dsE_scn l n _ h
      refine ddE_scn l 5 i (fun e => ?_) hs
      rw [e] at h
      cases n with
      | zero => have : (-1 : Int) = l.length := h; omega
      | succ n => rw [dsE, if_neg (by omega)] at h; omega
    · rw [dsE, if_neg hc] at h
      rw [h]; exact Scn.fin
/-- A valid recipe is scanned from its beginning to its end. -/
theorem rcB_scn {l : List Tk} (h : rcB l = true) : Scn l 0 := by
  unfold rcB at h
  split at h
  · exact dsE_scn l _ _ (by simpa using h)
  · cases h
/-- Two recipes one after the other: statements go on where the first ends. -/
theorem rcB_len {l : List Tk} (h : rcB l = true) : l.length ≤ 120 := by
  unfold rcB at h
  split at h
  · assumption
  · cases h
/-- How many statements a scan from here on counts. -/
def cnD (l : List Tk) : Nat → Int → Int → Int
  | 0, _, c => c
  | n + 1, i, c => match tkA l i with
    | none => c
    | some s => if s = setT then cnD l n (edV l (i + 2)) (c + 1) else if s = cutT then cnD l n (i + 2) (c + 1) else if s = stopT then cnD l n (i + 1) (c + 1)
      else if s = ifT ∨ s = whT then cnD l n (edV l (i + 1)) (c + 1) else cnD l n (i + 1) c
/-- What DeedsIn gives. -/
def dnR (l : List Tk) : Int := if rcB l then cnD l (l.length + 1) 0 0 else -1
end Go.Proofs.YtfnnoehpahdgcaaGreatDoor.Cl
namespace Go.Proofs.YtfnnoehpahdgcaaGreatDoor.Cl
open Go.RowKit Wd Rp Kp
set_option linter.unusedVariables false
/-- What is read of a statement: the name behind its head, the tokens of its expression; empty where it has none. -/
abbrev Rc := Tk × List Tk
def tkN (l : List Tk) (i : Int) : Tk := (tkA l i).getD []
def smT (l : List Tk) (i : Int) : List Tk := match enA l i with | some n => (l.drop i.toNat).take n | none => []
def ddQ (l : List Tk) (B : Int → Int) (R : Int → List Rc) (i : Int) : List Rc := match tkA l i with
  | none => []
  | some s => if s = setT then [(tkN l (i + 1), smT l (i + 2))] else if s = cutT then [(tkN l (i + 1), [])] else if s = stopT then [([], [])]
    else if s = ifT then ([], smT l (i + 1)) :: (R (smV l 2 (i + 1)) ++ R (B (smV l 2 (i + 1)))) else if s = whT then ([], smT l (i + 1)) :: R (smV l 2 (i + 1)) else []
/-- Statements up to ] or to the end: where they lead, what is read of them. -/
def dlE (l : List Tk) (f : Int → Int) : Nat → Int → Int
  | 0, i => i
  | n + 1, i => match tkA l i with | none => i | some s => if s = [93] then i else dlE l f n (f i)
def dlR (l : List Tk) (f : Int → Int) (R : Int → List Rc) : Nat → Int → List Rc
  | 0, _ => []
  | n + 1, i => match tkA l i with | none => [] | some s => if s = [93] then [] else R i ++ dlR l f R n (f i)
def blR (l : List Tk) (f : Int → Int) (R : Int → List Rc) (i : Int) : List Rc := dlR l f R (l.length + 1) (i + 1)
def ddR (l : List Tk) : Nat → Int → List Rc
  | 0 => ddQ l (fun _ => -1) (fun _ => [])
  | d + 1 => ddQ l (blS l (ddE l d)) (blR l (ddE l d) (ddR l d))
/-- All that is read of a recipe. -/
def rcR (l : List Tk) : List Rc := dlR l (ddE l 5) (ddR l 5) (l.length + 1) 0
theorem ble_neg (l : List Tk) (f : Int → Int) (n : Nat) {i : Int} (h : i < 0) : blE l f n i = -1 := by
  cases n with
  | zero => rfl
  | succ n => rw [blE, tkA_neg h]
theorem dlE_neg (l : List Tk) (f : Int → Int) (n : Nat) {i : Int} (h : i < 0) : dlE l f n i = i := by
  cases n with
  | zero => rfl
  | succ n => rw [dlE, tkA_neg h]
/-- A block ends behind the ] to which its statements lead. -/
theorem ble_dl {l : List Tk} {f : Int → Int} (hf : ∀ i, Ahd l i (f i)) : ∀ (n : Nat) (i : Int), (i < 0 ∨ (l.length : Int) - i < n) → blE l f n i = if tkA l (dlE l f n i) = some [93] then dlE l f n i + 1 else -1
  | 0, i, h => by
    have e1 : blE l f 0 i = -1 := rfl
    have e2 : dlE l f 0 i = i := rfl
    rw [e1, e2]
    cases e : tkA l i with
    | none => simp
    | some s => have := tkA_some e; omega
  | n + 1, i, h => by
    cases e : tkA l i with
    | none =>
      have e1 : blE l f (n + 1) i = -1 := by rw [blE, e]
      have e2 : dlE l f (n + 1) i = i := by rw [dlE, e]
      rw [e1, e2, e]; simp
    | some s =>
      by_cases hs : s = [93]
      · have e1 : blE l f (n + 1) i = i + 1 := by rw [blE, e]; exact if_pos hs
        have e2 : dlE l f (n + 1) i = i := by rw [dlE, e]; exact if_pos hs
        rw [e1, e2, e, hs, if_pos rfl]
      · have e1 : blE l f (n + 1) i = blE l f n (f i) := by rw [blE, e]; exact if_neg hs
        have e2 : dlE l f (n + 1) i = dlE l f n (f i) := by rw [dlE, e]; exact if_neg hs
        rw [e1, e2]
        have := tkA_some e
        have := hf i
        unfold Ahd at this
        exact ble_dl hf n (f i) (by omega)
/-- A list is a recipe if its statements lead to its end. -/
theorem dsE_dl (l : List Tk) : ∀ (n : Nat) (i : Int), (i < 0 ∨ (l.length : Int) - i ≤ n) → ∀ m : Nat, n ≤ m → (dsE l n i = l.length ↔ dlE l (ddE l 5) m i = l.length)
  | 0, i, h, m, _ => by
    have e : dsE l 0 i = i := rfl
    rw [e]
    have : dlE l (ddE l 5) m i = i := by
      cases m with
      | zero => rfl
      | succ m =>
        rw [dlE]
        cases e : tkA l i with
        | none => rfl
        | some s => have := tkA_some e; omega
    rw [this]
  | n + 1, i, h, m, hm => by
    obtain ⟨m, rfl⟩ : ∃ k, m = k + 1 := ⟨m - 1, by omega⟩
    by_cases hi : 0 ≤ i ∧ i < l.length
    · rw [dsE, if_pos hi]
      obtain ⟨s, hs⟩ : ∃ s, tkA l i = some s := by
        unfold tkA
        rw [if_neg (by omega)]
        exact ⟨l[i.toNat]'(by omega), List.getElem?_eq_getElem _⟩
      by_cases hb : s = [93]
      · have e1 : ddE l 5 i = -1 := by
          show ddG l _ i = -1
          unfold ddG
          rw [hs, hb]
          simp [setT, cutT, stopT, ifT, whT]
        have e2 : dlE l (ddE l 5) (m + 1) i = i := by rw [dlE, hs]; exact if_pos hb
        rw [e1, e2, dsE_out (Or.inl (by omega))]
        omega
      · have e2 : dlE l (ddE l 5) (m + 1) i = dlE l (ddE l 5) m (ddE l 5 i) := by rw [dlE, hs]; exact if_neg hb
        rw [e2]
        have := ddE_ahd l 5 i
        unfold Ahd at this
        exact dsE_dl l n (ddE l 5 i) (by omega) m (by omega)
    · rw [dsE, if_neg hi]
      have : dlE l (ddE l 5) (m + 1) i = i := by
        rw [dlE]
        cases e : tkA l i with
        | none => rfl
        | some s => have := tkA_some e; omega
      rw [this]
theorem rcB_dl (l : List Tk) : rcB l = (decide (l.length ≤ 120) && decide (dlE l (ddE l 5) (l.length + 1) 0 = l.length)) := by
  unfold rcB
  split
  · rename_i h
    rw [decide_eq_true h, Bool.true_and]
    exact decide_eq_decide.2 (dsE_dl l l.length 0 (by omega) _ (by omega))
  · rename_i h
    rw [decide_eq_false h, Bool.false_and]
theorem ddQ_some {l : List Tk} {B : Int → Int} {R : Int → List Rc} {i : Int} {s : Tk} (h : tkA l i = some s) : ddQ l B R i = if s = setT then [(tkN l (i + 1), smT l (i + 2))] else if s = cutT then [(tkN l (i + 1), [])] else if s = stopT then [([], [])]
    else if s = ifT then ([], smT l (i + 1)) :: (R (smV l 2 (i + 1)) ++ R (B (smV l 2 (i + 1)))) else if s = whT then ([], smT l (i + 1)) :: R (smV l 2 (i + 1)) else [] := by unfold ddQ; rw [h]
theorem foV_agr {R : Type} (f : Tk → R) (g : Nat → R → R → R) (z : R) {l m : List Tk} {i j : Int} {n : Nat} (h : enA l i = some n) (h2 : enA m j = some n) (hp : (m.drop j.toNat).take n = (l.drop i.toNat).take n) : foV f g z m j = foV f g z l i := by
  unfold foV
  rw [h, h2]
  dsimp only
  rw [hp]
theorem nmB_nil : nmB [] = false := by decide
end Go.Proofs.YtfnnoehpahdgcaaGreatDoor.Cl
namespace Go.Proofs.YtfnnoehpahdgcaaGreatDoor.Cl
open Go.RowKit Wd Rp Kp
set_option linter.unusedVariables false
def verbsL : List Tk := [setT, cutT, stopT, ifT, whT]
theorem sm_ed {l : List Tk} {kind i : Int} (h : smV l kind i ≠ -1) : edV l i = smV l kind i := by
  unfold smV at h ⊢
  split at h
  · exact absurd rfl h
  · rename_i g; rw [if_neg g]
end Go.Proofs.YtfnnoehpahdgcaaGreatDoor.Cl
namespace Go.Proofs.YtfnnoehpahdgcaaGreatDoor.Cl
open Go.RowKit Wd Rp Kp
set_option linter.unusedVariables false
/-- From this place on a scan meets brackets and statements alone: what it reads of them. -/
inductive ScR (l : List Tk) : Int → List Rc → Prop
  | fin : ScR l (l.length : Int) []
  | br {i : Int} {s : Tk} {F : List Rc} : tkA l i = some s → (s = [91] ∨ s = [93]) → ScR l (i + 1) F → ScR l i F
  | set {i : Int} {F : List Rc} : tkA l i = some setT → nmA l (i + 1) = true → smV l 1 (i + 2) ≠ -1 → ScR l (smV l 1 (i + 2)) F → ScR l i ((tkN l (i + 1), smT l (i + 2)) :: F)
  | cut {i : Int} {F : List Rc} : tkA l i = some cutT → nmA l (i + 1) = true → ScR l (i + 2) F → ScR l i ((tkN l (i + 1), []) :: F)
  | stop {i : Int} {F : List Rc} : tkA l i = some stopT → ScR l (i + 1) F → ScR l i (([], []) :: F)
  | iw {i : Int} {s : Tk} {F : List Rc} : tkA l i = some s → (s = ifT ∨ s = whT) → smV l 2 (i + 1) ≠ -1 → ScR l (smV l 2 (i + 1)) F → ScR l i (([], smT l (i + 1)) :: F)
/-- What is read where it ends goes ahead of what a scan reads from there on. -/
def KeepR (l : List Tk) (f : Int → Int) (R : Int → List Rc) : Prop := ∀ (i : Int) (F : List Rc), f i ≠ -1 → ScR l (f i) F → ScR l i (R i ++ F)
theorem dd_scr {l : List Tk} {B : Int → Int} {R : Int → List Rc} (hA : ∀ i, Ahd l i (B i)) (hB : KeepR l B R) : KeepR l (ddG l B) (ddQ l B R) := by
  intro i F hn hs
  cases h : tkA l i with
  | none => unfold ddG at hn; rw [h] at hn; exact absurd rfl hn
  | some s =>
    rw [ddG_some h] at hn hs
    rw [ddQ_some h]
    by_cases h1 : s = setT
    · subst h1
      rw [if_pos rfl] at hn hs
      rw [if_pos rfl]
      by_cases hm : nmA l (i + 1) = true
      · rw [if_pos hm] at hn hs
        exact ScR.set h hm hn hs
      · rw [if_neg hm] at hn; exact absurd rfl hn
    · rw [if_neg h1] at hn hs
      rw [if_neg h1]
      by_cases h2 : s = cutT
      · subst h2
        rw [if_pos rfl] at hn hs
        rw [if_pos rfl]
        by_cases hm : nmA l (i + 1) = true
        · rw [if_pos hm] at hs
          exact ScR.cut h hm hs
        · rw [if_neg hm] at hn; exact absurd rfl hn
      · rw [if_neg h2] at hn hs
        rw [if_neg h2]
        by_cases h3 : s = stopT
        · subst h3
          rw [if_pos rfl] at hs
          rw [if_pos rfl]
          exact ScR.stop h hs
        · rw [if_neg h3] at hn hs
          rw [if_neg h3]
          by_cases h4 : s = ifT
          · rw [if_pos h4] at hn hs
            rw [if_pos h4]
            have k1 : B (smV l 2 (i + 1)) ≠ -1 := fun e => hn (by rw [e]; exact ahd_neg hA)
            have k2 : smV l 2 (i + 1) ≠ -1 := fun e => k1 (by rw [e]; exact ahd_neg hA)
            have := ScR.iw h (Or.inl h4) k2 (hB _ _ k1 (hB _ _ hn hs))
            rw [List.cons_append, List.append_assoc]
            exact this
          · rw [if_neg h4] at hn hs
            rw [if_neg h4]
            by_cases h5 : s = whT
            · rw [if_pos h5] at hn hs
              rw [if_pos h5]
              have k2 : smV l 2 (i + 1) ≠ -1 := fun e => hn (by rw [e]; exact ahd_neg hA)
              exact ScR.iw h (Or.inr h5) k2 (hB _ _ hn hs)
            · rw [if_neg h5] at hn; exact absurd rfl hn
theorem ble_scr {l : List Tk} {f : Int → Int} {R : Int → List Rc} (hA : ∀ i, Ahd l i (f i)) (hf : KeepR l f R) : ∀ n : Nat, KeepR l (blE l f n) (dlR l f R n)
  | 0 => fun i F hn _ => absurd rfl hn
  | n + 1 => fun i F hn hs => by
    cases h : tkA l i with
    | none => rw [blE, h] at hn; exact absurd rfl hn
    | some s =>
      rw [dlR, h]
      dsimp only
      by_cases hb : s = [93]
      · have he : blE l f (n + 1) i = i + 1 := by rw [blE, h]; exact if_pos hb
        rw [he] at hs
        rw [if_pos hb]
        exact ScR.br h (Or.inr hb) hs
      · have he : blE l f (n + 1) i = blE l f n (f i) := by rw [blE, h]; exact if_neg hb
        rw [he] at hn hs
        rw [if_neg hb, List.append_assoc]
        have k1 : f i ≠ -1 := fun e => hn (by rw [e]; have := ble_ahd hA n (-1); unfold Ahd at this; omega)
        exact hf i _ k1 (ble_scr hA hf n _ _ hn hs)
theorem bls_scr {l : List Tk} {f : Int → Int} {R : Int → List Rc} (hA : ∀ i, Ahd l i (f i)) (hf : KeepR l f R) : KeepR l (blS l f) (blR l f R) := by
  intro i F hn hs
  by_cases h : tkA l i = some [91]
  · have he : blS l f i = blE l f (l.length + 1) (i + 1) := by unfold blS; rw [if_pos h]
    rw [he] at hn hs
    exact ScR.br h (Or.inl rfl) (ble_scr hA hf _ _ _ hn hs)
  · have he : blS l f i = -1 := by unfold blS; rw [if_neg h]
    exact absurd he hn
theorem ddE_scr (l : List Tk) : ∀ d : Nat, KeepR l (ddE l d) (ddR l d)
  | 0 => dd_scr (fun _ => Or.inl rfl) (fun i F hn _ => absurd rfl hn)
  | d + 1 => dd_scr (bls_ahd (ddE_ahd l d)) (bls_scr (ddE_ahd l d) (ddE_scr l d))
theorem dlE_scr (l : List Tk) : ∀ (n : Nat) (i : Int), dlE l (ddE l 5) n i = l.length → ScR l i (dlR l (ddE l 5) (ddR l 5) n i)
  | 0, i, h => by have : i = l.length := h; rw [this]; exact ScR.fin
  | n + 1, i, h => by
    cases e : tkA l i with
    | none => rw [dlE, e] at h; rw [dlR, e]; have : i = l.length := h; rw [this]; exact ScR.fin
    | some s =>
      by_cases hb : s = [93]
      · have e2 : dlE l (ddE l 5) (n + 1) i = i := by rw [dlE, e]; exact if_pos hb
        have := tkA_some e
        omega
      · have e2 : dlE l (ddE l 5) (n + 1) i = dlE l (ddE l 5) n (ddE l 5 i) := by rw [dlE, e]; exact if_neg hb
        rw [e2] at h
        have e3 : dlR l (ddE l 5) (ddR l 5) (n + 1) i = ddR l 5 i ++ dlR l (ddE l 5) (ddR l 5) n (ddE l 5 i) := by rw [dlR, e]; exact if_neg hb
        rw [e3]
        refine ddE_scr l 5 i _ (fun g => ?_) (dlE_scr l n _ h)
        rw [g, dlE_neg _ _ _ (by omega)] at h
        omega
theorem rcB_scr {l : List Tk} (h : rcB l = true) : ScR l 0 (rcR l) := by
  rw [rcB_dl] at h
  simp only [Bool.and_eq_true, decide_eq_true_eq] at h
  exact dlE_scr l _ 0 h.2
theorem ScR.at {l : List Tk} {i : Int} {F : List Rc} (h : ScR l i F) : 0 ≤ i ∧ i ≤ l.length := by
  cases h with
  | fin => omega
  | br h _ _ => have := tkA_some h; omega
  | set h _ _ _ => have := tkA_some h; omega
  | cut h _ _ => have := tkA_some h; omega
  | stop h _ => have := tkA_some h; omega
  | iw h _ _ _ => have := tkA_some h; omega
theorem sm_ahead {l : List Tk} {kind i : Int} (h : smV l kind i ≠ -1) : i < smV l kind i ∧ edV l i = smV l kind i := by
  have := sm_ahd l kind i
  unfold Ahd at this
  exact ⟨by omega, sm_ed h⟩
theorem scr_cn {l : List Tk} {i : Int} {F : List Rc} (h : ScR l i F) : ∀ (n : Nat) (c : Int), (l.length : Int) - i < n → cnD l n i c = c + (F.length : Int) := by
  induction h with
  | fin =>
    intro n c _
    cases n with
    | zero => simp [cnD]
    | succ n => rw [cnD, tkA_out (by omega)]; simp
  | @br i s F h hs hr ih =>
    intro n c hn
    have := tkA_some h
    obtain ⟨n, rfl⟩ : ∃ k, n = k + 1 := ⟨n - 1, by omega⟩
    rw [cnD, h]
    dsimp only
    rw [← ih n c (by omega)]
    rcases hs with rfl | rfl <;> simp [setT, cutT, stopT, ifT, whT]
  | @set i F h hm hn2 hr ih =>
    intro n c hn
    have := tkA_some h
    obtain ⟨n, rfl⟩ : ∃ k, n = k + 1 := ⟨n - 1, by omega⟩
    obtain ⟨h1, h2⟩ := sm_ahead hn2
    rw [cnD, h]
    dsimp only
    rw [if_pos rfl, h2, ih n (c + 1) (by omega), List.length_cons]
    omega
  | @cut i F h hm hr ih =>
    intro n c hn
    have := tkA_some h
    obtain ⟨n, rfl⟩ : ∃ k, n = k + 1 := ⟨n - 1, by omega⟩
    rw [cnD, h]
    dsimp only
    rw [if_neg (by decide), if_pos rfl, ih n (c + 1) (by omega), List.length_cons]
    omega
  | @stop i F h hr ih =>
    intro n c hn
    have := tkA_some h
    obtain ⟨n, rfl⟩ : ∃ k, n = k + 1 := ⟨n - 1, by omega⟩
    rw [cnD, h]
    dsimp only
    rw [if_neg (by decide), if_neg (by decide), if_pos rfl, ih n (c + 1) (by omega), List.length_cons]
    omega
  | @iw i s F h hs hn2 hr ih =>
    intro n c hn
    have := tkA_some h
    obtain ⟨n, rfl⟩ : ∃ k, n = k + 1 := ⟨n - 1, by omega⟩
    obtain ⟨h1, h2⟩ := sm_ahead hn2
    rw [cnD, h]
    dsimp only
    rw [if_neg (by rcases hs with rfl | rfl <;> decide), if_neg (by rcases hs with rfl | rfl <;> decide), if_neg (by rcases hs with rfl | rfl <;> decide), if_pos hs, h2, ih n (c + 1) (by omega), List.length_cons]
    omega
/-- What DeedsIn gives is how many statements are read. -/
theorem dn_is (l : List Tk) : dnR l = if rcB l then ((rcR l).length : Int) else -1 := by
  unfold dnR
  split
  · rename_i h
    rw [scr_cn (rcB_scr h) _ 0 (by omega)]
    omega
  · rfl
end Go.Proofs.YtfnnoehpahdgcaaGreatDoor.Cl
