/-
  The text of an instruction and the instruction of a text, plain: 'opB' (what OpOk says), 'shO', 'rdO'; one is the other's inverse.
-/
import Derived.Test.YtoiphglfngkoiaaDoorKv
namespace Go.Proofs.YtoiphglfngkoiaaDoor.Cl
open Go.RowKit Wd Rp Kp
set_option linter.unusedVariables false
/-- The operand's text. -/
def odO (o : Ov) : Tk := if isNu o.k then 32 :: Lib.itoa o.n else if isNm o.k then 32 :: o.m else []
/-- What ShowOp gives. -/
def shO (o : Ov) : Tk := if opB o then wdO.getD (o.k - 1).toNat [] ++ odO o else []
/-- What ReadOp tries, and what it gives. -/
def rdP (s : Tk) : Ov := ⟨atI wdO ((spl 32 s).headD []) + 1, if isNu (atI wdO ((spl 32 s).headD []) + 1) && decide ((spl 32 s).length = 2) then rdV ((spl 32 s).getD 1 []) else 0, if isNm (atI wdO ((spl 32 s).headD []) + 1) && decide ((spl 32 s).length = 2) then (spl 32 s).getD 1 [] else []⟩
def rdO (s : Tk) : Option Ov := if (rdP s).k ≠ 0 ∧ shO (rdP s) = s then some (rdP s) else none
theorem rdO_sh {s : Tk} {o : Ov} (h : rdO s = some o) : shO o = s := by
  unfold rdO at h
  split at h
  · rename_i h1
    cases h; exact h1.2
  · cases h
theorem shO_no {o : Ov} (h : opB o = false) : shO o = [] := by unfold shO; rw [h]; rfl
theorem shO_yes {o : Ov} (h : opB o = true) : shO o = wdO.getD (o.k - 1).toNat [] ++ odO o := by unfold shO; rw [h]; rfl
theorem rdO_nil : rdO [] = none := by decide
theorem rdO_ok {s : Tk} {o : Ov} (h : rdO s = some o) : opB o = true := by
  cases e : opB o with
  | true => rfl
  | false =>
    have h1 := rdO_sh h
    rw [shO_no e] at h1
    rw [← h1, rdO_nil] at h; cases h
theorem mt_of {m : Tk} (h : m.isEmpty = true) : m = [] := by cases m with
  | nil => rfl
  | cons a r => cases h
theorem dig_bl0 {l : List UInt8} (h : l.all isDig = true) : (32 : UInt8) ∉ l := fun hm => by
  have := List.all_eq_true.1 h 32 hm
  revert this; decide
theorem itoa_bl0 (n : Int) : (32 : UInt8) ∉ Lib.itoa n := by
  unfold Lib.itoa
  split
  · intro hm
    rcases List.mem_cons.1 hm with h | h
    · revert h; decide
    · exact dig_bl0 (dec_is _ n.natAbs (Nat.le_refl _)).1 h
  · exact dig_bl0 (dec_is _ n.toNat (Nat.le_refl _)).1
/-- A number's text has no blank. -/
theorem itoa_bl {n : Int} (h : isW n = true) : (32 : UInt8) ∉ Lib.itoa n ∧ rdV (Lib.itoa n) = n := by
  have h1 := (rd_iff (Lib.itoa n) n).2 ⟨h, rfl⟩
  exact ⟨itoa_bl0 n, by unfold rdV; rw [h1]; rfl⟩
theorem nm_bl {m : Tk} (h : nmB m = true) : (32 : UInt8) ∉ m := fun hm => by
  have := nm_low h 32 hm
  exact absurd this (by decide)
theorem spl_two {a b : Tk} (h : (32 : UInt8) ∉ a) (h2 : (32 : UInt8) ∉ b) : spl 32 (a ++ 32 :: b) = [a, b] := by rw [spl_app h, spl_none h2]
theorem rd_num {w : Tk} {k n : Int} (hw : (32 : UInt8) ∉ w) (hk : atI wdO w + 1 = k) (hu : isNu k = true) (hm : isNm k = false) (hn : isW n = true) : rdP (w ++ 32 :: Lib.itoa n) = ⟨k, n, []⟩ := by
  obtain ⟨h1, h2⟩ := itoa_bl hn
  unfold rdP
  rw [spl_two hw h1]
  simp [hk, hu, hm, h2]
theorem rd_nam {w m : Tk} {k : Int} (hw : (32 : UInt8) ∉ w) (hk : atI wdO w + 1 = k) (hu : isNu k = false) (hm : isNm k = true) (hn : nmB m = true) : rdP (w ++ 32 :: m) = ⟨k, 0, m⟩ := by
  unfold rdP
  rw [spl_two hw (nm_bl hn)]
  simp [hk, hu, hm]
/-- ReadOp of ShowOp is the instruction. -/
theorem rdP_sh {o : Ov} (h : opB o = true) : rdP (shO o) = o ∧ o.k ≠ 0 := by
  rw [shO_yes h]
  obtain ⟨k, n, m⟩ := o
  unfold opB at h
  dsimp only at h ⊢
  split at h
  · rename_i e; subst e
    rw [Bool.and_eq_true] at h
    rw [mt_of h.2]
    exact ⟨rd_num (w := [112, 117, 115, 104]) (by decide) (by decide) (by decide) (by decide) h.1, by decide⟩
  · split at h
    · rename_i e; subst e
      rw [Bool.and_eq_true, inB_11] at h
      rw [mt_of h.2]
      exact ⟨rd_num (w := [103, 105, 118, 101, 110]) (by decide) (by decide) (by decide) (by decide) ((isW_iff n).2 (by omega)), by decide⟩
    · split at h
      · rename_i e
        rw [Bool.and_eq_true, decide_eq_true_eq] at h
        obtain ⟨h1, rfl⟩ := h
        unfold isNm at e
        rw [Bool.or_eq_true, Bool.or_eq_true, decide_eq_true_eq, decide_eq_true_eq, decide_eq_true_eq] at e
        rcases e with rfl | rfl | rfl
        · exact ⟨rd_nam (w := [108, 111, 97, 100]) (by decide) (by decide) (by decide) (by decide) h1, by decide⟩
        · exact ⟨rd_nam (w := [115, 101, 116]) (by decide) (by decide) (by decide) (by decide) h1, by decide⟩
        · exact ⟨rd_nam (w := [99, 117, 116]) (by decide) (by decide) (by decide) (by decide) h1, by decide⟩
      · split at h
        · rename_i e; subst e
          rw [Bool.and_eq_true, inB_11] at h
          rw [mt_of h.2]
          exact ⟨rd_num (w := [100, 111]) (by decide) (by decide) (by decide) (by decide) ((isW_iff n).2 (by omega)), by decide⟩
        · split at h
          · rename_i e
            rw [Bool.and_eq_true, inB_11] at h
            rw [mt_of h.2]
            rcases e with rfl | rfl
            · exact ⟨rd_num (w := [103, 111]) (by decide) (by decide) (by decide) (by decide) ((isW_iff n).2 (by omega)), by decide⟩
            · exact ⟨rd_num (w := [117, 110, 108, 101, 115, 115]) (by decide) (by decide) (by decide) (by decide) ((isW_iff n).2 (by omega)), by decide⟩
          · rw [Bool.and_eq_true, Bool.and_eq_true, inB_11, decide_eq_true_eq] at h
            obtain ⟨h1, rfl, h2⟩ := h
            rw [mt_of h2]
            have : k = 9 ∨ k = 10 ∨ k = 11 := by omega
            rcases this with rfl | rfl | rfl <;> exact ⟨by rfl, by decide⟩
theorem rdO_yes {o : Ov} (h : opB o = true) : rdO (shO o) = some o := by
  obtain ⟨h1, h2⟩ := rdP_sh h
  unfold rdO
  rw [h1, if_pos ⟨h2, rfl⟩]
end Go.Proofs.YtoiphglfngkoiaaDoor.Cl
