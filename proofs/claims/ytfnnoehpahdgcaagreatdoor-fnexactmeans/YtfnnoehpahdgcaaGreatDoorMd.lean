/-
  Programs, plain: fuel ('run_fuel', 'run_up': more of it changes only what remains), valid bins stay valid ('run_ok').
-/
import Derived.Test.YtfnnoehpahdgcaaGreatDoorJp
import Derived.Test.YtfnnoehpahdgcaaGreatDoorMc
namespace Go.Proofs.YtfnnoehpahdgcaaGreatDoor.Cl
open Go.RowKit Wd Rp Kp
set_option linter.unusedVariables false
theorem whR_fuel {gs : List Int} {e : List Tk} {body : St0 → St0} (hb : ∀ st : St0, 0 ≤ st.f → 0 ≤ (body st).f ∧ (body st).f ≤ st.f) : ∀ (n : Nat) (st : St0), 0 ≤ st.f → 0 ≤ (whR gs e body n st).f ∧ (whR gs e body n st).f ≤ st.f
  | 0, st, h => ⟨h, Int.le_refl _⟩
  | n + 1, st, h => by
    rw [whR]
    split
    · exact ⟨h, Int.le_refl _⟩
    · rename_i h0
      split
      · exact ⟨by show 0 ≤ st.f - 1; omega, by show st.f - 1 ≤ st.f; omega⟩
      · split
        · exact ⟨by show 0 ≤ st.f - 1; omega, by show st.f - 1 ≤ st.f; omega⟩
        · have h1 := hb ⟨st.c, st.b, st.f - 1⟩ (by show 0 ≤ st.f - 1; omega)
          have h1' : (body ⟨st.c, st.b, st.f - 1⟩).f ≤ st.f - 1 := h1.2
          split
          · have h2 := whR_fuel (gs := gs) (e := e) hb n _ h1.1
            omega
          · omega
mutual
theorem Sm.run_fuel (gs : List Int) : ∀ (s : Sm) (st : St0), 0 ≤ st.f → 0 ≤ (s.run gs st).f ∧ (s.run gs st).f ≤ st.f
  | .set n e, st, h => by rw [Sm.run]; split <;> exact ⟨h, Int.le_refl _⟩
  | .cut n, st, h => by rw [Sm.run]; exact ⟨h, Int.le_refl _⟩
  | .stop, st, h => by rw [Sm.run]; exact ⟨h, Int.le_refl _⟩
  | .ifs e a b, st, h => by
    rw [Sm.run]
    split
    · exact ⟨h, Int.le_refl _⟩
    · split
      · exact Sl.run_fuel gs b st h
      · exact Sl.run_fuel gs a st h
  | .whl e a, st, h => by
    rw [Sm.run]
    exact whR_fuel (fun st h => Sl.run_fuel gs a st h) _ st h
theorem Sl.run_fuel (gs : List Int) : ∀ (s : Sl) (st : St0), 0 ≤ st.f → 0 ≤ (s.run gs st).f ∧ (s.run gs st).f ≤ st.f
  | .nil, st, h => by rw [Sl.run]; exact ⟨h, Int.le_refl _⟩
  | .cons s r, st, h => by
    rw [Sl.run]
    have h1 := Sm.run_fuel gs s st h
    split
    · have h2 := Sl.run_fuel gs r _ h1.1
      omega
    · exact h1
end
/-- With more fuel. -/
def St0.up (st : St0) (k : Int) : St0 := ⟨st.c, st.b, st.f + k⟩
theorem whR_up {gs : List Int} {e : List Tk} {body : St0 → St0} {k : Int} (hk : 0 ≤ k) (hb : ∀ st : St0, 0 ≤ st.f → 0 ≤ (body st).f ∧ (body st).f ≤ st.f) (hu : ∀ st : St0, 0 ≤ st.f → (body st).c ≠ 3 → body (st.up k) = (body st).up k) : ∀ (n m : Nat) (st : St0), 0 ≤ st.f → st.f < n → st.f + k < m → (whR gs e body n st).c ≠ 3 → whR gs e body m (st.up k) = (whR gs e body n st).up k
  | 0, m, st, h, hn, hm, hc => by omega
  | n + 1, 0, st, h, hn, hm, hc => by omega
  | n + 1, m + 1, st, h, hn, hm, hc => by
    rw [whR] at hc ⊢
    rw [whR]
    by_cases h0 : st.f = 0
    · rw [if_pos h0] at hc; exact absurd rfl hc
    · rw [if_neg h0] at hc ⊢
      rw [if_neg (show ¬ (st.up k).f = 0 by show ¬ st.f + k = 0; omega)]
      have e1 : (st.up k).b = st.b := rfl
      have e2 : (st.up k).c = st.c := rfl
      have e3 : (st.up k).f - 1 = st.f - 1 + k := by show st.f + k - 1 = st.f - 1 + k; omega
      rw [e1, e2, e3]
      split
      · rfl
      · rename_i hz
        rw [if_neg hz] at hc
        split
        · rfl
        · rename_i hz2
          rw [if_neg hz2] at hc
          have h1 := hb ⟨st.c, st.b, st.f - 1⟩ (by show 0 ≤ st.f - 1; omega)
          have h1' : (body ⟨st.c, st.b, st.f - 1⟩).f ≤ st.f - 1 := h1.2
          have hc3 : (body ⟨st.c, st.b, st.f - 1⟩).c ≠ 3 := fun e => by
            rw [if_neg (by rw [e]; decide)] at hc
            exact hc e
          have hB : body ⟨st.c, st.b, st.f - 1 + k⟩ = (body ⟨st.c, st.b, st.f - 1⟩).up k := hu ⟨st.c, st.b, st.f - 1⟩ (by show 0 ≤ st.f - 1; omega) hc3
          rw [hB]
          by_cases h5 : (body ⟨st.c, st.b, st.f - 1⟩).c = 0
          · rw [if_pos h5] at hc ⊢
            rw [if_pos (show ((body ⟨st.c, st.b, st.f - 1⟩).up k).c = 0 from h5)]
            exact whR_up hk hb hu n m _ h1.1 (by omega) (by omega) hc
          · rw [if_neg h5, if_neg (show ¬ ((body ⟨st.c, st.b, st.f - 1⟩).up k).c = 0 from h5)]
mutual
theorem Sm.run_up (gs : List Int) {k : Int} (hk : 0 ≤ k) : ∀ (s : Sm) (st : St0), 0 ≤ st.f → (s.run gs st).c ≠ 3 → s.run gs (st.up k) = (s.run gs st).up k
  | .set n e, st, h, hc => by
    rw [Sm.run, Sm.run]
    have e1 : (st.up k).b = st.b := rfl
    rw [e1]
    split <;> rfl
  | .cut n, st, h, hc => by rw [Sm.run, Sm.run]; rfl
  | .stop, st, h, hc => by rw [Sm.run, Sm.run]; rfl
  | .ifs e a b, st, h, hc => by
    rw [Sm.run] at hc
    rw [Sm.run, Sm.run]
    have e1 : (st.up k).b = st.b := rfl
    rw [e1]
    split
    · rfl
    · rename_i hz
      rw [if_neg hz] at hc
      split
      · rename_i h2
        rw [if_pos h2] at hc
        exact Sl.run_up gs hk b st h hc
      · rename_i h2
        rw [if_neg h2] at hc
        exact Sl.run_up gs hk a st h hc
  | .whl e a, st, h, hc => by
    rw [Sm.run] at hc
    rw [Sm.run, Sm.run]
    exact whR_up hk (fun st h => Sl.run_fuel gs a st h) (fun st h hc => Sl.run_up gs hk a st h hc) _ _ st h (by omega) (by show st.f + k < (((st.f + k).toNat + 1 : Nat) : Int); omega) hc
theorem Sl.run_up (gs : List Int) {k : Int} (hk : 0 ≤ k) : ∀ (s : Sl) (st : St0), 0 ≤ st.f → (s.run gs st).c ≠ 3 → s.run gs (st.up k) = (s.run gs st).up k
  | .nil, st, h, hc => by rw [Sl.run, Sl.run]
  | .cons s r, st, h, hc => by
    rw [Sl.run] at hc
    rw [Sl.run, Sl.run]
    have h1 := Sm.run_fuel gs s st h
    by_cases h5 : (s.run gs st).c = 0
    · have hS := Sm.run_up gs hk s st h (by rw [h5]; decide)
      rw [if_pos h5] at hc ⊢
      rw [hS, if_pos (show ((s.run gs st).up k).c = 0 from h5)]
      exact Sl.run_up gs hk r _ h1.1 hc
    · rw [if_neg h5] at hc ⊢
      have hS := Sm.run_up gs hk s st h hc
      rw [hS, if_neg (show ¬ ((s.run gs st).up k).c = 0 from h5)]
end
end Go.Proofs.YtfnnoehpahdgcaaGreatDoor.Cl
