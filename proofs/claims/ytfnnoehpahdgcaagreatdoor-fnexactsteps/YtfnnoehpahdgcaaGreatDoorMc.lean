/-
  Programs, plain: statements as trees ('Sm', 'Sl'), what they do ('run'); more fuel; one after the other.
-/
import Derived.Test.YtfnnoehpahdgcaaGreatDoorZa
import Derived.Test.YtfnnoehpahdgcaaGreatDoorJc
namespace Go.Proofs.YtfnnoehpahdgcaaGreatDoor.Cl
open Go.RowKit Wd Rp Kp
set_option linter.unusedVariables false
mutual
/-- A statement. -/
inductive Sm where
  | set (n : Tk) (e : List Tk)
  | cut (n : Tk)
  | stop
  | ifs (e : List Tk) (a b : Sl)
  | whl (e : List Tk) (a : Sl)
/-- Statements one after the other. -/
inductive Sl where
  | nil
  | cons (s : Sm) (r : Sl)
end
/-- What a run has come to: its code, the bins, the fuel that is left. -/
structure St0 where
  c : Int
  b : List Bi
  f : Int
/-- The value of an expression's tokens, and whether nothing was by 0. -/
def evE (gs : List Int) (bs : List Bi) (e : List Tk) : Int × Bool := foV (vlF gs bs) vlG (0, false) e 0
/-- Rounds of a while, n at most. -/
def whR (gs : List Int) (e : List Tk) (body : St0 → St0) : Nat → St0 → St0
  | 0, st => st
  | n + 1, st => if st.f = 0 then ⟨3, st.b, st.f⟩ else
      if (evE gs st.b e).2 = false then ⟨2, st.b, st.f - 1⟩ else if (evE gs st.b e).1 = 0 then ⟨st.c, st.b, st.f - 1⟩ else
        if (body ⟨st.c, st.b, st.f - 1⟩).c = 0 then whR gs e body n (body ⟨st.c, st.b, st.f - 1⟩) else body ⟨st.c, st.b, st.f - 1⟩
mutual
/-- What a statement does. -/
def Sm.run (gs : List Int) : Sm → St0 → St0
  | .set n e, st => if (evE gs st.b e).2 = false then ⟨2, st.b, st.f⟩ else ⟨(if (st7 st.b (tx n) (evE gs st.b e).1).2 then st.c else 4), (st7 st.b (tx n) (evE gs st.b e).1).1, st.f⟩
  | .cut n, st => ⟨st.c, ctI st.b (tx n), st.f⟩
  | .stop, st => ⟨1, st.b, st.f⟩
  | .ifs e a b, st => if (evE gs st.b e).2 = false then ⟨2, st.b, st.f⟩ else if (evE gs st.b e).1 = 0 then Sl.run gs b st else Sl.run gs a st
  | .whl e a, st => whR gs e (fun s => Sl.run gs a s) (st.f.toNat + 1) st
def Sl.run (gs : List Int) : Sl → St0 → St0
  | .nil, st => st
  | .cons s r, st => if (Sm.run gs s st).c = 0 then Sl.run gs r (Sm.run gs s st) else Sm.run gs s st
end
def Sl.app : Sl → Sl → Sl
  | .nil, t => t
  | .cons s r, t => .cons s (r.app t)
/-- Two one after the other. -/
theorem Sl.run_app (gs : List Int) (t : Sl) : ∀ (a : Sl) (st : St0), st.c = 0 → Sl.run gs (a.app t) st = if (Sl.run gs a st).c = 0 then Sl.run gs t (Sl.run gs a st) else Sl.run gs a st
  | .nil, st, h => by simp [Sl.app, Sl.run, h]
  | .cons s r, st, h => by
    rw [Sl.app, Sl.run, Sl.run]
    by_cases hc : (Sm.run gs s st).c = 0
    · rw [if_pos hc, if_pos hc]
      exact Sl.run_app gs t r _ hc
    · rw [if_neg hc, if_neg hc, if_neg hc]
end Go.Proofs.YtfnnoehpahdgcaaGreatDoor.Cl
