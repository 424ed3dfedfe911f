/-
  A drawing region within a round of a range over a function, walked as anywhere: what holds for every order of a region outside a round holds for it within one, if none of its operations defers ('wpIn_region_held').
-/
import Derived.Test.YtfnnoehpahdgcaaGreatDoorRa
import Derived.Deep.RegionHeld3
namespace Go.Proofs.YtfnnoehpahdgcaaGreatDoor.Ra
open Go.RowKit
set_option linter.unusedVariables false
theorem rowsIn_of {P : Program} {n : Nat} {row : String} {args : Array Value} {w : World} {R : Value → World → Prop} (h : Rows P row args w R) : RowsIn Fence.wide n P row args w R :=
  fun c cs _ => let ⟨v, w', r, s⟩ := h c cs; ⟨v, w', r, stepsIn_wide.2 s⟩
theorem uponIn_of {P : Program} {n l : Nat} {o : Oper} {a : Act} {K K' : Act → World → Prop} {Q : Exit → Act → World → Prop} {r : Result Next} (hK : ∀ a w, K a w → K' a w) (h : o.upon P a K Q r) : o.uponIn (Fence.wide.inRound l) n P a K' Q r := by
  cases r with
  | ok x w' =>
    cases x with
    | value v => exact hK _ _ h
    | skip => exact hK _ _ h
    | defer d => exact hK _ _ h
    | enter f args =>
      refine ⟨(fun e => by cases e), CallsIn.inRound l (callsIn_wide.2 (Calls.mono h fun e w'' he => ?_))⟩
      cases e with
      | returned v => exact hK _ _ he
      | panicked c => exact he
      | outgrown => exact he
    | row row args => exact ⟨(fun e => by cases e), rowsIn_of (Rows.mono h fun v w'' he => hK _ _ he)⟩
    | _ => exact h.elim
  | halt x w' => cases x <;> first | exact h | exact h.elim
theorem wpAnyIn_of {P : Program} {md : Region.Mode} {ops : Array Oper} {Q : Exit → Act → World → Prop} {n l : Nat} (hd : ∀ (i : Nat) (o : Oper), ops[i]? = some o → ∀ c, o.op ≠ .defer c) (hl : ∀ a w, ¬ Q .outgrown a w) :
    ∀ (fuel : Nat) (listed : Array Bool) (a : Act) (w : World), wpAny P md ops Q fuel listed a w → wpAnyIn (Fence.wide.inRound l) n P md ops Q fuel listed a w
  | 0, _, _, _, h => h
  | fuel + 1, listed, a, w, h => by
    refine ⟨h.1, fun i hi => ?_⟩
    have hk := h.2 i hi
    unfold wpOp at hk
    unfold wpOpIn
    cases ho : ops[i]? with
    | none => rw [ho] at hk; exact wpAnyIn_of hd hl fuel _ a w hk
    | some o =>
      rw [ho] at hk
      simp only at hk ⊢
      split
      · rename_i hw
        rw [if_pos hw] at hk
        rcases hk with hk | ⟨-, a', w', hq⟩
        · refine ⟨fun _ _ => trivial, ?_⟩
          have e := Oper.semAt_some l a.eval o (hd i o ho)
          rw [Fence.inRound_round, e]
          exact uponIn_of (fun a w h => wpAnyIn_of hd hl fuel _ a w h) hk
        · exact absurd hq (hl a' w')
      · rename_i hw
        rw [if_neg hw] at hk
        exact ⟨fun _ _ => trivial, wpAnyIn_of hd hl fuel _ _ w hk⟩
theorem wpIn_region_held {P : Program} {ops : Array Oper} {Q : Exit → Act → World → Prop} {S : World → Prop} {n l id : Nat} {a : Act} {w : World} (hm : P.follows .mixedOrders = true) (hd : ∀ (i : Nat) (o : Oper), ops[i]? = some o → ∀ c, o.op ≠ .defer c) (hl : ∀ a w, ¬ Q .outgrown a w)
    (hS : S w.drew) (h : S w.drew → wpAnyH P .any ops Q S ops.size (Array.replicate ops.size false) a w.drew) : (Code.region id ops true).wpIn (Fence.wide.inRound l) n P Q a w :=
  wpIn_region_any hm (wpAnyIn_of hd hl _ _ _ _ (wpAny_of_held _ _ _ _ (h hS)))
/-- Does an operation defer? -/
def Op.defers : Op → Bool
  | .defer _ => true
  | _ => false
theorem defers_none {ops : Array Oper} (h : ops.all (fun o => !Op.defers o.op) = true) : ∀ (i : Nat) (o : Oper), ops[i]? = some o → ∀ c, o.op ≠ .defer c := fun i o hi c e => by
  have := Array.all_eq_true'.1 h o (Array.mem_of_getElem? hi)
  rw [e] at this; cases this
end Go.Proofs.YtfnnoehpahdgcaaGreatDoor.Ra
