/-
  The contract of spec.PutCell: 'putP'.
-/
import Derived.Test.YtopcjiaakefmeaaCj
namespace Go.Proofs.Ytopcjiaakefmeaa.Cl
open Go.RowKit Wd Rp Kp
set_option linter.unusedVariables false
/-- What PutCell gives. -/
def PutPost (l : List Cel) (c : Cel) (w : World) (e : Ending) (w' : World) : Prop := ∃ v, e = .returned (.tuple #[v, .bool (putP l c).2]) ∧ OwC w.heap.size w' v (putP l c).1 ∧ Below w.heap.size w w'
theorem putP_bad {l : List Cel} {c : Cel} (h : okL l = false) : putP l c = ([], false) := by unfold putP; rw [h]; rfl
theorem putP_no {l : List Cel} {c : Cel} (h : okL l = true) (hc : c.ok = false) : putP l c = (l, false) := by unfold putP; rw [h, hc]; rfl
theorem putP_big {l : List Cel} {c : Cel} (h : okL l = true) (hc : c.ok = true) (hb : 200 < (putL l c).length) : putP l c = (l, false) := by unfold putP; rw [h, hc, if_pos hb]; rfl
theorem putP_yes {l : List Cel} {c : Cel} (h : okL l = true) (hc : c.ok = true) (hb : ¬ 200 < (putL l c).length) : putP l c = (putL l c, true) := by unfold putP; rw [h, hc, if_neg hb]; rfl
theorem specCells_is {l : List Cel} {x : Bool} (h : okL l = x) (w : World) (a : Option Addr) (cap : Nat) (n : Nat) (hn : l.length = n) (hv : Vw w a cap l) (hm : ∀ c ∈ l, c.mod) (hlen : n ≤ 4194304) :
    Calls Try.prog 19 #[.slice a n cap] w fun e w' => e = .returned (.bool x) ∧ Below w.heap.size w w' := by
  subst hn; rw [← h]; exact specCells_any w a cap l hv hm hlen
theorem l4Put_any' (w : World) (a : Option Addr) (cap : Nat) (l : List Cel) (c : Cel) (n : Nat) (hn : l.length = n) (hv : Vw w a cap l) (hl : n ≤ 4194304) :
    Calls Try.prog 60 #[.slice a n cap, .agg #[.string c.r, .string c.b, .int .i64 c.t, .int .i64 c.v, .bool c.g]] w fun e w' => ∃ v, e = .returned v ∧ OwC w.heap.size w' v (putL l c) ∧ Below w.heap.size w w' := by
  subst hn; exact l4Put_any w a cap l c hv hl
end Go.Proofs.Ytopcjiaakefmeaa.Cl
