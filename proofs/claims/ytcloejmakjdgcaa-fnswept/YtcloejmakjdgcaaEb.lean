/-
  A store and a place drawn (spec.DrawFindBarn); the walk of FnFindBarn at a code that is not too long.
-/
import Derived.Test.YtcloejmakjdgcaaDr
import Derived.Test.YtcloejmakjdgcaaDj
import Derived.Test.YtcloejmakjdgcaaEa
namespace Go.Proofs.Ytcloejmakjdgcaa.Cl
open Go.RowKit Wd Rp Cu Kp Ra
set_option linter.unusedVariables false
theorem tott_le {m : Nat} : ∀ {ss : List (List Cel)}, (∀ l ∈ ss, l.length ≤ m) → tott ss ≤ ss.length * m
  | [], _ => by simp [tott]
  | l :: ss, h => by
    have h1 := tott_le (ss := ss) fun x hx => h x (by simp [hx])
    have h2 := h l (by simp)
    rw [tott_cons, List.length_cons, Nat.succ_mul]; omega
theorem Stor.tot {h : List Cel} {ss : List (List Cel)} (s : Stor h ss) : tott ss ≤ 2600 := by
  have h1 := tott_le (m := 260) (ss := ss) fun l hl => (s.2.2.2 l hl).1
  have h2 := s.2.1
  have h3 := Nat.mul_le_mul_right 260 h2
  omega
theorem Stor.smalls {h : List Cel} {ss : List (List Cel)} (s : Stor h ss) : Smalls (mgA h ss) := fun c hc => by
  rcases mgA_sub ss h c hc with hc | ⟨l, hl, hc⟩
  · exact s.2.2.1 c hc
  · exact (s.2.2.2 l hl).2 c hc
theorem Stor.all_len {h : List Cel} {ss : List (List Cel)} (s : Stor h ss) : (mgA h ss).length ≤ 3000 := by
  have h1 := mgA_len ss h
  have h2 := s.tot
  have h3 := s.1
  omega
theorem l6AllO {B : Nat} {hv sv : Value} {h : List Cel} {ss : List (List Cel)} (w : World) (o : OwB B w hv sv h ss) (s : Stor h ss) : Calls Try.prog 95 #[.agg #[hv, sv]] w (AlPost (mgA h ss) w) := by
  obtain ⟨a, c, sa, sc, hs, rfl, rfl, h1, h2⟩ := o.view
  exact l6All_any w a sa c sc _ _ h hs ss rfl rfl h1 h2 (by have := s.1; omega) (by have := s.tot; omega) (fun l hl => by have := (s.2.2.2 l hl).1; omega) (by have := s.2.1; omega)
end Go.Proofs.Ytcloejmakjdgcaa.Cl
