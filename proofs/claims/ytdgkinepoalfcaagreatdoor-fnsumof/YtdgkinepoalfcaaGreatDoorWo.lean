/-
  The contract of spec.WordOk for every int64, the world untouched.
-/
import Derived.Test.YtdgkinepoalfcaaGreatDoorWd
namespace Go.Proofs.YtdgkinepoalfcaaGreatDoor.Wd
open Go.RowKit
theorem specWordOk_any (n : Int) (w : World) :
    Calls Tryz.prog 10 #[.int .i64 n] w fun e w' => e = .returned (.bool (isW n)) ∧ w = w' := by
  go_enter Tryz.func10, Tryz.ntmps10
  go_wp2_with (go_at_call 30; refine (l1Word_any _ _).mono ?_; rintro e w' ⟨rfl, rfl⟩)
  go_ret
  exact ⟨rfl, rfl⟩
end Go.Proofs.YtdgkinepoalfcaaGreatDoor.Wd
