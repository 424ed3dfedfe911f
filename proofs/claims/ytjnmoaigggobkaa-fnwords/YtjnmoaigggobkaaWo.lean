/-
  The contract of spec.WordOk for every int64, the world untouched.
-/
import Derived.Test.YtjnmoaigggobkaaWd
namespace Go.Proofs.Ytjnmoaigggobkaa.Wd
open Go.RowKit
theorem specWordOk_any (n : Int) (w : World) :
    Calls Try.prog 16 #[.int .i64 n] w fun e w' => e = .returned (.bool (isW n)) ∧ w = w' := by
  go_enter Try.func16, Try.ntmps16
  go_wp2_with (go_at_call 25; refine (l1Word_any _ _).mono ?_; rintro e w' ⟨rfl, rfl⟩)
  go_ret
  exact ⟨rfl, rfl⟩
end Go.Proofs.Ytjnmoaigggobkaa.Wd
