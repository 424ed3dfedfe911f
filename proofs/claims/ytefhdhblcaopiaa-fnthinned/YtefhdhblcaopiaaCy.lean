/-
  From a slice of bytes that came in (as the row reads it) to the cursor's 'IsBytes'.
-/
import Derived.Test.YtefhdhblcaopiaaCx
import Derived.Lib.AtoiErrMem
import Derived.OpenShut
namespace Go.Proofs.Ytefhdhblcaopiaa.Cu
open Go.RowKit
theorem isBytes_of_row {w : World} {a : Option Addr} {len cap : Nat} {zs : List Int} (hl : len ≤ 4096)
    (h : (a = none ∧ len = 0 ∧ cap = 0 ∧ zs = []) ∨ ∃ x, a = some x ∧ len ≤ cap ∧ cap ≤ maxLen ∧ zs.length = cap ∧ (∀ i, i < zs.length → w.cell? (x.add i) = some (.int .u8 (zs.getD i 0))) ∧ ∀ n ∈ zs, (Lit.int .u8 n).wf = true) : IsBytes w a len := by
  refine ⟨by omega, fun h0 => ?_⟩
  rcases h with ⟨_, h, _⟩ | ⟨⟨b, off, spot⟩, rfl, hlen, hm, hz, hcell, hwz⟩
  · omega
  have hc0 := hcell 0 (by omega)
  have hspot : spot = none := by simpa [Addr.add] using World.cell?_spot hc0
  subst hspot
  refine ⟨b, off, rfl, ?_, fun k hk => ?_⟩
  · have := Lib.lt_of_cell hc0
    simpa [Addr.add] using this
  · have hk' : k < zs.length := by omega
    have hadd : Addr.add ⟨b, off, none⟩ k = ⟨b, off + k, none⟩ := by
      cases k with
      | zero => rfl
      | succ k => simp [Addr.add]
    have hv : zs.getD k 0 = zs[k] := by simp [hk']
    have h1 := hcell k hk'
    rw [hadd, hv] at h1
    have h2 := hwz _ (List.getElem_mem hk')
    simp [Lit.wf, IntKind.min, IntKind.max, IntKind.signed, IntKind.bits] at h2
    exact ⟨zs[k], h1, by omega, by omega⟩
theorem big_yes (w : World) (a : Option Addr) (len cap : Nat) (hl : 4096 < len) :
    Calls Try.prog 14 #[.slice a len cap] w fun e w' => e = .returned (.bool true) ∧ w = w' := by
  have h : decide ((4096 : Int) < (len : Int)) = true := by simp; omega
  go_enter Try.func14, Try.ntmps14
  go_wp2
  go_ret
  exact ⟨rfl, rfl⟩
theorem big_no (w : World) (a : Option Addr) (len cap : Nat) (hl : len ≤ 4096) :
    Calls Try.prog 14 #[.slice a len cap] w fun e w' => e = .returned (.bool false) ∧ w = w' := by
  have h : decide ((4096 : Int) < (len : Int)) = false := by simp; omega
  go_enter Try.func14, Try.ntmps14
  go_wp2
  go_ret
  exact ⟨rfl, rfl⟩
end Go.Proofs.Ytefhdhblcaopiaa.Cu
