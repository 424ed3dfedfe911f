/-
  The contract of spec.Merged: 'mgP'; both at slices of the call's own.
-/
import Derived.Test.YtkkpokfekbdigaaPj
import Derived.Test.YtkkpokfekbdigaaCo
namespace Go.Proofs.Ytkkpokfekbdigaa.Cl
open Go.RowKit Wd Rp Kp
set_option linter.unusedVariables false
set_option maxHeartbeats 4000000 in
set_option maxRecDepth 100000 in
theorem specMerged_any (w : World) (x y : Option Addr) (cx cy : Nat) (a b : List Cel) (n k : Nat) (hn : a.length = n) (hk : b.length = k) (ha : Vw w x cx a) (hb : Vw w y cy b) (hma : ∀ c ∈ a, c.mod) (hmb : ∀ c ∈ b, c.mod) (hn2 : n ≤ 4194304) (hk2 : k ≤ 4194304) :
    Calls Try.prog 30 #[.slice x n cx, .slice y k cy] w (MgPost a b w) := by
  have HA := Lib.hid ha; clear ha
  have HB := Lib.hid hb; clear hb
  have HMA := Lib.hid hma; clear hma
  have HMB := Lib.hid hmb; clear hmb
  cases h1 : okL a
  · have HP := Lib.hid (mgP_no (a := a) (b := b) (by rw [h1]; rfl))
    have H1 := Lib.hid h1; clear h1
    go_enter Try.func30, Try.ntmps30
    go_wp2_with fail
    refine (specCells_is H1.out _ x cx n hn HA.out HMA.out hn2).mono ?_; rintro e w1 ⟨rfl, b1⟩
    have B1 := Lib.hid b1; clear b1
    go_wp2_with fail
    go_ret
    exact ⟨_, rfl, by rw [HP.out]; exact OwC.start B1.out.size, B1.out.alloc B1.out.size _⟩
  · cases h2 : okL b
    · have HP := Lib.hid (mgP_no (a := a) (b := b) (by rw [h1, h2]; rfl))
      have H1 := Lib.hid h1; clear h1
      have H2 := Lib.hid h2; clear h2
      go_enter Try.func30, Try.ntmps30
      go_wp2_with fail
      refine (specCells_is H1.out _ x cx n hn HA.out HMA.out hn2).mono ?_; rintro e w1 ⟨rfl, b1⟩
      have B1 := Lib.hid b1; clear b1
      go_wp2_with fail
      refine (specCells_is H2.out _ y cy k hk (HB.out.below B1.out) HMB.out hk2).mono ?_; rintro e w2 ⟨rfl, b2⟩
      have B2 := Lib.hid (bel_tr B1.out b2 (Nat.le_refl _)); clear b2
      go_wp2_with fail
      go_ret
      exact ⟨_, rfl, by rw [HP.out]; exact OwC.start B2.out.size, B2.out.alloc B2.out.size _⟩
    · have HO := Lib.hid (And.intro h1 h2)
      have hla : n ≤ 200 := by rw [← hn]; exact okL_len h1
      have hlb : k ≤ 200 := by rw [← hk]; exact okL_len h2
      have l4 : (mergeL a b).length ≤ 400 := by have := merge_len a b; omega
      clear h1 h2
      go_enter Try.func30, Try.ntmps30
      go_wp2_with fail
      refine (specCells_is HO.out.1 _ x cx n hn HA.out HMA.out hn2).mono ?_; rintro e w1 ⟨rfl, b1⟩
      have B1 := Lib.hid b1; clear b1
      go_wp2_with fail
      refine (specCells_is HO.out.2 _ y cy k hk (HB.out.below B1.out) HMB.out hk2).mono ?_; rintro e w2 ⟨rfl, b2⟩
      have B2 := Lib.hid (bel_tr B1.out b2 (Nat.le_refl _)); clear b2
      go_wp2_with fail
      refine (l5Merge_any _ x y cx cy a b n k hn hk (HA.out.below B2.out) (HB.out.below B2.out) (by omega) (by omega)).mono ?_; rintro e w3 ⟨v, rfl, o3, b3⟩
      have B3 := Lib.hid (bel_tr B2.out b3 (Nat.le_refl _))
      have O3 := Lib.hid (o3.mono B2.out.size)
      clear b3
      obtain ⟨va, vc, rfl, -, -⟩ := o3.view
      clear o3
      by_cases hbg : 200 < (mergeL a b).length
      · have HP := Lib.hid (mgP_big HO.out.1 HO.out.2 hbg)
        generalize hml : (mergeL a b).length = ml at *
        have z1 : (200 : Int) < (ml : Int) := by omega
        clear hml
        go_wp2_with fail
        go_ret
        exact ⟨_, rfl, by rw [HP.out]; exact OwC.start B3.out.size, B3.out.alloc B3.out.size _⟩
      · have HP := Lib.hid (mgP_yes HO.out.1 HO.out.2 hbg)
        generalize hml : (mergeL a b).length = ml at *
        have z1 : ¬ (200 : Int) < (ml : Int) := by omega
        clear hml
        go_wp2_with fail
        go_ret
        exact ⟨_, rfl, by rw [HP.out]; exact O3.out, B3.out⟩
theorem specMerged_own (w : World) {B C : Nat} {v u : Value} {a b : List Cel} (ha : OwC B w v a) (hb : OwC C w u b) (hma : ∀ c ∈ a, c.mod) (hmb : ∀ c ∈ b, c.mod) (hn2 : a.length ≤ 4194304) (hk2 : b.length ≤ 4194304) :
    Calls Try.prog 30 #[v, u] w (MgPost a b w) := by
  obtain ⟨x, cx, rfl, h1, -⟩ := ha.view
  obtain ⟨y, cy, rfl, h2, -⟩ := hb.view
  exact specMerged_any w x y cx cy a b _ _ rfl rfl h1 h2 hma hmb hn2 hk2
theorem implMerged_own (w : World) {B C : Nat} {v u : Value} {a b : List Cel} (ha : OwC B w v a) (hb : OwC C w u b) (hn2 : a.length ≤ 4194304) (hk2 : b.length ≤ 4194304) :
    Calls Try.prog 29 #[v, u] w (MgPost a b w) := by
  obtain ⟨x, cx, rfl, h1, -⟩ := ha.view
  obtain ⟨y, cy, rfl, h2, -⟩ := hb.view
  exact implMerged_any w x y cx cy a b _ _ rfl rfl h1 h2 hn2 hk2
end Go.Proofs.Ytkkpokfekbdigaa.Cl
