/-
  Contracts of laws.eqBarn, laws.markBarn, laws.heldBarn.
-/
import Derived.Test.YtefhdhblcaopiaaBd
namespace Go.Proofs.Ytefhdhblcaopiaa.Cl
open Go.RowKit Wd Rp Kp Ra
set_option linter.unusedVariables false
theorem Bb.two (u v u' v' : Value) (w : World) (T T' : Nat) : Bb w.heap.size u v ((w.alloc (.cells #[u, v] T)).alloc (.cells #[u', v'] T')) ∧ Bb (w.heap.size + 1) u' v' ((w.alloc (.cells #[u, v] T)).alloc (.cells #[u', v'] T')) := by
  refine ⟨(Bb.made u v w T).next (bel1 _ _), ?_⟩
  have := Bb.made u' v' (w.alloc (.cells #[u, v] T)) T'
  rwa [World.size_alloc] at this
set_option maxRecDepth 100000 in
set_option maxHeartbeats 2000000 in
theorem eqBarn_same (w : World) (a a' sa sa' : Option Addr) (c c' sc sc' n sn : Nat) (h : List Cel) (hs hs' : List Hd) (ss : List (List Cel)) (hn : h.length = n) (hsn : ss.length = sn) (hv : Vw w a c h) (hv' : Vw w a' c' h) (hvs : VwS w sa sc hs ss) (hvs' : VwS w sa' sc' hs' ss) (hlow : Low h ss) :
    Calls Try.prog 39 #[.agg #[.slice a n c, .slice sa sn sc], .agg #[.slice a' n c', .slice sa' sn sc']] w fun e w' => e = .returned (.bool true) ∧ Below w.heap.size w w' := by
  have hn1 : n ≤ 1048576 := by rw [← hn]; exact hlow.1
  have hsn1 : sn ≤ 1048576 := by rw [← hsn]; exact hlow.2.1
  have HLL := Lib.hid hlow.2.2; clear hlow
  have HV := Lib.hid (And.intro hv hv'); clear hv hv'
  have HVS := Lib.hid (And.intro hvs hvs'); clear hvs hvs'
  have H0 := Lib.hid (bel2 w (.cells #[.slice a n c, .slice sa sn sc] 27) (.cells #[.slice a' n c', .slice sa' sn sc'] 27))
  have F0 := Lib.hid (Bb.two (.slice a n c) (.slice sa sn sc) (.slice a' n c') (.slice sa' sn sc') w 27 27)
  have HE := Lib.hid (eqCellS_same _ a a' c c' h (HV.out.1.below H0.out) (HV.out.2.below H0.out) (by omega))
  rw [hn] at HE
  go_enter Try.func39, Try.ntmps39
  go_wp2_with fail
  refine HE.out.mono ?_; rintro e w1 ⟨rfl, b1⟩
  have B1 := Lib.hid (bel_tr H0.out b1 (Nat.le_refl _))
  obtain ⟨x0, x1, -, -, -⟩ := F0.out.1.next b1
  obtain ⟨y0, y1, -, -, -⟩ := F0.out.2.next b1; clear b1
  go_wp2_with fail
  refine (eqCellSS_same w1 sa sa' sc sc' sn hs hs' ss hsn (HVS.out.1.below B1.out) (HVS.out.2.below B1.out) hsn1 HLL.out).mono ?_; rintro e w2 ⟨rfl, b2⟩
  have B2 := Lib.hid (bel_tr B1.out b2 (Nat.le_refl _)); clear b2
  go_wp2_with fail
  go_ret
  exact ⟨rfl, B2.out⟩
theorem eqB_own {B C : Nat} {hv sv hv' sv' : Value} {h : List Cel} {ss : List (List Cel)} (w : World) (o : OwB B w hv sv h ss) (o' : OwB C w hv' sv' h ss) (hlow : Low h ss) :
    Calls Try.prog 39 #[.agg #[hv, sv], .agg #[hv', sv']] w fun e w' => e = .returned (.bool true) ∧ Below w.heap.size w w' := by
  obtain ⟨a, c, sa, sc, hs, rfl, rfl, h1, h2⟩ := o.view
  obtain ⟨a', c', sa', sc', hs', rfl, rfl, h1', h2'⟩ := o'.view
  exact eqBarn_same w a a' sa sa' c c' sc sc' _ _ h hs hs' ss rfl rfl h1 h1' h2 h2' hlow
end Go.Proofs.Ytefhdhblcaopiaa.Cl
