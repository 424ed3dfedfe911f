/-
  The draw of a recipe's text: contract of spec.DrawReadRecipe.
-/
import Derived.Test.YtkhmbmcomgclaaaGreatDoorLh
import Derived.Test.YtkhmbmcomgclaaaGreatDoorZf
import Derived.Test.YtkhmbmcomgclaaaGreatDoorBo
namespace Go.Proofs.YtkhmbmcomgclaaaGreatDoor.Cl
open Go.RowKit Wd Rp Cu Kp
set_option linter.unusedVariables false
/-- A text that a draw of its own cursor leaves. -/
def Drew9T (w : World) (e : Ending) (w' : World) : Prop := ∃ s : ByteArray, e = .returned (.string s) ∧ s.size ≤ 10000 ∧ Below w.heap.size w w'
set_option maxRecDepth 100000 in
set_option maxHeartbeats 4000000 in
theorem drawReadRecipe_any (w : World) (a : Option Addr) (len cap : Nat) (hb : IsBytes w a len) (hl : len ≤ 4096) : Calls Tryz.prog 9 #[.slice a len cap] w (Drew9T w) := by
  have HB := Lib.hid hb; clear hb
  go_enter Tryz.func9, Tryz.ntmps9
  go_wp2_with fail
  refine (new_any w a len cap HB.out hl).mono ?_; rintro e w1 ⟨b, rfl, hc, hw1⟩
  have HW := Lib.hid hw1
  have hbn : w.heap.size ≤ b := hc.le
  have hb1 : b < w1.heap.size := hc.lt
  have HS1 := Lib.hid (show St w1 _ b w1 from ⟨But.refl b w1, hc, hc.lt⟩); clear hc hw1
  go_wp2_with fail
  refine (draw9Any_any _ b _ HS1.out.cur).mono ?_; rintro e w2 ⟨v, l, rfl, o, n, sm, hc, hw⟩
  have HO2 := Lib.hid o
  have HM := Lib.hid sm
  have HS2 := Lib.hid (HS1.out.draws hw hc); clear o sm hc hw HS1
  obtain ⟨va, vc, rfl, hv⟩ := HO2.out.form
  have HWd := Lib.hid (l1Words_any w2 va vc l l.length rfl hv (by omega) (fun s hs => by have := HM.out s hs; omega)); clear hv
  have HJ := Lib.hid (show (tx (joined 32 l)).size ≤ 9000 by rw [tx_size]; have := joined_len 32 40 l HM.out; have h2 : l.length * (40 + 1) ≤ 121 * 41 := Nat.mul_le_mul_right _ n; omega)
  generalize hk : l.length = k at *
  generalize tx (joined 32 l) = s at *
  go_wp2_with fail
  refine HWd.out.mono ?_; rintro e w3 ⟨rfl, b3⟩
  have HS3 := Lib.hid (st_belowT HS2.out b3); clear b3
  go_wp2_with fail
  refine (once_any _ b _ _ HS3.out.cur (by decide) (by decide)).mono ?_; rintro e w4 ⟨t, rfl, hc, hw⟩
  have HS4 := Lib.hid (HS3.out.draws hw hc); clear hc hw
  cases t
  · have HL := Lib.hid (HW.out.trans (HS4.out.but.below (B := w.heap.size) hbn HW.out.size))
    go_wp2_with fail
    go_ret
    exact ⟨s, rfl, by have := HJ.out; omega, HL.out⟩
  · have HBD := Lib.hid (Cu.bend_any _ b s ⟨#[97, 98, 32, 91, 93, 43, 53]⟩ w4 HS4.out.cur (by have := HJ.out; omega) (by decide) (by decide))
    go_wp2_with fail
    refine HBD.out.mono ?_; rintro e w5 ⟨s5, rfl, hs5, hc, hw⟩
    have HS5 := Lib.hid (HS4.out.draws hw hc); clear hc hw
    have HL := Lib.hid (HW.out.trans (HS5.out.but.below (B := w.heap.size) hbn HW.out.size))
    go_wp2_with fail
    go_ret
    exact ⟨s5, rfl, by have := HJ.out; omega, HL.out⟩
end Go.Proofs.YtkhmbmcomgclaaaGreatDoor.Cl
