/-
  The walks of spec.DrawReadWord and of the law FnReadWord.
-/
import Derived.Test.YtjnmoaigggobkaaDoorBo
import Derived.Test.YtjnmoaigggobkaaDoorDg
import Derived.Test.YtjnmoaigggobkaaDoorRl
import Derived.Test.YtjnmoaigggobkaaDoorCy
import Derived.Lib.ItoaLen
namespace Go.Proofs.YtjnmoaigggobkaaDoor.Fw
open Go.RowKit Wd Cu Rp
/-- A drawn text, in a world that has only grown. -/
def DrawnT (w : World) (n : Nat) (e : Ending) (w' : World) : Prop := ∃ t : ByteArray, e = .returned (.string t) ∧ t.size ≤ n ∧ Below w.heap.size w w'
set_option maxHeartbeats 1000000 in
theorem drawReadWord_any (w : World) (a : Option Addr) (len cap : Nat) (hb : IsBytes w a len) (hl : len ≤ 4096) : Calls Tryd.prog 6 #[.slice a len cap] w (DrawnT w 100) := by
  have HB := Lib.hid hb; clear hb
  go_enter Tryd.func6, Tryd.ntmps6
  go_wp2_with fail
  refine (new_any w a len cap HB.out hl).mono ?_; rintro e w1 ⟨b, rfl, hc1, hw1⟩
  have hlt1 := hc1.lt
  have hle := hc1.le
  go_wp2_with fail
  refine (drawAny_any _ b _ hc1).mono ?_; rintro e w2 ⟨x, rfl, x0, x1, hc2, hw2⟩
  have hB2 : Below w.heap.size w w2 := hw1.trans (hw2.below hle hw1.size)
  have HB2 := Lib.hid hB2; clear hB2
  go_wp2_with fail
  refine (l1Int_any x w2 (by omega) (by omega)).mono ?_; rintro e w3 ⟨rfl, hw3⟩
  have hc3 : Cur w.heap.size b w3 := hc2.carry (fun k hk => hw3.block k (by have := hc2.lt; omega)) (hw3.block b hc2.lt)
  have hB3 : Below w.heap.size w w3 := HB2.out.trans (hw3.mono HB2.out.size)
  have hlen := Lib.itoa_length_le x (by omega) (by omega)
  have hsz : (⟨(Lib.itoa x).toArray⟩ : ByteArray).size ≤ 21 := by rw [Lib.size_eq]; exact hlen
  generalize (⟨(Lib.itoa x).toArray⟩ : ByteArray) = s at hsz ⊢
  have HB3 := Lib.hid hB3; clear hB3 hlen HB2 hw3 hw2 hw1 hc2 hc1
  go_wp2_with fail
  refine (once_any _ b _ _ hc3 (by decide) (by decide)).mono ?_; rintro e w4 ⟨t, rfl, hc4, hw4⟩
  have hB4 : Below w.heap.size w w4 := HB3.out.trans (hw4.below hle HB3.out.size)
  have HB4 := Lib.hid hB4; clear hB4 HB3 hw4 hc3
  cases t
  · go_wp2_with fail
    go_ret
    exact ⟨s, rfl, by omega, HB4.out⟩
  · go_wp2_with fail
    refine (bend_any _ b s _ _ hc4 (by omega) (by decide) (by decide)).mono ?_; rintro e w5 ⟨t, rfl, ht, hc5, hw5⟩
    have hB5 : Below w.heap.size w w5 := HB4.out.trans (hw5.below hle HB4.out.size)
    have HB5 := Lib.hid hB5; clear hB5
    go_wp2_with fail
    go_ret
    exact ⟨t, rfl, by omega, HB5.out⟩

theorem rd_str {s : ByteArray} {v : Int} (h : rd s.data.toList = some v) : isW v = true ∧ s = ⟨(Lib.itoa v).toArray⟩ := by
  obtain ⟨h1, h2⟩ := (rd_iff _ _).1 h
  exact ⟨h1, by rw [h2]⟩
set_option maxHeartbeats 2000000 in
theorem walk_small (w : World) (a : Option Addr) (len cap : Nat) (hb : IsBytes w a len) (hl : len ≤ 4096) (hL : Lib3 w) :
    Calls Tryd.prog 3 #[.slice a len cap] w fun e w' => e = .returned (.bool true) ∧ Below w.heap.size w w' := by
  have HB := Lib.hid hb; clear hb
  have HL := Lib.hid hL; clear hL
  go_enter Tryd.func3, Tryd.ntmps3
  go_wp2_with (go_at_call 5; refine (big_no w a len cap hl).mono ?_; rintro e w' ⟨rfl, rfl⟩)
  refine (drawReadWord_any w a len cap HB.out hl).mono ?_; rintro e w1 ⟨s, rfl, hs, hw1⟩
  have hL1 : Lib3 w1 := HL.out.carry hw1 ⟨HL.out.2.2.2.1, HL.out.2.2.2.2.1, HL.out.2.2.2.2.2⟩
  have HL1 := Lib.hid hL1; clear hL1 HL HB
  have HW1 := Lib.hid hw1; clear hw1
  go_wp2_with fail
  refine (implRead_any s w1 HL1.out (by omega)).mono ?_; rintro e w2 ⟨rfl, hw2⟩
  have hB2 : Below w.heap.size w w2 := HW1.out.trans (hw2.mono HW1.out.size)
  have HB2 := Lib.hid hB2; clear hB2 hw2 HW1 HL1
  go_wp2_with fail
  refine (specRead_any s w2 (by omega)).mono ?_; rintro e w3 ⟨rfl, rfl⟩
  cases hr : rd s.data.toList with
  | none =>
    have hV : rdV s.data.toList = 0 := by simp [rdV, hr]
    have hB : rdB s.data.toList = false := by simp [rdB, hr]
    clear hr
    go_wp2_with fail
    go_ret
    exact ⟨rfl, HB2.out⟩
  | some v =>
    obtain ⟨hw, hst⟩ := rd_str hr
    obtain ⟨v0, v1⟩ := (isW_iff v).1 hw
    have hV : rdV s.data.toList = v := by simp [rdV, hr]
    have hB : rdB s.data.toList = true := by simp [rdB, hr]
    clear hr
    by_cases hn : v < 0
    · obtain ⟨k, rfl⟩ : ∃ k : Nat, v = -(k : Int) := ⟨v.natAbs, by omega⟩
      have hk : 1 ≤ k := by omega
      rw [Lib.itoa_neg k hk, ← minus_app (t := ⟨(Lib.decDigits k).toArray⟩) rfl] at hst
      have hd := digits_any k w2 (by omega)
      have hsz : (⟨(Lib.decDigits k).toArray⟩ : ByteArray).size ≤ 20 := by
        rw [Lib.size_eq]; exact Nat.le_trans (dec_len 18 k (by omega)) (by decide)
      generalize (⟨(Lib.decDigits k).toArray⟩ : ByteArray) = t at hst hd hsz
      have HD := Lib.hid hd; clear hd
      have hq : ((⟨#[45]⟩ : ByteArray) ++ t) = s := hst.symm
      clear hst
      have hs1 : ¬ 9223372036854775807 < (⟨#[45]⟩ : ByteArray).size + t.size := by show ¬ _ < 1 + t.size; omega
      go_wp2_with fail
      refine HD.out.mono ?_; rintro e w4 ⟨rfl, hw4⟩
      have hB4 : Below w.heap.size w w4 := HB2.out.trans (hw4.mono HB2.out.size)
      have HB4 := Lib.hid hB4; clear hB4 hw4
      go_wp2_with (go_at_call 10; refine (implWordOk_any _ _).mono ?_; rintro e w' ⟨rfl, rfl⟩)
      go_ret
      exact ⟨rfl, HB4.out⟩
    · obtain ⟨k, rfl⟩ := Int.eq_ofNat_of_zero_le (show 0 ≤ v by omega)
      rw [Lib.itoa_nonneg] at hst
      have hd := digits_any k w2 (by omega)
      rw [← hst] at hd
      have HD := Lib.hid hd; clear hd hst
      go_wp2_with fail
      refine HD.out.mono ?_; rintro e w4 ⟨rfl, hw4⟩
      have hB4 : Below w.heap.size w w4 := HB2.out.trans (hw4.mono HB2.out.size)
      have HB4 := Lib.hid hB4; clear hB4 hw4
      go_wp2_with (go_at_call 10; refine (implWordOk_any _ _).mono ?_; rintro e w' ⟨rfl, rfl⟩)
      go_ret
      exact ⟨rfl, HB4.out⟩
end Go.Proofs.YtjnmoaigggobkaaDoor.Fw
