/-
  The walk of the law FnWords: for every code of at most 4096 bytes the call returns true, and nothing that was there turns.
-/
import Derived.Test.YtjnmoaigggobkaaCx
import Derived.Test.YtjnmoaigggobkaaFp
import Derived.Test.YtjnmoaigggobkaaWo
namespace Go.Proofs.Ytjnmoaigggobkaa.Fw
open Go.RowKit Wd Cu
theorem bytes_later {w w1 : World} {a : Option Addr} {len : Nat} (h : IsBytes w a len) (hw : Below w.heap.size w w1) : IsBytes w1 a len :=
  ⟨h.1, fun h0 => by obtain ⟨p, q, r, s, t⟩ := h.2.carry (w' := w1) (fun k hk => hw.block k hk) h0; exact ⟨p, q, r, Nat.lt_of_lt_of_le s hw.size, t⟩⟩

set_option maxRecDepth 100000 in
set_option maxHeartbeats 8000000 in
theorem walk_small (w : World) (a : Option Addr) (len cap : Nat) (hb : IsBytes w a len) (hl : len ≤ 4096) :
    Calls Try.prog 3 #[.slice a len cap] w fun e w' => e = .returned (.bool true) ∧ Below w.heap.size w w' := by
  have HB := Lib.hid hb; clear hb
  have hbig : decide ((4096 : Int) < (len : Int)) = false := by simp; omega
  go_enter Try.func3, Try.ntmps3
  go_wp2_with (go_at_call 8; go_in)
  refine (drawDid_any w a len cap HB.out hl).mono ?_; rintro e w1 ⟨o, x, y, rfl, o0, o1, x0, x1, y0, y1, hw1⟩
  go_wp2_with (go_at_call 10; refine (implDid_any _ _ _ _).mono ?_; rintro e w' ⟨rfl, rfl⟩)
  refine (drawWrap_any w1 a len cap (bytes_later HB.out hw1) hl).mono ?_
  rintro e w2 ⟨n, rfl, n0, n1, hw2⟩
  have HW : Below w.heap.size w w2 := hw1.trans (hw2.mono hw1.size)
  clear HB hw1 hw2 hbig
  have k1 := wr_isW n
  have k2 := wr_lo n
  have k3 := wr_hi n
  have k4 : ((wr n - n).tmod 4294967296 != 0) = false := by rw [wr_mod]; rfl
  have k5 : (wr (wr n) != wr n) = false := by rw [wr_wr]; simp
  cases hn : isW n
  all_goals
    have k6 : isW n = true → (wr n != n) = false := fun h => by rw [wr_id n h]; simp
    first | (have k7 := k6 hn; clear k6) | clear k6
    cases hd : didB o x y
    · obtain ⟨hv, hor⟩ := did_false hd
      have HO := Lib.hid hor; clear hor
      by_cases q1 : o < 1
      · go_wp2_with (first
          | (go_at_call 12; refine (implWrap_any _ _).mono ?_; rintro e w' ⟨rfl, rfl⟩)
          | (go_at_call 13; refine (specDid_any _ _ _ _).mono ?_; rintro e w' ⟨rfl, rfl⟩)
          | (go_at_call 10; refine (implDid_any _ _ _ _).mono ?_; rintro e w' ⟨rfl, rfl⟩)
          | (go_at_call 14; refine (specWrap_any _ _).mono ?_; rintro e w' ⟨rfl, rfl⟩)
          | (go_at_call 15; refine (implWordOk_any _ _).mono ?_; rintro e w' ⟨rfl, rfl⟩)
          | (go_at_call 16; refine (specWordOk_any _ _).mono ?_; rintro e w' ⟨rfl, rfl⟩))
        go_ret
        exact ⟨rfl, HW⟩
      by_cases q2 : 7 < o
      · go_wp2_with (first
          | (go_at_call 12; refine (implWrap_any _ _).mono ?_; rintro e w' ⟨rfl, rfl⟩)
          | (go_at_call 13; refine (specDid_any _ _ _ _).mono ?_; rintro e w' ⟨rfl, rfl⟩)
          | (go_at_call 10; refine (implDid_any _ _ _ _).mono ?_; rintro e w' ⟨rfl, rfl⟩)
          | (go_at_call 14; refine (specWrap_any _ _).mono ?_; rintro e w' ⟨rfl, rfl⟩)
          | (go_at_call 15; refine (implWordOk_any _ _).mono ?_; rintro e w' ⟨rfl, rfl⟩)
          | (go_at_call 16; refine (specWordOk_any _ _).mono ?_; rintro e w' ⟨rfl, rfl⟩))
        go_ret
        exact ⟨rfl, HW⟩
      cases q3 : isW x
      · go_wp2_with (first
          | (go_at_call 12; refine (implWrap_any _ _).mono ?_; rintro e w' ⟨rfl, rfl⟩)
          | (go_at_call 13; refine (specDid_any _ _ _ _).mono ?_; rintro e w' ⟨rfl, rfl⟩)
          | (go_at_call 10; refine (implDid_any _ _ _ _).mono ?_; rintro e w' ⟨rfl, rfl⟩)
          | (go_at_call 14; refine (specWrap_any _ _).mono ?_; rintro e w' ⟨rfl, rfl⟩)
          | (go_at_call 15; refine (implWordOk_any _ _).mono ?_; rintro e w' ⟨rfl, rfl⟩)
          | (go_at_call 16; refine (specWordOk_any _ _).mono ?_; rintro e w' ⟨rfl, rfl⟩))
        go_ret
        exact ⟨rfl, HW⟩
      cases q4 : isW y
      · go_wp2_with (first
          | (go_at_call 12; refine (implWrap_any _ _).mono ?_; rintro e w' ⟨rfl, rfl⟩)
          | (go_at_call 13; refine (specDid_any _ _ _ _).mono ?_; rintro e w' ⟨rfl, rfl⟩)
          | (go_at_call 10; refine (implDid_any _ _ _ _).mono ?_; rintro e w' ⟨rfl, rfl⟩)
          | (go_at_call 14; refine (specWrap_any _ _).mono ?_; rintro e w' ⟨rfl, rfl⟩)
          | (go_at_call 15; refine (implWordOk_any _ _).mono ?_; rintro e w' ⟨rfl, rfl⟩)
          | (go_at_call 16; refine (specWordOk_any _ _).mono ?_; rintro e w' ⟨rfl, rfl⟩))
        go_ret
        exact ⟨rfl, HW⟩
      · obtain ⟨rfl, rfl⟩ : o = 4 ∧ y = 0 := by
          rcases HO.out with h | h | h | h | h
          · omega
          · omega
          · rw [q3] at h; cases h
          · rw [q4] at h; cases h
          · exact h
        go_wp2_with (first
          | (go_at_call 12; refine (implWrap_any _ _).mono ?_; rintro e w' ⟨rfl, rfl⟩)
          | (go_at_call 13; refine (specDid_any _ _ _ _).mono ?_; rintro e w' ⟨rfl, rfl⟩)
          | (go_at_call 10; refine (implDid_any _ _ _ _).mono ?_; rintro e w' ⟨rfl, rfl⟩)
          | (go_at_call 14; refine (specWrap_any _ _).mono ?_; rintro e w' ⟨rfl, rfl⟩)
          | (go_at_call 15; refine (implWordOk_any _ _).mono ?_; rintro e w' ⟨rfl, rfl⟩)
          | (go_at_call 16; refine (specWordOk_any _ _).mono ?_; rintro e w' ⟨rfl, rfl⟩))
        go_ret
        exact ⟨rfl, HW⟩
    · obtain ⟨t1, t2, t3, t4, t5⟩ := did_true hd
      by_cases q1 : o = 1
      · subst q1
        have f1 : (didV 2 (didV 1 x y) y == x) = true := by rw [did_add t3 t4]; simp
        go_wp2_with (first
          | (go_at_call 12; refine (implWrap_any _ _).mono ?_; rintro e w' ⟨rfl, rfl⟩)
          | (go_at_call 13; refine (specDid_any _ _ _ _).mono ?_; rintro e w' ⟨rfl, rfl⟩)
          | (go_at_call 10; refine (implDid_any _ _ _ _).mono ?_; rintro e w' ⟨rfl, rfl⟩)
          | (go_at_call 14; refine (specWrap_any _ _).mono ?_; rintro e w' ⟨rfl, rfl⟩)
          | (go_at_call 15; refine (implWordOk_any _ _).mono ?_; rintro e w' ⟨rfl, rfl⟩)
          | (go_at_call 16; refine (specWordOk_any _ _).mono ?_; rintro e w' ⟨rfl, rfl⟩))
        go_ret
        exact ⟨rfl, HW⟩
      by_cases q2 : o = 3
      · subst q2
        have f1 : (didV 3 y x == didV 3 x y) = true := by rw [did_times t3 t4]; simp
        go_wp2_with (first
          | (go_at_call 12; refine (implWrap_any _ _).mono ?_; rintro e w' ⟨rfl, rfl⟩)
          | (go_at_call 13; refine (specDid_any _ _ _ _).mono ?_; rintro e w' ⟨rfl, rfl⟩)
          | (go_at_call 10; refine (implDid_any _ _ _ _).mono ?_; rintro e w' ⟨rfl, rfl⟩)
          | (go_at_call 14; refine (specWrap_any _ _).mono ?_; rintro e w' ⟨rfl, rfl⟩)
          | (go_at_call 15; refine (implWordOk_any _ _).mono ?_; rintro e w' ⟨rfl, rfl⟩)
          | (go_at_call 16; refine (specWordOk_any _ _).mono ?_; rintro e w' ⟨rfl, rfl⟩))
        go_ret
        exact ⟨rfl, HW⟩
      by_cases q3 : o = 4
      · subst q3
        have f0 : ¬ y = 0 := t5 rfl
        have f1 := did_by t3 t4 f0
        clear t5
        obtain ⟨y2, y3⟩ := (isW_iff y).1 t4
        by_cases hx : x = -2147483648
        · subst hx
          by_cases hy : y = -1
          · subst hy
            go_wp2_with (first
              | (go_at_call 12; refine (implWrap_any _ _).mono ?_; rintro e w' ⟨rfl, rfl⟩)
              | (go_at_call 13; refine (specDid_any _ _ _ _).mono ?_; rintro e w' ⟨rfl, rfl⟩)
              | (go_at_call 10; refine (implDid_any _ _ _ _).mono ?_; rintro e w' ⟨rfl, rfl⟩)
              | (go_at_call 14; refine (specWrap_any _ _).mono ?_; rintro e w' ⟨rfl, rfl⟩)
              | (go_at_call 15; refine (implWordOk_any _ _).mono ?_; rintro e w' ⟨rfl, rfl⟩)
              | (go_at_call 16; refine (specWordOk_any _ _).mono ?_; rintro e w' ⟨rfl, rfl⟩))
            go_ret
            exact ⟨rfl, HW⟩
          · have g1 : (y == -1) = false := beq_eq_false_iff_ne.2 hy
            rcases f1 with ⟨_, h⟩ | ⟨f1, f2⟩ | ⟨f1, f2⟩
            · exact absurd h hy
            · go_wp2_with (first
                | (go_at_call 12; refine (implWrap_any _ _).mono ?_; rintro e w' ⟨rfl, rfl⟩)
                | (go_at_call 13; refine (specDid_any _ _ _ _).mono ?_; rintro e w' ⟨rfl, rfl⟩)
                | (go_at_call 10; refine (implDid_any _ _ _ _).mono ?_; rintro e w' ⟨rfl, rfl⟩)
                | (go_at_call 14; refine (specWrap_any _ _).mono ?_; rintro e w' ⟨rfl, rfl⟩)
                | (go_at_call 15; refine (implWordOk_any _ _).mono ?_; rintro e w' ⟨rfl, rfl⟩)
                | (go_at_call 16; refine (specWordOk_any _ _).mono ?_; rintro e w' ⟨rfl, rfl⟩))
              go_ret
              exact ⟨rfl, HW⟩
            · go_wp2_with (first
                | (go_at_call 12; refine (implWrap_any _ _).mono ?_; rintro e w' ⟨rfl, rfl⟩)
                | (go_at_call 13; refine (specDid_any _ _ _ _).mono ?_; rintro e w' ⟨rfl, rfl⟩)
                | (go_at_call 10; refine (implDid_any _ _ _ _).mono ?_; rintro e w' ⟨rfl, rfl⟩)
                | (go_at_call 14; refine (specWrap_any _ _).mono ?_; rintro e w' ⟨rfl, rfl⟩)
                | (go_at_call 15; refine (implWordOk_any _ _).mono ?_; rintro e w' ⟨rfl, rfl⟩)
                | (go_at_call 16; refine (specWordOk_any _ _).mono ?_; rintro e w' ⟨rfl, rfl⟩))
              go_ret
              exact ⟨rfl, HW⟩
        · have g1 : (x == -2147483648) = false := beq_eq_false_iff_ne.2 hx
          rcases f1 with ⟨h, _⟩ | ⟨f1, f2⟩ | ⟨f1, f2⟩
          · exact absurd h hx
          · go_wp2_with (first
              | (go_at_call 12; refine (implWrap_any _ _).mono ?_; rintro e w' ⟨rfl, rfl⟩)
              | (go_at_call 13; refine (specDid_any _ _ _ _).mono ?_; rintro e w' ⟨rfl, rfl⟩)
              | (go_at_call 10; refine (implDid_any _ _ _ _).mono ?_; rintro e w' ⟨rfl, rfl⟩)
              | (go_at_call 14; refine (specWrap_any _ _).mono ?_; rintro e w' ⟨rfl, rfl⟩)
              | (go_at_call 15; refine (implWordOk_any _ _).mono ?_; rintro e w' ⟨rfl, rfl⟩)
              | (go_at_call 16; refine (specWordOk_any _ _).mono ?_; rintro e w' ⟨rfl, rfl⟩))
            go_ret
            exact ⟨rfl, HW⟩
          · go_wp2_with (first
              | (go_at_call 12; refine (implWrap_any _ _).mono ?_; rintro e w' ⟨rfl, rfl⟩)
              | (go_at_call 13; refine (specDid_any _ _ _ _).mono ?_; rintro e w' ⟨rfl, rfl⟩)
              | (go_at_call 10; refine (implDid_any _ _ _ _).mono ?_; rintro e w' ⟨rfl, rfl⟩)
              | (go_at_call 14; refine (specWrap_any _ _).mono ?_; rintro e w' ⟨rfl, rfl⟩)
              | (go_at_call 15; refine (implWordOk_any _ _).mono ?_; rintro e w' ⟨rfl, rfl⟩)
              | (go_at_call 16; refine (specWordOk_any _ _).mono ?_; rintro e w' ⟨rfl, rfl⟩))
            go_ret
            exact ⟨rfl, HW⟩
      · have e1 : (o == 1) = false := beq_eq_false_iff_ne.2 q1
        have e2 : (o == 3) = false := beq_eq_false_iff_ne.2 q2
        have e3 : (o == 4) = false := beq_eq_false_iff_ne.2 q3
        have e4 := did_word o x y
        clear t5
        by_cases q5 : o < 5
        · go_wp2_with (first
            | (go_at_call 12; refine (implWrap_any _ _).mono ?_; rintro e w' ⟨rfl, rfl⟩)
            | (go_at_call 13; refine (specDid_any _ _ _ _).mono ?_; rintro e w' ⟨rfl, rfl⟩)
            | (go_at_call 10; refine (implDid_any _ _ _ _).mono ?_; rintro e w' ⟨rfl, rfl⟩)
            | (go_at_call 14; refine (specWrap_any _ _).mono ?_; rintro e w' ⟨rfl, rfl⟩)
            | (go_at_call 15; refine (implWordOk_any _ _).mono ?_; rintro e w' ⟨rfl, rfl⟩)
            | (go_at_call 16; refine (specWordOk_any _ _).mono ?_; rintro e w' ⟨rfl, rfl⟩))
          go_ret
          exact ⟨rfl, HW⟩
        rcases did_bit (x := x) (y := y) (show 5 ≤ o by omega) with h | h
        · go_wp2_with (first
            | (go_at_call 12; refine (implWrap_any _ _).mono ?_; rintro e w' ⟨rfl, rfl⟩)
            | (go_at_call 13; refine (specDid_any _ _ _ _).mono ?_; rintro e w' ⟨rfl, rfl⟩)
            | (go_at_call 10; refine (implDid_any _ _ _ _).mono ?_; rintro e w' ⟨rfl, rfl⟩)
            | (go_at_call 14; refine (specWrap_any _ _).mono ?_; rintro e w' ⟨rfl, rfl⟩)
            | (go_at_call 15; refine (implWordOk_any _ _).mono ?_; rintro e w' ⟨rfl, rfl⟩)
            | (go_at_call 16; refine (specWordOk_any _ _).mono ?_; rintro e w' ⟨rfl, rfl⟩))
          go_ret
          exact ⟨rfl, HW⟩
        · go_wp2_with (first
            | (go_at_call 12; refine (implWrap_any _ _).mono ?_; rintro e w' ⟨rfl, rfl⟩)
            | (go_at_call 13; refine (specDid_any _ _ _ _).mono ?_; rintro e w' ⟨rfl, rfl⟩)
            | (go_at_call 10; refine (implDid_any _ _ _ _).mono ?_; rintro e w' ⟨rfl, rfl⟩)
            | (go_at_call 14; refine (specWrap_any _ _).mono ?_; rintro e w' ⟨rfl, rfl⟩)
            | (go_at_call 15; refine (implWordOk_any _ _).mono ?_; rintro e w' ⟨rfl, rfl⟩)
            | (go_at_call 16; refine (specWordOk_any _ _).mono ?_; rintro e w' ⟨rfl, rfl⟩))
          go_ret
          exact ⟨rfl, HW⟩
end Go.Proofs.Ytjnmoaigggobkaa.Fw
