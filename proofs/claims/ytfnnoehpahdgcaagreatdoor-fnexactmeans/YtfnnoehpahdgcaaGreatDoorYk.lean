/-
  Kinds and depths by the program: contracts of impl.sumAt, oneKind, oneDepth, (impl.operator).takes, yields, kind, depth, of impl.folded on no tokens, of impl.KindOf, DepthOf. (Made by gen_yk.py.)
-/
import Derived.Test.YtfnnoehpahdgcaaGreatDoorYi
namespace Go.Proofs.YtfnnoehpahdgcaaGreatDoor.Cl
open Go.RowKit Wd Rp Kp Ra Go.Shelf
set_option linter.unusedVariables false
theorem edV_no {l : List Tk} {i : Int} (h : enA l i = none) : edV l i = -1 := by unfold edV; rw [h]
theorem edV_at {l : List Tk} {i : Int} {m : Nat} (h : enA l i = some m) : edV l i = i + m := by unfold edV; rw [h]
/-- The tokens of an expression. -/
theorem enA_piece {l : List Tk} {i : Int} {m : Nat} (h : enA l i = some m) : ∃ k : Nat, i = (k : Int) ∧ k + m ≤ l.length ∧ ((l.drop k).take m).length = m ∧ en ((l.drop k).take m) 1 = some m ∧ 1 ≤ m := by
  have h0 : 0 ≤ i := by
    apply Decidable.byContradiction; intro h1
    rw [enA_neg (by omega)] at h; cases h
  obtain ⟨k, rfl⟩ : ∃ k : Nat, i = k := ⟨i.toNat, by omega⟩
  rw [enA_nat] at h
  have h1 := en_le h
  have h2 := en_pos h
  rw [List.length_drop] at h1
  exact ⟨k, rfl, by omega, by rw [List.length_take, List.length_drop]; omega, en_take h, h2⟩
theorem mem_piece {l : List Tk} {k m : Nat} {s : Tk} (h : s ∈ (l.drop k).take m) : s ∈ l := List.mem_of_mem_drop (List.mem_of_mem_take h)
set_option maxHeartbeats 4000000 in
set_option maxRecDepth 100000 in
theorem sumAt_none (w : World) (a : Option Addr) (cap : Nat) (l : List Tk) (n : Nat) (i : Int) (hi : I64 i) (hn : l.length = n) (hv : V1 w a cap (txL l)) (hl : n ≤ 4194304) (hm : ∀ s ∈ l, s.length ≤ 4194304) (hL : Lib3 w) (he : enA l i = none) :
    Calls Tryz.prog 129 #[.slice a n cap, .int .i64 i] w fun e w' => e = .returned (.slice none 0 0) ∧ Below w.heap.size w w' := by
  have HE := Lib.hid (implEnd_any w a cap l n i hi hn hv hl hm hL)
  rw [edV_no he] at HE
  go_enter Tryz.func129, Tryz.ntmps129
  go_wp2_with fail
  refine HE.out.mono ?_; rintro e w1 ⟨rfl, b1⟩
  have B1 := Lib.hid b1; clear b1
  go_wp2_with fail
  go_ret
  exact ⟨rfl, B1.out⟩
set_option maxHeartbeats 4000000 in
set_option maxRecDepth 100000 in
theorem sumAt_some (w : World) (a : Option Addr) (cap : Nat) (l : List Tk) (n k m : Nat) (hi : I64 (k : Int)) (hn : l.length = n) (hv : V1 w a cap (txL l)) (hl : n ≤ 4194304) (hm : ∀ s ∈ l, s.length ≤ 4194304) (hL : Lib3 w) (he : enA l (k : Int) = some m) (hkm : k + m ≤ n) :
    Calls Tryz.prog 129 #[.slice a n cap, .int .i64 (k : Int)] w fun e w' => ∃ b cb, e = .returned (.slice b m cb) ∧ V1 w' b cb (txL ((l.drop k).take m)) ∧ Below w.heap.size w w' := by
  have HE := Lib.hid (implEnd_any w a cap l n k hi hn hv hl hm hL)
  rw [edV_at he] at HE
  obtain ⟨b, cb, hrun, hvv⟩ := cut1 24 (by kernel_rfl) (fun w => by exact Tryz.sizeOf9 w) a n cap k (k + m) (by omega) hkm (by have := hv.1; rw [txL_len] at this; omega)
  rw [show k + m - k = m by omega] at hrun hvv
  have hr : ∀ w, (Instr.slice 24 (.slice a n cap) (some (.int .i64 (k : Int))) (some (.int .i64 ((k : Int) + (m : Int)))) none).run Tryz.prog w = .ok (.slice b m cb) w := hrun
  have HV := Lib.hid (fun w1 (hb : Below w.heap.size w w1) => (show V1 w1 b cb (txL ((l.drop k).take m)) from by
    have := hvv w1 (txL l) (hv.below hb) (by rw [txL_len]; exact hn)
    unfold txL at this ⊢
    rw [← List.map_drop, ← List.map_take] at this; exact this))
  clear hrun hvv hv
  have p0 : ¬ (k : Int) + (m : Int) < 0 := by omega
  go_enter Tryz.func129, Tryz.ntmps129
  go_wp2_with fail
  refine HE.out.mono ?_; rintro e w1 ⟨rfl, b1⟩
  have B1 := Lib.hid b1; clear b1
  go_wp2_with fail
  go_ret
  exact ⟨b, cb, rfl, HV.out _ B1.out, B1.out⟩
theorem oneKind_any (v : Value) (w : World) : Calls Tryz.prog 144 #[v] w fun e w' => e = .returned (.int .i64 1) ∧ w = w' := by
  go_enter Tryz.func144, Tryz.ntmps144
  go_wp2_with fail
  go_ret
  exact ⟨rfl, rfl⟩
theorem oneDepth_any (v : Value) (w : World) : Calls Tryz.prog 146 #[v] w fun e w' => e = .returned (.int .i64 1) ∧ w = w' := by
  go_enter Tryz.func146, Tryz.ntmps146
  go_wp2_with fail
  go_ret
  exact ⟨rfl, rfl⟩
theorem takes_any (o : Nat) (w : World) : Calls Tryz.prog 156 #[.int .i64 o] w fun e w' => e = .returned (.int .i64 (tkK o)) ∧ w = w' := by
  by_cases h : o = 7
  · subst h
    go_enter Tryz.func156, Tryz.ntmps156
    go_wp2_with fail
    go_ret
    exact ⟨rfl, rfl⟩
  · have q : ((o : Int) == 7) = false := by rw [beq_eq_false_iff_ne]; omega
    have HE := Lib.hid (show tkK o = 1 by unfold tkK; rw [if_neg h])
    go_enter Tryz.func156, Tryz.ntmps156
    go_wp2_with fail
    go_ret
    exact ⟨by rw [HE.out]; rfl, rfl⟩
theorem yields_any (o : Nat) (ho : o ≤ 7) (w : World) : Calls Tryz.prog 157 #[.int .i64 o] w fun e w' => e = .returned (.int .i64 (ylK o)) ∧ w = w' := by
  by_cases h : 5 ≤ o
  · have h2 : o = 5 ∨ o = 6 ∨ o = 7 := by omega
    rcases h2 with rfl | rfl | rfl <;>
    · go_enter Tryz.func157, Tryz.ntmps157
      go_wp2_with fail
      go_ret
      exact ⟨rfl, rfl⟩
  · have q5 : ((o : Int) == 5) = false := by rw [beq_eq_false_iff_ne]; omega
    have q6 : ((o : Int) == 6) = false := by rw [beq_eq_false_iff_ne]; omega
    have q7 : ((o : Int) == 7) = false := by rw [beq_eq_false_iff_ne]; omega
    have HE := Lib.hid (show ylK o = 1 by unfold ylK; rw [if_neg h])
    go_enter Tryz.func157, Tryz.ntmps157
    go_wp2_with fail
    go_ret
    exact ⟨by rw [HE.out]; rfl, rfl⟩
theorem kind_any (o : Nat) (ho : o ≤ 7) (a b : Int) (w : World) : Calls Tryz.prog 145 #[.int .i64 o, .int .i64 a, .int .i64 b] w fun e w' => e = .returned (.int .i64 (kdG o a b)) ∧ w = w' := by
  have HT := Lib.hid (takes_any o)
  have HY := Lib.hid (yields_any o ho)
  have HK := Lib.hid (show kdG o a b = if a = tkK o ∧ b = tkK o then ylK o else 0 from rfl)
  generalize kdG o a b = r at *
  generalize ylK o = y at *
  generalize tkK o = t at *
  by_cases h1 : a = t
  · have q1 : (a != t) = false := by simpa using h1
    by_cases h2 : b = t
    · have q2 : (b != t) = false := by simpa using h2
      have HE := Lib.hid (HK.out.trans (if_pos ⟨h1, h2⟩)); clear h1 h2
      go_enter Tryz.func145, Tryz.ntmps145
      go_wp2_with fail
      refine (HT.out _).mono ?_; rintro e w1 ⟨rfl, rfl⟩
      go_wp2_with fail
      refine (HT.out _).mono ?_; rintro e w1 ⟨rfl, rfl⟩
      go_wp2_with fail
      refine (HY.out _).mono ?_; rintro e w1 ⟨rfl, rfl⟩
      go_wp2_with fail
      go_ret
      exact ⟨by rw [HE.out]; rfl, rfl⟩
    · have q2 : (b != t) = true := by simpa using h2
      have HE := Lib.hid (HK.out.trans (if_neg (by rintro ⟨-, h⟩; exact h2 h))); clear h1 h2
      go_enter Tryz.func145, Tryz.ntmps145
      go_wp2_with fail
      refine (HT.out _).mono ?_; rintro e w1 ⟨rfl, rfl⟩
      go_wp2_with fail
      refine (HT.out _).mono ?_; rintro e w1 ⟨rfl, rfl⟩
      go_wp2_with fail
      go_ret
      exact ⟨by rw [HE.out]; rfl, rfl⟩
  · have q1 : (a != t) = true := by simpa using h1
    have HE := Lib.hid (HK.out.trans (if_neg (by rintro ⟨h, -⟩; exact h1 h))); clear h1
    go_enter Tryz.func145, Tryz.ntmps145
    go_wp2_with fail
    refine (HT.out _).mono ?_; rintro e w1 ⟨rfl, rfl⟩
    go_wp2_with fail
    go_ret
    exact ⟨by rw [HE.out]; rfl, rfl⟩
theorem depth_any (o : Nat) (a b : Int) (w : World) : Calls Tryz.prog 147 #[.int .i64 o, .int .i64 a, .int .i64 b] w fun e w' => e = .returned (.int .i64 (dpG o a b)) ∧ w = w' := by
  have HK := Lib.hid (show dpG o a b = wrap64 (1 + mxI a b) from rfl)
  have HM := Lib.hid (show mxI a b = max a b by unfold mxI; split <;> omega)
  go_enter Tryz.func147, Tryz.ntmps147
  go_wp2_with fail
  go_ret
  exact ⟨by rw [HK.out, HM.out]; rfl, rfl⟩
set_option maxHeartbeats 4000000 in
set_option maxRecDepth 100000 in
theorem foldedInt_nil (f1 f2 : Nat) (lb1 : Array Value) (w : World) : Calls Tryz.prog 143 #[.slice none 0 0, .func (.func f1) #[] lb1, .func (.func f2) #[] #[]] w fun e w' => e = .returned (.int .i64 0) ∧ Below w.heap.size w w' := by
  have HB := Lib.hid (bel2 w (.cells #[.func (.func f1) #[] lb1] 156) (.cells #[.func (.func f2) #[] #[]] 157))
  go_enter Tryz.func143, Tryz.ntmps143
  go_wp2_with fail
  go_ret
  exact ⟨rfl, HB.out⟩
set_option maxHeartbeats 4000000 in
set_option maxRecDepth 100000 in
theorem implKind_any (w : World) (a : Option Addr) (cap : Nat) (l : List Tk) (n : Nat) (i : Int) (hi : I64 i) (hn : l.length = n) (hv : V1 w a cap (txL l)) (hl : n ≤ 4194304) (hm : ∀ s ∈ l, s.length ≤ 4194304) (hL : Lib3 w) :
    Calls Tryz.prog 130 #[.slice a n cap, .int .i64 i] w fun e w' => e = .returned (.int .i64 (kdV l i)) ∧ Below w.heap.size w w' := by
  cases he : enA l i with
  | none =>
    have HS := Lib.hid (sumAt_none w a cap l n i hi hn hv hl hm hL he)
    have HE := Lib.hid (show kdV l i = 0 from foV_none _ _ _ he)
    clear hv hL he
    go_enter Tryz.func130, Tryz.ntmps130
    go_wp2_with fail
    refine HS.out.mono ?_; rintro e w1 ⟨rfl, b1⟩
    have B1 := Lib.hid b1; clear b1
    go_wp2_with fail
    refine (foldedInt_nil _ _ _ _).mono ?_; rintro e w2 ⟨rfl, b2⟩
    have B2 := Lib.hid (bel_tr B1.out b2 (Nat.le_refl _)); clear b2
    go_wp2_with fail
    go_ret
    exact ⟨by rw [HE.out]; rfl, B2.out⟩
  | some m =>
    obtain ⟨k, rfl, hkm, hlen, hent, hm1⟩ := enA_piece he
    have HS := Lib.hid (sumAt_some w a cap l n k m hi hn hv hl hm hL he (by omega))
    have HE := Lib.hid (show kdV l (k : Int) = (stk kdF kdG ((l.drop k).take m)).headD 0 by unfold kdV foV; rw [he]; rfl)
    have HF := Lib.hid (fun w1 b cb (hb : Below w.heap.size w w1) (hvb : V1 w1 b cb (txL ((l.drop k).take m))) => foldedInt_any kdF kdG w1 b cb m ((l.drop k).take m) hlen hvb (by omega) (fun s hs => hm s (mem_piece hs)) (lib3_below hL hb) (by rw [hlen]; exact hent)
      144 145 #[] (enters_of Tryz.func144 (by kernel_rfl) rfl) (enters_of Tryz.func145 (by kernel_rfl) rfl)
      (fun s W _ _ _ => by rw [Array.append_empty]; exact (oneKind_any _ W).mono fun e w' ⟨h1, h2⟩ => ⟨h1, by rw [← h2]; exact Below.refl _ _⟩)
      (fun o x y W h1 h2 => (kind_any o h2 x y W).mono fun e w' ⟨h1, h2⟩ => ⟨h1, by rw [← h2]; exact Below.refl _ _⟩))
    clear hv hL he hent hlen
    generalize stk kdF kdG ((l.drop k).take m) = st at *
    go_enter Tryz.func130, Tryz.ntmps130
    go_wp2_with fail
    refine HS.out.mono ?_; rintro e w1 ⟨b, cb, rfl, hvb, b1⟩
    have B1 := Lib.hid b1; clear b1
    have HF1 := Lib.hid (HF.out w1 b cb B1.out hvb); clear hvb
    go_wp2_with fail
    refine HF1.out.mono ?_; rintro e w2 ⟨r, hr, rfl, b2⟩
    have B2 := Lib.hid (bel_tr B1.out b2 (Nat.le_refl _)); clear b2
    have HE2 := Lib.hid (HE.out.trans (by rw [hr]; rfl : _ = r)); clear HE hr
    go_wp2_with fail
    go_ret
    exact ⟨by rw [HE2.out]; rfl, B2.out⟩
set_option maxHeartbeats 4000000 in
set_option maxRecDepth 100000 in
theorem implDepth_any (w : World) (a : Option Addr) (cap : Nat) (l : List Tk) (n : Nat) (i : Int) (hi : I64 i) (hn : l.length = n) (hv : V1 w a cap (txL l)) (hl : n ≤ 4194304) (hm : ∀ s ∈ l, s.length ≤ 4194304) (hL : Lib3 w) :
    Calls Tryz.prog 131 #[.slice a n cap, .int .i64 i] w fun e w' => e = .returned (.int .i64 (dpV l i)) ∧ Below w.heap.size w w' := by
  cases he : enA l i with
  | none =>
    have HS := Lib.hid (sumAt_none w a cap l n i hi hn hv hl hm hL he)
    have HE := Lib.hid (show dpV l i = 0 from foV_none _ _ _ he)
    clear hv hL he
    go_enter Tryz.func131, Tryz.ntmps131
    go_wp2_with fail
    refine HS.out.mono ?_; rintro e w1 ⟨rfl, b1⟩
    have B1 := Lib.hid b1; clear b1
    go_wp2_with fail
    refine (foldedInt_nil _ _ _ _).mono ?_; rintro e w2 ⟨rfl, b2⟩
    have B2 := Lib.hid (bel_tr B1.out b2 (Nat.le_refl _)); clear b2
    go_wp2_with fail
    go_ret
    exact ⟨by rw [HE.out]; rfl, B2.out⟩
  | some m =>
    obtain ⟨k, rfl, hkm, hlen, hent, hm1⟩ := enA_piece he
    have HS := Lib.hid (sumAt_some w a cap l n k m hi hn hv hl hm hL he (by omega))
    have HE := Lib.hid (show dpV l (k : Int) = (stk dpF dpG ((l.drop k).take m)).headD 0 by unfold dpV foV; rw [he]; rfl)
    have HF := Lib.hid (fun w1 b cb (hb : Below w.heap.size w w1) (hvb : V1 w1 b cb (txL ((l.drop k).take m))) => foldedInt_any dpF dpG w1 b cb m ((l.drop k).take m) hlen hvb (by omega) (fun s hs => hm s (mem_piece hs)) (lib3_below hL hb) (by rw [hlen]; exact hent)
      146 147 #[] (enters_of Tryz.func146 (by kernel_rfl) rfl) (enters_of Tryz.func147 (by kernel_rfl) rfl)
      (fun s W _ _ _ => by rw [Array.append_empty]; exact (oneDepth_any _ W).mono fun e w' ⟨h1, h2⟩ => ⟨h1, by rw [← h2]; exact Below.refl _ _⟩)
      (fun o x y W h1 h2 => (depth_any o x y W).mono fun e w' ⟨h1, h2⟩ => ⟨h1, by rw [← h2]; exact Below.refl _ _⟩))
    clear hv hL he hent hlen
    generalize stk dpF dpG ((l.drop k).take m) = st at *
    go_enter Tryz.func131, Tryz.ntmps131
    go_wp2_with fail
    refine HS.out.mono ?_; rintro e w1 ⟨b, cb, rfl, hvb, b1⟩
    have B1 := Lib.hid b1; clear b1
    have HF1 := Lib.hid (HF.out w1 b cb B1.out hvb); clear hvb
    go_wp2_with fail
    refine HF1.out.mono ?_; rintro e w2 ⟨r, hr, rfl, b2⟩
    have B2 := Lib.hid (bel_tr B1.out b2 (Nat.le_refl _)); clear b2
    have HE2 := Lib.hid (HE.out.trans (by rw [hr]; rfl : _ = r)); clear HE hr
    go_wp2_with fail
    go_ret
    exact ⟨by rw [HE2.out]; rfl, B2.out⟩
end Go.Proofs.YtfnnoehpahdgcaaGreatDoor.Cl
