/-
  The contracts of spec.l5Merge and spec.Merged: 'mergeL', 'mgP'. (Made by gen_pj.py.)
-/
import Derived.Test.YtkkpokfekbdigaaPe
namespace Go.Proofs.Ytkkpokfekbdigaa.Cl
open Go.RowKit Wd Rp Kp
set_option linter.unusedVariables false
def slN : Value → Nat
  | .slice _ n _ => n
  | _ => 0
theorem slice_eq {a : Option Addr} {n m cap : Nat} (h : n = m) : Value.slice a n cap = .slice a m cap := by rw [h]
theorem cut_tail (a : Option Addr) (n cap : Nat) (hk : 1 ≤ n) : ∃ b cb, (∀ w, (Instr.slice 24 (.slice a n cap) (some (.int .i64 1)) none none).run Try.prog w = .ok (.slice b (n - 1) cb) w) ∧ ∀ w c l, Vw w a cap (c :: l) → l.length + 1 = n → Vw w b cb l := by
  obtain ⟨b, cb, h1, h2⟩ := cut_from a n cap 1 hk
  exact ⟨b, cb, fun w => h1 w, fun w c l h hl => h2 w (c :: l) h (by simpa using hl)⟩
/-- In the midst of merging: what is left of both, what is out. -/
def Half (w : World) (a b : List Cel) (s0 s1 s5 : Value) (wr : World) (la lb o : List Cel) : Prop :=
  ∃ x cx y cy, s0 = .slice x la.length cx ∧ s1 = .slice y lb.length cy ∧ Vw w x cx la ∧ Vw w y cy lb ∧ OwC w.heap.size wr s5 o ∧ o ++ mergeL la lb = mergeL a b ∧ Below w.heap.size w wr ∧ o.length + la.length + lb.length ≤ 8000
set_option maxHeartbeats 8000000 in
set_option maxRecDepth 100000 in
theorem l5Merge_any (w : World) (x y : Option Addr) (cx cy : Nat) (a b : List Cel) (n k : Nat) (hn : a.length = n) (hk : b.length = k) (ha : Vw w x cx a) (hb : Vw w y cy b) (hn2 : n ≤ 4000) (hk2 : k ≤ 4000) :
    Calls Try.prog 73 #[.slice x n cx, .slice y k cy] w fun e w' => ∃ v, e = .returned v ∧ OwC w.heap.size w' v (mergeL a b) ∧ Below w.heap.size w w' := by
  have HST := Lib.hid (show Half w a b (.slice x n cx) (.slice y k cy) (.slice (some ⟨w.heap.size, 0, none⟩) 0 0) (w.alloc (.cells #[] 28)) a b [] from
    ⟨x, cx, y, cy, by rw [hn], by rw [hk], ha, hb, OwC.start (Nat.le_refl _), rfl, bel1 _ _, by rw [hn, hk]; simp; omega⟩)
  clear ha hb
  go_enter Try.func73, Try.ntmps73
  go_wp2_with fail
  go_loopw [0, 1, 5, 25, 53] (fun s0 s1 s5 _ _ wr => ∃ la lb o, Half w a b s0 s1 s5 wr la lb o) (fun s0 s1 _ _ _ _ => slN s0 + slN s1)
  case atStart => exact ⟨a, b, [], HST.out⟩
  case round =>
    clear HST
    obtain ⟨la, lb, o, x, cx, y, cy, rfl, rfl, hva, hvb, ho, heq, hbel, hlen⟩ := hrel
    have HA := Lib.hid hva; clear hva
    have HV := Lib.hid hvb; clear hvb
    have HO := Lib.hid ho; clear ho
    have HB := Lib.hid hbel; clear hbel
    cases la with
    | nil =>
      cases lb with
      | nil =>
        have HE := Lib.hid (show o = mergeL a b by rw [← heq, mergeL_nl, List.append_nil]); clear heq
        go_wp2_with fail
        go_ret
        exact ⟨_, rfl, by rw [← HE.out]; exact HO.out, HB.out⟩
      | cons d lb =>
        have HEQ := Lib.hid (show (o ++ [d]) ++ mergeL [] lb = mergeL a b by rw [← heq, mergeL_nl, mergeL_nl, List.append_assoc]; rfl); clear heq
        obtain ⟨gb, ob, rfl, hgb, h5b⟩ := HV.out.2.2.2 0 d rfl
        rw [Nat.zero_mul, Nat.add_zero] at h5b
        have HCd := Lib.hid h5b
        have hgb' : gb < wr.heap.size := Nat.lt_of_lt_of_le hgb HB.out.size
        have HNb := Lib.hid (show (d :: lb).length = lb.length + 1 by simp)
        obtain ⟨tb, ctb, hrunb, hcutb⟩ := cut_tail (some ⟨gb, ob, none⟩) (d :: lb).length cy (by simp)
        have HTb := Lib.hid (hcutb w d lb HV.out (by simp)); clear hcutb
        generalize hNb : (d :: lb).length = Nb at *
        have HMb := Lib.hid hNb; clear hNb
        have zb3 : 0 < Nb := by have := HNb.out; omega
        have zb0 : (0 : Int) < (Nb : Int) := by omega
        have zb1 : ((Nb : Int) == 0) = false := by rw [beq_eq_false_iff_ne]; omega
        have zb2 : decide ((0 : Int) < (Nb : Int)) = true := decide_eq_true zb0
        have zb4 : decide (0 < Nb) = true := decide_eq_true zb3
        have hlenN : o.length + Nb ≤ 8000 := by simpa using hlen
        clear h5b
        clear hlen
        go_wp2_with fail
        refine wp_region_held_drew (S := fun z => Below wr.heap.size wr z) (by kernel_rfl) (Below.refl _ _).drew (fun hHeld => ?_)
        refine wpAnyH_take (i := 0) (v := ?v0tp) rfl (by kernel_rfl) (by kernel_rfl) (by kernel_rfl) (fun _ _ _ h => h) (Or.inl ⟨by rfl, ?hy0tp⟩) (by assumption) ?rest0tp
        case hy0tp => (intro zz hSw; (try dsimp only at hSw); go_simp; (try with_reducible rfl))
        change wpAnyH _ _ _ _ _ _ _ (Act.put _ (some 26) _) _
        simp only [Act.put, List.setIfInBounds_toArray, List.set_cons_zero, List.set_cons_succ]
        refine wpAnyH_take (i := 1) (v := ?v1tp) rfl (by kernel_rfl) (by kernel_rfl) (by kernel_rfl) (fun _ _ _ h => h) (Or.inl ⟨by rfl, ?hy1tp⟩) (by assumption) ?rest1tp
        case hy1tp => (intro zz hSw; (try dsimp only at hSw); go_simp; (try with_reducible rfl))
        change wpAnyH _ _ _ _ _ _ _ (Act.put _ (some 27) _) _
        simp only [Act.put, List.setIfInBounds_toArray, List.set_cons_zero, List.set_cons_succ]
        refine wpAnyH_take (i := 2) (v := ?v2tp) rfl (by kernel_rfl) (by kernel_rfl) (by kernel_rfl) (fun _ _ _ h => h) (Or.inl ⟨by rfl, ?hy2tp⟩) (by assumption) ?rest2tp
        case hy2tp => (intro zz hSw; (try dsimp only at hSw); go_simp; (try with_reducible rfl))
        change wpAnyH _ _ _ _ _ _ _ (Act.put _ (some 28) _) _
        simp only [Act.put, List.setIfInBounds_toArray, List.set_cons_zero, List.set_cons_succ]
        refine wpAnyH_take (i := 3) (v := ?v3tp) rfl (by kernel_rfl) (by kernel_rfl) (by kernel_rfl) (fun _ _ _ h => h) (Or.inl ⟨by rfl, ?hy3tp⟩) (by assumption) ?rest3tp
        case hy3tp => (intro zz hSw; (try dsimp only at hSw); go_simp; (try with_reducible rfl))
        change wpAnyH _ _ _ _ _ _ _ (Act.put _ (some 29) _) _
        simp only [Act.put, List.setIfInBounds_toArray, List.set_cons_zero, List.set_cons_succ]
        refine wpAnyH_take (i := 4) (v := ?v4tp) rfl (by kernel_rfl) (by kernel_rfl) (by kernel_rfl) (fun _ _ _ h => h) (Or.inl ⟨by rfl, ?hy4tp⟩) (by assumption) ?rest4tp
        case hy4tp => (intro zz hSw; (try dsimp only at hSw); go_simp; (try with_reducible rfl))
        change wpAnyH _ _ _ _ _ _ _ (Act.put _ (some 30) _) _
        simp only [Act.put, List.setIfInBounds_toArray, List.set_cons_zero, List.set_cons_succ]
        refine wpAnyH_take (i := 5) (v := ?v5tp) rfl (by kernel_rfl) (by kernel_rfl) (by kernel_rfl) (fun _ _ _ h => h) (Or.inl ⟨by rfl, ?hy5tp⟩) (by assumption) ?rest5tp
        case hy5tp => (intro zz hSw; (try dsimp only at hSw); go_simp; (try with_reducible rfl))
        change wpAnyH _ _ _ _ _ _ _ (Act.put _ (some 31) _) _
        simp only [Act.put, List.setIfInBounds_toArray, List.set_cons_zero, List.set_cons_succ]
        refine wpAnyH_take (i := 6) (v := ?v6tp) rfl (by kernel_rfl) (by kernel_rfl) (by kernel_rfl) (fun _ _ _ h => h) (Or.inl ⟨by rfl, ?hy6tp⟩) (by assumption) ?rest6tp
        case hy6tp => (intro zz hSw; (try dsimp only at hSw); go_simp; (try with_reducible rfl))
        change wpAnyH _ _ _ _ _ _ _ (Act.put _ (some 32) _) _
        simp only [Act.put, List.setIfInBounds_toArray, List.set_cons_zero, List.set_cons_succ]
        refine wpAnyH_take (i := 7) (v := ?v7tp) rfl (by kernel_rfl) (by kernel_rfl) (by kernel_rfl) (fun _ _ _ h => h) (Or.inl ⟨by rfl, ?hy7tp⟩) (by assumption) ?rest7tp
        case hy7tp => (intro zz hSw; (try dsimp only at hSw); go_simp; (try with_reducible rfl))
        change wpAnyH _ _ _ _ _ _ _ (Act.put _ (some 33) _) _
        simp only [Act.put, List.setIfInBounds_toArray, List.set_cons_zero, List.set_cons_succ]
        refine wpAnyH_take (i := 8) (v := undef) rfl (by kernel_rfl) (by kernel_rfl) (by kernel_rfl) (fun _ _ _ h => h) (Or.inr ⟨by rfl, rfl⟩) (by assumption) ?_
        change wpAnyH _ _ _ _ _ _ _ (Act.put _ (some 34) _) _
        simp only [Act.put, List.setIfInBounds_toArray, List.set_cons_zero, List.set_cons_succ]
        refine wpAnyH_take (i := 9) (v := undef) rfl (by kernel_rfl) (by kernel_rfl) (by kernel_rfl) (fun _ _ _ h => h) (Or.inr ⟨by rfl, rfl⟩) (by assumption) ?_
        change wpAnyH _ _ _ _ _ _ _ (Act.put _ (some 35) _) _
        simp only [Act.put, List.setIfInBounds_toArray, List.set_cons_zero, List.set_cons_succ]
        refine wpAnyH_take (i := 10) (v := undef) rfl (by kernel_rfl) (by kernel_rfl) (by kernel_rfl) (fun _ _ _ h => h) (Or.inr ⟨by rfl, rfl⟩) (by assumption) ?_
        change wpAnyH _ _ _ _ _ _ _ (Act.put _ (some 36) _) _
        simp only [Act.put, List.setIfInBounds_toArray, List.set_cons_zero, List.set_cons_succ]
        refine wpAnyH_take (i := 11) (v := undef) rfl (by kernel_rfl) (by kernel_rfl) (by kernel_rfl) (fun _ _ _ h => h) (Or.inr ⟨by rfl, rfl⟩) (by assumption) ?_
        change wpAnyH _ _ _ _ _ _ _ (Act.put _ (some 37) _) _
        simp only [Act.put, List.setIfInBounds_toArray, List.set_cons_zero, List.set_cons_succ]
        refine wpAnyH_take (i := 12) (v := undef) rfl (by kernel_rfl) (by kernel_rfl) (by kernel_rfl) (fun _ _ _ h => h) (Or.inr ⟨by rfl, rfl⟩) (by assumption) ?_
        change wpAnyH _ _ _ _ _ _ _ (Act.put _ (some 38) _) _
        simp only [Act.put, List.setIfInBounds_toArray, List.set_cons_zero, List.set_cons_succ]
        refine wpAnyH_take (i := 13) (v := undef) rfl (by kernel_rfl) (by kernel_rfl) (by kernel_rfl) (fun _ _ _ h => h) (Or.inr ⟨by rfl, rfl⟩) (by assumption) ?_
        change wpAnyH _ _ _ _ _ _ _ (Act.put _ (some 39) _) _
        simp only [Act.put, List.setIfInBounds_toArray, List.set_cons_zero, List.set_cons_succ]
        refine wpAnyH_take (i := 14) (v := undef) rfl (by kernel_rfl) (by kernel_rfl) (by kernel_rfl) (fun _ _ _ h => h) (Or.inr ⟨by rfl, rfl⟩) (by assumption) ?_
        change wpAnyH _ _ _ _ _ _ _ (Act.put _ (some 40) _) _
        simp only [Act.put, List.setIfInBounds_toArray, List.set_cons_zero, List.set_cons_succ]
        refine wpAnyH_take (i := 15) (v := undef) rfl (by kernel_rfl) (by kernel_rfl) (by kernel_rfl) (fun _ _ _ h => h) (Or.inr ⟨by rfl, rfl⟩) (by assumption) ?_
        change wpAnyH _ _ _ _ _ _ _ (Act.put _ (some 41) _) _
        simp only [Act.put, List.setIfInBounds_toArray, List.set_cons_zero, List.set_cons_succ]
        refine wpAnyH_take (i := 16) (v := undef) rfl (by kernel_rfl) (by kernel_rfl) (by kernel_rfl) (fun _ _ _ h => h) (Or.inr ⟨by rfl, rfl⟩) (by assumption) ?_
        change wpAnyH _ _ _ _ _ _ _ (Act.put _ (some 42) _) _
        simp only [Act.put, List.setIfInBounds_toArray, List.set_cons_zero, List.set_cons_succ]
        refine wpAnyH_take (i := 17) (v := ?v17tp) rfl (by kernel_rfl) (by kernel_rfl) (by kernel_rfl) (fun _ _ _ h => h) (Or.inl ⟨by rfl, ?hy17tp⟩) (by assumption) ?rest17tp
        case hy17tp => (intro zz hSw; (try dsimp only at hSw); go_simp; (try with_reducible rfl))
        change wpAnyH _ _ _ _ _ _ _ (Act.put _ (some 43) _) _
        simp only [Act.put, List.setIfInBounds_toArray, List.set_cons_zero, List.set_cons_succ]
        refine wpAnyH_take (i := 18) (v := ?v18tp) rfl (by kernel_rfl) (by kernel_rfl) (by kernel_rfl) (fun _ _ _ h => h) (Or.inl ⟨by rfl, ?hy18tp⟩) (by assumption) ?rest18tp
        case hy18tp => (intro zz hSw; (try dsimp only at hSw); go_simp; (try with_reducible rfl))
        change wpAnyH _ _ _ _ _ _ _ (Act.put _ (some 44) _) _
        simp only [Act.put, List.setIfInBounds_toArray, List.set_cons_zero, List.set_cons_succ]
        refine wpAnyH_take (i := 19) (v := ?v19tp) rfl (by kernel_rfl) (by kernel_rfl) (by kernel_rfl) (fun _ _ _ h => h) (Or.inl ⟨by rfl, ?hy19tp⟩) (by assumption) ?rest19tp
        case hy19tp => (intro zz hSw; (try dsimp only at hSw); go_simp; (try with_reducible rfl))
        change wpAnyH _ _ _ _ _ _ _ (Act.put _ (some 25) _) _
        simp only [Act.put, List.setIfInBounds_toArray, List.set_cons_zero, List.set_cons_succ]
        refine wpAnyH_done (by kernel_rfl) ?_ _
        have BX0 := Lib.hid hHeld; clear hHeld
        generalize wr.drew = w8 at BX0 ⊢
        go_wp2_with fail
        refine wp_region_held_drew (S := fun z => Below wr.heap.size wr z) (by kernel_rfl) BX0.out.drew (fun hHeld => ?_)
        refine wpAnyH_take (i := 0) (v := ?v0tq) rfl (by kernel_rfl) (by kernel_rfl) (by kernel_rfl) (fun _ _ _ h => h) (Or.inl ⟨by rfl, ?hy0tq⟩) (by assumption) ?rest0tq
        case hy0tq => (intro zz hSw; (try dsimp only at hSw); go_simp; (try with_reducible rfl))
        change wpAnyH _ _ _ _ _ _ _ (Act.put _ (some 54) _) _
        simp only [Act.put, List.setIfInBounds_toArray, List.set_cons_zero, List.set_cons_succ]
        refine wpAnyH_take (i := 1) (v := ?v1tq) rfl (by kernel_rfl) (by kernel_rfl) (by kernel_rfl) (fun _ _ _ h => h) (Or.inl ⟨by rfl, ?hy1tq⟩) (by assumption) ?rest1tq
        case hy1tq => (intro zz hSw; (try dsimp only at hSw); go_simp; (try with_reducible rfl))
        change wpAnyH _ _ _ _ _ _ _ (Act.put _ (some 55) _) _
        simp only [Act.put, List.setIfInBounds_toArray, List.set_cons_zero, List.set_cons_succ]
        refine wpAnyH_take (i := 2) (v := ?v2tq) rfl (by kernel_rfl) (by kernel_rfl) (by kernel_rfl) (fun _ _ _ h => h) (Or.inl ⟨by rfl, ?hy2tq⟩) (by assumption) ?rest2tq
        case hy2tq => (intro zz hSw; (try dsimp only at hSw); go_simp; (try with_reducible rfl))
        change wpAnyH _ _ _ _ _ _ _ (Act.put _ (some 56) _) _
        simp only [Act.put, List.setIfInBounds_toArray, List.set_cons_zero, List.set_cons_succ]
        refine wpAnyH_take (i := 3) (v := ?v3tq) rfl (by kernel_rfl) (by kernel_rfl) (by kernel_rfl) (fun _ _ _ h => h) (Or.inl ⟨by rfl, ?hy3tq⟩) (by assumption) ?rest3tq
        case hy3tq => (intro zz hSw; (try dsimp only at hSw); go_simp; (try with_reducible rfl))
        change wpAnyH _ _ _ _ _ _ _ (Act.put _ (some 57) _) _
        simp only [Act.put, List.setIfInBounds_toArray, List.set_cons_zero, List.set_cons_succ]
        refine wpAnyH_take (i := 4) (v := undef) rfl (by kernel_rfl) (by kernel_rfl) (by kernel_rfl) (fun _ _ _ h => h) (Or.inr ⟨by rfl, rfl⟩) (by assumption) ?_
        change wpAnyH _ _ _ _ _ _ _ (Act.put _ (some 58) _) _
        simp only [Act.put, List.setIfInBounds_toArray, List.set_cons_zero, List.set_cons_succ]
        refine wpAnyH_take (i := 5) (v := undef) rfl (by kernel_rfl) (by kernel_rfl) (by kernel_rfl) (fun _ _ _ h => h) (Or.inr ⟨by rfl, rfl⟩) (by assumption) ?_
        change wpAnyH _ _ _ _ _ _ _ (Act.put _ (some 59) _) _
        simp only [Act.put, List.setIfInBounds_toArray, List.set_cons_zero, List.set_cons_succ]
        refine wpAnyH_take (i := 6) (v := undef) rfl (by kernel_rfl) (by kernel_rfl) (by kernel_rfl) (fun _ _ _ h => h) (Or.inr ⟨by rfl, rfl⟩) (by assumption) ?_
        change wpAnyH _ _ _ _ _ _ _ (Act.put _ (some 60) _) _
        simp only [Act.put, List.setIfInBounds_toArray, List.set_cons_zero, List.set_cons_succ]
        refine wpAnyH_take (i := 7) (v := undef) rfl (by kernel_rfl) (by kernel_rfl) (by kernel_rfl) (fun _ _ _ h => h) (Or.inr ⟨by rfl, rfl⟩) (by assumption) ?_
        change wpAnyH _ _ _ _ _ _ _ (Act.put _ (some 61) _) _
        simp only [Act.put, List.setIfInBounds_toArray, List.set_cons_zero, List.set_cons_succ]
        refine wpAnyH_take (i := 8) (v := undef) rfl (by kernel_rfl) (by kernel_rfl) (by kernel_rfl) (fun _ _ _ h => h) (Or.inr ⟨by rfl, rfl⟩) (by assumption) ?_
        change wpAnyH _ _ _ _ _ _ _ (Act.put _ (some 62) _) _
        simp only [Act.put, List.setIfInBounds_toArray, List.set_cons_zero, List.set_cons_succ]
        refine wpAnyH_take (i := 9) (v := undef) rfl (by kernel_rfl) (by kernel_rfl) (by kernel_rfl) (fun _ _ _ h => h) (Or.inr ⟨by rfl, rfl⟩) (by assumption) ?_
        change wpAnyH _ _ _ _ _ _ _ (Act.put _ (some 63) _) _
        simp only [Act.put, List.setIfInBounds_toArray, List.set_cons_zero, List.set_cons_succ]
        refine wpAnyH_take (i := 10) (v := undef) rfl (by kernel_rfl) (by kernel_rfl) (by kernel_rfl) (fun _ _ _ h => h) (Or.inr ⟨by rfl, rfl⟩) (by assumption) ?_
        change wpAnyH _ _ _ _ _ _ _ (Act.put _ (some 64) _) _
        simp only [Act.put, List.setIfInBounds_toArray, List.set_cons_zero, List.set_cons_succ]
        refine wpAnyH_take (i := 11) (v := undef) rfl (by kernel_rfl) (by kernel_rfl) (by kernel_rfl) (fun _ _ _ h => h) (Or.inr ⟨by rfl, rfl⟩) (by assumption) ?_
        change wpAnyH _ _ _ _ _ _ _ (Act.put _ (some 65) _) _
        simp only [Act.put, List.setIfInBounds_toArray, List.set_cons_zero, List.set_cons_succ]
        refine wpAnyH_take (i := 12) (v := undef) rfl (by kernel_rfl) (by kernel_rfl) (by kernel_rfl) (fun _ _ _ h => h) (Or.inr ⟨by rfl, rfl⟩) (by assumption) ?_
        change wpAnyH _ _ _ _ _ _ _ (Act.put _ (some 66) _) _
        simp only [Act.put, List.setIfInBounds_toArray, List.set_cons_zero, List.set_cons_succ]
        refine wpAnyH_take (i := 13) (v := ?v13tq) rfl (by kernel_rfl) (by kernel_rfl) (by kernel_rfl) (fun _ _ _ h => h) (Or.inl ⟨by rfl, ?hy13tq⟩) (by assumption) ?rest13tq
        case hy13tq => (intro zz hSw; (try dsimp only at hSw); go_simp; (try with_reducible rfl))
        change wpAnyH _ _ _ _ _ _ _ (Act.put _ (some 67) _) _
        simp only [Act.put, List.setIfInBounds_toArray, List.set_cons_zero, List.set_cons_succ]
        refine wpAnyH_take (i := 14) (v := ?v14tq) rfl (by kernel_rfl) (by kernel_rfl) (by kernel_rfl) (fun _ _ _ h => h) (Or.inl ⟨by rfl, ?hy14tq⟩) (by assumption) ?rest14tq
        case hy14tq => (intro zz hSw; (try dsimp only at hSw); go_simp; (try with_reducible rfl))
        change wpAnyH _ _ _ _ _ _ _ (Act.put _ (some 53) _) _
        simp only [Act.put, List.setIfInBounds_toArray, List.set_cons_zero, List.set_cons_succ]
        refine wpAnyH_done (by kernel_rfl) ?_ _
        have BX := Lib.hid hHeld; clear hHeld
        generalize w8.drew = w9 at BX ⊢
        clear BX0
        have BW := Lib.hid (bel_tr HB.out BX.out (Nat.le_refl _))
        obtain ⟨c0, c1, c2, c3, c4⟩ : At5 w9 gb ob d := HCd.out.same (BW.out.block gb hgb)
        have VL := Lib.hid (Vw.lit w9 d)
        have BL := Lib.hid (bel1 w9 (.cells #[.string d.r, .string d.b, .int .i64 d.t, .int .i64 d.v, .bool d.g] 28))
        have O4 := Lib.hid ((HO.out.next BX.out).next BL.out)
        have hs4 : w.heap.size ≤ w9.heap.size := BW.out.size
        go_wp2_with (first
          | (at_builtin; refine append_cells rfl (.tmp 68) (.tmp 72) rfl (base := w.heap.size) (l := o) (m := [d]) rfl rfl rfl O4.out VL.out (by simp; omega) (by simp; omega) ?_; intro v5 w5 o5 g5))
        have B5 := Lib.hid ((bel_tr BW.out BL.out (Nat.le_refl _)).grown g5 (by simp; omega) (fun j hj => OwC.lt O4.out j hj))
        have O5 := Lib.hid o5; clear o5 g5 c0 c1 c2 c3 c4
        go_wp2_with fail
        go_roundw
        case rel => exact ⟨[], lb, o ++ [d], x, cx, tb, ctb, rfl, slice_eq (by have := HNb.out; omega), HA.out, HTb.out, O5.out, HEQ.out, B5.out, by have := HNb.out; simp only [List.length_append, List.length_nil, List.length_cons] at *; omega⟩
        case measure => have := HNb.out; simp [slN]; omega
    | cons c la =>
      cases lb with
      | nil =>
        have HEQ := Lib.hid (show (o ++ [c]) ++ mergeL la [] = mergeL a b by rw [← heq, mergeL_nil, mergeL_nil, List.append_assoc]; rfl); clear heq
        obtain ⟨ga, oa, rfl, hga, h5a⟩ := HA.out.2.2.2 0 c rfl
        rw [Nat.zero_mul, Nat.add_zero] at h5a
        have HCc := Lib.hid h5a
        have hga' : ga < wr.heap.size := Nat.lt_of_lt_of_le hga HB.out.size
        have HNa := Lib.hid (show (c :: la).length = la.length + 1 by simp)
        obtain ⟨ta, cta, hruna, hcuta⟩ := cut_tail (some ⟨ga, oa, none⟩) (c :: la).length cx (by simp)
        have HTa := Lib.hid (hcuta w c la HA.out (by simp)); clear hcuta
        generalize hNa : (c :: la).length = Na at *
        have HMa := Lib.hid hNa; clear hNa
        have za3 : 0 < Na := by have := HNa.out; omega
        have za0 : (0 : Int) < (Na : Int) := by omega
        have za1 : ((Na : Int) == 0) = false := by rw [beq_eq_false_iff_ne]; omega
        have za2 : decide ((0 : Int) < (Na : Int)) = true := decide_eq_true za0
        have za4 : decide (0 < Na) = true := decide_eq_true za3
        have hlenN : o.length + Na ≤ 8000 := by simpa using hlen
        clear h5a
        clear hlen
        go_wp2_with fail
        refine wp_region_held_drew (S := fun z => Below wr.heap.size wr z) (by kernel_rfl) (Below.refl _ _).drew (fun hHeld => ?_)
        refine wpAnyH_take (i := 0) (v := ?v0sp) rfl (by kernel_rfl) (by kernel_rfl) (by kernel_rfl) (fun _ _ _ h => h) (Or.inl ⟨by rfl, ?hy0sp⟩) (by assumption) ?rest0sp
        case hy0sp => (intro zz hSw; (try dsimp only at hSw); go_simp; (try with_reducible rfl))
        change wpAnyH _ _ _ _ _ _ _ (Act.put _ (some 26) _) _
        simp only [Act.put, List.setIfInBounds_toArray, List.set_cons_zero, List.set_cons_succ]
        refine wpAnyH_take (i := 1) (v := ?v1sp) rfl (by kernel_rfl) (by kernel_rfl) (by kernel_rfl) (fun _ _ _ h => h) (Or.inl ⟨by rfl, ?hy1sp⟩) (by assumption) ?rest1sp
        case hy1sp => (intro zz hSw; (try dsimp only at hSw); go_simp; (try with_reducible rfl))
        change wpAnyH _ _ _ _ _ _ _ (Act.put _ (some 27) _) _
        simp only [Act.put, List.setIfInBounds_toArray, List.set_cons_zero, List.set_cons_succ]
        refine wpAnyH_take (i := 2) (v := ?v2sp) rfl (by kernel_rfl) (by kernel_rfl) (by kernel_rfl) (fun _ _ _ h => h) (Or.inl ⟨by rfl, ?hy2sp⟩) (by assumption) ?rest2sp
        case hy2sp => (intro zz hSw; (try dsimp only at hSw); go_simp; (try with_reducible rfl))
        change wpAnyH _ _ _ _ _ _ _ (Act.put _ (some 28) _) _
        simp only [Act.put, List.setIfInBounds_toArray, List.set_cons_zero, List.set_cons_succ]
        refine wpAnyH_take (i := 3) (v := ?v3sp) rfl (by kernel_rfl) (by kernel_rfl) (by kernel_rfl) (fun _ _ _ h => h) (Or.inl ⟨by rfl, ?hy3sp⟩) (by assumption) ?rest3sp
        case hy3sp => (intro zz hSw; (try dsimp only at hSw); go_simp; (try with_reducible rfl))
        change wpAnyH _ _ _ _ _ _ _ (Act.put _ (some 29) _) _
        simp only [Act.put, List.setIfInBounds_toArray, List.set_cons_zero, List.set_cons_succ]
        refine wpAnyH_take (i := 4) (v := undef) rfl (by kernel_rfl) (by kernel_rfl) (by kernel_rfl) (fun _ _ _ h => h) (Or.inr ⟨by rfl, rfl⟩) (by assumption) ?_
        change wpAnyH _ _ _ _ _ _ _ (Act.put _ (some 30) _) _
        simp only [Act.put, List.setIfInBounds_toArray, List.set_cons_zero, List.set_cons_succ]
        refine wpAnyH_take (i := 5) (v := undef) rfl (by kernel_rfl) (by kernel_rfl) (by kernel_rfl) (fun _ _ _ h => h) (Or.inr ⟨by rfl, rfl⟩) (by assumption) ?_
        change wpAnyH _ _ _ _ _ _ _ (Act.put _ (some 31) _) _
        simp only [Act.put, List.setIfInBounds_toArray, List.set_cons_zero, List.set_cons_succ]
        refine wpAnyH_take (i := 6) (v := undef) rfl (by kernel_rfl) (by kernel_rfl) (by kernel_rfl) (fun _ _ _ h => h) (Or.inr ⟨by rfl, rfl⟩) (by assumption) ?_
        change wpAnyH _ _ _ _ _ _ _ (Act.put _ (some 32) _) _
        simp only [Act.put, List.setIfInBounds_toArray, List.set_cons_zero, List.set_cons_succ]
        refine wpAnyH_take (i := 7) (v := undef) rfl (by kernel_rfl) (by kernel_rfl) (by kernel_rfl) (fun _ _ _ h => h) (Or.inr ⟨by rfl, rfl⟩) (by assumption) ?_
        change wpAnyH _ _ _ _ _ _ _ (Act.put _ (some 33) _) _
        simp only [Act.put, List.setIfInBounds_toArray, List.set_cons_zero, List.set_cons_succ]
        refine wpAnyH_take (i := 8) (v := undef) rfl (by kernel_rfl) (by kernel_rfl) (by kernel_rfl) (fun _ _ _ h => h) (Or.inr ⟨by rfl, rfl⟩) (by assumption) ?_
        change wpAnyH _ _ _ _ _ _ _ (Act.put _ (some 34) _) _
        simp only [Act.put, List.setIfInBounds_toArray, List.set_cons_zero, List.set_cons_succ]
        refine wpAnyH_take (i := 9) (v := undef) rfl (by kernel_rfl) (by kernel_rfl) (by kernel_rfl) (fun _ _ _ h => h) (Or.inr ⟨by rfl, rfl⟩) (by assumption) ?_
        change wpAnyH _ _ _ _ _ _ _ (Act.put _ (some 35) _) _
        simp only [Act.put, List.setIfInBounds_toArray, List.set_cons_zero, List.set_cons_succ]
        refine wpAnyH_take (i := 10) (v := undef) rfl (by kernel_rfl) (by kernel_rfl) (by kernel_rfl) (fun _ _ _ h => h) (Or.inr ⟨by rfl, rfl⟩) (by assumption) ?_
        change wpAnyH _ _ _ _ _ _ _ (Act.put _ (some 36) _) _
        simp only [Act.put, List.setIfInBounds_toArray, List.set_cons_zero, List.set_cons_succ]
        refine wpAnyH_take (i := 11) (v := undef) rfl (by kernel_rfl) (by kernel_rfl) (by kernel_rfl) (fun _ _ _ h => h) (Or.inr ⟨by rfl, rfl⟩) (by assumption) ?_
        change wpAnyH _ _ _ _ _ _ _ (Act.put _ (some 37) _) _
        simp only [Act.put, List.setIfInBounds_toArray, List.set_cons_zero, List.set_cons_succ]
        refine wpAnyH_take (i := 12) (v := undef) rfl (by kernel_rfl) (by kernel_rfl) (by kernel_rfl) (fun _ _ _ h => h) (Or.inr ⟨by rfl, rfl⟩) (by assumption) ?_
        change wpAnyH _ _ _ _ _ _ _ (Act.put _ (some 38) _) _
        simp only [Act.put, List.setIfInBounds_toArray, List.set_cons_zero, List.set_cons_succ]
        refine wpAnyH_take (i := 13) (v := undef) rfl (by kernel_rfl) (by kernel_rfl) (by kernel_rfl) (fun _ _ _ h => h) (Or.inr ⟨by rfl, rfl⟩) (by assumption) ?_
        change wpAnyH _ _ _ _ _ _ _ (Act.put _ (some 39) _) _
        simp only [Act.put, List.setIfInBounds_toArray, List.set_cons_zero, List.set_cons_succ]
        refine wpAnyH_take (i := 14) (v := undef) rfl (by kernel_rfl) (by kernel_rfl) (by kernel_rfl) (fun _ _ _ h => h) (Or.inr ⟨by rfl, rfl⟩) (by assumption) ?_
        change wpAnyH _ _ _ _ _ _ _ (Act.put _ (some 40) _) _
        simp only [Act.put, List.setIfInBounds_toArray, List.set_cons_zero, List.set_cons_succ]
        refine wpAnyH_take (i := 15) (v := undef) rfl (by kernel_rfl) (by kernel_rfl) (by kernel_rfl) (fun _ _ _ h => h) (Or.inr ⟨by rfl, rfl⟩) (by assumption) ?_
        change wpAnyH _ _ _ _ _ _ _ (Act.put _ (some 41) _) _
        simp only [Act.put, List.setIfInBounds_toArray, List.set_cons_zero, List.set_cons_succ]
        refine wpAnyH_take (i := 16) (v := undef) rfl (by kernel_rfl) (by kernel_rfl) (by kernel_rfl) (fun _ _ _ h => h) (Or.inr ⟨by rfl, rfl⟩) (by assumption) ?_
        change wpAnyH _ _ _ _ _ _ _ (Act.put _ (some 42) _) _
        simp only [Act.put, List.setIfInBounds_toArray, List.set_cons_zero, List.set_cons_succ]
        refine wpAnyH_take (i := 17) (v := undef) rfl (by kernel_rfl) (by kernel_rfl) (by kernel_rfl) (fun _ _ _ h => h) (Or.inr ⟨by rfl, rfl⟩) (by assumption) ?_
        change wpAnyH _ _ _ _ _ _ _ (Act.put _ (some 43) _) _
        simp only [Act.put, List.setIfInBounds_toArray, List.set_cons_zero, List.set_cons_succ]
        refine wpAnyH_take (i := 18) (v := ?v18sp) rfl (by kernel_rfl) (by kernel_rfl) (by kernel_rfl) (fun _ _ _ h => h) (Or.inl ⟨by rfl, ?hy18sp⟩) (by assumption) ?rest18sp
        case hy18sp => (intro zz hSw; (try dsimp only at hSw); go_simp; (try with_reducible rfl))
        change wpAnyH _ _ _ _ _ _ _ (Act.put _ (some 44) _) _
        simp only [Act.put, List.setIfInBounds_toArray, List.set_cons_zero, List.set_cons_succ]
        refine wpAnyH_take (i := 19) (v := ?v19sp) rfl (by kernel_rfl) (by kernel_rfl) (by kernel_rfl) (fun _ _ _ h => h) (Or.inl ⟨by rfl, ?hy19sp⟩) (by assumption) ?rest19sp
        case hy19sp => (intro zz hSw; (try dsimp only at hSw); go_simp; (try with_reducible rfl))
        change wpAnyH _ _ _ _ _ _ _ (Act.put _ (some 25) _) _
        simp only [Act.put, List.setIfInBounds_toArray, List.set_cons_zero, List.set_cons_succ]
        refine wpAnyH_done (by kernel_rfl) ?_ _
        have BX := Lib.hid hHeld; clear hHeld
        generalize wr.drew = w9 at BX ⊢
        have BW := Lib.hid (bel_tr HB.out BX.out (Nat.le_refl _))
        obtain ⟨c0, c1, c2, c3, c4⟩ : At5 w9 ga oa c := HCc.out.same (BW.out.block ga hga)
        have VL := Lib.hid (Vw.lit w9 c)
        have BL := Lib.hid (bel1 w9 (.cells #[.string c.r, .string c.b, .int .i64 c.t, .int .i64 c.v, .bool c.g] 28))
        have O4 := Lib.hid ((HO.out.next BX.out).next BL.out)
        have hs4 : w.heap.size ≤ w9.heap.size := BW.out.size
        go_wp2_with (first
          | (at_builtin; refine append_cells rfl (.tmp 45) (.tmp 49) rfl (base := w.heap.size) (l := o) (m := [c]) rfl rfl rfl O4.out VL.out (by simp; omega) (by simp; omega) ?_; intro v5 w5 o5 g5))
        have B5 := Lib.hid ((bel_tr BW.out BL.out (Nat.le_refl _)).grown g5 (by simp; omega) (fun j hj => OwC.lt O4.out j hj))
        have O5 := Lib.hid o5; clear o5 g5 c0 c1 c2 c3 c4
        go_wp2_with fail
        go_roundw
        case rel => exact ⟨la, [], o ++ [c], ta, cta, y, cy, slice_eq (by have := HNa.out; omega), rfl, HTa.out, HV.out, O5.out, HEQ.out, B5.out, by have := HNa.out; simp only [List.length_append, List.length_nil, List.length_cons] at *; omega⟩
        case measure => have := HNa.out; simp [slN]; omega
      | cons d lb =>
        cases hcd : c.ls d
        · cases hdc : d.ls c
          · -- one key
            have HEQ := Lib.hid (show (o ++ [c]) ++ mergeL la lb = mergeL a b by rw [← heq, mergeL_c hcd hdc, List.append_assoc]; rfl); clear heq
            obtain ⟨ga, oa, rfl, hga, h5a⟩ := HA.out.2.2.2 0 c rfl
            rw [Nat.zero_mul, Nat.add_zero] at h5a
            have HCc := Lib.hid h5a
            have hga' : ga < wr.heap.size := Nat.lt_of_lt_of_le hga HB.out.size
            have HNa := Lib.hid (show (c :: la).length = la.length + 1 by simp)
            obtain ⟨ta, cta, hruna, hcuta⟩ := cut_tail (some ⟨ga, oa, none⟩) (c :: la).length cx (by simp)
            have HTa := Lib.hid (hcuta w c la HA.out (by simp)); clear hcuta
            generalize hNa : (c :: la).length = Na at *
            have HMa := Lib.hid hNa; clear hNa
            have za3 : 0 < Na := by have := HNa.out; omega
            have za0 : (0 : Int) < (Na : Int) := by omega
            have za1 : ((Na : Int) == 0) = false := by rw [beq_eq_false_iff_ne]; omega
            have za2 : decide ((0 : Int) < (Na : Int)) = true := decide_eq_true za0
            have za4 : decide (0 < Na) = true := decide_eq_true za3
            obtain ⟨gb, ob, rfl, hgb, h5b⟩ := HV.out.2.2.2 0 d rfl
            rw [Nat.zero_mul, Nat.add_zero] at h5b
            have HCd := Lib.hid h5b
            have hgb' : gb < wr.heap.size := Nat.lt_of_lt_of_le hgb HB.out.size
            have HNb := Lib.hid (show (d :: lb).length = lb.length + 1 by simp)
            obtain ⟨tb, ctb, hrunb, hcutb⟩ := cut_tail (some ⟨gb, ob, none⟩) (d :: lb).length cy (by simp)
            have HTb := Lib.hid (hcutb w d lb HV.out (by simp)); clear hcutb
            generalize hNb : (d :: lb).length = Nb at *
            have HMb := Lib.hid hNb; clear hNb
            have zb3 : 0 < Nb := by have := HNb.out; omega
            have zb0 : (0 : Int) < (Nb : Int) := by omega
            have zb1 : ((Nb : Int) == 0) = false := by rw [beq_eq_false_iff_ne]; omega
            have zb2 : decide ((0 : Int) < (Nb : Int)) = true := decide_eq_true zb0
            have zb4 : decide (0 < Nb) = true := decide_eq_true zb3
            have hlenN : o.length + Na + Nb ≤ 8000 := hlen
            have HL1 := Lib.hid (fun w => l2Less_is hcd w)
            have HL2 := Lib.hid (fun w => l2Less_is hdc w); clear hdc
            clear hcd
            obtain ⟨c0, c1, c2, -, -⟩ : At5 wr ga oa c := h5a.same (HB.out.block ga hga)
            obtain ⟨d0, d1, d2, -, -⟩ : At5 wr gb ob d := h5b.same (HB.out.block gb hgb)
            have SOF := Lib.hid (show ∀ z, Below wr.heap.size wr z → (z.cell? ⟨ga, oa, none⟩ = some (.string c.r) ∧ z.cell? ⟨ga, oa + 1, none⟩ = some (.string c.b) ∧ z.cell? ⟨ga, oa + 2, none⟩ = some (.int .i64 c.t) ∧ z.cell? ⟨gb, ob, none⟩ = some (.string d.r) ∧ z.cell? ⟨gb, ob + 1, none⟩ = some (.string d.b) ∧ z.cell? ⟨gb, ob + 2, none⟩ = some (.int .i64 d.t) ∧ Below wr.heap.size wr z) from fun z hz => ⟨coc hz hga' c0, coc hz hga' c1, coc hz hga' c2, coc hz hgb' d0, coc hz hgb' d1, coc hz hgb' d2,  hz⟩)
            clear c0 c1 c2 d0 d1 d2 h5a h5b
            clear hlen
            go_wp2_with fail
            refine wp_region_held_drew (S := fun z => z.cell? ⟨ga, oa, none⟩ = some (.string c.r) ∧ z.cell? ⟨ga, oa + 1, none⟩ = some (.string c.b) ∧ z.cell? ⟨ga, oa + 2, none⟩ = some (.int .i64 c.t) ∧ z.cell? ⟨gb, ob, none⟩ = some (.string d.r) ∧ z.cell? ⟨gb, ob + 1, none⟩ = some (.string d.b) ∧ z.cell? ⟨gb, ob + 2, none⟩ = some (.int .i64 d.t) ∧ Below wr.heap.size wr z) (by kernel_rfl) (SOF.out _ (Below.refl _ _).drew) (fun hHeld => ?_)
            refine wpAnyH_take (i := 0) (v := ?v0cp) rfl (by kernel_rfl) (by kernel_rfl) (by kernel_rfl) (fun _ _ _ h => h) (Or.inl ⟨by rfl, ?hy0cp⟩) (by assumption) ?rest0cp
            case hy0cp => (intro zz hSw; (try dsimp only at hSw); go_simp; (try with_reducible rfl))
            change wpAnyH _ _ _ _ _ _ _ (Act.put _ (some 26) _) _
            simp only [Act.put, List.setIfInBounds_toArray, List.set_cons_zero, List.set_cons_succ]
            refine wpAnyH_take (i := 1) (v := ?v1cp) rfl (by kernel_rfl) (by kernel_rfl) (by kernel_rfl) (fun _ _ _ h => h) (Or.inl ⟨by rfl, ?hy1cp⟩) (by assumption) ?rest1cp
            case hy1cp => (intro zz hSw; (try dsimp only at hSw); go_simp; (try with_reducible rfl))
            change wpAnyH _ _ _ _ _ _ _ (Act.put _ (some 27) _) _
            simp only [Act.put, List.setIfInBounds_toArray, List.set_cons_zero, List.set_cons_succ]
            refine wpAnyH_take (i := 2) (v := ?v2cp) rfl (by kernel_rfl) (by kernel_rfl) (by kernel_rfl) (fun _ _ _ h => h) (Or.inl ⟨by rfl, ?hy2cp⟩) (by assumption) ?rest2cp
            case hy2cp => (intro zz hSw; (try dsimp only at hSw); go_simp; (try with_reducible rfl))
            change wpAnyH _ _ _ _ _ _ _ (Act.put _ (some 28) _) _
            simp only [Act.put, List.setIfInBounds_toArray, List.set_cons_zero, List.set_cons_succ]
            refine wpAnyH_take (i := 3) (v := ?v3cp) rfl (by kernel_rfl) (by kernel_rfl) (by kernel_rfl) (fun _ _ _ h => h) (Or.inl ⟨by rfl, ?hy3cp⟩) (by assumption) ?rest3cp
            case hy3cp => (intro zz hSw; (try dsimp only at hSw); go_simp; (try with_reducible rfl))
            change wpAnyH _ _ _ _ _ _ _ (Act.put _ (some 29) _) _
            simp only [Act.put, List.setIfInBounds_toArray, List.set_cons_zero, List.set_cons_succ]
            refine wpAnyH_take (i := 4) (v := ?v4cp) rfl (by kernel_rfl) (by kernel_rfl) (by kernel_rfl) (fun _ _ _ h => h) (Or.inl ⟨by rfl, ?hy4cp⟩) (by assumption) ?rest4cp
            case hy4cp => (intro zz hSw; (try dsimp only at hSw); go_simp; (try with_reducible rfl))
            change wpAnyH _ _ _ _ _ _ _ (Act.put _ (some 30) _) _
            simp only [Act.put, List.setIfInBounds_toArray, List.set_cons_zero, List.set_cons_succ]
            refine wpAnyH_take (i := 5) (v := ?v5cp) rfl (by kernel_rfl) (by kernel_rfl) (by kernel_rfl) (fun _ _ _ h => h) (Or.inl ⟨by rfl, ?hy5cp⟩) (by assumption) ?rest5cp
            case hy5cp => (intro zz hSw; (try dsimp only at hSw); go_simp; (try with_reducible rfl))
            change wpAnyH _ _ _ _ _ _ _ (Act.put _ (some 31) _) _
            simp only [Act.put, List.setIfInBounds_toArray, List.set_cons_zero, List.set_cons_succ]
            refine wpAnyH_take (i := 6) (v := ?v6cp) rfl (by kernel_rfl) (by kernel_rfl) (by kernel_rfl) (fun _ _ _ h => h) (Or.inl ⟨by rfl, ?hy6cp⟩) (by assumption) ?rest6cp
            case hy6cp => (intro zz hSw; (try dsimp only at hSw); go_simp; (try with_reducible rfl))
            change wpAnyH _ _ _ _ _ _ _ (Act.put _ (some 32) _) _
            simp only [Act.put, List.setIfInBounds_toArray, List.set_cons_zero, List.set_cons_succ]
            refine wpAnyH_take (i := 7) (v := ?v7cp) rfl (by kernel_rfl) (by kernel_rfl) (by kernel_rfl) (fun _ _ _ h => h) (Or.inl ⟨by rfl, ?hy7cp⟩) (by assumption) ?rest7cp
            case hy7cp => (intro zz hSw; (try dsimp only at hSw); go_simp; (try with_reducible rfl))
            change wpAnyH _ _ _ _ _ _ _ (Act.put _ (some 33) _) _
            simp only [Act.put, List.setIfInBounds_toArray, List.set_cons_zero, List.set_cons_succ]
            refine wpAnyH_take (i := 8) (v := ?v8cp) rfl (by kernel_rfl) (by kernel_rfl) (by kernel_rfl) (fun _ _ _ h => h) (Or.inl ⟨by rfl, ?hy8cp⟩) (by assumption) ?rest8cp
            case hy8cp => (intro zz hSw; (try dsimp only at hSw); go_simp; (try with_reducible rfl))
            change wpAnyH _ _ _ _ _ _ _ (Act.put _ (some 34) _) _
            simp only [Act.put, List.setIfInBounds_toArray, List.set_cons_zero, List.set_cons_succ]
            refine wpAnyH_take (i := 9) (v := ?v9cp) rfl (by kernel_rfl) (by kernel_rfl) (by kernel_rfl) (fun _ _ _ h => h) (Or.inl ⟨by rfl, ?hy9cp⟩) (by assumption) ?rest9cp
            case hy9cp => (intro zz hSw; (try dsimp only at hSw); go_simp; (try with_reducible rfl))
            change wpAnyH _ _ _ _ _ _ _ (Act.put _ (some 35) _) _
            simp only [Act.put, List.setIfInBounds_toArray, List.set_cons_zero, List.set_cons_succ]
            refine wpAnyH_take (i := 10) (v := ?v10cp) rfl (by kernel_rfl) (by kernel_rfl) (by kernel_rfl) (fun _ _ _ h => h) (Or.inl ⟨by rfl, ?hy10cp⟩) (by assumption) ?rest10cp
            case hy10cp => (intro zz hSw; (try dsimp only at hSw); go_simp; (try with_reducible rfl))
            change wpAnyH _ _ _ _ _ _ _ (Act.put _ (some 36) _) _
            simp only [Act.put, List.setIfInBounds_toArray, List.set_cons_zero, List.set_cons_succ]
            refine wpAnyH_take (i := 11) (v := ?v11cp) rfl (by kernel_rfl) (by kernel_rfl) (by kernel_rfl) (fun _ _ _ h => h) (Or.inl ⟨by rfl, ?hy11cp⟩) (by assumption) ?rest11cp
            case hy11cp => (intro zz hSw; (try dsimp only at hSw); go_simp; (try with_reducible rfl))
            change wpAnyH _ _ _ _ _ _ _ (Act.put _ (some 37) _) _
            simp only [Act.put, List.setIfInBounds_toArray, List.set_cons_zero, List.set_cons_succ]
            refine wpAnyH_take (i := 12) (v := ?v12cp) rfl (by kernel_rfl) (by kernel_rfl) (by kernel_rfl) (fun _ _ _ h => h) (Or.inl ⟨by rfl, ?hy12cp⟩) (by assumption) ?rest12cp
            case hy12cp => (intro zz hSw; (try dsimp only at hSw); go_simp; (try with_reducible rfl))
            change wpAnyH _ _ _ _ _ _ _ (Act.put _ (some 38) _) _
            simp only [Act.put, List.setIfInBounds_toArray, List.set_cons_zero, List.set_cons_succ]
            refine wpAnyH_take (i := 13) (v := ?v13cp) rfl (by kernel_rfl) (by kernel_rfl) (by kernel_rfl) (fun _ _ _ h => h) (Or.inl ⟨by rfl, ?hy13cp⟩) (by assumption) ?rest13cp
            case hy13cp => (intro zz hSw; (try dsimp only at hSw); go_simp; (try with_reducible rfl))
            change wpAnyH _ _ _ _ _ _ _ (Act.put _ (some 39) _) _
            simp only [Act.put, List.setIfInBounds_toArray, List.set_cons_zero, List.set_cons_succ]
            refine wpAnyH_take (i := 14) (v := ?v14cp) rfl (by kernel_rfl) (by kernel_rfl) (by kernel_rfl) (fun _ _ _ h => h) (Or.inl ⟨by rfl, ?hy14cp⟩) (by assumption) ?rest14cp
            case hy14cp => (intro zz hSw; (try dsimp only at hSw); go_simp; (try with_reducible rfl))
            change wpAnyH _ _ _ _ _ _ _ (Act.put _ (some 40) _) _
            simp only [Act.put, List.setIfInBounds_toArray, List.set_cons_zero, List.set_cons_succ]
            refine wpAnyH_take (i := 15) (v := ?v15cp) rfl (by kernel_rfl) (by kernel_rfl) (by kernel_rfl) (fun _ _ _ h => h) (Or.inl ⟨by rfl, ?hy15cp⟩) (by assumption) ?rest15cp
            case hy15cp => (intro zz hSw; (try dsimp only at hSw); go_simp; (try with_reducible rfl))
            change wpAnyH _ _ _ _ _ _ _ (Act.put _ (some 41) _) _
            simp only [Act.put, List.setIfInBounds_toArray, List.set_cons_zero, List.set_cons_succ]
            refine wpAnyH_ready (rs := [16]) (by kernel_rfl) (by simp) (AllReadyH.cons rfl (fun K hK => ?_) AllReadyH.nil)
            go_simp
            refine (HL1.out _).mono ?_; rintro e w8 ⟨rfl, bel⟩
            refine hK.out _ _ (SOF.out _ (bel_tr hHeld.2.2.2.2.2.2 bel (Nat.le_refl _))) (fun hHeld => ?_)
            clear hK K bel
            refine wpAnyH_take (i := 17) (v := ?v17cp) rfl (by kernel_rfl) (by kernel_rfl) (by kernel_rfl) (fun _ _ _ h => h) (Or.inl ⟨by rfl, ?hy17cp⟩) (by assumption) ?rest17cp
            case hy17cp => (intro zz hSw; (try dsimp only at hSw); go_simp; (try with_reducible rfl))
            change wpAnyH _ _ _ _ _ _ _ (Act.put _ (some 43) _) _
            simp only [Act.put, List.setIfInBounds_toArray, List.set_cons_zero, List.set_cons_succ]
            refine wpAnyH_take (i := 18) (v := ?v18cp) rfl (by kernel_rfl) (by kernel_rfl) (by kernel_rfl) (fun _ _ _ h => h) (Or.inl ⟨by rfl, ?hy18cp⟩) (by assumption) ?rest18cp
            case hy18cp => (intro zz hSw; (try dsimp only at hSw); go_simp; (try with_reducible rfl))
            change wpAnyH _ _ _ _ _ _ _ (Act.put _ (some 44) _) _
            simp only [Act.put, List.setIfInBounds_toArray, List.set_cons_zero, List.set_cons_succ]
            refine wpAnyH_take (i := 19) (v := ?v19cp) rfl (by kernel_rfl) (by kernel_rfl) (by kernel_rfl) (fun _ _ _ h => h) (Or.inl ⟨by rfl, ?hy19cp⟩) (by assumption) ?rest19cp
            case hy19cp => (intro zz hSw; (try dsimp only at hSw); go_simp; (try with_reducible rfl))
            change wpAnyH _ _ _ _ _ _ _ (Act.put _ (some 25) _) _
            simp only [Act.put, List.setIfInBounds_toArray, List.set_cons_zero, List.set_cons_succ]
            refine wpAnyH_done (by kernel_rfl) ?_ _
            have BX0 := Lib.hid hHeld.2.2.2.2.2.2; clear hHeld
            go_wp2_with fail
            refine wp_region_held_drew (S := fun z => z.cell? ⟨ga, oa, none⟩ = some (.string c.r) ∧ z.cell? ⟨ga, oa + 1, none⟩ = some (.string c.b) ∧ z.cell? ⟨ga, oa + 2, none⟩ = some (.int .i64 c.t) ∧ z.cell? ⟨gb, ob, none⟩ = some (.string d.r) ∧ z.cell? ⟨gb, ob + 1, none⟩ = some (.string d.b) ∧ z.cell? ⟨gb, ob + 2, none⟩ = some (.int .i64 d.t) ∧ Below wr.heap.size wr z) (by kernel_rfl) (SOF.out _ BX0.out.drew) (fun hHeld => ?_)
            refine wpAnyH_take (i := 0) (v := ?v0cq) rfl (by kernel_rfl) (by kernel_rfl) (by kernel_rfl) (fun _ _ _ h => h) (Or.inl ⟨by rfl, ?hy0cq⟩) (by assumption) ?rest0cq
            case hy0cq => (intro zz hSw; (try dsimp only at hSw); go_simp; (try with_reducible rfl))
            change wpAnyH _ _ _ _ _ _ _ (Act.put _ (some 54) _) _
            simp only [Act.put, List.setIfInBounds_toArray, List.set_cons_zero, List.set_cons_succ]
            refine wpAnyH_take (i := 1) (v := ?v1cq) rfl (by kernel_rfl) (by kernel_rfl) (by kernel_rfl) (fun _ _ _ h => h) (Or.inl ⟨by rfl, ?hy1cq⟩) (by assumption) ?rest1cq
            case hy1cq => (intro zz hSw; (try dsimp only at hSw); go_simp; (try with_reducible rfl))
            change wpAnyH _ _ _ _ _ _ _ (Act.put _ (some 55) _) _
            simp only [Act.put, List.setIfInBounds_toArray, List.set_cons_zero, List.set_cons_succ]
            refine wpAnyH_take (i := 2) (v := ?v2cq) rfl (by kernel_rfl) (by kernel_rfl) (by kernel_rfl) (fun _ _ _ h => h) (Or.inl ⟨by rfl, ?hy2cq⟩) (by assumption) ?rest2cq
            case hy2cq => (intro zz hSw; (try dsimp only at hSw); go_simp; (try with_reducible rfl))
            change wpAnyH _ _ _ _ _ _ _ (Act.put _ (some 56) _) _
            simp only [Act.put, List.setIfInBounds_toArray, List.set_cons_zero, List.set_cons_succ]
            refine wpAnyH_take (i := 3) (v := ?v3cq) rfl (by kernel_rfl) (by kernel_rfl) (by kernel_rfl) (fun _ _ _ h => h) (Or.inl ⟨by rfl, ?hy3cq⟩) (by assumption) ?rest3cq
            case hy3cq => (intro zz hSw; (try dsimp only at hSw); go_simp; (try with_reducible rfl))
            change wpAnyH _ _ _ _ _ _ _ (Act.put _ (some 57) _) _
            simp only [Act.put, List.setIfInBounds_toArray, List.set_cons_zero, List.set_cons_succ]
            refine wpAnyH_take (i := 4) (v := ?v4cq) rfl (by kernel_rfl) (by kernel_rfl) (by kernel_rfl) (fun _ _ _ h => h) (Or.inl ⟨by rfl, ?hy4cq⟩) (by assumption) ?rest4cq
            case hy4cq => (intro zz hSw; (try dsimp only at hSw); go_simp; (try with_reducible rfl))
            change wpAnyH _ _ _ _ _ _ _ (Act.put _ (some 58) _) _
            simp only [Act.put, List.setIfInBounds_toArray, List.set_cons_zero, List.set_cons_succ]
            refine wpAnyH_take (i := 5) (v := ?v5cq) rfl (by kernel_rfl) (by kernel_rfl) (by kernel_rfl) (fun _ _ _ h => h) (Or.inl ⟨by rfl, ?hy5cq⟩) (by assumption) ?rest5cq
            case hy5cq => (intro zz hSw; (try dsimp only at hSw); go_simp; (try with_reducible rfl))
            change wpAnyH _ _ _ _ _ _ _ (Act.put _ (some 59) _) _
            simp only [Act.put, List.setIfInBounds_toArray, List.set_cons_zero, List.set_cons_succ]
            refine wpAnyH_take (i := 6) (v := ?v6cq) rfl (by kernel_rfl) (by kernel_rfl) (by kernel_rfl) (fun _ _ _ h => h) (Or.inl ⟨by rfl, ?hy6cq⟩) (by assumption) ?rest6cq
            case hy6cq => (intro zz hSw; (try dsimp only at hSw); go_simp; (try with_reducible rfl))
            change wpAnyH _ _ _ _ _ _ _ (Act.put _ (some 60) _) _
            simp only [Act.put, List.setIfInBounds_toArray, List.set_cons_zero, List.set_cons_succ]
            refine wpAnyH_take (i := 7) (v := ?v7cq) rfl (by kernel_rfl) (by kernel_rfl) (by kernel_rfl) (fun _ _ _ h => h) (Or.inl ⟨by rfl, ?hy7cq⟩) (by assumption) ?rest7cq
            case hy7cq => (intro zz hSw; (try dsimp only at hSw); go_simp; (try with_reducible rfl))
            change wpAnyH _ _ _ _ _ _ _ (Act.put _ (some 61) _) _
            simp only [Act.put, List.setIfInBounds_toArray, List.set_cons_zero, List.set_cons_succ]
            refine wpAnyH_take (i := 8) (v := ?v8cq) rfl (by kernel_rfl) (by kernel_rfl) (by kernel_rfl) (fun _ _ _ h => h) (Or.inl ⟨by rfl, ?hy8cq⟩) (by assumption) ?rest8cq
            case hy8cq => (intro zz hSw; (try dsimp only at hSw); go_simp; (try with_reducible rfl))
            change wpAnyH _ _ _ _ _ _ _ (Act.put _ (some 62) _) _
            simp only [Act.put, List.setIfInBounds_toArray, List.set_cons_zero, List.set_cons_succ]
            refine wpAnyH_take (i := 9) (v := ?v9cq) rfl (by kernel_rfl) (by kernel_rfl) (by kernel_rfl) (fun _ _ _ h => h) (Or.inl ⟨by rfl, ?hy9cq⟩) (by assumption) ?rest9cq
            case hy9cq => (intro zz hSw; (try dsimp only at hSw); go_simp; (try with_reducible rfl))
            change wpAnyH _ _ _ _ _ _ _ (Act.put _ (some 63) _) _
            simp only [Act.put, List.setIfInBounds_toArray, List.set_cons_zero, List.set_cons_succ]
            refine wpAnyH_take (i := 10) (v := ?v10cq) rfl (by kernel_rfl) (by kernel_rfl) (by kernel_rfl) (fun _ _ _ h => h) (Or.inl ⟨by rfl, ?hy10cq⟩) (by assumption) ?rest10cq
            case hy10cq => (intro zz hSw; (try dsimp only at hSw); go_simp; (try with_reducible rfl))
            change wpAnyH _ _ _ _ _ _ _ (Act.put _ (some 64) _) _
            simp only [Act.put, List.setIfInBounds_toArray, List.set_cons_zero, List.set_cons_succ]
            refine wpAnyH_take (i := 11) (v := ?v11cq) rfl (by kernel_rfl) (by kernel_rfl) (by kernel_rfl) (fun _ _ _ h => h) (Or.inl ⟨by rfl, ?hy11cq⟩) (by assumption) ?rest11cq
            case hy11cq => (intro zz hSw; (try dsimp only at hSw); go_simp; (try with_reducible rfl))
            change wpAnyH _ _ _ _ _ _ _ (Act.put _ (some 65) _) _
            simp only [Act.put, List.setIfInBounds_toArray, List.set_cons_zero, List.set_cons_succ]
            refine wpAnyH_ready (rs := [12]) (by kernel_rfl) (by simp) (AllReadyH.cons rfl (fun K hK => ?_) AllReadyH.nil)
            go_simp
            refine (HL2.out _).mono ?_; rintro e w9 ⟨rfl, bel⟩
            refine hK.out _ _ (SOF.out _ (bel_tr hHeld.2.2.2.2.2.2 bel (Nat.le_refl _))) (fun hHeld => ?_)
            clear hK K bel
            refine wpAnyH_take (i := 13) (v := ?v13cq) rfl (by kernel_rfl) (by kernel_rfl) (by kernel_rfl) (fun _ _ _ h => h) (Or.inl ⟨by rfl, ?hy13cq⟩) (by assumption) ?rest13cq
            case hy13cq => (intro zz hSw; (try dsimp only at hSw); go_simp; (try with_reducible rfl))
            change wpAnyH _ _ _ _ _ _ _ (Act.put _ (some 67) _) _
            simp only [Act.put, List.setIfInBounds_toArray, List.set_cons_zero, List.set_cons_succ]
            refine wpAnyH_take (i := 14) (v := ?v14cq) rfl (by kernel_rfl) (by kernel_rfl) (by kernel_rfl) (fun _ _ _ h => h) (Or.inl ⟨by rfl, ?hy14cq⟩) (by assumption) ?rest14cq
            case hy14cq => (intro zz hSw; (try dsimp only at hSw); go_simp; (try with_reducible rfl))
            change wpAnyH _ _ _ _ _ _ _ (Act.put _ (some 53) _) _
            simp only [Act.put, List.setIfInBounds_toArray, List.set_cons_zero, List.set_cons_succ]
            refine wpAnyH_done (by kernel_rfl) ?_ _
            have BX := Lib.hid hHeld.2.2.2.2.2.2; clear hHeld
            clear BX0
            clear SOF
            have BW := Lib.hid (bel_tr HB.out BX.out (Nat.le_refl _))
            obtain ⟨c0, c1, c2, c3, c4⟩ : At5 w9 ga oa c := HCc.out.same (BW.out.block ga hga)
            have VL := Lib.hid (Vw.lit w9 c)
            have BL := Lib.hid (bel1 w9 (.cells #[.string c.r, .string c.b, .int .i64 c.t, .int .i64 c.v, .bool c.g] 28))
            have O4 := Lib.hid ((HO.out.next BX.out).next BL.out)
            have hs4 : w.heap.size ≤ w9.heap.size := BW.out.size
            go_wp2_with (first
              | (at_builtin; refine append_cells rfl (.tmp 15) (.tmp 19) rfl (base := w.heap.size) (l := o) (m := [c]) rfl rfl rfl O4.out VL.out (by simp; omega) (by simp; omega) ?_; intro v5 w5 o5 g5))
            have B5 := Lib.hid ((bel_tr BW.out BL.out (Nat.le_refl _)).grown g5 (by simp; omega) (fun j hj => OwC.lt O4.out j hj))
            have O5 := Lib.hid o5; clear o5 g5 c0 c1 c2 c3 c4
            go_wp2_with fail
            go_roundw
            case rel => exact ⟨la, lb, o ++ [c], ta, cta, tb, ctb, slice_eq (by have := HNa.out; omega), slice_eq (by have := HNb.out; omega), HTa.out, HTb.out, O5.out, HEQ.out, B5.out, by have := HNa.out; have := HNb.out; simp only [List.length_append, List.length_nil, List.length_cons] at *; omega⟩
            case measure => have := HNa.out; have := HNb.out; simp [slN]; omega
          · -- b first
            have HEQ := Lib.hid (show (o ++ [d]) ++ mergeL (c :: la) lb = mergeL a b by rw [← heq, mergeL_b hcd hdc, List.append_assoc]; rfl); clear heq
            obtain ⟨ga, oa, rfl, hga, h5a⟩ := HA.out.2.2.2 0 c rfl
            rw [Nat.zero_mul, Nat.add_zero] at h5a
            have HCc := Lib.hid h5a
            have hga' : ga < wr.heap.size := Nat.lt_of_lt_of_le hga HB.out.size
            have HNa := Lib.hid (show (c :: la).length = la.length + 1 by simp)
            generalize hNa : (c :: la).length = Na at *
            have HMa := Lib.hid hNa; clear hNa
            have za3 : 0 < Na := by have := HNa.out; omega
            have za0 : (0 : Int) < (Na : Int) := by omega
            have za1 : ((Na : Int) == 0) = false := by rw [beq_eq_false_iff_ne]; omega
            have za2 : decide ((0 : Int) < (Na : Int)) = true := decide_eq_true za0
            have za4 : decide (0 < Na) = true := decide_eq_true za3
            obtain ⟨gb, ob, rfl, hgb, h5b⟩ := HV.out.2.2.2 0 d rfl
            rw [Nat.zero_mul, Nat.add_zero] at h5b
            have HCd := Lib.hid h5b
            have hgb' : gb < wr.heap.size := Nat.lt_of_lt_of_le hgb HB.out.size
            have HNb := Lib.hid (show (d :: lb).length = lb.length + 1 by simp)
            obtain ⟨tb, ctb, hrunb, hcutb⟩ := cut_tail (some ⟨gb, ob, none⟩) (d :: lb).length cy (by simp)
            have HTb := Lib.hid (hcutb w d lb HV.out (by simp)); clear hcutb
            generalize hNb : (d :: lb).length = Nb at *
            have HMb := Lib.hid hNb; clear hNb
            have zb3 : 0 < Nb := by have := HNb.out; omega
            have zb0 : (0 : Int) < (Nb : Int) := by omega
            have zb1 : ((Nb : Int) == 0) = false := by rw [beq_eq_false_iff_ne]; omega
            have zb2 : decide ((0 : Int) < (Nb : Int)) = true := decide_eq_true zb0
            have zb4 : decide (0 < Nb) = true := decide_eq_true zb3
            have hlenN : o.length + Na + Nb ≤ 8000 := hlen
            have HL1 := Lib.hid (fun w => l2Less_is hcd w)
            have HL2 := Lib.hid (fun w => l2Less_is hdc w); clear hdc
            clear hcd
            obtain ⟨c0, c1, c2, -, -⟩ : At5 wr ga oa c := h5a.same (HB.out.block ga hga)
            obtain ⟨d0, d1, d2, -, -⟩ : At5 wr gb ob d := h5b.same (HB.out.block gb hgb)
            have SOF := Lib.hid (show ∀ z, Below wr.heap.size wr z → (z.cell? ⟨ga, oa, none⟩ = some (.string c.r) ∧ z.cell? ⟨ga, oa + 1, none⟩ = some (.string c.b) ∧ z.cell? ⟨ga, oa + 2, none⟩ = some (.int .i64 c.t) ∧ z.cell? ⟨gb, ob, none⟩ = some (.string d.r) ∧ z.cell? ⟨gb, ob + 1, none⟩ = some (.string d.b) ∧ z.cell? ⟨gb, ob + 2, none⟩ = some (.int .i64 d.t) ∧ Below wr.heap.size wr z) from fun z hz => ⟨coc hz hga' c0, coc hz hga' c1, coc hz hga' c2, coc hz hgb' d0, coc hz hgb' d1, coc hz hgb' d2,  hz⟩)
            clear c0 c1 c2 d0 d1 d2 h5a h5b
            clear hlen
            go_wp2_with fail
            refine wp_region_held_drew (S := fun z => z.cell? ⟨ga, oa, none⟩ = some (.string c.r) ∧ z.cell? ⟨ga, oa + 1, none⟩ = some (.string c.b) ∧ z.cell? ⟨ga, oa + 2, none⟩ = some (.int .i64 c.t) ∧ z.cell? ⟨gb, ob, none⟩ = some (.string d.r) ∧ z.cell? ⟨gb, ob + 1, none⟩ = some (.string d.b) ∧ z.cell? ⟨gb, ob + 2, none⟩ = some (.int .i64 d.t) ∧ Below wr.heap.size wr z) (by kernel_rfl) (SOF.out _ (Below.refl _ _).drew) (fun hHeld => ?_)
            refine wpAnyH_take (i := 0) (v := ?v0bp) rfl (by kernel_rfl) (by kernel_rfl) (by kernel_rfl) (fun _ _ _ h => h) (Or.inl ⟨by rfl, ?hy0bp⟩) (by assumption) ?rest0bp
            case hy0bp => (intro zz hSw; (try dsimp only at hSw); go_simp; (try with_reducible rfl))
            change wpAnyH _ _ _ _ _ _ _ (Act.put _ (some 26) _) _
            simp only [Act.put, List.setIfInBounds_toArray, List.set_cons_zero, List.set_cons_succ]
            refine wpAnyH_take (i := 1) (v := ?v1bp) rfl (by kernel_rfl) (by kernel_rfl) (by kernel_rfl) (fun _ _ _ h => h) (Or.inl ⟨by rfl, ?hy1bp⟩) (by assumption) ?rest1bp
            case hy1bp => (intro zz hSw; (try dsimp only at hSw); go_simp; (try with_reducible rfl))
            change wpAnyH _ _ _ _ _ _ _ (Act.put _ (some 27) _) _
            simp only [Act.put, List.setIfInBounds_toArray, List.set_cons_zero, List.set_cons_succ]
            refine wpAnyH_take (i := 2) (v := ?v2bp) rfl (by kernel_rfl) (by kernel_rfl) (by kernel_rfl) (fun _ _ _ h => h) (Or.inl ⟨by rfl, ?hy2bp⟩) (by assumption) ?rest2bp
            case hy2bp => (intro zz hSw; (try dsimp only at hSw); go_simp; (try with_reducible rfl))
            change wpAnyH _ _ _ _ _ _ _ (Act.put _ (some 28) _) _
            simp only [Act.put, List.setIfInBounds_toArray, List.set_cons_zero, List.set_cons_succ]
            refine wpAnyH_take (i := 3) (v := ?v3bp) rfl (by kernel_rfl) (by kernel_rfl) (by kernel_rfl) (fun _ _ _ h => h) (Or.inl ⟨by rfl, ?hy3bp⟩) (by assumption) ?rest3bp
            case hy3bp => (intro zz hSw; (try dsimp only at hSw); go_simp; (try with_reducible rfl))
            change wpAnyH _ _ _ _ _ _ _ (Act.put _ (some 29) _) _
            simp only [Act.put, List.setIfInBounds_toArray, List.set_cons_zero, List.set_cons_succ]
            refine wpAnyH_take (i := 4) (v := ?v4bp) rfl (by kernel_rfl) (by kernel_rfl) (by kernel_rfl) (fun _ _ _ h => h) (Or.inl ⟨by rfl, ?hy4bp⟩) (by assumption) ?rest4bp
            case hy4bp => (intro zz hSw; (try dsimp only at hSw); go_simp; (try with_reducible rfl))
            change wpAnyH _ _ _ _ _ _ _ (Act.put _ (some 30) _) _
            simp only [Act.put, List.setIfInBounds_toArray, List.set_cons_zero, List.set_cons_succ]
            refine wpAnyH_take (i := 5) (v := ?v5bp) rfl (by kernel_rfl) (by kernel_rfl) (by kernel_rfl) (fun _ _ _ h => h) (Or.inl ⟨by rfl, ?hy5bp⟩) (by assumption) ?rest5bp
            case hy5bp => (intro zz hSw; (try dsimp only at hSw); go_simp; (try with_reducible rfl))
            change wpAnyH _ _ _ _ _ _ _ (Act.put _ (some 31) _) _
            simp only [Act.put, List.setIfInBounds_toArray, List.set_cons_zero, List.set_cons_succ]
            refine wpAnyH_take (i := 6) (v := ?v6bp) rfl (by kernel_rfl) (by kernel_rfl) (by kernel_rfl) (fun _ _ _ h => h) (Or.inl ⟨by rfl, ?hy6bp⟩) (by assumption) ?rest6bp
            case hy6bp => (intro zz hSw; (try dsimp only at hSw); go_simp; (try with_reducible rfl))
            change wpAnyH _ _ _ _ _ _ _ (Act.put _ (some 32) _) _
            simp only [Act.put, List.setIfInBounds_toArray, List.set_cons_zero, List.set_cons_succ]
            refine wpAnyH_take (i := 7) (v := ?v7bp) rfl (by kernel_rfl) (by kernel_rfl) (by kernel_rfl) (fun _ _ _ h => h) (Or.inl ⟨by rfl, ?hy7bp⟩) (by assumption) ?rest7bp
            case hy7bp => (intro zz hSw; (try dsimp only at hSw); go_simp; (try with_reducible rfl))
            change wpAnyH _ _ _ _ _ _ _ (Act.put _ (some 33) _) _
            simp only [Act.put, List.setIfInBounds_toArray, List.set_cons_zero, List.set_cons_succ]
            refine wpAnyH_take (i := 8) (v := ?v8bp) rfl (by kernel_rfl) (by kernel_rfl) (by kernel_rfl) (fun _ _ _ h => h) (Or.inl ⟨by rfl, ?hy8bp⟩) (by assumption) ?rest8bp
            case hy8bp => (intro zz hSw; (try dsimp only at hSw); go_simp; (try with_reducible rfl))
            change wpAnyH _ _ _ _ _ _ _ (Act.put _ (some 34) _) _
            simp only [Act.put, List.setIfInBounds_toArray, List.set_cons_zero, List.set_cons_succ]
            refine wpAnyH_take (i := 9) (v := ?v9bp) rfl (by kernel_rfl) (by kernel_rfl) (by kernel_rfl) (fun _ _ _ h => h) (Or.inl ⟨by rfl, ?hy9bp⟩) (by assumption) ?rest9bp
            case hy9bp => (intro zz hSw; (try dsimp only at hSw); go_simp; (try with_reducible rfl))
            change wpAnyH _ _ _ _ _ _ _ (Act.put _ (some 35) _) _
            simp only [Act.put, List.setIfInBounds_toArray, List.set_cons_zero, List.set_cons_succ]
            refine wpAnyH_take (i := 10) (v := ?v10bp) rfl (by kernel_rfl) (by kernel_rfl) (by kernel_rfl) (fun _ _ _ h => h) (Or.inl ⟨by rfl, ?hy10bp⟩) (by assumption) ?rest10bp
            case hy10bp => (intro zz hSw; (try dsimp only at hSw); go_simp; (try with_reducible rfl))
            change wpAnyH _ _ _ _ _ _ _ (Act.put _ (some 36) _) _
            simp only [Act.put, List.setIfInBounds_toArray, List.set_cons_zero, List.set_cons_succ]
            refine wpAnyH_take (i := 11) (v := ?v11bp) rfl (by kernel_rfl) (by kernel_rfl) (by kernel_rfl) (fun _ _ _ h => h) (Or.inl ⟨by rfl, ?hy11bp⟩) (by assumption) ?rest11bp
            case hy11bp => (intro zz hSw; (try dsimp only at hSw); go_simp; (try with_reducible rfl))
            change wpAnyH _ _ _ _ _ _ _ (Act.put _ (some 37) _) _
            simp only [Act.put, List.setIfInBounds_toArray, List.set_cons_zero, List.set_cons_succ]
            refine wpAnyH_take (i := 12) (v := ?v12bp) rfl (by kernel_rfl) (by kernel_rfl) (by kernel_rfl) (fun _ _ _ h => h) (Or.inl ⟨by rfl, ?hy12bp⟩) (by assumption) ?rest12bp
            case hy12bp => (intro zz hSw; (try dsimp only at hSw); go_simp; (try with_reducible rfl))
            change wpAnyH _ _ _ _ _ _ _ (Act.put _ (some 38) _) _
            simp only [Act.put, List.setIfInBounds_toArray, List.set_cons_zero, List.set_cons_succ]
            refine wpAnyH_take (i := 13) (v := ?v13bp) rfl (by kernel_rfl) (by kernel_rfl) (by kernel_rfl) (fun _ _ _ h => h) (Or.inl ⟨by rfl, ?hy13bp⟩) (by assumption) ?rest13bp
            case hy13bp => (intro zz hSw; (try dsimp only at hSw); go_simp; (try with_reducible rfl))
            change wpAnyH _ _ _ _ _ _ _ (Act.put _ (some 39) _) _
            simp only [Act.put, List.setIfInBounds_toArray, List.set_cons_zero, List.set_cons_succ]
            refine wpAnyH_take (i := 14) (v := ?v14bp) rfl (by kernel_rfl) (by kernel_rfl) (by kernel_rfl) (fun _ _ _ h => h) (Or.inl ⟨by rfl, ?hy14bp⟩) (by assumption) ?rest14bp
            case hy14bp => (intro zz hSw; (try dsimp only at hSw); go_simp; (try with_reducible rfl))
            change wpAnyH _ _ _ _ _ _ _ (Act.put _ (some 40) _) _
            simp only [Act.put, List.setIfInBounds_toArray, List.set_cons_zero, List.set_cons_succ]
            refine wpAnyH_take (i := 15) (v := ?v15bp) rfl (by kernel_rfl) (by kernel_rfl) (by kernel_rfl) (fun _ _ _ h => h) (Or.inl ⟨by rfl, ?hy15bp⟩) (by assumption) ?rest15bp
            case hy15bp => (intro zz hSw; (try dsimp only at hSw); go_simp; (try with_reducible rfl))
            change wpAnyH _ _ _ _ _ _ _ (Act.put _ (some 41) _) _
            simp only [Act.put, List.setIfInBounds_toArray, List.set_cons_zero, List.set_cons_succ]
            refine wpAnyH_ready (rs := [16]) (by kernel_rfl) (by simp) (AllReadyH.cons rfl (fun K hK => ?_) AllReadyH.nil)
            go_simp
            refine (HL1.out _).mono ?_; rintro e w8 ⟨rfl, bel⟩
            refine hK.out _ _ (SOF.out _ (bel_tr hHeld.2.2.2.2.2.2 bel (Nat.le_refl _))) (fun hHeld => ?_)
            clear hK K bel
            refine wpAnyH_take (i := 17) (v := ?v17bp) rfl (by kernel_rfl) (by kernel_rfl) (by kernel_rfl) (fun _ _ _ h => h) (Or.inl ⟨by rfl, ?hy17bp⟩) (by assumption) ?rest17bp
            case hy17bp => (intro zz hSw; (try dsimp only at hSw); go_simp; (try with_reducible rfl))
            change wpAnyH _ _ _ _ _ _ _ (Act.put _ (some 43) _) _
            simp only [Act.put, List.setIfInBounds_toArray, List.set_cons_zero, List.set_cons_succ]
            refine wpAnyH_take (i := 18) (v := ?v18bp) rfl (by kernel_rfl) (by kernel_rfl) (by kernel_rfl) (fun _ _ _ h => h) (Or.inl ⟨by rfl, ?hy18bp⟩) (by assumption) ?rest18bp
            case hy18bp => (intro zz hSw; (try dsimp only at hSw); go_simp; (try with_reducible rfl))
            change wpAnyH _ _ _ _ _ _ _ (Act.put _ (some 44) _) _
            simp only [Act.put, List.setIfInBounds_toArray, List.set_cons_zero, List.set_cons_succ]
            refine wpAnyH_take (i := 19) (v := ?v19bp) rfl (by kernel_rfl) (by kernel_rfl) (by kernel_rfl) (fun _ _ _ h => h) (Or.inl ⟨by rfl, ?hy19bp⟩) (by assumption) ?rest19bp
            case hy19bp => (intro zz hSw; (try dsimp only at hSw); go_simp; (try with_reducible rfl))
            change wpAnyH _ _ _ _ _ _ _ (Act.put _ (some 25) _) _
            simp only [Act.put, List.setIfInBounds_toArray, List.set_cons_zero, List.set_cons_succ]
            refine wpAnyH_done (by kernel_rfl) ?_ _
            have BX0 := Lib.hid hHeld.2.2.2.2.2.2; clear hHeld
            go_wp2_with fail
            refine wp_region_held_drew (S := fun z => z.cell? ⟨ga, oa, none⟩ = some (.string c.r) ∧ z.cell? ⟨ga, oa + 1, none⟩ = some (.string c.b) ∧ z.cell? ⟨ga, oa + 2, none⟩ = some (.int .i64 c.t) ∧ z.cell? ⟨gb, ob, none⟩ = some (.string d.r) ∧ z.cell? ⟨gb, ob + 1, none⟩ = some (.string d.b) ∧ z.cell? ⟨gb, ob + 2, none⟩ = some (.int .i64 d.t) ∧ Below wr.heap.size wr z) (by kernel_rfl) (SOF.out _ BX0.out.drew) (fun hHeld => ?_)
            refine wpAnyH_take (i := 0) (v := ?v0bq) rfl (by kernel_rfl) (by kernel_rfl) (by kernel_rfl) (fun _ _ _ h => h) (Or.inl ⟨by rfl, ?hy0bq⟩) (by assumption) ?rest0bq
            case hy0bq => (intro zz hSw; (try dsimp only at hSw); go_simp; (try with_reducible rfl))
            change wpAnyH _ _ _ _ _ _ _ (Act.put _ (some 54) _) _
            simp only [Act.put, List.setIfInBounds_toArray, List.set_cons_zero, List.set_cons_succ]
            refine wpAnyH_take (i := 1) (v := ?v1bq) rfl (by kernel_rfl) (by kernel_rfl) (by kernel_rfl) (fun _ _ _ h => h) (Or.inl ⟨by rfl, ?hy1bq⟩) (by assumption) ?rest1bq
            case hy1bq => (intro zz hSw; (try dsimp only at hSw); go_simp; (try with_reducible rfl))
            change wpAnyH _ _ _ _ _ _ _ (Act.put _ (some 55) _) _
            simp only [Act.put, List.setIfInBounds_toArray, List.set_cons_zero, List.set_cons_succ]
            refine wpAnyH_take (i := 2) (v := ?v2bq) rfl (by kernel_rfl) (by kernel_rfl) (by kernel_rfl) (fun _ _ _ h => h) (Or.inl ⟨by rfl, ?hy2bq⟩) (by assumption) ?rest2bq
            case hy2bq => (intro zz hSw; (try dsimp only at hSw); go_simp; (try with_reducible rfl))
            change wpAnyH _ _ _ _ _ _ _ (Act.put _ (some 56) _) _
            simp only [Act.put, List.setIfInBounds_toArray, List.set_cons_zero, List.set_cons_succ]
            refine wpAnyH_take (i := 3) (v := ?v3bq) rfl (by kernel_rfl) (by kernel_rfl) (by kernel_rfl) (fun _ _ _ h => h) (Or.inl ⟨by rfl, ?hy3bq⟩) (by assumption) ?rest3bq
            case hy3bq => (intro zz hSw; (try dsimp only at hSw); go_simp; (try with_reducible rfl))
            change wpAnyH _ _ _ _ _ _ _ (Act.put _ (some 57) _) _
            simp only [Act.put, List.setIfInBounds_toArray, List.set_cons_zero, List.set_cons_succ]
            refine wpAnyH_take (i := 4) (v := ?v4bq) rfl (by kernel_rfl) (by kernel_rfl) (by kernel_rfl) (fun _ _ _ h => h) (Or.inl ⟨by rfl, ?hy4bq⟩) (by assumption) ?rest4bq
            case hy4bq => (intro zz hSw; (try dsimp only at hSw); go_simp; (try with_reducible rfl))
            change wpAnyH _ _ _ _ _ _ _ (Act.put _ (some 58) _) _
            simp only [Act.put, List.setIfInBounds_toArray, List.set_cons_zero, List.set_cons_succ]
            refine wpAnyH_take (i := 5) (v := ?v5bq) rfl (by kernel_rfl) (by kernel_rfl) (by kernel_rfl) (fun _ _ _ h => h) (Or.inl ⟨by rfl, ?hy5bq⟩) (by assumption) ?rest5bq
            case hy5bq => (intro zz hSw; (try dsimp only at hSw); go_simp; (try with_reducible rfl))
            change wpAnyH _ _ _ _ _ _ _ (Act.put _ (some 59) _) _
            simp only [Act.put, List.setIfInBounds_toArray, List.set_cons_zero, List.set_cons_succ]
            refine wpAnyH_take (i := 6) (v := ?v6bq) rfl (by kernel_rfl) (by kernel_rfl) (by kernel_rfl) (fun _ _ _ h => h) (Or.inl ⟨by rfl, ?hy6bq⟩) (by assumption) ?rest6bq
            case hy6bq => (intro zz hSw; (try dsimp only at hSw); go_simp; (try with_reducible rfl))
            change wpAnyH _ _ _ _ _ _ _ (Act.put _ (some 60) _) _
            simp only [Act.put, List.setIfInBounds_toArray, List.set_cons_zero, List.set_cons_succ]
            refine wpAnyH_take (i := 7) (v := ?v7bq) rfl (by kernel_rfl) (by kernel_rfl) (by kernel_rfl) (fun _ _ _ h => h) (Or.inl ⟨by rfl, ?hy7bq⟩) (by assumption) ?rest7bq
            case hy7bq => (intro zz hSw; (try dsimp only at hSw); go_simp; (try with_reducible rfl))
            change wpAnyH _ _ _ _ _ _ _ (Act.put _ (some 61) _) _
            simp only [Act.put, List.setIfInBounds_toArray, List.set_cons_zero, List.set_cons_succ]
            refine wpAnyH_take (i := 8) (v := ?v8bq) rfl (by kernel_rfl) (by kernel_rfl) (by kernel_rfl) (fun _ _ _ h => h) (Or.inl ⟨by rfl, ?hy8bq⟩) (by assumption) ?rest8bq
            case hy8bq => (intro zz hSw; (try dsimp only at hSw); go_simp; (try with_reducible rfl))
            change wpAnyH _ _ _ _ _ _ _ (Act.put _ (some 62) _) _
            simp only [Act.put, List.setIfInBounds_toArray, List.set_cons_zero, List.set_cons_succ]
            refine wpAnyH_take (i := 9) (v := ?v9bq) rfl (by kernel_rfl) (by kernel_rfl) (by kernel_rfl) (fun _ _ _ h => h) (Or.inl ⟨by rfl, ?hy9bq⟩) (by assumption) ?rest9bq
            case hy9bq => (intro zz hSw; (try dsimp only at hSw); go_simp; (try with_reducible rfl))
            change wpAnyH _ _ _ _ _ _ _ (Act.put _ (some 63) _) _
            simp only [Act.put, List.setIfInBounds_toArray, List.set_cons_zero, List.set_cons_succ]
            refine wpAnyH_take (i := 10) (v := ?v10bq) rfl (by kernel_rfl) (by kernel_rfl) (by kernel_rfl) (fun _ _ _ h => h) (Or.inl ⟨by rfl, ?hy10bq⟩) (by assumption) ?rest10bq
            case hy10bq => (intro zz hSw; (try dsimp only at hSw); go_simp; (try with_reducible rfl))
            change wpAnyH _ _ _ _ _ _ _ (Act.put _ (some 64) _) _
            simp only [Act.put, List.setIfInBounds_toArray, List.set_cons_zero, List.set_cons_succ]
            refine wpAnyH_take (i := 11) (v := ?v11bq) rfl (by kernel_rfl) (by kernel_rfl) (by kernel_rfl) (fun _ _ _ h => h) (Or.inl ⟨by rfl, ?hy11bq⟩) (by assumption) ?rest11bq
            case hy11bq => (intro zz hSw; (try dsimp only at hSw); go_simp; (try with_reducible rfl))
            change wpAnyH _ _ _ _ _ _ _ (Act.put _ (some 65) _) _
            simp only [Act.put, List.setIfInBounds_toArray, List.set_cons_zero, List.set_cons_succ]
            refine wpAnyH_ready (rs := [12]) (by kernel_rfl) (by simp) (AllReadyH.cons rfl (fun K hK => ?_) AllReadyH.nil)
            go_simp
            refine (HL2.out _).mono ?_; rintro e w9 ⟨rfl, bel⟩
            refine hK.out _ _ (SOF.out _ (bel_tr hHeld.2.2.2.2.2.2 bel (Nat.le_refl _))) (fun hHeld => ?_)
            clear hK K bel
            refine wpAnyH_take (i := 13) (v := ?v13bq) rfl (by kernel_rfl) (by kernel_rfl) (by kernel_rfl) (fun _ _ _ h => h) (Or.inl ⟨by rfl, ?hy13bq⟩) (by assumption) ?rest13bq
            case hy13bq => (intro zz hSw; (try dsimp only at hSw); go_simp; (try with_reducible rfl))
            change wpAnyH _ _ _ _ _ _ _ (Act.put _ (some 67) _) _
            simp only [Act.put, List.setIfInBounds_toArray, List.set_cons_zero, List.set_cons_succ]
            refine wpAnyH_take (i := 14) (v := ?v14bq) rfl (by kernel_rfl) (by kernel_rfl) (by kernel_rfl) (fun _ _ _ h => h) (Or.inl ⟨by rfl, ?hy14bq⟩) (by assumption) ?rest14bq
            case hy14bq => (intro zz hSw; (try dsimp only at hSw); go_simp; (try with_reducible rfl))
            change wpAnyH _ _ _ _ _ _ _ (Act.put _ (some 53) _) _
            simp only [Act.put, List.setIfInBounds_toArray, List.set_cons_zero, List.set_cons_succ]
            refine wpAnyH_done (by kernel_rfl) ?_ _
            have BX := Lib.hid hHeld.2.2.2.2.2.2; clear hHeld
            clear BX0
            clear SOF
            have BW := Lib.hid (bel_tr HB.out BX.out (Nat.le_refl _))
            obtain ⟨c0, c1, c2, c3, c4⟩ : At5 w9 gb ob d := HCd.out.same (BW.out.block gb hgb)
            have VL := Lib.hid (Vw.lit w9 d)
            have BL := Lib.hid (bel1 w9 (.cells #[.string d.r, .string d.b, .int .i64 d.t, .int .i64 d.v, .bool d.g] 28))
            have O4 := Lib.hid ((HO.out.next BX.out).next BL.out)
            have hs4 : w.heap.size ≤ w9.heap.size := BW.out.size
            go_wp2_with (first
              | (at_builtin; refine append_cells rfl (.tmp 68) (.tmp 72) rfl (base := w.heap.size) (l := o) (m := [d]) rfl rfl rfl O4.out VL.out (by simp; omega) (by simp; omega) ?_; intro v5 w5 o5 g5))
            have B5 := Lib.hid ((bel_tr BW.out BL.out (Nat.le_refl _)).grown g5 (by simp; omega) (fun j hj => OwC.lt O4.out j hj))
            have O5 := Lib.hid o5; clear o5 g5 c0 c1 c2 c3 c4
            go_wp2_with fail
            go_roundw
            case rel => exact ⟨(c :: la), lb, o ++ [d], _, cx, tb, ctb, slice_eq HMa.out.symm, slice_eq (by have := HNb.out; omega), HA.out, HTb.out, O5.out, HEQ.out, B5.out, by have := HNa.out; have := HNb.out; simp only [List.length_append, List.length_nil, List.length_cons] at *; omega⟩
            case measure => have := HNa.out; have := HNb.out; simp [slN]; omega
        · -- a first
          have HEQ := Lib.hid (show (o ++ [c]) ++ mergeL la (d :: lb) = mergeL a b by rw [← heq, mergeL_a hcd, List.append_assoc]; rfl); clear heq
          obtain ⟨ga, oa, rfl, hga, h5a⟩ := HA.out.2.2.2 0 c rfl
          rw [Nat.zero_mul, Nat.add_zero] at h5a
          have HCc := Lib.hid h5a
          have hga' : ga < wr.heap.size := Nat.lt_of_lt_of_le hga HB.out.size
          have HNa := Lib.hid (show (c :: la).length = la.length + 1 by simp)
          obtain ⟨ta, cta, hruna, hcuta⟩ := cut_tail (some ⟨ga, oa, none⟩) (c :: la).length cx (by simp)
          have HTa := Lib.hid (hcuta w c la HA.out (by simp)); clear hcuta
          generalize hNa : (c :: la).length = Na at *
          have HMa := Lib.hid hNa; clear hNa
          have za3 : 0 < Na := by have := HNa.out; omega
          have za0 : (0 : Int) < (Na : Int) := by omega
          have za1 : ((Na : Int) == 0) = false := by rw [beq_eq_false_iff_ne]; omega
          have za2 : decide ((0 : Int) < (Na : Int)) = true := decide_eq_true za0
          have za4 : decide (0 < Na) = true := decide_eq_true za3
          obtain ⟨gb, ob, rfl, hgb, h5b⟩ := HV.out.2.2.2 0 d rfl
          rw [Nat.zero_mul, Nat.add_zero] at h5b
          have HCd := Lib.hid h5b
          have hgb' : gb < wr.heap.size := Nat.lt_of_lt_of_le hgb HB.out.size
          have HNb := Lib.hid (show (d :: lb).length = lb.length + 1 by simp)
          generalize hNb : (d :: lb).length = Nb at *
          have HMb := Lib.hid hNb; clear hNb
          have zb3 : 0 < Nb := by have := HNb.out; omega
          have zb0 : (0 : Int) < (Nb : Int) := by omega
          have zb1 : ((Nb : Int) == 0) = false := by rw [beq_eq_false_iff_ne]; omega
          have zb2 : decide ((0 : Int) < (Nb : Int)) = true := decide_eq_true zb0
          have zb4 : decide (0 < Nb) = true := decide_eq_true zb3
          have hlenN : o.length + Na + Nb ≤ 8000 := hlen
          have HL1 := Lib.hid (fun w => l2Less_is hcd w)
          clear hcd
          obtain ⟨c0, c1, c2, -, -⟩ : At5 wr ga oa c := h5a.same (HB.out.block ga hga)
          obtain ⟨d0, d1, d2, -, -⟩ : At5 wr gb ob d := h5b.same (HB.out.block gb hgb)
          have SOF := Lib.hid (show ∀ z, Below wr.heap.size wr z → (z.cell? ⟨ga, oa, none⟩ = some (.string c.r) ∧ z.cell? ⟨ga, oa + 1, none⟩ = some (.string c.b) ∧ z.cell? ⟨ga, oa + 2, none⟩ = some (.int .i64 c.t) ∧ z.cell? ⟨gb, ob, none⟩ = some (.string d.r) ∧ z.cell? ⟨gb, ob + 1, none⟩ = some (.string d.b) ∧ z.cell? ⟨gb, ob + 2, none⟩ = some (.int .i64 d.t) ∧ Below wr.heap.size wr z) from fun z hz => ⟨coc hz hga' c0, coc hz hga' c1, coc hz hga' c2, coc hz hgb' d0, coc hz hgb' d1, coc hz hgb' d2,  hz⟩)
          clear c0 c1 c2 d0 d1 d2 h5a h5b
          clear hlen
          go_wp2_with fail
          refine wp_region_held_drew (S := fun z => z.cell? ⟨ga, oa, none⟩ = some (.string c.r) ∧ z.cell? ⟨ga, oa + 1, none⟩ = some (.string c.b) ∧ z.cell? ⟨ga, oa + 2, none⟩ = some (.int .i64 c.t) ∧ z.cell? ⟨gb, ob, none⟩ = some (.string d.r) ∧ z.cell? ⟨gb, ob + 1, none⟩ = some (.string d.b) ∧ z.cell? ⟨gb, ob + 2, none⟩ = some (.int .i64 d.t) ∧ Below wr.heap.size wr z) (by kernel_rfl) (SOF.out _ (Below.refl _ _).drew) (fun hHeld => ?_)
          refine wpAnyH_take (i := 0) (v := ?v0ap) rfl (by kernel_rfl) (by kernel_rfl) (by kernel_rfl) (fun _ _ _ h => h) (Or.inl ⟨by rfl, ?hy0ap⟩) (by assumption) ?rest0ap
          case hy0ap => (intro zz hSw; (try dsimp only at hSw); go_simp; (try with_reducible rfl))
          change wpAnyH _ _ _ _ _ _ _ (Act.put _ (some 26) _) _
          simp only [Act.put, List.setIfInBounds_toArray, List.set_cons_zero, List.set_cons_succ]
          refine wpAnyH_take (i := 1) (v := ?v1ap) rfl (by kernel_rfl) (by kernel_rfl) (by kernel_rfl) (fun _ _ _ h => h) (Or.inl ⟨by rfl, ?hy1ap⟩) (by assumption) ?rest1ap
          case hy1ap => (intro zz hSw; (try dsimp only at hSw); go_simp; (try with_reducible rfl))
          change wpAnyH _ _ _ _ _ _ _ (Act.put _ (some 27) _) _
          simp only [Act.put, List.setIfInBounds_toArray, List.set_cons_zero, List.set_cons_succ]
          refine wpAnyH_take (i := 2) (v := ?v2ap) rfl (by kernel_rfl) (by kernel_rfl) (by kernel_rfl) (fun _ _ _ h => h) (Or.inl ⟨by rfl, ?hy2ap⟩) (by assumption) ?rest2ap
          case hy2ap => (intro zz hSw; (try dsimp only at hSw); go_simp; (try with_reducible rfl))
          change wpAnyH _ _ _ _ _ _ _ (Act.put _ (some 28) _) _
          simp only [Act.put, List.setIfInBounds_toArray, List.set_cons_zero, List.set_cons_succ]
          refine wpAnyH_take (i := 3) (v := ?v3ap) rfl (by kernel_rfl) (by kernel_rfl) (by kernel_rfl) (fun _ _ _ h => h) (Or.inl ⟨by rfl, ?hy3ap⟩) (by assumption) ?rest3ap
          case hy3ap => (intro zz hSw; (try dsimp only at hSw); go_simp; (try with_reducible rfl))
          change wpAnyH _ _ _ _ _ _ _ (Act.put _ (some 29) _) _
          simp only [Act.put, List.setIfInBounds_toArray, List.set_cons_zero, List.set_cons_succ]
          refine wpAnyH_take (i := 4) (v := ?v4ap) rfl (by kernel_rfl) (by kernel_rfl) (by kernel_rfl) (fun _ _ _ h => h) (Or.inl ⟨by rfl, ?hy4ap⟩) (by assumption) ?rest4ap
          case hy4ap => (intro zz hSw; (try dsimp only at hSw); go_simp; (try with_reducible rfl))
          change wpAnyH _ _ _ _ _ _ _ (Act.put _ (some 30) _) _
          simp only [Act.put, List.setIfInBounds_toArray, List.set_cons_zero, List.set_cons_succ]
          refine wpAnyH_take (i := 5) (v := ?v5ap) rfl (by kernel_rfl) (by kernel_rfl) (by kernel_rfl) (fun _ _ _ h => h) (Or.inl ⟨by rfl, ?hy5ap⟩) (by assumption) ?rest5ap
          case hy5ap => (intro zz hSw; (try dsimp only at hSw); go_simp; (try with_reducible rfl))
          change wpAnyH _ _ _ _ _ _ _ (Act.put _ (some 31) _) _
          simp only [Act.put, List.setIfInBounds_toArray, List.set_cons_zero, List.set_cons_succ]
          refine wpAnyH_take (i := 6) (v := ?v6ap) rfl (by kernel_rfl) (by kernel_rfl) (by kernel_rfl) (fun _ _ _ h => h) (Or.inl ⟨by rfl, ?hy6ap⟩) (by assumption) ?rest6ap
          case hy6ap => (intro zz hSw; (try dsimp only at hSw); go_simp; (try with_reducible rfl))
          change wpAnyH _ _ _ _ _ _ _ (Act.put _ (some 32) _) _
          simp only [Act.put, List.setIfInBounds_toArray, List.set_cons_zero, List.set_cons_succ]
          refine wpAnyH_take (i := 7) (v := ?v7ap) rfl (by kernel_rfl) (by kernel_rfl) (by kernel_rfl) (fun _ _ _ h => h) (Or.inl ⟨by rfl, ?hy7ap⟩) (by assumption) ?rest7ap
          case hy7ap => (intro zz hSw; (try dsimp only at hSw); go_simp; (try with_reducible rfl))
          change wpAnyH _ _ _ _ _ _ _ (Act.put _ (some 33) _) _
          simp only [Act.put, List.setIfInBounds_toArray, List.set_cons_zero, List.set_cons_succ]
          refine wpAnyH_take (i := 8) (v := ?v8ap) rfl (by kernel_rfl) (by kernel_rfl) (by kernel_rfl) (fun _ _ _ h => h) (Or.inl ⟨by rfl, ?hy8ap⟩) (by assumption) ?rest8ap
          case hy8ap => (intro zz hSw; (try dsimp only at hSw); go_simp; (try with_reducible rfl))
          change wpAnyH _ _ _ _ _ _ _ (Act.put _ (some 34) _) _
          simp only [Act.put, List.setIfInBounds_toArray, List.set_cons_zero, List.set_cons_succ]
          refine wpAnyH_take (i := 9) (v := ?v9ap) rfl (by kernel_rfl) (by kernel_rfl) (by kernel_rfl) (fun _ _ _ h => h) (Or.inl ⟨by rfl, ?hy9ap⟩) (by assumption) ?rest9ap
          case hy9ap => (intro zz hSw; (try dsimp only at hSw); go_simp; (try with_reducible rfl))
          change wpAnyH _ _ _ _ _ _ _ (Act.put _ (some 35) _) _
          simp only [Act.put, List.setIfInBounds_toArray, List.set_cons_zero, List.set_cons_succ]
          refine wpAnyH_take (i := 10) (v := ?v10ap) rfl (by kernel_rfl) (by kernel_rfl) (by kernel_rfl) (fun _ _ _ h => h) (Or.inl ⟨by rfl, ?hy10ap⟩) (by assumption) ?rest10ap
          case hy10ap => (intro zz hSw; (try dsimp only at hSw); go_simp; (try with_reducible rfl))
          change wpAnyH _ _ _ _ _ _ _ (Act.put _ (some 36) _) _
          simp only [Act.put, List.setIfInBounds_toArray, List.set_cons_zero, List.set_cons_succ]
          refine wpAnyH_take (i := 11) (v := ?v11ap) rfl (by kernel_rfl) (by kernel_rfl) (by kernel_rfl) (fun _ _ _ h => h) (Or.inl ⟨by rfl, ?hy11ap⟩) (by assumption) ?rest11ap
          case hy11ap => (intro zz hSw; (try dsimp only at hSw); go_simp; (try with_reducible rfl))
          change wpAnyH _ _ _ _ _ _ _ (Act.put _ (some 37) _) _
          simp only [Act.put, List.setIfInBounds_toArray, List.set_cons_zero, List.set_cons_succ]
          refine wpAnyH_take (i := 12) (v := ?v12ap) rfl (by kernel_rfl) (by kernel_rfl) (by kernel_rfl) (fun _ _ _ h => h) (Or.inl ⟨by rfl, ?hy12ap⟩) (by assumption) ?rest12ap
          case hy12ap => (intro zz hSw; (try dsimp only at hSw); go_simp; (try with_reducible rfl))
          change wpAnyH _ _ _ _ _ _ _ (Act.put _ (some 38) _) _
          simp only [Act.put, List.setIfInBounds_toArray, List.set_cons_zero, List.set_cons_succ]
          refine wpAnyH_take (i := 13) (v := ?v13ap) rfl (by kernel_rfl) (by kernel_rfl) (by kernel_rfl) (fun _ _ _ h => h) (Or.inl ⟨by rfl, ?hy13ap⟩) (by assumption) ?rest13ap
          case hy13ap => (intro zz hSw; (try dsimp only at hSw); go_simp; (try with_reducible rfl))
          change wpAnyH _ _ _ _ _ _ _ (Act.put _ (some 39) _) _
          simp only [Act.put, List.setIfInBounds_toArray, List.set_cons_zero, List.set_cons_succ]
          refine wpAnyH_take (i := 14) (v := ?v14ap) rfl (by kernel_rfl) (by kernel_rfl) (by kernel_rfl) (fun _ _ _ h => h) (Or.inl ⟨by rfl, ?hy14ap⟩) (by assumption) ?rest14ap
          case hy14ap => (intro zz hSw; (try dsimp only at hSw); go_simp; (try with_reducible rfl))
          change wpAnyH _ _ _ _ _ _ _ (Act.put _ (some 40) _) _
          simp only [Act.put, List.setIfInBounds_toArray, List.set_cons_zero, List.set_cons_succ]
          refine wpAnyH_take (i := 15) (v := ?v15ap) rfl (by kernel_rfl) (by kernel_rfl) (by kernel_rfl) (fun _ _ _ h => h) (Or.inl ⟨by rfl, ?hy15ap⟩) (by assumption) ?rest15ap
          case hy15ap => (intro zz hSw; (try dsimp only at hSw); go_simp; (try with_reducible rfl))
          change wpAnyH _ _ _ _ _ _ _ (Act.put _ (some 41) _) _
          simp only [Act.put, List.setIfInBounds_toArray, List.set_cons_zero, List.set_cons_succ]
          refine wpAnyH_ready (rs := [16]) (by kernel_rfl) (by simp) (AllReadyH.cons rfl (fun K hK => ?_) AllReadyH.nil)
          go_simp
          refine (HL1.out _).mono ?_; rintro e w9 ⟨rfl, bel⟩
          refine hK.out _ _ (SOF.out _ (bel_tr hHeld.2.2.2.2.2.2 bel (Nat.le_refl _))) (fun hHeld => ?_)
          clear hK K bel
          refine wpAnyH_take (i := 17) (v := ?v17ap) rfl (by kernel_rfl) (by kernel_rfl) (by kernel_rfl) (fun _ _ _ h => h) (Or.inl ⟨by rfl, ?hy17ap⟩) (by assumption) ?rest17ap
          case hy17ap => (intro zz hSw; (try dsimp only at hSw); go_simp; (try with_reducible rfl))
          change wpAnyH _ _ _ _ _ _ _ (Act.put _ (some 43) _) _
          simp only [Act.put, List.setIfInBounds_toArray, List.set_cons_zero, List.set_cons_succ]
          refine wpAnyH_take (i := 18) (v := ?v18ap) rfl (by kernel_rfl) (by kernel_rfl) (by kernel_rfl) (fun _ _ _ h => h) (Or.inl ⟨by rfl, ?hy18ap⟩) (by assumption) ?rest18ap
          case hy18ap => (intro zz hSw; (try dsimp only at hSw); go_simp; (try with_reducible rfl))
          change wpAnyH _ _ _ _ _ _ _ (Act.put _ (some 44) _) _
          simp only [Act.put, List.setIfInBounds_toArray, List.set_cons_zero, List.set_cons_succ]
          refine wpAnyH_take (i := 19) (v := ?v19ap) rfl (by kernel_rfl) (by kernel_rfl) (by kernel_rfl) (fun _ _ _ h => h) (Or.inl ⟨by rfl, ?hy19ap⟩) (by assumption) ?rest19ap
          case hy19ap => (intro zz hSw; (try dsimp only at hSw); go_simp; (try with_reducible rfl))
          change wpAnyH _ _ _ _ _ _ _ (Act.put _ (some 25) _) _
          simp only [Act.put, List.setIfInBounds_toArray, List.set_cons_zero, List.set_cons_succ]
          refine wpAnyH_done (by kernel_rfl) ?_ _
          have BX := Lib.hid hHeld.2.2.2.2.2.2; clear hHeld
          clear SOF
          have BW := Lib.hid (bel_tr HB.out BX.out (Nat.le_refl _))
          obtain ⟨c0, c1, c2, c3, c4⟩ : At5 w9 ga oa c := HCc.out.same (BW.out.block ga hga)
          have VL := Lib.hid (Vw.lit w9 c)
          have BL := Lib.hid (bel1 w9 (.cells #[.string c.r, .string c.b, .int .i64 c.t, .int .i64 c.v, .bool c.g] 28))
          have O4 := Lib.hid ((HO.out.next BX.out).next BL.out)
          have hs4 : w.heap.size ≤ w9.heap.size := BW.out.size
          go_wp2_with (first
            | (at_builtin; refine append_cells rfl (.tmp 45) (.tmp 49) rfl (base := w.heap.size) (l := o) (m := [c]) rfl rfl rfl O4.out VL.out (by simp; omega) (by simp; omega) ?_; intro v5 w5 o5 g5))
          have B5 := Lib.hid ((bel_tr BW.out BL.out (Nat.le_refl _)).grown g5 (by simp; omega) (fun j hj => OwC.lt O4.out j hj))
          have O5 := Lib.hid o5; clear o5 g5 c0 c1 c2 c3 c4
          go_wp2_with fail
          go_roundw
          case rel => exact ⟨la, (d :: lb), o ++ [c], ta, cta, _, cy, slice_eq (by have := HNa.out; omega), slice_eq HMb.out.symm, HTa.out, HV.out, O5.out, HEQ.out, B5.out, by have := HNa.out; have := HNb.out; simp only [List.length_append, List.length_nil, List.length_cons] at *; omega⟩
          case measure => have := HNa.out; have := HNb.out; simp [slN]; omega
end Go.Proofs.Ytkkpokfekbdigaa.Cl
