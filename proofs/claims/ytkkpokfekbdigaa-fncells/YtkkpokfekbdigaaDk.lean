/-
  The walk of FnCells at a code that is not too long. (Made by gen_dk.py.)
-/
import Derived.Test.YtkkpokfekbdigaaCk
import Derived.Test.YtkkpokfekbdigaaDf
import Derived.Test.YtkkpokfekbdigaaDj
import Derived.Test.YtkkpokfekbdigaaCn
import Derived.Test.YtkkpokfekbdigaaCs
namespace Go.Proofs.Ytkkpokfekbdigaa.Cl
open Go.RowKit Wd Rp Cu Kp
set_option linter.unusedVariables false
theorem put_impl {l pl : List Cel} {c : Cel} {is : Bool} {m : Nat} (h : putP l c = (pl, is)) (hm : pl.length = m) (w : World) (a : Option Addr) (cap : Nat) (n : Nat) (hn : l.length = n) (hv : Vw w a cap l) (hl : n ≤ 4194304) :
    Calls Try.prog 18 #[.slice a n cap, .agg #[.string c.r, .string c.b, .int .i64 c.t, .int .i64 c.v, .bool c.g]] w fun e w' => ∃ a' cap', e = .returned (.tuple #[.slice a' m cap', .bool is]) ∧ Vw w' a' cap' pl ∧ Below w.heap.size w w' := by
  refine (implPut_any w a cap l c n hn hv hl).mono ?_
  rintro e w' ⟨v, rfl, o, b⟩
  rw [h] at o ⊢
  obtain ⟨a', cap', rfl, hv', -⟩ := o.view
  exact ⟨a', cap', by rw [← hm], hv', b⟩
theorem put_spec {l pl : List Cel} {c : Cel} {is : Bool} {m : Nat} (h : putP l c = (pl, is)) (hm : pl.length = m) (w : World) (a : Option Addr) (cap : Nat) (n : Nat) (hn : l.length = n) (hv : Vw w a cap l) (hlm : ∀ c ∈ l, c.mod) (hc : c.mod) (hl : n ≤ 4194304) :
    Calls Try.prog 21 #[.slice a n cap, .agg #[.string c.r, .string c.b, .int .i64 c.t, .int .i64 c.v, .bool c.g]] w fun e w' => ∃ a' cap', e = .returned (.tuple #[.slice a' m cap', .bool is]) ∧ Vw w' a' cap' pl ∧ Below w.heap.size w w' := by
  refine (specPut_any w a cap l c n hn hv hlm hc hl).mono ?_
  rintro e w' ⟨v, rfl, o, b⟩
  rw [h] at o ⊢
  obtain ⟨a', cap', rfl, hv', -⟩ := o.view
  exact ⟨a', cap', by rw [← hm], hv', b⟩
theorem find_impl {l : List Cel} {K : Cel} {fr fs : ByteArray} {ft fv : Int} {fg fb : Bool} (h : findP l K = (⟨fr, fs, ft, fv, fg⟩, fb)) (w : World) (a : Option Addr) (cap : Nat) (n : Nat) (hn : l.length = n) (hv : Vw w a cap l) (hl : n ≤ 4194304) :
    Calls Try.prog 20 #[.slice a n cap, .string K.r, .string K.b, .int .i64 K.t] w fun e w' => e = .returned (.tuple #[.agg #[.string fr, .string fs, .int .i64 ft, .int .i64 fv, .bool fg], .bool fb]) ∧ Below w.heap.size w w' := by
  have := implFind_any w a cap l K n hn hv hl
  rw [h] at this; exact this
theorem find_spec {l : List Cel} {K : Cel} {fr fs : ByteArray} {ft fv : Int} {fg fb : Bool} (h : findP l K = (⟨fr, fs, ft, fv, fg⟩, fb)) (w : World) (a : Option Addr) (cap : Nat) (n : Nat) (hn : l.length = n) (hv : Vw w a cap l) (hm : ∀ c ∈ l, c.mod) (hK : K.mod) (hl : n ≤ 4194304) :
    Calls Try.prog 27 #[.slice a n cap, .string K.r, .string K.b, .int .i64 K.t] w fun e w' => e = .returned (.tuple #[.agg #[.string fr, .string fs, .int .i64 ft, .int .i64 fv, .bool fg], .bool fb]) ∧ Below w.heap.size w w' := by
  have := specFind_any w a cap l K n hn hv hm hK hl
  rw [h] at this; exact this
theorem find_cases {l : List Cel} {K : Cel} {fr fs : ByteArray} {ft fv : Int} {fg fb : Bool} (h : findP l K = (⟨fr, fs, ft, fv, fg⟩, fb)) : fb = false ∨ (fb = true ∧ fr = K.r ∧ fs = K.b ∧ ft ≤ K.t ∧ ∀ d ∈ l, d.r = K.r → d.b = K.b → d.t ≤ K.t → d.t ≤ ft) := by
  rcases findP_cases l K with h1 | ⟨c, h1, -, h2, h3, h4, h5⟩
  · rw [h1] at h; exact Or.inl (Prod.mk.inj h).2.symm
  · rw [h1] at h
    obtain ⟨rfl, e⟩ := Prod.mk.inj h
    exact Or.inr ⟨e.symm, h2, h3, h4, h5⟩
theorem put_cases {l pl : List Cel} {c : Cel} {is : Bool} (h : putP l c = (pl, is)) : (okL l = false ∧ pl = [] ∧ is = false) ∨ (okL l = true ∧ pl = l ∧ is = false) ∨ (is = true ∧ okL pl = true ∧ findP pl c = (⟨c.r, c.b, c.t, c.v, c.g⟩, true) ∧ l.length ≤ pl.length ∧ pl.length ≤ l.length + 1) := by
  rcases putP_cases l c with ⟨h1, h2⟩ | ⟨h1, h2⟩ | ⟨h1, h2, h3, h4⟩
  · rw [h2] at h; obtain ⟨rfl, rfl⟩ := Prod.mk.inj h; exact Or.inl ⟨h1, rfl, rfl⟩
  · rw [h2] at h; obtain ⟨rfl, rfl⟩ := Prod.mk.inj h; exact Or.inr (Or.inl ⟨h1, rfl, rfl⟩)
  · rw [h4] at h; obtain ⟨rfl, rfl⟩ := Prod.mk.inj h; exact Or.inr (Or.inr ⟨rfl, okL_put h1 h2 h3, find_put h1 h2 h3, putL_ge l c, putL_le l c⟩)
set_option maxHeartbeats 8000000 in
set_option maxRecDepth 100000 in
theorem cells_small (w : World) (a0 : Option Addr) (len0 cap0 : Nat) (hb : IsBytes w a0 len0) (hl : len0 ≤ 4096) :
    Calls Try.prog 3 #[.slice a0 len0 cap0] w fun e w' => e = .returned (.bool true) ∧ Below w.heap.size w w' := by
  have HB := Lib.hid hb; clear hb
  go_enter Try.func3, Try.ntmps3
  go_wp2_with fail
  refine (big_no w a0 len0 cap0 hl).mono ?_; rintro e wx ⟨rfl, rfl⟩
  go_wp2_with fail
  refine (drawPut_any w a0 len0 cap0 HB.out hl).mono ?_; rintro e w1 ⟨x, l, r, s, t, v, g, rfl, o1, hl1, hs1, hn1, b1⟩
  obtain ⟨c, rfl, rfl, rfl, rfl, rfl⟩ : ∃ c : Cel, c.r = r ∧ c.b = s ∧ c.t = t ∧ c.v = v ∧ c.g = g := ⟨⟨r, s, t, v, g⟩, rfl, rfl, rfl, rfl, rfl⟩
  have HCM := Lib.hid (show c.mod from ⟨by have := hn1.1; omega, by have := hn1.2.1; omega⟩)
  have HLM := Lib.hid (show ∀ d ∈ l, d.mod from fun d hd => (hs1 d hd).mod)
  obtain ⟨a, cap, rfl, v1, -⟩ := o1.view
  have HV1 := Lib.hid v1
  have B1 := Lib.hid b1
  clear o1 hs1 hn1 v1 b1
  generalize hn : l.length = n at hl1 ⊢
  have X1 := Lib.hid (Bc.made c.r c.b c.t c.v c.g w1 28)
  have BA := Lib.hid (bel1 w1 (.cells #[.string c.r, .string c.b, .int .i64 c.t, .int .i64 c.v, .bool c.g] 28))
  go_wp2_with fail
  generalize w1.alloc (Obj.cells #[Value.string c.r, Value.string c.b, Value.int IntKind.i64 c.t, Value.int IntKind.i64 c.v, Value.bool c.g] 28) = w2 at X1 BA ⊢
  have B2 := Lib.hid (bel_tr B1.out BA.out (Nat.le_refl _))
  have HV2 := Lib.hid (HV1.out.below BA.out); clear B1 BA HV1
  generalize w1.heap.size = p1 at X1 ⊢
  obtain ⟨pl, is, hpl⟩ : ∃ pl is, putP l c = (pl, is) := ⟨_, _, rfl⟩
  have HPC := Lib.hid (put_cases hpl)
  have HPL := Lib.hid hpl
  have hm1 : pl.length ≤ 251 := by
    rcases put_cases hpl with ⟨-, h, -⟩ | ⟨-, h, -⟩ | ⟨-, -, -, -, h⟩
    · rw [h]; exact Nat.zero_le _
    · rw [h]; omega
    · omega
  clear hpl
  generalize hm : pl.length = m at hm1
  refine (put_impl HPL.out hm w2 a cap n hn HV2.out (by omega)).mono ?_; rintro e w3 ⟨a3, cap3, rfl, u3, b3⟩
  have B3 := Lib.hid (bel_tr B2.out b3 (Nat.le_refl _))
  have X3 := Lib.hid (X1.out.next b3)
  have HV3 := Lib.hid (HV2.out.below b3)
  have HU3 := Lib.hid u3; clear b3 u3 B2 X1 HV2
  go_wp2_with fail
  refine (drawFind_any w3 a0 len0 cap0 (isBytes_nx HB.out B3.out) hl).mono ?_; rintro e w4 ⟨x, q, r, s, t, rfl, o4, hq4, hs4, hr4, hb4, b4⟩
  obtain ⟨K, rfl, rfl, rfl⟩ : ∃ K : Cel, K.r = r ∧ K.b = s ∧ K.t = t := ⟨⟨r, s, t, 0, false⟩, rfl, rfl, rfl⟩
  have HKM := Lib.hid (show K.mod from ⟨by omega, by omega⟩)
  have HQM := Lib.hid (show ∀ d ∈ q, d.mod from fun d hd => (hs4 d hd).mod)
  obtain ⟨a4, cap4, rfl, v4, -⟩ := o4.view
  have HQ4 := Lib.hid v4
  have B4 := Lib.hid (bel_tr B3.out b4 (Nat.le_refl _))
  have X4 := Lib.hid (X3.out.next b4)
  have HV4 := Lib.hid (HV3.out.below b4)
  have HU4 := Lib.hid (HU3.out.below b4); clear o4 v4 b4 hs4 hr4 hb4 B3 X3 HV3 HU3
  generalize hk : q.length = k at hq4 ⊢
  obtain ⟨fr, fs, ft, fv, fg, fb, hF⟩ : ∃ fr fs ft fv fg fb, findP q K = (⟨fr, fs, ft, fv, fg⟩, fb) := ⟨_, _, _, _, _, _, rfl⟩
  have HF := Lib.hid hF; clear hF
  go_wp2_with fail
  refine (find_impl HF.out w4 a4 cap4 k hk HQ4.out (by omega)).mono ?_; rintro e w5 ⟨rfl, b5⟩
  have Y5 := Lib.hid (Bc.made fr fs ft fv fg w5 28)
  have BC := Lib.hid (bel1 w5 (.cells #[.string fr, .string fs, .int .i64 ft, .int .i64 fv, .bool fg] 28))
  have X5 := Lib.hid (X4.out.next b5)
  obtain ⟨x0, x1, x2, x3, x4, -⟩ := X5.out.next BC.out
  go_wp2_with fail
  clear x0 x1 x2 x3 x4
  generalize w5.alloc (Obj.cells #[Value.string fr, Value.string fs, Value.int IntKind.i64 ft, Value.int IntKind.i64 fv, Value.bool fg] 28) = w6 at Y5 BC ⊢
  generalize w5.heap.size = p2 at Y5 ⊢
  have b6 := bel_tr b5 BC.out (Nat.le_refl _)
  have B6 := Lib.hid (bel_tr B4.out b6 (Nat.le_refl _))
  have X6 := Lib.hid (X4.out.next b6)
  have HV6 := Lib.hid (HV4.out.below b6)
  have HU6 := Lib.hid (HU4.out.below b6)
  have HQ6 := Lib.hid (HQ4.out.below b6); clear b5 b6 BC X5 B4 X4 HV4 HU4 HQ4
  refine (put_spec HPL.out hm w6 a cap n hn HV6.out HLM.out HCM.out (by omega)).mono ?_; rintro e w7 ⟨a7, cap7, rfl, u7, b7⟩
  have B7 := Lib.hid (bel_tr B6.out b7 (Nat.le_refl _))
  have X7 := X6.out.next b7
  have Y7 := Lib.hid (Y5.out.next b7)
  have HV7 := Lib.hid (HV6.out.below b7)
  have HU7 := Lib.hid (HU6.out.below b7)
  have HQ7 := Lib.hid (HQ6.out.below b7)
  have HW7 := Lib.hid u7; clear b7 u7 B6 X6 Y5 HV6 HU6 HQ6
  have hq1 : p1 < w7.heap.size := X7.2.2.2.2.2
  have HS := Lib.hid (show w7.drew.cell? ⟨p1, 0, none⟩ = some (.string c.r) ∧ w7.drew.cell? ⟨p1, 1, none⟩ = some (.string c.b) ∧ w7.drew.cell? ⟨p1, 2, none⟩ = some (.int .i64 c.t) ∧ w7.drew.cell? ⟨p1, 3, none⟩ = some (.int .i64 c.v) ∧ w7.drew.cell? ⟨p1, 4, none⟩ = some (.bool c.g) ∧ Below w7.heap.size w7 w7.drew from ⟨X7.1, X7.2.1, X7.2.2.1, X7.2.2.2.1, X7.2.2.2.2.1, (Below.refl _ _).drew⟩)
  clear X7
  obtain ⟨ok, hok⟩ : ∃ ok, okL l = ok := ⟨_, rfl⟩
  have HOK := Lib.hid hok; clear hok
  obtain ⟨co, hco⟩ : ∃ co, c.ok = co := ⟨_, rfl⟩
  have HCO := Lib.hid hco; clear hco
  have n1 : (is != is) = false := by simp
  have n2 : (ok != ok) = false := by simp
  have n3 : (co != co) = false := by simp
  go_wp2_with fail
  refine wp_region_held_drew (S := fun z => z.cell? ⟨p1, 0, none⟩ = some (.string c.r) ∧ z.cell? ⟨p1, 1, none⟩ = some (.string c.b) ∧ z.cell? ⟨p1, 2, none⟩ = some (.int .i64 c.t) ∧ z.cell? ⟨p1, 3, none⟩ = some (.int .i64 c.v) ∧ z.cell? ⟨p1, 4, none⟩ = some (.bool c.g) ∧ Below w7.heap.size w7 z) (by kernel_rfl) HS.out (fun hHeld => ?_)
  refine wpAnyH_take (i := 0) (v := ?v0r) rfl (by kernel_rfl) (by kernel_rfl) (by kernel_rfl) (fun _ _ _ h => h) (Or.inl ⟨by rfl, ?hy0r⟩) (by assumption) ?rest0r
  case hy0r => (intro zz hSw; (try dsimp only at hSw); go_simp; (try with_reducible rfl))
  change wpAnyH _ _ _ _ _ _ _ (Act.put _ (some 55) _) _
  simp only [Act.put, List.setIfInBounds_toArray, List.set_cons_zero, List.set_cons_succ]
  refine wpAnyH_take (i := 1) (v := ?v1r) rfl (by kernel_rfl) (by kernel_rfl) (by kernel_rfl) (fun _ _ _ h => h) (Or.inl ⟨by rfl, ?hy1r⟩) (by assumption) ?rest1r
  case hy1r => (intro zz hSw; (try dsimp only at hSw); go_simp; (try with_reducible rfl))
  change wpAnyH _ _ _ _ _ _ _ (Act.put _ (some 56) _) _
  simp only [Act.put, List.setIfInBounds_toArray, List.set_cons_zero, List.set_cons_succ]
  refine wpAnyH_take (i := 2) (v := ?v2r) rfl (by kernel_rfl) (by kernel_rfl) (by kernel_rfl) (fun _ _ _ h => h) (Or.inl ⟨by rfl, ?hy2r⟩) (by assumption) ?rest2r
  case hy2r => (intro zz hSw; (try dsimp only at hSw); go_simp; (try with_reducible rfl))
  change wpAnyH _ _ _ _ _ _ _ (Act.put _ (some 57) _) _
  simp only [Act.put, List.setIfInBounds_toArray, List.set_cons_zero, List.set_cons_succ]
  refine wpAnyH_take (i := 3) (v := ?v3r) rfl (by kernel_rfl) (by kernel_rfl) (by kernel_rfl) (fun _ _ _ h => h) (Or.inl ⟨by rfl, ?hy3r⟩) (by assumption) ?rest3r
  case hy3r => (intro zz hSw; (try dsimp only at hSw); go_simp; (try with_reducible rfl))
  change wpAnyH _ _ _ _ _ _ _ (Act.put _ (some 58) _) _
  simp only [Act.put, List.setIfInBounds_toArray, List.set_cons_zero, List.set_cons_succ]
  refine wpAnyH_take (i := 4) (v := ?v4r) rfl (by kernel_rfl) (by kernel_rfl) (by kernel_rfl) (fun _ _ _ h => h) (Or.inl ⟨by rfl, ?hy4r⟩) (by assumption) ?rest4r
  case hy4r => (intro zz hSw; (try dsimp only at hSw); go_simp; (try with_reducible rfl))
  change wpAnyH _ _ _ _ _ _ _ (Act.put _ (some 59) _) _
  simp only [Act.put, List.setIfInBounds_toArray, List.set_cons_zero, List.set_cons_succ]
  refine wpAnyH_take (i := 5) (v := ?v5r) rfl (by kernel_rfl) (by kernel_rfl) (by kernel_rfl) (fun _ _ _ h => h) (Or.inl ⟨by rfl, ?hy5r⟩) (by assumption) ?rest5r
  case hy5r => (intro zz hSw; (try dsimp only at hSw); go_simp; (try with_reducible rfl))
  change wpAnyH _ _ _ _ _ _ _ (Act.put _ (some 60) _) _
  simp only [Act.put, List.setIfInBounds_toArray, List.set_cons_zero, List.set_cons_succ]
  refine wpAnyH_ready (rs := [6]) (by kernel_rfl) (by simp) (AllReadyH.cons rfl (fun K hK => ?_) AllReadyH.nil)
  go_simp
  refine (like_same _ a3 a7 cap3 cap7 pl m hm (HU7.out.below hHeld.2.2.2.2.2) (HW7.out.below hHeld.2.2.2.2.2) (by omega)).mono ?_; rintro e wA ⟨rfl, bel⟩
  refine hK.out _ _ (⟨cob bel hHeld.2.2.2.2.2 hq1 hHeld.1, cob bel hHeld.2.2.2.2.2 hq1 hHeld.2.1, cob bel hHeld.2.2.2.2.2 hq1 hHeld.2.2.1, cob bel hHeld.2.2.2.2.2 hq1 hHeld.2.2.2.1, cob bel hHeld.2.2.2.2.2 hq1 hHeld.2.2.2.2.1, bel_tr hHeld.2.2.2.2.2 bel (Nat.le_refl _)⟩) (fun hHeld => ?_)
  clear hK K bel
  refine wpAnyH_take (i := 7) (v := ?v7r) rfl (by kernel_rfl) (by kernel_rfl) (by kernel_rfl) (fun _ _ _ h => h) (Or.inl ⟨by rfl, ?hy7r⟩) (by assumption) ?rest7r
  case hy7r => (intro zz hSw; (try dsimp only at hSw); go_simp; (try with_reducible rfl))
  change wpAnyH _ _ _ _ _ _ _ (Act.put _ (some 62) _) _
  simp only [Act.put, List.setIfInBounds_toArray, List.set_cons_zero, List.set_cons_succ]
  refine wpAnyH_take (i := 8) (v := ?v8r) rfl (by kernel_rfl) (by kernel_rfl) (by kernel_rfl) (fun _ _ _ h => h) (Or.inl ⟨by rfl, ?hy8r⟩) (by assumption) ?rest8r
  case hy8r => (intro zz hSw; (try dsimp only at hSw); go_simp; (try with_reducible rfl))
  change wpAnyH _ _ _ _ _ _ _ (Act.put _ (some 63) _) _
  simp only [Act.put, List.setIfInBounds_toArray, List.set_cons_zero, List.set_cons_succ]
  refine wpAnyH_take (i := 9) (v := ?v9r) rfl (by kernel_rfl) (by kernel_rfl) (by kernel_rfl) (fun _ _ _ h => h) (Or.inl ⟨by rfl, ?hy9r⟩) (by assumption) ?rest9r
  case hy9r => (intro zz hSw; (try dsimp only at hSw); go_simp; (try with_reducible rfl))
  change wpAnyH _ _ _ _ _ _ _ (Act.put _ (some 64) _) _
  simp only [Act.put, List.setIfInBounds_toArray, List.set_cons_zero, List.set_cons_succ]
  refine wpAnyH_take (i := 10) (v := ?v10r) rfl (by kernel_rfl) (by kernel_rfl) (by kernel_rfl) (fun _ _ _ h => h) (Or.inl ⟨by rfl, ?hy10r⟩) (by assumption) ?rest10r
  case hy10r => (intro zz hSw; (try dsimp only at hSw); go_simp; (try with_reducible rfl))
  change wpAnyH _ _ _ _ _ _ _ (Act.put _ (some 65) _) _
  simp only [Act.put, List.setIfInBounds_toArray, List.set_cons_zero, List.set_cons_succ]
  refine wpAnyH_take (i := 12) (v := ?v12r) rfl (by kernel_rfl) (by kernel_rfl) (by kernel_rfl) (fun _ _ _ h => h) (Or.inl ⟨by rfl, ?hy12r⟩) (by assumption) ?rest12r
  case hy12r => (intro zz hSw; (try dsimp only at hSw); go_simp; (try with_reducible rfl))
  change wpAnyH _ _ _ _ _ _ _ (Act.put _ (some 67) _) _
  simp only [Act.put, List.setIfInBounds_toArray, List.set_cons_zero, List.set_cons_succ]
  refine wpAnyH_ready (rs := [11]) (by kernel_rfl) (by simp) (AllReadyH.cons rfl (fun K hK => ?_) AllReadyH.nil)
  go_simp
  refine (implCells_is HOK.out _ a cap n hn (HV7.out.below hHeld.2.2.2.2.2) (by omega)).mono ?_; rintro e wB ⟨rfl, bel⟩
  refine hK.out _ _ (⟨cob bel hHeld.2.2.2.2.2 hq1 hHeld.1, cob bel hHeld.2.2.2.2.2 hq1 hHeld.2.1, cob bel hHeld.2.2.2.2.2 hq1 hHeld.2.2.1, cob bel hHeld.2.2.2.2.2 hq1 hHeld.2.2.2.1, cob bel hHeld.2.2.2.2.2 hq1 hHeld.2.2.2.2.1, bel_tr hHeld.2.2.2.2.2 bel (Nat.le_refl _)⟩) (fun hHeld => ?_)
  clear hK K bel
  refine wpAnyH_ready (rs := [13]) (by kernel_rfl) (by simp) (AllReadyH.cons rfl (fun K hK => ?_) AllReadyH.nil)
  go_simp
  refine (specCells_is HOK.out _ a cap n hn (HV7.out.below hHeld.2.2.2.2.2) HLM.out (by omega)).mono ?_; rintro e wC ⟨rfl, bel⟩
  refine hK.out _ _ (⟨cob bel hHeld.2.2.2.2.2 hq1 hHeld.1, cob bel hHeld.2.2.2.2.2 hq1 hHeld.2.1, cob bel hHeld.2.2.2.2.2 hq1 hHeld.2.2.1, cob bel hHeld.2.2.2.2.2 hq1 hHeld.2.2.2.1, cob bel hHeld.2.2.2.2.2 hq1 hHeld.2.2.2.2.1, bel_tr hHeld.2.2.2.2.2 bel (Nat.le_refl _)⟩) (fun hHeld => ?_)
  clear hK K bel
  refine wpAnyH_take (i := 14) (v := ?v14r) rfl (by kernel_rfl) (by kernel_rfl) (by kernel_rfl) (fun _ _ _ h => h) (Or.inl ⟨by rfl, ?hy14r⟩) (by assumption) ?rest14r
  case hy14r => (intro zz hSw; (try dsimp only at hSw); go_simp; (try with_reducible rfl))
  change wpAnyH _ _ _ _ _ _ _ (Act.put _ (some 69) _) _
  simp only [Act.put, List.setIfInBounds_toArray, List.set_cons_zero, List.set_cons_succ]
  refine wpAnyH_take (i := 15) (v := ?v15r) rfl (by kernel_rfl) (by kernel_rfl) (by kernel_rfl) (fun _ _ _ h => h) (Or.inl ⟨by rfl, ?hy15r⟩) (by assumption) ?rest15r
  case hy15r => (intro zz hSw; (try dsimp only at hSw); go_simp; (try with_reducible rfl))
  change wpAnyH _ _ _ _ _ _ _ (Act.put _ (some 70) _) _
  simp only [Act.put, List.setIfInBounds_toArray, List.set_cons_zero, List.set_cons_succ]
  refine wpAnyH_take (i := 16) (v := ?v16r) rfl (by kernel_rfl) (by kernel_rfl) (by kernel_rfl) (fun _ _ _ h => h) (Or.inl ⟨by rfl, ?hy16r⟩) (by assumption) ?rest16r
  case hy16r => (intro zz hSw; (try dsimp only at hSw); go_simp; (try with_reducible rfl))
  change wpAnyH _ _ _ _ _ _ _ (Act.put _ (some 71) _) _
  simp only [Act.put, List.setIfInBounds_toArray, List.set_cons_zero, List.set_cons_succ]
  refine wpAnyH_take (i := 17) (v := ?v17r) rfl (by kernel_rfl) (by kernel_rfl) (by kernel_rfl) (fun _ _ _ h => h) (Or.inl ⟨by rfl, ?hy17r⟩) (by assumption) ?rest17r
  case hy17r => (intro zz hSw; (try dsimp only at hSw); go_simp; (try with_reducible rfl))
  change wpAnyH _ _ _ _ _ _ _ (Act.put _ (some 72) _) _
  simp only [Act.put, List.setIfInBounds_toArray, List.set_cons_zero, List.set_cons_succ]
  refine wpAnyH_take (i := 19) (v := ?v19r) rfl (by kernel_rfl) (by kernel_rfl) (by kernel_rfl) (fun _ _ _ h => h) (Or.inl ⟨by rfl, ?hy19r⟩) (by assumption) ?rest19r
  case hy19r => (intro zz hSw; (try dsimp only at hSw); go_simp; (try with_reducible rfl))
  change wpAnyH _ _ _ _ _ _ _ (Act.put _ (some 74) _) _
  simp only [Act.put, List.setIfInBounds_toArray, List.set_cons_zero, List.set_cons_succ]
  refine wpAnyH_ready (rs := [18]) (by kernel_rfl) (by simp) (AllReadyH.cons rfl (fun K hK => ?_) AllReadyH.nil)
  go_simp
  refine (implCell_is HCO.out _).mono ?_; rintro e wD ⟨rfl, bel⟩
  refine hK.out _ _ (⟨cob bel hHeld.2.2.2.2.2 hq1 hHeld.1, cob bel hHeld.2.2.2.2.2 hq1 hHeld.2.1, cob bel hHeld.2.2.2.2.2 hq1 hHeld.2.2.1, cob bel hHeld.2.2.2.2.2 hq1 hHeld.2.2.2.1, cob bel hHeld.2.2.2.2.2 hq1 hHeld.2.2.2.2.1, bel_tr hHeld.2.2.2.2.2 bel (Nat.le_refl _)⟩) (fun hHeld => ?_)
  clear hK K bel
  refine wpAnyH_ready (rs := [20]) (by kernel_rfl) (by simp) (AllReadyH.cons rfl (fun K hK => ?_) AllReadyH.nil)
  go_simp
  refine (specCell_is HCO.out HCM.out _).mono ?_; rintro e w8 ⟨rfl, bel⟩
  refine hK.out _ _ (⟨cob bel hHeld.2.2.2.2.2 hq1 hHeld.1, cob bel hHeld.2.2.2.2.2 hq1 hHeld.2.1, cob bel hHeld.2.2.2.2.2 hq1 hHeld.2.2.1, cob bel hHeld.2.2.2.2.2 hq1 hHeld.2.2.2.1, cob bel hHeld.2.2.2.2.2 hq1 hHeld.2.2.2.2.1, bel_tr hHeld.2.2.2.2.2 bel (Nat.le_refl _)⟩) (fun hHeld => ?_)
  clear hK K bel
  refine wpAnyH_take (i := 21) (v := ?v21r) rfl (by kernel_rfl) (by kernel_rfl) (by kernel_rfl) (fun _ _ _ h => h) (Or.inl ⟨by rfl, ?hy21r⟩) (by assumption) ?rest21r
  case hy21r => (intro zz hSw; (try dsimp only at hSw); go_simp; (try with_reducible rfl))
  change wpAnyH _ _ _ _ _ _ _ (Act.put _ (some 76) _) _
  simp only [Act.put, List.setIfInBounds_toArray, List.set_cons_zero, List.set_cons_succ]
  refine wpAnyH_take (i := 22) (v := ?v22r) rfl (by kernel_rfl) (by kernel_rfl) (by kernel_rfl) (fun _ _ _ h => h) (Or.inl ⟨by rfl, ?hy22r⟩) (by assumption) ?rest22r
  case hy22r => (intro zz hSw; (try dsimp only at hSw); go_simp; (try with_reducible rfl))
  change wpAnyH _ _ _ _ _ _ _ (Act.put _ (some 77) _) _
  simp only [Act.put, List.setIfInBounds_toArray, List.set_cons_zero, List.set_cons_succ]
  refine wpAnyH_done (by kernel_rfl) ?_ _
  have b8 := hHeld.2.2.2.2.2
  have B8 := Lib.hid (bel_tr B7.out b8 (Nat.le_refl _))
  have X8 := Lib.hid (show Bc p1 c.r c.b c.t c.v c.g w8 from ⟨hHeld.1, hHeld.2.1, hHeld.2.2.1, hHeld.2.2.2.1, hHeld.2.2.2.2.1, Nat.lt_of_lt_of_le hq1 b8.size⟩)
  have Y8 := Lib.hid (Y7.out.next b8)
  have HV8 := Lib.hid (HV7.out.below b8)
  have HU8 := Lib.hid (HU7.out.below b8)
  have HQ8 := Lib.hid (HQ7.out.below b8); clear b8 hHeld B7 Y7 HV7 HU7 HQ7 HW7 HS n1 n2 n3 hq1
  go_wp2_with fail
  refine (find_spec HF.out w8 a4 cap4 k hk HQ8.out HQM.out HKM.out (by omega)).mono ?_; rintro e w9 ⟨rfl, b9⟩
  have B9 := Lib.hid (bel_tr B8.out b9 (Nat.le_refl _))
  have X9 := Lib.hid (X8.out.next b9)
  have Y9 := Lib.hid (Y8.out.next b9)
  have HV9 := Lib.hid (HV8.out.below b9)
  have HU9 := Lib.hid (HU8.out.below b9)
  have HQ9 := Lib.hid (HQ8.out.below b9); clear b9 B8 X8 Y8 HV8 HU8 HQ8
  rcases find_cases HF.out with rfl | ⟨rfl, rfl, rfl, f1, f2⟩
  · skip
    have HF9 := Lib.hid (Bc.made fr fs ft fv fg w9 28)
    have BD := Lib.hid (bel1 w9 (.cells #[.string fr, .string fs, .int .i64 ft, .int .i64 fv, .bool fg] 28))
    obtain ⟨y0, y1, y2, y3, y4, -⟩ := Y9.out.next BD.out
    have hce := cell_self fr fs ft fv fg
    go_wp2_with fail
    clear y0 y1 y2 y3 y4 hce
    generalize w9.alloc (Obj.cells #[Value.string fr, Value.string fs, Value.int IntKind.i64 ft, Value.int IntKind.i64 fv, Value.bool fg] 28) = w10 at HF9 BD ⊢
    generalize w9.heap.size = p3 at HF9 ⊢
    have B10 := Lib.hid (bel_tr B9.out BD.out (Nat.le_refl _))
    have X10 := Lib.hid (X9.out.next BD.out)
    have Y10 := Lib.hid (Y9.out.next BD.out)
    have HV10 := Lib.hid (HV9.out.below BD.out)
    have HU10 := Lib.hid (HU9.out.below BD.out)
    have HQ10 := Lib.hid (HQ9.out.below BD.out)
    clear B9 X9 Y9 HV9 HU9 HQ9 BD HF9
    go_loopw [17, 18] (fun i _ wr => i = .int .i64 0 ∧ Below w10.heap.size w10 wr) (fun _ _ _ => 0)
    case atStart => exact ⟨rfl, Below.refl _ _⟩
    case round =>
      obtain ⟨rfl, hbr⟩ := hrel
      have HBR := Lib.hid hbr; clear hbr
      by_cases h0 : k = 0
      · subst h0
        have BE := Lib.hid (bel_tr B10.out HBR.out (Nat.le_refl _))
        have HXE := Lib.hid (X10.out.next HBR.out)
        have HVE := Lib.hid (HV10.out.below HBR.out)
        have HUE := Lib.hid (HU10.out.below HBR.out)
        rcases HPC.out with ⟨k1, k2, k3⟩ | ⟨k1, k2, k3⟩ | ⟨k3, k1, k2, k4, k5⟩
        · subst k3
          have m0 : m = 0 := by rw [← hm, k2]; rfl
          have HK1 := Lib.hid k1
          clear k1 k2 hm
          subst m0
          go_wp2_with fail
          refine (specCells_is HK1.out _ a cap n hn HVE.out HLM.out (by omega)).mono ?_; rintro e wA ⟨rfl, bA⟩
          have BA := Lib.hid (bel_tr BE.out bA (Nat.le_refl _)); clear bA
          go_wp2_with fail
          go_ret
          exact ⟨rfl, BA.out⟩
        · subst k3
          subst k2
          have mn : m = n := by omega
          have HK1 := Lib.hid k1
          clear k1 hm
          subst mn
          go_wp2_with fail
          refine (specCells_is HK1.out _ a cap m hn HVE.out HLM.out (by omega)).mono ?_; rintro e wA ⟨rfl, bA⟩
          have BA := Lib.hid (bel_tr BE.out bA (Nat.le_refl _))
          have VA := Lib.hid (HVE.out.below bA)
          have UA := Lib.hid (HUE.out.below bA); clear bA
          go_wp2_with fail
          refine (like_same _ a3 a cap3 cap pl m hn UA.out VA.out (by omega)).mono ?_; rintro e wB ⟨rfl, bB⟩
          have BB := Lib.hid (bel_tr BA.out bB (Nat.le_refl _)); clear bB
          go_wp2_with fail
          go_ret
          exact ⟨rfl, BB.out⟩
        · subst k3
          have HK1 := Lib.hid k1
          have HK2 := Lib.hid k2
          have j1 : (n : Int) ≤ (m : Int) := by omega
          have j2 : (m : Int) ≤ (n : Int) + 1 := by omega
          have hce := cell_self c.r c.b c.t c.v c.g
          clear k1 k2 k4 k5
          obtain ⟨x0, x1, x2, x3, x4, -⟩ := id HXE.out
          go_wp2_with fail
          refine (find_impl HK2.out _ a3 cap3 m hm HUE.out (by omega)).mono ?_; rintro e wA ⟨rfl, bA⟩
          clear x0 x1 x2 x3 x4
          have BA := Lib.hid (bel_tr BE.out bA (Nat.le_refl _))
          have XA := Lib.hid (HXE.out.next bA)
          have UA := Lib.hid (HUE.out.below bA); clear bA
          have YA := Lib.hid (Bc.made c.r c.b c.t c.v c.g wA 28)
          have BY := Lib.hid (bel1 wA (.cells #[.string c.r, .string c.b, .int .i64 c.t, .int .i64 c.v, .bool c.g] 28))
          go_wp2_with fail
          generalize wA.alloc (Obj.cells #[Value.string c.r, Value.string c.b, Value.int IntKind.i64 c.t, Value.int IntKind.i64 c.v, Value.bool c.g] 28) = wB at YA BY ⊢
          generalize wA.heap.size = p5 at YA ⊢
          have BB := Lib.hid (bel_tr BA.out BY.out (Nat.le_refl _))
          have XB := Lib.hid (XA.out.next BY.out)
          have UB := Lib.hid (UA.out.below BY.out); clear BY
          refine (implCells_is HK1.out _ a3 cap3 m hm UB.out (by omega)).mono ?_; rintro e wC ⟨rfl, bC⟩
          have BC := Lib.hid (bel_tr BB.out bC (Nat.le_refl _))
          obtain ⟨x0, x1, x2, x3, x4, -⟩ := XB.out.next bC
          obtain ⟨y0, y1, y2, y3, y4, -⟩ := YA.out.next bC
          clear bC
          go_wp2_with fail
          go_ret
          exact ⟨rfl, BC.out⟩
      · have i1 : (0 : Int) < (k : Int) := by omega
        have BE := Lib.hid (bel_tr B10.out HBR.out (Nat.le_refl _))
        have HXE := Lib.hid (X10.out.next HBR.out)
        have HVE := Lib.hid (HV10.out.below HBR.out)
        have HUE := Lib.hid (HU10.out.below HBR.out)
        rcases HPC.out with ⟨k1, k2, k3⟩ | ⟨k1, k2, k3⟩ | ⟨k3, k1, k2, k4, k5⟩
        · subst k3
          have m0 : m = 0 := by rw [← hm, k2]; rfl
          have HK1 := Lib.hid k1
          clear k1 k2 hm
          subst m0
          go_wp2_with fail
          refine (specCells_is HK1.out _ a cap n hn HVE.out HLM.out (by omega)).mono ?_; rintro e wA ⟨rfl, bA⟩
          have BA := Lib.hid (bel_tr BE.out bA (Nat.le_refl _)); clear bA
          go_wp2_with fail
          go_ret
          exact ⟨rfl, BA.out⟩
        · subst k3
          subst k2
          have mn : m = n := by omega
          have HK1 := Lib.hid k1
          clear k1 hm
          subst mn
          go_wp2_with fail
          refine (specCells_is HK1.out _ a cap m hn HVE.out HLM.out (by omega)).mono ?_; rintro e wA ⟨rfl, bA⟩
          have BA := Lib.hid (bel_tr BE.out bA (Nat.le_refl _))
          have VA := Lib.hid (HVE.out.below bA)
          have UA := Lib.hid (HUE.out.below bA); clear bA
          go_wp2_with fail
          refine (like_same _ a3 a cap3 cap pl m hn UA.out VA.out (by omega)).mono ?_; rintro e wB ⟨rfl, bB⟩
          have BB := Lib.hid (bel_tr BA.out bB (Nat.le_refl _)); clear bB
          go_wp2_with fail
          go_ret
          exact ⟨rfl, BB.out⟩
        · subst k3
          have HK1 := Lib.hid k1
          have HK2 := Lib.hid k2
          have j1 : (n : Int) ≤ (m : Int) := by omega
          have j2 : (m : Int) ≤ (n : Int) + 1 := by omega
          have hce := cell_self c.r c.b c.t c.v c.g
          clear k1 k2 k4 k5
          obtain ⟨x0, x1, x2, x3, x4, -⟩ := id HXE.out
          go_wp2_with fail
          refine (find_impl HK2.out _ a3 cap3 m hm HUE.out (by omega)).mono ?_; rintro e wA ⟨rfl, bA⟩
          clear x0 x1 x2 x3 x4
          have BA := Lib.hid (bel_tr BE.out bA (Nat.le_refl _))
          have XA := Lib.hid (HXE.out.next bA)
          have UA := Lib.hid (HUE.out.below bA); clear bA
          have YA := Lib.hid (Bc.made c.r c.b c.t c.v c.g wA 28)
          have BY := Lib.hid (bel1 wA (.cells #[.string c.r, .string c.b, .int .i64 c.t, .int .i64 c.v, .bool c.g] 28))
          go_wp2_with fail
          generalize wA.alloc (Obj.cells #[Value.string c.r, Value.string c.b, Value.int IntKind.i64 c.t, Value.int IntKind.i64 c.v, Value.bool c.g] 28) = wB at YA BY ⊢
          generalize wA.heap.size = p5 at YA ⊢
          have BB := Lib.hid (bel_tr BA.out BY.out (Nat.le_refl _))
          have XB := Lib.hid (XA.out.next BY.out)
          have UB := Lib.hid (UA.out.below BY.out); clear BY
          refine (implCells_is HK1.out _ a3 cap3 m hm UB.out (by omega)).mono ?_; rintro e wC ⟨rfl, bC⟩
          have BC := Lib.hid (bel_tr BB.out bC (Nat.le_refl _))
          obtain ⟨x0, x1, x2, x3, x4, -⟩ := XB.out.next bC
          obtain ⟨y0, y1, y2, y3, y4, -⟩ := YA.out.next bC
          clear bC
          go_wp2_with fail
          go_ret
          exact ⟨rfl, BC.out⟩
  · have HF2 := Lib.hid f2; clear f2
    have q1 : (K.r.toList == K.r.toList) = true := by simp
    have q2 : (K.b.toList == K.b.toList) = true := by simp
    have q3 : ¬ K.t < ft := by omega
    have HF9 := Lib.hid (Bc.made K.r K.b ft fv fg w9 28)
    have BD := Lib.hid (bel1 w9 (.cells #[.string K.r, .string K.b, .int .i64 ft, .int .i64 fv, .bool fg] 28))
    obtain ⟨y0, y1, y2, y3, y4, -⟩ := Y9.out.next BD.out
    have hce := cell_self K.r K.b ft fv fg
    go_wp2_with fail
    clear y0 y1 y2 y3 y4 hce
    generalize w9.alloc (Obj.cells #[Value.string K.r, Value.string K.b, Value.int IntKind.i64 ft, Value.int IntKind.i64 fv, Value.bool fg] 28) = w10 at HF9 BD ⊢
    generalize w9.heap.size = p3 at HF9 ⊢
    have B10 := Lib.hid (bel_tr B9.out BD.out (Nat.le_refl _))
    have X10 := Lib.hid (X9.out.next BD.out)
    have Y10 := Lib.hid (Y9.out.next BD.out)
    have HV10 := Lib.hid (HV9.out.below BD.out)
    have HU10 := Lib.hid (HU9.out.below BD.out)
    have HQ10 := Lib.hid (HQ9.out.below BD.out)
    clear B9 X9 Y9 HV9 HU9 HQ9 BD HF9
    go_loopw [17, 18] (fun i _ wr => ∃ j : Nat, j ≤ k ∧ i = .int .i64 j ∧ Below w10.heap.size w10 wr) (fun i _ _ => k - intV i)
    case atStart => exact ⟨0, Nat.zero_le _, rfl, Below.refl _ _⟩
    case round =>
      obtain ⟨j, hj, rfl, hbr⟩ := hrel
      have HBR := Lib.hid hbr; clear hbr
      by_cases hlt : j < k
      · have j1 : (j : Int) < (k : Int) := by omega
        obtain ⟨d, hd⟩ : ∃ d, q[j]? = some d := ⟨q[j], List.getElem?_eq_getElem (by omega)⟩
        have hdm := HF2.out d (List.mem_of_getElem? hd)
        obtain ⟨g, o, rfl, hg, h5⟩ := HQ10.out.2.2.2 j d hd
        obtain ⟨c0, c1, c2, c3, c4⟩ : At5 wr g (o + j * 5) d := h5.same (HBR.out.block g hg)
        have BX := Lib.hid (bel1 wr (.cells #[.string d.r, .string d.b, .int .i64 d.t] 26))
        obtain ⟨-, -, y2, -, -, -⟩ := (Y10.out.next HBR.out).next BX.out
        have HG := Lib.hid (bel_tr HBR.out BX.out (Nat.le_refl _))
        clear h5 hg hd BX
        cases e1 : (d.r.toList == K.r.toList)
        · go_wp2_with fail
          go_roundw
          case rel => exact ⟨j + 1, by omega, by go_num, HG.out⟩
          case measure => simp [intV]; omega
        · cases e2 : (d.b.toList == K.b.toList)
          · go_wp2_with fail
            go_roundw
            case rel => exact ⟨j + 1, by omega, by go_num, HG.out⟩
            case measure => simp [intV]; omega
          · by_cases e3 : d.t ≤ K.t
            · have e4 := hdm (ba_ext (by simpa using e1)) (ba_ext (by simpa using e2)) e3
              have e5 : ¬ ft < d.t := by omega
              clear hdm
              go_wp2_with fail
              go_roundw
              case rel => exact ⟨j + 1, by omega, by go_num, HG.out⟩
              case measure => simp [intV]; omega
            · clear hdm
              go_wp2_with fail
              go_roundw
              case rel => exact ⟨j + 1, by omega, by go_num, HG.out⟩
              case measure => simp [intV]; omega
      · obtain rfl : j = k := by omega
        have BE := Lib.hid (bel_tr B10.out HBR.out (Nat.le_refl _))
        have HXE := Lib.hid (X10.out.next HBR.out)
        have HVE := Lib.hid (HV10.out.below HBR.out)
        have HUE := Lib.hid (HU10.out.below HBR.out)
        rcases HPC.out with ⟨k1, k2, k3⟩ | ⟨k1, k2, k3⟩ | ⟨k3, k1, k2, k4, k5⟩
        · subst k3
          have m0 : m = 0 := by rw [← hm, k2]; rfl
          have HK1 := Lib.hid k1
          clear k1 k2 hm
          subst m0
          go_wp2_with fail
          refine (specCells_is HK1.out _ a cap n hn HVE.out HLM.out (by omega)).mono ?_; rintro e wA ⟨rfl, bA⟩
          have BA := Lib.hid (bel_tr BE.out bA (Nat.le_refl _)); clear bA
          go_wp2_with fail
          go_ret
          exact ⟨rfl, BA.out⟩
        · subst k3
          subst k2
          have mn : m = n := by omega
          have HK1 := Lib.hid k1
          clear k1 hm
          subst mn
          go_wp2_with fail
          refine (specCells_is HK1.out _ a cap m hn HVE.out HLM.out (by omega)).mono ?_; rintro e wA ⟨rfl, bA⟩
          have BA := Lib.hid (bel_tr BE.out bA (Nat.le_refl _))
          have VA := Lib.hid (HVE.out.below bA)
          have UA := Lib.hid (HUE.out.below bA); clear bA
          go_wp2_with fail
          refine (like_same _ a3 a cap3 cap pl m hn UA.out VA.out (by omega)).mono ?_; rintro e wB ⟨rfl, bB⟩
          have BB := Lib.hid (bel_tr BA.out bB (Nat.le_refl _)); clear bB
          go_wp2_with fail
          go_ret
          exact ⟨rfl, BB.out⟩
        · subst k3
          have HK1 := Lib.hid k1
          have HK2 := Lib.hid k2
          have j1 : (n : Int) ≤ (m : Int) := by omega
          have j2 : (m : Int) ≤ (n : Int) + 1 := by omega
          have hce := cell_self c.r c.b c.t c.v c.g
          clear k1 k2 k4 k5
          obtain ⟨x0, x1, x2, x3, x4, -⟩ := id HXE.out
          go_wp2_with fail
          refine (find_impl HK2.out _ a3 cap3 m hm HUE.out (by omega)).mono ?_; rintro e wA ⟨rfl, bA⟩
          clear x0 x1 x2 x3 x4
          have BA := Lib.hid (bel_tr BE.out bA (Nat.le_refl _))
          have XA := Lib.hid (HXE.out.next bA)
          have UA := Lib.hid (HUE.out.below bA); clear bA
          have YA := Lib.hid (Bc.made c.r c.b c.t c.v c.g wA 28)
          have BY := Lib.hid (bel1 wA (.cells #[.string c.r, .string c.b, .int .i64 c.t, .int .i64 c.v, .bool c.g] 28))
          go_wp2_with fail
          generalize wA.alloc (Obj.cells #[Value.string c.r, Value.string c.b, Value.int IntKind.i64 c.t, Value.int IntKind.i64 c.v, Value.bool c.g] 28) = wB at YA BY ⊢
          generalize wA.heap.size = p5 at YA ⊢
          have BB := Lib.hid (bel_tr BA.out BY.out (Nat.le_refl _))
          have XB := Lib.hid (XA.out.next BY.out)
          have UB := Lib.hid (UA.out.below BY.out); clear BY
          refine (implCells_is HK1.out _ a3 cap3 m hm UB.out (by omega)).mono ?_; rintro e wC ⟨rfl, bC⟩
          have BC := Lib.hid (bel_tr BB.out bC (Nat.le_refl _))
          obtain ⟨x0, x1, x2, x3, x4, -⟩ := XB.out.next bC
          obtain ⟨y0, y1, y2, y3, y4, -⟩ := YA.out.next bC
          clear bC
          go_wp2_with fail
          go_ret
          exact ⟨rfl, BC.out⟩
end Go.Proofs.Ytkkpokfekbdigaa.Cl
