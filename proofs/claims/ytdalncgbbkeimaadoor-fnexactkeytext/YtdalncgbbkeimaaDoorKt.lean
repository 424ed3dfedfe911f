/-
  Contracts of spec.KeyText and impl.KeyText: both give the text 'ktx' of the key's bytes, for every key, nothing that was there turned.
-/
import Derived.Test.YtdalncgbbkeimaaDoorKy
import Derived.Test.YtdalncgbbkeimaaDoorDg
import Derived.Test.YtdalncgbbkeimaaDoorSh
import Derived.WalkSmall
import Derived.Lib.AppendIntMem
import Derived.Deep.RegionHeld3
import Derived.Deep.QuietTactic
import Derived.BigQuiet
namespace Go.Proofs.YtdalncgbbkeimaaDoor.Kp
open Go.RowKit Wd Rp
theorem fmt_any (n : Nat) (hn : n ≤ 1000000) (w : World) (hL : LibT w) :
    Calls Tryd.prog 64 #[.int .i64 n, .int .i64 10] w fun e w' => e = .returned (.string (tx (Lib.decDigits n))) ∧ Below w.heap.size w w' := by
  refine (Tryd.strconv_FormatInt_10 n (by omega) (by omega) w hL.1).mono ?_
  rintro e w2 ⟨rfl, k, os, rfl⟩
  exact ⟨by rw [Lib.itoa_nonneg]; rfl, Lib.below_grow _ _ (Nat.le_refl _) _ _⟩
theorem rep_any (s : ByteArray) (hs : 1 ≤ s.size) (hs' : s.size ≤ 7) (w : World) :
    Calls Tryd.prog 89 #[.string ⟨#[48]⟩, .int .i64 (7 - (s.size : Int))] w fun e w' => e = .returned (.string (tx (List.replicate (7 - s.size) 48))) ∧ Below w.heap.size w w' := by
  have e : (7 - (s.size : Int)) = ((7 - s.size : Nat) : Int) := by omega
  rw [e]
  refine (Tryd.strings_Repeat ⟨#[48]⟩ (7 - s.size) w (by omega) (by show 1 * _ ≤ _; omega)).mono ?_
  rintro e w2 ⟨rfl, hb⟩
  refine ⟨?_, hb⟩
  have := Lib.repeatL_replicate 48 1 (7 - s.size)
  rw [Nat.mul_one] at this
  rw [← this]; rfl
theorem dec_size (n : Nat) (hn : n ≤ 1000000) : 1 ≤ (tx (Lib.decDigits n)).size ∧ (tx (Lib.decDigits n)).size ≤ 7 := by
  rw [tx_size]
  have h := dec_is n n (Nat.le_refl _)
  exact ⟨List.length_pos_iff.2 h.2.2.1, dec_len 6 n (by omega)⟩
theorem pad_tx (n : Nat) (hn : n ≤ 1000000) : tx (List.replicate (7 - (tx (Lib.decDigits n)).size) 48) ++ tx (Lib.decDigits n) = tx (fixd 7 n) := by
  rw [tx_app, tx_size, ← pad_fix 6 n (by omega)]
set_option maxHeartbeats 1000000 in
theorem timeText_any (t : Int) (ht : 0 ≤ t) (ht' : t ≤ 1000000) (w : World) (hL : LibT w) :
    Calls Tryd.prog 58 #[.int .i64 t] w fun e w' => e = .returned (.string (tx (fixd 7 (1000000 - t).toNat))) ∧ Below w.heap.size w w' := by
  obtain ⟨n, rfl⟩ : ∃ n : Nat, t = 1000000 - (n : Int) := ⟨(1000000 - t).toNat, by omega⟩
  have hn : n ≤ 1000000 := by omega
  have HN : (1000000 - (1000000 - (n : Int))) = (n : Int) := by omega
  obtain ⟨d0, d1⟩ := dec_size n hn
  have HP := Lib.hid (pad_tx n hn)
  have HF := Lib.hid (fmt_any n hn w hL)
  have hR := rep_any (tx (Lib.decDigits n)) d0 d1
  have HR := Lib.hid hR; clear hR
  generalize hs : tx (Lib.decDigits n) = s at d0 d1 HP HF HR
  clear hs hL
  have hz : (tx (List.replicate (7 - s.size) 48)).size = 7 - s.size := by rw [tx_size]; simp
  generalize tx (List.replicate (7 - s.size) 48) = z at hz HP HR
  have hsum : ¬ 9223372036854775807 < z.size + s.size := by omega
  have HE : (1000000 - (1000000 - (n : Int))).toNat = n := by omega
  have HE2 := Lib.hid HE; clear HE hz
  go_enter Tryd.func58, Tryd.ntmps58
  go_wp2_with fail
  refine HF.out.mono ?_; rintro e w1 ⟨rfl, b1⟩
  go_wp2_with fail
  refine (HR.out _).mono ?_; rintro e w2 ⟨rfl, b2⟩
  have B2 := Lib.hid (bel_tr b1 b2 (Nat.le_refl _)); clear b1 b2
  go_wp2_with fail
  go_ret
  exact ⟨by rw [HE2.out, ← HP.out]; rfl, B2.out⟩
/-- What KeyText gives. -/
def TextPost (r b : ByteArray) (t : Int) (w : World) (e : Ending) (w' : World) : Prop := e = .returned (.string (tx (ktx r.data.toList b.data.toList t))) ∧ Below w.heap.size w w'
theorem ktx_join {r b : ByteArray} {t : Int} (h : keyB r.data.toList b.data.toList t = true) : (((r ++ (⟨#[1]⟩ : ByteArray)) ++ b) ++ (⟨#[1]⟩ : ByteArray)) ++ tx (fixd 7 (1000000 - t).toNat) = tx (ktx r.data.toList b.data.toList t) := by
  apply tx_eq
  rw [ktx_yes h, Joins.data_append, Joins.data_append, Joins.data_append, Joins.data_append, tx_data]
  simp
/-- One block that holds a key, behind further work. -/
theorem one_next {r b : ByteArray} {t : Int} {w x y : World} (hb : Below x.heap.size x y)
    (h : x.cell? ⟨w.heap.size, 0, none⟩ = some (.string r) ∧ x.cell? ⟨w.heap.size, 1, none⟩ = some (.string b) ∧ x.cell? ⟨w.heap.size, 2, none⟩ = some (.int .i64 t) ∧ Below w.heap.size w x ∧ w.heap.size < x.heap.size) :
    y.cell? ⟨w.heap.size, 0, none⟩ = some (.string r) ∧ y.cell? ⟨w.heap.size, 1, none⟩ = some (.string b) ∧ y.cell? ⟨w.heap.size, 2, none⟩ = some (.int .i64 t) ∧ Below w.heap.size w y ∧ w.heap.size < y.heap.size := by
  obtain ⟨x0, x1, x2, hd, hl⟩ := h
  have e : y.heap[w.heap.size]? = x.heap[w.heap.size]? := hb.block _ (by omega)
  exact ⟨(World.cell?_of_block (w := x) e).trans x0, (World.cell?_of_block (w := x) e).trans x1, (World.cell?_of_block (w := x) e).trans x2, bel_tr hd hb (Nat.le_refl _), Nat.lt_of_lt_of_le hl hb.size⟩
set_option maxHeartbeats 2000000 in
theorem implText_any (r b : ByteArray) (t : Int) (w : World) (hL : LibT w) :
    Calls Tryd.prog 19 #[.agg #[.string r, .string b, .int .i64 t]] w (TextPost r b t w) := by
  have HB := Lib.hid (bel1 w)
  have HX := Lib.hid (Bx.made r b t w)
  have HL := Lib.hid hL; clear hL
  cases h1 : keyB r.data.toList b.data.toList t
  · have HK := Lib.hid (ktx_no h1)
    have H1 := Lib.hid h1; clear h1
    go_enter Tryd.func19, Tryd.ntmps19
    go_wp2_with fail
    refine (implKey_is H1.out _).mono ?_; rintro e w1 ⟨rfl, b1⟩
    have B1 := Lib.hid (bel_tr (HB.out _) b1 (Nat.le_refl _)); clear b1
    go_wp2_with fail
    go_ret
    exact ⟨by rw [HK.out]; rfl, B1.out⟩
  · have HK := Lib.hid (ktx_join h1)
    have hk := keyB_iff.1 h1
    have hr := nm_len hk.1
    have hb := nm_len hk.2.1
    rw [llen] at hr hb
    obtain ⟨t0, t1⟩ := hk.2.2
    clear hk
    have H1 := Lib.hid h1; clear h1
    have g1 : r.size + (⟨#[1]⟩ : ByteArray).size ≤ 9223372036854775807 := by show r.size + 1 ≤ _; omega
    have g2 : (r ++ (⟨#[1]⟩ : ByteArray)).size + b.size ≤ 9223372036854775807 := by rw [ByteArray.size_append]; show r.size + 1 + b.size ≤ _; omega
    have g3 : ((r ++ (⟨#[1]⟩ : ByteArray)) ++ b).size + (⟨#[1]⟩ : ByteArray).size ≤ 9223372036854775807 := by rw [ByteArray.size_append, ByteArray.size_append]; show r.size + 1 + b.size + 1 ≤ _; omega
    have g4 : (((r ++ (⟨#[1]⟩ : ByteArray)) ++ b) ++ (⟨#[1]⟩ : ByteArray)).size + (tx (fixd 7 (1000000 - t).toNat)).size ≤ 9223372036854775807 := by rw [ByteArray.size_append, ByteArray.size_append, ByteArray.size_append, tx_size, fix_len]; show r.size + 1 + b.size + 1 + 7 ≤ _; omega
    have c1 := fun w => run_string_add_sum (P := Tryd.prog) w _ _ g1
    have c2 := fun w => run_string_add_sum (P := Tryd.prog) w _ _ g2
    have c3 := fun w => run_string_add_sum (P := Tryd.prog) w _ _ g3
    have c4 := fun w => run_string_add_sum (P := Tryd.prog) w _ _ g4
    clear g1 g2 g3 g4
    go_enter Tryd.func19, Tryd.ntmps19
    go_wp2_with fail
    refine (implKey_is H1.out _).mono ?_; rintro e w1 ⟨rfl, b1⟩
    have B1 := bel_tr (HB.out _) b1 (Nat.le_refl _)
    obtain ⟨x0, x1, x2, xl⟩ := (HX.out _).next b1; clear b1
    have HS := Lib.hid (one_next (Below.refl _ w1).drew ⟨x0, x1, x2, B1, xl⟩)
    have HL1 := Lib.hid (HL.out.next B1.drew)
    clear x0 x1 x2 xl B1
    go_wp2_with fail
    go_region_held3 (fun z => z.cell? ⟨w.heap.size, 0, none⟩ = some (.string r) ∧ z.cell? ⟨w.heap.size, 1, none⟩ = some (.string b) ∧ z.cell? ⟨w.heap.size, 2, none⟩ = some (.int .i64 t) ∧ Below w.heap.size w z ∧ w.heap.size < z.heap.size)
      (first | exact HS.out | (refine one_next (by assumption) ?_; assumption))
      (first | (go_at_call 58; refine (timeText_any t t0 t1 _ HL1.out).mono ?_; rintro e w' ⟨rfl, bel⟩))
    rename_i hg
    have HG := Lib.hid hg; clear hg
    go_wp2_with fail
    go_ret
    exact ⟨by rw [← HK.out]; rfl, HG.out.2.2.2.1⟩
theorem l1Int_fix (t : Int) (ht : 0 ≤ t) (ht' : t ≤ 1000000) (w : World) :
    Calls Tryd.prog 90 #[.int .i64 (11000000 - t)] w fun e w' => e = .returned (.string (tx (49 :: fixd 7 (1000000 - t).toNat))) ∧ Below w.heap.size w w' := by
  refine (l1Int_any (11000000 - t) w (by omega) (by omega)).mono ?_
  rintro e w2 ⟨rfl, hb⟩
  refine ⟨?_, hb⟩
  have e1 : (11000000 - t) = ((10 ^ 7 + (1000000 - t).toNat : Nat) : Int) := by omega
  rw [e1, Lib.itoa_nonneg, dec_fix 7 _ (by omega)]; rfl
theorem tx_tail (c : UInt8) (l : List UInt8) : (tx (c :: l)).extract 1 (tx (c :: l)).size = tx l := by
  apply tx_eq
  rw [Lib.extract_data, tx_data, tx_size]
  simp
set_option maxHeartbeats 2000000 in
theorem l2Text_any (r b : ByteArray) (t : Int) (w : World) (h1 : keyB r.data.toList b.data.toList t = true) :
    Calls Tryd.prog 59 #[.agg #[.string r, .string b, .int .i64 t]] w (TextPost r b t w) := by
  have HB := Lib.hid (bel1 w)
  have HX := Lib.hid (Bx.made r b t w)
  have HK := Lib.hid (ktx_join h1)
  have hk := keyB_iff.1 h1
  have hr := nm_len hk.1
  have hb := nm_len hk.2.1
  rw [llen] at hr hb
  obtain ⟨t0, t1⟩ := hk.2.2
  clear hk h1
  have g1 : ¬ 9223372036854775807 < r.size + (⟨#[1]⟩ : ByteArray).size := by show ¬ _ < r.size + 1; omega
  have g2 : ¬ 9223372036854775807 < (r ++ (⟨#[1]⟩ : ByteArray)).size + b.size := by rw [ByteArray.size_append]; show ¬ _ < r.size + 1 + b.size; omega
  have g3 : ¬ 9223372036854775807 < ((r ++ (⟨#[1]⟩ : ByteArray)) ++ b).size + (⟨#[1]⟩ : ByteArray).size := by rw [ByteArray.size_append, ByteArray.size_append]; show ¬ _ < r.size + 1 + b.size + 1; omega
  have hsz : (tx (49 :: fixd 7 (1000000 - t).toNat)).size = 8 := by rw [tx_size, List.length_cons, fix_len]
  have HT := Lib.hid (tx_tail 49 (fixd 7 (1000000 - t).toNat))
  have HF := Lib.hid (l1Int_fix t t0 t1)
  have hq : (tx (fixd 7 (1000000 - t).toNat)).size = 7 := by rw [tx_size, fix_len]
  generalize tx (49 :: fixd 7 (1000000 - t).toNat) = s at hsz HT HF
  generalize tx (fixd 7 (1000000 - t).toNat) = q at HT HK hq
  have hx : s.extract 1 8 = q := by have := HT.out; rwa [hsz] at this
  have g4 : ¬ 9223372036854775807 < (((r ++ (⟨#[1]⟩ : ByteArray)) ++ b) ++ (⟨#[1]⟩ : ByteArray)).size + (s.extract 1 8).size := by rw [hx, hq, ByteArray.size_append, ByteArray.size_append, ByteArray.size_append]; show ¬ _ < r.size + 1 + b.size + 1 + 7; omega
  have HXq := Lib.hid hx; clear hx hq HT
  go_enter Tryd.func59, Tryd.ntmps59
  go_wp2_with fail
  refine (HF.out _).mono ?_; rintro e w1 ⟨rfl, b1⟩
  have B1 := Lib.hid (bel_tr (HB.out _) b1 (Nat.le_refl _))
  obtain ⟨x0, x1, x2, -⟩ := (HX.out _).next b1; clear b1
  go_wp2_with fail
  go_quiet (fail)
  go_wp2_with fail
  go_ret
  exact ⟨by rw [← HK.out, ← HXq.out]; rfl, bel_drewN B1.out _⟩
set_option maxHeartbeats 2000000 in
theorem specText_any (r b : ByteArray) (t : Int) (w : World) (hr : r.size ≤ 9223372036854775806) (hb : b.size ≤ 9223372036854775806) :
    Calls Tryd.prog 20 #[.agg #[.string r, .string b, .int .i64 t]] w (TextPost r b t w) := by
  have HB := Lib.hid (bel1 w)
  have HX := Lib.hid (Bx.made r b t w)
  cases h1 : keyB r.data.toList b.data.toList t
  · have HK := Lib.hid (ktx_no h1)
    have H1 := Lib.hid h1; clear h1
    go_enter Tryd.func20, Tryd.ntmps20
    go_wp2_with fail
    refine (specKey_is H1.out _ hr hb).mono ?_; rintro e w1 ⟨rfl, b1⟩
    have B1 := Lib.hid (bel_tr (HB.out _) b1 (Nat.le_refl _)); clear b1
    go_wp2_with fail
    go_ret
    exact ⟨by rw [HK.out]; rfl, B1.out⟩
  · have H1 := Lib.hid h1; clear h1
    go_enter Tryd.func20, Tryd.ntmps20
    go_wp2_with fail
    refine (specKey_is H1.out _ hr hb).mono ?_; rintro e w1 ⟨rfl, b1⟩
    have B1 := Lib.hid (bel_tr (HB.out _) b1 (Nat.le_refl _))
    obtain ⟨x0, x1, x2, -⟩ := (HX.out _).next b1; clear b1
    go_wp2_with fail
    refine (l2Text_any r b t _ H1.out).mono ?_; rintro e w2 ⟨rfl, b2⟩
    have B2 := Lib.hid (bel_tr B1.out b2 (Nat.le_refl _)); clear b2
    go_wp2_with fail
    go_ret
    exact ⟨rfl, B2.out⟩
end Go.Proofs.YtdalncgbbkeimaaDoor.Kp
