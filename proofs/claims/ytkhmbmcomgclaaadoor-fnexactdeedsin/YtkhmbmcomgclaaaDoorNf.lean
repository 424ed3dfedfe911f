/-
  Blocks read: contract of the reader's block; the reader at every depth. (Made by gen_nf.py.)
-/
import Derived.Test.YtkhmbmcomgclaaaDoorNe
namespace Go.Proofs.YtkhmbmcomgclaaaDoor.Cl
open Go.RowKit Wd Rp Cu Kp
set_option linter.unusedVariables false
theorem Sx.c1 {w0 z : World} {p : Nat} {l : List Tk} {o x : Int} (h : Sx w0 p l o x z) : z.cell? ⟨p, 1, none⟩ = some (.int .i64 o) := by
  rcases h with ⟨e', lf, h⟩ | ⟨e', h0, h1, h⟩
  · exact h.c1
  · exact h.c1
theorem Sx.f1 {w0 z : World} {p : Nat} {l : List Tk} {o x : Int} (h : Sx w0 p l o x z) : z.frozen? ⟨p, 1, none⟩ = false := by
  rcases h with ⟨e', lf, h⟩ | ⟨e', h0, h1, h⟩
  · exact h.f1
  · exact h.f1
theorem Sx.open {w0 z : World} {p : Nat} {l : List Tk} {o x : Int} (h : Sx w0 p l o x z) (o' : Int) : Sx w0 p l o' x (z.setCell ⟨p, 1, none⟩ (.int .i64 o')) := by
  rcases h with ⟨e', lf, h⟩ | ⟨e', h0, h1, h⟩
  · exact Or.inl ⟨e', lf, h.open o'⟩
  · exact Or.inr ⟨e', h0, h1, h.open o'⟩
theorem tkN_neg (l : List Tk) : tkN l (-1) = [] := by unfold tkN; rw [tkA_neg (by omega)]; rfl
theorem tkN_is {l : List Tk} {x : Int} {s : Tk} (hs : s ≠ []) : tkN l x = s ↔ tkA l x = some s := by
  unfold tkN
  cases h : tkA l x with
  | none => simp; exact hs
  | some t => simp
/-- Where a block ends, token by token. -/
theorem blX {l : List Tk} {f : Int → Int} (hA : ∀ i, Ahd l i (f i)) (x y j : Int) (hy : y = if tkN l x = [91] then tkX l x else -1) (hj : j = dlE l f (l.length + 1) y) : blS l f x = if tkN l j = [93] then tkX l j else -1 := by
  unfold blS
  by_cases h : tkA l x = some [91]
  · rw [if_pos ((tkN_is (by simp)).2 h)] at hy
    have e : tkX l x = x + 1 := by unfold tkX; rw [if_neg (by rw [h]; simp)]
    have := tkA_some h
    rw [if_pos h, ble_dl hA (l.length + 1) (x + 1) (by omega), ← e, ← hy, ← hj]
    by_cases h2 : tkA l j = some [93]
    · rw [if_pos h2, if_pos ((tkN_is (by simp)).2 h2)]
      unfold tkX; rw [if_neg (by rw [h2]; simp)]
    · rw [if_neg h2, if_neg (fun e => h2 ((tkN_is (by simp)).1 e))]
  · rw [if_neg (fun e => h ((tkN_is (by simp)).1 e))] at hy
    rw [if_neg h, hj, hy, dlE_neg _ _ _ (by omega), tkN_neg, if_neg (by simp)]
theorem blR_y {l : List Tk} {f : Int → Int} {R : Int → List Rc} {x y : Int} (hy : y = if tkN l x = [91] then tkX l x else -1) (h : y ≠ -1) : blR l f R x = dlR l f R (l.length + 1) y := by
  split at hy
  · rename_i e
    have e1 := (tkN_is (by simp)).1 e
    have e2 : tkX l x = x + 1 := by unfold tkX; rw [if_neg (by rw [e1]; simp)]
    rw [hy, e2]; rfl
  · exact absurd hy h
set_option maxHeartbeats 1000000 in
set_option maxRecDepth 100000 in
theorem deeds_fail {w0 : World} {p : Nat} {l : List Tk} {o : Int} {z : World} (h : Sx w0 p l o (-1) z) : Calls Tryd.prog 42 #[.pointer (some ⟨p, 0, none⟩)] z fun e z' => e = .returned (.slice none 0 0) ∧ z = z' := by
  rcases h with ⟨-, lf, r⟩ | ⟨e, -⟩
  · have c2 := r.c2
    clear r
    go_enter Tryd.func42, Tryd.ntmps42
    go_wp2_with fail
    go_loopw [3] (fun v wr => v = .slice none 0 0 ∧ z = wr) (fun _ _ => 0)
    case atStart => exact ⟨rfl, rfl⟩
    case round =>
      obtain ⟨rfl, rfl⟩ := hrel
      go_wp2_with fail
      go_ret
      exact ⟨rfl, rfl⟩
  · exact absurd rfl e
set_option maxHeartbeats 8000000 in
set_option maxRecDepth 100000 in
theorem block_core {w0 : World} {p : Nat} {l : List Tk} {D : Nat} {o x y J : Int} {F : List Rc} {z : World} (hs : Sx w0 p l o x z) (ho : -1000 ≤ o ∧ o ≤ 1000) (hy : y = if tkN l x = [91] then (if o + 1 ≤ 5 then tkX l x else -1) else -1)
    (hD : ∀ z, Sx w0 p l (o + 1) y z → Calls Tryd.prog 42 #[.pointer (some ⟨p, 0, none⟩)] z fun e z' => ∃ a n c, e = .returned (.slice a n c) ∧ But p z z' ∧ Sx w0 p l (o + 1) J z' ∧ (J ≠ -1 → DM w0 (z.heap.size ≤ ·) z' D (.slice a n c) F)) :
    Calls Tryd.prog 40 #[.pointer (some ⟨p, 0, none⟩)] z fun e z' => ∃ a n c, e = .returned (.slice a n c) ∧ But p z z' ∧ Sx w0 p l o (if tkN l J = [93] then tkX l J else -1) z' ∧ (J ≠ -1 → DM w0 (z.heap.size ≤ ·) z' D (.slice a n c) F) := by
  have HD := Lib.hid hD; clear hD
  have hp := hs.lo.2
  have c1 := hs.c1
  have f1 := hs.f1
  have i1 : IntKind.i64.wrap (o + 1) = o + 1 := by rw [IntKind.wrap_i64]; omega
  have i2 : IntKind.i64.wrap (o + 1 - 1) = o := by rw [IntKind.wrap_i64]; omega
  have HT := Lib.hid (token_x (hs.open (o + 1)))
  have BU1 := Lib.hid (but_set z p 1 (.int .i64 (o + 1)))
  have HY := Lib.hid hy
  clear hs hy
  obtain ⟨zz, hzz⟩ : ∃ zz, (if tkN l J = [93] then tkX l J else -1) = zz := ⟨_, rfl⟩
  rw [hzz]
  have HZ := Lib.hid hzz
  clear hzz
  generalize hx1 : tkX l x = x1 at *
  clear hx1
  go_enter Tryd.func40, Tryd.ntmps40
  go_wp2_with fail
  generalize z.setCell ⟨p, 1, none⟩ (.int .i64 (o + 1)) = w1 at *
  clear c1 f1
  refine HT.out.mono ?_; rintro e w2 ⟨t, rfl, b2, r2, ht⟩
  have BU2 := Lib.hid (BU1.out.trans b2)
  have R2 := Lib.hid r2
  rw [← ht] at HY
  have c2 := r2.c1
  clear b2 r2 ht HT
  by_cases h91 : t = [91]
  · subst h91
    have qe : ((tx [91]).toList == [91]) = true := tx_eqL _
    by_cases ho5 : o + 1 ≤ 5
    · have q5 : decide (o + 1 ≤ 5) = true := by simpa using ho5
      have hq0 : True := trivial
      go_wp2_with fail
      have HY' := Lib.hid (show y = (if (true : Bool) then x1 else -1) from by rw [HY.out]; simp [ho5])
      refine (require_x R2.out true).mono ?_; rintro e w3 ⟨rfl, b3, r3⟩
      rw [← HY'.out] at r3
      have BU3 := Lib.hid (BU2.out.trans b3)
      have R3 := Lib.hid r3
      clear b3 r3
      go_wp2_with fail
      refine (HD.out w3 R3.out).mono ?_; rintro e w4 ⟨a4, n4, cc4, rfl, b4, r4, m4⟩
      have BU4 := Lib.hid (BU3.out.trans b4)
      have R4 := Lib.hid r4
      have M4 := Lib.hid m4
      have hz3 : z.heap.size ≤ w3.heap.size := BU3.out.size
      clear b4 r4 m4
      go_wp2_with fail
      refine (token_x R4.out).mono ?_; rintro e w5 ⟨t5, rfl, b5, r5, ht5⟩
      have BU5 := Lib.hid (BU4.out.trans b5)
      have R5 := Lib.hid r5
      have B5 := Lib.hid b5
      have HT5 := Lib.hid ht5
      clear b5 r5 ht5
      by_cases h93 : t5 = [93]
      · subst h93
        have qe5 : ((tx [93]).toList == [93]) = true := tx_eqL _
        go_wp2_with fail
        refine (require_x R5.out true).mono ?_; rintro e w6 ⟨rfl, b6, r6⟩
        have BU6 := Lib.hid (BU5.out.trans b6)
        have B6 := Lib.hid (B5.out.trans b6)
        have R6 := Lib.hid (r6.open o)
        have c6 := r6.c1
        have f6 := r6.f1
        clear b6 r6
        go_wp2_with fail
        go_ret
        refine ⟨a4, n4, cc4, rfl, BU6.out.trans (but_set w6 p 1 _), ?_, fun hn => ?_⟩
        · rw [← HZ.out, ← HT5.out, if_pos rfl]; exact R6.out
        · have hbb := B6.out.trans (but_set w6 p 1 (.int .i64 o))
          exact DM.keep hbb.size (fun g h1 h2 => hbb.block g h2 (by have := BU3.out.size; omega)) (fun g h1 h2 => by show z.heap.size ≤ g; omega) D _ _ (M4.out hn)
      · have qe5 : ((tx t5).toList == [93]) = false := by rw [Lib.toList_data, tx_data, beq_eq_false_iff_ne]; exact h93
        go_wp2_with fail
        refine (require_x R5.out false).mono ?_; rintro e w6 ⟨rfl, b6, r6⟩
        have BU6 := Lib.hid (BU5.out.trans b6)
        have B6 := Lib.hid (B5.out.trans b6)
        have R6 := Lib.hid (r6.open o)
        have c6 := r6.c1
        have f6 := r6.f1
        clear b6 r6
        go_wp2_with fail
        go_ret
        refine ⟨a4, n4, cc4, rfl, BU6.out.trans (but_set w6 p 1 _), ?_, fun hn => ?_⟩
        · rw [← HZ.out, ← HT5.out, if_neg h93]; exact R6.out
        · have hbb := B6.out.trans (but_set w6 p 1 (.int .i64 o))
          exact DM.keep hbb.size (fun g h1 h2 => hbb.block g h2 (by have := BU3.out.size; omega)) (fun g h1 h2 => by show z.heap.size ≤ g; omega) D _ _ (M4.out hn)
    · have q5 : decide (o + 1 ≤ 5) = false := by simpa using ho5
      have hq0 : True := trivial
      go_wp2_with fail
      have HY' := Lib.hid (show y = (if (false : Bool) then x1 else -1) from by rw [HY.out]; simp; omega)
      refine (require_x R2.out false).mono ?_; rintro e w3 ⟨rfl, b3, r3⟩
      rw [← HY'.out] at r3
      have BU3 := Lib.hid (BU2.out.trans b3)
      have R3 := Lib.hid r3
      clear b3 r3
      go_wp2_with fail
      refine (HD.out w3 R3.out).mono ?_; rintro e w4 ⟨a4, n4, cc4, rfl, b4, r4, m4⟩
      have BU4 := Lib.hid (BU3.out.trans b4)
      have R4 := Lib.hid r4
      have M4 := Lib.hid m4
      have hz3 : z.heap.size ≤ w3.heap.size := BU3.out.size
      clear b4 r4 m4
      go_wp2_with fail
      refine (token_x R4.out).mono ?_; rintro e w5 ⟨t5, rfl, b5, r5, ht5⟩
      have BU5 := Lib.hid (BU4.out.trans b5)
      have R5 := Lib.hid r5
      have B5 := Lib.hid b5
      have HT5 := Lib.hid ht5
      clear b5 r5 ht5
      by_cases h93 : t5 = [93]
      · subst h93
        have qe5 : ((tx [93]).toList == [93]) = true := tx_eqL _
        go_wp2_with fail
        refine (require_x R5.out true).mono ?_; rintro e w6 ⟨rfl, b6, r6⟩
        have BU6 := Lib.hid (BU5.out.trans b6)
        have B6 := Lib.hid (B5.out.trans b6)
        have R6 := Lib.hid (r6.open o)
        have c6 := r6.c1
        have f6 := r6.f1
        clear b6 r6
        go_wp2_with fail
        go_ret
        refine ⟨a4, n4, cc4, rfl, BU6.out.trans (but_set w6 p 1 _), ?_, fun hn => ?_⟩
        · rw [← HZ.out, ← HT5.out, if_pos rfl]; exact R6.out
        · have hbb := B6.out.trans (but_set w6 p 1 (.int .i64 o))
          exact DM.keep hbb.size (fun g h1 h2 => hbb.block g h2 (by have := BU3.out.size; omega)) (fun g h1 h2 => by show z.heap.size ≤ g; omega) D _ _ (M4.out hn)
      · have qe5 : ((tx t5).toList == [93]) = false := by rw [Lib.toList_data, tx_data, beq_eq_false_iff_ne]; exact h93
        go_wp2_with fail
        refine (require_x R5.out false).mono ?_; rintro e w6 ⟨rfl, b6, r6⟩
        have BU6 := Lib.hid (BU5.out.trans b6)
        have B6 := Lib.hid (B5.out.trans b6)
        have R6 := Lib.hid (r6.open o)
        have c6 := r6.c1
        have f6 := r6.f1
        clear b6 r6
        go_wp2_with fail
        go_ret
        refine ⟨a4, n4, cc4, rfl, BU6.out.trans (but_set w6 p 1 _), ?_, fun hn => ?_⟩
        · rw [← HZ.out, ← HT5.out, if_neg h93]; exact R6.out
        · have hbb := B6.out.trans (but_set w6 p 1 (.int .i64 o))
          exact DM.keep hbb.size (fun g h1 h2 => hbb.block g h2 (by have := BU3.out.size; omega)) (fun g h1 h2 => by show z.heap.size ≤ g; omega) D _ _ (M4.out hn)
  · have qe : ((tx t).toList == [91]) = false := by rw [Lib.toList_data, tx_data, beq_eq_false_iff_ne]; exact h91
    have hq0 : True := trivial
    go_wp2_with fail
    have HY' := Lib.hid (show y = (if (false : Bool) then x1 else -1) from by rw [HY.out]; simp [h91])
    refine (require_x R2.out false).mono ?_; rintro e w3 ⟨rfl, b3, r3⟩
    rw [← HY'.out] at r3
    have BU3 := Lib.hid (BU2.out.trans b3)
    have R3 := Lib.hid r3
    clear b3 r3
    go_wp2_with fail
    refine (HD.out w3 R3.out).mono ?_; rintro e w4 ⟨a4, n4, cc4, rfl, b4, r4, m4⟩
    have BU4 := Lib.hid (BU3.out.trans b4)
    have R4 := Lib.hid r4
    have M4 := Lib.hid m4
    have hz3 : z.heap.size ≤ w3.heap.size := BU3.out.size
    clear b4 r4 m4
    go_wp2_with fail
    refine (token_x R4.out).mono ?_; rintro e w5 ⟨t5, rfl, b5, r5, ht5⟩
    have BU5 := Lib.hid (BU4.out.trans b5)
    have R5 := Lib.hid r5
    have B5 := Lib.hid b5
    have HT5 := Lib.hid ht5
    clear b5 r5 ht5
    by_cases h93 : t5 = [93]
    · subst h93
      have qe5 : ((tx [93]).toList == [93]) = true := tx_eqL _
      go_wp2_with fail
      refine (require_x R5.out true).mono ?_; rintro e w6 ⟨rfl, b6, r6⟩
      have BU6 := Lib.hid (BU5.out.trans b6)
      have B6 := Lib.hid (B5.out.trans b6)
      have R6 := Lib.hid (r6.open o)
      have c6 := r6.c1
      have f6 := r6.f1
      clear b6 r6
      go_wp2_with fail
      go_ret
      refine ⟨a4, n4, cc4, rfl, BU6.out.trans (but_set w6 p 1 _), ?_, fun hn => ?_⟩
      · rw [← HZ.out, ← HT5.out, if_pos rfl]; exact R6.out
      · have hbb := B6.out.trans (but_set w6 p 1 (.int .i64 o))
        exact DM.keep hbb.size (fun g h1 h2 => hbb.block g h2 (by have := BU3.out.size; omega)) (fun g h1 h2 => by show z.heap.size ≤ g; omega) D _ _ (M4.out hn)
    · have qe5 : ((tx t5).toList == [93]) = false := by rw [Lib.toList_data, tx_data, beq_eq_false_iff_ne]; exact h93
      go_wp2_with fail
      refine (require_x R5.out false).mono ?_; rintro e w6 ⟨rfl, b6, r6⟩
      have BU6 := Lib.hid (BU5.out.trans b6)
      have B6 := Lib.hid (B5.out.trans b6)
      have R6 := Lib.hid (r6.open o)
      have c6 := r6.c1
      have f6 := r6.f1
      clear b6 r6
      go_wp2_with fail
      go_ret
      refine ⟨a4, n4, cc4, rfl, BU6.out.trans (but_set w6 p 1 _), ?_, fun hn => ?_⟩
      · rw [← HZ.out, ← HT5.out, if_neg h93]; exact R6.out
      · have hbb := B6.out.trans (but_set w6 p 1 (.int .i64 o))
        exact DM.keep hbb.size (fun g h1 h2 => hbb.block g h2 (by have := BU3.out.size; omega)) (fun g h1 h2 => by show z.heap.size ≤ g; omega) D _ _ (M4.out hn)
theorem block0 {w0 : World} {p : Nat} {l : List Tk} : BlkC w0 p l 0 5 (fun _ => -1) (fun _ => []) := by
  intro x z hs
  refine (block_core (D := 0) (J := -1) (F := []) (y := -1) hs (by decide) ?_ (fun z h => ?_)).mono ?_
  · split <;> simp
  · refine (deeds_fail h).mono ?_; rintro e z' ⟨rfl, rfl⟩
    exact ⟨_, _, _, rfl, But.refl _ _, h, fun e => absurd rfl e⟩
  · rintro e z' ⟨a, n, c, rfl, b, r, -⟩
    rw [tkN_neg, if_neg (by simp)] at r
    exact ⟨a, n, c, rfl, b, r, fun e => absurd rfl e⟩
theorem block_of {w0 : World} {p : Nat} {l : List Tk} {D : Nat} {o : Int} {f : Int → Int} {R : Int → List Rc} (ho : -1000 ≤ o ∧ o ≤ 4) (hA : ∀ i, Ahd l i (f i)) (hC : DdsC w0 p l D (o + 1) f R) : BlkC w0 p l (D + 1) o (blS l f) (blR l f R) := by
  intro x z hs
  obtain ⟨y, hy⟩ : ∃ y, y = if tkN l x = [91] then tkX l x else -1 := ⟨_, rfl⟩
  have hb := blX hA x y _ hy rfl
  refine (block_core (D := D + 1) (J := dlE l f (l.length + 1) y) (F := dlR l f R (l.length + 1) y) (y := y) hs (by omega) (by rw [hy, if_pos (by omega : o + 1 ≤ 5)]) (fun z h => hC y z h)).mono ?_
  rintro e z' ⟨a, n, c, rfl, b, r, m⟩
  rw [← hb] at r
  refine ⟨a, n, c, rfl, b, r, fun hn => ?_⟩
  have hy1 : y ≠ -1 := fun e => hn (by rw [hb, e, dlE_neg _ _ _ (by omega), tkN_neg]; simp)
  have hj1 : dlE l f (l.length + 1) y ≠ -1 := fun e => hn (by rw [hb, e, tkN_neg]; simp)
  rw [blR_y hy hy1]
  exact m hj1
/-- The reader at every depth. -/
theorem deed_all {w0 : World} {p : Nat} {l : List Tk} (hL : Lib3 w0) (hll : l.length ≤ 4194304) : ∀ D : Nat, D ≤ 5 → DeedC w0 p l D (5 - D) (ddE l D) (ddR l D)
  | 0, _ => deed_of hL rfl block0
  | D + 1, h => by
    have ih := deed_all (p := p) hL hll D (by omega)
    have h1 := deeds_of hll (ddE_ahd l D) ih
    have h2 := block_of (o := 5 - ((D + 1 : Nat) : Int)) (by omega) (ddE_ahd l D) (by rw [show (5 : Int) - ((D + 1 : Nat) : Int) + 1 = 5 - (D : Int) by omega]; exact h1)
    exact deed_of hL (ahd_neg (bls_ahd (ddE_ahd l D))) h2
theorem deeds_top {w0 : World} {p : Nat} {l : List Tk} (hL : Lib3 w0) (hll : l.length ≤ 4194304) : DdsC w0 p l 5 0 (ddE l 5) (ddR l 5) := deeds_of hll (ddE_ahd l 5) (deed_all hL hll 5 (by omega))
end Go.Proofs.YtkhmbmcomgclaaaDoor.Cl
