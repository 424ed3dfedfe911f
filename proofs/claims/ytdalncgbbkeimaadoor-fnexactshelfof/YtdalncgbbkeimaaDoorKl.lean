/-
  Contracts of spec.KeyLess and impl.KeyLess: both give 'lessB', for every two keys, nothing that was there turned.
  Contracts of spec.KeyLess and impl.KeyLess: both give 'lessB', for every two keys, nothing that was there turned.
-/
import Derived.Test.YtdalncgbbkeimaaDoorKy
import Derived.WalkLawsBesides
import Derived.Deep.QuietTactic
import Derived.BigQuiet
import Derived.Deep.RegionHeld3
namespace Go.Proofs.YtdalncgbbkeimaaDoor.Kp
open Go.RowKit Wd Rp
theorem bl_irr : ∀ l : List UInt8, Op.bytesLess l l = false
  | [] => rfl
  | a :: x => by simp [Op.bytesLess, bl_irr x]
theorem isNaN_any (s : ByteArray) (w : World) : Calls Tryd.prog 129 #[.string s] w fun e w' => e = .returned (.bool false) ∧ w = w' := by
  have h : (s.toList == s.toList) = true := by simp
  go_enter Tryd.func129, Tryd.ntmps129
  go_wp2
  go_ret
  exact ⟨rfl, rfl⟩
def cmpS (a b : ByteArray) : Int := if Op.bytesLess a.toList b.toList then -1 else if a.toList == b.toList then 0 else 1
set_option maxHeartbeats 1000000 in
theorem cmpCompare_any (a b : ByteArray) (w : World) : Calls Tryd.prog 106 #[.string a, .string b] w fun e w' => e = .returned (.int .i64 (cmpS a b)) ∧ w = w' := by
  cases h1 : Op.bytesLess a.toList b.toList
  · cases h2 : (a.toList == b.toList)
    · have hk : cmpS a b = 1 := by simp only [cmpS, h1, h2]; rfl
      have HK := Lib.hid hk; clear hk
      go_enter Tryd.func106, Tryd.ntmps106
      go_wp2_with (go_at_call 129; refine (isNaN_any _ _).mono ?_; rintro e w' ⟨rfl, rfl⟩)
      go_ret
      exact ⟨by rw [HK.out]; rfl, rfl⟩
    · have hk : cmpS a b = 0 := by simp only [cmpS, h1, h2]; rfl
      have HK := Lib.hid hk; clear hk
      go_enter Tryd.func106, Tryd.ntmps106
      go_wp2_with (go_at_call 129; refine (isNaN_any _ _).mono ?_; rintro e w' ⟨rfl, rfl⟩)
      go_ret
      exact ⟨by rw [HK.out]; rfl, rfl⟩
  · have hk : cmpS a b = -1 := by simp only [cmpS, h1]; rfl
    have HK := Lib.hid hk; clear hk
    go_enter Tryd.func106, Tryd.ntmps106
    go_wp2_with (go_at_call 129; refine (isNaN_any _ _).mono ?_; rintro e w' ⟨rfl, rfl⟩)
    go_ret
    exact ⟨by rw [HK.out]; rfl, rfl⟩
/-- The world behind placeOf. -/
def plW (r b : ByteArray) (t : Int) (w : World) : World := (w.alloc (.cells #[.string r, .string b, .int .i64 t] 25)).alloc (.cells #[.string r, .string b] 67)
theorem plW_below (r b : ByteArray) (t : Int) (w : World) : Below w.heap.size w (plW r b t w) := bel2 w _ _
theorem placeOf_any (r b : ByteArray) (t : Int) (w : World) :
    Calls Tryd.prog 50 #[.agg #[.string r, .string b, .int .i64 t]] w fun e w' => e = .returned (.agg #[.string r, .string b]) ∧ w' = plW r b t w := by
  go_enter Tryd.func50, Tryd.ntmps50
  go_wp2
  refine bodyPost_ret (v := .agg #[.string r, .string b]) (by simp [results, Tryd.results50, go_sem]) rfl ⟨rfl, ?_⟩
  rfl
/-- Block n holds a place. -/
def Px (n : Nat) (r b : ByteArray) (w : World) : Prop := w.cell? ⟨n, 0, none⟩ = some (.string r) ∧ w.cell? ⟨n, 1, none⟩ = some (.string b)
def cmp2 (r b r' b' : ByteArray) : Int := if cmpS r r' ≠ 0 then cmpS r r' else cmpS b b'
set_option maxHeartbeats 1000000 in
theorem slCompare_any (n n' : Nat) (r b r' b' : ByteArray) (w : World) (h : Px n r b w) (h' : Px n' r' b' w) :
    Calls Tryd.prog 84 #[.slice (some ⟨n, 0, none⟩) 2 2, .slice (some ⟨n', 0, none⟩) 2 2] w fun e w' => e = .returned (.int .i64 (cmp2 r b r' b')) ∧ w = w' := by
  obtain ⟨c0, c1⟩ := h
  obtain ⟨c0', c1'⟩ := h'
  go_enter Tryd.func84, Tryd.ntmps84
  go_wp2_with fail
  go_loop [5, 6, 7, 8, 11] (fun _ _ _ _ i => i = .int .i64 0 ∨ (i = .int .i64 1 ∧ cmpS r r' = 0) ∨ (i = .int .i64 2 ∧ cmpS r r' = 0 ∧ cmpS b b' = 0)) (fun _ _ _ _ i => 2 - (intOf i).toNat)
  case atStart => exact Or.inl rfl
  case round =>
    rcases hrel with rfl | ⟨rfl, h1⟩ | ⟨rfl, h1, h2⟩
    · by_cases hz : cmpS r r' = 0
      · have HZ := Lib.hid hz
        have hz' : (cmpS r r' == 0) = true := by simpa using hz
        clear hz
        go_wp2_with (go_at_call 106; refine (cmpCompare_any _ _ _).mono ?_; rintro e w' ⟨rfl, rfl⟩)
        go_round
        case rel => exact Or.inr (Or.inl ⟨rfl, HZ.out⟩)
        case measure => simp [intOf]
      · have hk : cmp2 r b r' b' = cmpS r r' := by unfold cmp2; rw [if_pos hz]
        have HK := Lib.hid hk; clear hk
        have hz' : (cmpS r r' == 0) = false := by simpa using hz
        clear hz
        go_wp2_with (go_at_call 106; refine (cmpCompare_any _ _ _).mono ?_; rintro e w' ⟨rfl, rfl⟩)
        go_ret
        exact ⟨by rw [HK.out]; rfl, rfl⟩
    · have hk : cmp2 r b r' b' = cmpS b b' := by unfold cmp2; rw [if_neg (by simpa using h1)]
      have HK := Lib.hid hk; clear hk
      have H1 := Lib.hid h1; clear h1
      by_cases hz : cmpS b b' = 0
      · have HZ := Lib.hid hz
        have hz' : (cmpS b b' == 0) = true := by simpa using hz
        clear hz
        go_wp2_with (go_at_call 106; refine (cmpCompare_any _ _ _).mono ?_; rintro e w' ⟨rfl, rfl⟩)
        go_round
        case rel => exact Or.inr (Or.inr ⟨rfl, H1.out, HZ.out⟩)
        case measure => simp [intOf]
      · have hz' : (cmpS b b' == 0) = false := by simpa using hz
        clear hz
        go_wp2_with (go_at_call 106; refine (cmpCompare_any _ _ _).mono ?_; rintro e w' ⟨rfl, rfl⟩)
        go_ret
        exact ⟨by rw [HK.out]; rfl, rfl⟩
    · have hk : cmp2 r b r' b' = 0 := by unfold cmp2; rw [if_neg (by simpa using h1)]; exact h2
      have HK := Lib.hid hk; clear hk h1 h2
      go_wp2_with fail
      go_ret
      exact ⟨by rw [HK.out]; rfl, rfl⟩
theorem slCompare_same (n n' : Nat) (r b r' b' : ByteArray) (w : World) (h : Px n r b w) (h' : Px n' r' b' w) :
    Calls Tryd.prog 84 #[.slice (some ⟨n, 0, none⟩) 2 2, .slice (some ⟨n', 0, none⟩) 2 2] w fun e w' => e = .returned (.int .i64 (cmp2 r b r' b')) ∧ w' = w :=
  (slCompare_any n n' r b r' b' w h h').mono fun _ _ ⟨h, e⟩ => ⟨h, e.symm⟩
theorem Px.made (r b : ByteArray) (w : World) (T : Nat) : Px w.heap.size r b (w.alloc (.cells #[.string r, .string b] T)) := by
  have hp : (w.alloc (.cells #[.string r, .string b] T)).heap[w.heap.size]? = some (.cells #[.string r, .string b] T) := by show (w.heap.push _)[w.heap.size]? = _; simp
  refine ⟨?_, ?_⟩ <;> (simp only [World.cell?, hp]; rfl)
theorem Px.alloc {n : Nat} {r b : ByteArray} {w : World} (h : Px n r b w) (hn : n < w.heap.size) (o : Obj) : Px n r b (w.alloc o) := by
  have e : (w.alloc o).heap[n]? = w.heap[n]? := Below.heap_alloc _ _ _ hn
  exact ⟨(World.cell?_of_block (w := w) e).trans h.1, (World.cell?_of_block (w := w) e).trans h.2⟩
set_option maxHeartbeats 1000000 in
theorem before_any (r b r' b' : ByteArray) (w : World) :
    Calls Tryd.prog 51 #[.agg #[.string r, .string b], .agg #[.string r', .string b']] w fun e w' => e = .returned (.bool (decide (cmp2 r b r' b' < 0))) ∧ Below w.heap.size w w' := by
  have hp : ∀ T, Px w.heap.size r b ((w.alloc (.cells #[.string r, .string b] T)).alloc (.cells #[.string r', .string b'] T)) := fun T => (Px.made r b w T).alloc (by simp) _
  have hp' : ∀ T, Px (w.heap.size + 1) r' b' ((w.alloc (.cells #[.string r, .string b] T)).alloc (.cells #[.string r', .string b'] T)) := fun T => by
    have := Px.made r' b' (w.alloc (.cells #[.string r, .string b] T)) T
    rwa [show (w.alloc (.cells #[.string r, .string b] T)).heap.size = w.heap.size + 1 by simp] at this
  have HP := Lib.hid hp; clear hp
  have HP' := Lib.hid hp'; clear hp'
  go_enter Tryd.func51, Tryd.ntmps51
  go_wp2_with fail
  have P1 := HP.out 67
  have P2 := HP'.out 67
  have HB := Lib.hid (bel2 w (.cells #[.string r, .string b] 67) (.cells #[.string r', .string b'] 67))
  generalize (w.alloc (Obj.cells #[Value.string r, Value.string b] 67)).alloc (Obj.cells #[Value.string r', Value.string b'] 67) = w2 at P1 P2 HB ⊢
  have Q1 := Lib.hid P1; clear P1
  have Q2 := Lib.hid P2; clear P2
  go_quiet (first
    | (go_at_call 84; refine Calls.quiet_of_same (slCompare_same _ _ r b r' b' _ ?_ ?_); exact Q1.out; exact Q2.out))
  go_wp2_with fail
  go_ret
  exact ⟨rfl, bel_drewN HB.out _⟩
/-- Which of two keys comes first. -/
def lsB (r b : ByteArray) (t : Int) (r' b' : ByteArray) (t' : Int) : Bool := if !(r.toList == r'.toList) then Op.bytesLess r.toList r'.toList else if !(b.toList == b'.toList) then Op.bytesLess b.toList b'.toList else decide (t' < t)
set_option maxHeartbeats 1000000 in
theorem l2Less_any (r b : ByteArray) (t : Int) (r' b' : ByteArray) (t' : Int) (w : World) :
    Calls Tryd.prog 57 #[.agg #[.string r, .string b, .int .i64 t], .agg #[.string r', .string b', .int .i64 t']] w fun e w' => e = .returned (.bool (lsB r b t r' b' t')) ∧ Below w.heap.size w w' := by
  have HB := Lib.hid (bel2 w)
  cases h1 : (r.toList == r'.toList)
  · have hk : lsB r b t r' b' t' = Op.bytesLess r.toList r'.toList := by simp only [lsB, h1]; rfl
    have HK := Lib.hid hk; clear hk
    go_enter Tryd.func57, Tryd.ntmps57
    go_wp2
    go_ret
    exact ⟨by rw [HK.out]; rfl, HB.out _ _⟩
  · cases h2 : (b.toList == b'.toList)
    · have hk : lsB r b t r' b' t' = Op.bytesLess b.toList b'.toList := by simp only [lsB, h1, h2]; rfl
      have HK := Lib.hid hk; clear hk
      go_enter Tryd.func57, Tryd.ntmps57
      go_wp2
      go_ret
      exact ⟨by rw [HK.out]; rfl, HB.out _ _⟩
    · have hk : lsB r b t r' b' t' = decide (t' < t) := by simp only [lsB, h1, h2]; rfl
      have HK := Lib.hid hk; clear hk
      go_enter Tryd.func57, Tryd.ntmps57
      go_wp2
      go_ret
      exact ⟨by rw [HK.out]; rfl, HB.out _ _⟩
end Go.Proofs.YtdalncgbbkeimaaDoor.Kp
namespace Go.Proofs.YtdalncgbbkeimaaDoor.Kp
open Go.RowKit Wd Rp
def lessB (r b : ByteArray) (t : Int) (r' b' : ByteArray) (t' : Int) : Bool := keyB r.data.toList b.data.toList t && (keyB r'.data.toList b'.data.toList t' && lsB r b t r' b' t')
def LessPost (r b : ByteArray) (t : Int) (r' b' : ByteArray) (t' : Int) (w : World) (e : Ending) (w' : World) : Prop := e = .returned (.bool (lessB r b t r' b' t')) ∧ Below w.heap.size w w'
/-- Two boxes. -/
theorem Bx.two (r b : ByteArray) (t : Int) (r' b' : ByteArray) (t' : Int) (w : World) (T : Nat) :
    Bx w.heap.size r b t ((w.alloc (.cells #[.string r, .string b, .int .i64 t] T)).alloc (.cells #[.string r', .string b', .int .i64 t'] T)) ∧ Bx (w.heap.size + 1) r' b' t' ((w.alloc (.cells #[.string r, .string b, .int .i64 t] T)).alloc (.cells #[.string r', .string b', .int .i64 t'] T)) := by
  refine ⟨(Bx.made r b t w T).next (bel1 _ _), ?_⟩
  have := Bx.made r' b' t' (w.alloc (.cells #[.string r, .string b, .int .i64 t] T)) T
  rwa [show (w.alloc (.cells #[.string r, .string b, .int .i64 t] T)).heap.size = w.heap.size + 1 by simp] at this
set_option maxHeartbeats 2000000 in
theorem specLess_any (r b : ByteArray) (t : Int) (r' b' : ByteArray) (t' : Int) (w : World) (hr : r.size ≤ 9223372036854775806) (hb : b.size ≤ 9223372036854775806) (hr' : r'.size ≤ 9223372036854775806) (hb' : b'.size ≤ 9223372036854775806) :
    Calls Tryd.prog 18 #[.agg #[.string r, .string b, .int .i64 t], .agg #[.string r', .string b', .int .i64 t']] w (LessPost r b t r' b' t' w) := by
  have HB := Lib.hid (bel2 w)
  have HX := Lib.hid (Bx.two r b t r' b' t' w)
  cases h1 : keyB r.data.toList b.data.toList t
  · have hk : lessB r b t r' b' t' = false := by simp only [lessB, h1]; rfl
    have HK := Lib.hid hk; clear hk
    have H1 := Lib.hid h1; clear h1
    go_enter Tryd.func18, Tryd.ntmps18
    go_wp2_with fail
    refine (specKey_is H1.out _ hr hb).mono ?_; rintro e w1 ⟨rfl, b1⟩
    have B1 := Lib.hid (bel_tr (HB.out _ _) b1 (Nat.le_refl _)); clear b1
    go_wp2_with fail
    go_ret
    exact ⟨by rw [HK.out]; rfl, B1.out⟩
  · have H1 := Lib.hid h1
    cases h2 : keyB r'.data.toList b'.data.toList t'
    · have hk : lessB r b t r' b' t' = false := by simp only [lessB, h1, h2]; rfl
      have HK := Lib.hid hk; clear hk h1
      have H2 := Lib.hid h2; clear h2
      go_enter Tryd.func18, Tryd.ntmps18
      go_wp2_with fail
      refine (specKey_is H1.out _ hr hb).mono ?_; rintro e w1 ⟨rfl, b1⟩
      have B1 := Lib.hid (bel_tr (HB.out _ _) b1 (Nat.le_refl _))
      obtain ⟨y0, y1, y2, -⟩ := (HX.out _).2.next b1; clear b1
      go_wp2_with fail
      refine (specKey_is H2.out _ hr' hb').mono ?_; rintro e w2 ⟨rfl, b2⟩
      have B2 := Lib.hid (bel_tr B1.out b2 (Nat.le_refl _)); clear b2
      go_wp2_with fail
      go_ret
      exact ⟨by rw [HK.out]; rfl, B2.out⟩
    · have hk : lessB r b t r' b' t' = lsB r b t r' b' t' := by simp only [lessB, h1, h2]; rfl
      have HK := Lib.hid hk; clear hk h1
      have H2 := Lib.hid h2; clear h2
      go_enter Tryd.func18, Tryd.ntmps18
      go_wp2_with fail
      refine (specKey_is H1.out _ hr hb).mono ?_; rintro e w1 ⟨rfl, b1⟩
      have B1 := Lib.hid (bel_tr (HB.out _ _) b1 (Nat.le_refl _))
      have HXa := Lib.hid ((HX.out _).1.next b1)
      have HXb := Lib.hid ((HX.out _).2.next b1); clear b1
      obtain ⟨y0, y1, y2, -⟩ := id HXb.out
      go_wp2_with fail
      refine (specKey_is H2.out _ hr' hb').mono ?_; rintro e w2 ⟨rfl, b2⟩
      have B2 := Lib.hid (bel_tr B1.out b2 (Nat.le_refl _))
      clear y0 y1 y2
      obtain ⟨x0, x1, x2, -⟩ := HXa.out.next b2
      obtain ⟨y0, y1, y2, -⟩ := HXb.out.next b2; clear b2
      go_wp2_with fail
      refine (l2Less_any _ _ _ _ _ _ _).mono ?_; rintro e w3 ⟨rfl, b3⟩
      have B3 := Lib.hid (bel_tr B2.out b3 (Nat.le_refl _)); clear b3
      go_wp2_with fail
      go_ret
      exact ⟨by rw [HK.out]; rfl, B3.out⟩
set_option maxHeartbeats 2000000 in
theorem implLess_no (r b : ByteArray) (t : Int) (r' b' : ByteArray) (t' : Int) (w : World) (h : keyB r.data.toList b.data.toList t = false ∨ keyB r.data.toList b.data.toList t = true ∧ keyB r'.data.toList b'.data.toList t' = false) :
    Calls Tryd.prog 13 #[.agg #[.string r, .string b, .int .i64 t], .agg #[.string r', .string b', .int .i64 t']] w (LessPost r b t r' b' t' w) := by
  have HB := Lib.hid (bel2 w)
  have HX := Lib.hid (Bx.two r b t r' b' t' w)
  rcases h with h1 | ⟨h1, h2⟩
  · have hk : lessB r b t r' b' t' = false := by simp only [lessB, h1]; rfl
    have HK := Lib.hid hk; clear hk
    have H1 := Lib.hid h1; clear h1
    go_enter Tryd.func13, Tryd.ntmps13
    go_wp2_with fail
    refine (implKey_is H1.out _).mono ?_; rintro e w1 ⟨rfl, b1⟩
    have B1 := Lib.hid (bel_tr (HB.out _ _) b1 (Nat.le_refl _)); clear b1
    go_wp2_with fail
    go_ret
    exact ⟨by rw [HK.out]; rfl, B1.out⟩
  · have hk : lessB r b t r' b' t' = false := by simp only [lessB, h1, h2]; rfl
    have HK := Lib.hid hk; clear hk
    have H1 := Lib.hid h1; clear h1
    have H2 := Lib.hid h2; clear h2
    go_enter Tryd.func13, Tryd.ntmps13
    go_wp2_with fail
    refine (implKey_is H1.out _).mono ?_; rintro e w1 ⟨rfl, b1⟩
    have B1 := Lib.hid (bel_tr (HB.out _ _) b1 (Nat.le_refl _))
    obtain ⟨y0, y1, y2, -⟩ := (HX.out _).2.next b1; clear b1
    go_wp2_with fail
    refine (implKey_is H2.out _).mono ?_; rintro e w2 ⟨rfl, b2⟩
    have B2 := Lib.hid (bel_tr B1.out b2 (Nat.le_refl _)); clear b2
    go_wp2_with fail
    go_ret
    exact ⟨by rw [HK.out]; rfl, B2.out⟩
theorem strEq (d : Nat) (a b : ByteArray) (w : World) : (Op.equalIn (d + 1) 9 (.string a) (.string b)).run Tryd.prog w = .ok (a == b) w := by
  rw [Op.equalIn]
  simp only [Sem.run_bind, run_underlying Tryd.underlying9, Result.andThen_ok]; rfl
theorem plEq (r b r' b' : ByteArray) (w : World) : (Op.equalIn 10000 67 (.agg #[.string r, .string b]) (.agg #[.string r', .string b'])).run Tryd.prog w = .ok (r == r' && b == b') w := by
  have u3 := Tryd.underlying9
  have a3 := Tryd.isAgg9
  have z3 := Tryd.sizeOf9
  have s9 := fun a b w => strEq 9998 a b w
  rw [show (10000 : Nat) = 9999 + 1 from rfl, Op.equalIn]
  simp only [Sem.run_bind, run_underlying Tryd.underlying67, Result.andThen_ok]
  simp only [Std.Legacy.Range.forIn_eq_forIn_range', Std.Legacy.Range.size, Nat.sub_zero, Nat.add_sub_cancel, Nat.div_one, List.range'_succ, List.range'_zero, List.forIn_cons, List.forIn_nil]
  go_simp
  cases r == r' <;> cases b == b' <;> rfl
theorem ba_beq (a b : ByteArray) : (a == b) = (a.toList == b.toList) := by
  rw [Lib.toList_data, Lib.toList_data]
  obtain ⟨x⟩ := a
  obtain ⟨y⟩ := b
  show (x == y) = (x.toList == y.toList)
  rw [Bool.eq_iff_iff, beq_iff_eq, beq_iff_eq, Array.toList_inj]
theorem ls_same {r b r' b' : ByteArray} {t t' : Int} (h : (r == r' && b == b') = true) : lsB r b t r' b' t' = decide (t' < t) := by
  rw [Bool.and_eq_true, ba_beq, ba_beq] at h
  simp only [lsB, h.1, h.2]; rfl
theorem ls_other {r b r' b' : ByteArray} {t t' : Int} (h : (r == r' && b == b') = false) : lsB r b t r' b' t' = decide (cmp2 r b r' b' < 0) := by
  rw [ba_beq, ba_beq] at h
  have hs : ∀ x y : ByteArray, (x.toList == y.toList) = false → cmpS x y ≠ 0 ∧ decide (cmpS x y < 0) = Op.bytesLess x.toList y.toList := by
    intro x y e
    cases hl : Op.bytesLess x.toList y.toList <;> simp [cmpS, hl, e]
  unfold lsB cmp2
  cases h1 : (r.toList == r'.toList)
  · obtain ⟨g1, g2⟩ := hs _ _ h1
    rw [if_pos g1, g2]; rfl
  · rw [h1, Bool.true_and] at h
    obtain ⟨g1, g2⟩ := hs _ _ h
    have hz : cmpS r r' = 0 := by
      have e : r.toList = r'.toList := by simpa using h1
      simp [cmpS, e, bl_irr]
    rw [if_neg (show ¬ (cmpS r r' ≠ 0) from fun g => g hz), g2, h]; rfl
theorem placeOf_bel (r b : ByteArray) (t : Int) (w : World) :
    Calls Tryd.prog 50 #[.agg #[.string r, .string b, .int .i64 t]] w fun e w' => e = .returned (.agg #[.string r, .string b]) ∧ Below w.heap.size w w' :=
  (placeOf_any r b t w).mono fun _ _ ⟨he, hw⟩ => ⟨he, hw ▸ plW_below r b t w⟩
/-- Since w nothing that was there has turned, and two blocks are there. -/
def Hd (w w' : World) : Prop := Below w.heap.size w w' ∧ w.heap.size + 1 < w'.heap.size
theorem two_next {r b : ByteArray} {t : Int} {r' b' : ByteArray} {t' : Int} {w x y : World} (hb : Below x.heap.size x y)
    (h : x.cell? ⟨w.heap.size, 0, none⟩ = some (.string r) ∧ x.cell? ⟨w.heap.size, 1, none⟩ = some (.string b) ∧ x.cell? ⟨w.heap.size, 2, none⟩ = some (.int .i64 t) ∧ x.cell? ⟨w.heap.size + 1, 0, none⟩ = some (.string r') ∧ x.cell? ⟨w.heap.size + 1, 1, none⟩ = some (.string b') ∧ x.cell? ⟨w.heap.size + 1, 2, none⟩ = some (.int .i64 t') ∧ Hd w x) :
    y.cell? ⟨w.heap.size, 0, none⟩ = some (.string r) ∧ y.cell? ⟨w.heap.size, 1, none⟩ = some (.string b) ∧ y.cell? ⟨w.heap.size, 2, none⟩ = some (.int .i64 t) ∧ y.cell? ⟨w.heap.size + 1, 0, none⟩ = some (.string r') ∧ y.cell? ⟨w.heap.size + 1, 1, none⟩ = some (.string b') ∧ y.cell? ⟨w.heap.size + 1, 2, none⟩ = some (.int .i64 t') ∧ Hd w y := by
  obtain ⟨x0, x1, x2, y0, y1, y2, hd, hl⟩ := h
  have e : y.heap[w.heap.size]? = x.heap[w.heap.size]? := hb.block _ (by omega)
  have e' : y.heap[w.heap.size + 1]? = x.heap[w.heap.size + 1]? := hb.block _ hl
  exact ⟨(World.cell?_of_block (w := x) e).trans x0, (World.cell?_of_block (w := x) e).trans x1, (World.cell?_of_block (w := x) e).trans x2, (World.cell?_of_block (w := x) e').trans y0, (World.cell?_of_block (w := x) e').trans y1, (World.cell?_of_block (w := x) e').trans y2, bel_tr hd hb (Nat.le_refl _), Nat.lt_of_lt_of_le hl hb.size⟩
set_option maxHeartbeats 2000000 in
theorem implLess_yes (r b : ByteArray) (t : Int) (r' b' : ByteArray) (t' : Int) (w : World) (h1 : keyB r.data.toList b.data.toList t = true) (h2 : keyB r'.data.toList b'.data.toList t' = true) :
    Calls Tryd.prog 13 #[.agg #[.string r, .string b, .int .i64 t], .agg #[.string r', .string b', .int .i64 t']] w (LessPost r b t r' b' t' w) := by
  have HB := Lib.hid (bel2 w)
  have HX := Lib.hid (Bx.two r b t r' b' t' w)
  have hk : lessB r b t r' b' t' = lsB r b t r' b' t' := by simp only [lessB, h1, h2]; rfl
  have HK := Lib.hid hk; clear hk
  have H1 := Lib.hid h1; clear h1
  have H2 := Lib.hid h2; clear h2
  have he := plEq r b r' b'
  cases hs : (r == r' && b == b')
  · have HK2 := Lib.hid (HK.out.trans (ls_other hs))
    rw [hs] at he
    clear hs
    go_enter Tryd.func13, Tryd.ntmps13
    go_wp2_with fail
    refine (implKey_is H1.out _).mono ?_; rintro e w1 ⟨rfl, b1⟩
    have B1 := Lib.hid (bel_tr (HB.out _ _) b1 (Nat.le_refl _))
    have HXa := Lib.hid ((HX.out _).1.next b1)
    have HXb := Lib.hid ((HX.out _).2.next b1); clear b1
    obtain ⟨y0, y1, y2, -⟩ := id HXb.out
    go_wp2_with fail
    refine (implKey_is H2.out _).mono ?_; rintro e w2 ⟨rfl, b2⟩
    have B2 := Lib.hid (bel_tr B1.out b2 (Nat.le_refl _))
    clear y0 y1 y2
    obtain ⟨x0, x1, x2, xl⟩ := HXa.out.next b2
    obtain ⟨y0, y1, y2, yl⟩ := HXb.out.next b2; clear b2
    have hd2 : Hd w w2.drew := ⟨B2.out.drew, yl⟩
    go_wp2_with fail
    go_region_held3 (fun z => z.cell? ⟨w.heap.size, 0, none⟩ = some (.string r) ∧ z.cell? ⟨w.heap.size, 1, none⟩ = some (.string b) ∧ z.cell? ⟨w.heap.size, 2, none⟩ = some (.int .i64 t) ∧ z.cell? ⟨w.heap.size + 1, 0, none⟩ = some (.string r') ∧ z.cell? ⟨w.heap.size + 1, 1, none⟩ = some (.string b') ∧ z.cell? ⟨w.heap.size + 1, 2, none⟩ = some (.int .i64 t') ∧ Hd w z)
      (first | exact ⟨x0, x1, x2, y0, y1, y2, hd2⟩ | (refine two_next (by assumption) ?_; assumption))
      (first | (go_at_call 50; refine (placeOf_bel _ _ _ _).mono ?_; rintro e w' ⟨rfl, bel⟩))
    go_wp2_with fail
    rename_i wA b3 hh _ _
    clear b3 bel x0 x1 x2 y0 y1 y2 hd2 he
    go_region_held3 (fun z => z.cell? ⟨w.heap.size, 0, none⟩ = some (.string r) ∧ z.cell? ⟨w.heap.size, 1, none⟩ = some (.string b) ∧ z.cell? ⟨w.heap.size, 2, none⟩ = some (.int .i64 t) ∧ z.cell? ⟨w.heap.size + 1, 0, none⟩ = some (.string r') ∧ z.cell? ⟨w.heap.size + 1, 1, none⟩ = some (.string b') ∧ z.cell? ⟨w.heap.size + 1, 2, none⟩ = some (.int .i64 t') ∧ Hd w z)
      (first | exact two_next (Below.refl _ _).drew hh | (refine two_next (by assumption) ?_; assumption))
      (first | (go_at_call 50; refine (placeOf_bel _ _ _ _).mono ?_; rintro e w' ⟨rfl, bel⟩) | (go_at_call 51; refine (before_any _ _ _ _ _).mono ?_; rintro e w' ⟨rfl, bel⟩))
    rename_i hg
    go_wp2_with fail
    go_ret
    exact ⟨by rw [HK2.out]; rfl, hg.2.2.2.2.2.2.1⟩
  · have HK2 := Lib.hid (HK.out.trans (ls_same hs))
    rw [hs] at he
    clear hs
    go_enter Tryd.func13, Tryd.ntmps13
    go_wp2_with fail
    refine (implKey_is H1.out _).mono ?_; rintro e w1 ⟨rfl, b1⟩
    have B1 := Lib.hid (bel_tr (HB.out _ _) b1 (Nat.le_refl _))
    have HXa := Lib.hid ((HX.out _).1.next b1)
    have HXb := Lib.hid ((HX.out _).2.next b1); clear b1
    obtain ⟨y0, y1, y2, -⟩ := id HXb.out
    go_wp2_with fail
    refine (implKey_is H2.out _).mono ?_; rintro e w2 ⟨rfl, b2⟩
    have B2 := Lib.hid (bel_tr B1.out b2 (Nat.le_refl _))
    clear y0 y1 y2
    obtain ⟨x0, x1, x2, xl⟩ := HXa.out.next b2
    obtain ⟨y0, y1, y2, yl⟩ := HXb.out.next b2; clear b2
    have hd2 : Hd w w2.drew := ⟨B2.out.drew, yl⟩
    go_wp2_with fail
    go_region_held3 (fun z => z.cell? ⟨w.heap.size, 0, none⟩ = some (.string r) ∧ z.cell? ⟨w.heap.size, 1, none⟩ = some (.string b) ∧ z.cell? ⟨w.heap.size, 2, none⟩ = some (.int .i64 t) ∧ z.cell? ⟨w.heap.size + 1, 0, none⟩ = some (.string r') ∧ z.cell? ⟨w.heap.size + 1, 1, none⟩ = some (.string b') ∧ z.cell? ⟨w.heap.size + 1, 2, none⟩ = some (.int .i64 t') ∧ Hd w z)
      (first | exact ⟨x0, x1, x2, y0, y1, y2, hd2⟩ | (refine two_next (by assumption) ?_; assumption))
      (first | (go_at_call 50; refine (placeOf_bel _ _ _ _).mono ?_; rintro e w' ⟨rfl, bel⟩))
    rename_i hg
    go_wp2_with fail
    go_ret
    exact ⟨by rw [HK2.out]; rfl, hg.2.2.2.2.2.2.1⟩
theorem implLess_any (r b : ByteArray) (t : Int) (r' b' : ByteArray) (t' : Int) (w : World) :
    Calls Tryd.prog 13 #[.agg #[.string r, .string b, .int .i64 t], .agg #[.string r', .string b', .int .i64 t']] w (LessPost r b t r' b' t' w) := by
  cases h1 : keyB r.data.toList b.data.toList t
  · exact implLess_no r b t r' b' t' w (Or.inl h1)
  · cases h2 : keyB r'.data.toList b'.data.toList t'
    · exact implLess_no r b t r' b' t' w (Or.inr ⟨h1, h2⟩)
    · exact implLess_yes r b t r' b' t' w h1 h2
end Go.Proofs.YtdalncgbbkeimaaDoor.Kp
