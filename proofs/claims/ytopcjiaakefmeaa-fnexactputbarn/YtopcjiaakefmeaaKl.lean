/-
  Contracts of spec.KeyLess and impl.KeyLess: both give 'lessB', for every two keys, nothing that was there turned.
-/
import Derived.Test.YtopcjiaakefmeaaKy
import Derived.WalkLawsBesides
import Derived.Deep.QuietTactic
import Derived.BigQuiet
namespace Go.Proofs.Ytopcjiaakefmeaa.Kp
open Go.RowKit Wd Rp
theorem bl_irr : ∀ l : List UInt8, Op.bytesLess l l = false
  | [] => rfl
  | a :: x => by simp [Op.bytesLess, bl_irr x]
theorem isNaN_any (s : ByteArray) (w : World) : Calls Try.prog 146 #[.string s] w fun e w' => e = .returned (.bool false) ∧ w = w' := by
  have h : (s.toList == s.toList) = true := by simp
  go_enter Try.func146, Try.ntmps146
  go_wp2
  go_ret
  exact ⟨rfl, rfl⟩
def cmpS (a b : ByteArray) : Int := if Op.bytesLess a.toList b.toList then -1 else if a.toList == b.toList then 0 else 1
set_option maxHeartbeats 1000000 in
theorem cmpCompare_any (a b : ByteArray) (w : World) : Calls Try.prog 143 #[.string a, .string b] w fun e w' => e = .returned (.int .i64 (cmpS a b)) ∧ w = w' := by
  cases h1 : Op.bytesLess a.toList b.toList
  · cases h2 : (a.toList == b.toList)
    · have hk : cmpS a b = 1 := by simp only [cmpS, h1, h2]; rfl
      have HK := Lib.hid hk; clear hk
      go_enter Try.func143, Try.ntmps143
      go_wp2_with (go_at_call 146; refine (isNaN_any _ _).mono ?_; rintro e w' ⟨rfl, rfl⟩)
      go_ret
      exact ⟨by rw [HK.out]; rfl, rfl⟩
    · have hk : cmpS a b = 0 := by simp only [cmpS, h1, h2]; rfl
      have HK := Lib.hid hk; clear hk
      go_enter Try.func143, Try.ntmps143
      go_wp2_with (go_at_call 146; refine (isNaN_any _ _).mono ?_; rintro e w' ⟨rfl, rfl⟩)
      go_ret
      exact ⟨by rw [HK.out]; rfl, rfl⟩
  · have hk : cmpS a b = -1 := by simp only [cmpS, h1]; rfl
    have HK := Lib.hid hk; clear hk
    go_enter Try.func143, Try.ntmps143
    go_wp2_with (go_at_call 146; refine (isNaN_any _ _).mono ?_; rintro e w' ⟨rfl, rfl⟩)
    go_ret
    exact ⟨by rw [HK.out]; rfl, rfl⟩
/-- The world behind placeOf. -/
def plW (r b : ByteArray) (t : Int) (w : World) : World := (w.alloc (.cells #[.string r, .string b, .int .i64 t] 31)).alloc (.cells #[.string r, .string b] 95)
theorem plW_below (r b : ByteArray) (t : Int) (w : World) : Below w.heap.size w (plW r b t w) := bel2 w _ _
theorem placeOf_any (r b : ByteArray) (t : Int) (w : World) :
    Calls Try.prog 73 #[.agg #[.string r, .string b, .int .i64 t]] w fun e w' => e = .returned (.agg #[.string r, .string b]) ∧ w' = plW r b t w := by
  go_enter Try.func73, Try.ntmps73
  go_wp2
  refine bodyPost_ret (v := .agg #[.string r, .string b]) (by simp [results, Try.results73, go_sem]) rfl ⟨rfl, ?_⟩
  rfl
/-- Block n holds a place. -/
def Px (n : Nat) (r b : ByteArray) (w : World) : Prop := w.cell? ⟨n, 0, none⟩ = some (.string r) ∧ w.cell? ⟨n, 1, none⟩ = some (.string b)
def cmp2 (r b r' b' : ByteArray) : Int := if cmpS r r' ≠ 0 then cmpS r r' else cmpS b b'
set_option maxHeartbeats 1000000 in
theorem slCompare_any (n n' : Nat) (r b r' b' : ByteArray) (w : World) (h : Px n r b w) (h' : Px n' r' b' w) :
    Calls Try.prog 134 #[.slice (some ⟨n, 0, none⟩) 2 2, .slice (some ⟨n', 0, none⟩) 2 2] w fun e w' => e = .returned (.int .i64 (cmp2 r b r' b')) ∧ w = w' := by
  obtain ⟨c0, c1⟩ := h
  obtain ⟨c0', c1'⟩ := h'
  go_enter Try.func134, Try.ntmps134
  go_wp2_with fail
  go_loop [5, 6, 7, 8, 11] (fun _ _ _ _ i => i = .int .i64 0 ∨ (i = .int .i64 1 ∧ cmpS r r' = 0) ∨ (i = .int .i64 2 ∧ cmpS r r' = 0 ∧ cmpS b b' = 0)) (fun _ _ _ _ i => 2 - (intOf i).toNat)
  case atStart => exact Or.inl rfl
  case round =>
    rcases hrel with rfl | ⟨rfl, h1⟩ | ⟨rfl, h1, h2⟩
    · by_cases hz : cmpS r r' = 0
      · have HZ := Lib.hid hz
        have hz' : (cmpS r r' == 0) = true := by simpa using hz
        clear hz
        go_wp2_with (go_at_call 143; refine (cmpCompare_any _ _ _).mono ?_; rintro e w' ⟨rfl, rfl⟩)
        go_round
        case rel => exact Or.inr (Or.inl ⟨rfl, HZ.out⟩)
        case measure => simp [intOf]
      · have hk : cmp2 r b r' b' = cmpS r r' := by unfold cmp2; rw [if_pos hz]
        have HK := Lib.hid hk; clear hk
        have hz' : (cmpS r r' == 0) = false := by simpa using hz
        clear hz
        go_wp2_with (go_at_call 143; refine (cmpCompare_any _ _ _).mono ?_; rintro e w' ⟨rfl, rfl⟩)
        go_ret
        exact ⟨by rw [HK.out]; rfl, rfl⟩
    · have hk : cmp2 r b r' b' = cmpS b b' := by unfold cmp2; rw [if_neg (by simpa using h1)]
      have HK := Lib.hid hk; clear hk
      have H1 := Lib.hid h1; clear h1
      by_cases hz : cmpS b b' = 0
      · have HZ := Lib.hid hz
        have hz' : (cmpS b b' == 0) = true := by simpa using hz
        clear hz
        go_wp2_with (go_at_call 143; refine (cmpCompare_any _ _ _).mono ?_; rintro e w' ⟨rfl, rfl⟩)
        go_round
        case rel => exact Or.inr (Or.inr ⟨rfl, H1.out, HZ.out⟩)
        case measure => simp [intOf]
      · have hz' : (cmpS b b' == 0) = false := by simpa using hz
        clear hz
        go_wp2_with (go_at_call 143; refine (cmpCompare_any _ _ _).mono ?_; rintro e w' ⟨rfl, rfl⟩)
        go_ret
        exact ⟨by rw [HK.out]; rfl, rfl⟩
    · have hk : cmp2 r b r' b' = 0 := by unfold cmp2; rw [if_neg (by simpa using h1)]; exact h2
      have HK := Lib.hid hk; clear hk h1 h2
      go_wp2_with fail
      go_ret
      exact ⟨by rw [HK.out]; rfl, rfl⟩
theorem slCompare_same (n n' : Nat) (r b r' b' : ByteArray) (w : World) (h : Px n r b w) (h' : Px n' r' b' w) :
    Calls Try.prog 134 #[.slice (some ⟨n, 0, none⟩) 2 2, .slice (some ⟨n', 0, none⟩) 2 2] w fun e w' => e = .returned (.int .i64 (cmp2 r b r' b')) ∧ w' = w :=
  (slCompare_any n n' r b r' b' w h h').mono fun _ _ ⟨h, e⟩ => ⟨h, e.symm⟩
theorem Px.made (r b : ByteArray) (w : World) (T : Nat) : Px w.heap.size r b (w.alloc (.cells #[.string r, .string b] T)) := by
  have hp : (w.alloc (.cells #[.string r, .string b] T)).heap[w.heap.size]? = some (.cells #[.string r, .string b] T) := by show (w.heap.push _)[w.heap.size]? = _; simp
  refine ⟨?_, ?_⟩ <;> (simp only [World.cell?, hp]; rfl)
theorem Px.alloc {n : Nat} {r b : ByteArray} {w : World} (h : Px n r b w) (hn : n < w.heap.size) (o : Obj) : Px n r b (w.alloc o) := by
  have e : (w.alloc o).heap[n]? = w.heap[n]? := Below.heap_alloc _ _ _ hn
  exact ⟨(World.cell?_of_block (w := w) e).trans h.1, (World.cell?_of_block (w := w) e).trans h.2⟩
set_option maxHeartbeats 1000000 in
theorem before_any (r b r' b' : ByteArray) (w : World) :
    Calls Try.prog 115 #[.agg #[.string r, .string b], .agg #[.string r', .string b']] w fun e w' => e = .returned (.bool (decide (cmp2 r b r' b' < 0))) ∧ Below w.heap.size w w' := by
  have hp : ∀ T, Px w.heap.size r b ((w.alloc (.cells #[.string r, .string b] T)).alloc (.cells #[.string r', .string b'] T)) := fun T => (Px.made r b w T).alloc (by simp) _
  have hp' : ∀ T, Px (w.heap.size + 1) r' b' ((w.alloc (.cells #[.string r, .string b] T)).alloc (.cells #[.string r', .string b'] T)) := fun T => by
    have := Px.made r' b' (w.alloc (.cells #[.string r, .string b] T)) T
    rwa [show (w.alloc (.cells #[.string r, .string b] T)).heap.size = w.heap.size + 1 by simp] at this
  have HP := Lib.hid hp; clear hp
  have HP' := Lib.hid hp'; clear hp'
  go_enter Try.func115, Try.ntmps115
  go_wp2_with fail
  have P1 := HP.out 95
  have P2 := HP'.out 95
  have HB := Lib.hid (bel2 w (.cells #[.string r, .string b] 95) (.cells #[.string r', .string b'] 95))
  generalize (w.alloc (Obj.cells #[Value.string r, Value.string b] 95)).alloc (Obj.cells #[Value.string r', Value.string b'] 95) = w2 at P1 P2 HB ⊢
  have Q1 := Lib.hid P1; clear P1
  have Q2 := Lib.hid P2; clear P2
  go_quiet (first
    | (go_at_call 134; refine Calls.quiet_of_same (slCompare_same _ _ r b r' b' _ ?_ ?_); exact Q1.out; exact Q2.out))
  go_wp2_with fail
  go_ret
  exact ⟨rfl, bel_drewN HB.out _⟩
/-- Which of two keys comes first. -/
def lsB (r b : ByteArray) (t : Int) (r' b' : ByteArray) (t' : Int) : Bool := if !(r.toList == r'.toList) then Op.bytesLess r.toList r'.toList else if !(b.toList == b'.toList) then Op.bytesLess b.toList b'.toList else decide (t' < t)
set_option maxHeartbeats 1000000 in
theorem l2Less_any (r b : ByteArray) (t : Int) (r' b' : ByteArray) (t' : Int) (w : World) :
    Calls Try.prog 68 #[.agg #[.string r, .string b, .int .i64 t], .agg #[.string r', .string b', .int .i64 t']] w fun e w' => e = .returned (.bool (lsB r b t r' b' t')) ∧ Below w.heap.size w w' := by
  have HB := Lib.hid (bel2 w)
  cases h1 : (r.toList == r'.toList)
  · have hk : lsB r b t r' b' t' = Op.bytesLess r.toList r'.toList := by simp only [lsB, h1]; rfl
    have HK := Lib.hid hk; clear hk
    go_enter Try.func68, Try.ntmps68
    go_wp2
    go_ret
    exact ⟨by rw [HK.out]; rfl, HB.out _ _⟩
  · cases h2 : (b.toList == b'.toList)
    · have hk : lsB r b t r' b' t' = Op.bytesLess b.toList b'.toList := by simp only [lsB, h1, h2]; rfl
      have HK := Lib.hid hk; clear hk
      go_enter Try.func68, Try.ntmps68
      go_wp2
      go_ret
      exact ⟨by rw [HK.out]; rfl, HB.out _ _⟩
    · have hk : lsB r b t r' b' t' = decide (t' < t) := by simp only [lsB, h1, h2]; rfl
      have HK := Lib.hid hk; clear hk
      go_enter Try.func68, Try.ntmps68
      go_wp2
      go_ret
      exact ⟨by rw [HK.out]; rfl, HB.out _ _⟩
end Go.Proofs.Ytopcjiaakefmeaa.Kp
