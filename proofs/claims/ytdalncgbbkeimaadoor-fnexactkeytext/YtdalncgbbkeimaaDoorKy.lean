/-
  Contracts of spec.KeyOk, impl.KeyOk, laws.toKey, laws.szKey: what they give for every key, nothing that was there turned.
-/
import Derived.Test.YtdalncgbbkeimaaDoorNm
import Derived.Carry
namespace Go.Proofs.YtdalncgbbkeimaaDoor.Kp
open Go.RowKit Wd Rp
theorem specName_is {s : ByteArray} {v : Bool} (h : nmB s.data.toList = v) (w : World) (hs : s.size ≤ 9223372036854775806) : Calls Tryd.prog 24 #[.string s] w fun e w' => e = .returned (.bool v) ∧ w = w' :=
  (specName_any s w hs).mono fun _ _ ⟨he, hw⟩ => ⟨by rw [he, h], hw⟩
theorem implName_is {s : ByteArray} {v : Bool} (h : nmB s.data.toList = v) (w : World) : Calls Tryd.prog 23 #[.string s] w fun e w' => e = .returned (.bool v) ∧ w = w' :=
  (implName_any s w).mono fun _ _ ⟨he, hw⟩ => ⟨by rw [he, h], hw⟩
theorem l2Time_any (n : Int) (w : World) :
    Calls Tryd.prog 61 #[.int .i64 n] w fun e w' => e = .returned (.bool (inB n 0 1000000)) ∧ w = w' := by
  go_enter Tryd.func61, Tryd.ntmps61
  go_wp2_with (go_at_call 62; refine (l1In_any _ _ _ _).mono ?_; rintro e w' ⟨rfl, rfl⟩)
  go_ret
  exact ⟨rfl, rfl⟩
/-- Block n holds a key. -/
def Bx (n : Nat) (r b : ByteArray) (t : Int) (w : World) : Prop := w.cell? ⟨n, 0, none⟩ = some (.string r) ∧ w.cell? ⟨n, 1, none⟩ = some (.string b) ∧ w.cell? ⟨n, 2, none⟩ = some (.int .i64 t) ∧ n < w.heap.size
theorem Bx.made (r b : ByteArray) (t : Int) (w : World) (T : Nat) : Bx w.heap.size r b t (w.alloc (.cells #[.string r, .string b, .int .i64 t] T)) := by
  have hp : (w.alloc (.cells #[.string r, .string b, .int .i64 t] T)).heap[w.heap.size]? = some (.cells #[.string r, .string b, .int .i64 t] T) := by show (w.heap.push _)[w.heap.size]? = _; simp
  refine ⟨?_, ?_, ?_, by simp⟩ <;> (simp only [World.cell?, hp]; rfl)
theorem Bx.below {n B : Nat} {r b : ByteArray} {t : Int} {w w' : World} (h : Bx n r b t w) (hb : Below B w w') (hn : n < B) : Bx n r b t w' := by
  obtain ⟨h0, h1, h2, h3⟩ := h
  have e : w'.heap[n]? = w.heap[n]? := hb.block n hn
  exact ⟨(World.cell?_of_block (w := w) e).trans h0, (World.cell?_of_block (w := w) e).trans h1, (World.cell?_of_block (w := w) e).trans h2, Nat.lt_of_lt_of_le h3 hb.size⟩
theorem Bx.next {n : Nat} {r b : ByteArray} {t : Int} {w w' : World} (h : Bx n r b t w) (hb : Below w.heap.size w w') : Bx n r b t w' := h.below hb h.2.2.2
/-- What KeyOk gives. -/
def KeyPost (r b : ByteArray) (t : Int) (w : World) (e : Ending) (w' : World) : Prop := e = .returned (.bool (keyB r.data.toList b.data.toList t)) ∧ Below w.heap.size w w'
set_option maxHeartbeats 1000000 in
theorem specKey_any (r b : ByteArray) (t : Int) (w : World) (hr : r.size ≤ 9223372036854775806) (hb : b.size ≤ 9223372036854775806) :
    Calls Tryd.prog 22 #[.agg #[.string r, .string b, .int .i64 t]] w (KeyPost r b t w) := by
  have HB := Lib.hid (bel1 w)
  cases h1 : nmB r.data.toList
  · have hk : keyB r.data.toList b.data.toList t = false := by simp [keyB, h1]
    have HK := Lib.hid hk; clear hk
    have H1 := Lib.hid h1; clear h1
    go_enter Tryd.func22, Tryd.ntmps22
    go_wp2_with fail
    refine (specName_is H1.out _ hr).mono ?_; rintro e w1 ⟨rfl, rfl⟩
    go_wp2_with fail
    go_ret
    exact ⟨by rw [HK.out]; rfl, HB.out _⟩
  · have H1 := Lib.hid h1
    cases h2 : nmB b.data.toList
    · have hk : keyB r.data.toList b.data.toList t = false := by simp [keyB, h1, h2]
      have HK := Lib.hid hk; clear hk h1
      have H2 := Lib.hid h2; clear h2
      go_enter Tryd.func22, Tryd.ntmps22
      go_wp2_with fail
      refine (specName_is H1.out _ hr).mono ?_; rintro e w1 ⟨rfl, rfl⟩
      go_wp2_with fail
      refine (specName_is H2.out _ hb).mono ?_; rintro e w1 ⟨rfl, rfl⟩
      go_wp2_with fail
      go_ret
      exact ⟨by rw [HK.out]; rfl, HB.out _⟩
    · have hk : keyB r.data.toList b.data.toList t = inB t 0 1000000 := by simp [keyB, h1, h2]
      have HK := Lib.hid hk; clear hk h1
      have H2 := Lib.hid h2; clear h2
      go_enter Tryd.func22, Tryd.ntmps22
      go_wp2_with fail
      refine (specName_is H1.out _ hr).mono ?_; rintro e w1 ⟨rfl, rfl⟩
      go_wp2_with fail
      refine (specName_is H2.out _ hb).mono ?_; rintro e w1 ⟨rfl, rfl⟩
      go_wp2_with fail
      refine (l2Time_any _ _).mono ?_; rintro e w1 ⟨rfl, rfl⟩
      go_wp2_with fail
      go_ret
      exact ⟨by rw [HK.out]; rfl, HB.out _⟩
set_option maxHeartbeats 1000000 in
theorem implTime_any (t : Int) (w : World) :
    Calls Tryd.prog 60 #[.int .i64 t] w fun e w' => e = .returned (.bool (inB t 0 1000000)) ∧ w = w' := by
  by_cases h3 : 0 ≤ t
  · have h3B : decide (0 ≤ t) = true := by simpa using h3
    have hk : inB t 0 1000000 = decide (t ≤ 1000000) := by simp [inB, h3]
    have HK := Lib.hid hk; clear hk
    go_enter Tryd.func60, Tryd.ntmps60
    go_wp2_with fail
    go_ret
    exact ⟨by rw [HK.out]; rfl, rfl⟩
  · have h3B : decide (0 ≤ t) = false := by simpa using h3
    have hk : inB t 0 1000000 = false := by simp [inB, h3]
    have HK := Lib.hid hk; clear hk
    go_enter Tryd.func60, Tryd.ntmps60
    go_wp2_with fail
    go_ret
    exact ⟨by rw [HK.out]; rfl, rfl⟩
theorem implTime_is {t : Int} {v : Bool} (h : inB t 0 1000000 = v) (w : World) : Calls Tryd.prog 60 #[.int .i64 t] w fun e w' => e = .returned (.bool v) ∧ w = w' :=
  (implTime_any t w).mono fun _ _ ⟨he, hw⟩ => ⟨by rw [he, h], hw⟩
set_option maxHeartbeats 1000000 in
theorem implKey_any (r b : ByteArray) (t : Int) (w : World) :
    Calls Tryd.prog 21 #[.agg #[.string r, .string b, .int .i64 t]] w (KeyPost r b t w) := by
  have HB := Lib.hid (bel1 w)
  cases h1 : nmB r.data.toList
  · have hk : keyB r.data.toList b.data.toList t = false := by simp [keyB, h1]
    have HK := Lib.hid hk; clear hk
    have H1 := Lib.hid h1; clear h1
    go_enter Tryd.func21, Tryd.ntmps21
    go_wp2_with fail
    refine (implName_is H1.out _).mono ?_; rintro e w1 ⟨rfl, rfl⟩
    go_wp2_with fail
    go_ret
    exact ⟨by rw [HK.out]; rfl, HB.out _⟩
  · have H1 := Lib.hid h1
    cases h2 : nmB b.data.toList
    · have hk : keyB r.data.toList b.data.toList t = false := by simp [keyB, h1, h2]
      have HK := Lib.hid hk; clear hk h1
      have H2 := Lib.hid h2; clear h2
      go_enter Tryd.func21, Tryd.ntmps21
      go_wp2_with fail
      refine (implName_is H1.out _).mono ?_; rintro e w1 ⟨rfl, rfl⟩
      go_wp2_with fail
      refine (implName_is H2.out _).mono ?_; rintro e w1 ⟨rfl, rfl⟩
      go_wp2_with fail
      go_ret
      exact ⟨by rw [HK.out]; rfl, HB.out _⟩
    · have hk : keyB r.data.toList b.data.toList t = inB t 0 1000000 := by simp [keyB, h1, h2]
      have HK := Lib.hid hk; clear hk h1
      have H2 := Lib.hid h2; clear h2
      go_enter Tryd.func21, Tryd.ntmps21
      go_wp2_with fail
      refine (implName_is H1.out _).mono ?_; rintro e w1 ⟨rfl, rfl⟩
      go_wp2_with fail
      refine (implName_is H2.out _).mono ?_; rintro e w1 ⟨rfl, rfl⟩
      go_wp2_with fail
      refine (implTime_any _ _).mono ?_; rintro e w1 ⟨rfl, rfl⟩
      go_wp2_with fail
      go_ret
      exact ⟨by rw [HK.out]; rfl, HB.out _⟩
theorem specKey_is {r b : ByteArray} {t : Int} {v : Bool} (h : keyB r.data.toList b.data.toList t = v) (w : World) (hr : r.size ≤ 9223372036854775806) (hb : b.size ≤ 9223372036854775806) :
    Calls Tryd.prog 22 #[.agg #[.string r, .string b, .int .i64 t]] w fun e w' => e = .returned (.bool v) ∧ Below w.heap.size w w' :=
  (specKey_any r b t w hr hb).mono fun _ _ ⟨he, hw⟩ => ⟨by rw [he, h], hw⟩
theorem implKey_is {r b : ByteArray} {t : Int} {v : Bool} (h : keyB r.data.toList b.data.toList t = v) (w : World) :
    Calls Tryd.prog 21 #[.agg #[.string r, .string b, .int .i64 t]] w fun e w' => e = .returned (.bool v) ∧ Below w.heap.size w w' :=
  (implKey_any r b t w).mono fun _ _ ⟨he, hw⟩ => ⟨by rw [he, h], hw⟩
set_option maxHeartbeats 1000000 in
theorem toKey_any (r b : ByteArray) (t : Int) (w : World) :
    Calls Tryd.prog 33 #[.agg #[.string r, .string b, .int .i64 t]] w fun e w' => e = .returned (.agg #[.string r, .string b, .int .i64 t]) ∧ Below w.heap.size w w' := by
  go_enter Tryd.func33, Tryd.ntmps33
  go_wp2
  refine bodyPost_ret (v := .agg #[.string r, .string b, .int .i64 t]) (by simp [results, Tryd.results33, go_sem]) rfl ⟨rfl, ?_⟩
  exact bel3 w _ _ _
/-- What szKey leaves. -/
def szL (r b : ByteArray) (n : Int) : Int := if n - r.size < 0 then -1 else if n - r.size - b.size < 0 then -1 else n - r.size - b.size
set_option maxHeartbeats 1000000 in
theorem szKey_any (r b : ByteArray) (t n : Int) (w : World) (hr : r.size ≤ 9223372036854775807) (hb : b.size ≤ 9223372036854775807) (h0 : 0 ≤ n) (hn : n ≤ 1048576) :
    Calls Tryd.prog 32 #[.agg #[.string r, .string b, .int .i64 t], .int .i64 n] w fun e w' => e = .returned (.int .i64 (szL r b n)) ∧ Below w.heap.size w w' := by
  have HB := Lib.hid (bel1 w)
  by_cases h1 : n - r.size < 0
  · have hk : szL r b n = -1 := by simp [szL, h1]
    have HK := Lib.hid hk; clear hk
    go_enter Tryd.func32, Tryd.ntmps32
    go_wp2
    go_ret
    exact ⟨by rw [HK.out]; rfl, HB.out _⟩
  · by_cases h2 : n - r.size - b.size < 0
    · have hk : szL r b n = -1 := by simp [szL, h1, h2]
      have HK := Lib.hid hk; clear hk
      go_enter Tryd.func32, Tryd.ntmps32
      go_wp2
      go_ret
      exact ⟨by rw [HK.out]; rfl, HB.out _⟩
    · have hk : szL r b n = n - r.size - b.size := by simp [szL, h1, h2]
      have HK := Lib.hid hk; clear hk
      go_enter Tryd.func32, Tryd.ntmps32
      go_wp2
      go_ret
      exact ⟨by rw [HK.out]; rfl, HB.out _⟩
end Go.Proofs.YtdalncgbbkeimaaDoor.Kp
