/-
  The decimal form of a number, built by a loop from its last digit on: laws.digits and spec.l1Int give it, and nothing that was there turns.
  The contract of laws.markText: the letter m and the decimal digits.
-/
import Derived.Test.YtdalncgbbkeimaaDoorRp
import Derived.Test.YtdalncgbbkeimaaDoorTx
import Derived.WalkSpells
import Derived.Below
import Derived.Laws.BytesArg
import Derived.Laws.Closers25b
import Derived.Lib.Strings
import Derived.Lib.SmallJoins
namespace Go.Proofs.YtdalncgbbkeimaaDoor.Rp
open Go.RowKit Wd
/-- One byte as a text. -/
def one (x : Int) : ByteArray := strOfNums [x]
theorem one_list (x : Int) : (one x).data.toList = [UInt8.ofNat x.toNat] := rfl
theorem one_size (x : Int) : (one x).size = 1 := rfl
theorem conv_one (x : Int) (w : World) : Sem.run Tryd.prog (convert 22 9 (Value.slice (some ⟨w.heap.size, 0, none⟩) 1 1)) (w.alloc (Obj.cells #[Value.int IntKind.u8 x] 5)) = .ok (.string (one x)) (w.alloc (Obj.cells #[Value.int IntKind.u8 x] 5)) :=
  run_convert_bytes_arg (P := Tryd.prog) (w.alloc (Obj.cells #[Value.int IntKind.u8 x] 5)) 22 5 Tryd.underlying22 Tryd.underlying5 w.heap.size 0 1 1 [x] rfl
    (fun i hi => by
      have h0 : i = 0 := by omega
      subst h0
      have hp : (w.alloc (.cells #[Value.int IntKind.u8 x] 5)).heap[w.heap.size]? = some (.cells #[Value.int IntKind.u8 x] 5) := by show (w.heap.push _)[w.heap.size]? = _; simp
      simp only [World.cell?, hp]; rfl) 9 Tryd.underlying9

/-- So far: the digits behind the first ones, which m still spells. -/
def DgR (n m : Nat) (t : ByteArray) : Prop := (t.data.toList = [] ∧ m = n) ∨ (t.data.toList ≠ [] ∧ Lib.decDigits n = (if m = 0 then [] else Lib.decDigits m) ++ t.data.toList)
theorem DgR.start (n : Nat) : DgR n n ⟨#[]⟩ := Or.inl ⟨rfl, rfl⟩
theorem DgR.step {n m : Nat} {t : ByteArray} (h : DgR n m t) (hm : t.data.toList = [] ∨ 0 < m) : DgR n (m / 10) (one (48 + (m : Int) % 10) ++ t) := by
  have hl : (one (48 + (m : Int) % 10) ++ t).data.toList = UInt8.ofNat (48 + m % 10) :: t.data.toList := by
    rw [Joins.data_append, one_list, show (48 + (m : Int) % 10).toNat = 48 + m % 10 by omega]; rfl
  have hd : ∀ k : Nat, Lib.decDigits k = (if k / 10 = 0 then [] else Lib.decDigits (k / 10)) ++ [UInt8.ofNat (48 + k % 10)] := by
    intro k
    by_cases hk : k < 10
    · rw [Lib.decDigits_one hk, if_pos (by omega), show k % 10 = k by omega]; rfl
    · rw [Lib.decDigits, dif_neg hk, if_neg (by omega)]
  right
  refine ⟨by rw [hl]; simp, ?_⟩
  rw [hl]
  rcases h with ⟨h1, rfl⟩ | ⟨h1, h2⟩
  · rw [h1]; exact hd m
  · rw [h2, if_neg (by rcases hm with hm | hm; exact absurd hm h1; omega), hd m, List.append_assoc]; rfl
theorem DgR.done {n : Nat} {t : ByteArray} (h : DgR n 0 t) (ht : ¬ t.data.toList = []) : t = ⟨(Lib.decDigits n).toArray⟩ := by
  rcases h with ⟨h1, _⟩ | ⟨_, h2⟩
  · exact absurd h1 ht
  · rw [if_pos rfl, List.nil_append] at h2; rw [h2]
theorem DgR.size {n m : Nat} {t : ByteArray} (h : DgR n m t) (hn : n ≤ 9223372036854775808) : t.size ≤ 20 := by
  rw [Lib.size_eq]
  rcases h with ⟨h1, _⟩ | ⟨_, h2⟩
  · rw [h1]; decide
  · have h3 := congrArg List.length h2
    rw [List.length_append] at h3
    have := dec_len 18 n (by omega)
    omega
theorem list_nil (t : ByteArray) : t.toList = [] ↔ t.data.toList = [] := by rw [Lib.toList_data]
def lenOf : Value → Nat | .string t => t.size | _ => 0


theorem minus_app {t : ByteArray} {l : List UInt8} (h : t = ⟨l.toArray⟩) : ((⟨#[45]⟩ : ByteArray) ++ t) = ⟨(45 :: l).toArray⟩ := by
  subst h
  apply ByteArray.ext
  apply Array.toList_inj.1
  rw [Joins.data_append]; rfl
theorem neg_mod (m : Nat) : (-(m : Int)).tmod 10 = -((m : Int) % 10) := by rw [Int.neg_tmod, Int.tmod_eq_emod_of_nonneg (by omega)]
theorem neg_div (m : Nat) : (-(m : Int)).tdiv 10 = -((m : Int) / 10) := by rw [Int.neg_tdiv, Int.tdiv_eq_ediv_of_nonneg (by omega)]
set_option maxRecDepth 100000 in
set_option maxHeartbeats 1000000 in
theorem l1Int_pos (n : Nat) (w : World) (hn : n ≤ 9223372036854775807) :
    Calls Tryd.prog 90 #[.int .i64 n] w fun e w' => e = .returned (.string ⟨(Lib.itoa n).toArray⟩) ∧ Below w.heap.size w w' := by
  have KC := conv_one
  have hneg : decide ((n : Int) < 0) = false := by simp
  go_enter Tryd.func90, Tryd.ntmps90
  go_wp2
  go_loopw [0, 3, 5] (fun i s _ wr => ∃ (m : Nat) (t : ByteArray), i = .int .i64 m ∧ s = .string t ∧ m ≤ n ∧ DgR n m t ∧ Below w.heap.size w wr) (fun i s _ _ => (intOf i).toNat + (if lenOf s = 0 then 1 else 0))
  case atStart => exact ⟨n, ⟨#[]⟩, rfl, rfl, Nat.le_refl _, DgR.start n, Below.refl _ _⟩
  case round =>
    obtain ⟨m, t, rfl, rfl, hm, hd, hb⟩ := hrel
    have hsz := hd.size (by omega)
    have hsum : ¬ 9223372036854775807 < (one (48 + (m : Int) % 10)).size + t.size := by rw [one_size]; omega
    have hm0 : 0 ≤ (m : Int) % 10 := by omega
    have HB := Lib.hid hb; clear hb
    have HD := Lib.hid hd; clear hd
    have hB : w.heap.size ≤ wr.heap.size := HB.out.size
    by_cases ht : t.toList = []
    · have htB : t.toList.isEmpty = true := by rw [ht]; rfl
      go_wp2
      go_roundw
      case rel => exact ⟨m / 10, _, by go_num, rfl, by omega, HD.out.step (Or.inl ((list_nil t).1 ht)), HB.out.alloc hB _⟩
      case measure =>
        have e0 : t.size = 0 := by rw [Lib.size_eq, (list_nil t).1 ht]; rfl
        have e1 : (one (48 + (m : Int) % 10) ++ t).size = 1 + t.size := by rw [ByteArray.size_append, one_size]
        simp only [intOf, lenOf, e1, e0]
        simp; omega
    · have htB : t.toList.isEmpty = false := by cases hl : t.toList; exact absurd hl ht; rfl
      by_cases hp : 0 < m
      · have hpB : ((m : Int) != 0) = true := by rw [bne_iff_ne]; omega
        go_wp2
        go_roundw
        case rel => exact ⟨m / 10, _, by go_num, rfl, by omega, HD.out.step (Or.inr hp), HB.out.alloc hB _⟩
        case measure =>
          have e1 : (one (48 + (m : Int) % 10) ++ t).size = 1 + t.size := by rw [ByteArray.size_append, one_size]
          have e2 : ¬ 1 + t.size = 0 := by omega
          simp only [intOf, lenOf, e1, e2, if_false]
          omega
      · obtain rfl : m = 0 := by omega
        have he := HD.out.done (fun e => ht ((list_nil t).2 e))
        have HE := Lib.hid he; clear he
        go_wp2
        go_ret
        exact ⟨by rw [Lib.itoa_nonneg, ← HE.out]; rfl, HB.out⟩
set_option maxRecDepth 100000 in
set_option maxHeartbeats 1000000 in
theorem l1Int_neg (n : Nat) (w : World) (hn : n ≤ 9223372036854775808) (hn1 : 1 ≤ n) :
    Calls Tryd.prog 90 #[.int .i64 (-(n : Int))] w fun e w' => e = .returned (.string ⟨(Lib.itoa (-(n : Int))).toArray⟩) ∧ Below w.heap.size w w' := by
  have KC := conv_one
  have hneg : decide (-(n : Int) < 0) = true := by simp; omega
  have hneg' : -(n : Int) < 0 := by omega
  go_enter Tryd.func90, Tryd.ntmps90
  go_wp2
  go_loopw [0, 3, 5] (fun i s _ wr => ∃ (m : Nat) (t : ByteArray), i = .int .i64 (-(m : Int)) ∧ s = .string t ∧ m ≤ n ∧ DgR n m t ∧ Below w.heap.size w wr) (fun i s _ _ => (-(intOf i)).toNat + (if lenOf s = 0 then 1 else 0))
  case atStart => exact ⟨n, ⟨#[]⟩, rfl, rfl, Nat.le_refl _, DgR.start n, Below.refl _ _⟩
  case round =>
    obtain ⟨m, t, rfl, rfl, hm, hd, hb⟩ := hrel
    have hsz := hd.size (by omega)
    have hsum : ¬ 9223372036854775807 < (one (48 + (m : Int) % 10)).size + t.size := by rw [one_size]; omega
    have hm0 : 0 ≤ (m : Int) % 10 := by omega
    have hm1 : (m : Int) % 10 ≤ 9 := by omega
    have q1 := neg_mod m
    have q2 := neg_div m
    have q3 : 0 ≤ (m : Int) / 10 := by omega
    have q4 : (m : Int) / 10 ≤ 922337203685477580 := by omega
    have HB := Lib.hid hb; clear hb
    have HD := Lib.hid hd; clear hd
    have hB : w.heap.size ≤ wr.heap.size := HB.out.size
    have hsum2 : ¬ 9223372036854775807 < (one (48 + -((m : Int) % 10))).size + t.size := by rw [one_size]; omega
    have step2 : (t.data.toList = [] ∨ 0 < m) → (m : Int) % 10 ≤ 0 → DgR n (m / 10) (one (48 + -((m : Int) % 10)) ++ t) := fun h h' => by
      have := HD.out.step h
      rwa [show 48 + -((m : Int) % 10) = 48 + (m : Int) % 10 by omega]
    have S2 := Lib.hid step2; clear step2
    have e1 : ∀ x : Int, (one x ++ t).size = 1 + t.size := fun x => by rw [ByteArray.size_append, one_size]
    have E1 := Lib.hid e1; clear e1
    by_cases ht : t.toList = []
    · have htB : t.toList.isEmpty = true := by rw [ht]; rfl
      have e0 : t.size = 0 := by rw [Lib.size_eq, (list_nil t).1 ht]; rfl
      have E0 := Lib.hid e0; clear e0
      go_wp2
      all_goals go_roundw
      case rel => first | exact ⟨m / 10, _, by go_num, rfl, by omega, HD.out.step (Or.inl ((list_nil t).1 ht)), HB.out.alloc hB _⟩ | exact ⟨m / 10, _, by go_num, rfl, by omega, S2.out (Or.inl ((list_nil t).1 ht)) (by assumption), HB.out.alloc hB _⟩
      case rel => first | exact ⟨m / 10, _, by go_num, rfl, by omega, HD.out.step (Or.inl ((list_nil t).1 ht)), HB.out.alloc hB _⟩ | exact ⟨m / 10, _, by go_num, rfl, by omega, S2.out (Or.inl ((list_nil t).1 ht)) (by assumption), HB.out.alloc hB _⟩
      case measure => simp only [intOf, lenOf, E1.out, E0.out]; simp; omega
      case measure => simp only [intOf, lenOf, E1.out, E0.out]; simp; omega
    · have htB : t.toList.isEmpty = false := by cases hl : t.toList; exact absurd hl ht; rfl
      by_cases hp : 0 < m
      · have hpB : (-(m : Int) != 0) = true := by rw [bne_iff_ne]; omega
        have e2 : ¬ 1 + t.size = 0 := by omega
        go_wp2
        all_goals go_roundw
        case rel => first | exact ⟨m / 10, _, by go_num, rfl, by omega, HD.out.step (Or.inr hp), HB.out.alloc hB _⟩ | exact ⟨m / 10, _, by go_num, rfl, by omega, S2.out (Or.inr hp) (by assumption), HB.out.alloc hB _⟩
        case rel => first | exact ⟨m / 10, _, by go_num, rfl, by omega, HD.out.step (Or.inr hp), HB.out.alloc hB _⟩ | exact ⟨m / 10, _, by go_num, rfl, by omega, S2.out (Or.inr hp) (by assumption), HB.out.alloc hB _⟩
        case measure => simp only [intOf, lenOf, E1.out, e2, if_false]; omega
        case measure => simp only [intOf, lenOf, E1.out, e2, if_false]; omega
      · obtain rfl : m = 0 := by omega
        have he := HD.out.done (fun e => ht ((list_nil t).2 e))
        have HE := Lib.hid he; clear he
        have hs1 : ¬ 9223372036854775807 < (⟨#[45]⟩ : ByteArray).size + t.size := by show ¬ _ < 1 + t.size; omega
        clear q1 q2 q3 q4 hm0 hm1 hsum hsum2
        go_wp2
        go_ret
        refine ⟨?_, HB.out⟩
        have hx := minus_app HE.out
        rw [← Lib.itoa_neg n hn1] at hx
        show Ending.returned (Value.string (⟨#[45]⟩ ++ t)) = _
        rw [hx]
theorem l1Int_any (n : Int) (w : World) (h0 : -9223372036854775808 ≤ n) (h1 : n ≤ 9223372036854775807) :
    Calls Tryd.prog 90 #[.int .i64 n] w fun e w' => e = .returned (.string ⟨(Lib.itoa n).toArray⟩) ∧ Below w.heap.size w w' := by
  by_cases h : 0 ≤ n
  · obtain ⟨k, rfl⟩ := Int.eq_ofNat_of_zero_le h
    exact l1Int_pos k w (by omega)
  · obtain ⟨k, rfl⟩ : ∃ k : Nat, n = -(k : Int) := ⟨n.natAbs, by omega⟩
    exact l1Int_neg k w (by omega) (by omega)
end Go.Proofs.YtdalncgbbkeimaaDoor.Rp
namespace Go.Proofs.YtdalncgbbkeimaaDoor.Cl
open Go.RowKit Wd Rp Kp
/-- A mark. -/
def mtx (k : Nat) : List UInt8 := 109 :: Lib.decDigits k
theorem mtx_app (t : ByteArray) (k : Nat) (h : t = ⟨(Lib.decDigits k).toArray⟩) : ((⟨#[109]⟩ : ByteArray) ++ t) = tx (mtx k) := by
  subst h
  apply ByteArray.ext
  apply Array.toList_inj.1
  rw [Joins.data_append]; rfl
theorem dgr_end {n : Nat} {t : ByteArray} (h : DgR n 0 t) (hn : 1 ≤ n) : t = ⟨(Lib.decDigits n).toArray⟩ :=
  h.done (fun e => by rcases h with ⟨_, h2⟩ | ⟨h1, _⟩; omega; exact h1 e)
set_option maxRecDepth 100000 in
set_option maxHeartbeats 1000000 in
theorem markText_any (n : Nat) (w : World) (hn1 : 1 ≤ n) (hn : n ≤ 9223372036854775807) :
    Calls Tryd.prog 81 #[.int .i64 n] w fun e w' => e = .returned (.string (tx (mtx n))) ∧ Below w.heap.size w w' := by
  have KC := conv_one
  have q0 : ¬ (n : Int) ≤ 0 := by omega
  go_enter Tryd.func81, Tryd.ntmps81
  go_wp2
  go_loopw [0, 3] (fun i s wr => ∃ (m : Nat) (t : ByteArray), i = .int .i64 m ∧ s = .string t ∧ m ≤ n ∧ DgR n m t ∧ Below w.heap.size w wr) (fun i _ _ => (intOf i).toNat)
  case atStart => exact ⟨n, ⟨#[]⟩, rfl, rfl, Nat.le_refl _, DgR.start n, Below.refl _ _⟩
  case round =>
    obtain ⟨m, t, rfl, rfl, hm, hd, hb⟩ := hrel
    have hsz := hd.size (by omega)
    have hsum : ¬ 9223372036854775807 < (one (48 + (m : Int) % 10)).size + t.size := by rw [one_size]; omega
    have HB := Lib.hid hb; clear hb
    have HD := Lib.hid hd; clear hd
    have hB : w.heap.size ≤ wr.heap.size := HB.out.size
    by_cases hp : 0 < m
    · go_wp2
      go_roundw
      case rel => exact ⟨m / 10, _, by go_num, rfl, by omega, HD.out.step (Or.inr hp), HB.out.alloc hB _⟩
      case measure => simp only [intOf]; omega
    · obtain rfl : m = 0 := by omega
      have HE := Lib.hid (mtx_app t n (dgr_end HD.out hn1))
      have hs2 : ¬ 9223372036854775807 < (⟨#[109]⟩ : ByteArray).size + t.size := by show ¬ _ < 1 + t.size; omega
      go_wp2
      go_ret
      exact ⟨by rw [← HE.out]; rfl, HB.out⟩
end Go.Proofs.YtdalncgbbkeimaaDoor.Cl
