/-
  Contracts of spec.Appended and impl.Appended: the frames of the file and a further one ('apV'), or the file as it was; nothing that was there turns.
-/
import Derived.Test.YthlcdbmcpjipdaaDoorFj
namespace Go.Proofs.YthlcdbmcpjipdaaDoor.Fq
open Go.RowKit Wd Rp Kp
set_option linter.unusedVariables false
/-- Every file holds some texts. -/
theorem Fs.some : ∀ (n : Nat) (s : List UInt8), s.length ≤ n → ∃ l, Fs s l
  | n, s, hn => by
    cases hf : fst? s with
    | none => exact ⟨[], (fun _ h => by cases h), s, by simp [tot_nil], hf⟩
    | some t =>
      obtain ⟨hp, r, rfl⟩ := fst_some hf
      have hpos := fr_pos t
      rw [List.length_append] at hn
      match n, hn with
      | 0, hn => omega
      | n + 1, hn =>
        obtain ⟨l, h1, q, h2, h3⟩ := Fs.some n r (by omega)
        exact ⟨t :: l, fun u hu => by rcases List.mem_cons.1 hu with rfl | hu; exact hp; exact h1 u hu, q, by rw [tot_cons, List.append_assoc, ← h2], h3⟩
theorem Fi.some (s : List UInt8) : ∃ l, Fi s l := by
  by_cases h : s.length ≤ 20000
  · obtain ⟨l, hl⟩ := Fs.some _ s (Nat.le_refl _); exact ⟨l, .inl ⟨h, hl⟩⟩
  · exact ⟨[], .inr ⟨by omega, rfl⟩⟩
/-- May s be appended to a file F of the texts l? -/
def apB (F S : List UInt8) (l : List (List UInt8)) : Bool := plB S && (decide (F.length ≤ 20000) && decide ((tot l).length + (fr S).length ≤ 20000))
def apV (f : ByteArray) (S : List UInt8) (l : List (List UInt8)) : Value := if apB f.data.toList S l = true then .tuple #[.string (tx (tot l ++ fr S)), .bool true] else .tuple #[.string f, .bool false]
theorem apV_no {f : ByteArray} {S : List UInt8} {l : List (List UInt8)} (h : apB f.data.toList S l = false) : apV f S l = .tuple #[.string f, .bool false] := by rw [apV, if_neg (by rw [h]; decide)]
theorem apV_yes {f : ByteArray} {S : List UInt8} {l : List (List UInt8)} (h : apB f.data.toList S l = true) : apV f S l = .tuple #[.string (tx (tot l ++ fr S)), .bool true] := by rw [apV, if_pos h]
def ApPost (f s : ByteArray) (w : World) (e : Ending) (w' : World) : Prop := ∃ l, Fi f.data.toList l ∧ e = .returned (apV f s.data.toList l) ∧ Below w.heap.size w w'
theorem ap_join {f : ByteArray} {l : List (List UInt8)} (h : Fi f.data.toList l) (S : List UInt8) : f.extract 0 (tot l).length ++ tx (fr S) = tx (tot l ++ fr S) := by
  rw [sub_ext, tx_app, sub_zero, h.take]
theorem tx_ne {l : List UInt8} (h : 1 ≤ l.length) : ¬ (tx l).toList = [] ∧ (tx l).toList.isEmpty = false := by
  rw [Lib.toList_data, tx_data]
  cases l with
  | nil => simp at h
  | cons => exact ⟨by simp, rfl⟩
theorem specFramed_no {s : ByteArray} (h : plB s.data.toList = false) (w : World) (hs : s.size ≤ 9223372036854775806) : Calls Tryd.prog 17 #[.string s] w fun e w' => e = .returned (.string ⟨#[]⟩) ∧ Below w.heap.size w w' :=
  (specFramed_any s w hs).mono fun _ _ ⟨he, hb⟩ => ⟨by rw [he, frm_no h]; rfl, hb⟩
theorem specFramed_yes {s : ByteArray} (h : plB s.data.toList = true) (w : World) (hs : s.size ≤ 9223372036854775806) : Calls Tryd.prog 17 #[.string s] w fun e w' => e = .returned (.string (tx (fr s.data.toList))) ∧ Below w.heap.size w w' :=
  (specFramed_any s w hs).mono fun _ _ ⟨he, hb⟩ => ⟨by rw [he, frm_yes h], hb⟩
theorem implFramed_no {s : ByteArray} (h : plB s.data.toList = false) (w : World) (hL : LibT w) : Calls Tryd.prog 16 #[.string s] w fun e w' => e = .returned (.string ⟨#[]⟩) ∧ Below w.heap.size w w' :=
  (implFramed_any s w hL).mono fun _ _ ⟨he, hb⟩ => ⟨by rw [he, frm_no h]; rfl, hb⟩
theorem implFramed_yes {s : ByteArray} (h : plB s.data.toList = true) (w : World) (hL : LibT w) : Calls Tryd.prog 16 #[.string s] w fun e w' => e = .returned (.string (tx (fr s.data.toList))) ∧ Below w.heap.size w w' :=
  (implFramed_any s w hL).mono fun _ _ ⟨he, hb⟩ => ⟨by rw [he, frm_yes h], hb⟩
set_option maxHeartbeats 4000000 in
theorem specApp_any (f s : ByteArray) (w : World) (hf : f.size ≤ 4194304) (hs : s.size ≤ 4194304) : Calls Tryd.prog 15 #[.string f, .string s] w (ApPost f s w) := by
  cases hp : plB s.data.toList
  · have HC := Lib.hid (specFramed_no hp w (by omega))
    have HN := Lib.hid (fun l => apV_no (f := f) (S := s.data.toList) (l := l) (by rw [apB, hp]; rfl)); clear hp
    go_enter Tryd.func15, Tryd.ntmps15
    go_wp2_with fail
    refine HC.out.mono ?_; rintro e w1 ⟨rfl, b1⟩
    have B1 := Lib.hid b1; clear b1
    go_wp2_with fail
    refine (specFrames_any f w1 hf).mono ?_; rintro e w2 ⟨v, l, rfl, hfi, -, b2⟩
    have B2 := Lib.hid (bel_tr B1.out b2 (Nat.le_refl _)); clear b2
    have HF := Lib.hid hfi; clear hfi
    go_wp2_with fail
    refine bodyPost_ret (v := .tuple #[.string f, .bool false]) (by simp [results, Tryd.results15, go_sem]) rfl ⟨l, HF.out, by rw [HN.out], B2.out⟩
  · have HC := Lib.hid (specFramed_yes hp w (by omega))
    have hlen := fr_len hp
    have hpos := fr_pos s.data.toList
    obtain ⟨n1, n2⟩ := tx_ne hpos
    have hz : (tx (fr s.data.toList)).size = (fr s.data.toList).length := tx_size _
    have HP := Lib.hid hp; clear hp
    have HJ := Lib.hid (fun l (h : Fi f.data.toList l) => ap_join h s.data.toList)
    generalize tx (fr s.data.toList) = z at HC n1 n2 hz HJ
    by_cases h2 : 20000 < f.size
    · have HN := Lib.hid (fun l => apV_no (f := f) (S := s.data.toList) (l := l) (by rw [apB, llen, show decide (f.size ≤ 20000) = false by simp; omega]; simp))
      have q1 : decide ((20000 : Int) < (f.size : Int)) = true := by simp; omega
      clear HJ
      go_enter Tryd.func15, Tryd.ntmps15
      go_wp2_with fail
      refine HC.out.mono ?_; rintro e w1 ⟨rfl, b1⟩
      have B1 := Lib.hid b1; clear b1
      go_wp2_with fail
      refine (specFrames_any f w1 hf).mono ?_; rintro e w2 ⟨v, l, rfl, hfi, -, b2⟩
      have B2 := Lib.hid (bel_tr B1.out b2 (Nat.le_refl _)); clear b2
      have HF := Lib.hid hfi; clear hfi
      go_wp2_with fail
      refine bodyPost_ret (v := .tuple #[.string f, .bool false]) (by simp [results, Tryd.results15, go_sem]) rfl ⟨l, HF.out, by rw [HN.out], B2.out⟩
    · have q1 : decide ((20000 : Int) < (f.size : Int)) = false := by simp; omega
      go_enter Tryd.func15, Tryd.ntmps15
      go_wp2_with fail
      refine HC.out.mono ?_; rintro e w1 ⟨rfl, b1⟩
      have B1 := Lib.hid b1; clear b1
      go_wp2_with fail
      refine (specFrames_any f w1 hf).mono ?_; rintro e w2 ⟨v, l, rfl, hfi, -, b2⟩
      have B2 := Lib.hid (bel_tr B1.out b2 (Nat.le_refl _)); clear b2
      obtain ⟨l1, l2⟩ := hfi.le
      rw [llen] at l1
      have HF := Lib.hid hfi; clear hfi
      have HJ2 := Lib.hid (HJ.out l HF.out); clear HJ
      by_cases h3 : (tot l).length + (fr s.data.toList).length ≤ 20000
      · have HY := Lib.hid (apV_yes (f := f) (S := s.data.toList) (l := l) (by rw [apB, HP.out, llen]; simp; omega))
        rw [← hz] at h3
        generalize (tot l).length = n at *
        have q2 : decide ((20000 : Int) < (n : Int) + (z.size : Int)) = false := by simp; omega
        have q3 : (n : Int) ≤ (f.size : Int) := by omega
        have q4 : (n : Int) + (z.size : Int) ≤ 9223372036854775807 := by omega
        have q5 : ¬ 9223372036854775807 < (f.extract 0 n).size + z.size := by rw [sub_ext, tx_size, sub_len f 0 n (by omega)]; omega
        go_wp2_with fail
        refine bodyPost_ret (v := .tuple #[.string (f.extract 0 n ++ z), .bool true]) (by simp [results, Tryd.results15, go_sem]) rfl ⟨l, HF.out, by rw [HY.out, ← HJ2.out], B2.out⟩
      · have HY := Lib.hid (apV_no (f := f) (S := s.data.toList) (l := l) (by rw [apB, HP.out, llen]; simp; omega))
        rw [← hz] at h3
        clear HJ2
        generalize (tot l).length = n at *
        have q2 : decide ((20000 : Int) < (n : Int) + (z.size : Int)) = true := by simp; omega
        have q4 : (n : Int) + (z.size : Int) ≤ 9223372036854775807 := by omega
        go_wp2_with fail
        refine bodyPost_ret (v := .tuple #[.string f, .bool false]) (by simp [results, Tryd.results15, go_sem]) rfl ⟨l, HF.out, by rw [HY.out], B2.out⟩
set_option maxHeartbeats 4000000 in
theorem implApp_any (f s : ByteArray) (w : World) (hL : LibT w) : Calls Tryd.prog 10 #[.string f, .string s] w (ApPost f s w) := by
  cases hp : plB s.data.toList
  · have HC := Lib.hid (implFramed_no hp w hL)
    have HN := Lib.hid (fun l => apV_no (f := f) (S := s.data.toList) (l := l) (by rw [apB, hp]; rfl)); clear hp hL
    obtain ⟨l, hfi⟩ := Fi.some f.data.toList
    have HF := Lib.hid hfi; clear hfi
    go_enter Tryd.func10, Tryd.ntmps10
    go_wp2_with fail
    refine HC.out.mono ?_; rintro e w1 ⟨rfl, b1⟩
    have B1 := Lib.hid b1; clear b1
    go_wp2_with fail
    refine bodyPost_ret (v := .tuple #[.string f, .bool false]) (by simp [results, Tryd.results10, go_sem]) rfl ⟨l, HF.out, by rw [HN.out], B1.out⟩
  · have HC := Lib.hid (implFramed_yes hp w hL)
    have HL := Lib.hid hL; clear hL
    have hlen := fr_len hp
    have hpos := fr_pos s.data.toList
    obtain ⟨n1, n2⟩ := tx_ne hpos
    have hz : (tx (fr s.data.toList)).size = (fr s.data.toList).length := tx_size _
    have HP := Lib.hid hp; clear hp
    have HJ := Lib.hid (fun l (h : Fi f.data.toList l) => ap_join h s.data.toList)
    generalize tx (fr s.data.toList) = z at HC n1 n2 hz HJ
    by_cases h2 : 20000 < f.size
    · have HN := Lib.hid (fun l => apV_no (f := f) (S := s.data.toList) (l := l) (by rw [apB, llen, show decide (f.size ≤ 20000) = false by simp; omega]; simp))
      have q1 : decide ((20000 : Int) < (f.size : Int)) = true := by simp; omega
      clear HJ
      obtain ⟨l, hfi⟩ := Fi.some f.data.toList
      have HF := Lib.hid hfi; clear hfi
      go_enter Tryd.func10, Tryd.ntmps10
      go_wp2_with fail
      refine HC.out.mono ?_; rintro e w1 ⟨rfl, b1⟩
      have B1 := Lib.hid b1; clear b1
      go_wp2_with fail
      refine bodyPost_ret (v := .tuple #[.string f, .bool false]) (by simp [results, Tryd.results10, go_sem]) rfl ⟨l, HF.out, by rw [HN.out], B1.out⟩
    · have q1 : decide ((20000 : Int) < (f.size : Int)) = false := by simp; omega
      go_enter Tryd.func10, Tryd.ntmps10
      go_wp2_with fail
      refine HC.out.mono ?_; rintro e w1 ⟨rfl, b1⟩
      have HL1 := Lib.hid (HL.out.next b1)
      have B1 := Lib.hid b1; clear b1
      go_wp2_with fail
      refine (implFrames_any f w1 HL1.out).mono ?_; rintro e w2 ⟨v, l, rfl, hfi, -, b2⟩
      have B2 := Lib.hid (bel_tr B1.out b2 (Nat.le_refl _)); clear b2
      obtain ⟨l1, l2⟩ := hfi.le
      rw [llen] at l1
      have HF := Lib.hid hfi; clear hfi
      have HJ2 := Lib.hid (HJ.out l HF.out); clear HJ
      have hes : (f.extract 0 (tot l).length).size = (tot l).length := by rw [sub_ext, tx_size, sub_len f 0 _ (by omega)]; omega
      by_cases h3 : (tot l).length + (fr s.data.toList).length ≤ 20000
      · have HY := Lib.hid (apV_yes (f := f) (S := s.data.toList) (l := l) (by rw [apB, HP.out, llen]; simp; omega))
        rw [← hz] at h3
        generalize (tot l).length = n at *
        have q2 : ¬ (20000 : Int) < ((f.extract 0 n ++ z).size : Int) := by rw [ByteArray.size_append, hes]; omega
        have q3 : (n : Int) ≤ (f.size : Int) := by omega
        have q5 : ¬ 9223372036854775807 < (f.extract 0 n).size + z.size := by rw [hes]; omega
        clear hes
        go_wp2_with fail
        refine bodyPost_ret (v := .tuple #[.string (f.extract 0 n ++ z), .bool true]) (by simp [results, Tryd.results10, go_sem]) rfl ⟨l, HF.out, by rw [HY.out, ← HJ2.out], B2.out⟩
      · have HY := Lib.hid (apV_no (f := f) (S := s.data.toList) (l := l) (by rw [apB, HP.out, llen]; simp; omega))
        rw [← hz] at h3
        clear HJ2
        generalize (tot l).length = n at *
        have q2 : (20000 : Int) < ((f.extract 0 n ++ z).size : Int) := by rw [ByteArray.size_append, hes]; omega
        have q3 : (n : Int) ≤ (f.size : Int) := by omega
        have q5 : ¬ 9223372036854775807 < (f.extract 0 n).size + z.size := by rw [hes]; omega
        clear hes
        go_wp2_with fail
        refine bodyPost_ret (v := .tuple #[.string f, .bool false]) (by simp [results, Tryd.results10, go_sem]) rfl ⟨l, HF.out, by rw [HY.out], B2.out⟩
end Go.Proofs.YthlcdbmcpjipdaaDoor.Fq
