/-
  Contracts of impl.firstFrame and impl.FramesIn: the frame with which a text begins, by 'fst?'; the texts of a file, by 'Fi'. Nothing that was there turns.
-/
import Derived.Test.YtdalncgbbkeimaaDoorFe
import Derived.Test.YtdalncgbbkeimaaDoorFg
namespace Go.Proofs.YtdalncgbbkeimaaDoor.Fq
open Go.RowKit Wd Rp Kp
set_option linter.unusedVariables false
/-- A line of the right shape: A, up to k. -/
structure Line (s : ByteArray) (k f : Nat) (t : List UInt8) : Prop where
  lt : k < s.size
  all : s.data.toList = sub s 0 k ++ 10 :: s.data.toList.drop (k + 1)
  noten : (sub s 0 k).all nn = true
  body : bd (sub s 0 k) = t
  next : sub s 0 (k + 1) = sub s 0 k ++ [10]
  ahead : f ≤ k
  text : sub s f k = t
theorem Line.of {s : ByteArray} {k : Nat} {a c t : List UInt8} (hk : k < s.size) (ht : s[k]? = some 10) (h : sub s 0 k = a ++ 32 :: (c ++ 32 :: t)) (ha : a.all isDig = true) (hc : c.all isDig = true) (hn : t.all nn = true) : Line s k (a.length + c.length + 2) t := by
  rw [getElem?_pos s k hk] at ht
  have h10 : s[k] = 10 := Option.some.inj ht
  have hl := congrArg List.length h
  rw [sub_len s 0 k (by omega)] at hl
  simp only [List.length_append, List.length_cons] at hl
  refine ⟨hk, by rw [← h10]; exact all_sub s k hk, by rw [h]; exact two_nn ha hc hn, by rw [h]; exact bd_two (all_mono dig_nb ha) (all_mono dig_nb hc), by rw [sub_snoc s 0 k (Nat.zero_le _) hk, h10], by omega, ?_⟩
  have := sub_drop s 0 k (a.length + c.length + 2)
  rw [Nat.zero_add] at this
  rw [← this, h]
  have e : a ++ 32 :: (c ++ 32 :: t) = (a ++ 32 :: (c ++ [32])) ++ t := by simp
  rw [e, List.drop_left' (by simp; omega)]
theorem Line.yes {s : ByteArray} {k f : Nat} {t : List UInt8} (h : Line s k f t) (hf : frm t = sub s 0 (k + 1)) : fst? s.data.toList = some t ∧ 0 + (fr t).length = k + 1 := by
  have hp : plB t = true := by
    cases hp : plB t
    · rw [frm_no hp, h.next] at hf; simp at hf
    · rfl
  rw [frm_yes hp] at hf
  refine ⟨fst_body h.all h.noten h.body hp (by rw [hf, h.next]), ?_⟩
  have := h.lt
  rw [hf, sub_len s 0 (k + 1) (by omega)]; omega
theorem Line.no {s : ByteArray} {k f : Nat} {t : List UInt8} (h : Line s k f t) (hf : ¬ frm t = sub s 0 (k + 1)) : fst? s.data.toList = none :=
  fst_nobody h.all h.noten h.body fun hh => hf (by rw [frm_yes hh.1, hh.2, h.next])
set_option maxHeartbeats 4000000 in
theorem firstFrame_any (s : ByteArray) (w : World) (hs : s.size ≤ 4194304) (hL : LibT w) : Calls Tryd.prog 104 #[.string s] w (FstPost s.data.toList 0 w) := by
  have HL := Lib.hid hL; clear hL
  go_enter Tryd.func104, Tryd.ntmps104
  go_wp2_with fail
  refine (shape_any s w hs).mono ?_
  rintro e w1 ⟨rfl, h | ⟨k, a, c, t, hk, ht, h, ha, hc, hn, rfl⟩⟩
  · obtain ⟨rfl, hnone⟩ := h
    have HN := Lib.hid hnone; clear hnone
    go_wp2_with fail
    refine bodyPost_ret (v := .tuple #[.string ⟨#[]⟩, .int .i64 0]) (by simp [results, Tryd.results104, go_sem]) rfl ⟨by rw [HN.out]; rfl, Below.refl _ _⟩
  · have hline := Line.of hk ht h ha hc hn
    generalize a.length + c.length + 2 = f at hline
    clear ht h ha hc hn
    have hf := hline.ahead
    have HT := Lib.hid (show s.extract f k = tx t by rw [sub_ext, hline.text])
    have HE := Lib.hid (show s.extract 0 (k + 1) = tx (sub s 0 (k + 1)) from sub_ext s 0 (k + 1))
    have hcf : ∀ z, LibT z → Calls Tryd.prog 77 #[.string (s.extract f k)] z fun e w' => e = .returned (.string (tx (frm t))) ∧ Below z.heap.size z w' := fun z hz => by
      have h := implFramed_any (s.extract f k) z hz
      rw [show (s.extract f k).data.toList = t by rw [HT.out, tx_data]] at h
      exact h
    have HF := Lib.hid hcf; clear hcf
    have HI := Lib.hid hline; clear hline
    have q1 : ((k : Int) + 1 == 0) = false := by rw [beq_eq_false_iff_ne]; omega
    have q2 : (f : Int) ≤ (k : Int) := by omega
    have q3 : (k : Int) ≤ (s.size : Int) := by omega
    have q4 : (k : Int) + 1 ≤ (s.size : Int) := by omega
    have q5 : ((k : Int) + 1).toNat = k + 1 := by omega
    have q6 : (0 : Int) ≤ (k : Int) + 1 := by omega
    by_cases hfr : frm t = sub s 0 (k + 1)
    · obtain ⟨hy, hlen⟩ := HI.out.yes hfr
      have HN := Lib.hid hy
      have HZ := Lib.hid hlen; clear hy hlen
      have q10 : ((tx (frm t)).toList == (s.extract 0 (k + 1)).toList) = true := by rw [HE.out, hfr]; simp
      clear hfr
      generalize tx (frm t) = z at q10 HF
      go_wp2_with fail
      go_region_held3 (fun z => Below w.heap.size w z)
        (first | exact (Below.refl _ _).drew | (refine bel_tr (by assumption) (by assumption) (Nat.le_refl _)) | assumption)
        (first | (go_at_call 77; refine (HF.out _ (HL.out.next (by assumption))).mono ?_; rintro e w' ⟨rfl, bel⟩))
      rename_i hg
      have HG := Lib.hid hg; clear hg
      go_wp2_with fail
      refine bodyPost_ret (v := .tuple #[.string (s.extract f k), .int .i64 ((k : Int) + 1)]) (by simp [results, Tryd.results104, go_sem]) rfl ⟨fstV_some HN.out HZ.out HT.out, HG.out⟩
    · have HN := Lib.hid (HI.out.no hfr)
      have q10 : ((tx (frm t)).toList == (s.extract 0 (k + 1)).toList) = false := by
        rw [beq_eq_false_iff_ne, Lib.toList_data, Lib.toList_data, HE.out, tx_data, tx_data]; exact hfr
      clear hfr
      generalize tx (frm t) = z at q10 HF
      go_wp2_with fail
      go_region_held3 (fun z => Below w.heap.size w z)
        (first | exact (Below.refl _ _).drew | (refine bel_tr (by assumption) (by assumption) (Nat.le_refl _)) | assumption)
        (first | (go_at_call 77; refine (HF.out _ (HL.out.next (by assumption))).mono ?_; rintro e w' ⟨rfl, bel⟩))
      rename_i hg
      have HG := Lib.hid hg; clear hg
      go_wp2_with fail
      refine bodyPost_ret (v := .tuple #[.string ⟨#[]⟩, .int .i64 0]) (by simp [results, Tryd.results104, go_sem]) rfl ⟨by rw [HN.out]; rfl, HG.out⟩
theorem drop_ext (s : ByteArray) (k : Nat) : (s.extract k s.size).data.toList = s.data.toList.drop k := by
  rw [sub_ext, tx_data]; unfold sub; rw [mtake_all]
theorem ff_none (s : ByteArray) (k : Nat) (w : World) (hs : s.size ≤ 4194304) (hL : LibT w) (h : fst? (s.data.toList.drop k) = none) :
    Calls Tryd.prog 104 #[.string (s.extract k s.size)] w fun e w' => e = .returned (.tuple #[.string ⟨#[]⟩, .int .i64 0]) ∧ Below w.heap.size w w' :=
  (firstFrame_any (s.extract k s.size) w (by rw [sub_ext, tx_size, sub_len s k s.size (Nat.le_refl _)]; omega) hL).mono fun _ _ ⟨he, hb⟩ => ⟨by rw [he, drop_ext, h]; rfl, hb⟩
theorem ff_some (s : ByteArray) (k : Nat) (w : World) (hs : s.size ≤ 4194304) (hL : LibT w) (t : List UInt8) (h : fst? (s.data.toList.drop k) = some t) :
    Calls Tryd.prog 104 #[.string (s.extract k s.size)] w fun e w' => e = .returned (.tuple #[.string (tx t), .int .i64 (((fr t).length : Nat) : Int)]) ∧ Below w.heap.size w w' :=
  (firstFrame_any (s.extract k s.size) w (by rw [sub_ext, tx_size, sub_len s k s.size (Nat.le_refl _)]; omega) hL).mono fun _ _ ⟨he, hb⟩ => ⟨by rw [he, drop_ext, h]; simp [fstV], hb⟩
set_option maxHeartbeats 4000000 in
theorem implFrames_any (s : ByteArray) (w : World) (hL : LibT w) : Calls Tryd.prog 80 #[.string s] w (FinPost s w) := by
  obtain ⟨i0, hi, hz0, hz1, hz2⟩ := info_parts infoS
  by_cases h2 : s.size ≤ 20000
  · have HL := Lib.hid hL; clear hL
    have q1 : ¬ (20000 : Int) < (s.size : Int) := by omega
    go_enter Tryd.func80, Tryd.ntmps80
    go_wp2
    go_loopw [4, 5] (fun out i wr => ∃ (k : Nat) (P : List (List UInt8)), i = .int .i64 k ∧ OwT w.heap.size wr out P ∧ Below w.heap.size w wr ∧ Tk s P k) (fun _ i _ => s.size - intV i)
    case atStart => exact ⟨0, [], rfl, World.ownsRow_nil _ _ _ _, Below.refl _ _, Tk.start s⟩
    case round =>
      obtain ⟨k, P, rfl, hown, hbel, htk⟩ := hrel
      have HB := Lib.hid hbel; clear hbel
      have hB : w.heap.size ≤ wr.heap.size := HB.out.size
      obtain ⟨hk, hPk⟩ := htk.le
      have HT := Lib.hid htk; clear htk
      have HL1 := Lib.hid (HL.out.next HB.out)
      have hk' : (k : Int) ≤ (s.size : Int) := by omega
      cases hf : fst? (s.data.toList.drop k) with
      | none =>
        have HC := Lib.hid (ff_none s k wr (by omega) HL1.out hf)
        have HD := Lib.hid (HT.out.done h2 hf); clear hf
        have HO := Lib.hid hown; clear hown
        have HE := Lib.hid HT.out.2.1
        go_wp2_with fail
        refine HC.out.mono ?_; rintro e w1 ⟨rfl, b1⟩
        have B1 := Lib.hid (bel_tr HB.out b1 (Nat.le_refl _))
        have HO1 := Lib.hid (HO.out.next b1); clear b1
        go_wp2_with fail
        refine bodyPost_ret (v := .tuple #[u4, .int .i64 (k : Int)]) (by simp [results, Tryd.results80, go_sem]) rfl ⟨_, P, by rw [← HE.out], HD.out, HO1.out, B1.out⟩
      | some t =>
        obtain ⟨htk2, hle2, hpos⟩ := HT.out.step hf
        have HC := Lib.hid (ff_some s k wr (by omega) HL1.out t hf); clear hf
        have HT2 := Lib.hid htk2; clear htk2
        have HO := Lib.hid hown; clear hown
        generalize hn : (fr t).length = n at *
        have q2 : ((n : Int) == 0) = false := by rw [beq_eq_false_iff_ne]; omega
        have q3 : (k : Int) + (n : Int) ≤ 9223372036854775807 := by omega
        go_wp2_with fail
        refine HC.out.mono ?_; rintro e w1 ⟨rfl, b1⟩
        have B1 := Lib.hid (bel_tr HB.out b1 (Nat.le_refl _))
        have hown := HO.out.next b1; clear b1
        have hB1 : w.heap.size ≤ w1.heap.size := B1.out.size
        unfold OwT at hown
        go_wp2_with (first
          | (at_builtin; refine wpList_append_own_at _ rfl (.tmp 22) (.tmp 24) 78 rfl w.heap.size 9 i0 (.string ⟨#[]⟩) 1 16 Tryd.underlying78 hi hz0 hz1 hz2 rfl (by decide) _ _ _ rfl (hown.alloc _) ⟨w1.heap.size, 0, none⟩ 1 1 [.string (tx t)] rfl rfl (cell_one_new _ _ _) (by intro u hu; simp at hu; subst hu; rfl) (by unfold maxLen; omega) (by omega) (by simp; omega) ?_; intro v1 w2 hown1 hgrow1 hnil1 hat1))
        go_roundw
        case rel =>
          exact ⟨k + n, P ++ [t], by go_num, OwT.snoc hown1, (B1.out.alloc hB1 _).grown hgrow1 (by simp; omega) (fun j hj => (hown.lt j hj).1), HT2.out⟩
        case measure => simp [intV]; omega
  · clear hL
    have q1 : (20000 : Int) < (s.size : Int) := by omega
    have HD := Lib.hid (Fi.big (s := s) (by omega))
    go_enter Tryd.func80, Tryd.ntmps80
    go_wp2
    refine bodyPost_ret (v := .tuple #[.slice none 0 0, .int .i64 0]) (by simp [results, Tryd.results80, go_sem]) rfl ⟨_, [], rfl, HD.out, World.ownsRow_nil _ _ _ _, Below.refl _ _⟩
end Go.Proofs.YtdalncgbbkeimaaDoor.Fq
