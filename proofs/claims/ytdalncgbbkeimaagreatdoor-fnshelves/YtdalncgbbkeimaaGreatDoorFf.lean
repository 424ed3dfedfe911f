/-
  The contract of spec.l3First: the text of the frame at a place and the place behind it, by 'fst?' of the bytes from there on; nothing that was there turns.
-/
import Derived.Test.YtdalncgbbkeimaaGreatDoorFd
import Derived.Deep.RegionHeld3
import Derived.Deep.QuietTactic
import Derived.BigQuiet
namespace Go.Proofs.YtdalncgbbkeimaaGreatDoor.Fq
open Go.RowKit Wd Rp Kp
set_option linter.unusedVariables false
/-- What l3First gives at a place: none, or a text and the place behind its frame. -/
def fstV (o : Option (List UInt8)) (n : Nat) : Value := match o with
  | some t => .tuple #[.string (tx t), .int .i64 ((n + (fr t).length : Nat) : Int)]
  | none => .tuple #[.string ⟨#[]⟩, .int .i64 (n : Int)]
def FstPost (l : List UInt8) (n : Nat) (w : World) (e : Ending) (w' : World) : Prop := e = .returned (fstV (fst? l) n) ∧ Below w.heap.size w w'
theorem fstV_some {o : Option (List UInt8)} {t : List UInt8} {n k : Nat} {x : ByteArray} (h : o = some t) (hl : n + (fr t).length = k + 1) (hx : x = tx t) : Ending.returned (.tuple #[.string x, .int .i64 ((k : Int) + 1)]) = .returned (fstV o n) := by
  subst h hx
  show _ = Ending.returned (.tuple #[.string (tx t), .int .i64 ((n + (fr t).length : Nat) : Int)])
  rw [hl]; rfl
theorem drop_sub (s : ByteArray) (n k : Nat) (h : n ≤ k) (hk : k ≤ s.size) : s.data.toList.drop n = sub s n k ++ s.data.toList.drop k := by
  unfold sub
  rw [List.drop_take]
  have := List.take_append_drop (k - n) (s.data.toList.drop n)
  rw [List.drop_drop, show n + (k - n) = k by omega] at this
  exact this.symm
theorem sub_len (s : ByteArray) (n k : Nat) (hk : k ≤ s.size) : (sub s n k).length = k - n := by unfold sub; rw [List.length_drop, List.length_take, llen]; omega
theorem sub_drop (s : ByteArray) (n k g : Nat) : (sub s n k).drop g = sub s (n + g) k := by unfold sub; rw [List.drop_drop]
theorem ten_eq {c : UInt8} (h : c = 10) : ((c.toNat : Int) != 10) = false := by rw [h]; rfl
theorem ten_ne {c : UInt8} (h : ¬ c = 10) : ((c.toNat : Int) != 10) = true := by
  rw [bne_iff_ne]; intro e; exact h (UInt8.toNat_inj.1 (by show c.toNat = 10; omega))
theorem ten_nn {c : UInt8} (h : ¬ c = 10) : nn c = true := by simpa [nn] using h
theorem sp_eq {c : UInt8} (h : c = 32) : ((c.toNat : Int) == 32) = true := by rw [h]; rfl
theorem sp_ne {c : UInt8} (h : ¬ c = 32) : ((c.toNat : Int) == 32) = false := by
  rw [beq_eq_false_iff_ne]; intro e; exact h (UInt8.toNat_inj.1 (by show c.toNat = 32; omega))
theorem sp_nb {c : UInt8} (h : ¬ c = 32) : nb c = true := by simpa [nb] using h
/-- How far the scan has come: at k, with b blanks seen, the last one ahead of n + g. -/
def Sc (s : ByteArray) (n k b g : Nat) : Prop := (sub s n k).all nn = true ∧ Fm (sub s n k) b g
theorem Sc.start (s : ByteArray) (n : Nat) : Sc s n n 0 0 := by unfold Sc; rw [sub_self]; exact ⟨rfl, Fm.zero rfl⟩
theorem Sc.blank {s : ByteArray} {n k b g : Nat} (h : Sc s n k b g) (hn : n ≤ k) (hk : k < s.size) (hb : b < 2) (hc : s[k] = 32) : Sc s n (k + 1) (b + 1) (k + 1 - n) := by
  obtain ⟨h1, h2⟩ := h
  unfold Sc
  rw [sub_snoc s n k hn hk, hc]
  refine ⟨by rw [List.all_append, h1]; rfl, ?_⟩
  have := h2.blank hb
  rwa [sub_len s n k (by omega), show k - n + 1 = k + 1 - n by omega] at this
theorem Sc.other {s : ByteArray} {n k b g : Nat} (h : Sc s n k b g) (hn : n ≤ k) (hk : k < s.size) (ht : ¬ s[k] = 10) (hc : ¬ s[k] = 32 ∨ 2 ≤ b) : Sc s n (k + 1) b g := by
  obtain ⟨h1, h2⟩ := h
  unfold Sc
  rw [sub_snoc s n k hn hk]
  refine ⟨by rw [List.all_append, h1]; simp [ten_nn ht], h2.other (hc.imp sp_nb id)⟩
theorem Sc.le {s : ByteArray} {n k b g : Nat} (h : Sc s n k b g) (hk : k ≤ s.size) : b ≤ 2 ∧ g ≤ k - n := by have := h.2.le; rwa [sub_len s n k hk] at this
theorem Sc.over {s : ByteArray} {n b g : Nat} (h : Sc s n s.size b g) (hn : n ≤ s.size) : fst? (s.data.toList.drop n) = none := by
  refine fst_noline ?_
  rw [drop_sub s n s.size hn (Nat.le_refl _), drop_all, List.append_nil]; exact h.1
theorem Sc.long {s : ByteArray} {n k b g : Nat} (h : Sc s n k b g) (hn : n + 311 ≤ k) (hk : k ≤ s.size) : fst? (s.data.toList.drop n) = none :=
  fst_long (drop_sub s n k (by omega) hk) h.1 (by rw [sub_len s n k hk]; omega)
theorem line_at {s : ByteArray} {n k : Nat} (hn : n ≤ k) (hk : k < s.size) (ht : s[k] = 10) : s.data.toList.drop n = sub s n k ++ 10 :: s.data.toList.drop (k + 1) := by
  rw [drop_sub s n k hn (by omega), drop_cons s k hk, ht]
theorem Sc.few {s : ByteArray} {n k b g : Nat} (h : Sc s n k b g) (hn : n ≤ k) (hk : k < s.size) (ht : s[k] = 10) (hb : b < 2) : fst? (s.data.toList.drop n) = none :=
  fst_few (line_at hn hk ht) h.1 h.2 hb
theorem Sc.body {s : ByteArray} {n k g : Nat} (h : Sc s n k 2 g) : bd (sub s n k) = sub s (n + g) k := by rw [h.2.body, sub_drop]
theorem Sc.no {s : ByteArray} {n k g : Nat} (h : Sc s n k 2 g) (hn : n ≤ k) (hk : k < s.size) (ht : s[k] = 10) (hp : plB (sub s (n + g) k) = false) : fst? (s.data.toList.drop n) = none :=
  fst_nobody (line_at hn hk ht) h.1 h.body fun hh => by rw [hp] at hh; cases hh.1
theorem Sc.other' {s : ByteArray} {n k g : Nat} (h : Sc s n k 2 g) (hn : n ≤ k) (hk : k < s.size) (ht : s[k] = 10) (hp : ¬ fr (sub s (n + g) k) = sub s n (k + 1)) : fst? (s.data.toList.drop n) = none :=
  fst_nobody (line_at hn hk ht) h.1 h.body fun hh => hp (by rw [hh.2, sub_snoc s n k hn hk, ht])
theorem Sc.yes {s : ByteArray} {n k g : Nat} (h : Sc s n k 2 g) (hn : n ≤ k) (hk : k < s.size) (ht : s[k] = 10) (hp : plB (sub s (n + g) k) = true) (hf : fr (sub s (n + g) k) = sub s n (k + 1)) :
    fst? (s.data.toList.drop n) = some (sub s (n + g) k) ∧ n + (fr (sub s (n + g) k)).length = k + 1 :=
  ⟨fst_body (line_at hn hk ht) h.1 h.body hp (by rw [hf, sub_snoc s n k hn hk, ht]), by rw [hf, sub_len s n (k + 1) (by omega)]; omega⟩
theorem plain_q {s : ByteArray} {v : Bool} (h : plB s.data.toList = v) (hs : s.size ≤ 9223372036854775806) (w : World) : Calls Tryz.prog 70 #[.string s] w fun e w' => e = .returned (.bool v) ∧ w' = w :=
  (plain_any s w hs).mono fun _ _ ⟨he, hw⟩ => ⟨by rw [he, h], hw.symm⟩
theorem tx_inj {l m : List UInt8} (h : tx l = tx m) : l = m := by have := congrArg (fun s : ByteArray => s.data.toList) h; simpa [tx_data] using this
theorem below_drewN {B : Nat} {a w : World} (h : Below B a w) (n : Nat) : Below B a (w.drewN n) := ⟨h.os, h.tape, h.output, h.size, h.block⟩
set_option maxHeartbeats 4000000 in
theorem first_any (s : ByteArray) (n : Nat) (w : World) (hn : n ≤ s.size) (hs : s.size ≤ 4194304) : Calls Tryz.prog 48 #[.string s, .int .i64 n] w (FstPost (s.data.toList.drop n) n w) := by
  go_enter Tryz.func48, Tryz.ntmps48
  go_wp2
  go_loop [6, 7, 8] (fun i bl fr => ∃ (k b g : Nat), i = .int .i64 k ∧ bl = .int .i64 b ∧ fr = .int .i64 ((n : Int) + (g : Int)) ∧ n ≤ k ∧ k ≤ s.size ∧ k ≤ n + 321 ∧ Sc s n k b g) (fun i _ _ => s.size - intV i)
  case atStart => exact ⟨n, 0, 0, rfl, rfl, by simp, Nat.le_refl _, hn, by omega, Sc.start s n⟩
  case round =>
    obtain ⟨k, b, g, rfl, rfl, rfl, hnk, hk, hk2, hsc⟩ := hrel
    obtain ⟨hb2, hg⟩ := hsc.le hk
    have HS := Lib.hid hsc; clear hsc
    by_cases hlt : k < s.size
    · have q1 : decide ((k : Int) < (s.size : Int)) = true := by simp; omega
      have q1' : ((k : Int) == (s.size : Int)) = false := by rw [beq_eq_false_iff_ne]; omega
      by_cases ht : s[k] = 10
      · have q2 := ten_eq ht
        by_cases hb : b < 2
        · have HN := Lib.hid (HS.out.few hnk hlt ht hb)
          have q3 : decide ((b : Int) < 2) = true := by simp; omega
          clear ht
          go_wp2
          refine bodyPost_ret (v := .tuple #[.string ⟨#[]⟩, .int .i64 (n : Int)]) (by simp [results, Tryz.results48, go_sem]) rfl ⟨by rw [HN.out]; rfl, Below.refl _ _⟩
        · obtain rfl : b = 2 := by omega
          have q4 : (n : Int) + (g : Int) ≤ (k : Int) := by omega
          have q5 : (k : Int) + 1 ≤ (s.size : Int) := by omega
          have q6 : ((n : Int) + (g : Int)).toNat = n + g := by omega
          have q7 : ((k : Int) + 1).toNat = k + 1 := by omega
          have q8 : (n : Int) ≤ (k : Int) + 1 := by omega
          have q9 : (0 : Int) ≤ (n : Int) + (g : Int) := by omega
          have q11 : IntKind.i64.wrap ((k : Int) + 1) = (k : Int) + 1 := by rw [IntKind.wrap_i64]; omega
          have q12 : (0 : Int) ≤ (n : Int) := by omega
          have q13 : (0 : Int) ≤ (k : Int) + 1 := by omega
          have HX := Lib.hid (sub_ext s (n + g) k)
          have HT := Lib.hid ht
          clear ht
          cases hp : plB (sub s (n + g) k)
          · have HN := Lib.hid (HS.out.no hnk hlt HT.out hp)
            have HP := Lib.hid hp; clear hp
            have hc := plain_q (s := s.extract (n + g) k) (v := false) (by rw [HX.out, tx_data]; exact HP.out) (by rw [HX.out, tx_size, sub_len s _ _ hk]; omega)
            have HC := Lib.hid hc; clear hc
            go_wp2_with fail
            go_quiet (first | (go_at_call 70; refine Calls.quiet_of_same (HC.out _)))
            go_wp2_with fail
            refine bodyPost_ret (v := .tuple #[.string ⟨#[]⟩, .int .i64 (n : Int)]) (by simp [results, Tryz.results48, go_sem]) rfl ⟨by rw [HN.out]; rfl, bel_drewN (Below.refl _ _) _⟩
          · have hsz : (sub s (n + g) k).length ≤ 300 := (plB_iff.1 hp).2
            have hcp := fun w => plain_is (s := s.extract (n + g) k) (v := true) (by rw [HX.out, tx_data]; exact hp) w (by rw [HX.out, tx_size]; omega)
            have hcf : ∀ w, Calls Tryz.prog 23 #[.string (s.extract (n + g) k)] w fun e w' => e = .returned (.string (tx (fr (sub s (n + g) k)))) ∧ Below w.heap.size w w' := fun w => by
              have h := l3Frame_any (s.extract (n + g) k) w (by rw [HX.out, tx_size]; omega)
              rw [show (s.extract (n + g) k).data.toList = sub s (n + g) k by rw [HX.out, tx_data]] at h
              exact h
            have HC := Lib.hid hcp
            have HF := Lib.hid hcf; clear hcp hcf
            have HY := Lib.hid (sub_ext s n (k + 1))
            have HP := Lib.hid hp; clear hp hsz
            by_cases hf : fr (sub s (n + g) k) = sub s n (k + 1)
            · obtain ⟨hy, hlen⟩ := HS.out.yes hnk hlt HT.out HP.out hf
              have HN := Lib.hid hy
              have HL := Lib.hid hlen; clear hy hlen
              have q10 : ((tx (fr (sub s (n + g) k))).toList == (s.extract n (k + 1)).toList) = true := by rw [HY.out, hf]; simp
              clear hf
              generalize tx (fr (sub s (n + g) k)) = z at q10 HF
              go_wp2_with fail
              go_region_held3 (fun z => Below w.heap.size w z)
                (first | exact (Below.refl _ _).drew | (refine bel_tr (by assumption) (by assumption) (Nat.le_refl _)) | assumption)
                (first | (go_at_call 70; refine (HC.out _).mono ?_; rintro e w' ⟨rfl, rfl⟩) | (go_at_call 23; refine (HF.out _).mono ?_; rintro e w' ⟨rfl, bel⟩))
              rename_i hg
              have HG := Lib.hid hg; clear hg
              go_wp2_with fail
              refine bodyPost_ret (v := .tuple #[.string (s.extract (n + g) k), .int .i64 ((k : Int) + 1)]) (by simp [results, Tryz.results48, go_sem]) rfl ⟨fstV_some HN.out HL.out HX.out, HG.out⟩
            · have HN := Lib.hid (HS.out.other' hnk hlt HT.out hf)
              have q10 : ((tx (fr (sub s (n + g) k))).toList == (s.extract n (k + 1)).toList) = false := by
                rw [beq_eq_false_iff_ne, Lib.toList_data, Lib.toList_data, HY.out, tx_data, tx_data]; exact hf
              clear hf
              generalize tx (fr (sub s (n + g) k)) = z at q10 HF
              go_wp2_with fail
              go_region_held3 (fun z => Below w.heap.size w z)
                (first | exact (Below.refl _ _).drew | (refine bel_tr (by assumption) (by assumption) (Nat.le_refl _)) | assumption)
                (first | (go_at_call 70; refine (HC.out _).mono ?_; rintro e w' ⟨rfl, rfl⟩) | (go_at_call 23; refine (HF.out _).mono ?_; rintro e w' ⟨rfl, bel⟩))
              rename_i hg
              have HG := Lib.hid hg; clear hg
              go_wp2_with fail
              refine bodyPost_ret (v := .tuple #[.string ⟨#[]⟩, .int .i64 (n : Int)]) (by simp [results, Tryz.results48, go_sem]) rfl ⟨by rw [HN.out]; rfl, HG.out⟩
      · have q2 := ten_ne ht
        by_cases h320 : k ≤ n + 320
        · have q3 : decide ((k : Int) - (n : Int) ≤ 320) = true := by simp; omega
          by_cases hc : s[k] = 32
          · have q4 := sp_eq hc
            by_cases hb : b < 2
            · have HN := Lib.hid (HS.out.blank hnk hlt hb hc)
              have q5 : decide ((b : Int) < 2) = true := by simp; omega
              clear hc ht
              go_wp2
              go_round
              case rel => exact ⟨k + 1, b + 1, k + 1 - n, by go_num, by go_num, by congr 1; omega, by omega, by omega, by omega, HN.out⟩
              case measure => simp [intV]; omega
            · have HN := Lib.hid (HS.out.other hnk hlt ht (Or.inr (by omega)))
              have q5 : decide ((b : Int) < 2) = false := by simp; omega
              clear hc ht
              go_wp2
              go_round
              case rel => exact ⟨k + 1, b, g, by go_num, rfl, rfl, by omega, by omega, by omega, HN.out⟩
              case measure => simp [intV]; omega
          · have q4 := sp_ne hc
            have HN := Lib.hid (HS.out.other hnk hlt ht (Or.inl hc))
            clear hc ht
            go_wp2
            go_round
            case rel => exact ⟨k + 1, b, g, by go_num, rfl, rfl, by omega, by omega, by omega, HN.out⟩
            case measure => simp [intV]; omega
        · have q3 : decide ((k : Int) - (n : Int) ≤ 320) = false := by simp; omega
          have HN := Lib.hid (HS.out.long (by omega) hk)
          clear ht
          go_wp2
          refine bodyPost_ret (v := .tuple #[.string ⟨#[]⟩, .int .i64 (n : Int)]) (by simp [results, Tryz.results48, go_sem]) rfl ⟨by rw [HN.out]; rfl, Below.refl _ _⟩
    · obtain rfl : k = s.size := by omega
      have q1 : decide ((s.size : Int) < (s.size : Int)) = false := by simp
      have q1' : ((s.size : Int) == (s.size : Int)) = true := by simp
      have HN := Lib.hid (HS.out.over hnk)
      go_wp2
      refine bodyPost_ret (v := .tuple #[.string ⟨#[]⟩, .int .i64 (n : Int)]) (by simp [results, Tryz.results48, go_sem]) rfl ⟨by rw [HN.out]; rfl, Below.refl _ _⟩
end Go.Proofs.YtdalncgbbkeimaaGreatDoor.Fq
