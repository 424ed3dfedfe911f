/-
  The contract of spec.FramesIn: the texts 'l' of the file ('Fi'), as a slice that the call has made, and the number of their bytes; nothing that was there turns.
-/
import Derived.Test.YtdalncgbbkeimaaGreatDoorFf
namespace Go.Proofs.YtdalncgbbkeimaaGreatDoor.Fq
open Go.RowKit Wd Rp Kp
set_option linter.unusedVariables false
/-- A slice of these texts that the call has made, or none at all. -/
def OwT (B : Nat) (w : World) (v : Value) (l : List (List UInt8)) : Prop := w.ownsRow B 9 1 v l.length (l.map fun p => .string (tx p))
theorem row_below {B : Nat} {e : TypeId} {k : Nat} {v : Value} {n : Nat} {xs : List Value} {w w' : World} (h : w.ownsRow B e k v n xs) (hb : Below w.heap.size w w') : w'.ownsRow B e k v n xs := by
  obtain ⟨h1, h2⟩ := h
  refine ⟨h1, ?_⟩
  rcases h2 with h2 | ⟨g, cap, cur, hv, hB, hg, h3⟩
  · exact .inl h2
  · exact .inr ⟨g, cap, cur, hv, hB, (hb.block g (Array.getElem?_eq_some_iff.1 hg).1).trans hg, h3⟩
theorem OwT.snoc {B : Nat} {w : World} {v : Value} {l : List (List UInt8)} {p : List UInt8} (h : w.ownsRow B 9 1 v (l.length + 1) ((l.map fun p => .string (tx p)) ++ [.string (tx p)])) : OwT B w v (l ++ [p]) := by
  unfold OwT; rw [List.length_append, List.length_singleton, List.map_append]; exact h
theorem OwT.next {B : Nat} {w w' : World} {v : Value} {l : List (List UInt8)} (h : OwT B w v l) (hb : Below w.heap.size w w') : OwT B w' v l := row_below h hb
theorem OwT.mono {B C : Nat} {w : World} {v : Value} {l : List (List UInt8)} (h : OwT B w v l) (hC : C ≤ B) : OwT C w v l := by
  obtain ⟨h1, h2⟩ := h
  refine ⟨h1, ?_⟩
  rcases h2 with h2 | ⟨g, cap, cur, hv, hB, h3⟩
  · exact .inl h2
  · exact .inr ⟨g, cap, cur, hv, Nat.le_trans hC hB, h3⟩
/-- What FramesIn gives. -/
def FinPost (s : ByteArray) (w : World) (e : Ending) (w' : World) : Prop := ∃ (v : Value) (l : List (List UInt8)), e = .returned (.tuple #[v, .int .i64 ((tot l).length : Int)]) ∧ Fi s.data.toList l ∧ OwT w.heap.size w' v l ∧ Below w.heap.size w w'
theorem first_none (s : ByteArray) (n : Nat) (w : World) (hn : n ≤ s.size) (hs : s.size ≤ 4194304) (h : fst? (s.data.toList.drop n) = none) :
    Calls Tryz.prog 48 #[.string s, .int .i64 n] w fun e w' => e = .returned (.tuple #[.string ⟨#[]⟩, .int .i64 (n : Int)]) ∧ Below w.heap.size w w' :=
  (first_any s n w hn hs).mono fun _ _ ⟨he, hb⟩ => ⟨by rw [he, h]; rfl, hb⟩
theorem first_some (s : ByteArray) (n : Nat) (w : World) (hn : n ≤ s.size) (hs : s.size ≤ 4194304) (t : List UInt8) (h : fst? (s.data.toList.drop n) = some t) :
    Calls Tryz.prog 48 #[.string s, .int .i64 n] w fun e w' => e = .returned (.tuple #[.string (tx t), .int .i64 ((n + (fr t).length : Nat) : Int)]) ∧ Below w.heap.size w w' :=
  (first_any s n w hn hs).mono fun _ _ ⟨he, hb⟩ => ⟨by rw [he, h]; rfl, hb⟩
/-- The frames taken so far: P, up to k. -/
def Tk (s : ByteArray) (P : List (List UInt8)) (k : Nat) : Prop := (∀ t ∈ P, plB t = true) ∧ k = (tot P).length ∧ s.data.toList = tot P ++ s.data.toList.drop k
theorem Tk.start (s : ByteArray) : Tk s [] 0 := ⟨(fun _ h => by cases h), rfl, by simp [tot_nil]⟩
theorem Tk.le {s : ByteArray} {P : List (List UInt8)} {k : Nat} (h : Tk s P k) : k ≤ s.size ∧ P.length ≤ k := by
  obtain ⟨_, h2, h3⟩ := h
  have := congrArg List.length h3
  rw [List.length_append, llen] at this
  have := tot_len P
  omega
theorem Tk.step {s : ByteArray} {P : List (List UInt8)} {k : Nat} {t : List UInt8} (h : Tk s P k) (hf : fst? (s.data.toList.drop k) = some t) : Tk s (P ++ [t]) (k + (fr t).length) ∧ k + (fr t).length ≤ s.size ∧ 1 ≤ (fr t).length := by
  obtain ⟨h1, h2, h3⟩ := h
  obtain ⟨g1, r, g2⟩ := fst_some hf
  have key : Tk s (P ++ [t]) (k + (fr t).length) := by
    refine ⟨fun u hu => ?_, ?_, ?_⟩
    · rcases List.mem_append.1 hu with hu | hu
      · exact h1 u hu
      · simp at hu; subst hu; exact g1
    · rw [tot_snoc, List.length_append, h2]
    · have e : s.data.toList.drop (k + (fr t).length) = r := by rw [← List.drop_drop, g2]; simp
      rw [e, tot_snoc, List.append_assoc, ← g2]; exact h3
  exact ⟨key, key.le.1, fr_pos t⟩
theorem Tk.done {s : ByteArray} {P : List (List UInt8)} {k : Nat} (h : Tk s P k) (hs : s.size ≤ 20000) (hf : fst? (s.data.toList.drop k) = none) : Fi s.data.toList P :=
  Or.inl ⟨by rw [llen]; exact hs, h.1, _, h.2.2, hf⟩
theorem Fi.big {s : ByteArray} (h : 20000 < s.size) : Fi s.data.toList [] := Or.inr ⟨by rw [llen]; exact h, rfl⟩
set_option maxHeartbeats 4000000 in
theorem specFrames_any (s : ByteArray) (w : World) (hs : s.size ≤ 4194304) : Calls Tryz.prog 26 #[.string s] w (FinPost s w) := by
  obtain ⟨i0, hi, hz0, hz1, hz2⟩ := info_parts infoS
  go_enter Tryz.func26, Tryz.ntmps26
  go_wp2
  go_loopw [4, 5] (fun out i wr => ∃ (k : Nat) (P : List (List UInt8)), i = .int .i64 k ∧ OwT w.heap.size wr out P ∧ Below w.heap.size w wr ∧ Tk s P k ∧ (20000 < s.size → P = [])) (fun _ i _ => s.size - intV i)
  case atStart => exact ⟨0, [], rfl, (OwnS.start (Nat.le_refl _)).2, bel1 _ _, Tk.start s, fun _ => rfl⟩
  case round =>
    obtain ⟨k, P, rfl, hown, hbel, htk, hP⟩ := hrel
    have HB := Lib.hid hbel; clear hbel
    have hB : w.heap.size ≤ wr.heap.size := HB.out.size
    obtain ⟨hk, hPk⟩ := htk.le
    have HT := Lib.hid htk; clear htk
    by_cases h2 : s.size ≤ 20000
    · clear hP
      have q1 : (s.size : Int) ≤ 20000 := by omega
      cases hf : fst? (s.data.toList.drop k) with
      | none =>
        have HC := Lib.hid (first_none s k wr hk hs hf)
        have HD := Lib.hid (HT.out.done h2 hf); clear hf
        have HO := Lib.hid hown; clear hown
        have HE := Lib.hid HT.out.2.1
        have q2 : ((k : Int) == (k : Int)) = true := by simp
        go_wp2_with fail
        refine HC.out.mono ?_; rintro e w1 ⟨rfl, b1⟩
        have B1 := Lib.hid (bel_tr HB.out b1 (Nat.le_refl _))
        have HO1 := Lib.hid (HO.out.next b1); clear b1
        go_wp2_with fail
        refine bodyPost_ret (v := .tuple #[u4, .int .i64 (k : Int)]) (by simp [results, Tryz.results26, go_sem]) rfl ⟨_, P, by rw [← HE.out], HD.out, HO1.out, B1.out⟩
      | some t =>
        obtain ⟨htk2, hle2, hpos⟩ := HT.out.step hf
        have HC := Lib.hid (first_some s k wr hk hs t hf); clear hf
        have HT2 := Lib.hid htk2; clear htk2
        have HO := Lib.hid hown; clear hown
        generalize hn : k + (fr t).length = n at *
        have q2 : ((n : Int) == (k : Int)) = false := by rw [beq_eq_false_iff_ne]; omega
        go_wp2_with fail
        refine HC.out.mono ?_; rintro e w1 ⟨rfl, b1⟩
        have B1 := Lib.hid (bel_tr HB.out b1 (Nat.le_refl _))
        have hown := HO.out.next b1; clear b1
        have hB1 : w.heap.size ≤ w1.heap.size := B1.out.size
        unfold OwT at hown
        go_wp2_with (first
          | (at_builtin; refine wpList_append_own_at _ rfl (.tmp 21) (.tmp 23) 51 rfl w.heap.size 9 i0 (.string ⟨#[]⟩) 1 16 Tryz.underlying51 hi hz0 hz1 hz2 rfl (by decide) _ _ _ rfl (hown.alloc _) ⟨w1.heap.size, 0, none⟩ 1 1 [.string (tx t)] rfl rfl (cell_one_new _ _ _) (by intro u hu; simp at hu; subst hu; rfl) (by unfold maxLen; omega) (by omega) (by simp; omega) ?_; intro v1 w2 hown1 hgrow1 hnil1 hat1))
        go_roundw
        case rel =>
          exact ⟨n, P ++ [t], rfl, OwT.snoc hown1, (B1.out.alloc hB1 _).grown hgrow1 (by simp; omega) (fun j hj => (hown.lt j hj).1), HT2.out, fun h => by omega⟩
        case measure => simp [intV]; omega
    · obtain rfl := hP (by omega)
      have q1 : ¬ (s.size : Int) ≤ 20000 := by omega
      have HD := Lib.hid (Fi.big (s := s) (by omega))
      have HE := Lib.hid HT.out.2.1
      have HO := Lib.hid hown; clear hown
      go_wp2_with fail
      refine bodyPost_ret (v := .tuple #[u4, .int .i64 (k : Int)]) (by simp [results, Tryz.results26, go_sem]) rfl ⟨_, [], by rw [← HE.out], HD.out, HO.out, HB.out⟩
end Go.Proofs.YtdalncgbbkeimaaGreatDoor.Fq
