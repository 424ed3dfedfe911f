/-
  Plain facts for FnMerged: cells put one after the other are merged; the draw of spec.DrawMerged.
-/
import Derived.Test.YtjhcgbhmepgfhaaPk
import Derived.Test.YtjhcgbhmepgfhaaDf
import Derived.Test.YtjhcgbhmepgfhaaDi
namespace Go.Proofs.Ytjhcgbhmepgfhaa.Cl
open Go.RowKit Wd Rp Cu Kp
set_option linter.unusedVariables false
theorem okL_merge {l m : List Cel} (h : okL l = true) (k : okL m = true) (hl : (mergeL l m).length ≤ 200) : okL (mergeL l m) = true :=
  okL_of (fun c hc => by rcases sub_merge l m c hc with g | g; exact okL_mem h c g; exact okL_mem k c g) (srt_merge l m (okL_srt h) (okL_srt k)) hl
theorem okL_take {l : List Cel} (h : okL l = true) (i : Nat) : okL (l.take i) = true :=
  okL_of (fun c hc => okL_mem h c (List.mem_of_mem_take hc)) (List.Pairwise.sublist (List.take_sublist _ _) (okL_pair h)) (by rw [List.length_take]; have := okL_len h; omega)
theorem mem_put {M : List Cel} {c : Cel} (h : okL M = true) (d : Cel) : d ∈ putL M c ↔ d = c ∨ (d ∈ M ∧ d.ke c = false) := by
  obtain ⟨g1, g2, g3⟩ := cntP_spec (fun d => d.ls c) M
  constructor
  · intro hd
    unfold putL at hd
    rcases List.mem_append.1 hd with h1 | h1
    · exact Or.inr ⟨List.mem_of_mem_take h1, (ls_nke (put_lo h1)).1⟩
    · rcases List.mem_cons.1 h1 with e | h1
      · exact Or.inl e
      · exact Or.inr ⟨List.mem_of_mem_drop h1, (ls_nke (put_hi h h1)).2⟩
  · rintro (rfl | ⟨hd, hk⟩)
    · unfold putL; simp
    · obtain ⟨j, hj⟩ := List.mem_iff_getElem?.1 hd
      unfold putL
      rw [List.mem_append, List.mem_cons]
      generalize hn : cntP (fun d => d.ls c) M = n at *
      rcases Nat.lt_trichotomy j n with h1 | h1 | h1
      · exact Or.inl (List.mem_of_getElem? (i := j) (by rw [List.getElem?_take_of_lt h1]; exact hj))
      · subst h1
        refine Or.inr (Or.inr ?_)
        have ht : there M j c = false := by unfold there; rw [hj]; exact hk
        rw [ht]
        exact List.mem_of_getElem? (i := 0) (by rw [List.getElem?_drop]; simpa using hj)
      · refine Or.inr (Or.inr ?_)
        split
        · exact List.mem_of_getElem? (i := j - (n + 1)) (by rw [List.getElem?_drop, show n + 1 + (j - (n + 1)) = j by omega]; exact hj)
        · exact List.mem_of_getElem? (i := j - n) (by rw [List.getElem?_drop, show n + 0 + (j - n) = j by omega]; exact hj)
theorem merge_put {l m : List Cel} (h : okL l = true) (k : okL m = true) (hs : l.length + m.length ≤ 200) {i : Nat} {c : Cel} (hc : l[i]? = some c) : putP (mergeL (l.take i) m) c = (mergeL (l.take (i + 1)) m, true) := by
  have hil := (List.getElem?_eq_some_iff.1 hc).1
  have hlen : ∀ j, (mergeL (l.take j) m).length ≤ 200 := fun j => by
    have := merge_len (l.take j) m
    rw [List.length_take] at this; omega
  have hok := okL_merge (okL_take h i) k (hlen i)
  have hok2 := okL_merge (okL_take h (i + 1)) k (hlen (i + 1))
  have hci := ok_get h hc
  have ht : l.take (i + 1) = l.take i ++ [c] := by
    rw [List.take_succ_eq_append_getElem hil]
    congr 2
    rw [List.getElem?_eq_getElem hil] at hc
    exact Option.some.inj hc
  have hle : (putL (mergeL (l.take i) m) c).length ≤ 200 := by
    have h1 := putL_le (mergeL (l.take i) m) c
    have h2 := merge_len (l.take i) m
    rw [List.length_take] at h2; omega
  have heq : putL (mergeL (l.take i) m) c = mergeL (l.take (i + 1)) m := by
    refine srt_ext (okL_srt (okL_put hok hci hle)) (okL_srt hok2) fun d => ?_
    rw [mem_put hok, mem_merge _ _ (okL_srt (okL_take h i)) (okL_srt k), mem_merge _ _ (okL_srt (okL_take h (i + 1))) (okL_srt k), ht]
    have hlt : ∀ d ∈ l.take i, d.ls c = true := fun d hd => by
      have := okL_pair (okL_take h (i + 1))
      rw [ht] at this
      exact (List.pairwise_append.1 this).2.2 d hd c (by simp)
    constructor
    · rintro (rfl | ⟨h1 | ⟨h1, h2⟩, h3⟩)
      · exact Or.inl (by simp)
      · exact Or.inl (List.mem_append_left _ h1)
      · refine Or.inr ⟨h1, fun e he => ?_⟩
        rcases List.mem_append.1 he with he | he
        · exact h2 e he
        · rw [List.mem_singleton] at he; subst he; rw [ke_symm]; exact h3
    · rintro (h1 | ⟨h1, h2⟩)
      · rcases List.mem_append.1 h1 with h1 | h1
        · exact Or.inr ⟨Or.inl h1, (ls_nke (hlt d h1)).1⟩
        · rw [List.mem_singleton] at h1; exact Or.inl h1
      · exact Or.inr ⟨Or.inr ⟨h1, fun e he => h2 e (List.mem_append_left _ he)⟩, by rw [ke_symm]; exact h2 c (by simp)⟩
  rw [← heq]
  rcases putP_cases (mergeL (l.take i) m) c with ⟨h1, -⟩ | ⟨h1, h2⟩ | ⟨-, -, -, h2⟩
  · rw [hok] at h1; cases h1
  · exact putP_yes hok hci (by omega)
  · exact h2
/-- Two lists drawn. -/
def DrewLL (w : World) (e : Ending) (w' : World) : Prop := ∃ (x y : Value) (l m : List Cel), e = .returned (.tuple #[x, y]) ∧ OwC w.heap.size w' x l ∧ OwC w.heap.size w' y m ∧ l.length ≤ 250 ∧ m.length ≤ 250 ∧ Smalls l ∧ Smalls m ∧ Below w.heap.size w w'
set_option maxHeartbeats 4000000 in
theorem drawMerged_any (w : World) (a : Option Addr) (len cap : Nat) (hb : IsBytes w a len) (hl : len ≤ 4096) : Calls Try.prog 8 #[.slice a len cap] w (DrewLL w) := by
  have HB := Lib.hid hb; clear hb
  go_enter Try.func8, Try.ntmps8
  go_wp2_with fail
  refine (new_any w a len cap HB.out hl).mono ?_; rintro e w1 ⟨b, rfl, hc1, hw1⟩
  have hbw : w.heap.size ≤ b := hc1.le
  have hlt : b < w1.heap.size := hc1.lt
  have B1 := Lib.hid hw1
  have HC := Lib.hid hc1; clear hw1 hc1
  go_wp2_with fail
  refine (drawCells_any _ b _ HC.out).mono ?_; rintro e w2 ⟨x, l, rfl, o2, hl2, hs2, hc2, hw2⟩
  have B2 := Lib.hid (B1.out.trans (hw2.below (B := w.heap.size) hbw B1.out.size))
  have HC2 := Lib.hid hc2
  have HO2 := Lib.hid o2
  have HS2 := Lib.hid hs2; clear hc2 o2 hs2 hw2
  go_wp2_with fail
  refine (drawCells_any _ b _ HC2.out).mono ?_; rintro e w3 ⟨y, m, rfl, o3, hl3, hs3, hc3, hw3⟩
  have B3 := Lib.hid (B2.out.trans (hw3.below (B := w.heap.size) hbw B2.out.size))
  have HO2' := Lib.hid (HO2.out.but hw3 hlt)
  have HO3 := Lib.hid o3
  have HS3 := Lib.hid hs3; clear o3 hs3 hw3 hc3
  go_wp2_with fail
  go_ret2
  exact ⟨x, y, l, m, rfl, HO2'.out.mono B1.out.size, HO3.out.mono B2.out.size, hl2, hl3, HS2.out, HS3.out, B3.out⟩
end Go.Proofs.Ytjhcgbhmepgfhaa.Cl
