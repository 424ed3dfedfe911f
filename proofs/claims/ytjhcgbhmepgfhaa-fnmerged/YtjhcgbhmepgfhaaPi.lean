/-
  The contract of impl.Merged: 'mgP'.
-/
import Derived.Test.YtjhcgbhmepgfhaaPh
import Derived.Test.YtjhcgbhmepgfhaaCn
namespace Go.Proofs.Ytjhcgbhmepgfhaa.Cl
open Go.RowKit Wd Rp Kp
set_option linter.unusedVariables false
/-- What Merged gives. -/
def mgP (a b : List Cel) : List Cel := if okL a && okL b then (if 200 < (mergeL a b).length then [] else mergeL a b) else []
theorem mgP_no {a b : List Cel} (h : (okL a && okL b) = false) : mgP a b = [] := by unfold mgP; rw [h]; rfl
theorem mgP_big {a b : List Cel} (h : okL a = true) (k : okL b = true) (hb : 200 < (mergeL a b).length) : mgP a b = [] := by unfold mgP; rw [h, k, if_pos hb]; rfl
theorem mgP_yes {a b : List Cel} (h : okL a = true) (k : okL b = true) (hb : ¬ 200 < (mergeL a b).length) : mgP a b = mergeL a b := by unfold mgP; rw [h, k, if_neg hb]; rfl
theorem okL_len {l : List Cel} (h : okL l = true) : l.length ≤ 200 := (okL_iff.1 h).2
theorem okL_srt {l : List Cel} (h : okL l = true) : Srt l := okL_pair h
theorem mgP_len (a b : List Cel) : (mgP a b).length ≤ 200 := by
  unfold mgP; split
  · split
    · simp
    · omega
  · simp
/-- Two lists, merged by rank. -/
theorem two_fst {x y : Option Addr} {cx cy : Nat} {a b : List Cel} (ha : Srt a) (hb : Srt b) (c : Cel) : Fst [⟨0, x, cx, a⟩, ⟨1, y, cy, b⟩] c ↔ c ∈ mergeL a b := by
  rw [mem_merge a b ha hb]
  constructor
  · rintro ⟨p, hp, hc, h⟩
    rcases List.mem_cons.1 hp with rfl | hp
    · exact Or.inl hc
    · rw [List.mem_singleton] at hp; subst hp
      exact Or.inr ⟨hc, h ⟨0, x, cx, a⟩ List.mem_cons_self (by show 0 < 1; omega)⟩
  · rintro (h | ⟨h1, h2⟩)
    · refine ⟨_, List.mem_cons_self, h, fun q hq hk => ?_⟩
      exact absurd hk (Nat.not_lt_zero _)
    · refine ⟨_, List.mem_cons_of_mem _ (List.mem_singleton.2 rfl), h1, fun q hq hk d hd => ?_⟩
      rcases List.mem_cons.1 hq with rfl | hq
      · exact h2 d hd
      · rw [List.mem_singleton] at hq; subst hq
        exact absurd hk (Nat.lt_irrefl _)
def MgPost (a b : List Cel) (w : World) (e : Ending) (w' : World) : Prop := ∃ v, e = .returned v ∧ OwC w.heap.size w' v (mgP a b) ∧ Below w.heap.size w w'
set_option maxHeartbeats 4000000 in
set_option maxRecDepth 100000 in
theorem implMerged_any (w : World) (x y : Option Addr) (cx cy : Nat) (a b : List Cel) (n k : Nat) (hn : a.length = n) (hk : b.length = k) (ha : Vw w x cx a) (hb : Vw w y cy b) (hn2 : n ≤ 4194304) (hk2 : k ≤ 4194304) :
    Calls Try.prog 9 #[.slice x n cx, .slice y k cy] w (MgPost a b w) := by
  have HA := Lib.hid ha; clear ha
  have HB := Lib.hid hb; clear hb
  cases h1 : okL a
  · have HP := Lib.hid (mgP_no (a := a) (b := b) (by rw [h1]; rfl))
    have H1 := Lib.hid h1; clear h1
    go_enter Try.func9, Try.ntmps9
    go_wp2_with fail
    refine (implCells_is H1.out _ x cx n hn HA.out hn2).mono ?_; rintro e w1 ⟨rfl, b1⟩
    have B1 := Lib.hid b1; clear b1
    go_wp2_with fail
    go_ret
    exact ⟨_, rfl, by rw [HP.out]; exact OwC.nothing _ _, B1.out⟩
  · cases h2 : okL b
    · have HP := Lib.hid (mgP_no (a := a) (b := b) (by rw [h1, h2]; rfl))
      have H1 := Lib.hid h1; clear h1
      have H2 := Lib.hid h2; clear h2
      go_enter Try.func9, Try.ntmps9
      go_wp2_with fail
      refine (implCells_is H1.out _ x cx n hn HA.out hn2).mono ?_; rintro e w1 ⟨rfl, b1⟩
      have B1 := Lib.hid b1; clear b1
      go_wp2_with fail
      refine (implCells_is H2.out _ y cy k hk (HB.out.below B1.out) hk2).mono ?_; rintro e w2 ⟨rfl, b2⟩
      have B2 := Lib.hid (bel_tr B1.out b2 (Nat.le_refl _)); clear b2
      go_wp2_with fail
      go_ret
      exact ⟨_, rfl, by rw [HP.out]; exact OwC.nothing _ _, B2.out⟩
    · have hla := okL_len h1
      have hlb := okL_len h2
      have HQ := Lib.hid (fun m (hs : Srt m) (hm : ∀ c, c ∈ m ↔ Fst [⟨0, x, cx, a⟩, ⟨1, y, cy, b⟩] c) => srt_ext hs (srt_merge a b (okL_srt h1) (okL_srt h2)) (fun c => by rw [hm c, two_fst (okL_srt h1) (okL_srt h2)]))
      have HO := Lib.hid (And.intro h1 h2)
      have HAR := Lib.hid (fun (z : World) (hz : Below w.heap.size w z) => show Args (z.alloc (.cells #[.slice x n cx, .slice y k cy] 24)) z.heap.size 0 [⟨0, x, cx, a⟩, ⟨1, y, cy, b⟩] from by
        have hbl := bel1 z (.cells #[.slice x n cx, .slice y k cy] 24)
        have hp : (z.alloc (.cells #[.slice x n cx, .slice y k cy] 24)).heap[z.heap.size]? = some (.cells #[.slice x n cx, .slice y k cy] 24) := by show (z.heap.push _)[z.heap.size]? = _; simp
        refine ⟨by simp, fun i p hip => ?_⟩
        match i, hip with
        | 0, hip =>
          obtain rfl : (⟨0, x, cx, a⟩ : Pile) = p := by simpa using hip
          refine ⟨by simp only [World.cell?, hp]; rw [hn]; rfl, rfl, okL_mem h1, okL_srt h1, (HA.out.below hz).below hbl⟩
        | 1, hip =>
          obtain rfl : (⟨1, y, cy, b⟩ : Pile) = p := by simpa using hip
          refine ⟨by simp only [World.cell?, hp]; rw [hk]; rfl, rfl, okL_mem h2, okL_srt h2, (HB.out.below hz).below hbl⟩
        | i + 2, hip => simp at hip)
      have HT := Lib.hid (show tot [⟨0, x, cx, a⟩, ⟨1, y, cy, b⟩] ≤ 400 by simp [tot]; omega)
      clear h1 h2 hla hlb
      go_enter Try.func9, Try.ntmps9
      go_wp2_with fail
      refine (implCells_is HO.out.1 _ x cx n hn HA.out hn2).mono ?_; rintro e w1 ⟨rfl, b1⟩
      have B1 := Lib.hid b1; clear b1
      go_wp2_with fail
      refine (implCells_is HO.out.2 _ y cy k hk (HB.out.below B1.out) hk2).mono ?_; rintro e w2 ⟨rfl, b2⟩
      have B2 := Lib.hid (bel_tr B1.out b2 (Nat.le_refl _)); clear b2
      go_wp2_with fail
      refine (mergedShelves_any _ w2.heap.size 0 2 [⟨0, x, cx, a⟩, ⟨1, y, cy, b⟩] 2 rfl (by decide) (by have := HT.out; omega) (HAR.out w2 B2.out)).mono ?_; rintro e w3 ⟨v, m, rfl, o3, s3, m3, b3, l3⟩
      obtain rfl := HQ.out m s3 m3
      have B3 := Lib.hid (bel_tr B2.out (bel_tr (bel1 _ _) b3 (Nat.le_refl _)) (Nat.le_refl _))
      have O3 := Lib.hid (o3.mono (Nat.le_trans B2.out.size (by simp)))
      have l4 : (mergeL a b).length ≤ 400 := Nat.le_trans l3 HT.out
      clear s3 m3 b3 l3
      obtain ⟨va, vc, rfl, -, -⟩ := o3.view
      clear o3
      by_cases hbg : 200 < (mergeL a b).length
      · have HP := Lib.hid (mgP_big HO.out.1 HO.out.2 hbg)
        generalize hml : (mergeL a b).length = ml at *
        have z1 : (200 : Int) < (ml : Int) := by omega
        clear hml
        go_wp2_with fail
        go_ret
        exact ⟨_, rfl, by rw [HP.out]; exact OwC.nothing _ _, B3.out⟩
      · have HP := Lib.hid (mgP_yes HO.out.1 HO.out.2 hbg)
        generalize hml : (mergeL a b).length = ml at *
        have z1 : ¬ (200 : Int) < (ml : Int) := by omega
        clear hml
        go_wp2_with fail
        go_ret
        exact ⟨_, rfl, by rw [HP.out]; exact O3.out, B3.out⟩
end Go.Proofs.Ytjhcgbhmepgfhaa.Cl
