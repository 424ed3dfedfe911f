/-
  Plain facts for FnMerged: cells put one after the other are merged; the draw of spec.DrawMerged; the walk of FnMerged at a code that is not too long.
-/
import Derived.Test.YtkkpokfekbdigaaPk
import Derived.Test.YtkkpokfekbdigaaDf
namespace Go.Proofs.Ytkkpokfekbdigaa.Cl
open Go.RowKit Wd Rp Cu Kp
set_option linter.unusedVariables false
theorem okL_merge {l m : List Cel} (h : okL l = true) (k : okL m = true) (hl : (mergeL l m).length ≤ 200) : okL (mergeL l m) = true :=
  okL_of (fun c hc => by rcases sub_merge l m c hc with g | g; exact okL_mem h c g; exact okL_mem k c g) (srt_merge l m (okL_srt h) (okL_srt k)) hl
theorem okL_take {l : List Cel} (h : okL l = true) (i : Nat) : okL (l.take i) = true :=
  okL_of (fun c hc => okL_mem h c (List.mem_of_mem_take hc)) (List.Pairwise.sublist (List.take_sublist _ _) (okL_pair h)) (by rw [List.length_take]; have := okL_len h; omega)
theorem mem_put {M : List Cel} {c : Cel} (h : okL M = true) (d : Cel) : d ∈ putL M c ↔ d = c ∨ (d ∈ M ∧ d.ke c = false) := by
  obtain ⟨g1, g2, g3⟩ := cntP_spec (fun d => d.ls c) M
  constructor
  · intro hd
    unfold putL at hd
    rcases List.mem_append.1 hd with h1 | h1
    · exact Or.inr ⟨List.mem_of_mem_take h1, (ls_nke (put_lo h1)).1⟩
    · rcases List.mem_cons.1 h1 with e | h1
      · exact Or.inl e
      · exact Or.inr ⟨List.mem_of_mem_drop h1, (ls_nke (put_hi h h1)).2⟩
  · rintro (rfl | ⟨hd, hk⟩)
    · unfold putL; simp
    · obtain ⟨j, hj⟩ := List.mem_iff_getElem?.1 hd
      unfold putL
      rw [List.mem_append, List.mem_cons]
      generalize hn : cntP (fun d => d.ls c) M = n at *
      rcases Nat.lt_trichotomy j n with h1 | h1 | h1
      · exact Or.inl (List.mem_of_getElem? (i := j) (by rw [List.getElem?_take_of_lt h1]; exact hj))
      · subst h1
        refine Or.inr (Or.inr ?_)
        have ht : there M j c = false := by unfold there; rw [hj]; exact hk
        rw [ht]
        exact List.mem_of_getElem? (i := 0) (by rw [List.getElem?_drop]; simpa using hj)
      · refine Or.inr (Or.inr ?_)
        split
        · exact List.mem_of_getElem? (i := j - (n + 1)) (by rw [List.getElem?_drop, show n + 1 + (j - (n + 1)) = j by omega]; exact hj)
        · exact List.mem_of_getElem? (i := j - n) (by rw [List.getElem?_drop, show n + 0 + (j - n) = j by omega]; exact hj)
theorem merge_put {l m : List Cel} (h : okL l = true) (k : okL m = true) (hs : l.length + m.length ≤ 200) {i : Nat} {c : Cel} (hc : l[i]? = some c) : putP (mergeL (l.take i) m) c = (mergeL (l.take (i + 1)) m, true) := by
  have hil := (List.getElem?_eq_some_iff.1 hc).1
  have hlen : ∀ j, (mergeL (l.take j) m).length ≤ 200 := fun j => by
    have := merge_len (l.take j) m
    rw [List.length_take] at this; omega
  have hok := okL_merge (okL_take h i) k (hlen i)
  have hok2 := okL_merge (okL_take h (i + 1)) k (hlen (i + 1))
  have hci := ok_get h hc
  have ht : l.take (i + 1) = l.take i ++ [c] := by
    rw [List.take_succ_eq_append_getElem hil]
    congr 2
    rw [List.getElem?_eq_getElem hil] at hc
    exact Option.some.inj hc
  have hle : (putL (mergeL (l.take i) m) c).length ≤ 200 := by
    have h1 := putL_le (mergeL (l.take i) m) c
    have h2 := merge_len (l.take i) m
    rw [List.length_take] at h2; omega
  have heq : putL (mergeL (l.take i) m) c = mergeL (l.take (i + 1)) m := by
    refine srt_ext (okL_srt (okL_put hok hci hle)) (okL_srt hok2) fun d => ?_
    rw [mem_put hok, mem_merge _ _ (okL_srt (okL_take h i)) (okL_srt k), mem_merge _ _ (okL_srt (okL_take h (i + 1))) (okL_srt k), ht]
    have hlt : ∀ d ∈ l.take i, d.ls c = true := fun d hd => by
      have := okL_pair (okL_take h (i + 1))
      rw [ht] at this
      exact (List.pairwise_append.1 this).2.2 d hd c (by simp)
    constructor
    · rintro (rfl | ⟨h1 | ⟨h1, h2⟩, h3⟩)
      · exact Or.inl (by simp)
      · exact Or.inl (List.mem_append_left _ h1)
      · refine Or.inr ⟨h1, fun e he => ?_⟩
        rcases List.mem_append.1 he with he | he
        · exact h2 e he
        · rw [List.mem_singleton] at he; subst he; rw [ke_symm]; exact h3
    · rintro (h1 | ⟨h1, h2⟩)
      · rcases List.mem_append.1 h1 with h1 | h1
        · exact Or.inr ⟨Or.inl h1, (ls_nke (hlt d h1)).1⟩
        · rw [List.mem_singleton] at h1; exact Or.inl h1
      · exact Or.inr ⟨Or.inr ⟨h1, fun e he => h2 e (List.mem_append_left _ he)⟩, by rw [ke_symm]; exact h2 c (by simp)⟩
  rw [← heq]
  rcases putP_cases (mergeL (l.take i) m) c with ⟨h1, -⟩ | ⟨h1, h2⟩ | ⟨-, -, -, h2⟩
  · rw [hok] at h1; cases h1
  · exact putP_yes hok hci (by omega)
  · exact h2
/-- Two lists drawn. -/
def DrewLL (w : World) (e : Ending) (w' : World) : Prop := ∃ (x y : Value) (l m : List Cel), e = .returned (.tuple #[x, y]) ∧ OwC w.heap.size w' x l ∧ OwC w.heap.size w' y m ∧ l.length ≤ 250 ∧ m.length ≤ 250 ∧ Smalls l ∧ Smalls m ∧ Below w.heap.size w w'
set_option maxHeartbeats 4000000 in
theorem drawMerged_any (w : World) (a : Option Addr) (len cap : Nat) (hb : IsBytes w a len) (hl : len ≤ 4096) : Calls Try.prog 28 #[.slice a len cap] w (DrewLL w) := by
  have HB := Lib.hid hb; clear hb
  go_enter Try.func28, Try.ntmps28
  go_wp2_with fail
  refine (new_any w a len cap HB.out hl).mono ?_; rintro e w1 ⟨b, rfl, hc1, hw1⟩
  have hbw : w.heap.size ≤ b := hc1.le
  have hlt : b < w1.heap.size := hc1.lt
  have B1 := Lib.hid hw1
  have HC := Lib.hid hc1; clear hw1 hc1
  go_wp2_with fail
  refine (drawCells_any _ b _ HC.out).mono ?_; rintro e w2 ⟨x, l, rfl, o2, hl2, hs2, hc2, hw2⟩
  have B2 := Lib.hid (B1.out.trans (hw2.below (B := w.heap.size) hbw B1.out.size))
  have HC2 := Lib.hid hc2
  have HO2 := Lib.hid o2
  have HS2 := Lib.hid hs2; clear hc2 o2 hs2 hw2
  go_wp2_with fail
  refine (drawCells_any _ b _ HC2.out).mono ?_; rintro e w3 ⟨y, m, rfl, o3, hl3, hs3, hc3, hw3⟩
  have B3 := Lib.hid (B2.out.trans (hw3.below (B := w.heap.size) hbw B2.out.size))
  have HO2' := Lib.hid (HO2.out.but hw3 hlt)
  have HO3 := Lib.hid o3
  have HS3 := Lib.hid hs3; clear o3 hs3 hw3 hc3
  go_wp2_with fail
  go_ret2
  exact ⟨x, y, l, m, rfl, HO2'.out.mono B1.out.size, HO3.out.mono B2.out.size, hl2, hl3, HS2.out, HS3.out, B3.out⟩
end Go.Proofs.Ytkkpokfekbdigaa.Cl
namespace Go.Proofs.Ytkkpokfekbdigaa.Cl
open Go.RowKit Wd Rp Cu Kp
set_option linter.unusedVariables false
theorem merged_impl {a b p : List Cel} {q : Nat} (hp : mgP a b = p) (hq : p.length = q) (w : World) (x y : Option Addr) (cx cy : Nat) (n k : Nat) (hn : a.length = n) (hk : b.length = k) (ha : Vw w x cx a) (hb : Vw w y cy b) (hn2 : n ≤ 4194304) (hk2 : k ≤ 4194304) :
    Calls Try.prog 29 #[.slice x n cx, .slice y k cy] w fun e w' => ∃ z cz, e = .returned (.slice z q cz) ∧ Vw w' z cz p ∧ Below w.heap.size w w' := by
  refine (implMerged_any w x y cx cy a b n k hn hk ha hb hn2 hk2).mono ?_
  rintro e w' ⟨v, rfl, o, bb⟩
  rw [hp] at o
  obtain ⟨z, cz, rfl, hv, -⟩ := o.view
  exact ⟨z, cz, by rw [hq], hv, bb⟩
theorem merged_spec {a b p : List Cel} {q : Nat} (hp : mgP a b = p) (hq : p.length = q) (w : World) (x y : Option Addr) (cx cy : Nat) (n k : Nat) (hn : a.length = n) (hk : b.length = k) (ha : Vw w x cx a) (hb : Vw w y cy b) (hma : ∀ c ∈ a, c.mod) (hmb : ∀ c ∈ b, c.mod) (hn2 : n ≤ 4194304) (hk2 : k ≤ 4194304) :
    Calls Try.prog 30 #[.slice x n cx, .slice y k cy] w fun e w' => ∃ z cz, e = .returned (.slice z q cz) ∧ Vw w' z cz p ∧ Below w.heap.size w w' := by
  refine (specMerged_any w x y cx cy a b n k hn hk ha hb hma hmb hn2 hk2).mono ?_
  rintro e w' ⟨v, rfl, o, bb⟩
  rw [hp] at o
  obtain ⟨z, cz, rfl, hv, -⟩ := o.view
  exact ⟨z, cz, by rw [hq], hv, bb⟩
theorem put_spec {l pl : List Cel} {c : Cel} {is : Bool} {m : Nat} (h : putP l c = (pl, is)) (hm : pl.length = m) (w : World) (a : Option Addr) (cap : Nat) (n : Nat) (hn : l.length = n) (hv : Vw w a cap l) (hlm : ∀ c ∈ l, c.mod) (hc : c.mod) (hl : n ≤ 4194304) :
    Calls Try.prog 21 #[.slice a n cap, .agg #[.string c.r, .string c.b, .int .i64 c.t, .int .i64 c.v, .bool c.g]] w fun e w' => ∃ a' cap', e = .returned (.tuple #[.slice a' m cap', .bool is]) ∧ Vw w' a' cap' pl ∧ Below w.heap.size w w' := by
  refine (specPut_any w a cap l c n hn hv hlm hc hl).mono ?_
  rintro e w' ⟨v, rfl, o, b⟩
  rw [h] at o ⊢
  obtain ⟨a', cap', rfl, hv', -⟩ := o.view
  exact ⟨a', cap', by rw [← hm], hv', b⟩
theorem merge_mod {l m : List Cel} (h : ∀ c ∈ l, c.mod) (k : ∀ c ∈ m, c.mod) : ∀ c ∈ mergeL l m, c.mod := fun c hc => by
  rcases sub_merge l m c hc with g | g
  · exact h c g
  · exact k c g
set_option maxHeartbeats 8000000 in
set_option maxRecDepth 100000 in
theorem merged_small (w : World) (a0 : Option Addr) (len0 cap0 : Nat) (hb : IsBytes w a0 len0) (hl : len0 ≤ 4096) :
    Calls Try.prog 4 #[.slice a0 len0 cap0] w fun e w' => e = .returned (.bool true) ∧ Below w.heap.size w w' := by
  have HB := Lib.hid hb; clear hb
  go_enter Try.func4, Try.ntmps4
  go_wp2_with fail
  refine (big_no w a0 len0 cap0 hl).mono ?_; rintro e wx ⟨rfl, rfl⟩
  go_wp2_with fail
  refine (drawMerged_any w a0 len0 cap0 HB.out hl).mono ?_; rintro e w1 ⟨x, y, l, m, rfl, o1, u1, hl1, hm1, hs1, ht1, b1⟩
  obtain ⟨a, ca, rfl, v1, -⟩ := o1.view
  obtain ⟨b, cb, rfl, v2, -⟩ := u1.view
  have HLM := Lib.hid (show ∀ d ∈ l, d.mod from fun d hd => (hs1 d hd).mod)
  have HMM := Lib.hid (show ∀ d ∈ m, d.mod from fun d hd => (ht1 d hd).mod)
  have HA := Lib.hid v1
  have HU := Lib.hid v2
  have B1 := Lib.hid b1
  clear o1 u1 v1 v2 b1 hs1 ht1
  generalize hn : l.length = n at hl1 ⊢
  generalize hk : m.length = k at hm1 ⊢
  obtain ⟨p, hp⟩ : ∃ p, mgP l m = p := ⟨_, rfl⟩
  have hp2 : p.length ≤ 200 := by rw [← hp]; exact mgP_len l m
  have HP := Lib.hid hp; clear hp
  generalize hq : p.length = q at hp2
  have HQ := Lib.hid hq; clear hq
  have HN := Lib.hid hn; have HK := Lib.hid hk; clear hn hk
  have j1 : (n : Int) ≤ 250 := by omega
  have j2 : (k : Int) ≤ 250 := by omega
  have j3 : (q : Int) ≤ 200 := by omega
  go_wp2_with fail
  refine (merged_impl HP.out HQ.out w1 a b ca cb n k HN.out HK.out HA.out HU.out (by omega) (by omega)).mono ?_; rintro e w2 ⟨c, cc, rfl, v2, b2⟩
  have HC := Lib.hid v2
  have HA2 := Lib.hid (HA.out.below b2)
  have HU2 := Lib.hid (HU.out.below b2)
  have B2 := Lib.hid (bel_tr B1.out b2 (Nat.le_refl _)); clear v2 b2 HA HU B1
  go_wp2_with fail
  refine (merged_spec HP.out HQ.out w2 a b ca cb n k HN.out HK.out HA2.out HU2.out HLM.out HMM.out (by omega) (by omega)).mono ?_; rintro e w3 ⟨d, cd, rfl, v3, b3⟩
  have HD := Lib.hid v3
  have HC3 := Lib.hid (HC.out.below b3)
  have HA3 := Lib.hid (HA2.out.below b3)
  have HU3 := Lib.hid (HU2.out.below b3)
  have B3 := Lib.hid (bel_tr B2.out b3 (Nat.le_refl _)); clear v3 b3 HA2 HU2 B2 HC
  go_wp2_with fail
  refine (like_same w3 c d cc cd p q HQ.out HC3.out HD.out (by omega)).mono ?_; rintro e w4 ⟨rfl, b4⟩
  have HC4 := Lib.hid (HC3.out.below b4)
  have HA4 := Lib.hid (HA3.out.below b4)
  have HU4 := Lib.hid (HU3.out.below b4)
  have B4 := Lib.hid (bel_tr B3.out b4 (Nat.le_refl _)); clear b4 HA3 HU3 B3 HC3 HD
  -- what comes behind, where not both are good and short
  have BAD := Lib.hid (show (okL l = true ∧ okL m = true ∧ l.length + m.length ≤ 200) ∨ q = 0 ∨ (q ≠ 0 ∧ okL p = true) from by
    cases h1 : okL l
    · exact Or.inr (Or.inl (by rw [← HQ.out, ← HP.out, mgP_no (by rw [h1]; rfl)]; rfl))
    · cases h2 : okL m
      · exact Or.inr (Or.inl (by rw [← HQ.out, ← HP.out, mgP_no (by rw [h1, h2]; rfl)]; rfl))
      · by_cases h3 : 200 < (mergeL l m).length
        · exact Or.inr (Or.inl (by rw [← HQ.out, ← HP.out, mgP_big h1 h2 h3]; rfl))
        · by_cases h4 : q = 0
          · exact Or.inr (Or.inl h4)
          · exact Or.inr (Or.inr ⟨h4, by rw [← HP.out, mgP_yes h1 h2 h3]; exact okL_merge h1 h2 (by omega)⟩))
  cases h1 : okL l
  · have H1 := Lib.hid h1; clear h1
    go_wp2_with fail
    refine (specCells_is H1.out _ a ca n HN.out HA4.out HLM.out (by omega)).mono ?_; rintro e w5 ⟨rfl, b5⟩
    have B5 := Lib.hid (bel_tr B4.out b5 (Nat.le_refl _))
    have HC5 := Lib.hid (HC4.out.below b5); clear b5
    rcases BAD.out with ⟨hx, -, -⟩ | hx | ⟨hx, hy⟩
    · rw [H1.out] at hx; cases hx
    · subst hx
      go_wp2_with fail
      go_ret
      exact ⟨rfl, B5.out⟩
    · have z0 : ((q : Int) == 0) = false := by rw [beq_eq_false_iff_ne]; omega
      have HY := Lib.hid hy; clear hy hx
      have HPM := Lib.hid (show ∀ c ∈ p, c.mod from by rw [← HP.out]; unfold mgP; rw [H1.out]; intro c hc; cases hc)
      go_wp2_with fail
      refine (specCells_is HY.out _ c cc q HQ.out HC5.out HPM.out (by omega)).mono ?_; rintro e w6 ⟨rfl, b6⟩
      have B6 := Lib.hid (bel_tr B5.out b6 (Nat.le_refl _)); clear b6
      go_wp2_with fail
      go_ret
      exact ⟨rfl, B6.out⟩
  · cases h2 : okL m
    · have H1 := Lib.hid h1; clear h1
      have H2 := Lib.hid h2; clear h2
      go_wp2_with fail
      refine (specCells_is H1.out _ a ca n HN.out HA4.out HLM.out (by omega)).mono ?_; rintro e w5 ⟨rfl, b5⟩
      have B5 := Lib.hid (bel_tr B4.out b5 (Nat.le_refl _))
      have HU5 := Lib.hid (HU4.out.below b5)
      have HC5 := Lib.hid (HC4.out.below b5); clear b5
      go_wp2_with fail
      refine (specCells_is H2.out _ b cb k HK.out HU5.out HMM.out (by omega)).mono ?_; rintro e w6 ⟨rfl, b6⟩
      have B6 := Lib.hid (bel_tr B5.out b6 (Nat.le_refl _))
      have HC6 := Lib.hid (HC5.out.below b6); clear b6
      have hx : q = 0 := by rw [← HQ.out, ← HP.out, mgP_no (by rw [H1.out, H2.out]; rfl)]; rfl
      subst hx
      go_wp2_with fail
      go_ret
      exact ⟨rfl, B6.out⟩
    · have H1 := Lib.hid h1
      have H2 := Lib.hid h2
      go_wp2_with fail
      refine (specCells_is H1.out _ a ca n HN.out HA4.out HLM.out (by omega)).mono ?_; rintro e w5 ⟨rfl, b5⟩
      have B5 := Lib.hid (bel_tr B4.out b5 (Nat.le_refl _))
      have HA5 := Lib.hid (HA4.out.below b5)
      have HU5 := Lib.hid (HU4.out.below b5)
      have HC5 := Lib.hid (HC4.out.below b5); clear b5 HA4 HU4 HC4
      by_cases hs : n + k ≤ 200
      · -- both good and short: put one after the other
        have hs' : l.length + m.length ≤ 200 := by rw [HN.out, HK.out]; exact hs
        have hml := merge_len l m
        have hP : p = mergeL l m := by rw [← HP.out]; exact mgP_yes h1 h2 (by omega)
        have HPE := Lib.hid hP; clear hP
        have HPO := Lib.hid (show okL p = true by rw [HPE.out]; exact okL_merge h1 h2 (by omega))
        have HMG := Lib.hid (show mgP p m = p by
          have e1 : mergeL p m = p := by rw [HPE.out]; exact merge_again (okL_srt h1) (okL_srt h2)
          rw [mgP_yes HPO.out h2 (by rw [e1, HQ.out]; omega), e1])
        have HPUT := Lib.hid (fun i c (hc : l[i]? = some c) => merge_put h1 h2 hs' hc)
        have HBD := Lib.hid (show ∀ i, (mergeL (l.take i) m).length ≤ 200 from fun i => by
          have := merge_len (l.take i) m
          rw [List.length_take] at this; omega)
        have z0 : ¬ (200 : Int) < (n : Int) + (k : Int) := by omega
        clear h1 h2 hml hs'
        go_wp2_with fail
        refine (specCells_is H2.out _ b cb k HK.out HU5.out HMM.out (by omega)).mono ?_; rintro e w6 ⟨rfl, b6⟩
        have B6 := Lib.hid (bel_tr B5.out b6 (Nat.le_refl _))
        have HA6 := Lib.hid (HA5.out.below b6)
        have HU6 := Lib.hid (HU5.out.below b6)
        have HC6 := Lib.hid (HC5.out.below b6); clear b6 HA5 HU5 HC5 B5
        go_wp2_with fail
        go_loopw [6, 7] (fun s6 s7 wr => ∃ (i : Nat) (x : Option Addr) (cx : Nat), s7 = .int .i64 (i : Int) ∧ i ≤ n ∧ s6 = .slice x (mergeL (l.take i) m).length cx ∧ Vw wr x cx (mergeL (l.take i) m) ∧ Below w6.heap.size w6 wr) (fun _ s7 _ => n - intV s7)
        case atStart => exact ⟨0, b, cb, rfl, Nat.zero_le _, by rw [List.take_zero, mergeL_nl, HK.out], by rw [List.take_zero, mergeL_nl]; exact HU6.out, Below.refl _ _⟩
        case round =>
          obtain ⟨i, x, cx, rfl, hi, rfl, hvx, hbx⟩ := hrel
          have HX := Lib.hid hvx; clear hvx
          have BX := Lib.hid hbx; clear hbx
          have hM := HBD.out i
          by_cases hlt : i < n
          · obtain ⟨c0, hc0⟩ : ∃ c0, l[i]? = some c0 := ⟨l[i]'(by rw [HN.out]; exact hlt), List.getElem?_eq_getElem _⟩
            obtain ⟨g, o, e1, hg, h5⟩ := HA6.out.2.2.2 i c0 hc0
            obtain ⟨g0, g1, g2, g3, g4⟩ : At5 wr g (o + i * 5) c0 := h5.same (BX.out.block g hg)
            have HCM := Lib.hid (HLM.out c0 (List.mem_of_getElem? hc0))
            have HPT := Lib.hid (HPUT.out i c0 hc0)
            have HTM := Lib.hid (show ∀ d ∈ mergeL (l.take i) m, d.mod from merge_mod (fun d hd => HLM.out d (List.mem_of_mem_take hd)) HMM.out)
            cases e1
            clear hc0 h5
            generalize hM2 : (mergeL (l.take i) m).length = M at *
            have HM2 := Lib.hid hM2; clear hM2
            have i1 : (i : Int) < (n : Int) := by omega
            have i2 : (0 : Int) ≤ (i : Int) := by omega
            go_wp2_with fail
            refine (put_spec HPT.out rfl wr x cx M HM2.out HX.out HTM.out HCM.out (by omega)).mono ?_; rintro e w7 ⟨x7, cx7, rfl, v7, b7⟩
            have HX7 := Lib.hid v7
            have BX7 := Lib.hid (bel_tr BX.out b7 (Nat.le_refl _)); clear v7 b7 g0 g1 g2 g3 g4
            go_wp2_with fail
            go_roundw
            case rel => exact ⟨i + 1, x7, cx7, by go_num, by omega, rfl, HX7.out, BX7.out⟩
            case measure => simp [intV]; omega
          · have hin : i = n := by omega
            have HTE := Lib.hid (show mergeL (l.take i) m = p by rw [HPE.out, List.take_of_length_le (by rw [HN.out]; omega)])
            clear hin
            have i1 : ¬ (i : Int) < (n : Int) := by omega
            have HX2 := Lib.hid (show Vw wr x cx p by rw [← HTE.out]; exact HX.out)
            rw [HTE.out, HQ.out]
            have HC7 := Lib.hid (HC6.out.below BX.out)
            have HU7 := Lib.hid (HU6.out.below BX.out)
            have B7 := Lib.hid (bel_tr B6.out BX.out (Nat.le_refl _))
            clear HX HTE HBD HPUT hM
            go_wp2_with fail
            refine (like_same wr c x cc cx p q HQ.out HC7.out HX2.out (by omega)).mono ?_; rintro e w8 ⟨rfl, b8⟩
            have HC8 := Lib.hid (HC7.out.below b8)
            have HU8 := Lib.hid (HU7.out.below b8)
            have B8 := Lib.hid (bel_tr B7.out b8 (Nat.le_refl _)); clear b8
            go_wp2_with fail
            refine (merged_impl HMG.out HQ.out w8 c b cc cb q k HQ.out HK.out HC8.out HU8.out (by omega) (by omega)).mono ?_; rintro e w9 ⟨z, cz, rfl, v9, b9⟩
            have HZ := Lib.hid v9
            have HC9 := Lib.hid (HC8.out.below b9)
            have B9 := Lib.hid (bel_tr B8.out b9 (Nat.le_refl _)); clear b9 v9
            go_wp2_with fail
            refine (like_same w9 z c cz cc p q HQ.out HZ.out HC9.out (by omega)).mono ?_; rintro e w10 ⟨rfl, b10⟩
            have B10 := Lib.hid (bel_tr B9.out b10 (Nat.le_refl _)); clear b10
            go_wp2_with fail
            go_ret
            exact ⟨rfl, B10.out⟩
      · have z0 : (200 : Int) < (n : Int) + (k : Int) := by omega
        clear h1 h2
        go_wp2_with fail
        refine (specCells_is H2.out _ b cb k HK.out HU5.out HMM.out (by omega)).mono ?_; rintro e w6 ⟨rfl, b6⟩
        have B6 := Lib.hid (bel_tr B5.out b6 (Nat.le_refl _))
        have HC6 := Lib.hid (HC5.out.below b6); clear b6
        rcases BAD.out with ⟨-, -, hx⟩ | hx | ⟨hx, hy⟩
        · rw [HN.out, HK.out] at hx; omega
        · subst hx
          go_wp2_with fail
          go_ret
          exact ⟨rfl, B6.out⟩
        · have z1 : ((q : Int) == 0) = false := by rw [beq_eq_false_iff_ne]; omega
          have HY := Lib.hid hy; clear hy hx
          have HPM := Lib.hid (show ∀ c ∈ p, c.mod from by
            rw [← HP.out]; unfold mgP; rw [H1.out, H2.out]
            intro c hc
            split at hc
            · split at hc
              · cases hc
              · exact merge_mod HLM.out HMM.out c hc
            · cases hc)
          go_wp2_with fail
          refine (specCells_is HY.out _ c cc q HQ.out HC6.out HPM.out (by omega)).mono ?_; rintro e w7 ⟨rfl, b7⟩
          have B7 := Lib.hid (bel_tr B6.out b7 (Nat.le_refl _)); clear b7
          go_wp2_with fail
          go_ret
          exact ⟨rfl, B7.out⟩
end Go.Proofs.Ytkkpokfekbdigaa.Cl
