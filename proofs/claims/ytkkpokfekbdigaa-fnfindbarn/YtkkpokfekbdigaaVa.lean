/-
  All tables merged: plain; an append to a row of slices.
  slices.AppendSeq, slices.Collect over an iterator of slices; the contract of impl.AllCells: 'allP'.
  The contracts of impl.AllCells, spec.l6All, spec.AllCells: 'mgA', 'allP'.
-/
import Derived.Test.YtkkpokfekbdigaaPe
import Derived.Test.YtkkpokfekbdigaaBa
import Derived.Test.YtkkpokfekbdigaaRa
import Derived.Test.YtkkpokfekbdigaaRe
import Derived.Test.YtkkpokfekbdigaaPj
namespace Go.Proofs.Ytkkpokfekbdigaa.Cl
open Go.RowKit Wd Rp Kp Ra
set_option linter.unusedVariables false
/-- The tables one after the other, as piles. -/
def pilesOf : Nat → List Hd → List (List Cel) → List Pile
  | k, h :: hs, l :: ls => ⟨k, h.a, h.c, l⟩ :: pilesOf (k + 1) hs ls
  | _, _, _ => []
theorem piles_rank : ∀ (k : Nat) (hs : List Hd) (ss : List (List Cel)), ∀ p ∈ pilesOf k hs ss, k ≤ p.k
  | k, [], _, p, hp => by simp [pilesOf] at hp
  | k, h :: hs, [], p, hp => by simp [pilesOf] at hp
  | k, h :: hs, l :: ls, p, hp => by
    rcases List.mem_cons.1 hp with rfl | hp
    · exact Nat.le_refl _
    · have := piles_rank (k + 1) hs ls p hp; omega
theorem piles_at : ∀ (k : Nat) (hs : List Hd) (ss : List (List Cel)), hs.length = ss.length → ∀ (i : Nat) (p : Pile), (pilesOf k hs ss)[i]? = some p → ∃ h l, hs[i]? = some h ∧ ss[i]? = some l ∧ p = ⟨k + i, h.a, h.c, l⟩
  | k, [], ss, _, i, p, hp => by simp [pilesOf] at hp
  | k, h :: hs, [], hl, i, p, hp => by simp at hl
  | k, h :: hs, l :: ls, hl, 0, p, hp => by
    obtain rfl : (⟨k, h.a, h.c, l⟩ : Pile) = p := by simpa [pilesOf] using hp
    exact ⟨h, l, rfl, rfl, rfl⟩
  | k, h :: hs, l :: ls, hl, i + 1, p, hp => by
    obtain ⟨h', l', e1, e2, e3⟩ := piles_at (k + 1) hs ls (by simpa using hl) i p (by simpa [pilesOf] using hp)
    exact ⟨h', l', by simpa using e1, by simpa using e2, by rw [e3]; congr 1; omega⟩
theorem piles_len : ∀ (k : Nat) (hs : List Hd) (ss : List (List Cel)), hs.length = ss.length → (pilesOf k hs ss).length = ss.length
  | k, [], [], _ => rfl
  | k, [], l :: ls, h => by simp at h
  | k, h :: hs, [], e => by simp at e
  | k, h :: hs, l :: ls, e => by simp [pilesOf, piles_len (k + 1) hs ls (by simpa using e)]
theorem piles_tot : ∀ (k : Nat) (hs : List Hd) (ss : List (List Cel)), hs.length = ss.length → tot (pilesOf k hs ss) = tott ss
  | k, [], [], _ => rfl
  | k, [], l :: ls, h => by simp at h
  | k, h :: hs, [], e => by simp at e
  | k, h :: hs, l :: ls, e => by rw [pilesOf, tot_cons, tott_cons, piles_tot (k + 1) hs ls (by simpa using e)]
theorem fst_cons {k : Nat} {a : Option Addr} {cp : Nat} {l : List Cel} {r : List Pile} (hr : ∀ p ∈ r, k < p.k) (c : Cel) : Fst (⟨k, a, cp, l⟩ :: r) c ↔ c ∈ l ∨ ((∀ d ∈ l, d.ke c = false) ∧ Fst r c) := by
  constructor
  · rintro ⟨p, hp, hc, h⟩
    rcases List.mem_cons.1 hp with rfl | hp
    · exact Or.inl hc
    · exact Or.inr ⟨h _ List.mem_cons_self (hr p hp), p, hp, hc, fun q hq hk => h q (List.mem_cons_of_mem _ hq) hk⟩
  · rintro (h | ⟨h1, p, hp, hc, h2⟩)
    · refine ⟨_, List.mem_cons_self, h, fun q hq hk => ?_⟩
      rcases List.mem_cons.1 hq with rfl | hq
      · exact absurd hk (Nat.lt_irrefl _)
      · have := hr q hq; exact absurd hk (by show ¬ q.k < k; omega)
    · refine ⟨p, List.mem_cons_of_mem _ hp, hc, fun q hq hk => ?_⟩
      rcases List.mem_cons.1 hq with rfl | hq
      · exact h1
      · exact h2 q hq hk
/-- All tables merged, the first ones first. -/
def mgA (h : List Cel) (ss : List (List Cel)) : List Cel := ss.foldl mergeL h
theorem mgA_srt : ∀ (ss : List (List Cel)) (h : List Cel), Srt h → (∀ l ∈ ss, Srt l) → Srt (mgA h ss)
  | [], h, hh, _ => hh
  | l :: ss, h, hh, hs => mgA_srt ss (mergeL h l) (srt_merge _ _ hh (hs l List.mem_cons_self)) (fun l hl => hs l (List.mem_cons_of_mem _ hl))
theorem mgA_len : ∀ (ss : List (List Cel)) (h : List Cel), (mgA h ss).length ≤ h.length + tott ss
  | [], h => by simp [mgA]
  | l :: ss, h => by
    have h1 := mgA_len ss (mergeL h l)
    have h2 := merge_len h l
    rw [tott_cons]
    show (mgA (mergeL h l) ss).length ≤ _
    omega
theorem ke_merge {a b : List Cel} (ha : Srt a) (hb : Srt b) (c : Cel) : (∀ d ∈ mergeL a b, d.ke c = false) ↔ (∀ d ∈ a, d.ke c = false) ∧ ∀ d ∈ b, d.ke c = false := by
  constructor
  · intro h
    have h1 : ∀ d ∈ a, d.ke c = false := fun d hd => h d ((mem_merge a b ha hb d).2 (Or.inl hd))
    refine ⟨h1, fun d hd => ?_⟩
    by_cases hm : ∀ e ∈ a, e.ke d = false
    · exact h d ((mem_merge a b ha hb d).2 (Or.inr ⟨hd, hm⟩))
    · obtain ⟨e, he⟩ := Classical.not_forall.1 hm
      obtain ⟨he1, he2⟩ := Classical.not_imp.1 he
      cases hk : d.ke c with
      | false => rfl
      | true =>
        have := h1 e he1
        rw [ke_trans (by simpa using he2) hk] at this
        cases this
  · rintro ⟨h1, h2⟩ d hd
    rcases sub_merge a b d hd with h | h
    · exact h1 d h
    · exact h2 d h
theorem mgA_mem : ∀ (k : Nat) (hs : List Hd) (ss : List (List Cel)) (h : List Cel), hs.length = ss.length → Srt h → (∀ l ∈ ss, Srt l) → ∀ c, c ∈ mgA h ss ↔ c ∈ h ∨ ((∀ d ∈ h, d.ke c = false) ∧ Fst (pilesOf k hs ss) c)
  | k, hs, [], h, hl, hh, _, c => by
    obtain rfl : hs = [] := List.length_eq_zero_iff.1 (by simpa using hl)
    constructor
    · exact fun h => Or.inl h
    · rintro (h | ⟨-, p, hp, -⟩)
      · exact h
      · simp [pilesOf] at hp
  | k, [], l :: ss, h, hl, hh, _, c => by simp at hl
  | k, x :: hs, l :: ss, h, hl, hh, hss, c => by
    have hl1 : Srt l := hss l List.mem_cons_self
    have ih := mgA_mem (k + 1) hs ss (mergeL h l) (by simpa using hl) (srt_merge _ _ hh hl1) (fun l hl => hss l (List.mem_cons_of_mem _ hl)) c
    show c ∈ mgA (mergeL h l) ss ↔ _
    rw [ih, mem_merge h l hh hl1, ke_merge hh hl1, pilesOf, fst_cons (fun p hp => by have := piles_rank (k + 1) hs ss p hp; omega)]
    constructor
    · rintro ((h1 | ⟨h1, h2⟩) | ⟨⟨h1, h2⟩, h3⟩)
      · exact Or.inl h1
      · exact Or.inr ⟨h2, Or.inl h1⟩
      · exact Or.inr ⟨h1, Or.inr ⟨h2, h3⟩⟩
    · rintro (h1 | ⟨h1, h2 | ⟨h2, h3⟩⟩)
      · exact Or.inl (Or.inl h1)
      · exact Or.inl (Or.inr ⟨h2, h1⟩)
      · exact Or.inr ⟨⟨h1, h2⟩, h3⟩
/-- Of the tables h :: ss. -/
theorem mgA_fst {x : Hd} {hs : List Hd} {ss : List (List Cel)} {h : List Cel} (hl : hs.length = ss.length) (hh : Srt h) (hss : ∀ l ∈ ss, Srt l) (c : Cel) : Fst (pilesOf 0 (x :: hs) (h :: ss)) c ↔ c ∈ mgA h ss := by
  rw [mgA_mem 1 hs ss h hl hh hss, pilesOf, fst_cons (fun p hp => by have := piles_rank 1 hs ss p hp; omega)]
def allP (h : List Cel) (ss : List (List Cel)) : List Cel := if okB h ss then (if 200 < (mgA h ss).length then [] else mgA h ss) else []
theorem allP_no {h : List Cel} {ss : List (List Cel)} (e : okB h ss = false) : allP h ss = [] := by unfold allP; rw [e]; rfl
theorem allP_big {h : List Cel} {ss : List (List Cel)} (e : okB h ss = true) (hb : 200 < (mgA h ss).length) : allP h ss = [] := by unfold allP; rw [e, if_pos hb]; rfl
theorem allP_yes {h : List Cel} {ss : List (List Cel)} (e : okB h ss = true) (hb : ¬ 200 < (mgA h ss).length) : allP h ss = mgA h ss := by unfold allP; rw [e, if_neg hb]; rfl
theorem allP_len (h : List Cel) (ss : List (List Cel)) : (allP h ss).length ≤ 200 := by
  unfold allP
  split
  · split
    · simp
    · omega
  · simp
theorem okB_srt {h : List Cel} {ss : List (List Cel)} (e : okB h ss = true) : Srt h ∧ ∀ l ∈ ss, Srt l := by
  obtain ⟨h1, -, h3⟩ := okB_iff.1 e
  exact ⟨okL_pair h1, fun l hl => okL_pair (h3 l hl).2⟩
end Go.Proofs.Ytkkpokfekbdigaa.Cl
namespace Go.Proofs.Ytkkpokfekbdigaa.Cl
open Go.RowKit Wd Rp Kp Ra Go.Shelf
attribute [local go_sem] Oper.semAt_some
set_option linter.unusedVariables false
/-- While the values are collected. -/
def Coll (q n0 : Nat) (w : World) (s : List Value × Option Nat) (W : World) : Prop := n0 ≤ W.heap.size ∧ ∃ sv, One q sv W ∧ RowS (q + 1) W sv s.1 ∧ sv.ownBlock = s.2 ∧ Below q w W
end Go.Proofs.Ytkkpokfekbdigaa.Cl
namespace Go.Proofs.Ytkkpokfekbdigaa.Cl
open Go.RowKit Wd Rp Kp Ra
set_option linter.unusedVariables false
def AlPost (l : List Cel) (w : World) (e : Ending) (w' : World) : Prop := ∃ v, e = .returned v ∧ OwC w.heap.size w' v l ∧ Below w.heap.size w w'
/-- The headers of the tables h :: ss. -/
theorem heads_all {w : World} {a sa : Option Addr} {c sc n : Nat} {h : List Cel} {hs : List Hd} {ss : List (List Cel)} (hn : h.length = n) (hv : Vw w a c h) (hvs : VwS w sa sc hs ss) : VwH w (⟨a, n, c⟩ :: hs) (h :: ss) :=
  ⟨by simp [hvs.1.1], fun j x l h1 h2 => by
    cases j with
    | zero =>
      obtain rfl : (⟨a, n, c⟩ : Hd) = x := by simpa using h1
      obtain rfl : h = l := by simpa using h2
      exact ⟨hn.symm, hv⟩
    | succ j => exact hvs.1.2 j x l (by simpa using h1) (by simpa using h2)⟩
/-- A row of the headers, as mergedShelves wants it. -/
theorem args_of {B : Nat} {w : World} {v : Value} {hs : List Hd} {ts : List (List Cel)} (hr : RowS B w v (hs.map Hd.val)) (hh : VwH w hs ts) (hok : ∀ l ∈ ts, okL l = true) (hne : hs ≠ []) : ∃ g cp, v = .slice (some ⟨g, 0, none⟩) ts.length cp ∧ Args w g 0 (pilesOf 0 hs ts) := by
  obtain ⟨a, cap, e, -, -, -, hat⟩ := hr.form
  obtain ⟨x, r, hx⟩ := List.exists_cons_of_ne_nil hne
  obtain ⟨g, e2, -, hg, -, -⟩ := hat 0 x.val (by rw [hx]; rfl)
  refine ⟨g, cap, by rw [e, e2, List.length_map, hh.1], hg, fun i p hp => ?_⟩
  obtain ⟨y, l, e3, e4, rfl⟩ := piles_at 0 hs ts hh.1 i p hp
  obtain ⟨g3, e5, -, -, hc, -⟩ := hat i y.val (by rw [List.getElem?_map, e3]; rfl)
  rw [e2] at e5
  cases e5
  obtain ⟨e6, hv⟩ := hh.2 i y l e3 e4
  refine ⟨?_, by show 0 + i = i; omega, okL_mem (hok l (List.mem_of_getElem? e4)), okL_srt (hok l (List.mem_of_getElem? e4)), hv⟩
  rw [Nat.zero_add, hc]
  show some (Value.slice y.a y.n y.c) = some (.slice y.a l.length y.c)
  rw [e6]
theorem mgT_succ {h : List Cel} {ss : List (List Cel)} {k : Nat} {t : List Cel} (ht : ss[k]? = some t) : mgA h (ss.take (k + 1)) = mergeL (mgA h (ss.take k)) t := by
  unfold mgA; rw [take_at ht, List.foldl_append]; rfl
set_option maxRecDepth 100000 in
set_option maxHeartbeats 4000000 in
theorem l6All_any (w : World) (a sa : Option Addr) (c sc n sn : Nat) (h : List Cel) (hs : List Hd) (ss : List (List Cel)) (hn : h.length = n) (hsn : ss.length = sn) (hv : Vw w a c h) (hvs : VwS w sa sc hs ss) (hl : n ≤ 300) (htt : tott ss ≤ 3600) (hln : ∀ l ∈ ss, l.length ≤ 300) (hs2 : sn ≤ 1000) :
    Calls Try.prog 75 #[.agg #[.slice a n c, .slice sa sn sc]] w (AlPost (mgA h ss) w) := by
  have HV := Lib.hid hv; clear hv
  have HVS := Lib.hid hvs; clear hvs
  have HSN := Lib.hid hsn; clear hsn
  have HLN := Lib.hid hln; clear hln
  have H0 := Lib.hid (bel1 w (.cells #[.slice a n c, .slice sa sn sc] 45))
  have F0 := Lib.hid (Bb.made (.slice a n c) (.slice sa sn sc) w 45)
  have HC := Lib.hid (l4Copy_any _ a c h n hn (HV.out.below H0.out) (by omega))
  have HLE := Lib.hid (show ∀ k, (mgA h (ss.take k)).length ≤ 3900 from fun k => by
    have h1 := mgA_len (ss.take k) h
    have h2 := tott_take ss k
    omega)
  clear hn
  go_enter Try.func75, Try.ntmps75
  go_wp2_with fail
  refine HC.out.mono ?_; rintro e w1 ⟨v, rfl, o1, b1⟩
  have ST := Lib.hid (show ∃ v0, v = v0 ∧ OwC w.heap.size w1 v (mgA h (ss.take 0)) ∧ Bb w.heap.size (.slice a n c) (.slice sa sn sc) w1 ∧ Below w.heap.size w w1 from ⟨v, rfl, by rw [List.take_zero]; exact o1.mono H0.out.size, F0.out.next b1, bel_tr H0.out b1 (Nat.le_refl _)⟩)
  clear o1 b1 HC F0 H0
  go_wp2_with fail
  go_loopw [3, 4] (fun q i wr => ∃ k : Nat, k ≤ sn ∧ i = .int .i64 k ∧ OwC w.heap.size wr q (mgA h (ss.take k)) ∧ Bb w.heap.size (.slice a n c) (.slice sa sn sc) wr ∧ Below w.heap.size w wr) (fun _ i _ => sn - intV i)
  case atStart =>
    obtain ⟨v0, -, h1, h2, h3⟩ := ST.out
    exact ⟨0, Nat.zero_le _, rfl, h1, h2, h3⟩
  case round =>
    clear ST
    obtain ⟨k, hk, rfl, ho, hbb, hbel⟩ := hrel
    have HB := Lib.hid hbel; clear hbel
    have HBB := Lib.hid hbb
    have HO := Lib.hid ho
    obtain ⟨va, vc, rfl, hvw, -⟩ := ho.view
    obtain ⟨x0, x1, -, -, -⟩ := hbb
    clear ho
    by_cases hlt : k < sn
    · obtain ⟨t, ht⟩ : ∃ t, ss[k]? = some t := ⟨ss[k]'(by rw [HSN.out]; exact hlt), List.getElem?_eq_getElem _⟩
      obtain ⟨x, g, o, -, rfl, hg, hc, hvl⟩ := HVS.out.at ht
      have hcx : wr.cell? ⟨g, o + k, none⟩ = some (.slice x.a t.length x.c) := (HB.out.cell (p := ⟨g, o + k, none⟩) hg).trans hc
      have htl : t.length ≤ 300 := HLN.out t (List.mem_of_getElem? ht)
      have hml : (mgA h (ss.take k)).length ≤ 3900 := HLE.out k
      have HM := Lib.hid (l5Merge_any wr va x.a vc x.c (mgA h (ss.take k)) t _ _ rfl rfl hvw (hvl.below HB.out) (by omega) (by omega))
      have HSX := Lib.hid (mgT_succ (h := h) ht)
      clear ht hvl hc hg hvw
      generalize (mgA h (ss.take k)).length = ml at *
      generalize t.length = tl at *
      go_wp2_with fail
      refine HM.out.mono ?_; rintro e w4 ⟨v, rfl, o4, b4⟩
      have RR := Lib.hid (show OwC w.heap.size w4 v (mgA h (ss.take (k + 1))) ∧ Bb w.heap.size (.slice a n c) (.slice (some ⟨g, o, none⟩) sn sc) w4 ∧ Below w.heap.size w w4 from ⟨by rw [HSX.out]; exact o4.mono HB.out.size, HBB.out.next b4, bel_tr HB.out b4 (Nat.le_refl _)⟩)
      clear o4 b4 x0 x1 hcx HM
      go_wp2_with fail
      go_roundw
      case rel => exact ⟨k + 1, by omega, by go_num, RR.out.1, RR.out.2.1, RR.out.2.2⟩
      case measure => simp [intV]; omega
    · obtain rfl : k = sn := by omega
      have HE := Lib.hid (show mgA h (ss.take k) = mgA h ss by rw [List.take_of_length_le (Nat.le_of_eq HSN.out)])
      clear hvw
      generalize (mgA h (ss.take k)).length = ml at *
      go_wp2_with fail
      go_ret
      exact ⟨_, rfl, by rw [← HE.out]; exact HO.out, HB.out⟩
set_option maxRecDepth 100000 in
set_option maxHeartbeats 4000000 in
theorem specAll_any (w : World) (a sa : Option Addr) (c sc n sn : Nat) (h : List Cel) (hs : List Hd) (ss : List (List Cel)) (hn : h.length = n) (hsn : ss.length = sn) (hv : Vw w a c h) (hvs : VwS w sa sc hs ss) (hlow : Low h ss) (hmod : Mod h ss) :
    Calls Try.prog 34 #[.agg #[.slice a n c, .slice sa sn sc]] w (AlPost (allP h ss) w) := by
  have HV := Lib.hid hv; clear hv
  have HVS := Lib.hid hvs; clear hvs
  have HLM := Lib.hid (And.intro hlow hmod); clear hlow hmod
  have HN := Lib.hid (And.intro hn hsn); clear hn hsn
  have H0 := Lib.hid (bel1 w (.cells #[.slice a n c, .slice sa sn sc] 45))
  have F0 := Lib.hid (Bb.made (.slice a n c) (.slice sa sn sc) w 45)
  cases hok : okB h ss
  · have HP := Lib.hid (allP_no hok)
    have HB := Lib.hid (barnS_is hok _ a sa c sc n sn hs HN.out.1 HN.out.2 (HV.out.below H0.out) (HVS.out.below H0.out) HLM.out.1 HLM.out.2); clear hok
    go_enter Try.func34, Try.ntmps34
    go_wp2_with fail
    refine HB.out.mono ?_; rintro e w1 ⟨rfl, b1⟩
    have B1 := Lib.hid (bel_tr H0.out b1 (Nat.le_refl _)); clear b1
    go_wp2_with fail
    go_ret
    exact ⟨_, rfl, by rw [HP.out]; exact OwC.start B1.out.size, B1.out.alloc B1.out.size _⟩
  · have HOK := Lib.hid hok
    have hsn5 : sn ≤ 5 := by rw [← HN.out.2]; exact (okB_iff.1 hok).2.1
    obtain ⟨ht1, ht2⟩ := okB_tot hok
    have HB := Lib.hid (barnS_is hok _ a sa c sc n sn hs HN.out.1 HN.out.2 (HV.out.below H0.out) (HVS.out.below H0.out) HLM.out.1 HLM.out.2); clear hok
    go_enter Try.func34, Try.ntmps34
    go_wp2_with fail
    refine HB.out.mono ?_; rintro e w1 ⟨rfl, b1⟩
    have B1 := Lib.hid (bel_tr H0.out b1 (Nat.le_refl _))
    obtain ⟨x0, x1, -, -, -⟩ := F0.out.next b1; clear b1
    have HL := Lib.hid (l6All_any w1 a sa c sc n sn h hs ss HN.out.1 HN.out.2 (HV.out.below B1.out) (HVS.out.below B1.out) (by rw [← HN.out.1]; omega) (by omega) (fun l hl => Nat.le_trans (okL_iff.1 ((okB_iff.1 HOK.out).2.2 l hl).2).2 (by decide)) (by omega))
    go_wp2_with fail
    refine HL.out.mono ?_; rintro e w2 ⟨v, rfl, o2, b2⟩
    have B2 := Lib.hid (bel_tr B1.out b2 (Nat.le_refl _))
    have O2 := Lib.hid (OwC.mono o2 B1.out.size)
    obtain ⟨va, vc, rfl, -, -⟩ := o2.view
    clear o2 b2 x0 x1 HL
    by_cases hbg : 200 < (mgA h ss).length
    · have HP := Lib.hid (allP_big HOK.out hbg)
      have z1 : (200 : Int) < ((mgA h ss).length : Int) := by omega
      generalize (mgA h ss).length = ml at *
      go_wp2_with fail
      go_ret
      exact ⟨_, rfl, by rw [HP.out]; exact OwC.start B2.out.size, B2.out.alloc B2.out.size _⟩
    · have HP := Lib.hid (allP_yes HOK.out hbg)
      have z1 : ¬ (200 : Int) < ((mgA h ss).length : Int) := by omega
      generalize (mgA h ss).length = ml at *
      go_wp2_with fail
      go_ret
      exact ⟨_, rfl, by rw [HP.out]; exact O2.out, B2.out⟩
theorem specAllO {B : Nat} {hv sv : Value} {h : List Cel} {ss : List (List Cel)} (w : World) (o : OwB B w hv sv h ss) (hlow : Low h ss) (hmod : Mod h ss) : Calls Try.prog 34 #[.agg #[hv, sv]] w (AlPost (allP h ss) w) := by
  obtain ⟨a, c, sa, sc, hs, rfl, rfl, h1, h2⟩ := o.view
  exact specAll_any w a sa c sc _ _ h hs ss rfl rfl h1 h2 hlow hmod
end Go.Proofs.Ytkkpokfekbdigaa.Cl
