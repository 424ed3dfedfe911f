/-
  spec.l6Sweep on a store in a block; the contracts of spec.Swept and impl.Swept: 'swH', 'swS', 'swB'.
-/
import Derived.Test.YtcloejmakjdgcaaWi
import Derived.Test.YtcloejmakjdgcaaVa
import Derived.Test.YtcloejmakjdgcaaQc
namespace Go.Proofs.Ytcloejmakjdgcaa.Cl
open Go.RowKit Wd Rp Kp Ra
set_option linter.unusedVariables false
/-- What Swept gives. -/
def swA (ss : List (List Cel)) (k f : Int) : List Cel := thinL k.toNat f (mgA [] ss)
def syB (ss : List (List Cel)) (k f : Int) : Bool := !ss.isEmpty && (thB k f && decide ((swA ss k f).length ≤ 200))
def syS (ss : List (List Cel)) (k f : Int) : List (List Cel) := if syB ss k f then (if (swA ss k f).isEmpty then [] else [swA ss k f]) else ss
def swH (h : List Cel) (ss : List (List Cel)) (k f : Int) : List Cel := if okB h ss then h else []
def swS (h : List Cel) (ss : List (List Cel)) (k f : Int) : List (List Cel) := if okB h ss then syS ss k f else []
def swB (h : List Cel) (ss : List (List Cel)) (k f : Int) : Bool := if okB h ss then syB ss k f else false
theorem sy_no {ss : List (List Cel)} {k f : Int} (h : syB ss k f = false) : syS ss k f = ss := by unfold syS; rw [h]; rfl
theorem sy_empty {ss : List (List Cel)} {k f : Int} (h : ss.length = 0) : syB ss k f = false := by unfold syB; rw [List.length_eq_zero_iff.1 h]; rfl
theorem sy_bad {ss : List (List Cel)} {k f : Int} (h : thB k f = false) : syB ss k f = false := by unfold syB; rw [h]; simp
theorem sy_big {ss : List (List Cel)} {k f : Int} (h : 200 < (swA ss k f).length) : syB ss k f = false := by unfold syB; rw [decide_eq_false (by omega)]; simp
theorem sy_yes {ss : List (List Cel)} {k f : Int} (h0 : ss.length ≠ 0) (h1 : thB k f = true) (h2 : ¬ 200 < (swA ss k f).length) : syB ss k f = true := by
  unfold syB; rw [h1, decide_eq_true (by omega)]
  cases ss with
  | nil => simp at h0
  | cons => rfl
theorem sy_some {ss : List (List Cel)} {k f : Int} (h : syB ss k f = true) (h2 : (swA ss k f).length ≠ 0) : syS ss k f = [swA ss k f] := by
  unfold syS; rw [h]
  cases e : swA ss k f with
  | nil => rw [e] at h2; simp at h2
  | cons => rfl
theorem sy_none {ss : List (List Cel)} {k f : Int} (h : syB ss k f = true) (h2 : (swA ss k f).length = 0) : syS ss k f = [] := by
  unfold syS; rw [h, List.length_eq_zero_iff.1 h2]; rfl
def SyPost (O B : Nat) (hv : Value) (h : List Cel) (ss : List (List Cel)) (kp fm : Int) (w : World) (e : Ending) (w' : World) : Prop := e = .returned (.bool (syB ss kp fm)) ∧ Kept (fun k => k = O) none w w' ∧ ∃ sv, Bb O hv sv w' ∧ OwB B w' hv sv h (syS ss kp fm)
/-- The hand stays where only the block O has turned. -/
theorem OwC.kept {B O : Nat} {w w' : World} {v : Value} {l : List Cel} (o : OwC B w v l) (k : Kept (fun k => k = O) none w w') (hne : ∀ q, v.ownBlock = some q → q ≠ O) : OwC B w' v l := row_next o fun g hg hlt => k.block g hlt (fun e => hne g hg e) (by simp)
theorem sy_end0 {w Z : World} {O B : Nat} {hv sv : Value} {h : List Cel} (o : OwC B w hv h) (hne : ∀ q, hv.ownBlock = some q → q ≠ O) (hb : Below w.heap.size w Z) (hz : Bb O hv sv Z) (hO : O < w.heap.size) (hB : B ≤ w.heap.size) :
    Kept (fun k => k = O) none w ((Z.setCell ⟨O, 1, none⟩ (.slice (some ⟨Z.heap.size, 0, none⟩) 0 0)).alloc (.cells #[] 24)) ∧ Bb O hv (.slice (some ⟨Z.heap.size, 0, none⟩) 0 0) ((Z.setCell ⟨O, 1, none⟩ (.slice (some ⟨Z.heap.size, 0, none⟩) 0 0)).alloc (.cells #[] 24)) ∧
    RowS w.heap.size ((Z.setCell ⟨O, 1, none⟩ (.slice (some ⟨Z.heap.size, 0, none⟩) 0 0)).alloc (.cells #[] 24)) (.slice (some ⟨Z.heap.size, 0, none⟩) 0 0) [] := by
  have hzs : (Z.setCell ⟨O, 1, none⟩ (.slice (some ⟨Z.heap.size, 0, none⟩) 0 0)).heap.size = Z.heap.size := World.size_setCell _ _ _
  refine ⟨(Kept.of_below hb).trans ((Kept.set (F := fun k => k = O) (g := none) (w := Z) (p := ⟨O, 1, none⟩) rfl (.slice (some ⟨Z.heap.size, 0, none⟩) 0 0)).trans (Kept.of_below (bel1 _ _))), (hz.set1 _).next (bel1 _ _), ?_⟩
  have := RowS.start (B := w.heap.size) (w := Z.setCell ⟨O, 1, none⟩ (.slice (some ⟨Z.heap.size, 0, none⟩) 0 0)) (by rw [hzs]; exact hb.size)
  rw [hzs] at this
  exact this
theorem kept_grown {F : Nat → Prop} {g : Option Nat} {w x y : World} {row : Option Nat} (h : Kept F g w x) (hg : x.grownBy y row) (hr : ∀ k, row = some k → w.heap.size ≤ k) : Kept F g w y := by
  have key : ∀ k, k < w.heap.size → y.heap[k]? = x.heap[k]? := fun k hk => hg.block k (Nat.lt_of_lt_of_le hk h.size) (fun e => by have := hr k e.symm; omega)
  exact ⟨hg.os.trans h.os, hg.tape.trans h.tape, hg.output.trans h.output, Nat.le_trans h.size hg.size, fun k hk hf hne => (key k hk).trans (h.block k hk hf hne), fun k o hk ho hf => (key k (Array.getElem?_eq_some_iff.1 hk).1).trans (h.other k o hk ho hf)⟩
theorem sy_end1 {w Z w6 : World} {O B : Nat} {hv sv v5 v6 : Value} {h t : List Cel} (o : OwC B w hv h) (hne : ∀ q, hv.ownBlock = some q → q ≠ O) (hb : Below w.heap.size w Z) (hz : Bb O hv sv Z) (hO : O < w.heap.size) (hB : B ≤ w.heap.size) (ot : OwC w.heap.size Z v5 t)
    (g6 : (((Z.setCell ⟨O, 1, none⟩ (.slice (some ⟨Z.heap.size, 0, none⟩) 0 0)).alloc (.cells #[] 24)).alloc (.cells #[v5] 24)).grownBy w6 (some Z.heap.size)) (r6 : RowS w.heap.size w6 v6 [v5]) :
    Bb O hv (.slice (some ⟨Z.heap.size, 0, none⟩) 0 0) w6 ∧ Kept (fun k => k = O) none w (w6.setCell ⟨O, 1, none⟩ v6) ∧ Bb O hv v6 (w6.setCell ⟨O, 1, none⟩ v6) ∧ OwB B (w6.setCell ⟨O, 1, none⟩ v6) hv v6 h [t] := by
  obtain ⟨k0, d0, -⟩ := sy_end0 o hne hb hz hO hB
  have b1 := bel1 ((Z.setCell ⟨O, 1, none⟩ (.slice (some ⟨Z.heap.size, 0, none⟩) 0 0)).alloc (.cells #[] 24)) (.cells #[v5] 24)
  have hzs : (Z.setCell ⟨O, 1, none⟩ (.slice (some ⟨Z.heap.size, 0, none⟩) 0 0)).heap.size = Z.heap.size := World.size_setCell _ _ _
  have hwz := hb.size
  have d1 := d0.next b1
  have d6 : Bb O hv (.slice (some ⟨Z.heap.size, 0, none⟩) 0 0) w6 := d1.same' (g6.block O d1.2.2.2.2 (fun e => by cases e; omega))
  have k6 : Kept (fun k => k = O) none w w6 := kept_grown (k0.trans (Kept.of_below b1)) g6 (fun k hk => by cases hk; exact hwz)
  have k7 := k6.trans (Kept.set (F := fun k => k = O) (g := none) (w := w6) (p := ⟨O, 1, none⟩) rfl v6)
  have o5 : OwC w.heap.size (w6.setCell ⟨O, 1, none⟩ v6) v5 t := (((((ot.put (p := ⟨O, 1, none⟩) hO _).next (bel1 _ _)).next b1).grown g6 (fun k hk e => by have := OwC.low ot k hk; cases e; omega))).put (p := ⟨O, 1, none⟩) hO _
  refine ⟨d6, k7, d6.set1 _, OwB.mk (o.kept k7 hne) ((r6.put (p := ⟨O, 1, none⟩) hO _).mono hB) ⟨rfl, fun j u l h1 h2 => ?_, List.pairwise_singleton _ _⟩ (fun x hx k hk e => ?_)⟩
  · cases j with
    | zero =>
      obtain rfl : v5 = u := by simpa using h1
      obtain rfl : t = l := by simpa using h2
      exact o5.mono hB
    | succ j => simp at h1
  · rw [List.mem_singleton.1 hx] at e
    have a1 := OwC.lt o5 k e
    have a2 := OwC.low o k hk
    omega
set_option maxRecDepth 100000 in
set_option maxHeartbeats 8000000 in
theorem l6Sweep_any (w : World) (O B T : Nat) {hv sv : Value} {h : List Cel} {ss : List (List Cel)} (kp fm : Int) (hb : Bb O hv sv w) (ot : OwT B T w hv sv h ss) (hd : O < B ∨ T ≤ O) (hB : B ≤ w.heap.size) (hok : okB h ss = true) :
    Calls Try.prog 99 #[.pointer (some ⟨O, 0, none⟩), .int .i64 kp, .int .i64 fm] w (SyPost O B hv h ss kp fm w) := by
  have hsn5 := (okB_iff.1 hok).2.1
  have htt := (okB_tot hok).2
  have HLN := Lib.hid (fun l hl => (okL_iff.1 ((okB_iff.1 hok).2.2 l hl).2).2)
  have HSR := Lib.hid (okB_srt hok).2
  have HO := Lib.hid ot.own
  have HNE := Lib.hid (show ∀ q, hv.ownBlock = some q → q ≠ O from fun k hk e => by
    obtain ⟨us, -, hlo, htop⟩ := id ot
    have a1 := (hlo.low hv List.mem_cons_self k hk).1
    have a2 := htop hv (by simp) k hk
    omega)
  have HHD := Lib.hid ot.own.hand
  obtain ⟨ha, hc, sa, sc, hs, rfl, rfl, -, hvs⟩ := ot.own.view
  have HVS := Lib.hid hvs; clear hvs ot
  have HBB := Lib.hid hb; clear hb hok hd
  have hOw : O < w.heap.size := HBB.out.2.2.2.2
  have HLE := Lib.hid (show ∀ k, (mgA [] (ss.take k)).length ≤ 1200 from fun k => by
    have h1 := mgA_len (ss.take k) []
    have h2 := tott_take ss k
    simp at h1
    omega)
  obtain ⟨sn, esn⟩ : ∃ n, ss.length = n := ⟨_, rfl⟩
  rw [esn] at HO HBB hsn5
  have HSN := Lib.hid esn; clear esn
  generalize h.length = hn at *
  have hself : (!false) = true := rfl
  by_cases h0 : sn = 0
  · subst h0
    have HY := Lib.hid (sy_empty (k := kp) (f := fm) HSN.out)
    obtain ⟨b0, b1, b2, b3, -⟩ := id HBB.out
    go_enter Try.func99, Try.ntmps99
    go_wp2_with fail
    go_ret
    exact ⟨by rw [HY.out] <;> rfl, Kept.refl _ _ _, _, HBB.out, by rw [sy_no HY.out]; exact HO.out⟩
  have q0 : ¬ ((sn : Int) = 0) := by omega
  have q0' : ((sn : Int) == 0) = false := by simp [h0]
  cases hk : inB kp 1 9
  · have HY := Lib.hid (sy_bad (ss := ss) (k := kp) (f := fm) (by unfold thB; unfold inB at hk; rw [← Bool.and_assoc, hk]; rfl))
    have HC := Lib.hid (l1In_is hk); clear hk
    obtain ⟨b0, b1, b2, b3, -⟩ := id HBB.out
    go_enter Try.func99, Try.ntmps99
    go_wp2_with fail
    refine (HC.out _).mono ?_; rintro e _ ⟨rfl, rfl⟩
    go_wp2_with fail
    go_ret
    exact ⟨by rw [HY.out] <;> rfl, Kept.refl _ _ _, _, HBB.out, by rw [sy_no HY.out]; exact HO.out⟩
  have HC := Lib.hid (l1In_is hk)
  cases hf : inB fm 0 1000000
  · have HY := Lib.hid (sy_bad (ss := ss) (k := kp) (f := fm) (by unfold thB; unfold inB at hf; rw [hf]; simp))
    have HD := Lib.hid (timeB_is hf); clear hk hf
    obtain ⟨b0, b1, b2, b3, -⟩ := id HBB.out
    go_enter Try.func99, Try.ntmps99
    go_wp2_with fail
    refine (HC.out _).mono ?_; rintro e _ ⟨rfl, rfl⟩
    go_wp2_with fail
    refine (HD.out _).mono ?_; rintro e _ ⟨rfl, rfl⟩
    go_wp2_with fail
    go_ret
    exact ⟨by rw [HY.out] <;> rfl, Kept.refl _ _ _, _, HBB.out, by rw [sy_no HY.out]; exact HO.out⟩
  have HD := Lib.hid (timeB_is hf)
  have hthB : thB kp fm = true := by unfold thB; unfold inB at hk hf; rw [← Bool.and_assoc, hk, hf]; rfl
  have HTB := Lib.hid hthB
  obtain ⟨p1, p2, -, -⟩ := thB_iff.1 hthB
  obtain ⟨K, rfl⟩ : ∃ K : Nat, kp = (K : Int) := ⟨kp.toNat, by omega⟩
  clear hk hf hthB
  have HSA := Lib.hid (show swA ss (K : Int) fm = thinL K fm (mgA [] ss) by unfold swA; rw [Int.toNat_natCast])
  have ST := Lib.hid (show OwC w.heap.size (w.alloc (.cells #[] 33)) (.slice (some ⟨w.heap.size, 0, none⟩) 0 0) (mgA [] (ss.take 0)) ∧ Below w.heap.size w (w.alloc (.cells #[] 33)) from ⟨by rw [List.take_zero]; exact OwC.start (Nat.le_refl _), bel1 _ _⟩)
  obtain ⟨b0, b1, b2, b3, -⟩ := id HBB.out
  go_enter Try.func99, Try.ntmps99
  go_wp2_with fail
  refine (HC.out _).mono ?_; rintro e _ ⟨rfl, rfl⟩
  go_wp2_with fail
  refine (HD.out _).mono ?_; rintro e _ ⟨rfl, rfl⟩
  clear HC HD
  go_wp2_with fail
  go_loopw [7, 8] (fun q i wr => ∃ k : Nat, k ≤ sn ∧ i = .int .i64 k ∧ OwC w.heap.size wr q (mgA [] (ss.take k)) ∧ Below w.heap.size w wr) (fun _ i _ => sn - intV i)
  case atStart => exact ⟨0, Nat.zero_le _, rfl, ST.out.1, ST.out.2⟩
  case round =>
    clear ST b0 b1 b2 b3
    obtain ⟨k, hk, rfl, ho, hbel⟩ := hrel
    have HB := Lib.hid hbel
    have HO2 := Lib.hid ho
    obtain ⟨va, vc, rfl, hvw, -⟩ := ho.view
    obtain ⟨b0, b1, b2, b3, -⟩ := HBB.out.next hbel
    clear ho hbel
    by_cases hlt : k < sn
    · obtain ⟨t, ht⟩ : ∃ t, ss[k]? = some t := ⟨ss[k]'(by rw [HSN.out]; exact hlt), List.getElem?_eq_getElem _⟩
      obtain ⟨x, g, o, -, rfl, hg, hc', hvl⟩ := HVS.out.at ht
      have hcx : wr.cell? ⟨g, o + k, none⟩ = some (.slice x.a t.length x.c) := (HB.out.cell (p := ⟨g, o + k, none⟩) hg).trans hc'
      have htl : t.length ≤ 200 := HLN.out t (List.mem_of_getElem? ht)
      have hml : (mgA [] (ss.take k)).length ≤ 1200 := HLE.out k
      have HM := Lib.hid (l5Merge_any wr va x.a vc x.c (mgA [] (ss.take k)) t _ _ rfl rfl hvw (hvl.below HB.out) (by omega) (by omega))
      have HSX := Lib.hid (mgT_succ (h := []) ht)
      clear ht hvl hc' hg hvw
      generalize (mgA [] (ss.take k)).length = ml at *
      generalize t.length = tl at *
      go_wp2_with fail
      refine HM.out.mono ?_; rintro e w4 ⟨v, rfl, o4, b4⟩
      have RR := Lib.hid (show OwC w.heap.size w4 v (mgA [] (ss.take (k + 1))) ∧ Below w.heap.size w w4 from ⟨by rw [HSX.out]; exact o4.mono HB.out.size, bel_tr HB.out b4 (Nat.le_refl _)⟩)
      clear o4 b4 b0 b1 b2 b3 hcx HM
      go_wp2_with fail
      go_roundw
      case rel => exact ⟨k + 1, by omega, by go_num, RR.out.1, RR.out.2⟩
      case measure => simp [intV]; omega
    · obtain rfl : k = sn := by omega
      have HE := Lib.hid (show mgA [] (ss.take k) = mgA [] ss by rw [List.take_of_length_le (Nat.le_of_eq HSN.out)])
      have HTH := Lib.hid (l5Thin_any wr va vc (mgA [] (ss.take k)) _ K fm rfl hvw (by have := HLE.out k; omega) (by omega) (by omega) (mgA_srt (ss.take k) [] List.Pairwise.nil (fun l hl => HSR.out l (List.mem_of_mem_take hl))))
      rw [HE.out] at HTH
      clear hvw
      rw [HE.out] at HO2 ⊢
      generalize (mgA [] ss).length = ml at *
      go_wp2_with fail
      refine HTH.out.mono ?_; rintro e w5 ⟨v, rfl, o5, b5⟩
      rw [← HSA.out] at o5
      have B5 := Lib.hid (bel_tr HB.out b5 (Nat.le_refl _))
      have O5 := Lib.hid (OwC.mono o5 HB.out.size)
      have D5 := Lib.hid (HBB.out.next B5.out)
      have EE := Lib.hid (sy_end0 HHD.out HNE.out B5.out D5.out hOw hB)
      obtain ⟨ta, tc, rfl, -, -⟩ := o5.view
      clear o5 b5 HTH b0 b1 b2 b3
      by_cases hbg : 200 < (swA ss (K : Int) fm).length
      · have HY := Lib.hid (sy_big hbg)
        have z1 : (200 : Int) < ((swA ss (K : Int) fm).length : Int) := by omega
        generalize (swA ss (K : Int) fm).length = al at *
        go_wp2_with fail
        go_ret
        exact ⟨by rw [HY.out] <;> rfl, Kept.of_below B5.out, _, D5.out, by rw [sy_no HY.out]; exact HO.out.next B5.out⟩
      have HY := Lib.hid (sy_yes (by rw [HSN.out]; exact h0) HTB.out hbg)
      have z1 : ¬ (200 : Int) < ((swA ss (K : Int) fm).length : Int) := by omega
      by_cases hz : (swA ss (K : Int) fm).length = 0
      · have HS := Lib.hid (sy_none HY.out hz)
        have z2 : ¬ (0 : Int) < ((swA ss (K : Int) fm).length : Int) := by omega
        have OO := Lib.hid (OwB.mk (HHD.out.kept EE.out.1 HNE.out) (EE.out.2.2.mono hB) (show OwL B _ [] [] from ⟨rfl, fun j u l h1 => by simp at h1, List.Pairwise.nil⟩) (fun x hx => by cases hx))
        generalize (swA ss (K : Int) fm).length = al at *
        obtain ⟨b0, b1, b2, b3, b4⟩ := id D5.out
        go_wp2_with fail
        go_ret
        exact ⟨by rw [HY.out] <;> rfl, EE.out.1, _, EE.out.2.1, by rw [HS.out]; exact OO.out⟩
      · have HS := Lib.hid (sy_some HY.out hz)
        have z2 : (0 : Int) < ((swA ss (K : Int) fm).length : Int) := by omega
        have hsz5 : ((w5.setCell ⟨O, 1, none⟩ (.slice (some ⟨w5.heap.size, 0, none⟩) 0 0)).alloc (.cells #[] 24)).heap.size = w5.heap.size + 1 := by simp [World.size_setCell]
        obtain ⟨v6, w6, hr6, r6, g6, -⟩ := run_append_row (w := ((w5.setCell ⟨O, 1, none⟩ (.slice (some ⟨w5.heap.size, 0, none⟩) 0 0)).alloc (.cells #[] 24)).alloc (.cells #[.slice ta (swA ss (K : Int) fm).length tc] 24)) 36 (EE.out.2.2.next (bel1 _ _)) ⟨ta, _, tc, rfl⟩ (by simp) (by have := B5.out.size; rw [World.size_alloc, hsz5]; omega) ⟨w5.heap.size + 1, 0, none⟩ (by have := cell_lit ((w5.setCell ⟨O, 1, none⟩ (.slice (some ⟨w5.heap.size, 0, none⟩) 0 0)).alloc (.cells #[] 24)) (.slice ta (swA ss (K : Int) fm).length tc) 24; rwa [hsz5] at this)
        have E1 := Lib.hid (sy_end1 HHD.out HNE.out B5.out D5.out hOw hB O5.out g6 r6)
        obtain ⟨v6a, v6c, e6, -, -, -, -⟩ := r6.form
        subst e6
        generalize ([] ++ [Value.slice ta (swA ss (K : Int) fm).length tc]).length = v6n at *
        generalize (swA ss (K : Int) fm).length = al at *
        obtain ⟨b0, b1, b2, b3, b4⟩ := id D5.out
        obtain ⟨e0, e1, e2, e3, e4⟩ := id EE.out.2.1
        obtain ⟨f0, f1, f2, f3, f4⟩ := id E1.out.1
        clear r6 g6
        go_wp2_with (at_builtin; refine Lib.wpList_append_run _ rfl _ _ _ _ rfl _ _ rfl rfl _ _ hr6 ?_)
        go_ret
        exact ⟨by rw [HY.out] <;> rfl, E1.out.2.1, _, E1.out.2.2.1, by rw [HS.out]; exact E1.out.2.2.2⟩
end Go.Proofs.Ytcloejmakjdgcaa.Cl
