/-
  The contract of impl.mergedShelves: every cell of the lists, of one key the first list's, sorted.
-/
import Derived.Test.YtopcjiaakefmeaaPg
import Derived.Deep.LoopGhost
import Derived.IntWalk
import Derived.Test.YtopcjiaakefmeaaCq
namespace Go.Proofs.Ytopcjiaakefmeaa.Cl
open Go.RowKit Wd Rp Kp
set_option linter.unusedVariables false
def tot (l : List Pile) : Nat := (l.map fun p => p.c.length).sum
theorem tot_cons (p : Pile) (l : List Pile) : tot (p :: l) = p.c.length + tot l := by simp [tot]
theorem tot_perm {l m : List Pile} (h : List.Perm l m) : tot l = tot m := by
  induction h with
  | nil => rfl
  | cons x _ ih => rw [tot_cons, tot_cons, ih]
  | swap x y l => rw [tot_cons, tot_cons, tot_cons, tot_cons]; omega
  | trans _ _ h1 h2 => exact h1.trans h2
theorem tot_rest {t : Pile} {tc : List Cel} {a : Option Addr} {cap : Nat} {r : List Pile} : tot (rest t tc a cap r) = tc.length + tot r := by
  unfold rest; split
  · rename_i e; rw [e]; simp
  · rw [tot_cons]
/-- Those that hold something. -/
def full (l : List Pile) : List Pile := l.filter fun p => !p.c.isEmpty
theorem full_app (l m : List Pile) : full (l ++ m) = full l ++ full m := List.filter_append ..
theorem full_mem {l : List Pile} {p : Pile} : p ∈ full l ↔ p ∈ l ∧ p.c ≠ [] := by unfold full; rw [List.mem_filter]; simp
theorem full_tot (l : List Pile) : tot (full l) = tot l := by
  induction l with
  | nil => rfl
  | cons p l ih =>
    unfold full at *
    rw [List.filter_cons, tot_cons]
    split
    · rw [tot_cons, ih]
    · rename_i e; rw [ih]
      have : p.c = [] := by simpa using e
      rw [this]; simp
theorem full_fst (l : List Pile) (c : Cel) : Fst (full l) c ↔ Fst l c := by
  unfold Fst
  constructor
  · rintro ⟨p, hp, hc, h⟩
    refine ⟨p, (full_mem.1 hp).1, hc, fun q hq hk d hd => ?_⟩
    exact h q (full_mem.2 ⟨hq, fun e => by rw [e] at hd; cases hd⟩) hk d hd
  · rintro ⟨p, hp, hc, h⟩
    exact ⟨p, full_mem.2 ⟨hp, fun e => by rw [e] at hc; cases hc⟩, hc, fun q hq => h q (full_mem.1 hq).1⟩
/-- The lists as they are handed over: their headers in a row, each a valid slice, ranks in order. -/
def Args (w : World) (gs os : Nat) (ps : List Pile) : Prop := gs < w.heap.size ∧ ∀ i p, ps[i]? = some p → w.cell? ⟨gs, os + i, none⟩ = some (.slice p.a p.c.length p.cap) ∧ p.k = i ∧ (∀ c ∈ p.c, c.ok = true) ∧ Srt p.c ∧ Vw w p.a p.cap p.c
theorem Args.vb {w : World} {gs os : Nat} {ps : List Pile} (h : Args w gs os ps) {i : Nat} {p : Pile} (hp : ps[i]? = some p) (hne : p.c ≠ []) : Vb w.heap.size w p.a p.cap p.c := by
  obtain ⟨-, -, -, -, hv⟩ := h.2 i p hp
  refine ⟨hv, fun q hq => ?_⟩
  obtain ⟨c, r, hc⟩ := List.exists_cons_of_ne_nil hne
  obtain ⟨g, o, e, hg, -⟩ := hv.2.2.2 0 c (by rw [hc]; rfl)
  rw [hq] at e
  obtain rfl := Option.some.inj e
  exact hg
/-- What mergedShelves gives. -/
def MergedPost (ps : List Pile) (w : World) (e : Ending) (w' : World) : Prop := ∃ v m, e = .returned v ∧ OwC w.heap.size w' v m ∧ Srt m ∧ (∀ c, c ∈ m ↔ Fst ps c) ∧ Below w.heap.size w w' ∧ m.length ≤ tot ps
/-- While the piles are pushed. -/
def Pushing (w : World) (b : Nat) (ps : List Pile) (i : Nat) (wr : World) : Prop :=
  ∃ (l : List Pile) (v : Value), List.Perm l (full (ps.take i)) ∧ Hp.Heap Pile.lt l l.length ∧ wr.cell? ⟨b, 0, none⟩ = some v ∧ wr.frozen? ⟨b, 0, none⟩ = false ∧ OwP (b + 1) wr v l ∧ PilesOk b wr l ∧ b < wr.heap.size ∧ Below b w wr
theorem take_snocP {ps : List Pile} {i : Nat} {p : Pile} (h : ps[i]? = some p) : ps.take (i + 1) = ps.take i ++ [p] := by
  rw [List.take_succ_eq_append_getElem (List.getElem?_eq_some_iff.1 h).1]
  congr 2
  rw [List.getElem?_eq_getElem (List.getElem?_eq_some_iff.1 h).1] at h
  exact Option.some.inj h
/-- While they are merged. -/
def Merging (w : World) (b C TT : Nat) (ps : List Pile) (k : Nat) (s : Value) (wr : World) : Prop :=
  ∃ (l : List Pile) (m : List Cel) (v : Value), wr.cell? ⟨b, 0, none⟩ = some v ∧ wr.frozen? ⟨b, 0, none⟩ = false ∧ OwP (b + 1) wr v l ∧ PilesOk b wr l ∧ Hp.Heap Pile.lt l l.length ∧ Mid (Fst ps) l m ∧ OwC C wr s m ∧ (∀ q, v.ownBlock = some q → q < C) ∧ m.length + tot l ≤ TT ∧ tot l ≤ k ∧ l.length ≤ 4194304 ∧ Below b w wr ∧ C ≤ wr.heap.size ∧ b < C
theorem OwP.form {B : Nat} {w : World} {v : Value} {l : List Pile} (h : OwP B w v l) : ∃ a cap, v = .slice a l.length cap ∧ (l ≠ [] → ∃ g, a = some ⟨g, 0, none⟩ ∧ RowP B w g cap l) := by
  obtain ⟨h1, h2⟩ := id h
  rcases h2 with ⟨rfl, hn⟩ | ⟨g, cap, cur, rfl, _⟩
  · exact ⟨none, 0, by rw [hn], fun hl => absurd (List.length_eq_zero_iff.1 hn) hl⟩
  · exact ⟨_, cap, rfl, fun _ => ⟨g, rfl, h⟩⟩
theorem heap_min {t : Pile} {r : List Pile} (h : Hp.Heap Pile.lt (t :: r) (t :: r).length) : ∀ p ∈ r, p.lt t = false := fun p hp => by
  obtain ⟨j, hj⟩ := List.mem_iff_getElem?.1 hp
  exact h.least lt_ord (Nat.le_refl _) (t := t) rfl (lt_irr t) (j + 1) p (by have := (List.getElem?_eq_some_iff.1 hj).1; simp; omega) (by simpa using hj)
theorem rest_len (t : Pile) (tc : List Cel) (a : Option Addr) (cap : Nat) (r : List Pile) : (rest t tc a cap r).length ≤ (t :: r).length := by
  unfold rest; split <;> simp
theorem Merging.mk {w wr w2 w5 : World} {b g cap C TT k : Nat} {ps l2 r : List Pile} {t : Pile} {c0 : Cel} {tc : List Cel} {a2 : Option Addr} {ca2 : Nat} {m m5 : List Cel} {v5 : Value}
    (hbel : Below b w wr) (o2 : Onl b g wr w2) (s2 : Hs b b w2 g cap l2) (hb5 : Below C w2 w5) (hp2 : Hp.Heap Pile.lt l2 l2.length) (hX : Mid (Fst ps) (rest t tc a2 ca2 r) m5) (p2 : List.Perm l2 (rest t tc a2 ca2 r)) (ho5 : OwC C w5 v5 m5)
    (hgC : g < C) (hbC : b < C) (hC : C ≤ w2.heap.size) (ht : t.c = c0 :: tc) (hlen : m5.length ≤ m.length + 1) (htt : m.length + tot (t :: r) ≤ TT) (htk : tot (t :: r) ≤ k) (hl4 : (t :: r).length ≤ 4194304) (hbw : b ≤ wr.heap.size) : Merging w b C TT ps (k - 1) v5 w5 := by
  have hg := s2.2.2.1.base
  have h5 := s2.bel hb5 hbC hgC (Nat.le_of_lt hbC)
  have e1 : tot l2 = tc.length + tot r := by rw [tot_perm p2, tot_rest]
  have e2 : tot (t :: r) = tc.length + 1 + tot r := by rw [tot_cons, ht]; simp
  have e3 : l2.length ≤ (t :: r).length := by rw [p2.length_eq]; exact rest_len _ _ _ _ _
  refine ⟨l2, m5, _, h5.1, h5.2.1, h5.2.2.1, h5.2.2.2.1, hp2, hX.perm p2, ho5, fun q hq => ?_, by omega, by omega, by omega, ?_, Nat.le_trans hC hb5.size, hbC⟩
  · obtain rfl : g = q := by simpa [Value.ownBlock] using hq
    exact hgC
  · exact (hbel.trans (o2.below (Nat.le_refl _) (by omega) hbw)).trans (hb5.mono (Nat.le_of_lt hbC))
set_option maxHeartbeats 8000000 in
set_option maxRecDepth 100000 in
theorem mergedShelves_any (w : World) (gs os cp : Nat) (ps : List Pile) (n : Nat) (hn : ps.length = n) (hn2 : n ≤ 1000) (ht : tot ps ≤ 1000000) (ha : Args w gs os ps) :
    Calls Try.prog 82 #[.slice (some ⟨gs, os, none⟩) n cp] w (MergedPost ps w) := by
  have HA := Lib.hid ha; clear ha
  have HNL := Lib.hid hn; clear hn
  have HT := Lib.hid ht; clear ht
  have HST := Lib.hid (show Pushing w w.heap.size ps 0 (w.alloc (.cells #[.slice none 0 0] 137)) from by
    refine ⟨[], .slice none 0 0, List.Perm.refl _, Hp.Heap.nothing _ _, ?_, ?_, World.ownsRow_nil _ _ _ _, (fun p hp => by cases hp), by simp, bel1 _ _⟩
    · have hp : (w.alloc (.cells #[.slice none 0 0] 137)).heap[w.heap.size]? = some (.cells #[.slice none 0 0] 137) := by show (w.heap.push _)[w.heap.size]? = _; simp
      simp only [World.cell?, hp]; rfl
    · have hp : (w.alloc (.cells #[.slice none 0 0] 137)).heap[w.heap.size]? = some (.cells #[.slice none 0 0] 137) := by show (w.heap.push _)[w.heap.size]? = _; simp
      simp only [World.frozen?, hp]; rfl)
  have HBB := Lib.hid (Nat.le_refl w.heap.size)
  go_enter Try.func82, Try.ntmps82
  go_wp2_with fail
  generalize hb : w.heap.size = b at *
  have HB := Lib.hid hb; clear hb
  have hgs : gs < b := by rw [← HB.out]; exact HA.out.1
  go_loopw [10] (fun x wr => ∃ i : Nat, x = .int .i64 (i : Int) ∧ i ≤ n ∧ Pushing w b ps i wr) (fun x _ => n - intV x)
  case atStart => exact ⟨0, rfl, Nat.zero_le _, HST.out⟩
  case round =>
    clear HST
    obtain ⟨i, rfl, hi, hpu⟩ := hrel
    by_cases hlt : i < n
    · obtain ⟨p, hp⟩ : ∃ p, ps[i]? = some p := ⟨ps[i]'(by rw [HNL.out]; exact hlt), List.getElem?_eq_getElem _⟩
      obtain ⟨hcell, hk, hok, hsrt, hvw⟩ := HA.out.2 i p hp
      obtain ⟨l, v, pl, hh, hc, hf, ho, hpo, hbl, hbel⟩ := hpu
      have c1 := (hbel.cell (p := ⟨gs, os + i, none⟩) hgs).trans hcell
      have i1 : (i : Int) < (n : Int) := by omega
      have i2 : (0 : Int) ≤ (i : Int) := by omega
      have i3 : (i : Int) ≤ 1000 := by omega
      have HTS := Lib.hid (take_snocP hp)
      have HP := Lib.hid hp
      have HL := Lib.hid pl
      have hll : l.length ≤ 1000 := by
        rw [pl.length_eq]; unfold full
        have := List.length_filter_le (fun p : Pile => !p.c.isEmpty) (ps.take i)
        rw [List.length_take, HNL.out] at this; omega
      have hplen : p.c.length ≤ 1000000 := by
        have h1 : p ∈ ps := List.mem_of_getElem? hp
        have h2 : p.c.length ≤ tot ps := by
          obtain ⟨s, t, rfl⟩ := List.append_of_mem h1
          simp [tot]; omega
        have := HT.out; omega
      by_cases hne : p.c = []
      · have hz : p.c.length = 0 := by rw [hne]; rfl
        rw [hz] at c1
        have HF := Lib.hid (show full (ps.take (i + 1)) = full (ps.take i) by rw [HTS.out, full_app]; unfold full; simp [hne])
        have HREST := Lib.hid (show Pushing w b ps (i + 1) wr from ⟨l, v, by rw [HF.out]; exact pl, hh, hc, hf, ho, hpo, hbl, hbel⟩)
        clear hcell hk hok hsrt hvw pl hh hc hf ho hpo hbel hp hne hz
        go_wp2_with fail
        go_roundw
        case rel => exact ⟨i + 1, by go_num, by omega, HREST.out⟩
        case measure => simp [intV]; omega
      · have hpos : 0 < p.c.length := List.length_pos_iff.2 hne
        have hpp : PilesOk b wr (l ++ [p]) := fun q hq => by
          rcases List.mem_append.1 hq with hq | hq
          · exact hpo q hq
          · rw [List.mem_singleton] at hq; subst hq
            have := HA.out.vb hp hne
            rw [HB.out] at this
            exact ⟨hne, hok, by omega, by rw [hk]; omega, this.low hbel.size (fun k hk => hbel.block k hk)⟩
        have hpush := hpush_any wr b b v l p hc hf ho hbl (Nat.le_refl _) (by omega) hpp hh
        rw [hk] at hpush
        have HPU := Lib.hid hpush
        have HF := Lib.hid (show full (ps.take (i + 1)) = full (ps.take i) ++ [p] by rw [HTS.out, full_app]; unfold full; simp [hne])
        have HBE := Lib.hid hbel
        clear hcell hk hok hsrt hvw hh hc hf ho hpo hbel hp hne hpush hpp pl
        generalize p.c.length = pn at *
        have j1 : (0 : Int) < (pn : Int) := by omega
        have j2 : (pn : Int) ≤ 1000000 := by omega
        go_wp2_with fail
        refine HPU.out.mono ?_; rintro e w2 ⟨g2, cap2, m2, rfl, p2, hp2, s2, b2⟩
        have HREST := Lib.hid (show Pushing w b ps (i + 1) w2 from ⟨m2, _, by rw [HF.out]; exact p2.trans (HL.out.append_right _), hp2, s2.1, s2.2.1, s2.2.2.1, s2.2.2.2.1, s2.2.2.2.2.2, HBE.out.trans b2⟩)
        clear p2 hp2 s2 b2 c1
        go_wp2_with fail
        go_roundw
        case rel => exact ⟨i + 1, by go_num, by omega, HREST.out⟩
        case measure => simp [intV]; omega
    · obtain rfl : i = n := by omega
      have HPUSH := Lib.hid hpu; clear hpu
      go_wp2_with fail
      obtain ⟨l0, v0, pl, hh, hc, hf, ho, hpo, hbl, hbel⟩ := HPUSH.out
      have htk : ps.take i = ps := List.take_of_length_le (by rw [HNL.out]; exact Nat.le_refl _)
      rw [htk] at pl
      have hgood : Good l0 := by
        refine Good.perm ⟨fun p hp => ?_, ?_⟩ pl
        · obtain ⟨hp1, hp2⟩ := full_mem.1 hp
          obtain ⟨j, hj⟩ := List.mem_iff_getElem?.1 hp1
          exact ⟨hp2, (HA.out.2 j p hj).2.2.2.1⟩
        · have hnd : (ps.map Pile.k).Nodup := by
            rw [List.Nodup, List.pairwise_iff_getElem]
            intro x y hx hy hxy
            rw [List.length_map] at hx hy
            rw [List.getElem_map, List.getElem_map, (HA.out.2 x ps[x] (List.getElem?_eq_getElem hx)).2.1, (HA.out.2 y ps[y] (List.getElem?_eq_getElem hy)).2.1]
            omega
          exact hnd.sublist (List.Sublist.map _ List.filter_sublist)
      have hl0 : l0.length ≤ 4194304 := by
        rw [pl.length_eq]
        have : (full ps).length ≤ ps.length := List.length_filter_le _ _
        rw [HNL.out] at this; omega
      have htl : tot l0 = tot ps := by rw [tot_perm pl, full_tot]
      have HST := Lib.hid (show Merging w b wr.heap.size (tot ps) ps (tot ps) (.slice none 0 0) wr from
        ⟨l0, [], v0, hc, hf, ho, hpo, hh, Mid.start hgood (fun c => by rw [Fst.perm pl, full_fst]), OwC.nothing _ _, (fun q hq => (World.ownsRow.lt ho q hq).2), by simp [htl], by omega, hl0, hbel, Nat.le_refl _, hbl⟩)
      clear hgood hl0 htl pl hh hc hf ho hpo hbel HPUSH
      generalize wr.heap.size = C at HST hbl
      go_loopg [6, 7] (tot ps) (fun k s6 s7 wr => Merging w b C (tot ps) ps k s6 wr)
      case atStart => exact HST.out
      case round =>
        clear HST
        obtain ⟨l, m, v, hc, hf, ho, hpo, hh, hmid, hom, hvb, htt, htk, hl4, hbel, hC, hbC⟩ := hrel
        obtain ⟨va, vc, rfl, hform⟩ := ho.form
        cases l with
        | nil =>
          have HF := Lib.hid hmid.fin
          have HOM := Lib.hid hom
          have HBE := Lib.hid hbel
          have HTL := Lib.hid htt
          clear hf ho hpo hh hmid hom hvb hbel hform htt
          go_wp2_with fail
          refine (lenP_any _ _ _ _).mono ?_; rintro e w' ⟨rfl, rfl⟩
          go_wp2_with fail
          go_ret
          exact ⟨_, m, rfl, HOM.out.mono (by rw [HB.out]; exact Nat.le_of_lt hbC), HF.out.1, HF.out.2, by rw [HB.out]; exact HBE.out, by have := HTL.out; omega⟩
        | cons t r =>
          obtain ⟨g, rfl, hrow⟩ := hform (by simp)
          have hs : Hs b b wr g vc (t :: r) := ⟨hc, hf, hrow, hpo, Nat.le_refl _, Nat.lt_of_lt_of_le hbC hC⟩
          have hmin := heap_min hh
          obtain ⟨c0, tc, ht⟩ := List.exists_cons_of_ne_nil (hpo t List.mem_cons_self).1
          generalize vc = cap at *
          rcases List.eq_nil_or_concat m with rfl | ⟨mm, q, rfl⟩
          · have HDU := Lib.hid (show dup [] c0 = false from rfl)
            generalize hm0 : ([] : List Cel) = m at *
            have HM0 := Lib.hid hm0; clear hm0
            have HNX := Lib.hid (next_any wr b b g cap t r c0 tc hl4 hs hh ht)
            have HMS := Lib.hid (fun a ca => hmid.step ht hmin a ca)
            have HOM := Lib.hid hom
            have HALL := Lib.hid (And.intro hbel (And.intro ht (And.intro htt htk)))
            have hgC : g < C := hvb g rfl
            have hbs : b < g := hs.2.2.1.base.1
            have hbw : b ≤ wr.heap.size := Nat.le_of_lt hs.2.2.2.2.2
            clear hh ht hmin hs hmid hrow hpo hbel hom ho hf hvb
            generalize hNN : (t :: r).length = NN at *
            have HNN := Lib.hid hNN; clear hNN
            have z1 : (0 : Int) < (NN : Int) := by have := HNN.out; rw [List.length_cons] at this; omega
            go_wp2_with fail
            refine (lenP_any _ _ _ _).mono ?_; rintro e w' ⟨rfl, rfl⟩
            go_wp2_with fail
            refine HNX.out.mono ?_; rintro e w2 ⟨a2, ca2, l2, rfl, p2, hp2, s2, o2⟩
            have hq2 : C ≤ w2.heap.size := Nat.le_trans hC o2.size
            have hom2 : OwC C w2 u6 m := row_next HOM.out fun k hk hlt => o2.block k hlt (by have := OwC.lt HOM.out k hk; omega) (by have := OwC.lt HOM.out k hk; omega)
            have H2 := Lib.hid (And.intro p2 (And.intro hp2 (And.intro s2 o2)))
            have X2 := Lib.hid (Bc.made c0.r c0.b c0.t c0.v c0.g w2 33)
            have BW := Lib.hid (bel1 w2 (.cells #[.string c0.r, .string c0.b, .int .i64 c0.t, .int .i64 c0.v, .bool c0.g] 33))
            have HO2 := Lib.hid (hom2.next BW.out)
            have HX := Lib.hid (HMS.out a2 ca2)
            clear p2 hp2 s2 o2 hom2 hc HNX HMS HOM
            obtain ⟨x0, x1, x2, x3, x4, -⟩ := id X2.out
            have hv0 : ∃ a0 cap0, u6 = .slice a0 0 cap0 := by obtain ⟨a0, cap0, e, -⟩ := HO2.out.view; exact ⟨a0, cap0, by rw [e, ← HM0.out]; rfl⟩
            obtain ⟨a0, cap0, rfl⟩ := hv0
            go_wp2_with fail
            go_quiet (fail)
            have X3 := Lib.hid (show Bc w2.heap.size c0.r c0.b c0.t c0.v c0.g ((w2.alloc (.cells #[.string c0.r, .string c0.b, .int .i64 c0.t, .int .i64 c0.v, .bool c0.g] 33)).drewN nq) from X2.out)
            have O3 := Lib.hid (show OwC C ((w2.alloc (.cells #[.string c0.r, .string c0.b, .int .i64 c0.t, .int .i64 c0.v, .bool c0.g] 33)).drewN nq) _ m from HO2.out)
            have B3 := Lib.hid (show Below w2.heap.size w2 ((w2.alloc (.cells #[.string c0.r, .string c0.b, .int .i64 c0.t, .int .i64 c0.v, .bool c0.g] 33)).drewN nq) from bel_drewN BW.out _)
            clear X2 HO2 BW x0 x1 x2 x3 x4 
            generalize (w2.alloc (.cells #[.string c0.r, .string c0.b, .int .i64 c0.t, .int .i64 c0.v, .bool c0.g] 33)).drewN nq = w3 at X3 O3 B3 ⊢
            obtain ⟨x0, x1, x2, x3, x4, hx5⟩ := id X3.out
            have VL := Lib.hid (Vw.lit w3 c0)
            have BL := Lib.hid (bel1 w3 (.cells #[.string c0.r, .string c0.b, .int .i64 c0.t, .int .i64 c0.v, .bool c0.g] 33))
            have hsz3 : C ≤ w3.heap.size := Nat.le_trans hq2 B3.out.size
            have O4 := Lib.hid (O3.out.next BL.out)
            have HML := Lib.hid (show m.length + 1 ≤ 10000000 by have := HT.out; have := HALL.out.2.2.1; rw [tot_cons, HALL.out.2.1] at this; simp at this; omega)
            go_wp2_with (first
              | (at_builtin; refine append_cells rfl (.tmp 44) (.tmp 46) rfl (base := C) (l := m) (m := [c0]) rfl rfl rfl O4.out VL.out (by have := HML.out; simpa using this) (by simp; omega) ?_; intro v5 w5 o5 g5))
            have FIN := Lib.hid (show Merging w b C (tot ps) ps (gk - 1) v5 w5 from by
              obtain ⟨p2, hp2, s2, o2⟩ := H2.out
              obtain ⟨hbel, ht, htt, htk⟩ := HALL.out
              exact Merging.mk hbel o2 s2 (((B3.out.mono hq2).alloc hsz3 _).grown g5 (by simp; omega) (fun j hj => OwC.lt O4.out j hj)) hp2 (by have := HX.out; rw [HDU.out] at this; simpa using this) p2 o5 hgC hbC hq2 ht (by simp) htt htk (by rw [HNN.out]; exact hl4) hbw)
            clear o5 g5
            have hgk : 0 < gk := by have := HALL.out.2.2.2; rw [tot_cons, HALL.out.2.1] at this; simp at this; omega
            go_roundg (gk - 1)
            case measure => omega
            case rel => exact FIN.out
          · rw [List.concat_eq_append] at *
            cases hke : q.ke c0
            · have HDU := Lib.hid (show dup (mm ++ [q]) c0 = false by unfold dup; rw [List.getLast?_append]; simpa using hke)
              generalize hm0 : mm ++ [q] = m at *
              have HM0 := Lib.hid hm0; clear hm0
              have HNX := Lib.hid (next_any wr b b g cap t r c0 tc hl4 hs hh ht)
              have HMS := Lib.hid (fun a ca => hmid.step ht hmin a ca)
              have HOM := Lib.hid hom
              have HALL := Lib.hid (And.intro hbel (And.intro ht (And.intro htt htk)))
              have hgC : g < C := hvb g rfl
              have hbs : b < g := hs.2.2.1.base.1
              have hbw : b ≤ wr.heap.size := Nat.le_of_lt hs.2.2.2.2.2
              clear hh ht hmin hs hmid hrow hpo hbel hom ho hf hvb
              generalize hNN : (t :: r).length = NN at *
              have HNN := Lib.hid hNN; clear hNN
              have z1 : (0 : Int) < (NN : Int) := by have := HNN.out; rw [List.length_cons] at this; omega
              go_wp2_with fail
              refine (lenP_any _ _ _ _).mono ?_; rintro e w' ⟨rfl, rfl⟩
              go_wp2_with fail
              refine HNX.out.mono ?_; rintro e w2 ⟨a2, ca2, l2, rfl, p2, hp2, s2, o2⟩
              have hq2 : C ≤ w2.heap.size := Nat.le_trans hC o2.size
              have hom2 : OwC C w2 u6 m := row_next HOM.out fun k hk hlt => o2.block k hlt (by have := OwC.lt HOM.out k hk; omega) (by have := OwC.lt HOM.out k hk; omega)
              have H2 := Lib.hid (And.intro p2 (And.intro hp2 (And.intro s2 o2)))
              have X2 := Lib.hid (Bc.made c0.r c0.b c0.t c0.v c0.g w2 33)
              have BW := Lib.hid (bel1 w2 (.cells #[.string c0.r, .string c0.b, .int .i64 c0.t, .int .i64 c0.v, .bool c0.g] 33))
              have HO2 := Lib.hid (hom2.next BW.out)
              have HX := Lib.hid (HMS.out a2 ca2)
              clear p2 hp2 s2 o2 hom2 hc HNX HMS HOM
              obtain ⟨x0, x1, x2, x3, x4, -⟩ := id X2.out
              obtain ⟨a0, cap0, hu6, hv0, hf0⟩ := HO2.out.view
              obtain ⟨gm, om, hga, hgm, h5⟩ := hv0.2.2.2 mm.length q (by rw [← HM0.out, List.getElem?_append_right (Nat.le_refl _), Nat.sub_self]; rfl)
              have hmn : m.length = mm.length + 1 := by rw [← HM0.out]; simp
              rw [hmn] at hu6
              obtain ⟨c0', c1', c2', -, -⟩ := h5
              subst hga
              generalize hmm : mm.length = M at *
              have HMN := Lib.hid hmn
              have hMl : M ≤ 1000000 := by have := HT.out; have := HALL.out.2.2.1; rw [HMN.out] at this; omega
              subst hu6
              clear hmm hmn hv0 hf0
              have y1 : ((M : Int) + 1 == 0) = false := by rw [beq_eq_false_iff_ne]; omega
              have y2 : IntKind.i64.wrap (M : Int) = (M : Int) := IntWalk.i64_in _ (by omega)
              have y3 : (M : Int) < (M : Int) + 1 := by omega
              have y4 : (0 : Int) ≤ (M : Int) := by omega
              have heq := keyEq_of hke
              go_wp2_with fail
              go_quiet (fail)
              have X3 := Lib.hid (show Bc w2.heap.size c0.r c0.b c0.t c0.v c0.g ((w2.alloc (.cells #[.string c0.r, .string c0.b, .int .i64 c0.t, .int .i64 c0.v, .bool c0.g] 33)).drewN nq) from X2.out)
              have O3 := Lib.hid (show OwC C ((w2.alloc (.cells #[.string c0.r, .string c0.b, .int .i64 c0.t, .int .i64 c0.v, .bool c0.g] 33)).drewN nq) _ m from HO2.out)
              have B3 := Lib.hid (show Below w2.heap.size w2 ((w2.alloc (.cells #[.string c0.r, .string c0.b, .int .i64 c0.t, .int .i64 c0.v, .bool c0.g] 33)).drewN nq) from bel_drewN BW.out _)
              clear X2 HO2 BW x0 x1 x2 x3 x4 c0' c1' c2' y1 y2 y3 y4 heq
              generalize (w2.alloc (.cells #[.string c0.r, .string c0.b, .int .i64 c0.t, .int .i64 c0.v, .bool c0.g] 33)).drewN nq = w3 at X3 O3 B3 ⊢
              obtain ⟨x0, x1, x2, x3, x4, hx5⟩ := id X3.out
              have VL := Lib.hid (Vw.lit w3 c0)
              have BL := Lib.hid (bel1 w3 (.cells #[.string c0.r, .string c0.b, .int .i64 c0.t, .int .i64 c0.v, .bool c0.g] 33))
              have hsz3 : C ≤ w3.heap.size := Nat.le_trans hq2 B3.out.size
              have O4 := Lib.hid (O3.out.next BL.out)
              have HML := Lib.hid (show m.length + 1 ≤ 10000000 by have := HT.out; have := HALL.out.2.2.1; rw [tot_cons, HALL.out.2.1] at this; simp at this; omega)
              go_wp2_with (first
                | (at_builtin; refine append_cells rfl (.tmp 44) (.tmp 46) rfl (base := C) (l := m) (m := [c0]) rfl rfl rfl O4.out VL.out (by have := HML.out; simpa using this) (by simp; omega) ?_; intro v5 w5 o5 g5))
              have FIN := Lib.hid (show Merging w b C (tot ps) ps (gk - 1) v5 w5 from by
                obtain ⟨p2, hp2, s2, o2⟩ := H2.out
                obtain ⟨hbel, ht, htt, htk⟩ := HALL.out
                exact Merging.mk hbel o2 s2 (((B3.out.mono hq2).alloc hsz3 _).grown g5 (by simp; omega) (fun j hj => OwC.lt O4.out j hj)) hp2 (by have := HX.out; rw [HDU.out] at this; simpa using this) p2 o5 hgC hbC hq2 ht (by simp) htt htk (by rw [HNN.out]; exact hl4) hbw)
              clear o5 g5
              have hgk : 0 < gk := by have := HALL.out.2.2.2; rw [tot_cons, HALL.out.2.1] at this; simp at this; omega
              go_roundg (gk - 1)
              case measure => omega
              case rel => exact FIN.out
            · have HDU := Lib.hid (show dup (mm ++ [q]) c0 = true by unfold dup; rw [List.getLast?_append]; simpa using hke)
              generalize hm0 : mm ++ [q] = m at *
              have HM0 := Lib.hid hm0; clear hm0
              have HNX := Lib.hid (next_any wr b b g cap t r c0 tc hl4 hs hh ht)
              have HMS := Lib.hid (fun a ca => hmid.step ht hmin a ca)
              have HOM := Lib.hid hom
              have HALL := Lib.hid (And.intro hbel (And.intro ht (And.intro htt htk)))
              have hgC : g < C := hvb g rfl
              have hbs : b < g := hs.2.2.1.base.1
              have hbw : b ≤ wr.heap.size := Nat.le_of_lt hs.2.2.2.2.2
              clear hh ht hmin hs hmid hrow hpo hbel hom ho hf hvb
              generalize hNN : (t :: r).length = NN at *
              have HNN := Lib.hid hNN; clear hNN
              have z1 : (0 : Int) < (NN : Int) := by have := HNN.out; rw [List.length_cons] at this; omega
              go_wp2_with fail
              refine (lenP_any _ _ _ _).mono ?_; rintro e w' ⟨rfl, rfl⟩
              go_wp2_with fail
              refine HNX.out.mono ?_; rintro e w2 ⟨a2, ca2, l2, rfl, p2, hp2, s2, o2⟩
              have hq2 : C ≤ w2.heap.size := Nat.le_trans hC o2.size
              have hom2 : OwC C w2 u6 m := row_next HOM.out fun k hk hlt => o2.block k hlt (by have := OwC.lt HOM.out k hk; omega) (by have := OwC.lt HOM.out k hk; omega)
              have H2 := Lib.hid (And.intro p2 (And.intro hp2 (And.intro s2 o2)))
              have X2 := Lib.hid (Bc.made c0.r c0.b c0.t c0.v c0.g w2 33)
              have BW := Lib.hid (bel1 w2 (.cells #[.string c0.r, .string c0.b, .int .i64 c0.t, .int .i64 c0.v, .bool c0.g] 33))
              have HO2 := Lib.hid (hom2.next BW.out)
              have HX := Lib.hid (HMS.out a2 ca2)
              clear p2 hp2 s2 o2 hom2 hc HNX HMS HOM
              obtain ⟨x0, x1, x2, x3, x4, -⟩ := id X2.out
              obtain ⟨a0, cap0, hu6, hv0, hf0⟩ := HO2.out.view
              obtain ⟨gm, om, hga, hgm, h5⟩ := hv0.2.2.2 mm.length q (by rw [← HM0.out, List.getElem?_append_right (Nat.le_refl _), Nat.sub_self]; rfl)
              have hmn : m.length = mm.length + 1 := by rw [← HM0.out]; simp
              rw [hmn] at hu6
              obtain ⟨c0', c1', c2', -, -⟩ := h5
              subst hga
              generalize hmm : mm.length = M at *
              have HMN := Lib.hid hmn
              have hMl : M ≤ 1000000 := by have := HT.out; have := HALL.out.2.2.1; rw [HMN.out] at this; omega
              subst hu6
              clear hmm hmn hv0 hf0
              have y1 : ((M : Int) + 1 == 0) = false := by rw [beq_eq_false_iff_ne]; omega
              have y2 : IntKind.i64.wrap (M : Int) = (M : Int) := IntWalk.i64_in _ (by omega)
              have y3 : (M : Int) < (M : Int) + 1 := by omega
              have y4 : (0 : Int) ≤ (M : Int) := by omega
              have heq := keyEq_of hke
              go_wp2_with fail
              go_quiet (fail)
              have X3 := Lib.hid (show Bc w2.heap.size c0.r c0.b c0.t c0.v c0.g ((w2.alloc (.cells #[.string c0.r, .string c0.b, .int .i64 c0.t, .int .i64 c0.v, .bool c0.g] 33)).drewN nq) from X2.out)
              have O3 := Lib.hid (show OwC C ((w2.alloc (.cells #[.string c0.r, .string c0.b, .int .i64 c0.t, .int .i64 c0.v, .bool c0.g] 33)).drewN nq) _ m from HO2.out)
              have B3 := Lib.hid (show Below w2.heap.size w2 ((w2.alloc (.cells #[.string c0.r, .string c0.b, .int .i64 c0.t, .int .i64 c0.v, .bool c0.g] 33)).drewN nq) from bel_drewN BW.out _)
              clear X2 HO2 BW x0 x1 x2 x3 x4 c0' c1' c2' y1 y2 y3 y4 heq
              generalize (w2.alloc (.cells #[.string c0.r, .string c0.b, .int .i64 c0.t, .int .i64 c0.v, .bool c0.g] 33)).drewN nq = w3 at X3 O3 B3 ⊢
              have FIN := Lib.hid (show Merging w b C (tot ps) ps (gk - 1) (.slice (some ⟨gm, om, none⟩) (M + 1) cap0) w3 from by
                obtain ⟨p2, hp2, s2, o2⟩ := H2.out
                obtain ⟨hbel, ht, htt, htk⟩ := HALL.out
                exact Merging.mk hbel o2 s2 (B3.out.mono hq2) hp2 (by have := HX.out; rw [HDU.out] at this; simpa using this) p2 O3.out hgC hbC hq2 ht (by simp) htt htk (by rw [HNN.out]; exact hl4) hbw)
              have hgk : 0 < gk := by have := HALL.out.2.2.2; rw [tot_cons, HALL.out.2.1] at this; simp at this; omega
              go_wp2_with fail
              go_roundg (gk - 1)
              case measure => omega
              case rel => exact FIN.out
end Go.Proofs.Ytopcjiaakefmeaa.Cl
