/-
  laws.markBarn marks every cell of a store of a call's own, and turns nothing else; laws.heldBarn finds the marks again.
-/
import Derived.Test.YtefhdhblcaopiaaBe
namespace Go.Proofs.Ytefhdhblcaopiaa.Cl
open Go.RowKit Wd Rp Kp Ra
set_option linter.unusedVariables false
/-- Nothing but blocks from lo on, below hi, has turned. -/
structure Ins (lo hi : Nat) (w w' : World) : Prop where
  os : w'.os = w.os
  tape : w'.tape = w.tape
  output : w'.output = w.output
  size : w.heap.size ≤ w'.heap.size
  block : ∀ k, k < w.heap.size → (k < lo ∨ hi ≤ k) → w'.heap[k]? = w.heap[k]?
theorem Ins.refl (lo hi : Nat) (w : World) : Ins lo hi w w := ⟨rfl, rfl, rfl, Nat.le_refl _, fun _ _ _ => rfl⟩
theorem Ins.trans {lo hi : Nat} {x y z : World} (h : Ins lo hi x y) (k : Ins lo hi y z) : Ins lo hi x z :=
  ⟨k.os.trans h.os, k.tape.trans h.tape, k.output.trans h.output, Nat.le_trans h.size k.size, fun i hi' hb => (k.block i (Nat.lt_of_lt_of_le hi' h.size) hb).trans (h.block i hi' hb)⟩
theorem Ins.of_below {lo hi : Nat} {x y : World} (h : Below x.heap.size x y) : Ins lo hi x y := ⟨h.os, h.tape, h.output, h.size, fun i hi' _ => h.block i hi'⟩
theorem Ins.of_grown {lo hi : Nat} {x y : World} {row : Option Nat} (h : x.grownBy y row) (hr : ∀ k, row = some k → lo ≤ k ∧ k < hi) : Ins lo hi x y :=
  ⟨h.os, h.tape, h.output, h.size, fun i hi' hb => h.block i hi' (fun e => by have := hr i e.symm; omega)⟩
theorem Ins.bel {lo hi B : Nat} {a x y : World} (h : Ins lo hi x y) (hb : Below B a x) (hB : B ≤ lo) (hB2 : B ≤ x.heap.size) : Below B a y :=
  hb.trans ⟨h.os, h.tape, h.output, h.size, fun i hi' => h.block i (by omega) (Or.inl (by omega))⟩
/-- A store of a call's own, its blocks below T. -/
def OwT (B T : Nat) (w : World) (hv sv : Value) (h : List Cel) (ss : List (List Cel)) : Prop := ∃ us, RowS B w sv us ∧ OwL B w (hv :: us) (h :: ss) ∧ ∀ x ∈ sv :: hv :: us, ∀ k, x.ownBlock = some k → k < T
theorem OwB.top {B : Nat} {w : World} {hv sv : Value} {h : List Cel} {ss : List (List Cel)} (o : OwB B w hv sv h ss) : OwT B w.heap.size w hv sv h ss := by
  obtain ⟨us, h1, h2⟩ := o
  refine ⟨us, h1, h2, fun x hx k hk => ?_⟩
  rcases List.mem_cons.1 hx with rfl | hx
  · exact (World.ownsRow.lt h1 k hk).2
  · exact (h2.low x hx k hk).2
theorem OwT.own {B T : Nat} {w : World} {hv sv : Value} {h : List Cel} {ss : List (List Cel)} (o : OwT B T w hv sv h ss) : OwB B w hv sv h ss := by
  obtain ⟨us, h1, h2, -⟩ := o
  exact ⟨us, h1, h2⟩
theorem OwT.next {B T : Nat} {w w' : World} {hv sv : Value} {h : List Cel} {ss : List (List Cel)} (o : OwT B T w hv sv h ss) (hb : Below w.heap.size w w') : OwT B T w' hv sv h ss := by
  obtain ⟨us, h1, h2, h3⟩ := o
  exact ⟨us, h1.next hb, h2.next hb, h3⟩
theorem OwT.ins {B T lo hi : Nat} {w w' : World} {hv sv : Value} {h : List Cel} {ss : List (List Cel)} (o : OwT B T w hv sv h ss) (hi' : Ins lo hi w w') (hd : T ≤ lo ∨ hi ≤ B) : OwT B T w' hv sv h ss := by
  obtain ⟨us, h1, h2, h3⟩ := o
  refine ⟨us, row_next h1 fun g hg hlt => hi'.block g hlt ?_, ⟨h2.1, fun j u l k1 k2 => row_next (h2.2.1 j u l k1 k2) fun g hg hlt => hi'.block g hlt ?_, h2.2.2⟩, h3⟩
  · have a1 := h3 sv (by simp) g hg
    have a2 := RowS.lt h1 g hg
    omega
  · have a1 := h3 u (List.mem_cons_of_mem _ (List.mem_of_getElem? k1)) g hg
    have a2 := (h2.low u (List.mem_of_getElem? k1) g hg).1
    omega
theorem OwC.ins {B T lo hi : Nat} {w w' : World} {v : Value} {l : List Cel} (o : OwC B w v l) (hT : ∀ k, v.ownBlock = some k → k < T) (hi' : Ins lo hi w w') (hd : T ≤ lo ∨ hi ≤ B) : OwC B w' v l :=
  row_next o fun g hg hlt => hi'.block g hlt (by have := hT g hg; have := OwC.lt o g hg; omega)
def tott (ss : List (List Cel)) : Nat := (ss.map List.length).sum
theorem tott_cons (l : List Cel) (ss : List (List Cel)) : tott (l :: ss) = l.length + tott ss := by simp [tott]
theorem tott_app (a b : List (List Cel)) : tott (a ++ b) = tott a + tott b := by simp [tott]
theorem tott_take (ss : List (List Cel)) (k : Nat) : tott (ss.take k) ≤ tott ss := by
  conv => rhs; rw [← List.take_append_drop k ss]
  rw [tott_app]; omega
/-- The lists bear the marks from s on. -/
def MkdS (s : Nat) (ss : List (List Cel)) : Prop := ∀ (j : Nat) (l : List Cel), ss[j]? = some l → MkdC (s + 5 * tott (ss.take j)) l
theorem OwL.mark {B : Nat} {w w' : World} {us : List Value} {ms : List (List Cel)} {k : Nat} {u : Value} {m : List Cel} (h : OwL B w us ms) (hk : us[k]? = some u) (hg : w.grownBy w' u.ownBlock) (hm : OwC B w' u m) : OwL B w' us (ms.set k m) := by
  refine ⟨by rw [List.length_set]; exact h.1, fun j x y h1 h2 => ?_, h.2.2⟩
  by_cases e : k = j
  · subst e
    rw [h1] at hk
    obtain rfl := Option.some.inj hk
    rw [List.getElem?_set_self (by rw [← h.1]; exact (List.getElem?_eq_some_iff.1 h1).1)] at h2
    obtain rfl := Option.some.inj h2
    exact hm
  · rw [List.getElem?_set_ne e] at h2
    refine (h.2.1 j x y h1 h2).grown hg (fun q hq e2 => ?_)
    obtain ⟨l1, g1⟩ := List.getElem?_eq_some_iff.1 h1
    obtain ⟨l2, g2⟩ := List.getElem?_eq_some_iff.1 hk
    have hp := List.pairwise_iff_getElem.1 h.2.2
    rcases Nat.lt_or_ge j k with hlt | hge
    · exact hp j k l1 l2 hlt q (by rw [g1]; exact hq) (by rw [g2]; exact e2)
    · exact hp k j l2 l1 (by omega) q (by rw [g2]; exact e2) (by rw [g1]; exact hq)
theorem set_lens {ms ss : List (List Cel)} {k : Nat} {m l : List Cel} (h : ms.map List.length = ss.map List.length) (hl : ss[k]? = some l) (hm : m.length = l.length) : (ms.set k m).map List.length = ss.map List.length := by
  rw [List.map_set, h, hm]
  apply List.ext_getElem?
  intro j
  by_cases e : k = j
  · subst e
    rw [List.getElem?_set_self (by rw [List.length_map]; exact (List.getElem?_eq_some_iff.1 hl).1), List.getElem?_map, hl]; rfl
  · rw [List.getElem?_set_ne e]
theorem lens_tott {ms ss : List (List Cel)} (h : ms.map List.length = ss.map List.length) (k : Nat) : tott (ms.take k) = tott (ss.take k) := by
  unfold tott; rw [List.map_take, List.map_take, h]
theorem lens_len {ms ss : List (List Cel)} (h : ms.map List.length = ss.map List.length) : ms.length = ss.length := by
  have := congrArg List.length h; simpa using this
/-- While the lists are marked: the first k bear their marks. -/
def Marking (B lo hi s : Nat) (w : World) (us : List Value) (ss : List (List Cel)) (k : Nat) (wr : World) : Prop := ∃ ms, ms.map List.length = ss.map List.length ∧ (∀ (j : Nat) (l : List Cel), j < k → ms[j]? = some l → MkdC (s + 5 * tott (ss.take j)) l) ∧ OwL B wr us ms ∧ Ins lo hi w wr ∧ ∀ q, q < w.heap.size → (∀ x ∈ us, x.ownBlock ≠ some q) → wr.heap[q]? = w.heap[q]?
set_option maxRecDepth 100000 in
set_option maxHeartbeats 2000000 in
theorem markSS_any {B lo hi : Nat} {v : Value} {us : List Value} {ss : List (List Cel)} (w : World) (hr : RowS B w v us) (hl : OwL B w us ss) (hin : ∀ x ∈ us, ∀ k, x.ownBlock = some k → lo ≤ k ∧ k < hi) (ht : tott ss ≤ 1048576) (hn : us.length ≤ 1048576) (s : Nat) (hs1 : 1 ≤ s) (hs2 : s + 5 * tott ss ≤ 9000000) :
    Calls Try.prog 88 #[v, .int .i64 (s : Int)] w fun e w' => e = .returned (.int .i64 ((s + 5 * tott ss : Nat) : Int)) ∧ Ins lo hi w w' ∧ RowS B w' v us ∧ ∃ ms, ms.map List.length = ss.map List.length ∧ MkdS s ms ∧ OwL B w' us ms ∧ ∀ q, q < w.heap.size → (∀ x ∈ us, x.ownBlock ≠ some q) → w'.heap[q]? = w.heap[q]? := by
  have HR := Lib.hid hr
  obtain ⟨a, cap, rfl, -, -, -, -⟩ := hr.form
  have HL := Lib.hid hl; clear hl hr
  have HIN := Lib.hid hin; clear hin
  generalize hN : us.length = N at *
  have HN := Lib.hid hN; clear hN
  go_enter Try.func88, Try.ntmps88
  go_wp2_with fail
  go_loopw [1, 5] (fun q i wr => ∃ k : Nat, k ≤ N ∧ i = .int .i64 k ∧ q = .int .i64 ((s + 5 * tott (ss.take k) : Nat) : Int) ∧ RowS B wr (.slice a N cap) us ∧ Marking B lo hi s w us ss k wr) (fun _ i _ => N - intV i)
  case atStart => exact ⟨0, Nat.zero_le _, rfl, by simp [tott], HR.out, ss, rfl, (fun j l hj => by omega), HL.out, Ins.refl _ _ _, fun _ _ _ => rfl⟩
  case round =>
    obtain ⟨k, hk, rfl, rfl, hrow, ms, hlen, hmk, hol, hins, hoth⟩ := hrel
    have HRW := Lib.hid hrow
    have HMK := Lib.hid hmk; clear hmk
    have HOL := Lib.hid hol; clear hol
    have HI := Lib.hid hins; clear hins
    have HLE := Lib.hid hlen; clear hlen
    have HOT := Lib.hid hoth; clear hoth
    have hml : ms.length = N := by rw [← HN.out]; exact HOL.out.1.symm
    by_cases hlt : k < N
    · obtain ⟨u, hu⟩ : ∃ u, us[k]? = some u := ⟨us[k]'(by rw [HN.out]; exact hlt), List.getElem?_eq_getElem _⟩
      obtain ⟨l, hl⟩ : ∃ l, ms[k]? = some l := ⟨ms[k]'(by omega), List.getElem?_eq_getElem _⟩
      obtain ⟨l0, hl0⟩ : ∃ l, ss[k]? = some l := ⟨ss[k]'(by rw [← lens_len HLE.out]; omega), List.getElem?_eq_getElem _⟩
      have hll : l.length = l0.length := by
        have := congrArg (fun x => x[k]?) HLE.out
        simpa [List.getElem?_map, hl, hl0] using this
      have ho := HOL.out.2.1 k u l hu hl
      obtain ⟨a', cap', e', -, -, -, hat⟩ := hrow.form
      rw [HN.out] at e'
      cases e'
      obtain ⟨g, rfl, -, -, hcx, -⟩ := hat k u hu
      clear hat hrow
      have htk := tott_take ss (k + 1)
      rw [take_at hl0, tott_app] at htk
      have hone : tott [l0] = l0.length := by simp [tott]
      rw [hone] at htk
      have HT := Lib.hid (show tott (ss.take (k + 1)) = tott (ss.take k) + l0.length by rw [take_at hl0, tott_app, hone])
      clear hone
      obtain ⟨ua, uc, rfl, -, -⟩ := ho.view
      have HMC := Lib.hid (mark_from (n := l0.length) (s := s + 5 * tott (ss.take k)) wr ho hll (by omega) (by omega) (by omega))
      have HU := Lib.hid hu; clear hu
      have HL0 := Lib.hid hl0; clear hl0 hl ho
      have HS := Lib.hid (show s + 5 * tott (ss.take k) + 5 * l0.length = s + 5 * tott (ss.take (k + 1)) by rw [HT.out]; omega)
      have hS1 : s + 5 * tott (ss.take k) ≤ 9000000 := by omega
      generalize hS : s + 5 * tott (ss.take k) = S at *
      have HSS := Lib.hid hS; clear hS htk
      generalize hR : ((S + 5 * l0.length : Nat) : Int) = R at HMC
      have HR2 := Lib.hid hR; clear hR
      have HLL := Lib.hid hll; clear hll
      generalize l.length = n1 at *
      go_wp2_with fail
      refine HMC.out.mono ?_; rintro e w1 ⟨rfl, g1, m, hm, hMk, om⟩
      have R1 := Lib.hid (HRW.out.grown g1 (fun q hq e2 => RowS.apart HRW.out HOL.out _ (List.mem_of_getElem? HU.out) q e2 hq))
      have FIN := Lib.hid (show Marking B lo hi s w us ss (k + 1) w1 from ⟨ms.set k m, set_lens HLE.out HL0.out hm, fun j t hj ht => by
          by_cases e : k = j
          · subst e
            rw [List.getElem?_set_self (by omega)] at ht
            obtain rfl := Option.some.inj ht
            rw [HSS.out]; exact hMk
          · rw [List.getElem?_set_ne e] at ht
            exact HMK.out j t (by omega) ht, OwL.mark HOL.out HU.out g1 om, HI.out.trans (Ins.of_grown g1 (HIN.out _ (List.mem_of_getElem? HU.out))), fun q hq hx => (g1.block q (Nat.lt_of_lt_of_le hq HI.out.size) (fun e => hx _ (List.mem_of_getElem? HU.out) e.symm)).trans (HOT.out q hq hx)⟩)
      clear g1 hm hMk om
      go_wp2_with fail
      go_roundw
      case rel => exact ⟨k + 1, by omega, by go_num, by rw [← HR2.out, HS.out], R1.out, FIN.out⟩
      case measure => simp [intV]; omega
    · obtain rfl : k = N := by omega
      have HTT := Lib.hid (show tott (ss.take k) = tott ss by rw [List.take_of_length_le (by rw [← lens_len HLE.out]; omega)])
      rw [HTT.out]
      generalize hR : ((s + 5 * tott ss : Nat) : Int) = R
      have HRR := Lib.hid hR; clear hR
      go_wp2_with fail
      go_ret
      exact ⟨by rw [HRR.out]; rfl, HI.out, HRW.out, ms, HLE.out, fun j l hj => by rw [lens_tott HLE.out]; exact HMK.out j l (by have := (List.getElem?_eq_some_iff.1 hj).1; omega) hj, HOL.out, HOT.out⟩
set_option maxRecDepth 100000 in
set_option maxHeartbeats 2000000 in
theorem heldSS_any {B : Nat} {v : Value} {us : List Value} {ss : List (List Cel)} (w : World) (hr : RowS B w v us) (hl : OwL B w us ss) {s : Nat} (hm : MkdS s ss) (ht : tott ss ≤ 1048576) (hn : us.length ≤ 1048576) (hs1 : 1 ≤ s) (hs2 : s + 5 * tott ss ≤ 9000000) :
    Calls Try.prog 89 #[v, .int .i64 (s : Int)] w fun e w' => e = .returned (.int .i64 ((s + 5 * tott ss : Nat) : Int)) ∧ Below w.heap.size w w' := by
  have HR := Lib.hid hr
  obtain ⟨a, cap, rfl, -, -, -, -⟩ := hr.form
  have HL := Lib.hid hl; clear hl hr
  have HM := Lib.hid hm; clear hm
  generalize hN : us.length = N at *
  have HN := Lib.hid hN; clear hN
  go_enter Try.func89, Try.ntmps89
  go_wp2_with fail
  go_loopw [1, 5] (fun q i wr => ∃ k : Nat, k ≤ N ∧ i = .int .i64 k ∧ q = .int .i64 ((s + 5 * tott (ss.take k) : Nat) : Int) ∧ Below w.heap.size w wr) (fun _ i _ => N - intV i)
  case atStart => exact ⟨0, Nat.zero_le _, rfl, by simp [tott], Below.refl _ _⟩
  case round =>
    obtain ⟨k, hk, rfl, rfl, hbel⟩ := hrel
    have HB := Lib.hid hbel; clear hbel
    have hsl : ss.length = N := by rw [← HN.out]; exact HL.out.1.symm
    by_cases hlt : k < N
    · obtain ⟨u, hu⟩ : ∃ u, us[k]? = some u := ⟨us[k]'(by rw [HN.out]; exact hlt), List.getElem?_eq_getElem _⟩
      obtain ⟨l, hl⟩ : ∃ l, ss[k]? = some l := ⟨ss[k]'(by omega), List.getElem?_eq_getElem _⟩
      have hrow := HR.out.next HB.out
      have ho := (HL.out.2.1 k u l hu hl).next HB.out
      obtain ⟨a', cap', e', -, -, -, hat⟩ := hrow.form
      rw [HN.out] at e'
      cases e'
      obtain ⟨g, rfl, -, -, hcx, -⟩ := hat k u hu
      clear hat hrow
      have htk := tott_take ss (k + 1)
      rw [take_at hl, tott_app] at htk
      have hone : tott [l] = l.length := by simp [tott]
      rw [hone] at htk
      have HT := Lib.hid (show tott (ss.take (k + 1)) = tott (ss.take k) + l.length by rw [take_at hl, tott_app, hone])
      clear hone
      obtain ⟨ua, uc, rfl, -, -⟩ := ho.view
      have HMC := Lib.hid (held_from (n := l.length) (s := s + 5 * tott (ss.take k)) wr ho rfl (HM.out k l hl) (by omega) (by omega) (by omega))
      clear hu hl ho
      have HS := Lib.hid (show s + 5 * tott (ss.take k) + 5 * l.length = s + 5 * tott (ss.take (k + 1)) by rw [HT.out]; omega)
      generalize hS : s + 5 * tott (ss.take k) = S at *
      clear hS htk
      have r0 : ¬ ((S + 5 * l.length : Nat) : Int) < 0 := by omega
      generalize hR : ((S + 5 * l.length : Nat) : Int) = R at HMC r0
      have HR2 := Lib.hid hR; clear hR
      generalize l.length = n1 at *
      go_wp2_with fail
      refine HMC.out.mono ?_; rintro e w1 ⟨rfl, b1⟩
      have B1 := Lib.hid (bel_tr HB.out b1 (Nat.le_refl _)); clear b1
      go_wp2_with fail
      go_roundw
      case rel => exact ⟨k + 1, by omega, by go_num, by rw [← HR2.out, HS.out], B1.out⟩
      case measure => simp [intV]; omega
    · obtain rfl : k = N := by omega
      have HTT := Lib.hid (show tott (ss.take k) = tott ss by rw [List.take_of_length_le (by omega)])
      rw [HTT.out]
      generalize hR : ((s + 5 * tott ss : Nat) : Int) = R
      have HRR := Lib.hid hR; clear hR
      go_wp2_with fail
      go_ret
      exact ⟨by rw [HRR.out]; rfl, HB.out⟩
/-- A store that bears the marks from 1 on. -/
def MkdB (h : List Cel) (ss : List (List Cel)) : Prop := MkdC 1 h ∧ MkdS (1 + 5 * h.length) ss
set_option maxRecDepth 100000 in
set_option maxHeartbeats 2000000 in
theorem markBarn_any {B T : Nat} {hv sv : Value} {h : List Cel} {ss : List (List Cel)} {N : Nat} (w : World) (o : OwT B T w hv sv h ss) (hT : T ≤ w.heap.size) (hN : h.length + tott ss = N) (ht : N ≤ 1048576) (hn : ss.length ≤ 1048576) :
    Calls Try.prog 42 #[.agg #[hv, sv], .int .i64 1] w fun e w' => e = .returned (.int .i64 ((1 + 5 * N : Nat) : Int)) ∧ Ins B T w w' ∧ ∃ mh ms, mh.length = h.length ∧ ms.map List.length = ss.map List.length ∧ MkdB mh ms ∧ OwT B T w' hv sv mh ms := by
  obtain ⟨us, hr, hl, htop⟩ := o
  have HR := Lib.hid hr; clear hr
  have HL := Lib.hid hl
  have HTOP := Lib.hid htop; clear htop
  have hul : us.length = ss.length := by have := hl.1; simpa using this
  have hsl1 : us.length ≤ 1048576 := by omega
  have HUL := Lib.hid hul; clear hul
  have ho := hl.2.1 0 hv h rfl rfl
  obtain ⟨a, c, rfl, -, -⟩ := ho.view
  obtain ⟨sa, sc, rfl, -, -, -, -⟩ := HR.out.form
  have H0 := Lib.hid (bel1 w (.cells #[.slice a h.length c, .slice sa us.length sc] 27))
  have F0 := Lib.hid (Bb.made (.slice a h.length c) (.slice sa us.length sc) w 27)
  have HM := Lib.hid (mark_own (n := h.length) _ (ho.next H0.out) rfl (by omega))
  have HLT := Lib.hid (OwL.next hl H0.out); clear hl ho
  have HR0 := Lib.hid (HR.out.next H0.out)
  have hsz : w.heap.size < (w.alloc (.cells #[.slice a h.length c, .slice sa us.length sc] 27)).heap.size := by simp
  generalize hR : ((1 + 5 * h.length : Nat) : Int) = R at HM
  have HRR := Lib.hid hR; clear hR
  have HQ := Lib.hid (show ∀ q, (Value.slice a h.length c).ownBlock = some q → B ≤ q ∧ q < T from fun q hq => ⟨(HL.out.low _ (by simp) q hq).1, HTOP.out _ (by simp) q hq⟩)
  generalize hhl : h.length = hl at *
  generalize hsl : us.length = sl at *
  have HHL := Lib.hid hhl; clear hhl
  have HSL := Lib.hid hsl; clear hsl
  go_enter Try.func42, Try.ntmps42
  go_wp2_with fail
  refine HM.out.mono ?_; rintro e w1 ⟨rfl, g1, m, hm, hMk, om⟩
  have F1 := Lib.hid (show Bb w.heap.size (.slice a hl c) (.slice sa sl sc) w1 from by
    obtain ⟨f0, f1, f2, f3, f4⟩ := F0.out
    have e := g1.block w.heap.size (by simp) (fun e => by have := (HQ.out _ e.symm).2; omega)
    exact ⟨(World.cell?_of_block e).trans f0, (World.cell?_of_block e).trans f1, (World.frozen?_of_block e).trans f2, (World.frozen?_of_block e).trans f3, Nat.lt_of_lt_of_le hsz g1.size⟩)
  have L1 := Lib.hid (show OwL B w1 (.slice a hl c :: us) (m :: ss) from OwL.mark (k := 0) HLT.out rfl g1 om)
  have R1 := Lib.hid (RowS.grown HR0.out g1 (fun q hq e2 => RowS.apart HR0.out HLT.out _ (List.mem_cons_self ..) q e2 hq))
  have I1 := Lib.hid ((Ins.of_below (lo := B) (hi := T) H0.out).trans (Ins.of_grown g1 HQ.out))
  have HMK := Lib.hid (And.intro hm hMk); clear hm hMk g1 om H0 F0 HM
  obtain ⟨x0, x1, -, -, -⟩ := F1.out
  have L2 := Lib.hid (show OwL B w1 us ss from ⟨by have := L1.out.1; simpa using this, fun j u l k1 k2 => L1.out.2.1 (j + 1) u l (by simpa using k1) (by simpa using k2), (List.pairwise_cons.1 L1.out.2.2).2⟩)
  have HMS := Lib.hid (markSS_any (lo := B) (hi := T) w1 R1.out L2.out (fun x hx q hq => ⟨(L2.out.low x hx q hq).1, HTOP.out x (by simp [hx]) q hq⟩) (by omega) (by rw [HSL.out]; exact hsl1) (1 + 5 * hl) (by omega) (by omega))
  rw [HRR.out] at HMS
  have HE := Lib.hid (show 1 + 5 * hl + 5 * tott ss = 1 + 5 * N by omega)
  rw [HE.out] at HMS
  generalize hR2 : ((1 + 5 * N : Nat) : Int) = R2 at HMS
  have HRR2 := Lib.hid hR2; clear hR2
  go_wp2_with fail
  refine HMS.out.mono ?_; rintro e w2 ⟨rfl, i2, r2, ms, hms, hMks, ol2, oth⟩
  have K2 := Lib.hid (And.intro i2 (And.intro r2 (And.intro hms (And.intro hMks (And.intro ol2 oth))))); clear i2 r2 hms hMks ol2 oth
  go_wp2_with fail
  go_ret
  refine ⟨by rw [HRR2.out]; rfl, I1.out.trans K2.out.1, m, ms, HMK.out.1, K2.out.2.2.1, ⟨HMK.out.2, by rw [HMK.out.1]; exact K2.out.2.2.2.1⟩, us, K2.out.2.1, ?_, HTOP.out⟩
  have hd := L1.out.2.2
  have oh : OwC B w1 (.slice a hl c) m := L1.out.2.1 0 _ _ rfl rfl
  obtain ⟨o2, oth⟩ := K2.out.2.2.2.2
  refine ⟨by simp [o2.1], fun j u l k1 k2 => ?_, L1.out.2.2⟩
  cases j with
  | zero =>
    obtain rfl : Value.slice a hl c = u := by simpa using k1
    obtain rfl : m = l := by simpa using k2
    exact row_next oh fun g hg hlt => oth g hlt (fun x hx e => (List.pairwise_cons.1 hd).1 x hx g hg e)
  | succ j => exact o2.2.1 j u l (by simpa using k1) (by simpa using k2)
set_option maxRecDepth 100000 in
set_option maxHeartbeats 2000000 in
theorem heldBarn_any {B T : Nat} {hv sv : Value} {h : List Cel} {ss : List (List Cel)} {N : Nat} (w : World) (o : OwT B T w hv sv h ss) (hm : MkdB h ss) (hN : h.length + tott ss = N) (ht : N ≤ 1048576) (hn : ss.length ≤ 1048576) :
    Calls Try.prog 43 #[.agg #[hv, sv], .int .i64 1] w fun e w' => e = .returned (.int .i64 ((1 + 5 * N : Nat) : Int)) ∧ Below w.heap.size w w' := by
  obtain ⟨us, hr, hl, htop⟩ := o
  have HR := Lib.hid hr; clear hr htop
  have hul : us.length = ss.length := by have := hl.1; simpa using this
  have hsl1 : us.length ≤ 1048576 := by omega
  have HUL := Lib.hid hul; clear hul
  have ho := hl.2.1 0 hv h rfl rfl
  obtain ⟨a, c, rfl, -, -⟩ := ho.view
  obtain ⟨sa, sc, rfl, -, -, -, -⟩ := HR.out.form
  have H0 := Lib.hid (bel1 w (.cells #[.slice a h.length c, .slice sa us.length sc] 27))
  have F0 := Lib.hid (Bb.made (.slice a h.length c) (.slice sa us.length sc) w 27)
  have HM := Lib.hid (held_own (n := h.length) _ (ho.next H0.out) rfl hm.1 (by omega))
  have L0 := Lib.hid (show OwL B w us ss from ⟨HUL.out, fun j u l k1 k2 => hl.2.1 (j + 1) u l (by simpa using k1) (by simpa using k2), (List.pairwise_cons.1 hl.2.2).2⟩); clear hl ho
  have r0 : ¬ ((1 + 5 * h.length : Nat) : Int) < 0 := by omega
  have r1 : ¬ ((1 + 5 * N : Nat) : Int) < 0 := by omega
  have HMS := Lib.hid (fun w1 (hb : Below w.heap.size w w1) => heldSS_any (s := 1 + 5 * h.length) w1 (HR.out.next hb) (L0.out.next hb) hm.2 (by omega) (by omega) (by omega) (by omega))
  have HE := Lib.hid (show 1 + 5 * h.length + 5 * tott ss = 1 + 5 * N by omega)
  rw [HE.out] at HMS
  generalize hR : ((1 + 5 * h.length : Nat) : Int) = R at HM HMS r0
  generalize hR2 : ((1 + 5 * N : Nat) : Int) = R2 at HMS r1
  have HRR := Lib.hid hR2; clear hR2 hR
  generalize h.length = hl at *
  generalize us.length = sl at *
  go_enter Try.func43, Try.ntmps43
  go_wp2_with fail
  refine HM.out.mono ?_; rintro e w1 ⟨rfl, b1⟩
  have B1 := Lib.hid (bel_tr H0.out b1 (Nat.le_refl _))
  obtain ⟨x0, x1, -, -, -⟩ := F0.out.next b1; clear b1
  go_wp2_with fail
  refine (HMS.out _ B1.out).mono ?_; rintro e w2 ⟨rfl, b2⟩
  have B2 := Lib.hid (bel_tr B1.out b2 (Nat.le_refl _)); clear b2
  go_wp2_with fail
  go_ret
  exact ⟨rfl, B2.out⟩
end Go.Proofs.Ytefhdhblcaopiaa.Cl
