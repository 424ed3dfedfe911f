/-
  The contract of (*impl.piles).next: the first cell of the first pile; what is left is a heap again.
-/
import Derived.Test.YtopcjiaakefmeaaPf
namespace Go.Proofs.Ytopcjiaakefmeaa.Cl
open Go.RowKit Wd Rp Kp
set_option linter.unusedVariables false
/-- What next leaves. -/
def NextPost (B b g cap : Nat) (t : Pile) (c0 : Cel) (tc : List Cel) (r : List Pile) (w : World) (e : Ending) (w' : World) : Prop :=
  ∃ (a : Option Addr) (ca : Nat) (m : List Pile), e = .returned (.agg #[.string c0.r, .string c0.b, .int .i64 c0.t, .int .i64 c0.v, .bool c0.g]) ∧ List.Perm m (rest t tc a ca r) ∧ Hp.Heap Pile.lt m m.length ∧ Hs B b w' g cap m ∧ Onl b g w w'
/-- The first pile with other cells. -/
theorem RowP.cut {B : Nat} {w : World} {g cap : Nat} {t u : Pile} {r : List Pile} (h : RowP B w g cap (t :: r)) (hk : u.k = t.k) :
    RowP B (w.setCell ⟨g, 1, none⟩ (.slice u.a u.c.length u.cap)) g cap (u :: r) := by
  have h1 := (World.ownsRow.stored h 1 (.slice u.a u.c.length u.cap)).1
  unfold RowP
  have e : flatP (u :: r) = (flatP (t :: r)).set 1 (.slice u.a u.c.length u.cap) := by
    rw [flatP_cons, flatP_cons]; unfold Pile.vals; rw [hk]; rfl
  rw [e]; exact h1
theorem Hs.cut {B b : Nat} {w : World} {g cap : Nat} {t u : Pile} {r : List Pile} (h : Hs B b w g cap (t :: r)) (hk : u.k = t.k) (hu : u.c ≠ [] ∧ (∀ c ∈ u.c, c.ok = true) ∧ u.c.length ≤ 4194304 ∧ u.k ≤ 4194304 ∧ Vb B w u.a u.cap u.c) :
    Hs B b (w.setCell ⟨g, 1, none⟩ (.slice u.a u.c.length u.cap)) g cap (u :: r) := by
  have hg := h.ne
  obtain ⟨h1, h2, h3, h4, h5, h6⟩ := h
  have e : ∀ k, k ≠ g → (w.setCell ⟨g, 1, none⟩ (.slice u.a u.c.length u.cap)).heap[k]? = w.heap[k]? := fun k hk => Below.heap_setCell w _ _ k hk
  have hs := setCell_size w ⟨g, 1, none⟩ (.slice u.a u.c.length u.cap)
  refine ⟨(World.cell?_of_block (w := w) (e b hg.1)).trans h1, (World.frozen?_of_block (w := w) (e b hg.1)).trans h2, h3.cut hk, ?_, h5, by rw [hs]; exact h6⟩
  refine PilesOk.low (w := w) (fun p hp => ?_) (by rw [hs]; exact Nat.le_refl _) (fun k hk => e k (by omega))
  rcases List.mem_cons.1 hp with rfl | hp
  · exact hu
  · exact h4 p (List.mem_cons_of_mem _ hp)
theorem Vb.tail {B : Nat} {w : World} {a a' : Option Addr} {cap cap' : Nat} {c : Cel} {l : List Cel} (h : Vb B w a cap (c :: l)) (ha : a' = a.map (·.add (1 * 5))) (hv : Vw w a' cap' l) : Vb B w a' cap' l := by
  refine ⟨hv, fun p hp => ?_⟩
  cases a with
  | none => rw [ha] at hp; cases hp
  | some q =>
    rw [ha] at hp
    have : p = q.add (1 * 5) := (Option.some.inj hp).symm
    have hq := h.2 q rfl
    rw [this]
    obtain ⟨g, o, e, -, -⟩ := h.1.2.2.2 0 c rfl
    obtain rfl : q = ⟨g, o, none⟩ := Option.some.inj e
    exact hq
set_option maxRecDepth 100000 in
theorem cut_one (a : Option Addr) (n cap : Nat) (hk : 1 ≤ n) (hc : cap ≠ 1) : (∀ w, (Instr.slice 24 (.slice a n cap) (some (.int .i64 1)) none none).run Try.prog w = .ok (.slice (a.map (·.add (1 * 5))) (n - 1) (cap - 1)) w) := by
  intro w
  have hu : Try.prog.underlying 24 = some (.slice (Try.prog.elem 24)) := by kernel_rfl
  have hs : ∀ w, (sizeOf (Try.prog.elem 24)).run Try.prog w = .ok 5 w := fun w => by
    rw [show Try.prog.elem 24 = 33 by kernel_rfl]; exact Try.sizeOf33 w
  rw [run_slice_l w 24 a n cap hu .i64 1 (by omega) (by omega), hs]
  show Result.ok (Value.slice (if cap = 1 then a else a.map (·.add (1 * 5))) (n - 1) (cap - 1)) w = _
  rw [if_neg hc]
theorem Hs.bel {B b N : Nat} {w w' : World} {g cap : Nat} {l : List Pile} (h : Hs B b w g cap l) (hb : Below N w w') (h1 : b < N) (h2 : g < N) (h3 : B ≤ N) : Hs B b w' g cap l := by
  obtain ⟨c1, f1, r1, p1, b1, s1⟩ := h
  exact ⟨(hb.cell (p := ⟨b, 0, none⟩) h1).trans c1, (hb.frozen (p := ⟨b, 0, none⟩) h1).trans f1, r1.next (hb.block g h2), p1.low hb.size (fun k hk => hb.block k (by omega)), b1, Nat.lt_of_lt_of_le s1 hb.size⟩
theorem Onl.bel {b g : Nat} {x y z : World} (h : Onl b g x y) (k : Below x.heap.size y z) : Onl b g x z :=
  ⟨k.os.trans h.os, k.tape.trans h.tape, k.output.trans h.output, Nat.le_trans h.size k.size, fun i hi hb hg => (k.block i hi).trans (h.block i hi hb hg)⟩
/-- Two new blocks. -/
theorem second_of {w w1 : World} {o p : Obj} {b g : Nat} (h : Onl b g ((w.alloc o).alloc p) w1) (hb : b < w.heap.size) (hg : g < w.heap.size) : w1.heap[w.heap.size + 1]? = some p ∧ w1.heap[w.heap.size]? = some o := by
  refine ⟨(h.block _ (by simp) (by omega) (by omega)).trans ?_, (h.block _ (by simp; omega) (by omega) (by omega)).trans ?_⟩
  · show ((w.heap.push o).push p)[w.heap.size + 1]? = some p
    rw [Array.getElem?_push, if_pos (by simp)]
  · show ((w.heap.push o).push p)[w.heap.size]? = some o
    rw [Array.getElem?_push, if_neg (by simp), Array.getElem?_push, if_pos rfl]
set_option maxHeartbeats 8000000 in
set_option maxRecDepth 100000 in
theorem next_any (w : World) (B b g cap : Nat) (t : Pile) (r : List Pile) (c0 : Cel) (tc : List Cel) (hl : (t :: r).length ≤ 4194304) (h : Hs B b w g cap (t :: r)) (hh : Hp.Heap Pile.lt (t :: r) (t :: r).length) (hc : t.c = c0 :: tc) :
    Calls Try.prog 126 #[.pointer (some ⟨b, 0, none⟩)] w (NextPost B b g cap t c0 tc r w) := by
  obtain ⟨g1, o1, ea, hg1B, hg1, h5, -, hlen⟩ := h.2.2.2.1.first (List.mem_cons_self (a := t) (l := r))
  have ehd : t.hd = c0 := by unfold Pile.hd; rw [hc]; rfl
  rw [ehd] at h5
  have hne := h.ne
  have hBb : B ≤ b := h.2.2.2.2.1
  obtain ⟨x0, x1, x2, x3⟩ := h.2.2.1.at (i := 0) (p := t) rfl
  rw [Nat.zero_mul] at x0 x1 x2 x3
  rw [Nat.zero_add] at x1 x3
  have hb := h.1
  have hbl := h.2.2.2.2.2
  have HS := Lib.hid h; clear h
  have HH := Lib.hid hh; clear hh
  have hL0 : 0 < (t :: r).length := by simp
  have HHL := Lib.hid (show (t :: r).length = r.length + 1 by simp)
  generalize hN : (t :: r).length = N at *
  have HN := Lib.hid hN; clear hN
  have HTC := Lib.hid hc
  have htl : t.c.length = tc.length + 1 := by rw [hc]; simp
  clear hc ehd
  rw [ea] at x1
  have HA := Lib.hid ea; clear ea
  have H5 := Lib.hid h5; clear h5
  by_cases h1 : tc = []
  · -- the last cell of its pile
    have ht1 : t.c.length = 1 := by rw [htl, h1]; rfl
    rw [ht1] at x1
    clear htl hlen ht1
    have HE := Lib.hid h1; clear h1
    have HB2 := Lib.hid (bel2 w (.cells #[.string ⟨#[]⟩, .string ⟨#[]⟩, .int .i64 0, .int .i64 0, .bool false] 33) (.cells #[.int .i64 (t.k : Int), .slice (some ⟨g1, o1, none⟩) 1 t.cap] 141))
    have HSW := Lib.hid (HS.out.next HB2.out)
    have HPP := Lib.hid (fun W hW => hpop_any W B b g cap t r (by rw [HN.out]; exact hl) hW (by rw [HN.out]; exact HH.out))
    go_enter Try.func126, Try.ntmps126
    go_wp2_with fail
    refine (HPP.out _ HSW.out).mono ?_; rintro e w3 ⟨v, m, rfl, p3, hp3, s3, o3⟩
    have H3 := Lib.hid (And.intro p3 (And.intro hp3 s3))
    obtain ⟨e1, e0⟩ := second_of o3 hbl hne.2.2
    obtain ⟨y0, y1, y2, y3, y4, f0, f1, f2, f3, f4⟩ := five_of e0
    have z1 := two_of e1 1 _ rfl
    rw [show ((⟨w.heap.size + 1, 0, none⟩ : Addr).add 1) = ⟨w.heap.size + 1, 1, none⟩ from rfl] at z1
    have O3 := Lib.hid (Onl.trans ((Onl.refl b g w).next HB2.out) o3)
    obtain ⟨d0, d1, d2, d3, d4⟩ : At5 w3 g1 o1 c0 := H5.out.same (O3.out.block g1 hg1 (by omega) (by omega))
    have O4 := Lib.hid (O3.out.bel (bel_set5 (Below.refl w.heap.size w3) (Nat.le_refl _) (.string c0.r) (.string c0.b) (.int .i64 c0.t) (.int .i64 c0.v) (.bool c0.g)))
    clear e1 e0 o3 x0 x1 x2 x3 hb HB2 HSW HPP
    generalize hq : w.heap.size = Q at *
    go_wp2_with fail
    refine bodyPost_ret (v := .agg #[.string c0.r, .string c0.b, .int .i64 c0.t, .int .i64 c0.v, .bool c0.g]) (by simp [results, Try.results126, go_sem, y0, y1, y2, y3, y4]) rfl ?_
    subst hq
    obtain ⟨p3, hp3, s3⟩ := H3.out
    exact ⟨none, 0, m, rfl, by unfold rest; rw [if_pos HE.out]; exact p3, hp3, s3.bel (bel_set5 (Below.refl _ w3) (Nat.le_refl _) _ _ _ _ _) hbl hne.2.2 (Nat.le_of_lt (by omega)), O4.out⟩
  · have ht1 : 2 ≤ t.c.length := by rw [htl]; have := List.length_pos_iff.2 h1; omega
    have hcap : t.c.length ≤ t.cap := (HS.out.2.2.2.1 t List.mem_cons_self).2.2.2.2.1.1
    have hcut := cut_one (some ⟨g1, o1, none⟩) t.c.length t.cap (by omega) (by omega)
    rw [show ((some ⟨g1, o1, none⟩ : Option Addr).map (·.add (1 * 5))) = some ⟨g1, o1 + 5, none⟩ from rfl] at hcut
    have HU := Lib.hid (show (⟨t.k, some ⟨g1, o1 + 5, none⟩, t.cap - 1, tc⟩ : Pile).c ≠ [] ∧ (∀ c ∈ tc, c.ok = true) ∧ tc.length ≤ 4194304 ∧ t.k ≤ 4194304 ∧ Vb B w (some ⟨g1, o1 + 5, none⟩) (t.cap - 1) tc by
      obtain ⟨k1, k2, k3, k4, k5⟩ := HS.out.2.2.2.1 t List.mem_cons_self
      rw [HTC.out] at k2 k3
      refine ⟨h1, fun c hc => k2 c (List.mem_cons_of_mem _ hc), by rw [List.length_cons] at k3; omega, k4, ?_⟩
      have hd := k5.1.drop (k := 1) (by omega)
      rw [if_neg (by omega), HTC.out, HA.out] at hd
      rw [HTC.out, HA.out] at k5
      exact k5.tail rfl hd)
    have htn : t.c.length - 1 = tc.length := by omega
    rw [htn] at hcut
    have q1 : ((t.c.length : Int) == 1) = false := by rw [beq_eq_false_iff_ne]; omega
    have q2 : (t.c.length : Int) ≤ 4194304 := by have := (HS.out.2.2.2.1 t List.mem_cons_self).2.2.1; omega
    have q3 : (1 : Int) ≤ (t.c.length : Int) := by omega
    have q4 : (0 : Int) < (t.c.length : Int) := by omega
    generalize t.c.length = n1 at *
    clear htl htn hlen hcap
    have HE := Lib.hid h1; clear h1
    have hN0 : (0 : Int) < (N : Int) := by omega
    have HB2 := Lib.hid (bel2 w (.cells #[.string ⟨#[]⟩, .string ⟨#[]⟩, .int .i64 0, .int .i64 0, .bool false] 33) (.cells #[.int .i64 (t.k : Int), .slice (some ⟨g1, o1, none⟩) n1 t.cap] 141))
    have HSW := Lib.hid (HS.out.next HB2.out)
    have HPP := Lib.hid (fun W hW => hfix_any W B b g cap (⟨t.k, some ⟨g1, o1 + 5, none⟩, t.cap - 1, tc⟩ :: r) (by have := HN.out; rw [List.length_cons] at this ⊢; omega) (by simp) hW (Hp.Heap.fix (l := t :: r) (by have := HN.out; rw [List.length_cons] at this ⊢; rw [this]; exact HH.out) (fun k h0 _ => by cases k with | zero => omega | succ k => rfl)))
    go_enter Try.func126, Try.ntmps126
    go_wp2_with fail
    go_region
    all_goals (try go_wp2_with fail)
    have HSC := Lib.hid (show Hs B b (w.setCell ⟨g, 1, none⟩ (.slice (some ⟨g1, o1 + 5, none⟩) tc.length (t.cap - 1))) g cap (⟨t.k, some ⟨g1, o1 + 5, none⟩, t.cap - 1, tc⟩ :: r) from HS.out.cut (u := ⟨t.k, some ⟨g1, o1 + 5, none⟩, t.cap - 1, tc⟩) rfl HU.out)
    have HBC := Lib.hid (bel2 (w.setCell ⟨g, 1, none⟩ (.slice (some ⟨g1, o1 + 5, none⟩) tc.length (t.cap - 1))) (.cells #[.string ⟨#[]⟩, .string ⟨#[]⟩, .int .i64 0, .int .i64 0, .bool false] 33) (.cells #[.int .i64 (t.k : Int), .slice (some ⟨g1, o1, none⟩) n1 t.cap] 141))
    have HSD := Lib.hid (show Hs B b (((w.setCell ⟨g, 1, none⟩ (.slice (some ⟨g1, o1 + 5, none⟩) tc.length (t.cap - 1))).alloc (.cells #[.string ⟨#[]⟩, .string ⟨#[]⟩, .int .i64 0, .int .i64 0, .bool false] 33)).alloc (.cells #[.int .i64 (t.k : Int), .slice (some ⟨g1, o1, none⟩) n1 t.cap] 141)).drew g cap (⟨t.k, some ⟨g1, o1 + 5, none⟩, t.cap - 1, tc⟩ :: r) from HSC.out.next HBC.out.drew)
    refine (HPP.out _ HSD.out).mono ?_; rintro e w3 ⟨m, rfl, p3, hp3, s3, o3⟩
    have H3 := Lib.hid (And.intro p3 (And.intro hp3 s3))
    have o3' : Onl b g (((w.setCell ⟨g, 1, none⟩ (.slice (some ⟨g1, o1 + 5, none⟩) tc.length (t.cap - 1))).alloc (.cells #[.string ⟨#[]⟩, .string ⟨#[]⟩, .int .i64 0, .int .i64 0, .bool false] 33)).alloc (.cells #[.int .i64 (t.k : Int), .slice (some ⟨g1, o1, none⟩) n1 t.cap] 141)) w3 := ⟨o3.os, o3.tape, o3.output, o3.size, fun k hk _ hg => o3.block k hk hg hg⟩
    obtain ⟨e1, e0⟩ := second_of o3' (by rw [setCell_size]; exact hbl) (by rw [setCell_size]; exact hne.2.2)
    rw [setCell_size] at e1 e0
    obtain ⟨y0, y1, y2, y3, y4, f0, f1, f2, f3, f4⟩ := five_of e0
    have z1 := two_of e1 1 _ rfl
    rw [show ((⟨w.heap.size + 1, 0, none⟩ : Addr).add 1) = ⟨w.heap.size + 1, 1, none⟩ from rfl] at z1
    have O3 := Lib.hid (Onl.trans (((Onl.refl b g w).setCell (p := ⟨g, 1, none⟩) (Or.inr rfl) (.slice (some ⟨g1, o1 + 5, none⟩) tc.length (t.cap - 1))).next HBC.out) o3')
    obtain ⟨d0, d1, d2, d3, d4⟩ : At5 w3 g1 o1 c0 := H5.out.same (O3.out.block g1 hg1 (by omega) (by omega))
    have O4 := Lib.hid (O3.out.bel (bel_set5 (Below.refl w.heap.size w3) (Nat.le_refl _) (.string c0.r) (.string c0.b) (.int .i64 c0.t) (.int .i64 c0.v) (.bool c0.g)))
    clear e1 e0 o3 o3' x0 x1 x2 x3 hb HB2 HSW HPP HSC HBC HSD hcut
    generalize hq : w.heap.size = Q at *
    go_wp2_with fail
    refine bodyPost_ret (v := .agg #[.string c0.r, .string c0.b, .int .i64 c0.t, .int .i64 c0.v, .bool c0.g]) (by simp [results, Try.results126, go_sem, y0, y1, y2, y3, y4]) rfl ?_
    subst hq
    obtain ⟨p3, hp3, s3⟩ := H3.out
    exact ⟨some ⟨g1, o1 + 5, none⟩, t.cap - 1, m, rfl, by unfold rest; rw [if_neg HE.out]; exact p3, hp3, s3.bel (bel_set5 (Below.refl _ w3) (Nat.le_refl _) _ _ _ _ _) hbl hne.2.2 (Nat.le_of_lt (by omega)), O4.out⟩
end Go.Proofs.Ytopcjiaakefmeaa.Cl
