/-
  The program's run of a recipe: what is thrown becomes a code; contracts of run, slices.Clone, impl.Means, Steps. (Made by gen_hd.py.)
-/
import Derived.Test.YtfnnoehpahdgcaaGreatDoorHc
import Derived.Test.YtfnnoehpahdgcaaGreatDoorZu
import Derived.Test.YtfnnoehpahdgcaaGreatDoorMx
import Derived.Defers
import Derived.Recover
namespace Go.Proofs.YtfnnoehpahdgcaaGreatDoor.Cl
open Go.RowKit Wd Rp Cu Kp
set_option linter.unusedVariables false
theorem ta_end (v : Value) (w : World) : (Instr.typeAssert (.iface 89 v) 20 89 true).run Tryz.prog w = .ok (.tuple #[v, .bool true]) w := by kernel_rfl
theorem ta_nil (w : World) : (Instr.typeAssert .nilIface 20 89 true).run Tryz.prog w = .ok (.tuple #[.int .i64 0, .bool false]) w := by kernel_rfl
set_option maxHeartbeats 4000000 in
set_option maxRecDepth 100000 in
theorem catch_panic (pc : Nat) (c x : Int) (w : World) (hc : w.cell? ⟨pc, 0, none⟩ = some (.int .i64 x)) (hz : w.frozen? ⟨pc, 0, none⟩ = false) :
    CallsD Tryz.prog 73 #[.pointer (some ⟨pc, 0, none⟩)] (.panicking [endg c]) w fun e u' w' => e = .returned (.tuple #[]) ∧ u' = .panicking [{ v := .iface 89 (.int .i64 c), recovered := true }] ∧ w' = w.setCell ⟨pc, 0, none⟩ (.int .i64 c) := by
  refine callsD_of_wpS Tryz.func73 rfl fun c₀ cs hu => ?_
  have ta := ta_end (.int .i64 c)
  unfold endg at hu
  apply wpS_seq
  apply wpS_region
  simp [wpOpsS, go_sem, recoverD, hu, Tryz.ntmps73, Exit.thenS, ta]
  apply wpS_seq
  apply wpS_region
  simp [wpOpsS, go_sem, Exit.thenS]
  refine wpS_cond (t := true) (by simp [Act.eval]) ?_
  simp only [if_true]
  apply wpS_region
  simp [wpOpsS, go_sem, hc, hz, bodyPostS, results, Tryz.results73]
set_option maxHeartbeats 4000000 in
set_option maxRecDepth 100000 in
theorem catch_idle (pc : Nat) (w : World) :
    CallsD Tryz.prog 73 #[.pointer (some ⟨pc, 0, none⟩)] .returning w fun e u' w' => e = .returned (.tuple #[]) ∧ u' = .returning ∧ w' = w := by
  refine callsD_of_wpS Tryz.func73 rfl fun c₀ cs hu => ?_
  have ta := ta_nil
  apply wpS_seq
  apply wpS_region
  simp [wpOpsS, go_sem, recoverD, hu, Tryz.ntmps73, Exit.thenS, ta]
  apply wpS_seq
  apply wpS_region
  simp [wpOpsS, go_sem, Exit.thenS]
  refine wpS_cond (t := false) (by simp [Act.eval]) ?_
  simp only [Bool.false_eq_true, if_false]
  refine wpS_of_wp (wp_skip ?_)
  cases c₀
  simp_all [bodyPostS, results, Tryz.results73]
theorem VwX.off {p : Nat} {w : World} {a : Option Addr} {cap : Nat} {l : List Bi} (h : VwX p w a cap l) {g : Nat} {x : Int} (hc : w.cell? ⟨g, 0, none⟩ = some (.int .i64 x)) (u : Value) : VwX p (w.setCell ⟨g, 0, none⟩ u) a cap l := by
  obtain ⟨⟨h1, h2, h3, h4⟩, h5⟩ := h
  refine ⟨⟨h1, h2, h3, fun k c hk => ?_⟩, h5⟩
  obtain ⟨g', o, e, hg, hat⟩ := h4 k c hk
  refine ⟨g', o, e, by rw [World.size_setCell]; exact hg, ?_, ?_⟩
  · refine (World.cell?_setCell_other _ _ _ _ (fun e => ?_)).trans hat.1
    have e2 := hat.1
    first
      | rw [e, hc] at e2; cases e2
      | rw [← e, hc] at e2; cases e2
  · refine (World.cell?_setCell_other _ _ _ _ (fun e => ?_)).trans hat.2
    have := congrArg Addr.off e
    simp at this
/-- A store elsewhere. -/
theorem Xm.off {w0 w : World} {p : Nat} {ga : Option Addr} {gc : Nat} {gs : List Int} {st : St0} (h : Xm w0 p ga gc gs st w) {g : Nat} (hg : g ≠ p) (hlo : w0.heap.size ≤ g) {x : Int} (hc : w.cell? ⟨g, 0, none⟩ = some (.int .i64 x)) (u : Value) : Xm w0 p ga gc gs st (w.setCell ⟨g, 0, none⟩ u) := by
  have e : (w.setCell ⟨g, 0, none⟩ u).heap[p]? = w.heap[p]? := Below.heap_setCell w ⟨g, 0, none⟩ u p (fun e => hg e.symm)
  obtain ⟨a, n, c, h1, h2, h3⟩ := h.b
  exact ⟨h.hB, by rw [World.size_setCell]; exact h.hp, by simp only [World.frozen?_setCell]; exact h.fz,
    ⟨a, n, c, (World.cell?_of_block (w := w) e).trans h1, h2, h3.off hc u⟩, (World.cell?_of_block (w := w) e).trans h.g, (World.cell?_of_block (w := w) e).trans h.f,
    h.bw.setCell (p := ⟨g, 0, none⟩) hlo _, h.hg, h.g3, h.L, h.ok, h.th, h.f0⟩
set_option maxHeartbeats 8000000 in
set_option maxRecDepth 100000 in
theorem run_bad (w0 w : World) (p : Nat) (hB : w0.heap.size ≤ p) (hp : p < w.heap.size) (hw0 : Below w0.heap.size w0 w) (hfz : w.frozen? ⟨p, 0, none⟩ = false ∧ w.frozen? ⟨p, 1, none⟩ = false ∧ w.frozen? ⟨p, 2, none⟩ = false) (ba : Option Addr) (bn bc : Nat) (bs : List Bi) (hbn : bs.length = bn) (hbl : bn ≤ 4194304) (c0 : w.cell? ⟨p, 0, none⟩ = some (.slice ba bn bc)) (hb : VwX p w ba bc bs) (ga : Option Addr) (gc gn : Nat) (gs : List Int) (hgn : gs.length = gn) (hgl : gn ≤ 4194304) (c1 : w.cell? ⟨p, 1, none⟩ = some (.slice ga gn gc)) (hg : V1 w0 ga gc (inL gs)) (f : Int) (c2 : w.cell? ⟨p, 2, none⟩ = some (.int .i64 f))
    (a : Option Addr) (cap n : Nat) (l : List Tk) (hn : l.length = n) (hv : V1 w0 a cap (txL l)) (hl : n ≤ 4194304) (hm : ∀ s ∈ l, s.length ≤ 4194304) (hL : Lib3 w0) (h : meB l bs gs f = false) :
    Calls Tryz.prog 46 #[.pointer (some ⟨p, 0, none⟩), .slice a n cap] w fun e w' => e = .returned (.int .i64 5) ∧ But p w w' := by
  have hmf : ∀ (fn : Fn) (first cap : Array Value) (w : World), (Instr.makeFunc fn first cap).run Tryz.prog w = .ok (.func fn first cap) w := fun _ _ _ _ => rfl
  have N1 := new_of w (.cells #[.int .i64 5] 2)
  have hpc : w.heap.size ≠ p := by omega
  obtain ⟨w1, hw1⟩ : ∃ w1, w1 = w.alloc (.cells #[.int .i64 5] 2) := ⟨_, rfl⟩
  rw [← hw1] at N1
  have B1 := Lib.hid (show Below w.heap.size w w1 by rw [hw1]; exact bel1 w _)
  have PC1 := Lib.hid (show w1.cell? ⟨w.heap.size, 0, none⟩ = some (.int .i64 5) ∧ w1.frozen? ⟨w.heap.size, 0, none⟩ = false ∧ w.heap.size < w1.heap.size from
    ⟨by simp only [World.cell?, N1]; rfl, by simp only [World.frozen?, N1]; rfl, by rw [hw1, World.size_alloc]; omega⟩)
  have HW1 := Lib.hid hw1
  have hb01 : Below w0.heap.size w0 w1 := hw0.trans (B1.out.mono hw0.size)
  have HDO := Lib.hid (T.deedsOf_any w0 w1 hb01 a cap l n hn hv hl hm hL)
  have e1 := B1.out.block p hp
  have X1 := Lib.hid (show w1.cell? ⟨p, 0, none⟩ = some (.slice ba bn bc) ∧ w1.cell? ⟨p, 1, none⟩ = some (.slice ga gn gc) ∧ w1.cell? ⟨p, 2, none⟩ = some (.int .i64 f) from ⟨(World.cell?_of_block (w := w) e1).trans c0, (World.cell?_of_block (w := w) e1).trans c1, (World.cell?_of_block (w := w) e1).trans c2⟩)
  have Z1 := Lib.hid (show w1.frozen? ⟨p, 0, none⟩ = false ∧ w1.frozen? ⟨p, 1, none⟩ = false ∧ w1.frozen? ⟨p, 2, none⟩ = false from ⟨(World.frozen?_of_block (w := w) e1).trans hfz.1, (World.frozen?_of_block (w := w) e1).trans hfz.2.1, (World.frozen?_of_block (w := w) e1).trans hfz.2.2⟩)
  have V1b := Lib.hid (hb.but (But.of B1.out))
  have V1g := Lib.hid (hg.below hb01)
  have hp1 : p < w1.heap.size := Nat.lt_of_lt_of_le hp B1.out.size
  clear N1 e1 c0 c1 c2 hb hfz
  have HF := Lib.hid (fun w => fuelOk_any f w)
  have HBU := Lib.hid (fun (z : World) (hz : Below w.heap.size w z) => (But.of hz : But p w z))
  have BUW := Lib.hid (fun (z : World) (hz : Below w.heap.size w z) => (((But.of hz : But p w z).setNew (p := ⟨w.heap.size, 0, none⟩) (Nat.le_refl _) (.int .i64 5)) : But p w (z.setCell ⟨w.heap.size, 0, none⟩ (.int .i64 5))))
  unfold meB at h
  generalize T.rcR l = tr at *
  generalize rcB l = y1 at *
  have HBO := Lib.hid (fun z (hz : VwI z ba bc bs) => implBins_any z ba bc bs bn hbn hz hbl)
  have HGO := Lib.hid (fun z (hz : V1 z ga gc (inL gs)) => givenOk_any z ga gc gs gn hgn hz hgl)
  generalize okI bs = y2 at *
  generalize thB gs = y3 at *
  generalize inB f 0 400 = y4 at *
  go_enter_defers Tryz.func46, Tryz.ntmps46
  go_wp2_with fail
  rw [← HW1.out]
  clear hmf HW1
  generalize w.heap.size = pc at *
  refine HDO.out.mono ?_; rintro e w2 ⟨b, m, c, rfl, b2, -⟩
  have B2 := Lib.hid (B1.out.trans (b2.mono (Nat.le_of_lt PC1.out.2.2)))
  have PC2 := Lib.hid (show w2.cell? ⟨pc, 0, none⟩ = some (.int .i64 5) ∧ w2.frozen? ⟨pc, 0, none⟩ = false ∧ pc < w2.heap.size from ⟨(World.cell?_of_block (w := w1) (b2.block pc PC1.out.2.2)).trans PC1.out.1, (World.frozen?_of_block (w := w1) (b2.block pc PC1.out.2.2)).trans PC1.out.2.1, Nat.lt_of_lt_of_le PC1.out.2.2 b2.size⟩)
  have X2 := Lib.hid (show w2.cell? ⟨p, 0, none⟩ = some (.slice ba bn bc) ∧ w2.cell? ⟨p, 1, none⟩ = some (.slice ga gn gc) ∧ w2.cell? ⟨p, 2, none⟩ = some (.int .i64 f) from ⟨(World.cell?_of_block (w := w1) (b2.block p hp1)).trans X1.out.1, (World.cell?_of_block (w := w1) (b2.block p hp1)).trans X1.out.2.1, (World.cell?_of_block (w := w1) (b2.block p hp1)).trans X1.out.2.2⟩)
  have Z2 := Lib.hid (show w2.frozen? ⟨p, 0, none⟩ = false ∧ w2.frozen? ⟨p, 1, none⟩ = false ∧ w2.frozen? ⟨p, 2, none⟩ = false from ⟨(World.frozen?_of_block (w := w1) (b2.block p hp1)).trans Z1.out.1, (World.frozen?_of_block (w := w1) (b2.block p hp1)).trans Z1.out.2.1, (World.frozen?_of_block (w := w1) (b2.block p hp1)).trans Z1.out.2.2⟩)
  have V2b := Lib.hid (V1b.out.but (But.of b2))
  have V2g := Lib.hid (V1g.out.below b2)
  have hp2 : p < w2.heap.size := Nat.lt_of_lt_of_le hp1 b2.size
  clear b2
  cases y1
  · go_wp2_with fail
    refine (req_no _ 5).mono ?_; rintro e z ⟨rfl, rfl⟩
    refine leaves_cons (f := 73) (args := #[.pointer (some ⟨pc, 0, none⟩)]) (by simp) (by simp [go_sem]) ?_
    refine (catch_panic pc 5 _ _ PC2.out.1 PC2.out.2.1).mono ?_; rintro e u' w9 ⟨rfl, rfl, rfl⟩
    refine ⟨.int .i64 5, ?_, ?_⟩
    · have hcc := World.cell?_setCell_same' (w := w2) (a := ⟨pc, 0, none⟩) (v := .int .i64 5) (by rw [PC2.out.1]; rfl)
      simp [results, Tryz.results46, go_sem, PC2.out.1]
    · exact ⟨rfl, BUW.out _ B2.out⟩
  · have x2 := X2.out.1
    have x2' := X2.out.2.1
    have x2'' := X2.out.2.2
    go_wp2_with fail
    refine (HBO.out _ V2b.out.1).mono ?_; rintro e w3 ⟨rfl, b3⟩
    have B3 := Lib.hid (B2.out.trans (b3.mono (Nat.le_of_lt PC2.out.2.2)))
    have PC3 := Lib.hid (show w3.cell? ⟨pc, 0, none⟩ = some (.int .i64 5) ∧ w3.frozen? ⟨pc, 0, none⟩ = false ∧ pc < w3.heap.size from ⟨(World.cell?_of_block (w := w2) (b3.block pc PC2.out.2.2)).trans PC2.out.1, (World.frozen?_of_block (w := w2) (b3.block pc PC2.out.2.2)).trans PC2.out.2.1, Nat.lt_of_lt_of_le PC2.out.2.2 b3.size⟩)
    have X3 := Lib.hid (show w3.cell? ⟨p, 0, none⟩ = some (.slice ba bn bc) ∧ w3.cell? ⟨p, 1, none⟩ = some (.slice ga gn gc) ∧ w3.cell? ⟨p, 2, none⟩ = some (.int .i64 f) from ⟨(World.cell?_of_block (w := w2) (b3.block p hp2)).trans X2.out.1, (World.cell?_of_block (w := w2) (b3.block p hp2)).trans X2.out.2.1, (World.cell?_of_block (w := w2) (b3.block p hp2)).trans X2.out.2.2⟩)
    have Z3 := Lib.hid (show w3.frozen? ⟨p, 0, none⟩ = false ∧ w3.frozen? ⟨p, 1, none⟩ = false ∧ w3.frozen? ⟨p, 2, none⟩ = false from ⟨(World.frozen?_of_block (w := w2) (b3.block p hp2)).trans Z2.out.1, (World.frozen?_of_block (w := w2) (b3.block p hp2)).trans Z2.out.2.1, (World.frozen?_of_block (w := w2) (b3.block p hp2)).trans Z2.out.2.2⟩)
    have V3b := Lib.hid (V2b.out.but (But.of b3))
    have V3g := Lib.hid (V2g.out.below b3)
    have hp3 : p < w3.heap.size := Nat.lt_of_lt_of_le hp2 b3.size
    clear b3 x2 x2' x2''
    have x3' := X3.out.2.1
    have x3'' := X3.out.2.2
    cases y2
    · go_wp2_with fail
      refine (req_no _ 5).mono ?_; rintro e z ⟨rfl, rfl⟩
      refine leaves_cons (f := 73) (args := #[.pointer (some ⟨pc, 0, none⟩)]) (by simp) (by simp [go_sem]) ?_
      refine (catch_panic pc 5 _ _ PC3.out.1 PC3.out.2.1).mono ?_; rintro e u' w9 ⟨rfl, rfl, rfl⟩
      refine ⟨.int .i64 5, ?_, ?_⟩
      · have hcc := World.cell?_setCell_same' (w := w3) (a := ⟨pc, 0, none⟩) (v := .int .i64 5) (by rw [PC3.out.1]; rfl)
        simp [results, Tryz.results46, go_sem, PC3.out.1]
      · exact ⟨rfl, BUW.out _ B3.out⟩
    · go_wp2_with fail
      refine (HGO.out _ V3g.out).mono ?_; rintro e w4 ⟨rfl, rfl⟩
      cases y3
      · go_wp2_with fail
        refine (req_no _ 5).mono ?_; rintro e z ⟨rfl, rfl⟩
        refine leaves_cons (f := 73) (args := #[.pointer (some ⟨pc, 0, none⟩)]) (by simp) (by simp [go_sem]) ?_
        refine (catch_panic pc 5 _ _ PC3.out.1 PC3.out.2.1).mono ?_; rintro e u' w9 ⟨rfl, rfl, rfl⟩
        refine ⟨.int .i64 5, ?_, ?_⟩
        · have hcc := World.cell?_setCell_same' (w := w3) (a := ⟨pc, 0, none⟩) (v := .int .i64 5) (by rw [PC3.out.1]; rfl)
          simp [results, Tryz.results46, go_sem, PC3.out.1]
        · exact ⟨rfl, BUW.out _ B3.out⟩
      · go_wp2_with fail
        refine (HF.out _).mono ?_; rintro e w4 ⟨rfl, rfl⟩
        have hy : y4 = false := h
        subst hy
        go_wp2_with fail
        refine (req_no _ 5).mono ?_; rintro e z ⟨rfl, rfl⟩
        refine leaves_cons (f := 73) (args := #[.pointer (some ⟨pc, 0, none⟩)]) (by simp) (by simp [go_sem]) ?_
        refine (catch_panic pc 5 _ _ PC3.out.1 PC3.out.2.1).mono ?_; rintro e u' w9 ⟨rfl, rfl, rfl⟩
        refine ⟨.int .i64 5, ?_, ?_⟩
        · have hcc := World.cell?_setCell_same' (w := w3) (a := ⟨pc, 0, none⟩) (v := .int .i64 5) (by rw [PC3.out.1]; rfl)
          simp [results, Tryz.results46, go_sem, PC3.out.1]
        · exact ⟨rfl, BUW.out _ B3.out⟩
set_option maxHeartbeats 8000000 in
set_option maxRecDepth 100000 in
theorem run_ok (w0 w : World) (p : Nat) (hB : w0.heap.size ≤ p) (hp : p < w.heap.size) (hw0 : Below w0.heap.size w0 w) (hfz : w.frozen? ⟨p, 0, none⟩ = false ∧ w.frozen? ⟨p, 1, none⟩ = false ∧ w.frozen? ⟨p, 2, none⟩ = false) (ba : Option Addr) (bn bc : Nat) (bs : List Bi) (hbn : bs.length = bn) (hbl : bn ≤ 4194304) (c0 : w.cell? ⟨p, 0, none⟩ = some (.slice ba bn bc)) (hb : VwX p w ba bc bs) (ga : Option Addr) (gc gn : Nat) (gs : List Int) (hgn : gs.length = gn) (hgl : gn ≤ 4194304) (c1 : w.cell? ⟨p, 1, none⟩ = some (.slice ga gn gc)) (hg : V1 w0 ga gc (inL gs)) (f : Int) (c2 : w.cell? ⟨p, 2, none⟩ = some (.int .i64 f))
    (a : Option Addr) (cap n : Nat) (l : List Tk) (hn : l.length = n) (hv : V1 w0 a cap (txL l)) (hl : n ≤ 4194304) (hm : ∀ s ∈ l, s.length ≤ 4194304) (hL : Lib3 w0) (h : meB l bs gs f = true) (t : Sl) (hw : t.wf 5) (ht : l = t.fl) :
    Calls Tryz.prog 46 #[.pointer (some ⟨p, 0, none⟩), .slice a n cap] w fun e w' => e = .returned (.int .i64 (t.run gs ⟨0, bs, f⟩).c) ∧ But p w w' ∧ ((t.run gs ⟨0, bs, f⟩).c = 0 → Xm w0 p ga gc gs (t.run gs ⟨0, bs, f⟩) w') := by
  have hmf : ∀ (fn : Fn) (first cap : Array Value) (w : World), (Instr.makeFunc fn first cap).run Tryz.prog w = .ok (.func fn first cap) w := fun _ _ _ _ => rfl
  have N1 := new_of w (.cells #[.int .i64 5] 2)
  have hpc : w.heap.size ≠ p := by omega
  obtain ⟨w1, hw1⟩ : ∃ w1, w1 = w.alloc (.cells #[.int .i64 5] 2) := ⟨_, rfl⟩
  rw [← hw1] at N1
  have B1 := Lib.hid (show Below w.heap.size w w1 by rw [hw1]; exact bel1 w _)
  have PC1 := Lib.hid (show w1.cell? ⟨w.heap.size, 0, none⟩ = some (.int .i64 5) ∧ w1.frozen? ⟨w.heap.size, 0, none⟩ = false ∧ w.heap.size < w1.heap.size from
    ⟨by simp only [World.cell?, N1]; rfl, by simp only [World.frozen?, N1]; rfl, by rw [hw1, World.size_alloc]; omega⟩)
  have HW1 := Lib.hid hw1
  have hb01 : Below w0.heap.size w0 w1 := hw0.trans (B1.out.mono hw0.size)
  have HDO := Lib.hid (T.deedsOf_any w0 w1 hb01 a cap l n hn hv hl hm hL)
  have e1 := B1.out.block p hp
  have X1 := Lib.hid (show w1.cell? ⟨p, 0, none⟩ = some (.slice ba bn bc) ∧ w1.cell? ⟨p, 1, none⟩ = some (.slice ga gn gc) ∧ w1.cell? ⟨p, 2, none⟩ = some (.int .i64 f) from ⟨(World.cell?_of_block (w := w) e1).trans c0, (World.cell?_of_block (w := w) e1).trans c1, (World.cell?_of_block (w := w) e1).trans c2⟩)
  have Z1 := Lib.hid (show w1.frozen? ⟨p, 0, none⟩ = false ∧ w1.frozen? ⟨p, 1, none⟩ = false ∧ w1.frozen? ⟨p, 2, none⟩ = false from ⟨(World.frozen?_of_block (w := w) e1).trans hfz.1, (World.frozen?_of_block (w := w) e1).trans hfz.2.1, (World.frozen?_of_block (w := w) e1).trans hfz.2.2⟩)
  have V1b := Lib.hid (hb.but (But.of B1.out))
  have V1g := Lib.hid (hg.below hb01)
  have hp1 : p < w1.heap.size := Nat.lt_of_lt_of_le hp B1.out.size
  clear N1 e1 c0 c1 c2 hb hfz
  have HF := Lib.hid (fun w => fuelOk_any f w)
  have HBU := Lib.hid (fun (z : World) (hz : Below w.heap.size w z) => (But.of hz : But p w z))
  have hlo : w0.heap.size ≤ w.heap.size := hw0.size
  have BUW := Lib.hid (fun (z : World) (x : Int) (hz : But p w z) => ((hz.setNew (p := ⟨w.heap.size, 0, none⟩) (Nat.le_refl _) (.int .i64 x)) : But p w (z.setCell ⟨w.heap.size, 0, none⟩ (.int .i64 x))))
  have hbd : Bd t.fl := by rw [← ht]; exact ⟨by omega, hm⟩
  have hrc : T.rcR l = t := by rw [ht]; exact T.rc_det hw
  rw [hrc] at HDO
  unfold meB at h
  rw [Bool.and_eq_true, Bool.and_eq_true, Bool.and_eq_true] at h
  obtain ⟨h1, h2, h3, h4⟩ := h
  have HBO := Lib.hid (fun z (hz : VwI z ba bc bs) => implBins_any z ba bc bs bn hbn hz hbl)
  have HGO := Lib.hid (fun z (hz : V1 z ga gc (inL gs)) => givenOk_any z ga gc gs gn hgn hz hgl)
  have hg3 : gs.length = 3 := by unfold thB at h3; rw [Bool.and_eq_true, decide_eq_true_eq] at h3; exact h3.2
  have hf04 : 0 ≤ f ∧ f ≤ 400 := by unfold inB at h4; rw [Bool.and_eq_true, decide_eq_true_eq, decide_eq_true_eq] at h4; exact h4
  obtain rfl : gn = 3 := by omega
  have HXM := Lib.hid (fun (z : World) (hz : w1.heap.size ≤ z.heap.size) (hb : Below w1.heap.size w1 z) (vb : VwX p z ba bc bs) (cc : z.cell? ⟨p, 0, none⟩ = some (.slice ba bn bc) ∧ z.cell? ⟨p, 1, none⟩ = some (.slice ga (3 : Nat) gc) ∧ z.cell? ⟨p, 2, none⟩ = some (.int .i64 f)) (zz : z.frozen? ⟨p, 0, none⟩ = false ∧ z.frozen? ⟨p, 1, none⟩ = false ∧ z.frozen? ⟨p, 2, none⟩ = false) =>
    (⟨hB, Nat.lt_of_lt_of_le hp1 hz, zz, ⟨ba, bn, bc, cc.1, hbn, vb⟩, cc.2.1, cc.2.2, hb01.trans (hb.mono hb01.size), hg, hg3, hL, h2, h3, hf04⟩ : Xm w0 p ga gc gs ⟨0, bs, f⟩ z))
  have HDS := Lib.hid (deedsX_of w0 p ga gc gs w1.heap.size t (Sl.runX w0 p ga gc gs w1.heap.size t hw hbd))
  rw [h1] at HDO
  rw [h2] at HBO
  rw [h3] at HGO
  rw [h4] at HF
  clear hm hv hrc ht hw hbd h1 h2 h3 h4 hf04 hg hg3 hgl hbl hw0 hb01 hL hl hB
  obtain ⟨fin, hfin⟩ : ∃ r, t.run gs ⟨0, bs, f⟩ = r := ⟨_, rfl⟩
  rw [hfin]
  have HFIN := Lib.hid hfin; clear hfin
  go_enter_defers Tryz.func46, Tryz.ntmps46
  go_wp2_with fail
  rw [← HW1.out]
  clear hmf HW1
  generalize w.heap.size = pc at *
  refine HDO.out.mono ?_; rintro e w2 ⟨b, m, c, rfl, b2, hdm⟩
  have DM2 := Lib.hid (hdm (by first | exact trivial | rfl))
  have C2 := Lib.hid b2
  have B2 := Lib.hid (B1.out.trans (b2.mono (Nat.le_of_lt PC1.out.2.2)))
  have PC2 := Lib.hid (show w2.cell? ⟨pc, 0, none⟩ = some (.int .i64 5) ∧ w2.frozen? ⟨pc, 0, none⟩ = false ∧ pc < w2.heap.size from ⟨(World.cell?_of_block (w := w1) (b2.block pc PC1.out.2.2)).trans PC1.out.1, (World.frozen?_of_block (w := w1) (b2.block pc PC1.out.2.2)).trans PC1.out.2.1, Nat.lt_of_lt_of_le PC1.out.2.2 b2.size⟩)
  have X2 := Lib.hid (show w2.cell? ⟨p, 0, none⟩ = some (.slice ba bn bc) ∧ w2.cell? ⟨p, 1, none⟩ = some (.slice ga (3 : Nat) gc) ∧ w2.cell? ⟨p, 2, none⟩ = some (.int .i64 f) from ⟨(World.cell?_of_block (w := w1) (b2.block p hp1)).trans X1.out.1, (World.cell?_of_block (w := w1) (b2.block p hp1)).trans X1.out.2.1, (World.cell?_of_block (w := w1) (b2.block p hp1)).trans X1.out.2.2⟩)
  have Z2 := Lib.hid (show w2.frozen? ⟨p, 0, none⟩ = false ∧ w2.frozen? ⟨p, 1, none⟩ = false ∧ w2.frozen? ⟨p, 2, none⟩ = false from ⟨(World.frozen?_of_block (w := w1) (b2.block p hp1)).trans Z1.out.1, (World.frozen?_of_block (w := w1) (b2.block p hp1)).trans Z1.out.2.1, (World.frozen?_of_block (w := w1) (b2.block p hp1)).trans Z1.out.2.2⟩)
  have V2b := Lib.hid (V1b.out.but (But.of b2))
  have V2g := Lib.hid (V1g.out.below b2)
  have hp2 : p < w2.heap.size := Nat.lt_of_lt_of_le hp1 b2.size
  clear b2 hdm
  have x2 := X2.out.1
  have x2' := X2.out.2.1
  have x2'' := X2.out.2.2
  go_wp2_with fail
  refine (HBO.out _ V2b.out.1).mono ?_; rintro e w3 ⟨rfl, b3⟩
  have C3 := Lib.hid (C2.out.trans (b3.mono C2.out.size))
  have DM3 := Lib.hid (T.DM.but hp1 (But.of b3) DM2.out)
  have B3 := Lib.hid (B2.out.trans (b3.mono (Nat.le_of_lt PC2.out.2.2)))
  have PC3 := Lib.hid (show w3.cell? ⟨pc, 0, none⟩ = some (.int .i64 5) ∧ w3.frozen? ⟨pc, 0, none⟩ = false ∧ pc < w3.heap.size from ⟨(World.cell?_of_block (w := w2) (b3.block pc PC2.out.2.2)).trans PC2.out.1, (World.frozen?_of_block (w := w2) (b3.block pc PC2.out.2.2)).trans PC2.out.2.1, Nat.lt_of_lt_of_le PC2.out.2.2 b3.size⟩)
  have X3 := Lib.hid (show w3.cell? ⟨p, 0, none⟩ = some (.slice ba bn bc) ∧ w3.cell? ⟨p, 1, none⟩ = some (.slice ga (3 : Nat) gc) ∧ w3.cell? ⟨p, 2, none⟩ = some (.int .i64 f) from ⟨(World.cell?_of_block (w := w2) (b3.block p hp2)).trans X2.out.1, (World.cell?_of_block (w := w2) (b3.block p hp2)).trans X2.out.2.1, (World.cell?_of_block (w := w2) (b3.block p hp2)).trans X2.out.2.2⟩)
  have Z3 := Lib.hid (show w3.frozen? ⟨p, 0, none⟩ = false ∧ w3.frozen? ⟨p, 1, none⟩ = false ∧ w3.frozen? ⟨p, 2, none⟩ = false from ⟨(World.frozen?_of_block (w := w2) (b3.block p hp2)).trans Z2.out.1, (World.frozen?_of_block (w := w2) (b3.block p hp2)).trans Z2.out.2.1, (World.frozen?_of_block (w := w2) (b3.block p hp2)).trans Z2.out.2.2⟩)
  have V3b := Lib.hid (V2b.out.but (But.of b3))
  have V3g := Lib.hid (V2g.out.below b3)
  have hp3 : p < w3.heap.size := Nat.lt_of_lt_of_le hp2 b3.size
  clear b3 x2 x2' x2''
  have x3' := X3.out.2.1
  have x3'' := X3.out.2.2
  go_wp2_with fail
  refine (HGO.out _ V3g.out).mono ?_; rintro e w4 ⟨rfl, rfl⟩
  go_wp2_with fail
  refine (HF.out _).mono ?_; rintro e w4 ⟨rfl, rfl⟩
  go_wp2_with fail
  refine (req_yes _ 5).mono ?_; rintro e w4 ⟨rfl, rfl⟩
  have HXX := Lib.hid (HXM.out w3 C3.out.size C3.out V3b.out X3.out Z3.out)
  have HRUN := Lib.hid (HDS.out 6 _ ⟨0, bs, f⟩ w3 rfl hp1 HXX.out DM3.out)
  rw [HFIN.out] at HRUN
  clear x3' x3''
  go_wp2_with fail
  refine HRUN.out.mono ?_; rintro e w4 ⟨b4, h4, k4⟩
  have PC4 := Lib.hid (show w4.cell? ⟨pc, 0, none⟩ = some (.int .i64 5) ∧ w4.frozen? ⟨pc, 0, none⟩ = false ∧ pc < w4.heap.size from ⟨(b4.cell (p := ⟨pc, 0, none⟩) PC3.out.2.2 hpc).trans PC3.out.1, (b4.frozen (p := ⟨pc, 0, none⟩) PC3.out.2.2 hpc).trans PC3.out.2.1, Nat.lt_of_lt_of_le PC3.out.2.2 b4.size⟩)
  have BU4 := Lib.hid ((HBU.out _ B3.out).trans b4)
  by_cases hz : fin.c = 0
  · obtain ⟨rfl, x4⟩ := h4 hz
    have X4 := Lib.hid x4
    have XN := Lib.hid (fun x => X4.out.off (g := pc) hpc hlo PC4.out.1 (.int .i64 x))
    have pc4 := PC4.out.1
    have pf4 := PC4.out.2.1
    clear b4 h4 k4 x4
    go_wp2_with fail
    refine leaves_cons (f := 73) (args := #[.pointer (some ⟨pc, 0, none⟩)]) (by simp) (by simp [go_sem]) ?_
    refine (catch_idle pc _).mono ?_; rintro e u' w9 ⟨rfl, rfl, rfl⟩
    refine ⟨.int .i64 fin.c, ?_, ?_⟩
    · rw [hz]; simp [results, Tryz.results46, go_sem, PC4.out.1]
    · exact ⟨rfl, BUW.out _ _ BU4.out, fun _ => XN.out 0⟩
  · obtain rfl := k4 hz
    refine leaves_cons (f := 73) (args := #[.pointer (some ⟨pc, 0, none⟩)]) (by simp) (by simp [go_sem]) ?_
    refine (catch_panic pc fin.c _ _ PC4.out.1 PC4.out.2.1).mono ?_; rintro e u' w9 ⟨rfl, rfl, rfl⟩
    refine ⟨.int .i64 fin.c, ?_, ?_⟩
    · have hcc := World.cell?_setCell_same' (w := w4) (a := ⟨pc, 0, none⟩) (v := .int .i64 fin.c) (by rw [PC4.out.1]; rfl)
      simp [results, Tryz.results46, go_sem, PC4.out.1]
    · exact ⟨rfl, BUW.out _ _ BU4.out, fun e => absurd e hz⟩
set_option maxHeartbeats 2000000 in
set_option maxRecDepth 100000 in
theorem cloneB_any (w : World) (a : Option Addr) (cap : Nat) (l : List Bi) (n : Nat) (hn : l.length = n) (hv : VwI w a cap l) (hl : n ≤ 4194304) :
    Calls Tryz.prog 47 #[.slice a n cap] w fun e w' => ∃ v, e = .returned v ∧ OwI w.heap.size w' v l ∧ Below w.heap.size w w' := by
  subst hn
  have hT : Tryz.prog.underlying 25 = some (.slice 44) := Tryz.underlying25
  have hq : ∀ w, (binOp .eql 25 (.slice a l.length cap) (.slice none 0 0)).run Tryz.prog w = .ok (.bool a.isNone) w := fun w => Lib.run_eql_slice_nil w _ _ a l.length cap 0 0 hT
  cases a with
  | none =>
    have hc := hv.2.2.1 rfl
    have hm : l = [] := List.length_eq_zero_iff.1 (by have := hv.1; omega)
    subst hm hc
    replace hq : ∀ w, (binOp .eql 25 (.slice none 0 0) (.slice none 0 0)).run Tryz.prog w = .ok (.bool true) w := hq
    go_enter Tryz.func47, Tryz.ntmps47
    go_wp2_with fail
    go_ret
    exact ⟨_, rfl, OwI.nothing _ _, Below.refl _ _⟩
  | some ad =>
    have HV := Lib.hid hv; clear hv
    replace hq : ∀ w, (binOp .eql 25 (.slice (some ad) l.length cap) (.slice none 0 0)).run Tryz.prog w = .ok (.bool false) w := hq
    go_enter Tryz.func47, Tryz.ntmps47
    go_wp2_with (first
      | (at_builtin; refine append_binsT rfl (.tmp 5) (.tmp 6) 25 hT rfl (base := w.heap.size) (l := []) (m := l) rfl rfl rfl (OwI.start (Nat.le_refl _)) (HV.out.below (bel1 _ _)) (by simp; omega) (by simp) ?_; intro v1 w1 hown1 hgrow1))
    go_ret
    exact ⟨_, rfl, hown1, (bel1 w _).grown hgrow1 (by simp) (fun j hj => OwI.lt (OwI.start (Nat.le_refl _)) j hj)⟩
end Go.Proofs.YtfnnoehpahdgcaaGreatDoor.Cl
