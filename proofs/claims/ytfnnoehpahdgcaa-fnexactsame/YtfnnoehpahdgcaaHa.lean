/-
  Ends of recipes: contracts of laws.szEnd, toEnd, eqEnd, markEnd, heldEnd, likeEnd.
-/
import Derived.Test.YtfnnoehpahdgcaaIl
namespace Go.Proofs.Ytfnnoehpahdgcaa.Cl
open Go.RowKit Wd Rp Kp
set_option linter.unusedVariables false
theorem grown_ofE {w w' : World} {row : Option Nat} (h : Below w.heap.size w w') : w.grownBy w' row := ⟨h.os, h.tape, h.output, h.size, fun k hk _ => h.block k hk⟩
theorem grown_transE {w x y : World} {r : Option Nat} (h : w.grownBy x r) (k : x.grownBy y r) : w.grownBy y r := ⟨k.os.trans h.os, k.tape.trans h.tape, k.output.trans h.output, Nat.le_trans h.size k.size, fun i hi hne => (k.block i (Nat.lt_of_lt_of_le hi h.size) hne).trans (h.block i hi hne)⟩
theorem Tri.grown {q : Nat} {x y z : Value} {w w' : World} {row : Option Nat} (h : Tri q x y z w) (hg : w.grownBy w' row) (hne : row ≠ some q) : Tri q x y z w' := by
  have e := hg.block q h.2.2 (fun e => hne e.symm)
  obtain ⟨⟨h0, h1, h2⟩, ⟨f0, f1, f2⟩, hl⟩ := h
  exact ⟨⟨(World.cell?_of_block (w := w) e).trans h0, (World.cell?_of_block (w := w) e).trans h1, (World.cell?_of_block (w := w) e).trans h2⟩, ⟨(World.frozen?_of_block (w := w) e).trans f0, (World.frozen?_of_block (w := w) e).trans f1, (World.frozen?_of_block (w := w) e).trans f2⟩, Nat.lt_of_lt_of_le hl hg.size⟩
set_option maxHeartbeats 1000000 in
set_option maxRecDepth 100000 in
theorem szEnd_any (w : World) (c : Int) (a : Option Addr) (cap : Nat) (l : List Bi) (f : Int) (L : Nat) (n : Int) (hL : l.length = L) (hv : VwI w a cap l) (hm : ∀ c ∈ l, c.n.size ≤ 9223372036854775807) (h0 : 0 ≤ n) (hn : n ≤ 1048576) :
    Calls Try.prog 4 #[.agg #[.int .i64 c, .slice a L cap, .int .i64 f], .int .i64 n] w (SzI l n w) := by
  have hbl := bel1 w (.cells #[.int .i64 c, .slice a L cap, .int .i64 f] 24)
  have HS := Lib.hid (szBinS_any _ a cap l L n hL (hv.below hbl) hm h0 hn)
  have HB := Lib.hid hbl
  clear hbl hv hm
  go_enter Try.func4, Try.ntmps4
  go_wp2_with fail
  refine HS.out.mono ?_; rintro e w1 ⟨z, rfl, b1, hz⟩
  have B1 := Lib.hid (bel_tr HB.out b1 (Nat.le_refl _))
  clear b1
  by_cases hz0 : z < 0
  · clear hz
    go_wp2_with fail
    go_ret
    exact ⟨-1, rfl, B1.out, Or.inl (by decide)⟩
  · have HZ := Lib.hid hz
    clear hz
    go_wp2_with fail
    go_ret
    exact ⟨z, rfl, B1.out, HZ.out⟩
theorem set12 {q T : Nat} {x y z : Value} {w : World} (h : Tri q x y z w) (y' z' : Value) : Tri q x y' z' ((w.setCell ⟨q, 1, none⟩ y').setCell ⟨q, 2, none⟩ z') := by
  obtain ⟨⟨h0, h1, h2⟩, ⟨f0, f1, f2⟩, hl⟩ := h
  have o1 : ∀ {i j : Nat}, i ≠ j → (⟨q, i, none⟩ : Addr) ≠ ⟨q, j, none⟩ := fun h e => h (congrArg Addr.off e)
  refine ⟨⟨?_, ?_, ?_⟩, by simp only [World.frozen?_setCell]; exact ⟨f0, f1, f2⟩, by rw [World.size_setCell, World.size_setCell]; exact hl⟩
  · rw [World.cell?_setCell_other _ _ _ _ (o1 (by decide)), World.cell?_setCell_other _ _ _ _ (o1 (by decide))]; exact h0
  · rw [World.cell?_setCell_other _ _ _ _ (o1 (by decide))]; exact World.cell?_setCell_same' _ _ _ (by rw [h1]; rfl)
  · exact World.cell?_setCell_same' _ _ _ (by rw [World.cell?_setCell_other _ _ _ _ (o1 (by decide)), h2]; rfl)
set_option maxHeartbeats 4000000 in
set_option maxRecDepth 100000 in
theorem toEnd_is (w : World) (c : Int) (a : Option Addr) (cap : Nat) (l : List Bi) (f : Int) (L : Nat) (hL : l.length = L) (hv : VwI w a cap l) (hl : L ≤ 1048576) :
    Calls Try.prog 6 #[.agg #[.int .i64 c, .slice a L cap, .int .i64 f]] w fun e w' => ∃ g, e = .returned (.agg #[.int .i64 c, .slice (some ⟨g, 0, none⟩) L L, .int .i64 f]) ∧ OwI w.heap.size w' (.slice (some ⟨g, 0, none⟩) L L) l ∧ Below w.heap.size w w' := by
  have hbl := bel3 w (.cells #[.int .i64 c, .slice a L cap, .int .i64 f] 24) (.cells #[.int .i64 0, .slice none 0 0, .int .i64 0] 29) (.cells #[.int .i64 c, .slice none 0 0, .int .i64 0] 29)
  have N1 := Tri.made (.int .i64 c) (.slice a L cap) (.int .i64 f) w 24
  have N2 := Tri.made (.int .i64 0) (.slice none 0 0) (.int .i64 0) (w.alloc (.cells #[.int .i64 c, .slice a L cap, .int .i64 f] 24)) 29
  have N3 := Tri.made (.int .i64 c) (.slice none 0 0) (.int .i64 0) ((w.alloc (.cells #[.int .i64 c, .slice a L cap, .int .i64 f] 24)).alloc (.cells #[.int .i64 0, .slice none 0 0, .int .i64 0] 29)) 29
  have HQ := Lib.hid ((N1.below (bel1 _ (.cells #[.int .i64 0, .slice none 0 0, .int .i64 0] 29)) N1.2.2).below (bel1 _ (.cells #[.int .i64 c, .slice none 0 0, .int .i64 0] 29)) (by rw [World.size_alloc]; have := N1.2.2; omega))
  have HR := Lib.hid (N2.below (bel1 _ (.cells #[.int .i64 c, .slice none 0 0, .int .i64 0] 29)) N2.2.2)
  have HO := Lib.hid N3
  have hz1 : (w.alloc (.cells #[.int .i64 c, .slice a L cap, .int .i64 f] 24)).heap.size = w.heap.size + 1 := World.size_alloc _ _
  have hz2 : ((w.alloc (.cells #[.int .i64 c, .slice a L cap, .int .i64 f] 24)).alloc (.cells #[.int .i64 0, .slice none 0 0, .int .i64 0] 29)).heap.size = w.heap.size + 1 + 1 := by rw [World.size_alloc, World.size_alloc]
  rw [hz1] at HR
  rw [hz2] at HO
  have BB := Lib.hid hbl
  have HT := Lib.hid (toBinS_is _ a cap l L hL (hv.below hbl) hl)
  clear N1 N2 N3 hbl hv
  go_enter Try.func6, Try.ntmps6
  go_wp2_with fail
  refine HT.out.mono ?_; rintro e w3 ⟨g, rfl, -, o3, b3⟩
  have T1 := HQ.out.below b3 HQ.out.2.2
  have TR := HR.out.below b3 HR.out.2.2
  have TO := HO.out.below b3 HO.out.2.2
  have hg0 : w.heap.size + 1 + 1 < g := by have := OwI.lt o3 g rfl; have := HO.out.2.2; omega
  have O3 := Lib.hid o3
  have B3 := Lib.hid (bel_tr BB.out b3 (Nat.le_refl _))
  have TO2 := set12 (T := 0) TO (.slice (some ⟨g, 0, none⟩) L L) (.int .i64 f)
  obtain ⟨⟨p0, p1, p2⟩, -, -⟩ := TO2
  obtain ⟨⟨q0, q1, q2⟩, ⟨r0, r1, r2⟩, -⟩ := TO
  obtain ⟨⟨l0, l1, l2⟩, -, -⟩ := T1
  have hne : w.heap.size + 1 ≠ w.heap.size + 1 + 1 := by omega
  have TR2 : Tri (w.heap.size + 1) (.int .i64 0) (.slice none 0 0) (.int .i64 0) ((w3.setCell ⟨w.heap.size + 1 + 1, 1, none⟩ (.slice (some ⟨g, 0, none⟩) L L)).setCell ⟨w.heap.size + 1 + 1, 2, none⟩ (.int .i64 f)) := by
    have e : ((w3.setCell ⟨w.heap.size + 1 + 1, 1, none⟩ (.slice (some ⟨g, 0, none⟩) L L)).setCell ⟨w.heap.size + 1 + 1, 2, none⟩ (.int .i64 f)).heap[w.heap.size + 1]? = w3.heap[w.heap.size + 1]? := (Below.heap_setCell _ _ _ _ hne).trans (Below.heap_setCell _ _ _ _ hne)
    obtain ⟨⟨h0, h1, h2⟩, ⟨f0, f1, f2⟩, hl3⟩ := TR
    exact ⟨⟨(World.cell?_of_block (w := w3) e).trans h0, (World.cell?_of_block (w := w3) e).trans h1, (World.cell?_of_block (w := w3) e).trans h2⟩, ⟨(World.frozen?_of_block (w := w3) e).trans f0, (World.frozen?_of_block (w := w3) e).trans f1, (World.frozen?_of_block (w := w3) e).trans f2⟩, by rw [World.size_setCell, World.size_setCell]; exact hl3⟩
  have TRH := Lib.hid TR2
  obtain ⟨⟨s0, s1, s2⟩, ⟨u0, u1, u2⟩, -⟩ := TR2
  obtain ⟨⟨v0, v1, v2⟩, -, -⟩ := TRH.out.put3 (x' := .int .i64 c) (y' := .slice (some ⟨g, 0, none⟩) L L) (z' := .int .i64 f)
  clear b3 o3 TR
  go_wp2_with fail
  refine bodyPost_ret (v := .agg #[.int .i64 c, .slice (some ⟨g, 0, none⟩) L L, .int .i64 f]) (by simp only [put3] at v0 v1 v2; simp [results, Try.results6, go_sem, v0, v1, v2]) rfl ⟨g, rfl, ?_, ?_⟩
  · exact (row_next O3.out fun k hk _ => by
      cases hk
      exact (put3_block _ _ g _ _ _ (by omega)).trans ((Below.heap_setCell _ _ _ g (show g ≠ w.heap.size + 1 + 1 by omega)).trans (Below.heap_setCell _ _ _ g (show g ≠ w.heap.size + 1 + 1 by omega)))).mono BB.out.size
  · exact put3_below ((B3.out.setCell (p := ⟨w.heap.size + 1 + 1, 1, none⟩) (show w.heap.size ≤ w.heap.size + 1 + 1 by omega) _).setCell (p := ⟨w.heap.size + 1 + 1, 2, none⟩) (show w.heap.size ≤ w.heap.size + 1 + 1 by omega) _) (Nat.le_succ _)
set_option maxHeartbeats 1000000 in
set_option maxRecDepth 100000 in
theorem eqEnd_same (w : World) (c f : Int) (a b : Option Addr) (ca cb : Nat) (l : List Bi) (n : Nat) (hn : l.length = n) (hv : VwI w a ca l) (hu : VwI w b cb l) (hl : n ≤ 4194304) :
    Calls Try.prog 8 #[.agg #[.int .i64 c, .slice a n ca, .int .i64 f], .agg #[.int .i64 c, .slice b n cb, .int .i64 f]] w fun e w' => e = .returned (.bool true) ∧ Below w.heap.size w w' := by
  have hbl := bel2 w (.cells #[.int .i64 c, .slice a n ca, .int .i64 f] 29) (.cells #[.int .i64 c, .slice b n cb, .int .i64 f] 29)
  have N1 := Tri.made (.int .i64 c) (.slice a n ca) (.int .i64 f) w 29
  have N2 := Tri.made (.int .i64 c) (.slice b n cb) (.int .i64 f) (w.alloc (.cells #[.int .i64 c, .slice a n ca, .int .i64 f] 29)) 29
  have HQ := Lib.hid (N1.below (bel1 _ (.cells #[.int .i64 c, .slice b n cb, .int .i64 f] 29)) N1.2.2)
  have hz1 : (w.alloc (.cells #[.int .i64 c, .slice a n ca, .int .i64 f] 29)).heap.size = w.heap.size + 1 := World.size_alloc _ _
  rw [hz1] at N2
  have HQ1 := Lib.hid N2
  have HE := Lib.hid (eqBinS_same _ a b ca cb l n hn (hv.below hbl) (hu.below hbl) hl)
  have BB := Lib.hid hbl
  have q1 : (c != c) = false := by simp
  have q2 : (f != f) = false := by simp
  clear hbl hv hu N1 N2
  go_enter Try.func8, Try.ntmps8
  go_wp2_with fail
  refine HE.out.mono ?_; rintro e w3 ⟨rfl, b3⟩
  have B3 := Lib.hid (bel_tr BB.out b3 (Nat.le_refl _))
  have T1 := HQ.out.below b3 HQ.out.2.2
  have T2 := HQ1.out.below b3 HQ1.out.2.2
  have l1 := T1.1.2.2
  have l2 := T2.1.2.2
  clear b3 T1 T2
  go_wp2_with fail
  go_ret
  exact ⟨rfl, B3.out⟩
theorem eqEnd_own {B C : Nat} {v u : Value} {l : List Bi} (w : World) (c f : Int) (hv : OwI B w v l) (hu : OwI C w u l) (hl : l.length ≤ 4194304) :
    Calls Try.prog 8 #[.agg #[.int .i64 c, v, .int .i64 f], .agg #[.int .i64 c, u, .int .i64 f]] w fun e w' => e = .returned (.bool true) ∧ Below w.heap.size w w' := by
  obtain ⟨a, ca, rfl, h1⟩ := hv.view
  obtain ⟨b, cb, rfl, h2⟩ := hu.view
  exact eqEnd_same w c f a b ca cb l _ rfl h1 h2 hl
end Go.Proofs.Ytfnnoehpahdgcaa.Cl
