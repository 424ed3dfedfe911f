/-
  Ends of recipes: contracts of laws.szEnd, toEnd, eqEnd, markEnd, heldEnd, likeEnd.
-/
import Derived.Test.YtfnnoehpahdgcaaGreatDoorIl
namespace Go.Proofs.YtfnnoehpahdgcaaGreatDoor.Cl
open Go.RowKit Wd Rp Kp
set_option linter.unusedVariables false
theorem grown_ofE {w w' : World} {row : Option Nat} (h : Below w.heap.size w w') : w.grownBy w' row := ⟨h.os, h.tape, h.output, h.size, fun k hk _ => h.block k hk⟩
theorem grown_transE {w x y : World} {r : Option Nat} (h : w.grownBy x r) (k : x.grownBy y r) : w.grownBy y r := ⟨k.os.trans h.os, k.tape.trans h.tape, k.output.trans h.output, Nat.le_trans h.size k.size, fun i hi hne => (k.block i (Nat.lt_of_lt_of_le hi h.size) hne).trans (h.block i hi hne)⟩
theorem Tri.grown {q : Nat} {x y z : Value} {w w' : World} {row : Option Nat} (h : Tri q x y z w) (hg : w.grownBy w' row) (hne : row ≠ some q) : Tri q x y z w' := by
  have e := hg.block q h.2.2 (fun e => hne e.symm)
  obtain ⟨⟨h0, h1, h2⟩, ⟨f0, f1, f2⟩, hl⟩ := h
  exact ⟨⟨(World.cell?_of_block (w := w) e).trans h0, (World.cell?_of_block (w := w) e).trans h1, (World.cell?_of_block (w := w) e).trans h2⟩, ⟨(World.frozen?_of_block (w := w) e).trans f0, (World.frozen?_of_block (w := w) e).trans f1, (World.frozen?_of_block (w := w) e).trans f2⟩, Nat.lt_of_lt_of_le hl hg.size⟩
set_option maxHeartbeats 1000000 in
set_option maxRecDepth 100000 in
theorem eqEnd_same (w : World) (c f : Int) (a b : Option Addr) (ca cb : Nat) (l : List Bi) (n : Nat) (hn : l.length = n) (hv : VwI w a ca l) (hu : VwI w b cb l) (hl : n ≤ 4194304) :
    Calls Tryz.prog 32 #[.agg #[.int .i64 c, .slice a n ca, .int .i64 f], .agg #[.int .i64 c, .slice b n cb, .int .i64 f]] w fun e w' => e = .returned (.bool true) ∧ Below w.heap.size w w' := by
  have hbl := bel2 w (.cells #[.int .i64 c, .slice a n ca, .int .i64 f] 30) (.cells #[.int .i64 c, .slice b n cb, .int .i64 f] 30)
  have N1 := Tri.made (.int .i64 c) (.slice a n ca) (.int .i64 f) w 30
  have N2 := Tri.made (.int .i64 c) (.slice b n cb) (.int .i64 f) (w.alloc (.cells #[.int .i64 c, .slice a n ca, .int .i64 f] 30)) 30
  have HQ := Lib.hid (N1.below (bel1 _ (.cells #[.int .i64 c, .slice b n cb, .int .i64 f] 30)) N1.2.2)
  have hz1 : (w.alloc (.cells #[.int .i64 c, .slice a n ca, .int .i64 f] 30)).heap.size = w.heap.size + 1 := World.size_alloc _ _
  rw [hz1] at N2
  have HQ1 := Lib.hid N2
  have HE := Lib.hid (eqBinS_same _ a b ca cb l n hn (hv.below hbl) (hu.below hbl) hl)
  have BB := Lib.hid hbl
  have q1 : (c != c) = false := by simp
  have q2 : (f != f) = false := by simp
  clear hbl hv hu N1 N2
  go_enter Tryz.func32, Tryz.ntmps32
  go_wp2_with fail
  refine HE.out.mono ?_; rintro e w3 ⟨rfl, b3⟩
  have B3 := Lib.hid (bel_tr BB.out b3 (Nat.le_refl _))
  have T1 := HQ.out.below b3 HQ.out.2.2
  have T2 := HQ1.out.below b3 HQ1.out.2.2
  have l1 := T1.1.2.2
  have l2 := T2.1.2.2
  clear b3 T1 T2
  go_wp2_with fail
  go_ret
  exact ⟨rfl, B3.out⟩
theorem eqEnd_own {B C : Nat} {v u : Value} {l : List Bi} (w : World) (c f : Int) (hv : OwI B w v l) (hu : OwI C w u l) (hl : l.length ≤ 4194304) :
    Calls Tryz.prog 32 #[.agg #[.int .i64 c, v, .int .i64 f], .agg #[.int .i64 c, u, .int .i64 f]] w fun e w' => e = .returned (.bool true) ∧ Below w.heap.size w w' := by
  obtain ⟨a, ca, rfl, h1⟩ := hv.view
  obtain ⟨b, cb, rfl, h2⟩ := hu.view
  exact eqEnd_same w c f a b ca cb l _ rfl h1 h2 hl
set_option maxHeartbeats 1000000 in
set_option maxRecDepth 100000 in
theorem markEnd_from {B : Nat} {v : Value} {l : List Bi} {n s : Nat} (w : World) (c f : Int) (hv : OwI B w v l) (hn : l.length = n) (hl : n ≤ 4194304) (hs1 : 1 ≤ s) (hs2 : s ≤ 9000000) :
    Calls Tryz.prog 39 #[.agg #[.int .i64 c, v, .int .i64 f], .int .i64 (s : Int)] w fun e w' => e = .returned (.int .i64 ((s + 2 * n : Nat) : Int)) ∧ w.grownBy w' v.ownBlock ∧ ∃ m, m.length = n ∧ MkdI s m ∧ OwI B w' v m := by
  obtain ⟨a, ca, rfl, -⟩ := hv.view
  rw [hn] at hv ⊢
  have hbl := bel1 w (.cells #[.int .i64 c, .slice a n ca, .int .i64 f] 30)
  have HM := Lib.hid (markI_from (s := s) _ (hv.next hbl) hn hl hs1 hs2)
  have G0 := Lib.hid (grown_ofE (row := (Value.slice a n ca).ownBlock) hbl)
  clear hbl hv
  go_enter Tryz.func39, Tryz.ntmps39
  go_wp2_with fail
  refine HM.out.mono ?_; rintro e w3 ⟨rfl, g3, h3⟩
  have G3 := Lib.hid (grown_transE G0.out g3)
  have H3 := Lib.hid h3
  clear g3 h3
  go_wp2_with fail
  go_ret
  exact ⟨rfl, G3.out, H3.out⟩
set_option maxHeartbeats 1000000 in
set_option maxRecDepth 100000 in
theorem heldEnd_from {B : Nat} {v : Value} {l : List Bi} {n s : Nat} (w : World) (c f : Int) (hv : OwI B w v l) (hn : l.length = n) (hm : MkdI s l) (hl : n ≤ 4194304) (hs1 : 1 ≤ s) (hs2 : s ≤ 9000000) :
    Calls Tryz.prog 40 #[.agg #[.int .i64 c, v, .int .i64 f], .int .i64 (s : Int)] w fun e w' => e = .returned (.int .i64 ((s + 2 * n : Nat) : Int)) ∧ Below w.heap.size w w' := by
  obtain ⟨a, ca, rfl, -⟩ := hv.view
  rw [hn] at hv ⊢
  have hbl := bel1 w (.cells #[.int .i64 c, .slice a n ca, .int .i64 f] 30)
  have HM := Lib.hid (heldI_from (s := s) _ (hv.next hbl) hn hm hl hs1 hs2)
  have BB := Lib.hid hbl
  have k0 : ¬ ((s + 2 * n : Nat) : Int) < 0 := by omega
  clear hbl hv
  generalize ((s + 2 * n : Nat) : Int) = kk at *
  go_enter Tryz.func40, Tryz.ntmps40
  go_wp2_with fail
  refine HM.out.mono ?_; rintro e w3 ⟨rfl, b3⟩
  have B3 := Lib.hid (bel_tr BB.out b3 (Nat.le_refl _)); clear b3
  go_wp2_with fail
  go_ret
  exact ⟨rfl, B3.out⟩
end Go.Proofs.YtfnnoehpahdgcaaGreatDoor.Cl
