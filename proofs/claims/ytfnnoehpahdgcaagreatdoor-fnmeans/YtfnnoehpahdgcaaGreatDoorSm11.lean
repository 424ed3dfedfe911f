/-
  Texts of mine, joined (part 11 of 11): what the law at hand reaches of them; each text's own words stand in the verifier's repo.
-/
import Derived.Test.YtfnnoehpahdgcaaGreatDoorSm10
import Derived.Test.YtfnnoehpahdgcaaGreatDoorRows
import Derived.WalkKit
import Derived.IntWalk
import Derived.Laws.Bits128
import Derived.Lib.Hide
import Derived.Lib.ParseIntBTie
import Derived.Lib.ParseIntBCases
import Derived.Lib.ItoaMem
import Derived.Lib.IndexMore
import Derived.Lib.Repeat
import Derived.WalkSpells
import Derived.Below
import Derived.Carry
import Derived.WalkSmall
import Derived.Laws.Closers25b
import Derived.Lib.Strings
import Derived.Lib.SmallJoins
import Derived.Lib.AppendIntMem
import Derived.Maps.AppendAt
import Derived.OwnWalk
import Derived.WalkLawsBesides
import Derived.Deep.QuietTactic
import Derived.BigQuiet
import Derived.Deep.RegionHeld3
import Derived.Laws.OwnMore
import Derived.Laws.StructEq
import Derived.BigFrame
import Derived.Deep.Upon
import Derived.Laws.CopyRow
import Derived.Laws.BytesArg
import Derived.RowKit3
import Derived.Shelf.Strconv.Itoa4
import Derived.Shelf.Strconv.ParseIntPublic10
import Derived.Shelf.Strconv.ErrVarParseInt
import Derived.Test.YtfnnoehpahdgcaaGreatDoorProg
import Derived.LaidMore
import Derived.Stop.LaidErr
import Derived.Lib.LaidTab
import Derived.RangeFuncWrites
import Derived.RangeFuncCalls
import Derived.RangeFuncBox
import Derived.RangeFuncNested
import Derived.RangeFuncLeaves
import Derived.Shelf.Abstract
import Derived.Shelf.RegionOpen
import Derived.OwnWalkIn
import Derived.TacticsInMore
import Derived.LoopNIn
import Derived.LoopIn
import Derived.Lib.Bytealg
import Derived.Deep.LoopGhost
import Derived.Lib.AtoiErrMem
import Derived.OpenShut
import Derived.Lib.ConvBytes
import Derived.Deep.RegionLaw
import Derived.Deep.AppendLies
import Derived.Lib.AppendZeros
import Derived.Defers
import Derived.Recover
import Derived.Lib.ItoaLen
import Derived.ProofKit
import Derived.Handed
import Derived.SizedLaws
import Derived.ShutString
import Derived.Deep.Slices
import Derived.Deep.Fields
import Derived.ChangeSame
namespace Go.Proofs.YtfnnoehpahdgcaaGreatDoor.Cl
set_option linter.unusedVariables false
open Go.RowKit Wd Rp Kp Cu
theorem Tri.but {q b : Nat} {x y z : Value} {w w' : World} (h : Tri q x y z w) (hb : But b w w') (hq : q ≠ b) : Tri q x y z w' := by
  have e := hb.block q h.2.2 hq
  obtain ⟨⟨h0, h1, h2⟩, ⟨f0, f1, f2⟩, hl⟩ := h
  exact ⟨⟨(World.cell?_of_block (w := w) e).trans h0, (World.cell?_of_block (w := w) e).trans h1, (World.cell?_of_block (w := w) e).trans h2⟩, ⟨(World.frozen?_of_block (w := w) e).trans f0, (World.frozen?_of_block (w := w) e).trans f1, (World.frozen?_of_block (w := w) e).trans f2⟩, Nat.lt_of_lt_of_le hl hb.size⟩
theorem Tri.set {q i : Nat} {x y z : Value} {w : World} (h : Tri q x y z w) (hi : i < 3) (u : Value) : Tri q (if i = 0 then u else x) (if i = 1 then u else y) (if i = 2 then u else z) (w.setCell ⟨q, i, none⟩ u) := by
  obtain ⟨⟨h0, h1, h2⟩, ⟨f0, f1, f2⟩, hl⟩ := h
  refine ⟨?_, by simp only [World.frozen?_setCell]; exact ⟨f0, f1, f2⟩, by rw [World.size_setCell]; exact hl⟩
  match i, hi with
  | 0, _ => exact ⟨World.cell?_setCell_same' _ _ _ (by rw [h0]; rfl), (World.cell?_setCell_other _ _ _ _ (ofst (by decide))).trans h1, (World.cell?_setCell_other _ _ _ _ (ofst (by decide))).trans h2⟩
  | 1, _ => exact ⟨(World.cell?_setCell_other _ _ _ _ (ofst (by decide))).trans h0, World.cell?_setCell_same' _ _ _ (by rw [h1]; rfl), (World.cell?_setCell_other _ _ _ _ (ofst (by decide))).trans h2⟩
  | 2, _ => exact ⟨(World.cell?_setCell_other _ _ _ _ (ofst (by decide))).trans h0, (World.cell?_setCell_other _ _ _ _ (ofst (by decide))).trans h1, World.cell?_setCell_same' _ _ _ (by rw [h2]; rfl)⟩
theorem Tri.off {q g i : Nat} {x y z : Value} {w : World} (h : Tri q x y z w) (hg : q ≠ g) (u : Value) : Tri q x y z (w.setCell ⟨g, i, none⟩ u) := by
  have e := Below.heap_setCell w ⟨g, i, none⟩ u q hg
  obtain ⟨⟨h0, h1, h2⟩, ⟨f0, f1, f2⟩, hl⟩ := h
  exact ⟨⟨(World.cell?_of_block (w := w) e).trans h0, (World.cell?_of_block (w := w) e).trans h1, (World.cell?_of_block (w := w) e).trans h2⟩, ⟨(World.frozen?_of_block (w := w) e).trans f0, (World.frozen?_of_block (w := w) e).trans f1, (World.frozen?_of_block (w := w) e).trans f2⟩, by rw [World.size_setCell]; exact hl⟩
def DrewTwo (w : World) (e : Ending) (w' : World) : Prop := ∃ (c1 : Int) (v1 : Value) (l1 : List Bi) (f1 c2 : Int) (v2 : Value) (l2 : List Bi) (f2 : Int), e = .returned (.tuple #[.agg #[.int .i64 c1, v1, .int .i64 f1], .agg #[.int .i64 c2, v2, .int .i64 f2]]) ∧ OwI w.heap.size w' v1 l1 ∧ l1.length ≤ 5 ∧ OwI w.heap.size w' v2 l2 ∧ l2.length ≤ 5 ∧ Below w.heap.size w w'
theorem curNext {B b : Nat} {w w' : World} (h : Cur B b w) (hb : Below w.heap.size w w') : Cur B b w' :=
  h.carry (fun k hk => hb.block k (by have := h.le; have := h.lt; omega)) (hb.block b h.lt)
theorem stNext {w0 w w' : World} {B b : Nat} (h : St w0 B b w) (hb : Below w.heap.size w w') : St w0 B b w' := ⟨h.but.below' hb, curNext h.cur hb, h.lt⟩
theorem OwI.putN {B q : Nat} {w : World} {v : Value} {l : List Bi} {x y z : Value} (h : OwI B w v l) (hq : ∀ k, v.ownBlock = some k → k ≠ q) : OwI B (Cl.put3 w q x y z) v l :=
  row_next h fun g hg _ => put3_block w q g x y z (hq g hg)
theorem Tri.putN {q q2 : Nat} {x y z x' y' z' : Value} {w : World} (h : Tri q x y z w) (hq : q ≠ q2) : Tri q x y z (Cl.put3 w q2 x' y' z') := ((h.off hq _).off hq _).off hq _
theorem stPut {w0 w : World} {B b q : Nat} {x y z : Value} (h : Cu.St w0 B b w) (hq : w0.heap.size ≤ q) : Cu.St w0 B b (Cl.put3 w q x y z) := ((h.setNew (p := ⟨q, 0, none⟩) hq _).setNew (p := ⟨q, 1, none⟩) hq _).setNew (p := ⟨q, 2, none⟩) hq _
theorem OwI.offN {B g i : Nat} {w : World} {v : Value} {l : List Bi} (h : OwI B w v l) (hq : ∀ k, v.ownBlock = some k → k ≠ g) (u : Value) : OwI B (w.setCell ⟨g, i, none⟩ u) v l :=
  row_next h fun k hk _ => Below.heap_setCell w ⟨g, i, none⟩ u k (hq k hk)
theorem isB_next {w w' : World} {a : Option Addr} {len : Nat} (h : IsBytes w a len) (hb : Below w.heap.size w w') : IsBytes w' a len := ⟨h.1, fun hl => by
  obtain ⟨ab, ao, h1, h2, h3⟩ := h.2 hl
  refine ⟨ab, ao, h1, Nat.lt_of_lt_of_le h2 hb.size, fun k hk => ?_⟩
  obtain ⟨z, h4, h5⟩ := h3 k hk
  exact ⟨z, (World.cell?_of_block (w := w) (hb.block ab h2)).trans h4, h5⟩⟩
set_option maxHeartbeats 16000000 in
set_option maxRecDepth 100000 in
theorem drawSame_any (w : World) (a : Option Addr) (len cap : Nat) (hb : IsBytes w a len) (hl : len ≤ 4096) : Calls Tryz.prog 11 #[.slice a len cap] w (DrewTwo w) := by
  have hbl := bel2 w (.cells #[.int .i64 0, .slice none 0 0, .int .i64 0] 30) (.cells #[.int .i64 0, .slice none 0 0, .int .i64 0] 30)
  have N1 := Tri.made (.int .i64 0) (.slice none 0 0) (.int .i64 0) w 30
  have N2 := Tri.made (.int .i64 0) (.slice none 0 0) (.int .i64 0) (w.alloc (.cells #[.int .i64 0, .slice none 0 0, .int .i64 0] 30)) 30
  have KR := Lib.hid (N1.below (bel1 _ (.cells #[.int .i64 0, .slice none 0 0, .int .i64 0] 30)) N1.2.2)
  rw [World.size_alloc] at N2
  have KQ := Lib.hid N2
  have hzA : ((w.alloc (.cells #[.int .i64 0, .slice none 0 0, .int .i64 0] 30)).alloc (.cells #[.int .i64 0, .slice none 0 0, .int .i64 0] 30)).heap.size = w.heap.size + 2 := by rw [World.size_alloc, World.size_alloc]
  have BA := Lib.hid hbl
  have HN := Lib.hid (new_any _ a len cap (isB_next hb hbl) hl)
  clear N1 N2 hbl hb
  go_enter Tryz.func11, Tryz.ntmps11
  go_wp2_with fail
  generalize hr1 : w.heap.size = r1 at *
  have HR1 := Lib.hid hr1
  clear hr1
  generalize (w.alloc (.cells #[.int .i64 0, .slice none 0 0, .int .i64 0] 30)).alloc (.cells #[.int .i64 0, .slice none 0 0, .int .i64 0] 30) = wA at *
  refine HN.out.mono ?_; rintro e w1 ⟨b, rfl, hc1, hw1⟩
  have hbA : wA.heap.size ≤ b := hc1.le
  have ST := Lib.hid (show Cu.St w1 _ b w1 from ⟨But.refl b w1, hc1, hc1.lt⟩)
  have KR := Lib.hid (KR.out.below hw1 KR.out.2.2)
  have KQ := Lib.hid (KQ.out.below hw1 KQ.out.2.2)
  have BW := Lib.hid (BA.out.trans (hw1.mono (show r1 ≤ wA.heap.size by omega)))
  have hb1 : b < w1.heap.size := hc1.lt
  clear hw1 hc1 HN BA
  have ne1 : r1 ≠ b := by omega
  have ne2 : r1 + 1 ≠ b := by omega
  go_wp2_with fail
  refine (below_any _ b _ _ ST.out.cur (by decide) (by decide)).mono ?_; rintro e w2 ⟨c1, rfl, -, -, hc, hw⟩
  have KR := Lib.hid (KR.out.but hw ne1)
  have KQ := Lib.hid (KQ.out.but hw ne2)
  have ST := Lib.hid (ST.out.draws hw hc); clear hc hw
  go_wp2_with fail
  refine (drawI_any _ b _ ST.out.cur).mono ?_; rintro e w3 ⟨v1, l1, rfl, o1, n5, -, hc, hw⟩
  obtain ⟨a1, k1, rfl, -⟩ := o1.view
  have OA := Lib.hid (o1.mono ST.out.size)
  have KR := Lib.hid (KR.out.but hw ne1)
  have KQ := Lib.hid (KQ.out.but hw ne2)
  have ST := Lib.hid (ST.out.draws hw hc); clear hc hw o1
  obtain ⟨n1, hl1⟩ : ∃ n, l1.length = n := ⟨_, rfl⟩
  rw [hl1] at OA ⊢
  go_wp2_with fail
  refine (below_any _ b _ _ ST.out.cur (by decide) (by decide)).mono ?_; rintro e w4 ⟨f1, rfl, -, -, hc, hw⟩
  have OA := Lib.hid (OA.out.but hw hb1)
  have KR := Lib.hid (KR.out.but hw ne1)
  have KQ := Lib.hid (KQ.out.but hw ne2)
  have ST := Lib.hid (ST.out.draws hw hc); clear hc hw
  have hq4 : w1.heap.size ≤ w4.heap.size := ST.out.size
  have hb5 := bel1 w4 (.cells #[.int .i64 c1, .slice a1 n1 k1, .int .i64 f1] 30)
  have KA := Lib.hid (Tri.made (.int .i64 c1) (.slice a1 n1 k1) (.int .i64 f1) w4 30)
  have KR := Lib.hid (KR.out.below hb5 KR.out.2.2)
  have KQ := Lib.hid (KQ.out.below hb5 KQ.out.2.2)
  have OA := Lib.hid (OA.out.next hb5)
  have ST := Lib.hid (ST.out.alloc (.cells #[.int .i64 c1, .slice a1 n1 k1, .int .i64 f1] 30))
  clear hb5
  obtain ⟨⟨x0, x1, x2⟩, ⟨y0, y1, y2⟩, y3⟩ := id KA.out
  go_wp2_with fail
  clear y0 y1 y2 y3
  generalize w4.heap.size = qa at *
  generalize w4.alloc (.cells #[.int .i64 c1, .slice a1 n1 k1, .int .i64 f1] 30) = w6 at *
  refine wp_region_held_drew (S := fun z => z.cell? ⟨qa, 0, none⟩ = some (.int .i64 c1) ∧ z.cell? ⟨qa, 1, none⟩ = some (.slice a1 n1 k1) ∧ z.cell? ⟨qa, 2, none⟩ = some (.int .i64 f1)) (by kernel_rfl) ⟨x0, x1, x2⟩ (fun hHeld => ?_)
  refine wpAnyH_take (i := 0) (v := ?v0c) rfl (by kernel_rfl) (by kernel_rfl) (by kernel_rfl) (fun _ _ _ h => h) (Or.inl ⟨by rfl, ?hy0c⟩) (by assumption) ?rest0c
  case hy0c => (intro zz hSw; (try dsimp only at hSw); go_simp; (try with_reducible rfl))
  change wpAnyH _ _ _ _ _ _ _ (Act.put _ (some 16) _) _
  simp only [Act.put, List.setIfInBounds_toArray, List.set_cons_zero, List.set_cons_succ]
  refine wpAnyH_take (i := 1) (v := ?v1c) rfl (by kernel_rfl) (by kernel_rfl) (by kernel_rfl) (fun _ _ _ h => h) (Or.inl ⟨by rfl, ?hy1c⟩) (by assumption) ?rest1c
  case hy1c => (intro zz hSw; (try dsimp only at hSw); go_simp; (try with_reducible rfl))
  change wpAnyH _ _ _ _ _ _ _ (Act.put _ (some 17) _) _
  simp only [Act.put, List.setIfInBounds_toArray, List.set_cons_zero, List.set_cons_succ]
  refine wpAnyH_take (i := 2) (v := ?v2c) rfl (by kernel_rfl) (by kernel_rfl) (by kernel_rfl) (fun _ _ _ h => h) (Or.inl ⟨by rfl, ?hy2c⟩) (by assumption) ?rest2c
  case hy2c => (intro zz hSw; (try dsimp only at hSw); go_simp; (try with_reducible rfl))
  change wpAnyH _ _ _ _ _ _ _ (Act.put _ (some 18) _) _
  simp only [Act.put, List.setIfInBounds_toArray, List.set_cons_zero, List.set_cons_succ]
  refine wpAnyH_take (i := 3) (v := ?v3c) rfl (by kernel_rfl) (by kernel_rfl) (by kernel_rfl) (fun _ _ _ h => h) (Or.inl ⟨by rfl, ?hy3c⟩) (by assumption) ?rest3c
  case hy3c => (intro zz hSw; (try dsimp only at hSw); go_simp; (try with_reducible rfl))
  change wpAnyH _ _ _ _ _ _ _ (Act.put _ (some 19) _) _
  simp only [Act.put, List.setIfInBounds_toArray, List.set_cons_zero, List.set_cons_succ]
  refine wpAnyH_take (i := 5) (v := ?v5c) rfl (by kernel_rfl) (by kernel_rfl) (by kernel_rfl) (fun _ _ _ h => h) (Or.inl ⟨by rfl, ?hy5c⟩) (by assumption) ?rest5c
  case hy5c => (intro zz hSw; (try dsimp only at hSw); go_simp; (try with_reducible rfl))
  change wpAnyH _ _ _ _ _ _ _ (Act.put _ (some 21) _) _
  simp only [Act.put, List.setIfInBounds_toArray, List.set_cons_zero, List.set_cons_succ]
  refine wpAnyH_take (i := 6) (v := ?v6c) rfl (by kernel_rfl) (by kernel_rfl) (by kernel_rfl) (fun _ _ _ h => h) (Or.inl ⟨by rfl, ?hy6c⟩) (by assumption) ?rest6c
  case hy6c => (intro zz hSw; (try dsimp only at hSw); go_simp; (try with_reducible rfl))
  change wpAnyH _ _ _ _ _ _ _ (Act.put _ (some 22) _) _
  simp only [Act.put, List.setIfInBounds_toArray, List.set_cons_zero, List.set_cons_succ]
  refine wpAnyH_ready (rs := [4, 8]) (by kernel_rfl) (by simp) (AllReadyH.cons rfl (fun K hK => ?_) (AllReadyH.cons rfl (fun K hK => ?_) (AllReadyH.nil)))
  · skip
    go_simp
    have bd : Below w6.heap.size w6 w6.drew := (Below.refl _ w6).drew
    have KR := Lib.hid (KR.out.below bd KR.out.2.2)
    have KQ := Lib.hid (KQ.out.below bd KQ.out.2.2)
    have KA := Lib.hid (KA.out.below bd KA.out.2.2)
    have ST := Lib.hid (stNext ST.out bd)
    have OA := Lib.hid (OA.out.next bd)
    clear bd
    refine (l7Copy_any w6.drew a1 k1 l1 n1 hl1 OA.out.vw (by omega)).mono ?_; rintro e w8 ⟨v2, rfl, o2, b8⟩
    obtain ⟨a2, k2, rfl, -⟩ := o2.view
    rw [hl1] at o2 ⊢
    have OB := Lib.hid (o2.mono (show w1.heap.size ≤ w6.drew.heap.size from ST.out.size))
    have LB := Lib.hid (fun k e => OwI.lt o2 k e)
    have UB := Lib.hid (fun k e => OwI.low o2 k e)
    have KR := Lib.hid (KR.out.below b8 KR.out.2.2)
    have KQ := Lib.hid (KQ.out.below b8 KQ.out.2.2)
    have KA := Lib.hid (KA.out.below b8 KA.out.2.2)
    have ST := Lib.hid (stNext ST.out b8)
    have OA := Lib.hid (OA.out.next b8)
    refine hK.out _ _ KA.out.1 (fun hHeld => ?_)
    clear hK K o2 b8
    refine wpAnyH_take (i := 7) (v := ?v7cx) rfl (by kernel_rfl) (by kernel_rfl) (by kernel_rfl) (fun _ _ _ h => h) (Or.inl ⟨by rfl, ?hy7cx⟩) (by assumption) ?rest7cx
    case hy7cx => (intro zz hSw; (try dsimp only at hSw); go_simp; (try with_reducible rfl))
    change wpAnyH _ _ _ _ _ _ _ (Act.put _ (some 23) _) _
    simp only [Act.put, List.setIfInBounds_toArray, List.set_cons_zero, List.set_cons_succ]
    refine wpAnyH_ready (rs := [8]) (by kernel_rfl) (by simp) (AllReadyH.cons rfl (fun K hK => ?_) (AllReadyH.nil))
    go_simp
    have hb7 := bel1 w8 (.cells #[.int .i64 0, .slice none 0 0, .int .i64 0] 30)
    have KB := Lib.hid (Tri.made (.int .i64 0) (.slice none 0 0) (.int .i64 0) w8 30)
    have QA := Lib.hid (fun k e => OwI.low OA.out k e)
    have QW := Lib.hid ST.out.size
    have QK := Lib.hid KA.out.2.2
    have QR := Lib.hid KR.out.2.2
    have QQ := Lib.hid KQ.out.2.2
    have hne : w1.heap.size ≤ w8.heap.size := ST.out.size
    have KR := Lib.hid (KR.out.below hb7 KR.out.2.2)
    have KQ := Lib.hid (KQ.out.below hb7 KQ.out.2.2)
    have KA := Lib.hid (KA.out.below hb7 KA.out.2.2)
    have ST := Lib.hid (stNext ST.out hb7)
    have OA := Lib.hid (OA.out.next hb7)
    have OB := Lib.hid (OB.out.next hb7)
    clear hb7
    have LQ := Lib.hid KB.out.2.2
    generalize hqb : w8.heap.size = qb at *
    generalize w8.alloc (.cells #[.int .i64 0, .slice none 0 0, .int .i64 0] 30) = w9 at *
    have HQB := Lib.hid hqb
    clear hqb
    refine hK.out _ _ KA.out.1 (fun hHeld => ?_)
    clear hK K
    refine wpAnyH_ready (rs := [9]) (by kernel_rfl) (by simp) (AllReadyH.cons rfl (fun K hK => ?_) (AllReadyH.nil))
    obtain ⟨⟨z0, z1, z2⟩, ⟨t0, t1, t2⟩, -⟩ := id KB.out
    go_simp
    clear z0 z1 z2 t0 t1 t2
    have hqa : qa ≠ qb := by have := QK.out; omega
    have NA := Lib.hid (show ∀ k, (Value.slice a1 n1 k1).ownBlock = some k → k ≠ qb from fun k e => by have := QA.out k e; omega)
    have NB := Lib.hid (show ∀ k, (Value.slice a2 n1 k2).ownBlock = some k → k ≠ qb from fun k e => by have := LB.out k e; have := UB.out k e; have := LQ.out; have := HQB.out; omega)
    have KR := Lib.hid (KR.out.putN (q2 := qb) (x' := .int .i64 c1) (y' := .slice a2 n1 k2) (z' := .int .i64 f1) (by have := QR.out; omega))
    have KQ := Lib.hid (KQ.out.putN (q2 := qb) (x' := .int .i64 c1) (y' := .slice a2 n1 k2) (z' := .int .i64 f1) (by have := QQ.out; omega))
    have KA := Lib.hid (KA.out.putN (q2 := qb) (x' := .int .i64 c1) (y' := .slice a2 n1 k2) (z' := .int .i64 f1) hqa)
    have OA := Lib.hid (OA.out.putN (q := qb) (x := .int .i64 c1) (y := .slice a2 n1 k2) (z := .int .i64 f1) (fun k e => by have := QA.out k e; omega))
    have OB := Lib.hid (OB.out.putN (q := qb) (x := .int .i64 c1) (y := .slice a2 n1 k2) (z := .int .i64 f1) (fun k e => by have := LB.out k e; have := UB.out k e; have := LQ.out; have := HQB.out; omega))
    have KB := Lib.hid (KB.out.put3 (x' := .int .i64 c1) (y' := .slice a2 n1 k2) (z' := .int .i64 f1))
    have ST := Lib.hid (stPut (q := qb) (x := .int .i64 c1) (y := .slice a2 n1 k2) (z := .int .i64 f1) ST.out (by omega))
    refine hK.out _ _ KA.out.1 (fun hHeld => ?_)
    clear hK K
    generalize hw10 : put3 w9 qb (.int .i64 c1) (.slice a2 n1 k2) (.int .i64 f1) = w10 at *
    refine wpAnyH_done (by kernel_rfl) ?_ _
    unfold put3 at hw10
    rw [hw10]
    have hra : qa ≠ r1 := by have := QR.out; have := QQ.out; omega
    clear hHeld hw10
    have hqab : qa ≠ b := by omega
    have hqbb : qb ≠ b := by have := HQB.out; omega
    have hrb : qb ≠ r1 := by have := QR.out; have := QQ.out; omega
    have hqa1 : qa ≠ r1 + 1 := by omega
    have hqb1 : qb ≠ r1 + 1 := by have := QQ.out; omega
    go_wp2_with fail
    refine (below_any _ b _ _ ST.out.cur (by decide) (by decide)).mono ?_; rintro e w11 ⟨t, rfl, t0, t1, hc, hw⟩
    have KR := Lib.hid (KR.out.but hw ne1)
    have KQ := Lib.hid (KQ.out.but hw ne2)
    have KA := Lib.hid (KA.out.but hw (by omega))
    have KB := Lib.hid (KB.out.but hw (by omega))
    have OA := Lib.hid (OA.out.but hw hb1)
    have OB := Lib.hid (OB.out.but hw hb1)
    have ST := Lib.hid (ST.out.draws hw hc)
    clear hc hw
    clear t1
    by_cases e0 : t = 0
    · subst e0
      go_wp2_with fail
      refine (below_any _ b _ _ ST.out.cur (by decide) (by decide)).mono ?_; rintro e w12 ⟨c2, rfl, -, -, hc, hw⟩
      have KR := Lib.hid (KR.out.but hw ne1)
      have KQ := Lib.hid (KQ.out.but hw ne2)
      have KA := Lib.hid (KA.out.but hw (by omega))
      have KB := Lib.hid (KB.out.but hw (by omega))
      have OA := Lib.hid (OA.out.but hw hb1)
      have OB := Lib.hid (OB.out.but hw hb1)
      have ST := Lib.hid (ST.out.draws hw hc)
      clear hc hw
      obtain ⟨⟨z0, z1, z2⟩, ⟨s0, s1, s2⟩, -⟩ := id KB.out
      go_wp2_with fail
      clear z0 z1 z2 s0 s1 s2
      have KR := Lib.hid (KR.out.off (g := qb) (i := 0) (fun e => hrb e.symm) (.int .i64 c2))
      have KQ := Lib.hid (KQ.out.off (g := qb) (i := 0) (fun e => hqb1 e.symm) (.int .i64 c2))
      have KA := Lib.hid (KA.out.off (g := qb) (i := 0) hqa (.int .i64 c2))
      have KB := Lib.hid (show Tri qb (.int .i64 c2) (.slice a2 n1 k2) (.int .i64 f1) (w12.setCell ⟨qb, 0, none⟩ (.int .i64 c2)) from KB.out.set (i := 0) (by decide) (.int .i64 c2))
      have OA := Lib.hid (OA.out.offN (g := qb) (i := 0) NA.out (.int .i64 c2))
      have OB := Lib.hid (OB.out.offN (g := qb) (i := 0) NB.out (.int .i64 c2))
      have ST := Lib.hid (ST.out.setNew (p := ⟨qb, 0, none⟩) hne (.int .i64 c2))
      generalize w12.setCell ⟨qb, 0, none⟩ (.int .i64 c2) = w13 at *
      obtain ⟨x0, -, -⟩ := id KA.out
      obtain ⟨y0, -, -⟩ := id KB.out
      refine wp_region_held_drew (S := fun z => (z.cell? ⟨qa, 0, none⟩ = some (.int .i64 c1) ∧ z.cell? ⟨qa, 1, none⟩ = some (.slice a1 n1 k1) ∧ z.cell? ⟨qa, 2, none⟩ = some (.int .i64 f1)) ∧ (z.cell? ⟨qb, 0, none⟩ = some (.int .i64 c2) ∧ z.cell? ⟨qb, 1, none⟩ = some (.slice a2 n1 k2) ∧ z.cell? ⟨qb, 2, none⟩ = some (.int .i64 f1))) (by kernel_rfl) ⟨x0, y0⟩ (fun hHeld => ?_)
      refine wpAnyH_take (i := 0) (v := ?v0z1) rfl (by kernel_rfl) (by kernel_rfl) (by kernel_rfl) (fun _ _ _ h => h) (Or.inl ⟨by rfl, ?hy0z1⟩) (by assumption) ?rest0z1
      case hy0z1 => (intro zz hSw; (try dsimp only at hSw); go_simp; (try with_reducible rfl))
      change wpAnyH _ _ _ _ _ _ _ (Act.put _ (some 41) _) _
      simp only [Act.put, List.setIfInBounds_toArray, List.set_cons_zero, List.set_cons_succ]
      refine wpAnyH_take (i := 1) (v := ?v1z1) rfl (by kernel_rfl) (by kernel_rfl) (by kernel_rfl) (fun _ _ _ h => h) (Or.inl ⟨by rfl, ?hy1z1⟩) (by assumption) ?rest1z1
      case hy1z1 => (intro zz hSw; (try dsimp only at hSw); go_simp; (try with_reducible rfl))
      change wpAnyH _ _ _ _ _ _ _ (Act.put _ (some 42) _) _
      simp only [Act.put, List.setIfInBounds_toArray, List.set_cons_zero, List.set_cons_succ]
      refine wpAnyH_ready (rs := [2]) (by kernel_rfl) (by simp) (AllReadyH.cons rfl (fun K hK => ?_) (AllReadyH.nil))
      have bd : Below w13.heap.size w13 w13.drew := (Below.refl _ _).drew
      have KR := Lib.hid (KR.out.below bd KR.out.2.2)
      have KQ := Lib.hid (KQ.out.below bd KQ.out.2.2)
      have KA := Lib.hid (KA.out.below bd KA.out.2.2)
      have ST := Lib.hid (stNext ST.out bd)
      have OA := Lib.hid (OA.out.next bd)
      have OB := Lib.hid (OB.out.next bd)
      have KB := Lib.hid (KB.out.below bd KB.out.2.2)
      clear bd
      generalize w13.drew = wd at *
      obtain ⟨⟨z0, z1, z2⟩, ⟨t0, t1, t2⟩, -⟩ := id KR.out
      go_simp
      clear z0 z1 z2 t0 t1 t2
      have KR1 := Lib.hid (KR.out.put3 (x' := .int .i64 c1) (y' := .slice a1 n1 k1) (z' := .int .i64 f1))
      have KQ1 := Lib.hid (KQ.out.putN (q2 := r1) (x' := .int .i64 c1) (y' := .slice a1 n1 k1) (z' := .int .i64 f1) (by omega))
      have KA1 := Lib.hid (KA.out.putN (q2 := r1) (x' := .int .i64 c1) (y' := .slice a1 n1 k1) (z' := .int .i64 f1) hra)
      have KB1 := Lib.hid (KB.out.putN (q2 := r1) (x' := .int .i64 c1) (y' := .slice a1 n1 k1) (z' := .int .i64 f1) hrb)
      refine hK.out _ _ ⟨KA1.out.1, KB1.out.1⟩ (fun hHeld => ?_)
      clear hK K
      generalize hwx : put3 wd r1 (.int .i64 c1) (.slice a1 n1 k1) (.int .i64 f1) = wx at *
      refine wpAnyH_ready (rs := [3]) (by kernel_rfl) (by simp) (AllReadyH.cons rfl (fun K hK => ?_) (AllReadyH.nil))
      obtain ⟨⟨z0, z1, z2⟩, ⟨t0, t1, t2⟩, -⟩ := id KQ1.out
      unfold put3 at hwx
      rw [hwx]
      go_simp
      clear z0 z1 z2 t0 t1 t2
      have KQ2 := Lib.hid (KQ1.out.put3 (x' := .int .i64 c2) (y' := .slice a2 n1 k2) (z' := .int .i64 f1))
      have KR2 := Lib.hid (KR1.out.putN (q2 := r1 + 1) (x' := .int .i64 c2) (y' := .slice a2 n1 k2) (z' := .int .i64 f1) (by omega))
      refine hK.out _ _ ⟨(KA1.out.putN (q2 := r1 + 1) (x' := .int .i64 c2) (y' := .slice a2 n1 k2) (z' := .int .i64 f1) hqa1).1, (KB1.out.putN (q2 := r1 + 1) (x' := .int .i64 c2) (y' := .slice a2 n1 k2) (z' := .int .i64 f1) hqb1).1⟩ (fun hHeld => ?_)
      clear hK K
      refine wpAnyH_done (by kernel_rfl) ?_ _
      clear hHeld x0 y0
      obtain ⟨⟨u0, u1, u2⟩, -, -⟩ := id KR2.out
      obtain ⟨⟨v0, v1, v2⟩, -, -⟩ := id KQ2.out
      have FO := Lib.hid (show ∀ (v : Value) (l : List Bi), OwI w1.heap.size wd v l → OwI w.heap.size (put3 wx (r1 + 1) (.int .i64 c2) (.slice a2 n1 k2) (.int .i64 f1)) v l from fun v l h => by
        have h1 : OwI w1.heap.size (put3 wd r1 (.int .i64 c1) (.slice a1 n1 k1) (.int .i64 f1)) v l := OwI.putN h (fun k e => by have := OwI.lt h k e; omega)
        unfold put3 at h1
        rw [hwx] at h1
        exact (OwI.putN h1 (fun k e => by have := OwI.lt h1 k e; omega)).mono (by have := HR1.out; omega))
      have FB := Lib.hid (show Below w.heap.size w (put3 wx (r1 + 1) (.int .i64 c2) (.slice a2 n1 k2) (.int .i64 f1)) from by
        rw [HR1.out]
        have h1 : Below r1 w wd := BW.out.trans (ST.out.but.below (B := r1) (by omega) (by omega))
        have h2 : Below r1 w (put3 wd r1 (.int .i64 c1) (.slice a1 n1 k1) (.int .i64 f1)) := put3_below h1 (Nat.le_refl _)
        unfold put3 at h2
        rw [hwx] at h2
        exact put3_below h2 (Nat.le_succ _))
      unfold put3 at u0 u1 u2 v0 v1 v2 FO FB
      go_wp2_with fail
      refine bodyPost_ret (v := .tuple #[.agg #[.int .i64 c1, .slice a1 n1 k1, .int .i64 f1], .agg #[.int .i64 c2, .slice a2 n1 k2, .int .i64 f1]]) (by simp [results, Tryz.results11, go_sem, u0, u1, u2, v0, v1, v2]) rfl ?_
      exact ⟨c1, _, l1, f1, c2, _, l1, f1, rfl, FO.out _ _ OA.out, n5, FO.out _ _ OB.out, by omega, FB.out⟩
    have p0 : (t == 0) = false := beq_eq_false_iff_ne.2 e0
    by_cases e1 : t = 1
    · subst e1
      go_wp2_with fail
      refine (drawI_any _ b _ ST.out.cur).mono ?_; rintro e w12 ⟨v3, l3, rfl, o3, n3, -, hc, hw⟩
      obtain ⟨a3, k3, rfl, -⟩ := o3.view
      have O3 := Lib.hid (o3.mono ST.out.size)
      have NB := Lib.hid (show ∀ k, (Value.slice a3 l3.length k3).ownBlock = some k → k ≠ qb from fun k e => by have := OwI.lt o3 k e; have := KB.out.2.2; omega)
      have KR := Lib.hid (KR.out.but hw ne1)
      have KQ := Lib.hid (KQ.out.but hw ne2)
      have KA := Lib.hid (KA.out.but hw (by omega))
      have KB := Lib.hid (KB.out.but hw (by omega))
      have OA := Lib.hid (OA.out.but hw hb1)
      have ST := Lib.hid (ST.out.draws hw hc)
      clear hc hw
      clear o3 OB
      obtain ⟨n4, hl3⟩ : ∃ n, l3.length = n := ⟨_, rfl⟩
      rw [hl3] at O3 NB ⊢
      have OB := O3
      clear O3
      obtain ⟨⟨z0, z1, z2⟩, ⟨s0, s1, s2⟩, -⟩ := id KB.out
      go_wp2_with fail
      clear z0 z1 z2 s0 s1 s2
      have KR := Lib.hid (KR.out.off (g := qb) (i := 1) (fun e => hrb e.symm) (.slice a3 n4 k3))
      have KQ := Lib.hid (KQ.out.off (g := qb) (i := 1) (fun e => hqb1 e.symm) (.slice a3 n4 k3))
      have KA := Lib.hid (KA.out.off (g := qb) (i := 1) hqa (.slice a3 n4 k3))
      have KB := Lib.hid (show Tri qb (.int .i64 c1) (.slice a3 n4 k3) (.int .i64 f1) (w12.setCell ⟨qb, 1, none⟩ (.slice a3 n4 k3)) from KB.out.set (i := 1) (by decide) (.slice a3 n4 k3))
      have OA := Lib.hid (OA.out.offN (g := qb) (i := 1) NA.out (.slice a3 n4 k3))
      have OB := Lib.hid (OB.out.offN (g := qb) (i := 1) NB.out (.slice a3 n4 k3))
      have ST := Lib.hid (ST.out.setNew (p := ⟨qb, 1, none⟩) hne (.slice a3 n4 k3))
      generalize w12.setCell ⟨qb, 1, none⟩ (.slice a3 n4 k3) = w13 at *
      obtain ⟨x0, -, -⟩ := id KA.out
      obtain ⟨y0, -, -⟩ := id KB.out
      refine wp_region_held_drew (S := fun z => (z.cell? ⟨qa, 0, none⟩ = some (.int .i64 c1) ∧ z.cell? ⟨qa, 1, none⟩ = some (.slice a1 n1 k1) ∧ z.cell? ⟨qa, 2, none⟩ = some (.int .i64 f1)) ∧ (z.cell? ⟨qb, 0, none⟩ = some (.int .i64 c1) ∧ z.cell? ⟨qb, 1, none⟩ = some (.slice a3 n4 k3) ∧ z.cell? ⟨qb, 2, none⟩ = some (.int .i64 f1))) (by kernel_rfl) ⟨x0, y0⟩ (fun hHeld => ?_)
      refine wpAnyH_take (i := 0) (v := ?v0z2) rfl (by kernel_rfl) (by kernel_rfl) (by kernel_rfl) (fun _ _ _ h => h) (Or.inl ⟨by rfl, ?hy0z2⟩) (by assumption) ?rest0z2
      case hy0z2 => (intro zz hSw; (try dsimp only at hSw); go_simp; (try with_reducible rfl))
      change wpAnyH _ _ _ _ _ _ _ (Act.put _ (some 41) _) _
      simp only [Act.put, List.setIfInBounds_toArray, List.set_cons_zero, List.set_cons_succ]
      refine wpAnyH_take (i := 1) (v := ?v1z2) rfl (by kernel_rfl) (by kernel_rfl) (by kernel_rfl) (fun _ _ _ h => h) (Or.inl ⟨by rfl, ?hy1z2⟩) (by assumption) ?rest1z2
      case hy1z2 => (intro zz hSw; (try dsimp only at hSw); go_simp; (try with_reducible rfl))
      change wpAnyH _ _ _ _ _ _ _ (Act.put _ (some 42) _) _
      simp only [Act.put, List.setIfInBounds_toArray, List.set_cons_zero, List.set_cons_succ]
      refine wpAnyH_ready (rs := [2]) (by kernel_rfl) (by simp) (AllReadyH.cons rfl (fun K hK => ?_) (AllReadyH.nil))
      have bd : Below w13.heap.size w13 w13.drew := (Below.refl _ _).drew
      have KR := Lib.hid (KR.out.below bd KR.out.2.2)
      have KQ := Lib.hid (KQ.out.below bd KQ.out.2.2)
      have KA := Lib.hid (KA.out.below bd KA.out.2.2)
      have ST := Lib.hid (stNext ST.out bd)
      have OA := Lib.hid (OA.out.next bd)
      have OB := Lib.hid (OB.out.next bd)
      have KB := Lib.hid (KB.out.below bd KB.out.2.2)
      clear bd
      generalize w13.drew = wd at *
      obtain ⟨⟨z0, z1, z2⟩, ⟨t0, t1, t2⟩, -⟩ := id KR.out
      go_simp
      clear z0 z1 z2 t0 t1 t2
      have KR1 := Lib.hid (KR.out.put3 (x' := .int .i64 c1) (y' := .slice a1 n1 k1) (z' := .int .i64 f1))
      have KQ1 := Lib.hid (KQ.out.putN (q2 := r1) (x' := .int .i64 c1) (y' := .slice a1 n1 k1) (z' := .int .i64 f1) (by omega))
      have KA1 := Lib.hid (KA.out.putN (q2 := r1) (x' := .int .i64 c1) (y' := .slice a1 n1 k1) (z' := .int .i64 f1) hra)
      have KB1 := Lib.hid (KB.out.putN (q2 := r1) (x' := .int .i64 c1) (y' := .slice a1 n1 k1) (z' := .int .i64 f1) hrb)
      refine hK.out _ _ ⟨KA1.out.1, KB1.out.1⟩ (fun hHeld => ?_)
      clear hK K
      generalize hwx : put3 wd r1 (.int .i64 c1) (.slice a1 n1 k1) (.int .i64 f1) = wx at *
      refine wpAnyH_ready (rs := [3]) (by kernel_rfl) (by simp) (AllReadyH.cons rfl (fun K hK => ?_) (AllReadyH.nil))
      obtain ⟨⟨z0, z1, z2⟩, ⟨t0, t1, t2⟩, -⟩ := id KQ1.out
      unfold put3 at hwx
      rw [hwx]
      go_simp
      clear z0 z1 z2 t0 t1 t2
      have KQ2 := Lib.hid (KQ1.out.put3 (x' := .int .i64 c1) (y' := .slice a3 n4 k3) (z' := .int .i64 f1))
      have KR2 := Lib.hid (KR1.out.putN (q2 := r1 + 1) (x' := .int .i64 c1) (y' := .slice a3 n4 k3) (z' := .int .i64 f1) (by omega))
      refine hK.out _ _ ⟨(KA1.out.putN (q2 := r1 + 1) (x' := .int .i64 c1) (y' := .slice a3 n4 k3) (z' := .int .i64 f1) hqa1).1, (KB1.out.putN (q2 := r1 + 1) (x' := .int .i64 c1) (y' := .slice a3 n4 k3) (z' := .int .i64 f1) hqb1).1⟩ (fun hHeld => ?_)
      clear hK K
      refine wpAnyH_done (by kernel_rfl) ?_ _
      clear hHeld x0 y0
      obtain ⟨⟨u0, u1, u2⟩, -, -⟩ := id KR2.out
      obtain ⟨⟨v0, v1, v2⟩, -, -⟩ := id KQ2.out
      have FO := Lib.hid (show ∀ (v : Value) (l : List Bi), OwI w1.heap.size wd v l → OwI w.heap.size (put3 wx (r1 + 1) (.int .i64 c1) (.slice a3 n4 k3) (.int .i64 f1)) v l from fun v l h => by
        have h1 : OwI w1.heap.size (put3 wd r1 (.int .i64 c1) (.slice a1 n1 k1) (.int .i64 f1)) v l := OwI.putN h (fun k e => by have := OwI.lt h k e; omega)
        unfold put3 at h1
        rw [hwx] at h1
        exact (OwI.putN h1 (fun k e => by have := OwI.lt h1 k e; omega)).mono (by have := HR1.out; omega))
      have FB := Lib.hid (show Below w.heap.size w (put3 wx (r1 + 1) (.int .i64 c1) (.slice a3 n4 k3) (.int .i64 f1)) from by
        rw [HR1.out]
        have h1 : Below r1 w wd := BW.out.trans (ST.out.but.below (B := r1) (by omega) (by omega))
        have h2 : Below r1 w (put3 wd r1 (.int .i64 c1) (.slice a1 n1 k1) (.int .i64 f1)) := put3_below h1 (Nat.le_refl _)
        unfold put3 at h2
        rw [hwx] at h2
        exact put3_below h2 (Nat.le_succ _))
      unfold put3 at u0 u1 u2 v0 v1 v2 FO FB
      go_wp2_with fail
      refine bodyPost_ret (v := .tuple #[.agg #[.int .i64 c1, .slice a1 n1 k1, .int .i64 f1], .agg #[.int .i64 c1, .slice a3 n4 k3, .int .i64 f1]]) (by simp [results, Tryz.results11, go_sem, u0, u1, u2, v0, v1, v2]) rfl ?_
      exact ⟨c1, _, l1, f1, c1, _, l3, f1, rfl, FO.out _ _ OA.out, n5, FO.out _ _ OB.out, n3, FB.out⟩
    have p1 : (t == 1) = false := beq_eq_false_iff_ne.2 e1
    by_cases e2 : t = 2
    · subst e2
      go_wp2_with fail
      refine (below_any _ b _ _ ST.out.cur (by decide) (by decide)).mono ?_; rintro e w12 ⟨f2, rfl, -, -, hc, hw⟩
      have KR := Lib.hid (KR.out.but hw ne1)
      have KQ := Lib.hid (KQ.out.but hw ne2)
      have KA := Lib.hid (KA.out.but hw (by omega))
      have KB := Lib.hid (KB.out.but hw (by omega))
      have OA := Lib.hid (OA.out.but hw hb1)
      have OB := Lib.hid (OB.out.but hw hb1)
      have ST := Lib.hid (ST.out.draws hw hc)
      clear hc hw
      obtain ⟨⟨z0, z1, z2⟩, ⟨s0, s1, s2⟩, -⟩ := id KB.out
      go_wp2_with fail
      clear z0 z1 z2 s0 s1 s2
      have KR := Lib.hid (KR.out.off (g := qb) (i := 2) (fun e => hrb e.symm) (.int .i64 f2))
      have KQ := Lib.hid (KQ.out.off (g := qb) (i := 2) (fun e => hqb1 e.symm) (.int .i64 f2))
      have KA := Lib.hid (KA.out.off (g := qb) (i := 2) hqa (.int .i64 f2))
      have KB := Lib.hid (show Tri qb (.int .i64 c1) (.slice a2 n1 k2) (.int .i64 f2) (w12.setCell ⟨qb, 2, none⟩ (.int .i64 f2)) from KB.out.set (i := 2) (by decide) (.int .i64 f2))
      have OA := Lib.hid (OA.out.offN (g := qb) (i := 2) NA.out (.int .i64 f2))
      have OB := Lib.hid (OB.out.offN (g := qb) (i := 2) NB.out (.int .i64 f2))
      have ST := Lib.hid (ST.out.setNew (p := ⟨qb, 2, none⟩) hne (.int .i64 f2))
      generalize w12.setCell ⟨qb, 2, none⟩ (.int .i64 f2) = w13 at *
      obtain ⟨x0, -, -⟩ := id KA.out
      obtain ⟨y0, -, -⟩ := id KB.out
      refine wp_region_held_drew (S := fun z => (z.cell? ⟨qa, 0, none⟩ = some (.int .i64 c1) ∧ z.cell? ⟨qa, 1, none⟩ = some (.slice a1 n1 k1) ∧ z.cell? ⟨qa, 2, none⟩ = some (.int .i64 f1)) ∧ (z.cell? ⟨qb, 0, none⟩ = some (.int .i64 c1) ∧ z.cell? ⟨qb, 1, none⟩ = some (.slice a2 n1 k2) ∧ z.cell? ⟨qb, 2, none⟩ = some (.int .i64 f2))) (by kernel_rfl) ⟨x0, y0⟩ (fun hHeld => ?_)
      refine wpAnyH_take (i := 0) (v := ?v0z3) rfl (by kernel_rfl) (by kernel_rfl) (by kernel_rfl) (fun _ _ _ h => h) (Or.inl ⟨by rfl, ?hy0z3⟩) (by assumption) ?rest0z3
      case hy0z3 => (intro zz hSw; (try dsimp only at hSw); go_simp; (try with_reducible rfl))
      change wpAnyH _ _ _ _ _ _ _ (Act.put _ (some 41) _) _
      simp only [Act.put, List.setIfInBounds_toArray, List.set_cons_zero, List.set_cons_succ]
      refine wpAnyH_take (i := 1) (v := ?v1z3) rfl (by kernel_rfl) (by kernel_rfl) (by kernel_rfl) (fun _ _ _ h => h) (Or.inl ⟨by rfl, ?hy1z3⟩) (by assumption) ?rest1z3
      case hy1z3 => (intro zz hSw; (try dsimp only at hSw); go_simp; (try with_reducible rfl))
      change wpAnyH _ _ _ _ _ _ _ (Act.put _ (some 42) _) _
      simp only [Act.put, List.setIfInBounds_toArray, List.set_cons_zero, List.set_cons_succ]
      refine wpAnyH_ready (rs := [2]) (by kernel_rfl) (by simp) (AllReadyH.cons rfl (fun K hK => ?_) (AllReadyH.nil))
      have bd : Below w13.heap.size w13 w13.drew := (Below.refl _ _).drew
      have KR := Lib.hid (KR.out.below bd KR.out.2.2)
      have KQ := Lib.hid (KQ.out.below bd KQ.out.2.2)
      have KA := Lib.hid (KA.out.below bd KA.out.2.2)
      have ST := Lib.hid (stNext ST.out bd)
      have OA := Lib.hid (OA.out.next bd)
      have OB := Lib.hid (OB.out.next bd)
      have KB := Lib.hid (KB.out.below bd KB.out.2.2)
      clear bd
      generalize w13.drew = wd at *
      obtain ⟨⟨z0, z1, z2⟩, ⟨t0, t1, t2⟩, -⟩ := id KR.out
      go_simp
      clear z0 z1 z2 t0 t1 t2
      have KR1 := Lib.hid (KR.out.put3 (x' := .int .i64 c1) (y' := .slice a1 n1 k1) (z' := .int .i64 f1))
      have KQ1 := Lib.hid (KQ.out.putN (q2 := r1) (x' := .int .i64 c1) (y' := .slice a1 n1 k1) (z' := .int .i64 f1) (by omega))
      have KA1 := Lib.hid (KA.out.putN (q2 := r1) (x' := .int .i64 c1) (y' := .slice a1 n1 k1) (z' := .int .i64 f1) hra)
      have KB1 := Lib.hid (KB.out.putN (q2 := r1) (x' := .int .i64 c1) (y' := .slice a1 n1 k1) (z' := .int .i64 f1) hrb)
      refine hK.out _ _ ⟨KA1.out.1, KB1.out.1⟩ (fun hHeld => ?_)
      clear hK K
      generalize hwx : put3 wd r1 (.int .i64 c1) (.slice a1 n1 k1) (.int .i64 f1) = wx at *
      refine wpAnyH_ready (rs := [3]) (by kernel_rfl) (by simp) (AllReadyH.cons rfl (fun K hK => ?_) (AllReadyH.nil))
      obtain ⟨⟨z0, z1, z2⟩, ⟨t0, t1, t2⟩, -⟩ := id KQ1.out
      unfold put3 at hwx
      rw [hwx]
      go_simp
      clear z0 z1 z2 t0 t1 t2
      have KQ2 := Lib.hid (KQ1.out.put3 (x' := .int .i64 c1) (y' := .slice a2 n1 k2) (z' := .int .i64 f2))
      have KR2 := Lib.hid (KR1.out.putN (q2 := r1 + 1) (x' := .int .i64 c1) (y' := .slice a2 n1 k2) (z' := .int .i64 f2) (by omega))
      refine hK.out _ _ ⟨(KA1.out.putN (q2 := r1 + 1) (x' := .int .i64 c1) (y' := .slice a2 n1 k2) (z' := .int .i64 f2) hqa1).1, (KB1.out.putN (q2 := r1 + 1) (x' := .int .i64 c1) (y' := .slice a2 n1 k2) (z' := .int .i64 f2) hqb1).1⟩ (fun hHeld => ?_)
      clear hK K
      refine wpAnyH_done (by kernel_rfl) ?_ _
      clear hHeld x0 y0
      obtain ⟨⟨u0, u1, u2⟩, -, -⟩ := id KR2.out
      obtain ⟨⟨v0, v1, v2⟩, -, -⟩ := id KQ2.out
      have FO := Lib.hid (show ∀ (v : Value) (l : List Bi), OwI w1.heap.size wd v l → OwI w.heap.size (put3 wx (r1 + 1) (.int .i64 c1) (.slice a2 n1 k2) (.int .i64 f2)) v l from fun v l h => by
        have h1 : OwI w1.heap.size (put3 wd r1 (.int .i64 c1) (.slice a1 n1 k1) (.int .i64 f1)) v l := OwI.putN h (fun k e => by have := OwI.lt h k e; omega)
        unfold put3 at h1
        rw [hwx] at h1
        exact (OwI.putN h1 (fun k e => by have := OwI.lt h1 k e; omega)).mono (by have := HR1.out; omega))
      have FB := Lib.hid (show Below w.heap.size w (put3 wx (r1 + 1) (.int .i64 c1) (.slice a2 n1 k2) (.int .i64 f2)) from by
        rw [HR1.out]
        have h1 : Below r1 w wd := BW.out.trans (ST.out.but.below (B := r1) (by omega) (by omega))
        have h2 : Below r1 w (put3 wd r1 (.int .i64 c1) (.slice a1 n1 k1) (.int .i64 f1)) := put3_below h1 (Nat.le_refl _)
        unfold put3 at h2
        rw [hwx] at h2
        exact put3_below h2 (Nat.le_succ _))
      unfold put3 at u0 u1 u2 v0 v1 v2 FO FB
      go_wp2_with fail
      refine bodyPost_ret (v := .tuple #[.agg #[.int .i64 c1, .slice a1 n1 k1, .int .i64 f1], .agg #[.int .i64 c1, .slice a2 n1 k2, .int .i64 f2]]) (by simp [results, Tryz.results11, go_sem, u0, u1, u2, v0, v1, v2]) rfl ?_
      exact ⟨c1, _, l1, f1, c1, _, l1, f2, rfl, FO.out _ _ OA.out, n5, FO.out _ _ OB.out, by omega, FB.out⟩
    have p2 : (t == 2) = false := beq_eq_false_iff_ne.2 e2
    go_wp2_with fail
    obtain ⟨x0, -, -⟩ := id KA.out
    obtain ⟨y0, -, -⟩ := id KB.out
    refine wp_region_held_drew (S := fun z => (z.cell? ⟨qa, 0, none⟩ = some (.int .i64 c1) ∧ z.cell? ⟨qa, 1, none⟩ = some (.slice a1 n1 k1) ∧ z.cell? ⟨qa, 2, none⟩ = some (.int .i64 f1)) ∧ (z.cell? ⟨qb, 0, none⟩ = some (.int .i64 c1) ∧ z.cell? ⟨qb, 1, none⟩ = some (.slice a2 n1 k2) ∧ z.cell? ⟨qb, 2, none⟩ = some (.int .i64 f1))) (by kernel_rfl) ⟨x0, y0⟩ (fun hHeld => ?_)
    refine wpAnyH_take (i := 0) (v := ?v0z4) rfl (by kernel_rfl) (by kernel_rfl) (by kernel_rfl) (fun _ _ _ h => h) (Or.inl ⟨by rfl, ?hy0z4⟩) (by assumption) ?rest0z4
    case hy0z4 => (intro zz hSw; (try dsimp only at hSw); go_simp; (try with_reducible rfl))
    change wpAnyH _ _ _ _ _ _ _ (Act.put _ (some 41) _) _
    simp only [Act.put, List.setIfInBounds_toArray, List.set_cons_zero, List.set_cons_succ]
    refine wpAnyH_take (i := 1) (v := ?v1z4) rfl (by kernel_rfl) (by kernel_rfl) (by kernel_rfl) (fun _ _ _ h => h) (Or.inl ⟨by rfl, ?hy1z4⟩) (by assumption) ?rest1z4
    case hy1z4 => (intro zz hSw; (try dsimp only at hSw); go_simp; (try with_reducible rfl))
    change wpAnyH _ _ _ _ _ _ _ (Act.put _ (some 42) _) _
    simp only [Act.put, List.setIfInBounds_toArray, List.set_cons_zero, List.set_cons_succ]
    refine wpAnyH_ready (rs := [2]) (by kernel_rfl) (by simp) (AllReadyH.cons rfl (fun K hK => ?_) (AllReadyH.nil))
    have bd : Below w11.heap.size w11 w11.drew := (Below.refl _ _).drew
    have KR := Lib.hid (KR.out.below bd KR.out.2.2)
    have KQ := Lib.hid (KQ.out.below bd KQ.out.2.2)
    have KA := Lib.hid (KA.out.below bd KA.out.2.2)
    have ST := Lib.hid (stNext ST.out bd)
    have OA := Lib.hid (OA.out.next bd)
    have OB := Lib.hid (OB.out.next bd)
    have KB := Lib.hid (KB.out.below bd KB.out.2.2)
    clear bd
    generalize w11.drew = wd at *
    obtain ⟨⟨z0, z1, z2⟩, ⟨t0, t1, t2⟩, -⟩ := id KR.out
    go_simp
    clear z0 z1 z2 t0 t1 t2
    have KR1 := Lib.hid (KR.out.put3 (x' := .int .i64 c1) (y' := .slice a1 n1 k1) (z' := .int .i64 f1))
    have KQ1 := Lib.hid (KQ.out.putN (q2 := r1) (x' := .int .i64 c1) (y' := .slice a1 n1 k1) (z' := .int .i64 f1) (by omega))
    have KA1 := Lib.hid (KA.out.putN (q2 := r1) (x' := .int .i64 c1) (y' := .slice a1 n1 k1) (z' := .int .i64 f1) hra)
    have KB1 := Lib.hid (KB.out.putN (q2 := r1) (x' := .int .i64 c1) (y' := .slice a1 n1 k1) (z' := .int .i64 f1) hrb)
    refine hK.out _ _ ⟨KA1.out.1, KB1.out.1⟩ (fun hHeld => ?_)
    clear hK K
    generalize hwx : put3 wd r1 (.int .i64 c1) (.slice a1 n1 k1) (.int .i64 f1) = wx at *
    refine wpAnyH_ready (rs := [3]) (by kernel_rfl) (by simp) (AllReadyH.cons rfl (fun K hK => ?_) (AllReadyH.nil))
    obtain ⟨⟨z0, z1, z2⟩, ⟨t0, t1, t2⟩, -⟩ := id KQ1.out
    unfold put3 at hwx
    rw [hwx]
    go_simp
    clear z0 z1 z2 t0 t1 t2
    have KQ2 := Lib.hid (KQ1.out.put3 (x' := .int .i64 c1) (y' := .slice a2 n1 k2) (z' := .int .i64 f1))
    have KR2 := Lib.hid (KR1.out.putN (q2 := r1 + 1) (x' := .int .i64 c1) (y' := .slice a2 n1 k2) (z' := .int .i64 f1) (by omega))
    refine hK.out _ _ ⟨(KA1.out.putN (q2 := r1 + 1) (x' := .int .i64 c1) (y' := .slice a2 n1 k2) (z' := .int .i64 f1) hqa1).1, (KB1.out.putN (q2 := r1 + 1) (x' := .int .i64 c1) (y' := .slice a2 n1 k2) (z' := .int .i64 f1) hqb1).1⟩ (fun hHeld => ?_)
    clear hK K
    refine wpAnyH_done (by kernel_rfl) ?_ _
    clear hHeld x0 y0
    obtain ⟨⟨u0, u1, u2⟩, -, -⟩ := id KR2.out
    obtain ⟨⟨v0, v1, v2⟩, -, -⟩ := id KQ2.out
    have FO := Lib.hid (show ∀ (v : Value) (l : List Bi), OwI w1.heap.size wd v l → OwI w.heap.size (put3 wx (r1 + 1) (.int .i64 c1) (.slice a2 n1 k2) (.int .i64 f1)) v l from fun v l h => by
      have h1 : OwI w1.heap.size (put3 wd r1 (.int .i64 c1) (.slice a1 n1 k1) (.int .i64 f1)) v l := OwI.putN h (fun k e => by have := OwI.lt h k e; omega)
      unfold put3 at h1
      rw [hwx] at h1
      exact (OwI.putN h1 (fun k e => by have := OwI.lt h1 k e; omega)).mono (by have := HR1.out; omega))
    have FB := Lib.hid (show Below w.heap.size w (put3 wx (r1 + 1) (.int .i64 c1) (.slice a2 n1 k2) (.int .i64 f1)) from by
      rw [HR1.out]
      have h1 : Below r1 w wd := BW.out.trans (ST.out.but.below (B := r1) (by omega) (by omega))
      have h2 : Below r1 w (put3 wd r1 (.int .i64 c1) (.slice a1 n1 k1) (.int .i64 f1)) := put3_below h1 (Nat.le_refl _)
      unfold put3 at h2
      rw [hwx] at h2
      exact put3_below h2 (Nat.le_succ _))
    unfold put3 at u0 u1 u2 v0 v1 v2 FO FB
    go_wp2_with fail
    refine bodyPost_ret (v := .tuple #[.agg #[.int .i64 c1, .slice a1 n1 k1, .int .i64 f1], .agg #[.int .i64 c1, .slice a2 n1 k2, .int .i64 f1]]) (by simp [results, Tryz.results11, go_sem, u0, u1, u2, v0, v1, v2]) rfl ?_
    exact ⟨c1, _, l1, f1, c1, _, l1, f1, rfl, FO.out _ _ OA.out, n5, FO.out _ _ OB.out, by omega, FB.out⟩
  · skip
    go_simp
    have hb7 := bel1 w6 (.cells #[.int .i64 0, .slice none 0 0, .int .i64 0] 30)
    have KB := Lib.hid (Tri.made (.int .i64 0) (.slice none 0 0) (.int .i64 0) w6 30)
    have QA := Lib.hid (fun k e => OwI.low OA.out k e)
    have QW := Lib.hid ST.out.size
    have QK := Lib.hid KA.out.2.2
    have QR := Lib.hid KR.out.2.2
    have QQ := Lib.hid KQ.out.2.2
    have hne : w1.heap.size ≤ w6.heap.size := ST.out.size
    have KR := Lib.hid (KR.out.below hb7 KR.out.2.2)
    have KQ := Lib.hid (KQ.out.below hb7 KQ.out.2.2)
    have KA := Lib.hid (KA.out.below hb7 KA.out.2.2)
    have ST := Lib.hid (stNext ST.out hb7)
    have OA := Lib.hid (OA.out.next hb7)
    clear hb7
    have bd : Below (w6.alloc (.cells #[.int .i64 0, .slice none 0 0, .int .i64 0] 30)).heap.size (w6.alloc (.cells #[.int .i64 0, .slice none 0 0, .int .i64 0] 30)) (w6.alloc (.cells #[.int .i64 0, .slice none 0 0, .int .i64 0] 30)).drew := (Below.refl _ (w6.alloc (.cells #[.int .i64 0, .slice none 0 0, .int .i64 0] 30))).drew
    have KR := Lib.hid (KR.out.below bd KR.out.2.2)
    have KQ := Lib.hid (KQ.out.below bd KQ.out.2.2)
    have KA := Lib.hid (KA.out.below bd KA.out.2.2)
    have ST := Lib.hid (stNext ST.out bd)
    have OA := Lib.hid (OA.out.next bd)
    have KB := Lib.hid (KB.out.below bd KB.out.2.2)
    clear bd
    have LQ := Lib.hid KB.out.2.2
    generalize hqb : w6.heap.size = qb at *
    generalize (w6.alloc (.cells #[.int .i64 0, .slice none 0 0, .int .i64 0] 30)).drew = w7 at *
    have HQB := Lib.hid hqb
    clear hqb
    refine hK.out _ _ KA.out.1 (fun hHeld => ?_)
    clear hK K
    refine wpAnyH_ready (rs := [4]) (by kernel_rfl) (by simp) (AllReadyH.cons rfl (fun K hK => ?_) (AllReadyH.nil))
    go_simp
    refine (l7Copy_any w7 a1 k1 l1 n1 hl1 OA.out.vw (by omega)).mono ?_; rintro e w8 ⟨v2, rfl, o2, b8⟩
    obtain ⟨a2, k2, rfl, -⟩ := o2.view
    rw [hl1] at o2 ⊢
    have OB := Lib.hid (o2.mono (show w1.heap.size ≤ w7.heap.size from ST.out.size))
    have LB := Lib.hid (fun k e => OwI.lt o2 k e)
    have UB := Lib.hid (fun k e => OwI.low o2 k e)
    have KR := Lib.hid (KR.out.below b8 KR.out.2.2)
    have KQ := Lib.hid (KQ.out.below b8 KQ.out.2.2)
    have KA := Lib.hid (KA.out.below b8 KA.out.2.2)
    have ST := Lib.hid (stNext ST.out b8)
    have OA := Lib.hid (OA.out.next b8)
    have KB := Lib.hid (KB.out.below b8 KB.out.2.2)
    refine hK.out _ _ KA.out.1 (fun hHeld => ?_)
    clear hK K o2 b8
    refine wpAnyH_take (i := 7) (v := ?v7cy) rfl (by kernel_rfl) (by kernel_rfl) (by kernel_rfl) (fun _ _ _ h => h) (Or.inl ⟨by rfl, ?hy7cy⟩) (by assumption) ?rest7cy
    case hy7cy => (intro zz hSw; (try dsimp only at hSw); go_simp; (try with_reducible rfl))
    change wpAnyH _ _ _ _ _ _ _ (Act.put _ (some 23) _) _
    simp only [Act.put, List.setIfInBounds_toArray, List.set_cons_zero, List.set_cons_succ]
    refine wpAnyH_ready (rs := [9]) (by kernel_rfl) (by simp) (AllReadyH.cons rfl (fun K hK => ?_) (AllReadyH.nil))
    obtain ⟨⟨z0, z1, z2⟩, ⟨t0, t1, t2⟩, -⟩ := id KB.out
    go_simp
    clear z0 z1 z2 t0 t1 t2
    have hqa : qa ≠ qb := by have := QK.out; omega
    have NA := Lib.hid (show ∀ k, (Value.slice a1 n1 k1).ownBlock = some k → k ≠ qb from fun k e => by have := QA.out k e; omega)
    have NB := Lib.hid (show ∀ k, (Value.slice a2 n1 k2).ownBlock = some k → k ≠ qb from fun k e => by have := LB.out k e; have := UB.out k e; have := LQ.out; have := HQB.out; omega)
    have KR := Lib.hid (KR.out.putN (q2 := qb) (x' := .int .i64 c1) (y' := .slice a2 n1 k2) (z' := .int .i64 f1) (by have := QR.out; omega))
    have KQ := Lib.hid (KQ.out.putN (q2 := qb) (x' := .int .i64 c1) (y' := .slice a2 n1 k2) (z' := .int .i64 f1) (by have := QQ.out; omega))
    have KA := Lib.hid (KA.out.putN (q2 := qb) (x' := .int .i64 c1) (y' := .slice a2 n1 k2) (z' := .int .i64 f1) hqa)
    have OA := Lib.hid (OA.out.putN (q := qb) (x := .int .i64 c1) (y := .slice a2 n1 k2) (z := .int .i64 f1) (fun k e => by have := QA.out k e; omega))
    have OB := Lib.hid (OB.out.putN (q := qb) (x := .int .i64 c1) (y := .slice a2 n1 k2) (z := .int .i64 f1) (fun k e => by have := LB.out k e; have := UB.out k e; have := LQ.out; have := HQB.out; omega))
    have KB := Lib.hid (KB.out.put3 (x' := .int .i64 c1) (y' := .slice a2 n1 k2) (z' := .int .i64 f1))
    have ST := Lib.hid (stPut (q := qb) (x := .int .i64 c1) (y := .slice a2 n1 k2) (z := .int .i64 f1) ST.out (by omega))
    refine hK.out _ _ KA.out.1 (fun hHeld => ?_)
    clear hK K
    generalize hw10 : put3 w8 qb (.int .i64 c1) (.slice a2 n1 k2) (.int .i64 f1) = w10 at *
    refine wpAnyH_done (by kernel_rfl) ?_ _
    unfold put3 at hw10
    rw [hw10]
    have hra : qa ≠ r1 := by have := QR.out; have := QQ.out; omega
    clear hHeld hw10
    have hqab : qa ≠ b := by omega
    have hqbb : qb ≠ b := by have := HQB.out; omega
    have hrb : qb ≠ r1 := by have := QR.out; have := QQ.out; omega
    have hqa1 : qa ≠ r1 + 1 := by omega
    have hqb1 : qb ≠ r1 + 1 := by have := QQ.out; omega
    go_wp2_with fail
    refine (below_any _ b _ _ ST.out.cur (by decide) (by decide)).mono ?_; rintro e w11 ⟨t, rfl, t0, t1, hc, hw⟩
    have KR := Lib.hid (KR.out.but hw ne1)
    have KQ := Lib.hid (KQ.out.but hw ne2)
    have KA := Lib.hid (KA.out.but hw (by omega))
    have KB := Lib.hid (KB.out.but hw (by omega))
    have OA := Lib.hid (OA.out.but hw hb1)
    have OB := Lib.hid (OB.out.but hw hb1)
    have ST := Lib.hid (ST.out.draws hw hc)
    clear hc hw
    clear t1
    by_cases e0 : t = 0
    · subst e0
      go_wp2_with fail
      refine (below_any _ b _ _ ST.out.cur (by decide) (by decide)).mono ?_; rintro e w12 ⟨c2, rfl, -, -, hc, hw⟩
      have KR := Lib.hid (KR.out.but hw ne1)
      have KQ := Lib.hid (KQ.out.but hw ne2)
      have KA := Lib.hid (KA.out.but hw (by omega))
      have KB := Lib.hid (KB.out.but hw (by omega))
      have OA := Lib.hid (OA.out.but hw hb1)
      have OB := Lib.hid (OB.out.but hw hb1)
      have ST := Lib.hid (ST.out.draws hw hc)
      clear hc hw
      obtain ⟨⟨z0, z1, z2⟩, ⟨s0, s1, s2⟩, -⟩ := id KB.out
      go_wp2_with fail
      clear z0 z1 z2 s0 s1 s2
      have KR := Lib.hid (KR.out.off (g := qb) (i := 0) (fun e => hrb e.symm) (.int .i64 c2))
      have KQ := Lib.hid (KQ.out.off (g := qb) (i := 0) (fun e => hqb1 e.symm) (.int .i64 c2))
      have KA := Lib.hid (KA.out.off (g := qb) (i := 0) hqa (.int .i64 c2))
      have KB := Lib.hid (show Tri qb (.int .i64 c2) (.slice a2 n1 k2) (.int .i64 f1) (w12.setCell ⟨qb, 0, none⟩ (.int .i64 c2)) from KB.out.set (i := 0) (by decide) (.int .i64 c2))
      have OA := Lib.hid (OA.out.offN (g := qb) (i := 0) NA.out (.int .i64 c2))
      have OB := Lib.hid (OB.out.offN (g := qb) (i := 0) NB.out (.int .i64 c2))
      have ST := Lib.hid (ST.out.setNew (p := ⟨qb, 0, none⟩) hne (.int .i64 c2))
      generalize w12.setCell ⟨qb, 0, none⟩ (.int .i64 c2) = w13 at *
      obtain ⟨x0, -, -⟩ := id KA.out
      obtain ⟨y0, -, -⟩ := id KB.out
      refine wp_region_held_drew (S := fun z => (z.cell? ⟨qa, 0, none⟩ = some (.int .i64 c1) ∧ z.cell? ⟨qa, 1, none⟩ = some (.slice a1 n1 k1) ∧ z.cell? ⟨qa, 2, none⟩ = some (.int .i64 f1)) ∧ (z.cell? ⟨qb, 0, none⟩ = some (.int .i64 c2) ∧ z.cell? ⟨qb, 1, none⟩ = some (.slice a2 n1 k2) ∧ z.cell? ⟨qb, 2, none⟩ = some (.int .i64 f1))) (by kernel_rfl) ⟨x0, y0⟩ (fun hHeld => ?_)
      refine wpAnyH_take (i := 0) (v := ?v0z5) rfl (by kernel_rfl) (by kernel_rfl) (by kernel_rfl) (fun _ _ _ h => h) (Or.inl ⟨by rfl, ?hy0z5⟩) (by assumption) ?rest0z5
      case hy0z5 => (intro zz hSw; (try dsimp only at hSw); go_simp; (try with_reducible rfl))
      change wpAnyH _ _ _ _ _ _ _ (Act.put _ (some 41) _) _
      simp only [Act.put, List.setIfInBounds_toArray, List.set_cons_zero, List.set_cons_succ]
      refine wpAnyH_take (i := 1) (v := ?v1z5) rfl (by kernel_rfl) (by kernel_rfl) (by kernel_rfl) (fun _ _ _ h => h) (Or.inl ⟨by rfl, ?hy1z5⟩) (by assumption) ?rest1z5
      case hy1z5 => (intro zz hSw; (try dsimp only at hSw); go_simp; (try with_reducible rfl))
      change wpAnyH _ _ _ _ _ _ _ (Act.put _ (some 42) _) _
      simp only [Act.put, List.setIfInBounds_toArray, List.set_cons_zero, List.set_cons_succ]
      refine wpAnyH_ready (rs := [2]) (by kernel_rfl) (by simp) (AllReadyH.cons rfl (fun K hK => ?_) (AllReadyH.nil))
      have bd : Below w13.heap.size w13 w13.drew := (Below.refl _ _).drew
      have KR := Lib.hid (KR.out.below bd KR.out.2.2)
      have KQ := Lib.hid (KQ.out.below bd KQ.out.2.2)
      have KA := Lib.hid (KA.out.below bd KA.out.2.2)
      have ST := Lib.hid (stNext ST.out bd)
      have OA := Lib.hid (OA.out.next bd)
      have OB := Lib.hid (OB.out.next bd)
      have KB := Lib.hid (KB.out.below bd KB.out.2.2)
      clear bd
      generalize w13.drew = wd at *
      obtain ⟨⟨z0, z1, z2⟩, ⟨t0, t1, t2⟩, -⟩ := id KR.out
      go_simp
      clear z0 z1 z2 t0 t1 t2
      have KR1 := Lib.hid (KR.out.put3 (x' := .int .i64 c1) (y' := .slice a1 n1 k1) (z' := .int .i64 f1))
      have KQ1 := Lib.hid (KQ.out.putN (q2 := r1) (x' := .int .i64 c1) (y' := .slice a1 n1 k1) (z' := .int .i64 f1) (by omega))
      have KA1 := Lib.hid (KA.out.putN (q2 := r1) (x' := .int .i64 c1) (y' := .slice a1 n1 k1) (z' := .int .i64 f1) hra)
      have KB1 := Lib.hid (KB.out.putN (q2 := r1) (x' := .int .i64 c1) (y' := .slice a1 n1 k1) (z' := .int .i64 f1) hrb)
      refine hK.out _ _ ⟨KA1.out.1, KB1.out.1⟩ (fun hHeld => ?_)
      clear hK K
      generalize hwx : put3 wd r1 (.int .i64 c1) (.slice a1 n1 k1) (.int .i64 f1) = wx at *
      refine wpAnyH_ready (rs := [3]) (by kernel_rfl) (by simp) (AllReadyH.cons rfl (fun K hK => ?_) (AllReadyH.nil))
      obtain ⟨⟨z0, z1, z2⟩, ⟨t0, t1, t2⟩, -⟩ := id KQ1.out
      unfold put3 at hwx
      rw [hwx]
      go_simp
      clear z0 z1 z2 t0 t1 t2
      have KQ2 := Lib.hid (KQ1.out.put3 (x' := .int .i64 c2) (y' := .slice a2 n1 k2) (z' := .int .i64 f1))
      have KR2 := Lib.hid (KR1.out.putN (q2 := r1 + 1) (x' := .int .i64 c2) (y' := .slice a2 n1 k2) (z' := .int .i64 f1) (by omega))
      refine hK.out _ _ ⟨(KA1.out.putN (q2 := r1 + 1) (x' := .int .i64 c2) (y' := .slice a2 n1 k2) (z' := .int .i64 f1) hqa1).1, (KB1.out.putN (q2 := r1 + 1) (x' := .int .i64 c2) (y' := .slice a2 n1 k2) (z' := .int .i64 f1) hqb1).1⟩ (fun hHeld => ?_)
      clear hK K
      refine wpAnyH_done (by kernel_rfl) ?_ _
      clear hHeld x0 y0
      obtain ⟨⟨u0, u1, u2⟩, -, -⟩ := id KR2.out
      obtain ⟨⟨v0, v1, v2⟩, -, -⟩ := id KQ2.out
      have FO := Lib.hid (show ∀ (v : Value) (l : List Bi), OwI w1.heap.size wd v l → OwI w.heap.size (put3 wx (r1 + 1) (.int .i64 c2) (.slice a2 n1 k2) (.int .i64 f1)) v l from fun v l h => by
        have h1 : OwI w1.heap.size (put3 wd r1 (.int .i64 c1) (.slice a1 n1 k1) (.int .i64 f1)) v l := OwI.putN h (fun k e => by have := OwI.lt h k e; omega)
        unfold put3 at h1
        rw [hwx] at h1
        exact (OwI.putN h1 (fun k e => by have := OwI.lt h1 k e; omega)).mono (by have := HR1.out; omega))
      have FB := Lib.hid (show Below w.heap.size w (put3 wx (r1 + 1) (.int .i64 c2) (.slice a2 n1 k2) (.int .i64 f1)) from by
        rw [HR1.out]
        have h1 : Below r1 w wd := BW.out.trans (ST.out.but.below (B := r1) (by omega) (by omega))
        have h2 : Below r1 w (put3 wd r1 (.int .i64 c1) (.slice a1 n1 k1) (.int .i64 f1)) := put3_below h1 (Nat.le_refl _)
        unfold put3 at h2
        rw [hwx] at h2
        exact put3_below h2 (Nat.le_succ _))
      unfold put3 at u0 u1 u2 v0 v1 v2 FO FB
      go_wp2_with fail
      refine bodyPost_ret (v := .tuple #[.agg #[.int .i64 c1, .slice a1 n1 k1, .int .i64 f1], .agg #[.int .i64 c2, .slice a2 n1 k2, .int .i64 f1]]) (by simp [results, Tryz.results11, go_sem, u0, u1, u2, v0, v1, v2]) rfl ?_
      exact ⟨c1, _, l1, f1, c2, _, l1, f1, rfl, FO.out _ _ OA.out, n5, FO.out _ _ OB.out, by omega, FB.out⟩
    have p0 : (t == 0) = false := beq_eq_false_iff_ne.2 e0
    by_cases e1 : t = 1
    · subst e1
      go_wp2_with fail
      refine (drawI_any _ b _ ST.out.cur).mono ?_; rintro e w12 ⟨v3, l3, rfl, o3, n3, -, hc, hw⟩
      obtain ⟨a3, k3, rfl, -⟩ := o3.view
      have O3 := Lib.hid (o3.mono ST.out.size)
      have NB := Lib.hid (show ∀ k, (Value.slice a3 l3.length k3).ownBlock = some k → k ≠ qb from fun k e => by have := OwI.lt o3 k e; have := KB.out.2.2; omega)
      have KR := Lib.hid (KR.out.but hw ne1)
      have KQ := Lib.hid (KQ.out.but hw ne2)
      have KA := Lib.hid (KA.out.but hw (by omega))
      have KB := Lib.hid (KB.out.but hw (by omega))
      have OA := Lib.hid (OA.out.but hw hb1)
      have ST := Lib.hid (ST.out.draws hw hc)
      clear hc hw
      clear o3 OB
      obtain ⟨n4, hl3⟩ : ∃ n, l3.length = n := ⟨_, rfl⟩
      rw [hl3] at O3 NB ⊢
      have OB := O3
      clear O3
      obtain ⟨⟨z0, z1, z2⟩, ⟨s0, s1, s2⟩, -⟩ := id KB.out
      go_wp2_with fail
      clear z0 z1 z2 s0 s1 s2
      have KR := Lib.hid (KR.out.off (g := qb) (i := 1) (fun e => hrb e.symm) (.slice a3 n4 k3))
      have KQ := Lib.hid (KQ.out.off (g := qb) (i := 1) (fun e => hqb1 e.symm) (.slice a3 n4 k3))
      have KA := Lib.hid (KA.out.off (g := qb) (i := 1) hqa (.slice a3 n4 k3))
      have KB := Lib.hid (show Tri qb (.int .i64 c1) (.slice a3 n4 k3) (.int .i64 f1) (w12.setCell ⟨qb, 1, none⟩ (.slice a3 n4 k3)) from KB.out.set (i := 1) (by decide) (.slice a3 n4 k3))
      have OA := Lib.hid (OA.out.offN (g := qb) (i := 1) NA.out (.slice a3 n4 k3))
      have OB := Lib.hid (OB.out.offN (g := qb) (i := 1) NB.out (.slice a3 n4 k3))
      have ST := Lib.hid (ST.out.setNew (p := ⟨qb, 1, none⟩) hne (.slice a3 n4 k3))
      generalize w12.setCell ⟨qb, 1, none⟩ (.slice a3 n4 k3) = w13 at *
      obtain ⟨x0, -, -⟩ := id KA.out
      obtain ⟨y0, -, -⟩ := id KB.out
      refine wp_region_held_drew (S := fun z => (z.cell? ⟨qa, 0, none⟩ = some (.int .i64 c1) ∧ z.cell? ⟨qa, 1, none⟩ = some (.slice a1 n1 k1) ∧ z.cell? ⟨qa, 2, none⟩ = some (.int .i64 f1)) ∧ (z.cell? ⟨qb, 0, none⟩ = some (.int .i64 c1) ∧ z.cell? ⟨qb, 1, none⟩ = some (.slice a3 n4 k3) ∧ z.cell? ⟨qb, 2, none⟩ = some (.int .i64 f1))) (by kernel_rfl) ⟨x0, y0⟩ (fun hHeld => ?_)
      refine wpAnyH_take (i := 0) (v := ?v0z6) rfl (by kernel_rfl) (by kernel_rfl) (by kernel_rfl) (fun _ _ _ h => h) (Or.inl ⟨by rfl, ?hy0z6⟩) (by assumption) ?rest0z6
      case hy0z6 => (intro zz hSw; (try dsimp only at hSw); go_simp; (try with_reducible rfl))
      change wpAnyH _ _ _ _ _ _ _ (Act.put _ (some 41) _) _
      simp only [Act.put, List.setIfInBounds_toArray, List.set_cons_zero, List.set_cons_succ]
      refine wpAnyH_take (i := 1) (v := ?v1z6) rfl (by kernel_rfl) (by kernel_rfl) (by kernel_rfl) (fun _ _ _ h => h) (Or.inl ⟨by rfl, ?hy1z6⟩) (by assumption) ?rest1z6
      case hy1z6 => (intro zz hSw; (try dsimp only at hSw); go_simp; (try with_reducible rfl))
      change wpAnyH _ _ _ _ _ _ _ (Act.put _ (some 42) _) _
      simp only [Act.put, List.setIfInBounds_toArray, List.set_cons_zero, List.set_cons_succ]
      refine wpAnyH_ready (rs := [2]) (by kernel_rfl) (by simp) (AllReadyH.cons rfl (fun K hK => ?_) (AllReadyH.nil))
      have bd : Below w13.heap.size w13 w13.drew := (Below.refl _ _).drew
      have KR := Lib.hid (KR.out.below bd KR.out.2.2)
      have KQ := Lib.hid (KQ.out.below bd KQ.out.2.2)
      have KA := Lib.hid (KA.out.below bd KA.out.2.2)
      have ST := Lib.hid (stNext ST.out bd)
      have OA := Lib.hid (OA.out.next bd)
      have OB := Lib.hid (OB.out.next bd)
      have KB := Lib.hid (KB.out.below bd KB.out.2.2)
      clear bd
      generalize w13.drew = wd at *
      obtain ⟨⟨z0, z1, z2⟩, ⟨t0, t1, t2⟩, -⟩ := id KR.out
      go_simp
      clear z0 z1 z2 t0 t1 t2
      have KR1 := Lib.hid (KR.out.put3 (x' := .int .i64 c1) (y' := .slice a1 n1 k1) (z' := .int .i64 f1))
      have KQ1 := Lib.hid (KQ.out.putN (q2 := r1) (x' := .int .i64 c1) (y' := .slice a1 n1 k1) (z' := .int .i64 f1) (by omega))
      have KA1 := Lib.hid (KA.out.putN (q2 := r1) (x' := .int .i64 c1) (y' := .slice a1 n1 k1) (z' := .int .i64 f1) hra)
      have KB1 := Lib.hid (KB.out.putN (q2 := r1) (x' := .int .i64 c1) (y' := .slice a1 n1 k1) (z' := .int .i64 f1) hrb)
      refine hK.out _ _ ⟨KA1.out.1, KB1.out.1⟩ (fun hHeld => ?_)
      clear hK K
      generalize hwx : put3 wd r1 (.int .i64 c1) (.slice a1 n1 k1) (.int .i64 f1) = wx at *
      refine wpAnyH_ready (rs := [3]) (by kernel_rfl) (by simp) (AllReadyH.cons rfl (fun K hK => ?_) (AllReadyH.nil))
      obtain ⟨⟨z0, z1, z2⟩, ⟨t0, t1, t2⟩, -⟩ := id KQ1.out
      unfold put3 at hwx
      rw [hwx]
      go_simp
      clear z0 z1 z2 t0 t1 t2
      have KQ2 := Lib.hid (KQ1.out.put3 (x' := .int .i64 c1) (y' := .slice a3 n4 k3) (z' := .int .i64 f1))
      have KR2 := Lib.hid (KR1.out.putN (q2 := r1 + 1) (x' := .int .i64 c1) (y' := .slice a3 n4 k3) (z' := .int .i64 f1) (by omega))
      refine hK.out _ _ ⟨(KA1.out.putN (q2 := r1 + 1) (x' := .int .i64 c1) (y' := .slice a3 n4 k3) (z' := .int .i64 f1) hqa1).1, (KB1.out.putN (q2 := r1 + 1) (x' := .int .i64 c1) (y' := .slice a3 n4 k3) (z' := .int .i64 f1) hqb1).1⟩ (fun hHeld => ?_)
      clear hK K
      refine wpAnyH_done (by kernel_rfl) ?_ _
      clear hHeld x0 y0
      obtain ⟨⟨u0, u1, u2⟩, -, -⟩ := id KR2.out
      obtain ⟨⟨v0, v1, v2⟩, -, -⟩ := id KQ2.out
      have FO := Lib.hid (show ∀ (v : Value) (l : List Bi), OwI w1.heap.size wd v l → OwI w.heap.size (put3 wx (r1 + 1) (.int .i64 c1) (.slice a3 n4 k3) (.int .i64 f1)) v l from fun v l h => by
        have h1 : OwI w1.heap.size (put3 wd r1 (.int .i64 c1) (.slice a1 n1 k1) (.int .i64 f1)) v l := OwI.putN h (fun k e => by have := OwI.lt h k e; omega)
        unfold put3 at h1
        rw [hwx] at h1
        exact (OwI.putN h1 (fun k e => by have := OwI.lt h1 k e; omega)).mono (by have := HR1.out; omega))
      have FB := Lib.hid (show Below w.heap.size w (put3 wx (r1 + 1) (.int .i64 c1) (.slice a3 n4 k3) (.int .i64 f1)) from by
        rw [HR1.out]
        have h1 : Below r1 w wd := BW.out.trans (ST.out.but.below (B := r1) (by omega) (by omega))
        have h2 : Below r1 w (put3 wd r1 (.int .i64 c1) (.slice a1 n1 k1) (.int .i64 f1)) := put3_below h1 (Nat.le_refl _)
        unfold put3 at h2
        rw [hwx] at h2
        exact put3_below h2 (Nat.le_succ _))
      unfold put3 at u0 u1 u2 v0 v1 v2 FO FB
      go_wp2_with fail
      refine bodyPost_ret (v := .tuple #[.agg #[.int .i64 c1, .slice a1 n1 k1, .int .i64 f1], .agg #[.int .i64 c1, .slice a3 n4 k3, .int .i64 f1]]) (by simp [results, Tryz.results11, go_sem, u0, u1, u2, v0, v1, v2]) rfl ?_
      exact ⟨c1, _, l1, f1, c1, _, l3, f1, rfl, FO.out _ _ OA.out, n5, FO.out _ _ OB.out, n3, FB.out⟩
    have p1 : (t == 1) = false := beq_eq_false_iff_ne.2 e1
    by_cases e2 : t = 2
    · subst e2
      go_wp2_with fail
      refine (below_any _ b _ _ ST.out.cur (by decide) (by decide)).mono ?_; rintro e w12 ⟨f2, rfl, -, -, hc, hw⟩
      have KR := Lib.hid (KR.out.but hw ne1)
      have KQ := Lib.hid (KQ.out.but hw ne2)
      have KA := Lib.hid (KA.out.but hw (by omega))
      have KB := Lib.hid (KB.out.but hw (by omega))
      have OA := Lib.hid (OA.out.but hw hb1)
      have OB := Lib.hid (OB.out.but hw hb1)
      have ST := Lib.hid (ST.out.draws hw hc)
      clear hc hw
      obtain ⟨⟨z0, z1, z2⟩, ⟨s0, s1, s2⟩, -⟩ := id KB.out
      go_wp2_with fail
      clear z0 z1 z2 s0 s1 s2
      have KR := Lib.hid (KR.out.off (g := qb) (i := 2) (fun e => hrb e.symm) (.int .i64 f2))
      have KQ := Lib.hid (KQ.out.off (g := qb) (i := 2) (fun e => hqb1 e.symm) (.int .i64 f2))
      have KA := Lib.hid (KA.out.off (g := qb) (i := 2) hqa (.int .i64 f2))
      have KB := Lib.hid (show Tri qb (.int .i64 c1) (.slice a2 n1 k2) (.int .i64 f2) (w12.setCell ⟨qb, 2, none⟩ (.int .i64 f2)) from KB.out.set (i := 2) (by decide) (.int .i64 f2))
      have OA := Lib.hid (OA.out.offN (g := qb) (i := 2) NA.out (.int .i64 f2))
      have OB := Lib.hid (OB.out.offN (g := qb) (i := 2) NB.out (.int .i64 f2))
      have ST := Lib.hid (ST.out.setNew (p := ⟨qb, 2, none⟩) hne (.int .i64 f2))
      generalize w12.setCell ⟨qb, 2, none⟩ (.int .i64 f2) = w13 at *
      obtain ⟨x0, -, -⟩ := id KA.out
      obtain ⟨y0, -, -⟩ := id KB.out
      refine wp_region_held_drew (S := fun z => (z.cell? ⟨qa, 0, none⟩ = some (.int .i64 c1) ∧ z.cell? ⟨qa, 1, none⟩ = some (.slice a1 n1 k1) ∧ z.cell? ⟨qa, 2, none⟩ = some (.int .i64 f1)) ∧ (z.cell? ⟨qb, 0, none⟩ = some (.int .i64 c1) ∧ z.cell? ⟨qb, 1, none⟩ = some (.slice a2 n1 k2) ∧ z.cell? ⟨qb, 2, none⟩ = some (.int .i64 f2))) (by kernel_rfl) ⟨x0, y0⟩ (fun hHeld => ?_)
      refine wpAnyH_take (i := 0) (v := ?v0z7) rfl (by kernel_rfl) (by kernel_rfl) (by kernel_rfl) (fun _ _ _ h => h) (Or.inl ⟨by rfl, ?hy0z7⟩) (by assumption) ?rest0z7
      case hy0z7 => (intro zz hSw; (try dsimp only at hSw); go_simp; (try with_reducible rfl))
      change wpAnyH _ _ _ _ _ _ _ (Act.put _ (some 41) _) _
      simp only [Act.put, List.setIfInBounds_toArray, List.set_cons_zero, List.set_cons_succ]
      refine wpAnyH_take (i := 1) (v := ?v1z7) rfl (by kernel_rfl) (by kernel_rfl) (by kernel_rfl) (fun _ _ _ h => h) (Or.inl ⟨by rfl, ?hy1z7⟩) (by assumption) ?rest1z7
      case hy1z7 => (intro zz hSw; (try dsimp only at hSw); go_simp; (try with_reducible rfl))
      change wpAnyH _ _ _ _ _ _ _ (Act.put _ (some 42) _) _
      simp only [Act.put, List.setIfInBounds_toArray, List.set_cons_zero, List.set_cons_succ]
      refine wpAnyH_ready (rs := [2]) (by kernel_rfl) (by simp) (AllReadyH.cons rfl (fun K hK => ?_) (AllReadyH.nil))
      have bd : Below w13.heap.size w13 w13.drew := (Below.refl _ _).drew
      have KR := Lib.hid (KR.out.below bd KR.out.2.2)
      have KQ := Lib.hid (KQ.out.below bd KQ.out.2.2)
      have KA := Lib.hid (KA.out.below bd KA.out.2.2)
      have ST := Lib.hid (stNext ST.out bd)
      have OA := Lib.hid (OA.out.next bd)
      have OB := Lib.hid (OB.out.next bd)
      have KB := Lib.hid (KB.out.below bd KB.out.2.2)
      clear bd
      generalize w13.drew = wd at *
      obtain ⟨⟨z0, z1, z2⟩, ⟨t0, t1, t2⟩, -⟩ := id KR.out
      go_simp
      clear z0 z1 z2 t0 t1 t2
      have KR1 := Lib.hid (KR.out.put3 (x' := .int .i64 c1) (y' := .slice a1 n1 k1) (z' := .int .i64 f1))
      have KQ1 := Lib.hid (KQ.out.putN (q2 := r1) (x' := .int .i64 c1) (y' := .slice a1 n1 k1) (z' := .int .i64 f1) (by omega))
      have KA1 := Lib.hid (KA.out.putN (q2 := r1) (x' := .int .i64 c1) (y' := .slice a1 n1 k1) (z' := .int .i64 f1) hra)
      have KB1 := Lib.hid (KB.out.putN (q2 := r1) (x' := .int .i64 c1) (y' := .slice a1 n1 k1) (z' := .int .i64 f1) hrb)
      refine hK.out _ _ ⟨KA1.out.1, KB1.out.1⟩ (fun hHeld => ?_)
      clear hK K
      generalize hwx : put3 wd r1 (.int .i64 c1) (.slice a1 n1 k1) (.int .i64 f1) = wx at *
      refine wpAnyH_ready (rs := [3]) (by kernel_rfl) (by simp) (AllReadyH.cons rfl (fun K hK => ?_) (AllReadyH.nil))
      obtain ⟨⟨z0, z1, z2⟩, ⟨t0, t1, t2⟩, -⟩ := id KQ1.out
      unfold put3 at hwx
      rw [hwx]
      go_simp
      clear z0 z1 z2 t0 t1 t2
      have KQ2 := Lib.hid (KQ1.out.put3 (x' := .int .i64 c1) (y' := .slice a2 n1 k2) (z' := .int .i64 f2))
      have KR2 := Lib.hid (KR1.out.putN (q2 := r1 + 1) (x' := .int .i64 c1) (y' := .slice a2 n1 k2) (z' := .int .i64 f2) (by omega))
      refine hK.out _ _ ⟨(KA1.out.putN (q2 := r1 + 1) (x' := .int .i64 c1) (y' := .slice a2 n1 k2) (z' := .int .i64 f2) hqa1).1, (KB1.out.putN (q2 := r1 + 1) (x' := .int .i64 c1) (y' := .slice a2 n1 k2) (z' := .int .i64 f2) hqb1).1⟩ (fun hHeld => ?_)
      clear hK K
      refine wpAnyH_done (by kernel_rfl) ?_ _
      clear hHeld x0 y0
      obtain ⟨⟨u0, u1, u2⟩, -, -⟩ := id KR2.out
      obtain ⟨⟨v0, v1, v2⟩, -, -⟩ := id KQ2.out
      have FO := Lib.hid (show ∀ (v : Value) (l : List Bi), OwI w1.heap.size wd v l → OwI w.heap.size (put3 wx (r1 + 1) (.int .i64 c1) (.slice a2 n1 k2) (.int .i64 f2)) v l from fun v l h => by
        have h1 : OwI w1.heap.size (put3 wd r1 (.int .i64 c1) (.slice a1 n1 k1) (.int .i64 f1)) v l := OwI.putN h (fun k e => by have := OwI.lt h k e; omega)
        unfold put3 at h1
        rw [hwx] at h1
        exact (OwI.putN h1 (fun k e => by have := OwI.lt h1 k e; omega)).mono (by have := HR1.out; omega))
      have FB := Lib.hid (show Below w.heap.size w (put3 wx (r1 + 1) (.int .i64 c1) (.slice a2 n1 k2) (.int .i64 f2)) from by
        rw [HR1.out]
        have h1 : Below r1 w wd := BW.out.trans (ST.out.but.below (B := r1) (by omega) (by omega))
        have h2 : Below r1 w (put3 wd r1 (.int .i64 c1) (.slice a1 n1 k1) (.int .i64 f1)) := put3_below h1 (Nat.le_refl _)
        unfold put3 at h2
        rw [hwx] at h2
        exact put3_below h2 (Nat.le_succ _))
      unfold put3 at u0 u1 u2 v0 v1 v2 FO FB
      go_wp2_with fail
      refine bodyPost_ret (v := .tuple #[.agg #[.int .i64 c1, .slice a1 n1 k1, .int .i64 f1], .agg #[.int .i64 c1, .slice a2 n1 k2, .int .i64 f2]]) (by simp [results, Tryz.results11, go_sem, u0, u1, u2, v0, v1, v2]) rfl ?_
      exact ⟨c1, _, l1, f1, c1, _, l1, f2, rfl, FO.out _ _ OA.out, n5, FO.out _ _ OB.out, by omega, FB.out⟩
    have p2 : (t == 2) = false := beq_eq_false_iff_ne.2 e2
    go_wp2_with fail
    obtain ⟨x0, -, -⟩ := id KA.out
    obtain ⟨y0, -, -⟩ := id KB.out
    refine wp_region_held_drew (S := fun z => (z.cell? ⟨qa, 0, none⟩ = some (.int .i64 c1) ∧ z.cell? ⟨qa, 1, none⟩ = some (.slice a1 n1 k1) ∧ z.cell? ⟨qa, 2, none⟩ = some (.int .i64 f1)) ∧ (z.cell? ⟨qb, 0, none⟩ = some (.int .i64 c1) ∧ z.cell? ⟨qb, 1, none⟩ = some (.slice a2 n1 k2) ∧ z.cell? ⟨qb, 2, none⟩ = some (.int .i64 f1))) (by kernel_rfl) ⟨x0, y0⟩ (fun hHeld => ?_)
    refine wpAnyH_take (i := 0) (v := ?v0z8) rfl (by kernel_rfl) (by kernel_rfl) (by kernel_rfl) (fun _ _ _ h => h) (Or.inl ⟨by rfl, ?hy0z8⟩) (by assumption) ?rest0z8
    case hy0z8 => (intro zz hSw; (try dsimp only at hSw); go_simp; (try with_reducible rfl))
    change wpAnyH _ _ _ _ _ _ _ (Act.put _ (some 41) _) _
    simp only [Act.put, List.setIfInBounds_toArray, List.set_cons_zero, List.set_cons_succ]
    refine wpAnyH_take (i := 1) (v := ?v1z8) rfl (by kernel_rfl) (by kernel_rfl) (by kernel_rfl) (fun _ _ _ h => h) (Or.inl ⟨by rfl, ?hy1z8⟩) (by assumption) ?rest1z8
    case hy1z8 => (intro zz hSw; (try dsimp only at hSw); go_simp; (try with_reducible rfl))
    change wpAnyH _ _ _ _ _ _ _ (Act.put _ (some 42) _) _
    simp only [Act.put, List.setIfInBounds_toArray, List.set_cons_zero, List.set_cons_succ]
    refine wpAnyH_ready (rs := [2]) (by kernel_rfl) (by simp) (AllReadyH.cons rfl (fun K hK => ?_) (AllReadyH.nil))
    have bd : Below w11.heap.size w11 w11.drew := (Below.refl _ _).drew
    have KR := Lib.hid (KR.out.below bd KR.out.2.2)
    have KQ := Lib.hid (KQ.out.below bd KQ.out.2.2)
    have KA := Lib.hid (KA.out.below bd KA.out.2.2)
    have ST := Lib.hid (stNext ST.out bd)
    have OA := Lib.hid (OA.out.next bd)
    have OB := Lib.hid (OB.out.next bd)
    have KB := Lib.hid (KB.out.below bd KB.out.2.2)
    clear bd
    generalize w11.drew = wd at *
    obtain ⟨⟨z0, z1, z2⟩, ⟨t0, t1, t2⟩, -⟩ := id KR.out
    go_simp
    clear z0 z1 z2 t0 t1 t2
    have KR1 := Lib.hid (KR.out.put3 (x' := .int .i64 c1) (y' := .slice a1 n1 k1) (z' := .int .i64 f1))
    have KQ1 := Lib.hid (KQ.out.putN (q2 := r1) (x' := .int .i64 c1) (y' := .slice a1 n1 k1) (z' := .int .i64 f1) (by omega))
    have KA1 := Lib.hid (KA.out.putN (q2 := r1) (x' := .int .i64 c1) (y' := .slice a1 n1 k1) (z' := .int .i64 f1) hra)
    have KB1 := Lib.hid (KB.out.putN (q2 := r1) (x' := .int .i64 c1) (y' := .slice a1 n1 k1) (z' := .int .i64 f1) hrb)
    refine hK.out _ _ ⟨KA1.out.1, KB1.out.1⟩ (fun hHeld => ?_)
    clear hK K
    generalize hwx : put3 wd r1 (.int .i64 c1) (.slice a1 n1 k1) (.int .i64 f1) = wx at *
    refine wpAnyH_ready (rs := [3]) (by kernel_rfl) (by simp) (AllReadyH.cons rfl (fun K hK => ?_) (AllReadyH.nil))
    obtain ⟨⟨z0, z1, z2⟩, ⟨t0, t1, t2⟩, -⟩ := id KQ1.out
    unfold put3 at hwx
    rw [hwx]
    go_simp
    clear z0 z1 z2 t0 t1 t2
    have KQ2 := Lib.hid (KQ1.out.put3 (x' := .int .i64 c1) (y' := .slice a2 n1 k2) (z' := .int .i64 f1))
    have KR2 := Lib.hid (KR1.out.putN (q2 := r1 + 1) (x' := .int .i64 c1) (y' := .slice a2 n1 k2) (z' := .int .i64 f1) (by omega))
    refine hK.out _ _ ⟨(KA1.out.putN (q2 := r1 + 1) (x' := .int .i64 c1) (y' := .slice a2 n1 k2) (z' := .int .i64 f1) hqa1).1, (KB1.out.putN (q2 := r1 + 1) (x' := .int .i64 c1) (y' := .slice a2 n1 k2) (z' := .int .i64 f1) hqb1).1⟩ (fun hHeld => ?_)
    clear hK K
    refine wpAnyH_done (by kernel_rfl) ?_ _
    clear hHeld x0 y0
    obtain ⟨⟨u0, u1, u2⟩, -, -⟩ := id KR2.out
    obtain ⟨⟨v0, v1, v2⟩, -, -⟩ := id KQ2.out
    have FO := Lib.hid (show ∀ (v : Value) (l : List Bi), OwI w1.heap.size wd v l → OwI w.heap.size (put3 wx (r1 + 1) (.int .i64 c1) (.slice a2 n1 k2) (.int .i64 f1)) v l from fun v l h => by
      have h1 : OwI w1.heap.size (put3 wd r1 (.int .i64 c1) (.slice a1 n1 k1) (.int .i64 f1)) v l := OwI.putN h (fun k e => by have := OwI.lt h k e; omega)
      unfold put3 at h1
      rw [hwx] at h1
      exact (OwI.putN h1 (fun k e => by have := OwI.lt h1 k e; omega)).mono (by have := HR1.out; omega))
    have FB := Lib.hid (show Below w.heap.size w (put3 wx (r1 + 1) (.int .i64 c1) (.slice a2 n1 k2) (.int .i64 f1)) from by
      rw [HR1.out]
      have h1 : Below r1 w wd := BW.out.trans (ST.out.but.below (B := r1) (by omega) (by omega))
      have h2 : Below r1 w (put3 wd r1 (.int .i64 c1) (.slice a1 n1 k1) (.int .i64 f1)) := put3_below h1 (Nat.le_refl _)
      unfold put3 at h2
      rw [hwx] at h2
      exact put3_below h2 (Nat.le_succ _))
    unfold put3 at u0 u1 u2 v0 v1 v2 FO FB
    go_wp2_with fail
    refine bodyPost_ret (v := .tuple #[.agg #[.int .i64 c1, .slice a1 n1 k1, .int .i64 f1], .agg #[.int .i64 c1, .slice a2 n1 k2, .int .i64 f1]]) (by simp [results, Tryz.results11, go_sem, u0, u1, u2, v0, v1, v2]) rfl ?_
    exact ⟨c1, _, l1, f1, c1, _, l1, f1, rfl, FO.out _ _ OA.out, n5, FO.out _ _ OB.out, by omega, FB.out⟩
end Go.Proofs.YtfnnoehpahdgcaaGreatDoor.Cl
namespace Go.Proofs.YtfnnoehpahdgcaaGreatDoor.Cu
set_option linter.unusedVariables false
open Go.RowKit
set_option maxHeartbeats 1000000 in
theorem pick_below (w : World) (a : Option Addr) (len cap : Nat) (seed n : Int) (hb : IsBytes w a len) (hl : len ≤ 4096) (s0 : 0 ≤ seed) (s1 : seed ≤ 100) (n0 : 1 ≤ n) (n1 : n ≤ 9223372036854775807) :
    Calls Tryz.prog 18 #[.slice a len cap, .int .i64 seed, .int .i64 n] w fun e w' => ∃ r : Int, e = .returned (.int .i64 r) ∧ 0 ≤ r ∧ r < n ∧ w = w' := by
  have HB := Lib.hid hb; clear hb
  have d0 : ¬ n = 0 := by omega
  have d1 : (n == 0) = false := by rw [beq_eq_false_iff_ne]; exact d0
  go_enter Tryz.func18, Tryz.ntmps18
  go_wp2
  go_loop [7, 8] (fun h i => ∃ (k : Nat) (g : Int), k ≤ len ∧ i = .int .i64 k ∧ h = .int .i64 g ∧ 0 ≤ g ∧ g ≤ 2000000) (fun _ i => len - (intOf i).toNat)
  case atStart => exact ⟨0, _, Nat.zero_le _, rfl, rfl, by omega, by omega⟩
  case round =>
    obtain ⟨k, g, hk, rfl, rfl, g0, g1⟩ := hrel
    by_cases hlt : k < len
    · obtain ⟨ab, ao, ha, hab, hcell⟩ := HB.out.2 (by omega)
      subst ha
      obtain ⟨z, hz, z0, z1⟩ := hcell k hlt
      clear hcell
      go_wp2
      go_round
      case rel => exact ⟨k + 1, _, by omega, by go_num, rfl, Int.emod_nonneg _ (by decide), by omega⟩
      case measure => simp [intOf]; omega
    · go_wp2
      go_ret
      exact ⟨_, rfl, Int.emod_nonneg _ d0, Int.emod_lt_of_pos _ (by omega), rfl⟩
end Go.Proofs.YtfnnoehpahdgcaaGreatDoor.Cu
namespace Go.Proofs.YtfnnoehpahdgcaaGreatDoor.Cl
set_option linter.unusedVariables false
open Go.RowKit Wd Rp Cu Kp
theorem likeEnd_self (w : World) (c f : Int) (a b : Option Addr) (ca cb : Nat) (l : List Bi) (n : Nat) (hn : l.length = n) (hv : VwI w a ca l) (hu : VwI w b cb l) (hl : n ≤ 4194304) :
    Calls Tryz.prog 12 #[.agg #[.int .i64 c, .slice a n ca, .int .i64 f], .agg #[.int .i64 c, .slice b n cb, .int .i64 f]] w fun e w' => e = .returned (.bool true) ∧ Below w.heap.size w w' := by
  have := likeEnd_any w c f c f a b ca cb l l n n hn hn hv hu hl
  rw [sameE_self] at this
  exact this
theorem likeBins_self (w : World) (a b : Option Addr) (ca cb : Nat) (l : List Bi) (n : Nat) (hn : l.length = n) (hv : VwI w a ca l) (hu : VwI w b cb l) (hl : n ≤ 4194304) :
    Calls Tryz.prog 17 #[.slice a n ca, .slice b n cb] w fun e w' => e = .returned (.bool true) ∧ Below w.heap.size w w' := by
  have := likeBins_val w a b ca cb l l n n hn hn hv hu hl
  rw [sameL_self] at this
  exact this
theorem likeBins_eq (w : World) (a b : Option Addr) (ca cb : Nat) (l m : List Bi) (n n2 : Nat) (hn : l.length = n) (hn2 : m.length = n2) (hv : VwI w a ca l) (hu : VwI w b cb m) (hl : n ≤ 4194304) (e : l = m) :
    Calls Tryz.prog 17 #[.slice a n ca, .slice b n2 cb] w fun e w' => e = .returned (.bool true) ∧ Below w.heap.size w w' := by
  have := likeBins_val w a b ca cb l m n n2 hn hn2 hv hu hl
  rw [e, sameL_self] at this
  exact this
theorem ok_names {l : List Bi} (h : okI l = true) : ∀ c ∈ l, c.n.size ≤ 9223372036854775806 := fun c hc => by
  have h1 := (okI_iff.1 h).2.2 c hc
  unfold Bi.ok at h1
  rw [Bool.and_eq_true] at h1
  have h2 := nm_len h1.1
  have h3 : c.n.data.toList.length = c.n.data.size := Array.length_toList
  have h4 : c.n.size = c.n.data.size := rfl
  omega
theorem stV_0 {r : St0} {f : Int} (h : r.c = 0) : stV r f = f - r.f := if_pos h
theorem stV_3 {r : St0} {f : Int} (h : r.c = 3) : stV r f = f := by unfold stV; rw [if_neg (by rw [h]; decide), if_pos h]
theorem stV_x {r : St0} {f : Int} (h0 : r.c ≠ 0) (h3 : r.c ≠ 3) : stV r f = -1 := by unfold stV; rw [if_neg h0, if_neg h3]
set_option maxHeartbeats 64000000 in
set_option maxRecDepth 100000 in
theorem means_small (w : World) (a0 : Option Addr) (len0 cap0 : Nat) (hb : IsBytes w a0 len0) (hl : len0 ≤ 4096) (hL : Lib3 w) :
    Calls Tryz.prog 3 #[.slice a0 len0 cap0] w fun e w' => e = .returned (.bool true) ∧ Below w.heap.size w w' := by
  have HB := Lib.hid hb; clear hb
  have HL := Lib.hid hL; clear hL
  go_enter Tryz.func3, Tryz.ntmps3
  go_wp2_with fail
  refine (big_no _ _ _ _ hl).mono ?_; rintro e w0 ⟨rfl, rfl⟩
  go_wp2_with fail
  refine (drawMeans_any _ a0 len0 cap0 HB.out hl).mono ?_; rintro e w1 ⟨vl, l, bv, bs, ga, gn, gc, gs, f, rfl, o1, n1, s1, o2, n2, s2, hgn, hgv, hg4, hgi, f0, f1, b1⟩
  obtain ⟨la, lc, rfl, hv1⟩ := O1.view o1
  obtain ⟨ba, bc, rfl, hv2⟩ := o2.view
  rw [txL_len]
  have HF := Lib.hid b1
  have HVL := Lib.hid hv1
  have HVB := Lib.hid hv2
  have HVG := Lib.hid hgv
  have HB1 := Lib.hid (isB_next HB.out b1)
  have HL1 := Lib.hid (lib3_below HL.out b1)
  have HML := Lib.hid (show ∀ s ∈ l, s.length ≤ 4194304 from fun s hs => by have := s1 s hs; omega)
  have HBM := Lib.hid (show ∀ c ∈ bs, c.n.size ≤ 9223372036854775806 from fun c hc => by have := s2 c hc; omega)
  clear o1 o2 b1 hv1 hv2 hgv s1 s2 hgi
  generalize hn : l.length = n at *
  generalize hbn : bs.length = bn at *
  have HN := Lib.hid hn
  have HBN := Lib.hid hbn
  have HI := Lib.hid (fun z (hz : Below w1.heap.size w1 z) (q : Int) => implMeans_any z la lc l n hn (by omega) HML.out (HVL.out.below hz) ba bc bn bs hbn (HVB.out.below hz) (by omega) ga gc gn gs hgn (by omega) (HVG.out.below hz) q (lib3_below HL1.out hz))
  have HI0 := Lib.hid (fun z (hz : Below w1.heap.size w1 z) => HI.out z hz f)
  have HS := Lib.hid (fun z (hz : Below w1.heap.size w1 z) => specMeans_any z la lc l n hn (by omega) HML.out (HVL.out.below hz) ba bc bn bs hbn (HVB.out.below hz) (by omega) ga gc gn gs hgn (by omega) (HVG.out.below hz) f HBM.out)
  have HIS := Lib.hid (fun z (hz : Below w1.heap.size w1 z) => implSteps_any z (.slice la n lc) (.slice ba bn bc) (.slice ga gn gc) f (meV l bs gs f) (fun h => meV_wrap h) (HI.out z hz f))
  have HSS := Lib.hid (fun z (hz : Below w1.heap.size w1 z) => specSteps_any z (.slice la n lc) (.slice ba bn bc) (.slice ga gn gc) f (meV l bs gs f) (fun h => meV_wrap h) (HS.out z hz))
  have HIR := Lib.hid (fun z (hz : Below w1.heap.size w1 z) a' c' n' m' hn' hv' q => implMeans_any z la lc l n hn (by omega) HML.out (HVL.out.below hz) a' c' n' m' hn' hv' q ga gc gn gs hgn (by omega) (HVG.out.below hz))
  have HIB := Lib.hid (fun z (hz : Below w1.heap.size w1 z) a' c' l' n' hn' hl' hm' hv' => implMeans_any z a' c' l' n' hn' hl' hm' hv' ba bc bn bs hbn (HVB.out.below hz) (by omega) ga gc gn gs hgn (by omega) (HVG.out.below hz) f (lib3_below HL1.out hz))
  have HLEN := Lib.hid (meV_len (l := l) (gs := gs) (f := f) (n := 20) (show bs.length ≤ 20 by omega) (by decide))
  have HBK := Lib.hid (fun h => meV_back (l := l) (bs := bs) (gs := gs) (f := f) h)
  have HOK := Lib.hid (fun h => meV_okB (meV_good (l := l) (bs := bs) (gs := gs) (f := f) h))
  have HFU := Lib.hid (fun h => meV_fuel (l := l) (bs := bs) (gs := gs) (f := f) h)
  have HGD := Lib.hid (fun h => (meB_parts (meV_good (l := l) (bs := bs) (gs := gs) (f := f) h)).2.2.2)
  have HMO := Lib.hid (fun k h1 h2 h3 h4 => meV_more (l := l) (bs := bs) (gs := gs) (f := f) (k := k) h1 h2 h3 h4)
  have HBO := Lib.hid (fun h1 h2 => meV_both (l := l) (bs := bs) (gs := gs) (f := f) h1 h2)
  generalize meV l bs gs f = r at *
  obtain ⟨p, hpn⟩ : ∃ p, r.b.length = p := ⟨_, rfl⟩
  have HPN := Lib.hid hpn
  have hp20 : p ≤ 20 := by have := HLEN.out; omega
  clear hpn
  obtain ⟨sv, hsv⟩ : ∃ sv, stV r f = sv := ⟨_, rfl⟩
  rw [hsv] at HIS HSS
  have HSV := Lib.hid hsv
  clear hsv hn hbn
  have B1 := Lib.hid (Below.refl w1.heap.size w1)
  have Z1 := Lib.hid B1.out.size
  go_wp2_with fail
  refine (HI0.out w1 B1.out).mono ?_; rintro e w2 ⟨v9, rfl, o, b2⟩
  obtain ⟨vea, vec, rfl, -⟩ := o.view
  rw [HPN.out] at o ⊢
  have TE := Lib.hid (show ∀ k, (.slice vea p vec : Value).ownBlock = some k → w1.heap.size ≤ k from OwI.lt o)
  have UE := Lib.hid (show ∀ k, (.slice vea p vec : Value).ownBlock = some k → w2.heap.size > k from OwI.low o)
  have B2 := Lib.hid (bel_tr B1.out b2 (Nat.le_refl _))
  have Z2 := Lib.hid b2.size
  have OE := Lib.hid o; clear o b2
  have b3 := bel1 w2 (.cells #[.int .i64 r.c, .slice vea p vec, .int .i64 r.f] 30)
  have B3 := Lib.hid (bel_tr B2.out b3 (Nat.le_refl _))
  have Z3 := Lib.hid b3.size
  have OE := Lib.hid (OE.out.next b3)
  clear b3
  have KE := Lib.hid (Tri.made (.int .i64 r.c) (.slice vea p vec) (.int .i64 r.f) w2 30)
  have Y3 := Lib.hid KE.out.2.2
  obtain ⟨⟨mE0, mE1, mE2⟩, ⟨mE3, mE4, mE5⟩, -⟩ := id KE.out
  go_wp2_with fail
  clear mE0 mE1 mE2 mE3 mE4 mE5
  generalize w2.alloc (.cells #[.int .i64 r.c, .slice vea p vec, .int .i64 r.f] 30) = w3 at B3 Z3 Y3 OE KE ⊢
  refine (HIS.out w3 B3.out).mono ?_; rintro e w4 ⟨rfl, b4⟩
  have B4 := Lib.hid (bel_tr B3.out b4 (Nat.le_refl _))
  have Z4 := Lib.hid b4.size
  have OE := Lib.hid (OE.out.next b4)
  have KE := Lib.hid (KE.out.below b4 KE.out.2.2)
  clear b4
  obtain ⟨⟨kE0, kE1, kE2⟩, ⟨kE3, kE4, kE5⟩, -⟩ := id KE.out
  go_wp2_with fail
  clear kE0 kE1 kE2 kE3 kE4 kE5
  refine (drawSame_any _ a0 len0 cap0 (isB_next HB1.out B4.out) hl).mono ?_; rintro e w5 ⟨c1, v1, l1, g1, c2, v2, l2, g2, rfl, oa, na, oc, nc, b⟩
  obtain ⟨ja, jc, rfl, -⟩ := oa.view
  obtain ⟨ka, kc, rfl, -⟩ := oc.view
  generalize hj : l1.length = j1 at *
  generalize hk : l2.length = j2 at *
  have HJ := Lib.hid hj; clear hj
  have HK := Lib.hid hk; clear hk
  have TA := Lib.hid (show ∀ k, (.slice ja j1 jc : Value).ownBlock = some k → w4.heap.size ≤ k from OwI.lt oa)
  have UA := Lib.hid (show ∀ k, (.slice ja j1 jc : Value).ownBlock = some k → w5.heap.size > k from OwI.low oa)
  have TC := Lib.hid (show ∀ k, (.slice ka j2 kc : Value).ownBlock = some k → w4.heap.size ≤ k from OwI.lt oc)
  have UC := Lib.hid (show ∀ k, (.slice ka j2 kc : Value).ownBlock = some k → w5.heap.size > k from OwI.low oc)
  have B5 := Lib.hid (bel_tr B4.out b (Nat.le_refl _))
  have Z5 := Lib.hid b.size
  have OE := Lib.hid (OE.out.next b)
  have KE := Lib.hid (KE.out.below b KE.out.2.2)
  have OA := Lib.hid oa
  have OC := Lib.hid oc
  clear b oa oc
  have bx := bel2 w5 (.cells #[.int .i64 c1, .slice ja j1 jc, .int .i64 g1] 30) (.cells #[.int .i64 c2, .slice ka j2 kc, .int .i64 g2] 30)
  have B6 := Lib.hid (bel_tr B5.out bx (Nat.le_refl _))
  have Z6 := Lib.hid bx.size
  have OE := Lib.hid (OE.out.next bx)
  have OA := Lib.hid (OA.out.next bx)
  have OC := Lib.hid (OC.out.next bx)
  have KE := Lib.hid (KE.out.below bx KE.out.2.2)
  have N1 := (Tri.made (.int .i64 c1) (.slice ja j1 jc) (.int .i64 g1) w5 30).below (bel1 _ (.cells #[.int .i64 c2, .slice ka j2 kc, .int .i64 g2] 30)) (by rw [World.size_alloc]; omega)
  have N2 := Tri.made (.int .i64 c2) (.slice ka j2 kc) (.int .i64 g2) (w5.alloc (.cells #[.int .i64 c1, .slice ja j1 jc, .int .i64 g1] 30)) 30
  rw [World.size_alloc] at N2
  have KA := Lib.hid N1
  have KC := Lib.hid N2
  have Y6 := Lib.hid N2.2.2
  clear bx N1 N2
  go_wp2_with fail
  generalize (w5.alloc (.cells #[.int .i64 c1, .slice ja j1 jc, .int .i64 g1] 30)).alloc (.cells #[.int .i64 c2, .slice ka j2 kc, .int .i64 g2] 30) = w6 at B6 Z6 Y6 OE OA OC KE KA KC ⊢
  have HSA := Lib.hid (fun z a b ca cb h1 h2 => implSame_any z c1 g1 c2 g2 a b ca cb l1 l2 j1 j2 HJ.out HK.out h1 h2 (by omega))
  have HSB := Lib.hid (fun z a b ca cb h1 h2 => specSame_any z c1 g1 c2 g2 a b ca cb l1 l2 j1 j2 HJ.out HK.out h1 h2 (by omega))
  have HSC := Lib.hid (fun z a b ca cb h1 h2 => likeEnd_any z c1 g1 c2 g2 a b ca cb l1 l2 j1 j2 HJ.out HK.out h1 h2 (by omega))
  generalize sameE c1 l1 g1 c2 l2 g2 = xx at *
  have q1 : (sv != sv) = false := by simp
  have q2 : (xx != xx) = false := by simp
  obtain ⟨⟨hE0, hE1, hE2⟩, -, hEq⟩ := id KE.out
  obtain ⟨⟨hA0, hA1, hA2⟩, -, hAq⟩ := id KA.out
  obtain ⟨⟨hC0, hC1, hC2⟩, -, hCq⟩ := id KC.out
  have SOF := Lib.hid (show ∀ z, Below w6.heap.size w6 z → (z.cell? ⟨w2.heap.size, 0, none⟩ = some (.int .i64 r.c) ∧ z.cell? ⟨w2.heap.size, 1, none⟩ = some (.slice vea p vec) ∧ z.cell? ⟨w2.heap.size, 2, none⟩ = some (.int .i64 r.f) ∧ z.cell? ⟨w5.heap.size, 0, none⟩ = some (.int .i64 c1) ∧ z.cell? ⟨w5.heap.size, 1, none⟩ = some (.slice ja j1 jc) ∧ z.cell? ⟨w5.heap.size, 2, none⟩ = some (.int .i64 g1) ∧ z.cell? ⟨w5.heap.size + 1, 0, none⟩ = some (.int .i64 c2) ∧ z.cell? ⟨w5.heap.size + 1, 1, none⟩ = some (.slice ka j2 kc) ∧ z.cell? ⟨w5.heap.size + 1, 2, none⟩ = some (.int .i64 g2) ∧ Below w6.heap.size w6 z) from fun z hz => ⟨coc hz hEq hE0, coc hz hEq hE1, coc hz hEq hE2, coc hz hAq hA0, coc hz hAq hA1, coc hz hAq hA2, coc hz hCq hC0, coc hz hCq hC1, coc hz hCq hC2,  hz⟩)
  clear hE0 hE1 hE2 hA0 hA1 hA2 hC0 hC1 hC2
  refine wp_region_held_drew (S := fun z => z.cell? ⟨w2.heap.size, 0, none⟩ = some (.int .i64 r.c) ∧ z.cell? ⟨w2.heap.size, 1, none⟩ = some (.slice vea p vec) ∧ z.cell? ⟨w2.heap.size, 2, none⟩ = some (.int .i64 r.f) ∧ z.cell? ⟨w5.heap.size, 0, none⟩ = some (.int .i64 c1) ∧ z.cell? ⟨w5.heap.size, 1, none⟩ = some (.slice ja j1 jc) ∧ z.cell? ⟨w5.heap.size, 2, none⟩ = some (.int .i64 g1) ∧ z.cell? ⟨w5.heap.size + 1, 0, none⟩ = some (.int .i64 c2) ∧ z.cell? ⟨w5.heap.size + 1, 1, none⟩ = some (.slice ka j2 kc) ∧ z.cell? ⟨w5.heap.size + 1, 2, none⟩ = some (.int .i64 g2) ∧ Below w6.heap.size w6 z) (by kernel_rfl) (SOF.out _ (Below.refl _ _).drew) (fun hHeld => ?_)
  refine wpAnyH_take (i := 0) (v := ?v0d) rfl (by kernel_rfl) (by kernel_rfl) (by kernel_rfl) (fun _ _ _ h => h) (Or.inl ⟨by rfl, ?hy0d⟩) (by assumption) ?rest0d
  case hy0d => (intro zz hSw; (try dsimp only at hSw); go_simp; (try with_reducible rfl))
  change wpAnyH _ _ _ _ _ _ _ (Act.put _ (some 40) _) _
  simp only [Act.put, List.setIfInBounds_toArray, List.set_cons_zero, List.set_cons_succ]
  refine wpAnyH_take (i := 1) (v := ?v1d) rfl (by kernel_rfl) (by kernel_rfl) (by kernel_rfl) (fun _ _ _ h => h) (Or.inl ⟨by rfl, ?hy1d⟩) (by assumption) ?rest1d
  case hy1d => (intro zz hSw; (try dsimp only at hSw); go_simp; (try with_reducible rfl))
  change wpAnyH _ _ _ _ _ _ _ (Act.put _ (some 41) _) _
  simp only [Act.put, List.setIfInBounds_toArray, List.set_cons_zero, List.set_cons_succ]
  refine wpAnyH_take (i := 2) (v := ?v2d) rfl (by kernel_rfl) (by kernel_rfl) (by kernel_rfl) (fun _ _ _ h => h) (Or.inl ⟨by rfl, ?hy2d⟩) (by assumption) ?rest2d
  case hy2d => (intro zz hSw; (try dsimp only at hSw); go_simp; (try with_reducible rfl))
  change wpAnyH _ _ _ _ _ _ _ (Act.put _ (some 42) _) _
  simp only [Act.put, List.setIfInBounds_toArray, List.set_cons_zero, List.set_cons_succ]
  refine wpAnyH_take (i := 3) (v := ?v3d) rfl (by kernel_rfl) (by kernel_rfl) (by kernel_rfl) (fun _ _ _ h => h) (Or.inl ⟨by rfl, ?hy3d⟩) (by assumption) ?rest3d
  case hy3d => (intro zz hSw; (try dsimp only at hSw); go_simp; (try with_reducible rfl))
  change wpAnyH _ _ _ _ _ _ _ (Act.put _ (some 43) _) _
  simp only [Act.put, List.setIfInBounds_toArray, List.set_cons_zero, List.set_cons_succ]
  refine wpAnyH_take (i := 4) (v := ?v4d) rfl (by kernel_rfl) (by kernel_rfl) (by kernel_rfl) (fun _ _ _ h => h) (Or.inl ⟨by rfl, ?hy4d⟩) (by assumption) ?rest4d
  case hy4d => (intro zz hSw; (try dsimp only at hSw); go_simp; (try with_reducible rfl))
  change wpAnyH _ _ _ _ _ _ _ (Act.put _ (some 44) _) _
  simp only [Act.put, List.setIfInBounds_toArray, List.set_cons_zero, List.set_cons_succ]
  refine wpAnyH_ready (rs := [5]) (by kernel_rfl) (by simp) (AllReadyH.cons rfl (fun K hK => ?_) (AllReadyH.nil))
  go_simp
  refine (HS.out _ (bel_tr B6.out hHeld.2.2.2.2.2.2.2.2.2 (Nat.le_refl _))).mono ?_; rintro e w7 ⟨v9, rfl, o, bel⟩
  obtain ⟨wa, wc, rfl, -⟩ := o.view
  rw [HPN.out] at o ⊢
  have OS := Lib.hid o; clear o
  have OE2 := Lib.hid (OE.out.next (bel_tr hHeld.2.2.2.2.2.2.2.2.2 bel (Nat.le_refl _)))
  refine hK.out _ _ (SOF.out _ (bel_tr hHeld.2.2.2.2.2.2.2.2.2 bel (Nat.le_refl _))) (fun hHeld => ?_)
  clear hK K bel
  refine wpAnyH_ready (rs := [6]) (by kernel_rfl) (by simp) (AllReadyH.cons rfl (fun K hK => ?_) (AllReadyH.nil))
  go_simp
  refine (likeEnd_self _ r.c r.f _ _ _ _ r.b p HPN.out OE2.out.vw OS.out.vw (by omega)).mono ?_; rintro e w8 ⟨rfl, bel⟩
  clear OE2 OS
  refine hK.out _ _ (SOF.out _ (bel_tr hHeld.2.2.2.2.2.2.2.2.2 bel (Nat.le_refl _))) (fun hHeld => ?_)
  clear hK K bel
  refine wpAnyH_take (i := 7) (v := ?v7d) rfl (by kernel_rfl) (by kernel_rfl) (by kernel_rfl) (fun _ _ _ h => h) (Or.inl ⟨by rfl, ?hy7d⟩) (by assumption) ?rest7d
  case hy7d => (intro zz hSw; (try dsimp only at hSw); go_simp; (try with_reducible rfl))
  change wpAnyH _ _ _ _ _ _ _ (Act.put _ (some 47) _) _
  simp only [Act.put, List.setIfInBounds_toArray, List.set_cons_zero, List.set_cons_succ]
  refine wpAnyH_take (i := 8) (v := ?v8d) rfl (by kernel_rfl) (by kernel_rfl) (by kernel_rfl) (fun _ _ _ h => h) (Or.inl ⟨by rfl, ?hy8d⟩) (by assumption) ?rest8d
  case hy8d => (intro zz hSw; (try dsimp only at hSw); go_simp; (try with_reducible rfl))
  change wpAnyH _ _ _ _ _ _ _ (Act.put _ (some 48) _) _
  simp only [Act.put, List.setIfInBounds_toArray, List.set_cons_zero, List.set_cons_succ]
  refine wpAnyH_take (i := 9) (v := ?v9d) rfl (by kernel_rfl) (by kernel_rfl) (by kernel_rfl) (fun _ _ _ h => h) (Or.inl ⟨by rfl, ?hy9d⟩) (by assumption) ?rest9d
  case hy9d => (intro zz hSw; (try dsimp only at hSw); go_simp; (try with_reducible rfl))
  change wpAnyH _ _ _ _ _ _ _ (Act.put _ (some 49) _) _
  simp only [Act.put, List.setIfInBounds_toArray, List.set_cons_zero, List.set_cons_succ]
  refine wpAnyH_take (i := 10) (v := ?v10d) rfl (by kernel_rfl) (by kernel_rfl) (by kernel_rfl) (fun _ _ _ h => h) (Or.inl ⟨by rfl, ?hy10d⟩) (by assumption) ?rest10d
  case hy10d => (intro zz hSw; (try dsimp only at hSw); go_simp; (try with_reducible rfl))
  change wpAnyH _ _ _ _ _ _ _ (Act.put _ (some 50) _) _
  simp only [Act.put, List.setIfInBounds_toArray, List.set_cons_zero, List.set_cons_succ]
  refine wpAnyH_take (i := 11) (v := ?v11d) rfl (by kernel_rfl) (by kernel_rfl) (by kernel_rfl) (fun _ _ _ h => h) (Or.inl ⟨by rfl, ?hy11d⟩) (by assumption) ?rest11d
  case hy11d => (intro zz hSw; (try dsimp only at hSw); go_simp; (try with_reducible rfl))
  change wpAnyH _ _ _ _ _ _ _ (Act.put _ (some 51) _) _
  simp only [Act.put, List.setIfInBounds_toArray, List.set_cons_zero, List.set_cons_succ]
  refine wpAnyH_take (i := 12) (v := ?v12d) rfl (by kernel_rfl) (by kernel_rfl) (by kernel_rfl) (fun _ _ _ h => h) (Or.inl ⟨by rfl, ?hy12d⟩) (by assumption) ?rest12d
  case hy12d => (intro zz hSw; (try dsimp only at hSw); go_simp; (try with_reducible rfl))
  change wpAnyH _ _ _ _ _ _ _ (Act.put _ (some 52) _) _
  simp only [Act.put, List.setIfInBounds_toArray, List.set_cons_zero, List.set_cons_succ]
  refine wpAnyH_take (i := 13) (v := ?v13d) rfl (by kernel_rfl) (by kernel_rfl) (by kernel_rfl) (fun _ _ _ h => h) (Or.inl ⟨by rfl, ?hy13d⟩) (by assumption) ?rest13d
  case hy13d => (intro zz hSw; (try dsimp only at hSw); go_simp; (try with_reducible rfl))
  change wpAnyH _ _ _ _ _ _ _ (Act.put _ (some 53) _) _
  simp only [Act.put, List.setIfInBounds_toArray, List.set_cons_zero, List.set_cons_succ]
  refine wpAnyH_ready (rs := [14]) (by kernel_rfl) (by simp) (AllReadyH.cons rfl (fun K hK => ?_) (AllReadyH.nil))
  go_simp
  refine (HSS.out _ (bel_tr B6.out hHeld.2.2.2.2.2.2.2.2.2 (Nat.le_refl _))).mono ?_; rintro e w9 ⟨rfl, bel⟩
  refine hK.out _ _ (SOF.out _ (bel_tr hHeld.2.2.2.2.2.2.2.2.2 bel (Nat.le_refl _))) (fun hHeld => ?_)
  clear hK K bel
  refine wpAnyH_take (i := 15) (v := ?v15d) rfl (by kernel_rfl) (by kernel_rfl) (by kernel_rfl) (fun _ _ _ h => h) (Or.inl ⟨by rfl, ?hy15d⟩) (by assumption) ?rest15d
  case hy15d => (intro zz hSw; (try dsimp only at hSw); go_simp; (try with_reducible rfl))
  change wpAnyH _ _ _ _ _ _ _ (Act.put _ (some 55) _) _
  simp only [Act.put, List.setIfInBounds_toArray, List.set_cons_zero, List.set_cons_succ]
  refine wpAnyH_take (i := 16) (v := ?v16d) rfl (by kernel_rfl) (by kernel_rfl) (by kernel_rfl) (fun _ _ _ h => h) (Or.inl ⟨by rfl, ?hy16d⟩) (by assumption) ?rest16d
  case hy16d => (intro zz hSw; (try dsimp only at hSw); go_simp; (try with_reducible rfl))
  change wpAnyH _ _ _ _ _ _ _ (Act.put _ (some 56) _) _
  simp only [Act.put, List.setIfInBounds_toArray, List.set_cons_zero, List.set_cons_succ]
  refine wpAnyH_take (i := 17) (v := ?v17d) rfl (by kernel_rfl) (by kernel_rfl) (by kernel_rfl) (fun _ _ _ h => h) (Or.inl ⟨by rfl, ?hy17d⟩) (by assumption) ?rest17d
  case hy17d => (intro zz hSw; (try dsimp only at hSw); go_simp; (try with_reducible rfl))
  change wpAnyH _ _ _ _ _ _ _ (Act.put _ (some 57) _) _
  simp only [Act.put, List.setIfInBounds_toArray, List.set_cons_zero, List.set_cons_succ]
  refine wpAnyH_take (i := 18) (v := ?v18d) rfl (by kernel_rfl) (by kernel_rfl) (by kernel_rfl) (fun _ _ _ h => h) (Or.inl ⟨by rfl, ?hy18d⟩) (by assumption) ?rest18d
  case hy18d => (intro zz hSw; (try dsimp only at hSw); go_simp; (try with_reducible rfl))
  change wpAnyH _ _ _ _ _ _ _ (Act.put _ (some 58) _) _
  simp only [Act.put, List.setIfInBounds_toArray, List.set_cons_zero, List.set_cons_succ]
  refine wpAnyH_take (i := 19) (v := ?v19d) rfl (by kernel_rfl) (by kernel_rfl) (by kernel_rfl) (fun _ _ _ h => h) (Or.inl ⟨by rfl, ?hy19d⟩) (by assumption) ?rest19d
  case hy19d => (intro zz hSw; (try dsimp only at hSw); go_simp; (try with_reducible rfl))
  change wpAnyH _ _ _ _ _ _ _ (Act.put _ (some 59) _) _
  simp only [Act.put, List.setIfInBounds_toArray, List.set_cons_zero, List.set_cons_succ]
  refine wpAnyH_take (i := 21) (v := ?v21d) rfl (by kernel_rfl) (by kernel_rfl) (by kernel_rfl) (fun _ _ _ h => h) (Or.inl ⟨by rfl, ?hy21d⟩) (by assumption) ?rest21d
  case hy21d => (intro zz hSw; (try dsimp only at hSw); go_simp; (try with_reducible rfl))
  change wpAnyH _ _ _ _ _ _ _ (Act.put _ (some 61) _) _
  simp only [Act.put, List.setIfInBounds_toArray, List.set_cons_zero, List.set_cons_succ]
  refine wpAnyH_take (i := 22) (v := ?v22d) rfl (by kernel_rfl) (by kernel_rfl) (by kernel_rfl) (fun _ _ _ h => h) (Or.inl ⟨by rfl, ?hy22d⟩) (by assumption) ?rest22d
  case hy22d => (intro zz hSw; (try dsimp only at hSw); go_simp; (try with_reducible rfl))
  change wpAnyH _ _ _ _ _ _ _ (Act.put _ (some 62) _) _
  simp only [Act.put, List.setIfInBounds_toArray, List.set_cons_zero, List.set_cons_succ]
  refine wpAnyH_ready (rs := [20]) (by kernel_rfl) (by simp) (AllReadyH.cons rfl (fun K hK => ?_) (AllReadyH.nil))
  go_simp
  refine (HSA.out _ _ _ _ _ (OA.out.next hHeld.2.2.2.2.2.2.2.2.2).vw (OC.out.next hHeld.2.2.2.2.2.2.2.2.2).vw).mono ?_; rintro e w10 ⟨rfl, bel⟩
  refine hK.out _ _ (SOF.out _ (bel_tr hHeld.2.2.2.2.2.2.2.2.2 bel (Nat.le_refl _))) (fun hHeld => ?_)
  clear hK K bel
  refine wpAnyH_ready (rs := [23]) (by kernel_rfl) (by simp) (AllReadyH.cons rfl (fun K hK => ?_) (AllReadyH.nil))
  go_simp
  refine (HSB.out _ _ _ _ _ (OA.out.next hHeld.2.2.2.2.2.2.2.2.2).vw (OC.out.next hHeld.2.2.2.2.2.2.2.2.2).vw).mono ?_; rintro e w11 ⟨rfl, bel⟩
  refine hK.out _ _ (SOF.out _ (bel_tr hHeld.2.2.2.2.2.2.2.2.2 bel (Nat.le_refl _))) (fun hHeld => ?_)
  clear hK K bel
  refine wpAnyH_take (i := 24) (v := ?v24d) rfl (by kernel_rfl) (by kernel_rfl) (by kernel_rfl) (fun _ _ _ h => h) (Or.inl ⟨by rfl, ?hy24d⟩) (by assumption) ?rest24d
  case hy24d => (intro zz hSw; (try dsimp only at hSw); go_simp; (try with_reducible rfl))
  change wpAnyH _ _ _ _ _ _ _ (Act.put _ (some 64) _) _
  simp only [Act.put, List.setIfInBounds_toArray, List.set_cons_zero, List.set_cons_succ]
  refine wpAnyH_take (i := 25) (v := ?v25d) rfl (by kernel_rfl) (by kernel_rfl) (by kernel_rfl) (fun _ _ _ h => h) (Or.inl ⟨by rfl, ?hy25d⟩) (by assumption) ?rest25d
  case hy25d => (intro zz hSw; (try dsimp only at hSw); go_simp; (try with_reducible rfl))
  change wpAnyH _ _ _ _ _ _ _ (Act.put _ (some 65) _) _
  simp only [Act.put, List.setIfInBounds_toArray, List.set_cons_zero, List.set_cons_succ]
  refine wpAnyH_take (i := 26) (v := ?v26d) rfl (by kernel_rfl) (by kernel_rfl) (by kernel_rfl) (fun _ _ _ h => h) (Or.inl ⟨by rfl, ?hy26d⟩) (by assumption) ?rest26d
  case hy26d => (intro zz hSw; (try dsimp only at hSw); go_simp; (try with_reducible rfl))
  change wpAnyH _ _ _ _ _ _ _ (Act.put _ (some 66) _) _
  simp only [Act.put, List.setIfInBounds_toArray, List.set_cons_zero, List.set_cons_succ]
  refine wpAnyH_take (i := 27) (v := ?v27d) rfl (by kernel_rfl) (by kernel_rfl) (by kernel_rfl) (fun _ _ _ h => h) (Or.inl ⟨by rfl, ?hy27d⟩) (by assumption) ?rest27d
  case hy27d => (intro zz hSw; (try dsimp only at hSw); go_simp; (try with_reducible rfl))
  change wpAnyH _ _ _ _ _ _ _ (Act.put _ (some 67) _) _
  simp only [Act.put, List.setIfInBounds_toArray, List.set_cons_zero, List.set_cons_succ]
  refine wpAnyH_take (i := 28) (v := ?v28d) rfl (by kernel_rfl) (by kernel_rfl) (by kernel_rfl) (fun _ _ _ h => h) (Or.inl ⟨by rfl, ?hy28d⟩) (by assumption) ?rest28d
  case hy28d => (intro zz hSw; (try dsimp only at hSw); go_simp; (try with_reducible rfl))
  change wpAnyH _ _ _ _ _ _ _ (Act.put _ (some 68) _) _
  simp only [Act.put, List.setIfInBounds_toArray, List.set_cons_zero, List.set_cons_succ]
  refine wpAnyH_take (i := 30) (v := ?v30d) rfl (by kernel_rfl) (by kernel_rfl) (by kernel_rfl) (fun _ _ _ h => h) (Or.inl ⟨by rfl, ?hy30d⟩) (by assumption) ?rest30d
  case hy30d => (intro zz hSw; (try dsimp only at hSw); go_simp; (try with_reducible rfl))
  change wpAnyH _ _ _ _ _ _ _ (Act.put _ (some 70) _) _
  simp only [Act.put, List.setIfInBounds_toArray, List.set_cons_zero, List.set_cons_succ]
  refine wpAnyH_take (i := 31) (v := ?v31d) rfl (by kernel_rfl) (by kernel_rfl) (by kernel_rfl) (fun _ _ _ h => h) (Or.inl ⟨by rfl, ?hy31d⟩) (by assumption) ?rest31d
  case hy31d => (intro zz hSw; (try dsimp only at hSw); go_simp; (try with_reducible rfl))
  change wpAnyH _ _ _ _ _ _ _ (Act.put _ (some 71) _) _
  simp only [Act.put, List.setIfInBounds_toArray, List.set_cons_zero, List.set_cons_succ]
  refine wpAnyH_ready (rs := [29]) (by kernel_rfl) (by simp) (AllReadyH.cons rfl (fun K hK => ?_) (AllReadyH.nil))
  go_simp
  refine (HSA.out _ _ _ _ _ (OA.out.next hHeld.2.2.2.2.2.2.2.2.2).vw (OC.out.next hHeld.2.2.2.2.2.2.2.2.2).vw).mono ?_; rintro e w12 ⟨rfl, bel⟩
  refine hK.out _ _ (SOF.out _ (bel_tr hHeld.2.2.2.2.2.2.2.2.2 bel (Nat.le_refl _))) (fun hHeld => ?_)
  clear hK K bel
  refine wpAnyH_ready (rs := [32]) (by kernel_rfl) (by simp) (AllReadyH.cons rfl (fun K hK => ?_) (AllReadyH.nil))
  go_simp
  refine (HSC.out _ _ _ _ _ (OA.out.next hHeld.2.2.2.2.2.2.2.2.2).vw (OC.out.next hHeld.2.2.2.2.2.2.2.2.2).vw).mono ?_; rintro e w13 ⟨rfl, bel⟩
  refine hK.out _ _ (SOF.out _ (bel_tr hHeld.2.2.2.2.2.2.2.2.2 bel (Nat.le_refl _))) (fun hHeld => ?_)
  clear hK K bel
  refine wpAnyH_take (i := 33) (v := ?v33d) rfl (by kernel_rfl) (by kernel_rfl) (by kernel_rfl) (fun _ _ _ h => h) (Or.inl ⟨by rfl, ?hy33d⟩) (by assumption) ?rest33d
  case hy33d => (intro zz hSw; (try dsimp only at hSw); go_simp; (try with_reducible rfl))
  change wpAnyH _ _ _ _ _ _ _ (Act.put _ (some 73) _) _
  simp only [Act.put, List.setIfInBounds_toArray, List.set_cons_zero, List.set_cons_succ]
  refine wpAnyH_take (i := 34) (v := ?v34d) rfl (by kernel_rfl) (by kernel_rfl) (by kernel_rfl) (fun _ _ _ h => h) (Or.inl ⟨by rfl, ?hy34d⟩) (by assumption) ?rest34d
  case hy34d => (intro zz hSw; (try dsimp only at hSw); go_simp; (try with_reducible rfl))
  change wpAnyH _ _ _ _ _ _ _ (Act.put _ (some 74) _) _
  simp only [Act.put, List.setIfInBounds_toArray, List.set_cons_zero, List.set_cons_succ]
  refine wpAnyH_done (by kernel_rfl) ?_ _
  have bx := hHeld.2.2.2.2.2.2.2.2.2; clear hHeld SOF
  clear hEq hAq hCq
  have B13 := Lib.hid (bel_tr B6.out bx (Nat.le_refl _))
  have Z13 := Lib.hid bx.size
  have OE := Lib.hid (OE.out.next bx)
  have OA := Lib.hid (OA.out.next bx)
  have OC := Lib.hid (OC.out.next bx)
  have KE := Lib.hid (KE.out.below bx KE.out.2.2)
  have KA := Lib.hid (KA.out.below bx KA.out.2.2)
  have KC := Lib.hid (KC.out.below bx KC.out.2.2)
  clear bx
  clear KA
  clear KC
  clear OA
  clear OC
  clear HSA HSB HSC q2
  by_cases h0 : r.c = 0
  · skip
    have c0 : (r.c != 0) = false := by simpa using h0
    have c5 : (r.c == 5) = false := by rw [h0]; rfl
    have c3 : (r.c == 3) = false := by rw [h0]; rfl
    have H5 := Lib.hid (show r.c ≠ 5 by rw [h0]; decide)
    have H3 := Lib.hid (show r.c ≠ 3 by rw [h0]; decide)
    have H0 := Lib.hid h0
    clear h0
    have hff := HGD.out H5.out
    obtain ⟨u1, hu1⟩ : ∃ u1, u1 = 400 - f := ⟨_, rfl⟩
    obtain ⟨u2, hu2⟩ : ∃ u2, u2 = u1 + 1 := ⟨_, rfl⟩
    have i1 : IntKind.i64.wrap (400 - f) = u1 := by rw [IntKind.wrap_i64]; omega
    have i2 : IntKind.i64.wrap (u1 + 1) = u2 := by rw [IntKind.wrap_i64]; omega
    have HU := Lib.hid (And.intro hff (And.intro hu1 hu2))
    clear hff hu1 hu2
    obtain ⟨⟨kE0, kE1, kE2⟩, ⟨kE3, kE4, kE5⟩, -⟩ := id KE.out
    go_wp2_with fail
    clear kE0 kE1 kE2 kE3 kE4 kE5
    refine (pick_below w13 a0 len0 cap0 1 u2 (isB_next HB1.out B13.out) hl (by decide) (by decide) (by have := HU.out; omega) (by have := HU.out; omega)).mono ?_; rintro e z ⟨k, rfl, k0, k1, rfl⟩
    obtain ⟨hff, hu1, hu2⟩ := HU.out
    obtain ⟨mr, hmr⟩ : ∃ mr, f + k = mr := ⟨_, rfl⟩
    have i3 : IntKind.i64.wrap (f + k) = mr := by rw [IntKind.wrap_i64]; omega
    obtain ⟨m1, m2, m3⟩ := HMO.out k k0 (by omega) H5.out H3.out
    rw [hmr] at m1 m2 m3
    obtain ⟨F2, hF2⟩ : ∃ F2, (meV l bs gs mr).f = F2 := ⟨_, rfl⟩
    have HM3 := Lib.hid m3
    have e2 : meV l bs gs mr = ⟨r.c, r.b, F2⟩ := by
      rw [← m1, ← m2, ← hF2]
    rw [hF2] at HM3
    have HX := Lib.hid (HI.out w13 B13.out mr)
    rw [e2] at HX
    have HK0 := Lib.hid (And.intro k0 (show k ≤ 400 by omega))
    have cc : (r.c != r.c) = false := by simp
    clear m1 m2 m3 e2 hF2 i1 i2 hff hu1 hu2 k0 k1
    have HMR := Lib.hid hmr; clear hmr
    obtain ⟨⟨kE0, kE1, kE2⟩, ⟨kE3, kE4, kE5⟩, -⟩ := id KE.out
    go_wp2_with fail
    clear kE0 kE1 kE2 kE3 kE4 kE5
    refine (HX.out).mono ?_; rintro e w14 ⟨v9, rfl, o, b14⟩
    obtain ⟨vxa, vxc, rfl, -⟩ := o.view
    replace o : OwI _ _ (.slice vxa r.b.length vxc) r.b := o
    rw [show (St0.mk r.c r.b F2).b.length = p from HPN.out] at ⊢
    rw [HPN.out] at o
    have TX := Lib.hid (show ∀ k, (.slice vxa p vxc : Value).ownBlock = some k → w13.heap.size ≤ k from OwI.lt o)
    have UX := Lib.hid (show ∀ k, (.slice vxa p vxc : Value).ownBlock = some k → w14.heap.size > k from OwI.low o)
    have B14 := Lib.hid (bel_tr B13.out b14 (Nat.le_refl _))
    have Z14 := Lib.hid b14.size
    have OE := Lib.hid (OE.out.next b14)
    have KE := Lib.hid (KE.out.below b14 KE.out.2.2)
    have OX := Lib.hid o; clear o b14
    obtain ⟨⟨kE0, kE1, kE2⟩, ⟨kE3, kE4, kE5⟩, -⟩ := id KE.out
    have b15 := bel1 w14 (.cells #[.int .i64 r.c, .slice vxa p vxc, .int .i64 F2] 30)
    have B15 := Lib.hid (bel_tr B14.out b15 (Nat.le_refl _))
    have Z15 := Lib.hid b15.size
    have OE := Lib.hid (OE.out.next b15)
    have OX := Lib.hid (OX.out.next b15)
    have KE := Lib.hid (KE.out.below b15 KE.out.2.2)
    clear b15
    have KX := Lib.hid (Tri.made (.int .i64 r.c) (.slice vxa p vxc) (.int .i64 F2) w14 30)
    have Y15 := Lib.hid KX.out.2.2
    obtain ⟨⟨mE0, mE1, mE2⟩, ⟨mE3, mE4, mE5⟩, -⟩ := id KE.out
    obtain ⟨⟨mX0, mX1, mX2⟩, ⟨mX3, mX4, mX5⟩, -⟩ := id KX.out
    go_wp2_with fail
    clear kE0 kE1 kE2 kE3 kE4 kE5 mE0 mE1 mE2 mE3 mE4 mE5 mX0 mX1 mX2 mX3 mX4 mX5
    generalize w14.alloc (.cells #[.int .i64 r.c, .slice vxa p vxc, .int .i64 F2] 30) = w15 at B15 Z15 Y15 OE OX KE KX ⊢
    refine (likeBins_self w15 _ _ _ _ r.b p HPN.out OX.out.vw OE.out.vw (by omega)).mono ?_; rintro e w16 ⟨rfl, b16⟩
    have B16 := Lib.hid (bel_tr B15.out b16 (Nat.le_refl _))
    have Z16 := Lib.hid b16.size
    have OE := Lib.hid (OE.out.next b16)
    have OX := Lib.hid (OX.out.next b16)
    have KE := Lib.hid (KE.out.below b16 KE.out.2.2)
    have KX := Lib.hid (KX.out.below b16 KX.out.2.2)
    clear b16
    clear OX
    have O12 := Lib.hid (show OT w16.heap.size (w16.alloc (.cells #[] 9)) (.slice (some ⟨w16.heap.size, 0, none⟩) 0 0) [] from O1.start (Nat.le_refl _))
    have BL12 := Lib.hid (bel1 w16 (.cells #[] 9))
    have V12 := Lib.hid (HVL.out.below (bel_tr B16.out BL12.out (Nat.le_refl _)))
    have hlz : ([] : List Tk).length + l.length ≤ 10000000 := by have := HN.out; simp; omega
    obtain ⟨⟨kE0, kE1, kE2⟩, ⟨kE3, kE4, kE5⟩, -⟩ := id KE.out
    go_wp2_with (first
        | (at_builtin; refine append_tx rfl (.tmp 131) (.tmp 132) rfl (base := w16.heap.size) (l := []) (m := l) rfl rfl HN.out O12.out V12.out hlz BL12.out.size ?_; intro v13 w13' o13 g13; have BL13 := Lib.hid (BL12.out.grown g13 BL12.out.size (fun k hk => OT.lt O12.out k hk)); have V13 := Lib.hid (HVL.out.below (bel_tr B16.out BL13.out (Nat.le_refl _))); have O13 := Lib.hid o13; clear o13 g13)
        | (at_builtin; refine append_tx rfl (.tmp 133) (.tmp 134) rfl (base := w16.heap.size) (l := [] ++ l) (m := l) rfl rfl HN.out O13.out V13.out (by have := HN.out; simp; omega) BL13.out.size ?_; intro v14 w17 o14 g14; have bz := BL13.out.grown g14 BL13.out.size (fun k hk => OT.lt O13.out k hk); have BZ := Lib.hid bz; have O14 := Lib.hid o14; clear o14 g14 bz)
        | fail)
    clear kE0 kE1 kE2 kE3 kE4 kE5
    have bz := BZ.out
    have B17 := Lib.hid (bel_tr B16.out bz (Nat.le_refl _))
    have Z17 := Lib.hid bz.size
    have OE := Lib.hid (OE.out.next bz)
    have KE := Lib.hid (KE.out.below bz KE.out.2.2)
    have KX := Lib.hid (KX.out.below bz KX.out.2.2)
    clear bz BZ O12 BL12 V12 hlz O13 BL13 V13
    have o14 : OT w16.heap.size w17 v14 (l ++ l) := O14.out
    obtain ⟨ta, tc, rfl, -⟩ := O1.view o14
    rw [txL_len]
    have o15 := o14
    clear O14 o14
    generalize hn2 : (l ++ l).length = n2 at *
    have o16 : OT w16.heap.size w17 (.slice ta n2 tc) (l ++ l) := by have := o15; rw [txL_len, hn2] at this; exact this
    clear o15
    have hn2b : n2 ≤ 242 := by have := HN.out; rw [← hn2, List.length_append]; omega
    have HN2 := Lib.hid hn2
    have HML2 := Lib.hid (show ∀ s ∈ l ++ l, s.length ≤ 4194304 from fun s hs => by
      rcases List.mem_append.1 hs with h | h
      · exact HML.out s h
      · exact HML.out s h)
    clear hn2
    have OT2 := Lib.hid o16
    clear o16
    have OT2 := OT2
    have HY := Lib.hid (HIB.out w17 B17.out ta tc (l ++ l) n2 HN2.out (by omega) HML2.out OT2.out.vw)
    have HBO0 := Lib.hid (HBO.out H0.out)
    have HYL := Lib.hid (meV_len (l := l ++ l) (gs := gs) (f := f) (n := 20) (show bs.length ≤ 20 by have := HBN.out; omega) (by decide))
    generalize meV (l ++ l) bs gs f = ry at *
    obtain ⟨py, hpy⟩ : ∃ py, ry.b.length = py := ⟨_, rfl⟩
    have HPY := Lib.hid hpy; clear hpy
    have HPYL := Lib.hid (show py ≤ 20 by rw [← HPY.out]; exact HYL.out)
    refine (HY.out).mono ?_; rintro e w18 ⟨v9, rfl, o, b18⟩
    obtain ⟨vya, vyc, rfl, -⟩ := o.view
    rw [HPY.out] at o ⊢
    have TY := Lib.hid (show ∀ k, (.slice vya py vyc : Value).ownBlock = some k → w17.heap.size ≤ k from OwI.lt o)
    have UY := Lib.hid (show ∀ k, (.slice vya py vyc : Value).ownBlock = some k → w18.heap.size > k from OwI.low o)
    have B18 := Lib.hid (bel_tr B17.out b18 (Nat.le_refl _))
    have Z18 := Lib.hid b18.size
    have OE := Lib.hid (OE.out.next b18)
    have OT2 := Lib.hid (OT2.out.next b18)
    have KE := Lib.hid (KE.out.below b18 KE.out.2.2)
    have KX := Lib.hid (KX.out.below b18 KX.out.2.2)
    have OY := Lib.hid o; clear o b18
    clear HY
    obtain ⟨⟨kE0, kE1, kE2⟩, ⟨kE3, kE4, kE5⟩, -⟩ := id KE.out
    have b19 := bel1 w18 (.cells #[.int .i64 ry.c, .slice vya py vyc, .int .i64 ry.f] 30)
    have B19 := Lib.hid (bel_tr B18.out b19 (Nat.le_refl _))
    have Z19 := Lib.hid b19.size
    have OE := Lib.hid (OE.out.next b19)
    have OT2 := Lib.hid (OT2.out.next b19)
    have OY := Lib.hid (OY.out.next b19)
    have KE := Lib.hid (KE.out.below b19 KE.out.2.2)
    have KX := Lib.hid (KX.out.below b19 KX.out.2.2)
    clear b19
    have KY := Lib.hid (Tri.made (.int .i64 ry.c) (.slice vya py vyc) (.int .i64 ry.f) w18 30)
    have Y19 := Lib.hid KY.out.2.2
    obtain ⟨⟨mE0, mE1, mE2⟩, ⟨mE3, mE4, mE5⟩, -⟩ := id KE.out
    obtain ⟨⟨mY0, mY1, mY2⟩, ⟨mY3, mY4, mY5⟩, -⟩ := id KY.out
    go_wp2_with fail
    clear kE0 kE1 kE2 kE3 kE4 kE5 mE0 mE1 mE2 mE3 mE4 mE5 mY0 mY1 mY2 mY3 mY4 mY5
    generalize w18.alloc (.cells #[.int .i64 ry.c, .slice vya py vyc, .int .i64 ry.f] 30) = w19 at B19 Z19 Y19 OE OT2 OY KE KX KY ⊢
    have HZ := Lib.hid (HIR.out w19 B19.out vea vec p r.b HPN.out OE.out.vw (by omega) r.f (lib3_below HL1.out B19.out))
    generalize meV l r.b gs r.f = rz at *
    obtain ⟨pz, hpz⟩ : ∃ pz, rz.b.length = pz := ⟨_, rfl⟩
    have HPZ := Lib.hid hpz; clear hpz
    refine (HZ.out).mono ?_; rintro e w20 ⟨v9, rfl, o, b20⟩
    obtain ⟨vza, vzc, rfl, -⟩ := o.view
    rw [HPZ.out] at o ⊢
    have TZ := Lib.hid (show ∀ k, (.slice vza pz vzc : Value).ownBlock = some k → w19.heap.size ≤ k from OwI.lt o)
    have UZ := Lib.hid (show ∀ k, (.slice vza pz vzc : Value).ownBlock = some k → w20.heap.size > k from OwI.low o)
    have B20 := Lib.hid (bel_tr B19.out b20 (Nat.le_refl _))
    have Z20 := Lib.hid b20.size
    have OE := Lib.hid (OE.out.next b20)
    have OT2 := Lib.hid (OT2.out.next b20)
    have OY := Lib.hid (OY.out.next b20)
    have KE := Lib.hid (KE.out.below b20 KE.out.2.2)
    have KX := Lib.hid (KX.out.below b20 KX.out.2.2)
    have KY := Lib.hid (KY.out.below b20 KY.out.2.2)
    have OZ := Lib.hid o; clear o b20
    clear HZ
    obtain ⟨⟨kY0, kY1, kY2⟩, ⟨kY3, kY4, kY5⟩, -⟩ := id KY.out
    have b21 := bel1 w20 (.cells #[.int .i64 rz.c, .slice vza pz vzc, .int .i64 rz.f] 30)
    have B21 := Lib.hid (bel_tr B20.out b21 (Nat.le_refl _))
    have Z21 := Lib.hid b21.size
    have OE := Lib.hid (OE.out.next b21)
    have OT2 := Lib.hid (OT2.out.next b21)
    have OY := Lib.hid (OY.out.next b21)
    have OZ := Lib.hid (OZ.out.next b21)
    have KE := Lib.hid (KE.out.below b21 KE.out.2.2)
    have KX := Lib.hid (KX.out.below b21 KX.out.2.2)
    have KY := Lib.hid (KY.out.below b21 KY.out.2.2)
    clear b21
    have KZ := Lib.hid (Tri.made (.int .i64 rz.c) (.slice vza pz vzc) (.int .i64 rz.f) w20 30)
    have Y21 := Lib.hid KZ.out.2.2
    obtain ⟨⟨mY0, mY1, mY2⟩, ⟨mY3, mY4, mY5⟩, -⟩ := id KY.out
    obtain ⟨⟨mZ0, mZ1, mZ2⟩, ⟨mZ3, mZ4, mZ5⟩, -⟩ := id KZ.out
    go_wp2_with fail
    clear kY0 kY1 kY2 kY3 kY4 kY5 mY0 mY1 mY2 mY3 mY4 mY5 mZ0 mZ1 mZ2 mZ3 mZ4 mZ5
    generalize w20.alloc (.cells #[.int .i64 rz.c, .slice vza pz vzc, .int .i64 rz.f] 30) = w21 at B21 Z21 Y21 OE OT2 OY OZ KE KX KY KZ ⊢
    refine (specRecipeOk_any w21 ta tc (l ++ l) n2 HN2.out OT2.out.vw (by omega) HML2.out).mono ?_; rintro e w22 ⟨rfl, b22⟩
    have B22 := Lib.hid (bel_tr B21.out b22 (Nat.le_refl _))
    have Z22 := Lib.hid b22.size
    have OE := Lib.hid (OE.out.next b22)
    have OT2 := Lib.hid (OT2.out.next b22)
    have OY := Lib.hid (OY.out.next b22)
    have OZ := Lib.hid (OZ.out.next b22)
    have KE := Lib.hid (KE.out.below b22 KE.out.2.2)
    have KX := Lib.hid (KX.out.below b22 KX.out.2.2)
    have KY := Lib.hid (KY.out.below b22 KY.out.2.2)
    have KZ := Lib.hid (KZ.out.below b22 KZ.out.2.2)
    clear b22
    clear OT2
    have hfu := HFU.out H0.out
    have hs0 := stV_0 (f := f) H0.out
    rw [HSV.out] at hs0
    have i5 : IntKind.i64.wrap (f - r.f) = sv := by rw [IntKind.wrap_i64]; omega
    have t1 : (sv == sv) = true := by simp
    have t2 : decide (0 ≤ sv) = true := by simp; omega
    have hm3 := HM3.out H0.out
    have hmr := HMR.out
    have hgd := HGD.out H5.out
    have t3 : (F2 == F2) = true := by simp
    have i6 : IntKind.i64.wrap (mr - sv) = F2 := by
      have hk := HK0.out
      rw [IntKind.wrap_i64]; omega
    have hok := HOK.out H5.out
    have HOK2 := Lib.hid hok
    clear hfu hs0 hm3 hmr hgd hok
    cases hyb : rcB (l ++ l)
    · skip
      obtain ⟨⟨kE0, kE1, kE2⟩, ⟨kE3, kE4, kE5⟩, -⟩ := id KE.out
      obtain ⟨⟨kX0, kX1, kX2⟩, ⟨kX3, kX4, kX5⟩, -⟩ := id KX.out
      go_wp2_with fail
      clear kE0 kE1 kE2 kE3 kE4 kE5 kX0 kX1 kX2 kX3 kX4 kX5
      refine (specBins2_any w22 vea vec r.b p HPN.out OE.out.vw (ok_names HOK2.out) (by omega)).mono ?_; rintro e w23 ⟨rfl, b⟩
      have B23 := Lib.hid (bel_tr B22.out b (Nat.le_refl _))
      have Z23 := Lib.hid b.size
      have OE := Lib.hid (OE.out.next b)
      have OY := Lib.hid (OY.out.next b)
      have OZ := Lib.hid (OZ.out.next b)
      have KE := Lib.hid (KE.out.below b KE.out.2.2)
      have KX := Lib.hid (KX.out.below b KX.out.2.2)
      have KY := Lib.hid (KY.out.below b KY.out.2.2)
      have KZ := Lib.hid (KZ.out.below b KZ.out.2.2)
      clear b
      rw [HOK2.out]
      go_wp2_with fail
      go_ret
      exact ⟨rfl, bel_tr HF.out B23.out (Nat.le_refl _)⟩
    · skip
      obtain ⟨e1, e2⟩ := HBO0.out hyb
      have yz : (ry.c != rz.c) = false := by rw [e1]; simp
      by_cases hz : rz.c = 0
      · skip
        have z0 : (rz.c == 0) = true := by rw [hz]; rfl
        have e3 := e2 hz
        clear e1 e2 hz yz
        subst e3
        have yz : (ry.c != ry.c) = false := by simp
        have e4 : py = pz := HPY.out.symm.trans HPZ.out
        subst e4
        obtain ⟨⟨kY0, kY1, kY2⟩, ⟨kY3, kY4, kY5⟩, -⟩ := id KY.out
        obtain ⟨⟨kZ0, kZ1, kZ2⟩, ⟨kZ3, kZ4, kZ5⟩, -⟩ := id KZ.out
        obtain ⟨⟨kX0, kX1, kX2⟩, ⟨kX3, kX4, kX5⟩, -⟩ := id KX.out
        obtain ⟨⟨kE0, kE1, kE2⟩, ⟨kE3, kE4, kE5⟩, -⟩ := id KE.out
        go_wp2_with fail
        clear kY0 kY1 kY2 kY3 kY4 kY5 kZ0 kZ1 kZ2 kZ3 kZ4 kZ5 kX0 kX1 kX2 kX3 kX4 kX5 kE0 kE1 kE2 kE3 kE4 kE5
        refine (likeEnd_self w22 ry.c ry.f _ _ _ _ ry.b py HPY.out OY.out.vw OZ.out.vw (by have := HPYL.out; omega)).mono ?_; rintro e w23 ⟨rfl, b23⟩
        have B23 := Lib.hid (bel_tr B22.out b23 (Nat.le_refl _))
        have Z23 := Lib.hid b23.size
        have OE := Lib.hid (OE.out.next b23)
        have OY := Lib.hid (OY.out.next b23)
        have OZ := Lib.hid (OZ.out.next b23)
        have KE := Lib.hid (KE.out.below b23 KE.out.2.2)
        have KX := Lib.hid (KX.out.below b23 KX.out.2.2)
        have KY := Lib.hid (KY.out.below b23 KY.out.2.2)
        have KZ := Lib.hid (KZ.out.below b23 KZ.out.2.2)
        clear b23
        obtain ⟨⟨kE0, kE1, kE2⟩, ⟨kE3, kE4, kE5⟩, -⟩ := id KE.out
        obtain ⟨⟨kX0, kX1, kX2⟩, ⟨kX3, kX4, kX5⟩, -⟩ := id KX.out
        go_wp2_with fail
        clear kE0 kE1 kE2 kE3 kE4 kE5 kX0 kX1 kX2 kX3 kX4 kX5
        refine (specBins2_any w23 vea vec r.b p HPN.out OE.out.vw (ok_names HOK2.out) (by omega)).mono ?_; rintro e w24 ⟨rfl, b⟩
        have B24 := Lib.hid (bel_tr B23.out b (Nat.le_refl _))
        have Z24 := Lib.hid b.size
        have OE := Lib.hid (OE.out.next b)
        have OY := Lib.hid (OY.out.next b)
        have OZ := Lib.hid (OZ.out.next b)
        have KE := Lib.hid (KE.out.below b KE.out.2.2)
        have KX := Lib.hid (KX.out.below b KX.out.2.2)
        have KY := Lib.hid (KY.out.below b KY.out.2.2)
        have KZ := Lib.hid (KZ.out.below b KZ.out.2.2)
        clear b
        rw [HOK2.out]
        go_wp2_with fail
        go_ret
        exact ⟨rfl, bel_tr HF.out B24.out (Nat.le_refl _)⟩
      · skip
        have z0 : (rz.c == 0) = false := beq_eq_false_iff_ne.2 hz
        clear e1 e2 hz
        obtain ⟨⟨kE0, kE1, kE2⟩, ⟨kE3, kE4, kE5⟩, -⟩ := id KE.out
        obtain ⟨⟨kX0, kX1, kX2⟩, ⟨kX3, kX4, kX5⟩, -⟩ := id KX.out
        obtain ⟨⟨kY0, kY1, kY2⟩, ⟨kY3, kY4, kY5⟩, -⟩ := id KY.out
        obtain ⟨⟨kZ0, kZ1, kZ2⟩, ⟨kZ3, kZ4, kZ5⟩, -⟩ := id KZ.out
        go_wp2_with fail
        clear kE0 kE1 kE2 kE3 kE4 kE5 kX0 kX1 kX2 kX3 kX4 kX5 kY0 kY1 kY2 kY3 kY4 kY5 kZ0 kZ1 kZ2 kZ3 kZ4 kZ5
        refine (specBins2_any w22 vea vec r.b p HPN.out OE.out.vw (ok_names HOK2.out) (by omega)).mono ?_; rintro e w23 ⟨rfl, b⟩
        have B23 := Lib.hid (bel_tr B22.out b (Nat.le_refl _))
        have Z23 := Lib.hid b.size
        have OE := Lib.hid (OE.out.next b)
        have OY := Lib.hid (OY.out.next b)
        have OZ := Lib.hid (OZ.out.next b)
        have KE := Lib.hid (KE.out.below b KE.out.2.2)
        have KX := Lib.hid (KX.out.below b KX.out.2.2)
        have KY := Lib.hid (KY.out.below b KY.out.2.2)
        have KZ := Lib.hid (KZ.out.below b KZ.out.2.2)
        clear b
        rw [HOK2.out]
        go_wp2_with fail
        go_ret
        exact ⟨rfl, bel_tr HF.out B23.out (Nat.le_refl _)⟩
  · skip
    have c0 : (r.c != 0) = true := by simpa using h0
    obtain ⟨hrb, hrf⟩ := HBK.out h0
    have f9 : (r.f != 0) = false := by rw [hrf]; rfl
    have H0 := Lib.hid h0
    have HRB := Lib.hid hrb
    clear h0 hrb hrf
    obtain ⟨⟨kE0, kE1, kE2⟩, ⟨kE3, kE4, kE5⟩, -⟩ := id KE.out
    go_wp2_with fail
    clear kE0 kE1 kE2 kE3 kE4 kE5
    refine (likeBins_eq w13 _ _ _ _ r.b bs p bn HPN.out HBN.out OE.out.vw (HVB.out.below B13.out) (by omega) HRB.out).mono ?_; rintro e w14 ⟨rfl, b14⟩
    have B14 := Lib.hid (bel_tr B13.out b14 (Nat.le_refl _))
    have Z14 := Lib.hid b14.size
    have OE := Lib.hid (OE.out.next b14)
    have KE := Lib.hid (KE.out.below b14 KE.out.2.2)
    clear b14
    by_cases h5 : r.c = 5
    · skip
      have c5 : (r.c == 5) = true := by rw [h5]; rfl
      have hs : (sv == -1) = true := by rw [← HSV.out, stV_x H0.out (by rw [h5]; decide)]; rfl
      clear h5
      obtain ⟨⟨kE0, kE1, kE2⟩, ⟨kE3, kE4, kE5⟩, -⟩ := id KE.out
      go_wp2_with fail
      clear kE0 kE1 kE2 kE3 kE4 kE5
      go_ret
      exact ⟨rfl, bel_tr HF.out B14.out (Nat.le_refl _)⟩
    have c5 : (r.c == 5) = false := beq_eq_false_iff_ne.2 h5
    have H5 := Lib.hid h5
    clear h5
    by_cases h3 : r.c = 3
    · skip
      have c3 : (r.c == 3) = true := by rw [h3]; rfl
      have hs : (sv == f) = true := by rw [← HSV.out, stV_3 h3]; simp
      clear h3
      obtain ⟨⟨kE0, kE1, kE2⟩, ⟨kE3, kE4, kE5⟩, -⟩ := id KE.out
      go_wp2_with fail
      clear kE0 kE1 kE2 kE3 kE4 kE5
      go_ret
      exact ⟨rfl, bel_tr HF.out B14.out (Nat.le_refl _)⟩
    have c3 : (r.c == 3) = false := beq_eq_false_iff_ne.2 h3
    have H3 := Lib.hid h3
    clear h3
    have hff := HGD.out H5.out
    obtain ⟨u1, hu1⟩ : ∃ u1, u1 = 400 - f := ⟨_, rfl⟩
    obtain ⟨u2, hu2⟩ : ∃ u2, u2 = u1 + 1 := ⟨_, rfl⟩
    have i1 : IntKind.i64.wrap (400 - f) = u1 := by rw [IntKind.wrap_i64]; omega
    have i2 : IntKind.i64.wrap (u1 + 1) = u2 := by rw [IntKind.wrap_i64]; omega
    have HU := Lib.hid (And.intro hff (And.intro hu1 hu2))
    clear hff hu1 hu2
    obtain ⟨⟨kE0, kE1, kE2⟩, ⟨kE3, kE4, kE5⟩, -⟩ := id KE.out
    go_wp2_with fail
    clear kE0 kE1 kE2 kE3 kE4 kE5
    refine (pick_below w14 a0 len0 cap0 1 u2 (isB_next HB1.out B14.out) hl (by decide) (by decide) (by have := HU.out; omega) (by have := HU.out; omega)).mono ?_; rintro e z ⟨k, rfl, k0, k1, rfl⟩
    obtain ⟨hff, hu1, hu2⟩ := HU.out
    obtain ⟨mr, hmr⟩ : ∃ mr, f + k = mr := ⟨_, rfl⟩
    have i3 : IntKind.i64.wrap (f + k) = mr := by rw [IntKind.wrap_i64]; omega
    obtain ⟨m1, m2, m3⟩ := HMO.out k k0 (by omega) H5.out H3.out
    rw [hmr] at m1 m2 m3
    obtain ⟨F2, hF2⟩ : ∃ F2, (meV l bs gs mr).f = F2 := ⟨_, rfl⟩
    have HM3 := Lib.hid m3
    have e2 : meV l bs gs mr = ⟨r.c, r.b, F2⟩ := by
      rw [← m1, ← m2, ← hF2]
    rw [hF2] at HM3
    have HX := Lib.hid (HI.out w14 B14.out mr)
    rw [e2] at HX
    have HK0 := Lib.hid (And.intro k0 (show k ≤ 400 by omega))
    have cc : (r.c != r.c) = false := by simp
    clear m1 m2 m3 e2 hF2 i1 i2 hff hu1 hu2 k0 k1
    have HMR := Lib.hid hmr; clear hmr
    obtain ⟨⟨kE0, kE1, kE2⟩, ⟨kE3, kE4, kE5⟩, -⟩ := id KE.out
    go_wp2_with fail
    clear kE0 kE1 kE2 kE3 kE4 kE5
    refine (HX.out).mono ?_; rintro e w15 ⟨v9, rfl, o, b15⟩
    obtain ⟨vxa, vxc, rfl, -⟩ := o.view
    replace o : OwI _ _ (.slice vxa r.b.length vxc) r.b := o
    rw [show (St0.mk r.c r.b F2).b.length = p from HPN.out] at ⊢
    rw [HPN.out] at o
    have TX := Lib.hid (show ∀ k, (.slice vxa p vxc : Value).ownBlock = some k → w14.heap.size ≤ k from OwI.lt o)
    have UX := Lib.hid (show ∀ k, (.slice vxa p vxc : Value).ownBlock = some k → w15.heap.size > k from OwI.low o)
    have B15 := Lib.hid (bel_tr B14.out b15 (Nat.le_refl _))
    have Z15 := Lib.hid b15.size
    have OE := Lib.hid (OE.out.next b15)
    have KE := Lib.hid (KE.out.below b15 KE.out.2.2)
    have OX := Lib.hid o; clear o b15
    obtain ⟨⟨kE0, kE1, kE2⟩, ⟨kE3, kE4, kE5⟩, -⟩ := id KE.out
    have b16 := bel1 w15 (.cells #[.int .i64 r.c, .slice vxa p vxc, .int .i64 F2] 30)
    have B16 := Lib.hid (bel_tr B15.out b16 (Nat.le_refl _))
    have Z16 := Lib.hid b16.size
    have OE := Lib.hid (OE.out.next b16)
    have OX := Lib.hid (OX.out.next b16)
    have KE := Lib.hid (KE.out.below b16 KE.out.2.2)
    clear b16
    have KX := Lib.hid (Tri.made (.int .i64 r.c) (.slice vxa p vxc) (.int .i64 F2) w15 30)
    have Y16 := Lib.hid KX.out.2.2
    obtain ⟨⟨mE0, mE1, mE2⟩, ⟨mE3, mE4, mE5⟩, -⟩ := id KE.out
    obtain ⟨⟨mX0, mX1, mX2⟩, ⟨mX3, mX4, mX5⟩, -⟩ := id KX.out
    go_wp2_with fail
    clear kE0 kE1 kE2 kE3 kE4 kE5 mE0 mE1 mE2 mE3 mE4 mE5 mX0 mX1 mX2 mX3 mX4 mX5
    generalize w15.alloc (.cells #[.int .i64 r.c, .slice vxa p vxc, .int .i64 F2] 30) = w16 at B16 Z16 Y16 OE OX KE KX ⊢
    refine (likeBins_self w16 _ _ _ _ r.b p HPN.out OX.out.vw OE.out.vw (by omega)).mono ?_; rintro e w17 ⟨rfl, b17⟩
    have B17 := Lib.hid (bel_tr B16.out b17 (Nat.le_refl _))
    have Z17 := Lib.hid b17.size
    have OE := Lib.hid (OE.out.next b17)
    have OX := Lib.hid (OX.out.next b17)
    have KE := Lib.hid (KE.out.below b17 KE.out.2.2)
    have KX := Lib.hid (KX.out.below b17 KX.out.2.2)
    clear b17
    have hs : (sv == -1) = true := by rw [← HSV.out, stV_x H0.out H3.out]; rfl
    obtain ⟨⟨kE0, kE1, kE2⟩, ⟨kE3, kE4, kE5⟩, -⟩ := id KE.out
    go_wp2_with fail
    clear kE0 kE1 kE2 kE3 kE4 kE5
    go_ret
    exact ⟨rfl, bel_tr HF.out B17.out (Nat.le_refl _)⟩
end Go.Proofs.YtfnnoehpahdgcaaGreatDoor.Cl
namespace Go.Proofs.YtfnnoehpahdgcaaGreatDoor.Fr
set_option linter.unusedVariables false
open Go.ChangeShapes Go.WideShapes Go.ChangeAt Go.RowKit Go.Joins
set_option maxRecDepth 100000 in
theorem openBytes {H : Type} {enc : TypeId × Value → H} {W : World} {base : Nat} {v : Value} {d : DataW H} {p : List MemPlace} (hv : Value.okWide Tryz.prog W .any base 22 v)
    (h : DataW.Trod enc Tryz.prog W 0 (fun _ => true) true 22 v d p) :
    ∃ (a : Option Addr) (len cap : Nat), v = .slice a len cap ∧ (len ≤ 4096 → Cu.IsBytes W a len) := by
  obtain ⟨a0, len0, cap0, rfl⟩ := okWide_slice Tryz.underlying22 hv
  refine ⟨a0, len0, cap0, rfl, fun hl => ?_⟩
  obtain ⟨fuel, hf⟩ := h
  rcases open_ints Tryz.underlying22 Tryz.underlying5 (by kernel_rfl) hf with ⟨hcs, _⟩ | ⟨x, l, c, zs, hcs, _, hle, hm, hz, _, hcell, hwz⟩
  · simp [Value.cells] at hcs
    obtain ⟨rfl, rfl, rfl⟩ := hcs
    exact Cu.isBytes_of_row (cap := 0) (zs := []) hl (.inl ⟨rfl, rfl, rfl, rfl⟩)
  · simp [Value.cells] at hcs
    obtain ⟨rfl, rfl, rfl⟩ := hcs
    exact Cu.isBytes_of_row (cap := cap0) (zs := zs) hl (.inr ⟨_, rfl, hle, hm, by simpa using hz, hcell, hwz⟩)
end Go.Proofs.YtfnnoehpahdgcaaGreatDoor.Fr
