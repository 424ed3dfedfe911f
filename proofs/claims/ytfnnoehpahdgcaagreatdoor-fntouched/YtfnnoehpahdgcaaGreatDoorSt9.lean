/-
  Texts of mine, joined (part 9 of 11): what the law at hand reaches of them; each text's own words stand in the verifier's repo.
-/
import Derived.Test.YtfnnoehpahdgcaaGreatDoorSt8
import Derived.Test.YtfnnoehpahdgcaaGreatDoorRows
import Derived.WalkKit
import Derived.IntWalk
import Derived.Laws.Bits128
import Derived.Lib.Hide
import Derived.Lib.ParseIntBTie
import Derived.Lib.ParseIntBCases
import Derived.Lib.ItoaMem
import Derived.Lib.IndexMore
import Derived.Lib.Repeat
import Derived.WalkSpells
import Derived.Below
import Derived.Carry
import Derived.WalkSmall
import Derived.Laws.Closers25b
import Derived.Lib.Strings
import Derived.Lib.SmallJoins
import Derived.Lib.AppendIntMem
import Derived.Maps.AppendAt
import Derived.OwnWalk
import Derived.WalkLawsBesides
import Derived.Deep.QuietTactic
import Derived.BigQuiet
import Derived.Deep.RegionHeld3
import Derived.Laws.OwnMore
import Derived.Laws.StructEq
import Derived.BigFrame
import Derived.Deep.Upon
import Derived.Laws.CopyRow
import Derived.Laws.BytesArg
import Derived.RowKit3
import Derived.Shelf.Strconv.Itoa4
import Derived.Shelf.Strconv.ParseIntPublic10
import Derived.Shelf.Strconv.ErrVarParseInt
import Derived.Test.YtfnnoehpahdgcaaGreatDoorProg
import Derived.LaidMore
import Derived.Stop.LaidErr
import Derived.Lib.LaidTab
import Derived.RangeFuncWrites
import Derived.RangeFuncCalls
import Derived.RangeFuncBox
import Derived.RangeFuncNested
import Derived.RangeFuncLeaves
import Derived.Shelf.Abstract
import Derived.Shelf.RegionOpen
import Derived.OwnWalkIn
import Derived.TacticsInMore
import Derived.LoopNIn
import Derived.LoopIn
import Derived.Lib.Bytealg
import Derived.Deep.LoopGhost
import Derived.Lib.AtoiErrMem
import Derived.OpenShut
import Derived.Lib.ConvBytes
import Derived.Deep.RegionLaw
import Derived.Deep.AppendLies
import Derived.Lib.AppendZeros
import Derived.Defers
import Derived.Recover
import Derived.Lib.ItoaLen
import Derived.Sort.Walk0
import Derived.Lib.SlicesCompact
import Derived.ProofKit
import Derived.Handed
import Derived.SizedLaws
import Derived.ShutString
import Derived.Deep.Slices
import Derived.Deep.Fields
import Derived.ChangeSame
namespace Go.Proofs.YtfnnoehpahdgcaaGreatDoor.Cl
set_option linter.unusedVariables false
open Go.RowKit Wd Rp Cu Kp
theorem O1.but {T : TypeId} {B b : Nat} {w w' : World} {v : Value} {l : List Value} (h : O1 T B w v l) (hb : But b w w') (hB : b < B) : O1 T B w' v l :=
  row_next h fun g hg hlt => hb.block g hlt (by have := O1.lt h g hg; omega)
theorem ON.but {B b : Nat} {w w' : World} {v : Value} {l : List Int} (h : ON B w v l) (hb : But b w w') (hB : b < B) : ON B w' v l := O1.but h hb hB
theorem ON.mono {B C : Nat} {w : World} {v : Value} {l : List Int} (h : ON B w v l) (hC : C ≤ B) : ON C w v l := O1.mono h hC
theorem litN {B : Nat} (w : World) (l : List Int) (h : B ≤ w.heap.size) (hl : l.length ≤ 1000) : ON B (w.alloc (.cells (l.map iv).toArray 2)) (.slice (some ⟨w.heap.size, 0, none⟩) l.length l.length) l := by
  have := O1.lit (T := 2) h (l.map iv).toArray (by unfold maxLen; simp; omega)
  rw [show (l.map iv).toArray.size = l.length by simp] at this
  exact this
theorem ON.cut {B : Nat} {w : World} {g n cap : Nat} {l : List Int} (h : ON B w (.slice (some ⟨g, 0, none⟩) n cap) l) (hn : l.length = n) {k : Nat} (hk : k ≤ n) : ON B w (.slice (some ⟨g, 0, none⟩) k cap) (l.take k) := by
  unfold ON O1 at h ⊢
  rw [inL_len, hn] at h
  have := row_cut h hk
  rw [inL_len, List.length_take, Nat.min_eq_left (by omega)]
  unfold inL at this ⊢
  rwa [Nat.mul_one, ← List.map_take] at this
theorem run_append_fullN {w : World} {b : Addr} {ad : Option Addr} {k cap n : Nat} {l m : List Int} (ty : TypeId) (hl : l.length = k) (hv : V1 w (some b) k (inL l)) (hm : m.length = n) (hy : V1 w ad cap (inL m)) (hn : 0 < n) (hlen : k + n ≤ 10000000) :
    ∃ v' w', (Builtin.append_ #[26, 26] ty #[.slice (some b) k k, .slice ad n cap]).run Tryz.prog w = .ok v' w' ∧ ON w.heap.size w' v' (l ++ m) ∧ Below w.heap.size w w' := by
  obtain ⟨i0, hi, hz0, hz1, hz2⟩ := info_parts info1N
  obtain ⟨ad, rfl⟩ : ∃ x, ad = some x := by
    cases ad with
    | none => have := hy.2.2.1 rfl; have := hy.1; rw [inL_len] at this; omega
    | some x => exact ⟨x, rfl⟩
  have h1 := grownCap_ge w (k + n) k 2
  have hcm : grownCap w (k + n) k 2 ≤ maxLen := grownCap_le_maxLen w (k + n) k 2 (by unfold maxLen; omega)
  have hlm : (inL (l ++ m)).length = k + n := by rw [inL_len, List.length_append, hl, hm]
  have fin : ∀ cs : Array Value, cs = (inL l).toArray ++ (inL m).toArray ++ Builtin.zeroCells (Value.int .i64 0).cells (grownCap w (k + n) k 2 - (k + n)) →
      ON w.heap.size (w.drew.alloc (.cells cs 2)) (.slice (some ⟨w.heap.size, 0, none⟩) (k + n) (grownCap w (k + n) k 2)) (l ++ m) := fun cs hcs => by
    unfold ON O1
    refine ⟨by rw [Nat.mul_one], .inr ⟨w.heap.size, grownCap w (k + n) k 2, cs, by rw [hlm], Nat.le_refl _, heap_alloc_new w.drew _, by rw [hlm]; exact h1, hcm, ?_, ?_⟩⟩
    · rw [hcs]
      simp only [Array.size_append, List.size_toArray, size_zeroCells, inL_len, hl, hm]
      show k + n + (grownCap w (k + n) k 2 - (k + n)) * 1 = _
      omega
    · rw [hcs, Nat.mul_one, hlm]
      have e : inL (l ++ m) = inL l ++ inL m := List.map_append
      rw [e]
      simp only [Array.toList_append, List.append_assoc]
      rw [← List.append_assoc, show k + n = (inL l ++ inL m).length by rw [List.length_append, inL_len, inL_len, hl, hm]]
      exact List.take_left
  have hbel : ∀ o, Below w.heap.size w (w.drew.alloc o) := fun o => (Below.refl _ _).drew.alloc (Nat.le_refl _) o
  exact ⟨_, _, run_append_grow (P := Tryz.prog) w 26 ty 2 i0 _ Tryz.underlying26 hi hz0 b k k (inL l) (by rw [inL_len, hl, hz1, Nat.mul_one]) (v1_cells hv) ad n cap (inL m) (by rw [inL_len, hm, hz1, Nat.mul_one]) (v1_cells hy) (by omega) (by omega) (growslice_fits (by omega) (by rw [hz2]; omega)), fin _ rfl, hbel _⟩
theorem step_append_fullN {ops : Array Oper} {o : Oper} {a : Act} {Q : Exit → Act → World → Prop} {K : Act → World → Prop} {w : World} (hw : Region.wanted o (yielded ops a.tmps) = true) (s x : Operand)
    (ho : o.op = .call { callee := .builtin .append, args := #[s, x], argTypes := #[26, 26] })
    {b : Addr} {ad : Option Addr} {k cap n : Nat} {l m : List Int} (hs : a.eval s = .slice (some b) k k) (hx : a.eval x = .slice ad n cap) (hl : l.length = k) (hv : V1 w (some b) k (inL l)) (hmn : m.length = n) (hy : V1 w ad cap (inL m)) (hn : 0 < n) (hlen : k + n ≤ 10000000)
    (h : ∀ v' w', ON w.heap.size w' v' (l ++ m) → Below w.heap.size w w' → K (a.put o.dst v') w') :
    if Region.wanted o (yielded ops a.tmps) = true then Oper.wp Tryz.prog o a w K Q else K (a.put o.dst undef) w := by
  rw [if_pos hw]
  obtain ⟨v', w', hr, h2, h3⟩ := run_append_fullN o.type hl hv hmn hy hn hlen
  unfold Oper.wp execOp
  simp only [ho, resolve, invoke, builtin, Sem.run_bind, Sem.run_pure, Result.andThen_ok, List.map_toArray, List.map_cons, List.map_nil, hs, hx, hr]
  exact h v' w' h2 h3
theorem ON.form {B : Nat} {w : World} {v : Value} {l : List Int} (h : ON B w v l) : ∃ a cap, v = .slice a l.length cap ∧ V1 w a cap (inL l) := by
  obtain ⟨a, cap, e, hv⟩ := O1.view h
  rw [inL_len] at e
  exact ⟨a, cap, e, hv⟩
def I64s (l : List Int) : Prop := ∀ x ∈ l, I64 x
theorem pick3 {B q : Nat} {z : World} {T : TypeId} {s1 s2 s3 : Value} {l1 l2 l3 : List Int} (h1 : ON B z s1 l1) (h2 : ON B z s2 l2) (h3 : ON B z s3 l3) (hq : O1 T B z (.slice (some ⟨q, 0, none⟩) 3 3) [s1, s2, s3])
    (n1 : l1.length ≤ 4) (n2 : l2.length ≤ 4) (n3 : l3.length ≤ 4) (i1 : I64s l1) (i2 : I64s l2) (i3 : I64s l3) {m : Nat} (hm : m < 3) : ∃ a n c gs, z.cell? ⟨q, m, none⟩ = some (.slice a n c) ∧ gs.length = n ∧ ON B z (.slice a n c) gs ∧ n ≤ 4 ∧ I64s gs := by
  have key : ∀ (s : Value) (l : List Int), [s1, s2, s3][m]? = some s → ON B z s l → l.length ≤ 4 → I64s l → ∃ a n c gs, z.cell? ⟨q, m, none⟩ = some (.slice a n c) ∧ gs.length = n ∧ ON B z (.slice a n c) gs ∧ n ≤ 4 ∧ I64s gs := fun s l hs ho hn hi => by
    obtain ⟨a, c, rfl, hv⟩ := ho.form
    obtain ⟨g, o, e, -, hc⟩ := hq.vw.cell hs
    cases e
    rw [Nat.zero_add] at hc
    exact ⟨a, _, c, l, hc, rfl, ho, hn, hi⟩
  match m, hm with
  | 0, _ => exact key s1 l1 rfl h1 n1 i1
  | 1, _ => exact key s2 l2 rfl h2 n2 i2
  | 2, _ => exact key s3 l3 rfl h3 n3 i3
def DrawsG (B b : Nat) (w : World) (e : Ending) (w' : World) : Prop := ∃ (a : Option Addr) (n c : Nat) (gs : List Int), e = .returned (.slice a n c) ∧ gs.length = n ∧ ON w.heap.size w' (.slice a n c) gs ∧ n ≤ 4 ∧ I64s gs ∧ Cur B b w' ∧ But b w w'
set_option maxHeartbeats 16000000 in
set_option maxRecDepth 100000 in
theorem drawGiven_any (B b : Nat) (w : World) (hc : Cur B b w) : Calls Tryz.prog 44 #[.pointer (some ⟨b, 0, none⟩)] w (DrawsG B b w) := by
  have hlt := hc.lt
  have HS0 := Lib.hid (⟨But.refl b w, hc, hlt⟩ : St w B b w); clear hc
  go_enter Tryz.func44, Tryz.ntmps44
  go_wp2_with fail
  refine (drawWord_any B b _ HS0.out.cur).mono ?_; rintro e w1 ⟨v0, rfl, v00, v01, hc1, hw1⟩
  have HS1 := Lib.hid (HS0.out.draws hw1 hc1); clear hw1 hc1 HS0
  go_wp2_with fail
  refine (drawWord_any B b _ HS1.out.cur).mono ?_; rintro e w2 ⟨v1, rfl, v10, v11, hc2, hw2⟩
  have HS2 := Lib.hid (HS1.out.draws hw2 hc2); clear hw2 hc2 HS1
  go_wp2_with fail
  refine (drawWord_any B b _ HS2.out.cur).mono ?_; rintro e w3 ⟨v2, rfl, v20, v21, hc3, hw3⟩
  have HS3 := Lib.hid (HS2.out.draws hw3 hc3); clear hw3 hc3 HS2
  have HG := Lib.hid (litN (B := w.heap.size) w3 [v0, v1, v2] HS3.out.size (by simp))
  have HS4 := Lib.hid (HS3.out.alloc (.cells #[.int .i64 v0, .int .i64 v1, .int .i64 v2] 2))
  have HI := Lib.hid (show I64s [v0, v1, v2] from fun x hx => by simp at hx; rcases hx with rfl | rfl | rfl <;> exact ⟨by omega, by omega⟩)
  have HGG := Lib.hid (show w.heap.size ≤ w3.heap.size from HS3.out.size)
  go_wp2_with fail
  refine (once_any B b _ _ HS4.out.cur (by decide) (by decide)).mono ?_; rintro e w5 ⟨tb, rfl, hc5, hw5⟩
  have HG5 := Lib.hid (HG.out.but hw5 hlt)
  have HS5 := Lib.hid (HS4.out.draws hw5 hc5); clear hw5 hc5 HS3 HS4 HG
  clear v00 v01 v10 v11 v20 v21
  generalize w3.heap.size = G at *
  generalize hgl : [v0, v1, v2] = gl at *
  have HL3 := Lib.hid (show gl.length = 3 by rw [← hgl]; rfl)
  have HG6 := Lib.hid (show ON w.heap.size w5 (.slice (some ⟨G, 0, none⟩) 3 3) gl from by have := HG5.out; rw [HL3.out] at this; exact this)
  clear HG5 hgl
  cases tb
  · have HF := Lib.hid HG6.out
    go_wp2_with fail
    go_ret
    exact ⟨_, _, _, gl, rfl, HL3.out, HF.out, by decide, HI.out, HS5.out.cur, HS5.out.but⟩
  · have hcut : ∀ w, (Instr.slice 26 (.slice (some ⟨G, 0, none⟩) 3 3) none (some (.int .i64 2)) none).run Tryz.prog w = .ok (.slice (some ⟨G, 0, none⟩) 2 3) w := fun w => cut1_to 26 (by kernel_rfl) (fun w => by exact Tryz.sizeOf2 w) (some ⟨G, 0, none⟩) 3 3 2 (by omega) (by omega) w
    have HSd := Lib.hid (show St w B b w5.drew from HS5.out.drew)
    have HGd := Lib.hid (show ON w.heap.size w5.drew (.slice (some ⟨G, 0, none⟩) 3 3) gl from HG6.out)
    clear HS5 HG6
    go_wp2_with fail
    refine wp_region_held_drew (S := fun z => True) (by kernel_rfl) trivial (fun hHeld => ?_)
    refine tkI (i := 0) (v := ?v0t) rfl (Or.inl ⟨by rfl, ?hy0t⟩) ?rest0t
    case hy0t => (intro zz hSw; (try dsimp only at hSw); go_simp; (try with_reducible rfl))
    change wpAnyH _ _ _ _ _ _ _ (Act.put _ (some 13) _) _
    simp only [Act.put, List.setIfInBounds_toArray, List.set_cons_zero, List.set_cons_succ]
    refine tkI (i := 1) (v := ?v1t) rfl (Or.inl ⟨by rfl, ?hy1t⟩) ?rest1t
    case hy1t => (intro zz hSw; (try dsimp only at hSw); go_simp; (try with_reducible rfl))
    change wpAnyH _ _ _ _ _ _ _ (Act.put _ (some 14) _) _
    simp only [Act.put, List.setIfInBounds_toArray, List.set_cons_zero, List.set_cons_succ]
    refine tkI (i := 2) (v := ?v2t) rfl (Or.inl ⟨by rfl, ?hy2t⟩) ?rest2t
    case hy2t => (intro zz hSw; (try dsimp only at hSw); go_simp; (try with_reducible rfl))
    change wpAnyH _ _ _ _ _ _ _ (Act.put _ (some 15) _) _
    simp only [Act.put, List.setIfInBounds_toArray, List.set_cons_zero, List.set_cons_succ]
    refine tkI (i := 7) (v := ?v7t) rfl (Or.inl ⟨by rfl, ?hy7t⟩) ?rest7t
    case hy7t => (intro zz hSw; (try dsimp only at hSw); go_simp; (try with_reducible rfl))
    change wpAnyH _ _ _ _ _ _ _ (Act.put _ (some 20) _) _
    simp only [Act.put, List.setIfInBounds_toArray, List.set_cons_zero, List.set_cons_succ]
    refine wpAnyH_ready (rs := [3, 5]) (by kernel_rfl) (by simp) (AllReadyH.cons rfl (fun K hK => ?_) (AllReadyH.cons rfl (fun K hK => ?_) (AllReadyH.nil)))
    · skip
      generalize w5.drew = z0 at *
      have hbl1 := bel1 z0 (.cells #[.int .i64 1] 2)
      have Hn1 := Lib.hid (show ON w.heap.size (z0.alloc (.cells #[.int .i64 1] 2)) (.slice (some ⟨z0.heap.size, 0, none⟩) 1 1) [1] from litN (B := w.heap.size) z0 [1] HSd.out.size (by simp))
      have Hg1 := Lib.hid (HGd.out.next hbl1)
      have HS1 := Lib.hid (HSd.out.alloc (.cells #[.int .i64 1] 2))
      have hb_1 : z0.heap.size = z0.heap.size := rfl
      go_simp
      refine hK.out _ _ trivial (fun hHeld => ?_)
      clear hK K hbl1 hb_1
      generalize z0.alloc (.cells #[.int .i64 1] 2) = z1 at *
      refine wpAnyH_ready (rs := [4, 5]) (by kernel_rfl) (by simp) (AllReadyH.cons rfl (fun K hK => ?_) (AllReadyH.cons rfl (fun K hK => ?_) (AllReadyH.nil)))
      · skip
        refine step_append_fullN rfl (.tmp 15) (.tmp 16) rfl (l := gl) (m := [1]) rfl rfl HL3.out Hg1.out.vw rfl Hn1.out.vw (by decide) (by decide) ?_
        intro v2 z2 o2 b2
        obtain ⟨a2, c2, e2, -⟩ := o2.form
        subst e2
        have Hn2 := Lib.hid (ON.mono o2 HS1.out.size)
        have HS2 := Lib.hid (st_belowT HS1.out b2)
        have Hg2 := Lib.hid (Hg1.out.next b2)
        have Ho2 := Lib.hid (Hn1.out.next b2)
        have hal2 : (gl ++ [1]).length = 4 := by rw [List.length_append, HL3.out]; rfl
        rw [hal2] at Hn2
        clear o2 b2
        refine hK.out _ _ trivial (fun hHeld => ?_)
        clear hK K
        change wpAnyH _ _ _ _ _ _ _ (Act.put _ (some 17) _) _
        simp only [Act.put, List.setIfInBounds_toArray, List.set_cons_zero, List.set_cons_succ]
        rw [hal2]
        refine wpAnyH_ready (rs := [5, 8]) (by kernel_rfl) (by simp) (AllReadyH.cons rfl (fun K hK => ?_) (AllReadyH.cons rfl (fun K hK => ?_) (AllReadyH.nil)))
        · skip
          have hbl3 := bel1 z2 (.cells #[.int .i64 1, .int .i64 2, .int .i64 1099511627776] 2)
          have Hn3 := Lib.hid (show ON w.heap.size (z2.alloc (.cells #[.int .i64 1, .int .i64 2, .int .i64 1099511627776] 2)) (.slice (some ⟨z2.heap.size, 0, none⟩) 3 3) [1, 2, 1099511627776] from litN (B := w.heap.size) z2 [1, 2, 1099511627776] HS2.out.size (by simp))
          have Hg3 := Lib.hid (Hg2.out.next hbl3)
          have Ho3 := Lib.hid (Ho2.out.next hbl3)
          have Ha3 := Lib.hid (Hn2.out.next hbl3)
          have HS3 := Lib.hid (HS2.out.alloc (.cells #[.int .i64 1, .int .i64 2, .int .i64 1099511627776] 2))
          have hb_3 : z2.heap.size = z2.heap.size := rfl
          go_simp
          refine hK.out _ _ trivial (fun hHeld => ?_)
          clear hK K hbl3 hb_3
          generalize z2.alloc (.cells #[.int .i64 1, .int .i64 2, .int .i64 1099511627776] 2) = z3 at *
          refine wpAnyH_ready (rs := [6, 8]) (by kernel_rfl) (by simp) (AllReadyH.cons rfl (fun K hK => ?_) (AllReadyH.cons rfl (fun K hK => ?_) (AllReadyH.nil)))
          · skip
            have hbl4 := bel1 z3 (.cells #[.slice (some ⟨G, 0, none⟩) 2 3, .slice a2 4 c2, .slice (some ⟨z2.heap.size, 0, none⟩) 3 3] 26)
            have Hn4 := Lib.hid (show O1 26 w.heap.size (z3.alloc (.cells #[.slice (some ⟨G, 0, none⟩) 2 3, .slice a2 4 c2, .slice (some ⟨z2.heap.size, 0, none⟩) 3 3] 26)) (.slice (some ⟨z3.heap.size, 0, none⟩) 3 3) [.slice (some ⟨G, 0, none⟩) 2 3, .slice a2 4 c2, .slice (some ⟨z2.heap.size, 0, none⟩) 3 3] from O1.lit (T := 26) HS3.out.size #[.slice (some ⟨G, 0, none⟩) 2 3, .slice a2 4 c2, .slice (some ⟨z2.heap.size, 0, none⟩) 3 3] (by unfold maxLen; simp))
            have Hg4 := Lib.hid (Hg3.out.next hbl4)
            have Ho4 := Lib.hid (Ho3.out.next hbl4)
            have Ha4 := Lib.hid (Ha3.out.next hbl4)
            have Ht4 := Lib.hid (Hn3.out.next hbl4)
            have HS4 := Lib.hid (HS3.out.alloc (.cells #[.slice (some ⟨G, 0, none⟩) 2 3, .slice a2 4 c2, .slice (some ⟨z2.heap.size, 0, none⟩) 3 3] 26))
            have hb_4 : z3.heap.size = z3.heap.size := rfl
            go_simp
            refine hK.out _ _ trivial (fun hHeld => ?_)
            clear hK K hbl4 hb_4
            generalize z3.alloc (.cells #[.slice (some ⟨G, 0, none⟩) 2 3, .slice a2 4 c2, .slice (some ⟨z2.heap.size, 0, none⟩) 3 3] 26) = z4 at *
            refine wpAnyH_ready (rs := [8]) (by kernel_rfl) (by simp) (AllReadyH.cons rfl (fun K hK => ?_) (AllReadyH.nil))
            go_simp
            refine (below_any B b _ _ HS4.out.cur (by decide) (by decide)).mono ?_; rintro e z5 ⟨y, rfl, y0, y1, hc5, hw5⟩
            obtain ⟨m, rfl⟩ := Int.eq_ofNat_of_zero_le y0
            have hm3 : m < 3 := by omega
            have hmi : (m : Int) < 3 := by omega
            have HS5 := Lib.hid (HS4.out.draws hw5 hc5)
            have Hg5 := Lib.hid (Hg4.out.but hw5 hlt)
            have Ho5 := Lib.hid (Ho4.out.but hw5 hlt)
            have Ha5 := Lib.hid (Ha4.out.but hw5 hlt)
            have Ht5 := Lib.hid (Ht4.out.but hw5 hlt)
            have Hq5 := Lib.hid (Hn4.out.but hw5 hlt)
            clear hw5 hc5
            refine hK.out _ _ trivial (fun hHeld => ?_)
            clear hK K
            refine tkI (i := 9) (v := ?v9txxxx) rfl (Or.inl ⟨by rfl, ?hy9txxxx⟩) ?rest9txxxx
            case hy9txxxx => (intro zz hSw; (try dsimp only at hSw); go_simp; (try with_reducible rfl))
            change wpAnyH _ _ _ _ _ _ _ (Act.put _ (some 22) _) _
            simp only [Act.put, List.setIfInBounds_toArray, List.set_cons_zero, List.set_cons_succ]
            refine wpAnyH_ready (rs := [10]) (by kernel_rfl) (by simp) (AllReadyH.cons rfl (fun K hK => ?_) (AllReadyH.nil))
            obtain ⟨pa, pn, pc, gs, hcell, hgn, hgv, hg4, hgi⟩ := pick3 (ON.cut Hg5.out HL3.out (k := 2) (by omega)) Ha5.out Ht5.out Hq5.out (by rw [List.length_take, HL3.out]; decide) (by rw [List.length_append, HL3.out]; decide) (by decide) (fun x hx => HI.out x (List.mem_of_mem_take hx)) (fun x hx => by
                rcases List.mem_append.1 hx with h | h
                · exact HI.out x h
                · simp at h; subst h; exact ⟨by decide, by decide⟩) (fun x hx => by simp at hx; rcases hx with rfl | rfl | rfl <;> exact ⟨by decide, by decide⟩) hm3
            go_simp
            refine hK.out _ _ trivial (fun hHeld => ?_)
            clear hK K
            refine tkI (i := 11) (v := ?v11txxxx) rfl (Or.inl ⟨by rfl, ?hy11txxxx⟩) ?rest11txxxx
            case hy11txxxx => (intro zz hSw; (try dsimp only at hSw); go_simp; (try with_reducible rfl))
            change wpAnyH _ _ _ _ _ _ _ (Act.put _ (some 2) _) _
            simp only [Act.put, List.setIfInBounds_toArray, List.set_cons_zero, List.set_cons_succ]
            refine wpAnyH_done (by kernel_rfl) ?_ _
            go_wp2_with fail
            go_ret
            exact ⟨_, _, _, gs, rfl, hgn, hgv, hg4, hgi, HS5.out.cur, HS5.out.but⟩
          · skip
            go_simp
            refine (below_any B b _ _ HS3.out.cur (by decide) (by decide)).mono ?_; rintro e z7 ⟨y, rfl, y0, y1, hc7, hw7⟩
            obtain ⟨m, rfl⟩ := Int.eq_ofNat_of_zero_le y0
            have hm3 : m < 3 := by omega
            have hmi : (m : Int) < 3 := by omega
            have HS7 := Lib.hid (HS3.out.draws hw7 hc7)
            have Hg7 := Lib.hid (Hg3.out.but hw7 hlt)
            have Ho7 := Lib.hid (Ho3.out.but hw7 hlt)
            have Ha7 := Lib.hid (Ha3.out.but hw7 hlt)
            have Ht7 := Lib.hid (Hn3.out.but hw7 hlt)
            clear hw7 hc7
            refine hK.out _ _ trivial (fun hHeld => ?_)
            clear hK K
            refine wpAnyH_ready (rs := [6]) (by kernel_rfl) (by simp) (AllReadyH.cons rfl (fun K hK => ?_) (AllReadyH.nil))
            have hbl8 := bel1 z7 (.cells #[.slice (some ⟨G, 0, none⟩) 2 3, .slice a2 4 c2, .slice (some ⟨z2.heap.size, 0, none⟩) 3 3] 26)
            have Hn8 := Lib.hid (show O1 26 w.heap.size (z7.alloc (.cells #[.slice (some ⟨G, 0, none⟩) 2 3, .slice a2 4 c2, .slice (some ⟨z2.heap.size, 0, none⟩) 3 3] 26)) (.slice (some ⟨z7.heap.size, 0, none⟩) 3 3) [.slice (some ⟨G, 0, none⟩) 2 3, .slice a2 4 c2, .slice (some ⟨z2.heap.size, 0, none⟩) 3 3] from O1.lit (T := 26) HS7.out.size #[.slice (some ⟨G, 0, none⟩) 2 3, .slice a2 4 c2, .slice (some ⟨z2.heap.size, 0, none⟩) 3 3] (by unfold maxLen; simp))
            have Hg8 := Lib.hid (Hg7.out.next hbl8)
            have Ho8 := Lib.hid (Ho7.out.next hbl8)
            have Ha8 := Lib.hid (Ha7.out.next hbl8)
            have Ht8 := Lib.hid (Ht7.out.next hbl8)
            have HS8 := Lib.hid (HS7.out.alloc (.cells #[.slice (some ⟨G, 0, none⟩) 2 3, .slice a2 4 c2, .slice (some ⟨z2.heap.size, 0, none⟩) 3 3] 26))
            have hb_8 : z7.heap.size = z7.heap.size := rfl
            go_simp
            refine hK.out _ _ trivial (fun hHeld => ?_)
            clear hK K hbl8 hb_8
            generalize z7.alloc (.cells #[.slice (some ⟨G, 0, none⟩) 2 3, .slice a2 4 c2, .slice (some ⟨z2.heap.size, 0, none⟩) 3 3] 26) = z8 at *
            refine tkI (i := 9) (v := ?v9txxxy) rfl (Or.inl ⟨by rfl, ?hy9txxxy⟩) ?rest9txxxy
            case hy9txxxy => (intro zz hSw; (try dsimp only at hSw); go_simp; (try with_reducible rfl))
            change wpAnyH _ _ _ _ _ _ _ (Act.put _ (some 22) _) _
            simp only [Act.put, List.setIfInBounds_toArray, List.set_cons_zero, List.set_cons_succ]
            refine wpAnyH_ready (rs := [10]) (by kernel_rfl) (by simp) (AllReadyH.cons rfl (fun K hK => ?_) (AllReadyH.nil))
            obtain ⟨pa, pn, pc, gs, hcell, hgn, hgv, hg4, hgi⟩ := pick3 (ON.cut Hg8.out HL3.out (k := 2) (by omega)) Ha8.out Ht8.out Hn8.out (by rw [List.length_take, HL3.out]; decide) (by rw [List.length_append, HL3.out]; decide) (by decide) (fun x hx => HI.out x (List.mem_of_mem_take hx)) (fun x hx => by
                rcases List.mem_append.1 hx with h | h
                · exact HI.out x h
                · simp at h; subst h; exact ⟨by decide, by decide⟩) (fun x hx => by simp at hx; rcases hx with rfl | rfl | rfl <;> exact ⟨by decide, by decide⟩) hm3
            go_simp
            refine hK.out _ _ trivial (fun hHeld => ?_)
            clear hK K
            refine tkI (i := 11) (v := ?v11txxxy) rfl (Or.inl ⟨by rfl, ?hy11txxxy⟩) ?rest11txxxy
            case hy11txxxy => (intro zz hSw; (try dsimp only at hSw); go_simp; (try with_reducible rfl))
            change wpAnyH _ _ _ _ _ _ _ (Act.put _ (some 2) _) _
            simp only [Act.put, List.setIfInBounds_toArray, List.set_cons_zero, List.set_cons_succ]
            refine wpAnyH_done (by kernel_rfl) ?_ _
            go_wp2_with fail
            go_ret
            exact ⟨_, _, _, gs, rfl, hgn, hgv, hg4, hgi, HS8.out.cur, HS8.out.but⟩
        · skip
          go_simp
          refine (below_any B b _ _ HS2.out.cur (by decide) (by decide)).mono ?_; rintro e z10 ⟨y, rfl, y0, y1, hc10, hw10⟩
          obtain ⟨m, rfl⟩ := Int.eq_ofNat_of_zero_le y0
          have hm3 : m < 3 := by omega
          have hmi : (m : Int) < 3 := by omega
          have HS10 := Lib.hid (HS2.out.draws hw10 hc10)
          have Hg10 := Lib.hid (Hg2.out.but hw10 hlt)
          have Ho10 := Lib.hid (Ho2.out.but hw10 hlt)
          have Ha10 := Lib.hid (Hn2.out.but hw10 hlt)
          clear hw10 hc10
          refine hK.out _ _ trivial (fun hHeld => ?_)
          clear hK K
          refine wpAnyH_ready (rs := [5]) (by kernel_rfl) (by simp) (AllReadyH.cons rfl (fun K hK => ?_) (AllReadyH.nil))
          have hbl11 := bel1 z10 (.cells #[.int .i64 1, .int .i64 2, .int .i64 1099511627776] 2)
          have Hn11 := Lib.hid (show ON w.heap.size (z10.alloc (.cells #[.int .i64 1, .int .i64 2, .int .i64 1099511627776] 2)) (.slice (some ⟨z10.heap.size, 0, none⟩) 3 3) [1, 2, 1099511627776] from litN (B := w.heap.size) z10 [1, 2, 1099511627776] HS10.out.size (by simp))
          have Hg11 := Lib.hid (Hg10.out.next hbl11)
          have Ho11 := Lib.hid (Ho10.out.next hbl11)
          have Ha11 := Lib.hid (Ha10.out.next hbl11)
          have HS11 := Lib.hid (HS10.out.alloc (.cells #[.int .i64 1, .int .i64 2, .int .i64 1099511627776] 2))
          have hb_11 : z10.heap.size = z10.heap.size := rfl
          go_simp
          refine hK.out _ _ trivial (fun hHeld => ?_)
          clear hK K hbl11 hb_11
          generalize z10.alloc (.cells #[.int .i64 1, .int .i64 2, .int .i64 1099511627776] 2) = z11 at *
          refine wpAnyH_ready (rs := [6]) (by kernel_rfl) (by simp) (AllReadyH.cons rfl (fun K hK => ?_) (AllReadyH.nil))
          have hbl12 := bel1 z11 (.cells #[.slice (some ⟨G, 0, none⟩) 2 3, .slice a2 4 c2, .slice (some ⟨z10.heap.size, 0, none⟩) 3 3] 26)
          have Hn12 := Lib.hid (show O1 26 w.heap.size (z11.alloc (.cells #[.slice (some ⟨G, 0, none⟩) 2 3, .slice a2 4 c2, .slice (some ⟨z10.heap.size, 0, none⟩) 3 3] 26)) (.slice (some ⟨z11.heap.size, 0, none⟩) 3 3) [.slice (some ⟨G, 0, none⟩) 2 3, .slice a2 4 c2, .slice (some ⟨z10.heap.size, 0, none⟩) 3 3] from O1.lit (T := 26) HS11.out.size #[.slice (some ⟨G, 0, none⟩) 2 3, .slice a2 4 c2, .slice (some ⟨z10.heap.size, 0, none⟩) 3 3] (by unfold maxLen; simp))
          have Hg12 := Lib.hid (Hg11.out.next hbl12)
          have Ho12 := Lib.hid (Ho11.out.next hbl12)
          have Ha12 := Lib.hid (Ha11.out.next hbl12)
          have Ht12 := Lib.hid (Hn11.out.next hbl12)
          have HS12 := Lib.hid (HS11.out.alloc (.cells #[.slice (some ⟨G, 0, none⟩) 2 3, .slice a2 4 c2, .slice (some ⟨z10.heap.size, 0, none⟩) 3 3] 26))
          have hb_12 : z11.heap.size = z11.heap.size := rfl
          go_simp
          refine hK.out _ _ trivial (fun hHeld => ?_)
          clear hK K hbl12 hb_12
          generalize z11.alloc (.cells #[.slice (some ⟨G, 0, none⟩) 2 3, .slice a2 4 c2, .slice (some ⟨z10.heap.size, 0, none⟩) 3 3] 26) = z12 at *
          refine tkI (i := 9) (v := ?v9txxy) rfl (Or.inl ⟨by rfl, ?hy9txxy⟩) ?rest9txxy
          case hy9txxy => (intro zz hSw; (try dsimp only at hSw); go_simp; (try with_reducible rfl))
          change wpAnyH _ _ _ _ _ _ _ (Act.put _ (some 22) _) _
          simp only [Act.put, List.setIfInBounds_toArray, List.set_cons_zero, List.set_cons_succ]
          refine wpAnyH_ready (rs := [10]) (by kernel_rfl) (by simp) (AllReadyH.cons rfl (fun K hK => ?_) (AllReadyH.nil))
          obtain ⟨pa, pn, pc, gs, hcell, hgn, hgv, hg4, hgi⟩ := pick3 (ON.cut Hg12.out HL3.out (k := 2) (by omega)) Ha12.out Ht12.out Hn12.out (by rw [List.length_take, HL3.out]; decide) (by rw [List.length_append, HL3.out]; decide) (by decide) (fun x hx => HI.out x (List.mem_of_mem_take hx)) (fun x hx => by
              rcases List.mem_append.1 hx with h | h
              · exact HI.out x h
              · simp at h; subst h; exact ⟨by decide, by decide⟩) (fun x hx => by simp at hx; rcases hx with rfl | rfl | rfl <;> exact ⟨by decide, by decide⟩) hm3
          go_simp
          refine hK.out _ _ trivial (fun hHeld => ?_)
          clear hK K
          refine tkI (i := 11) (v := ?v11txxy) rfl (Or.inl ⟨by rfl, ?hy11txxy⟩) ?rest11txxy
          case hy11txxy => (intro zz hSw; (try dsimp only at hSw); go_simp; (try with_reducible rfl))
          change wpAnyH _ _ _ _ _ _ _ (Act.put _ (some 2) _) _
          simp only [Act.put, List.setIfInBounds_toArray, List.set_cons_zero, List.set_cons_succ]
          refine wpAnyH_done (by kernel_rfl) ?_ _
          go_wp2_with fail
          go_ret
          exact ⟨_, _, _, gs, rfl, hgn, hgv, hg4, hgi, HS12.out.cur, HS12.out.but⟩
      · skip
        have hbl14 := bel1 z1 (.cells #[.int .i64 1, .int .i64 2, .int .i64 1099511627776] 2)
        have Hn14 := Lib.hid (show ON w.heap.size (z1.alloc (.cells #[.int .i64 1, .int .i64 2, .int .i64 1099511627776] 2)) (.slice (some ⟨z1.heap.size, 0, none⟩) 3 3) [1, 2, 1099511627776] from litN (B := w.heap.size) z1 [1, 2, 1099511627776] HS1.out.size (by simp))
        have Hg14 := Lib.hid (Hg1.out.next hbl14)
        have Ho14 := Lib.hid (Hn1.out.next hbl14)
        have HS14 := Lib.hid (HS1.out.alloc (.cells #[.int .i64 1, .int .i64 2, .int .i64 1099511627776] 2))
        have hb_14 : z1.heap.size = z1.heap.size := rfl
        go_simp
        refine hK.out _ _ trivial (fun hHeld => ?_)
        clear hK K hbl14 hb_14
        generalize z1.alloc (.cells #[.int .i64 1, .int .i64 2, .int .i64 1099511627776] 2) = z14 at *
        refine wpAnyH_ready (rs := [4]) (by kernel_rfl) (by simp) (AllReadyH.cons rfl (fun K hK => ?_) (AllReadyH.nil))
        refine step_append_fullN rfl (.tmp 15) (.tmp 16) rfl (l := gl) (m := [1]) rfl rfl HL3.out Hg14.out.vw rfl Ho14.out.vw (by decide) (by decide) ?_
        intro v15 z15 o15 b15
        obtain ⟨a15, c15, e15, -⟩ := o15.form
        subst e15
        have Hn15 := Lib.hid (ON.mono o15 HS14.out.size)
        have HS15 := Lib.hid (st_belowT HS14.out b15)
        have Hg15 := Lib.hid (Hg14.out.next b15)
        have Ho15 := Lib.hid (Ho14.out.next b15)
        have Ht15 := Lib.hid (Hn14.out.next b15)
        have hal15 : (gl ++ [1]).length = 4 := by rw [List.length_append, HL3.out]; rfl
        rw [hal15] at Hn15
        clear o15 b15
        refine hK.out _ _ trivial (fun hHeld => ?_)
        clear hK K
        change wpAnyH _ _ _ _ _ _ _ (Act.put _ (some 17) _) _
        simp only [Act.put, List.setIfInBounds_toArray, List.set_cons_zero, List.set_cons_succ]
        rw [hal15]
        refine wpAnyH_ready (rs := [6, 8]) (by kernel_rfl) (by simp) (AllReadyH.cons rfl (fun K hK => ?_) (AllReadyH.cons rfl (fun K hK => ?_) (AllReadyH.nil)))
        · skip
          have hbl16 := bel1 z15 (.cells #[.slice (some ⟨G, 0, none⟩) 2 3, .slice a15 4 c15, .slice (some ⟨z1.heap.size, 0, none⟩) 3 3] 26)
          have Hn16 := Lib.hid (show O1 26 w.heap.size (z15.alloc (.cells #[.slice (some ⟨G, 0, none⟩) 2 3, .slice a15 4 c15, .slice (some ⟨z1.heap.size, 0, none⟩) 3 3] 26)) (.slice (some ⟨z15.heap.size, 0, none⟩) 3 3) [.slice (some ⟨G, 0, none⟩) 2 3, .slice a15 4 c15, .slice (some ⟨z1.heap.size, 0, none⟩) 3 3] from O1.lit (T := 26) HS15.out.size #[.slice (some ⟨G, 0, none⟩) 2 3, .slice a15 4 c15, .slice (some ⟨z1.heap.size, 0, none⟩) 3 3] (by unfold maxLen; simp))
          have Hg16 := Lib.hid (Hg15.out.next hbl16)
          have Ho16 := Lib.hid (Ho15.out.next hbl16)
          have Ha16 := Lib.hid (Hn15.out.next hbl16)
          have Ht16 := Lib.hid (Ht15.out.next hbl16)
          have HS16 := Lib.hid (HS15.out.alloc (.cells #[.slice (some ⟨G, 0, none⟩) 2 3, .slice a15 4 c15, .slice (some ⟨z1.heap.size, 0, none⟩) 3 3] 26))
          have hb_16 : z15.heap.size = z15.heap.size := rfl
          go_simp
          refine hK.out _ _ trivial (fun hHeld => ?_)
          clear hK K hbl16 hb_16
          generalize z15.alloc (.cells #[.slice (some ⟨G, 0, none⟩) 2 3, .slice a15 4 c15, .slice (some ⟨z1.heap.size, 0, none⟩) 3 3] 26) = z16 at *
          refine wpAnyH_ready (rs := [8]) (by kernel_rfl) (by simp) (AllReadyH.cons rfl (fun K hK => ?_) (AllReadyH.nil))
          go_simp
          refine (below_any B b _ _ HS16.out.cur (by decide) (by decide)).mono ?_; rintro e z17 ⟨y, rfl, y0, y1, hc17, hw17⟩
          obtain ⟨m, rfl⟩ := Int.eq_ofNat_of_zero_le y0
          have hm3 : m < 3 := by omega
          have hmi : (m : Int) < 3 := by omega
          have HS17 := Lib.hid (HS16.out.draws hw17 hc17)
          have Hg17 := Lib.hid (Hg16.out.but hw17 hlt)
          have Ho17 := Lib.hid (Ho16.out.but hw17 hlt)
          have Ha17 := Lib.hid (Ha16.out.but hw17 hlt)
          have Ht17 := Lib.hid (Ht16.out.but hw17 hlt)
          have Hq17 := Lib.hid (Hn16.out.but hw17 hlt)
          clear hw17 hc17
          refine hK.out _ _ trivial (fun hHeld => ?_)
          clear hK K
          refine tkI (i := 9) (v := ?v9txyx) rfl (Or.inl ⟨by rfl, ?hy9txyx⟩) ?rest9txyx
          case hy9txyx => (intro zz hSw; (try dsimp only at hSw); go_simp; (try with_reducible rfl))
          change wpAnyH _ _ _ _ _ _ _ (Act.put _ (some 22) _) _
          simp only [Act.put, List.setIfInBounds_toArray, List.set_cons_zero, List.set_cons_succ]
          refine wpAnyH_ready (rs := [10]) (by kernel_rfl) (by simp) (AllReadyH.cons rfl (fun K hK => ?_) (AllReadyH.nil))
          obtain ⟨pa, pn, pc, gs, hcell, hgn, hgv, hg4, hgi⟩ := pick3 (ON.cut Hg17.out HL3.out (k := 2) (by omega)) Ha17.out Ht17.out Hq17.out (by rw [List.length_take, HL3.out]; decide) (by rw [List.length_append, HL3.out]; decide) (by decide) (fun x hx => HI.out x (List.mem_of_mem_take hx)) (fun x hx => by
              rcases List.mem_append.1 hx with h | h
              · exact HI.out x h
              · simp at h; subst h; exact ⟨by decide, by decide⟩) (fun x hx => by simp at hx; rcases hx with rfl | rfl | rfl <;> exact ⟨by decide, by decide⟩) hm3
          go_simp
          refine hK.out _ _ trivial (fun hHeld => ?_)
          clear hK K
          refine tkI (i := 11) (v := ?v11txyx) rfl (Or.inl ⟨by rfl, ?hy11txyx⟩) ?rest11txyx
          case hy11txyx => (intro zz hSw; (try dsimp only at hSw); go_simp; (try with_reducible rfl))
          change wpAnyH _ _ _ _ _ _ _ (Act.put _ (some 2) _) _
          simp only [Act.put, List.setIfInBounds_toArray, List.set_cons_zero, List.set_cons_succ]
          refine wpAnyH_done (by kernel_rfl) ?_ _
          go_wp2_with fail
          go_ret
          exact ⟨_, _, _, gs, rfl, hgn, hgv, hg4, hgi, HS17.out.cur, HS17.out.but⟩
        · skip
          go_simp
          refine (below_any B b _ _ HS15.out.cur (by decide) (by decide)).mono ?_; rintro e z19 ⟨y, rfl, y0, y1, hc19, hw19⟩
          obtain ⟨m, rfl⟩ := Int.eq_ofNat_of_zero_le y0
          have hm3 : m < 3 := by omega
          have hmi : (m : Int) < 3 := by omega
          have HS19 := Lib.hid (HS15.out.draws hw19 hc19)
          have Hg19 := Lib.hid (Hg15.out.but hw19 hlt)
          have Ho19 := Lib.hid (Ho15.out.but hw19 hlt)
          have Ha19 := Lib.hid (Hn15.out.but hw19 hlt)
          have Ht19 := Lib.hid (Ht15.out.but hw19 hlt)
          clear hw19 hc19
          refine hK.out _ _ trivial (fun hHeld => ?_)
          clear hK K
          refine wpAnyH_ready (rs := [6]) (by kernel_rfl) (by simp) (AllReadyH.cons rfl (fun K hK => ?_) (AllReadyH.nil))
          have hbl20 := bel1 z19 (.cells #[.slice (some ⟨G, 0, none⟩) 2 3, .slice a15 4 c15, .slice (some ⟨z1.heap.size, 0, none⟩) 3 3] 26)
          have Hn20 := Lib.hid (show O1 26 w.heap.size (z19.alloc (.cells #[.slice (some ⟨G, 0, none⟩) 2 3, .slice a15 4 c15, .slice (some ⟨z1.heap.size, 0, none⟩) 3 3] 26)) (.slice (some ⟨z19.heap.size, 0, none⟩) 3 3) [.slice (some ⟨G, 0, none⟩) 2 3, .slice a15 4 c15, .slice (some ⟨z1.heap.size, 0, none⟩) 3 3] from O1.lit (T := 26) HS19.out.size #[.slice (some ⟨G, 0, none⟩) 2 3, .slice a15 4 c15, .slice (some ⟨z1.heap.size, 0, none⟩) 3 3] (by unfold maxLen; simp))
          have Hg20 := Lib.hid (Hg19.out.next hbl20)
          have Ho20 := Lib.hid (Ho19.out.next hbl20)
          have Ha20 := Lib.hid (Ha19.out.next hbl20)
          have Ht20 := Lib.hid (Ht19.out.next hbl20)
          have HS20 := Lib.hid (HS19.out.alloc (.cells #[.slice (some ⟨G, 0, none⟩) 2 3, .slice a15 4 c15, .slice (some ⟨z1.heap.size, 0, none⟩) 3 3] 26))
          have hb_20 : z19.heap.size = z19.heap.size := rfl
          go_simp
          refine hK.out _ _ trivial (fun hHeld => ?_)
          clear hK K hbl20 hb_20
          generalize z19.alloc (.cells #[.slice (some ⟨G, 0, none⟩) 2 3, .slice a15 4 c15, .slice (some ⟨z1.heap.size, 0, none⟩) 3 3] 26) = z20 at *
          refine tkI (i := 9) (v := ?v9txyy) rfl (Or.inl ⟨by rfl, ?hy9txyy⟩) ?rest9txyy
          case hy9txyy => (intro zz hSw; (try dsimp only at hSw); go_simp; (try with_reducible rfl))
          change wpAnyH _ _ _ _ _ _ _ (Act.put _ (some 22) _) _
          simp only [Act.put, List.setIfInBounds_toArray, List.set_cons_zero, List.set_cons_succ]
          refine wpAnyH_ready (rs := [10]) (by kernel_rfl) (by simp) (AllReadyH.cons rfl (fun K hK => ?_) (AllReadyH.nil))
          obtain ⟨pa, pn, pc, gs, hcell, hgn, hgv, hg4, hgi⟩ := pick3 (ON.cut Hg20.out HL3.out (k := 2) (by omega)) Ha20.out Ht20.out Hn20.out (by rw [List.length_take, HL3.out]; decide) (by rw [List.length_append, HL3.out]; decide) (by decide) (fun x hx => HI.out x (List.mem_of_mem_take hx)) (fun x hx => by
              rcases List.mem_append.1 hx with h | h
              · exact HI.out x h
              · simp at h; subst h; exact ⟨by decide, by decide⟩) (fun x hx => by simp at hx; rcases hx with rfl | rfl | rfl <;> exact ⟨by decide, by decide⟩) hm3
          go_simp
          refine hK.out _ _ trivial (fun hHeld => ?_)
          clear hK K
          refine tkI (i := 11) (v := ?v11txyy) rfl (Or.inl ⟨by rfl, ?hy11txyy⟩) ?rest11txyy
          case hy11txyy => (intro zz hSw; (try dsimp only at hSw); go_simp; (try with_reducible rfl))
          change wpAnyH _ _ _ _ _ _ _ (Act.put _ (some 2) _) _
          simp only [Act.put, List.setIfInBounds_toArray, List.set_cons_zero, List.set_cons_succ]
          refine wpAnyH_done (by kernel_rfl) ?_ _
          go_wp2_with fail
          go_ret
          exact ⟨_, _, _, gs, rfl, hgn, hgv, hg4, hgi, HS20.out.cur, HS20.out.but⟩
    · skip
      generalize w5.drew = z0 at *
      have hbl22 := bel1 z0 (.cells #[.int .i64 1, .int .i64 2, .int .i64 1099511627776] 2)
      have Hn22 := Lib.hid (show ON w.heap.size (z0.alloc (.cells #[.int .i64 1, .int .i64 2, .int .i64 1099511627776] 2)) (.slice (some ⟨z0.heap.size, 0, none⟩) 3 3) [1, 2, 1099511627776] from litN (B := w.heap.size) z0 [1, 2, 1099511627776] HSd.out.size (by simp))
      have Hg22 := Lib.hid (HGd.out.next hbl22)
      have HS22 := Lib.hid (HSd.out.alloc (.cells #[.int .i64 1, .int .i64 2, .int .i64 1099511627776] 2))
      have hb_22 : z0.heap.size = z0.heap.size := rfl
      go_simp
      refine hK.out _ _ trivial (fun hHeld => ?_)
      clear hK K hbl22 hb_22
      generalize z0.alloc (.cells #[.int .i64 1, .int .i64 2, .int .i64 1099511627776] 2) = z22 at *
      refine wpAnyH_ready (rs := [3]) (by kernel_rfl) (by simp) (AllReadyH.cons rfl (fun K hK => ?_) (AllReadyH.nil))
      have hbl23 := bel1 z22 (.cells #[.int .i64 1] 2)
      have Hn23 := Lib.hid (show ON w.heap.size (z22.alloc (.cells #[.int .i64 1] 2)) (.slice (some ⟨z22.heap.size, 0, none⟩) 1 1) [1] from litN (B := w.heap.size) z22 [1] HS22.out.size (by simp))
      have Hg23 := Lib.hid (Hg22.out.next hbl23)
      have Ht23 := Lib.hid (Hn22.out.next hbl23)
      have HS23 := Lib.hid (HS22.out.alloc (.cells #[.int .i64 1] 2))
      have hb_23 : z22.heap.size = z22.heap.size := rfl
      go_simp
      refine hK.out _ _ trivial (fun hHeld => ?_)
      clear hK K hbl23 hb_23
      generalize z22.alloc (.cells #[.int .i64 1] 2) = z23 at *
      refine wpAnyH_ready (rs := [4]) (by kernel_rfl) (by simp) (AllReadyH.cons rfl (fun K hK => ?_) (AllReadyH.nil))
      refine step_append_fullN rfl (.tmp 15) (.tmp 16) rfl (l := gl) (m := [1]) rfl rfl HL3.out Hg23.out.vw rfl Hn23.out.vw (by decide) (by decide) ?_
      intro v24 z24 o24 b24
      obtain ⟨a24, c24, e24, -⟩ := o24.form
      subst e24
      have Hn24 := Lib.hid (ON.mono o24 HS23.out.size)
      have HS24 := Lib.hid (st_belowT HS23.out b24)
      have Hg24 := Lib.hid (Hg23.out.next b24)
      have Ho24 := Lib.hid (Hn23.out.next b24)
      have Ht24 := Lib.hid (Ht23.out.next b24)
      have hal24 : (gl ++ [1]).length = 4 := by rw [List.length_append, HL3.out]; rfl
      rw [hal24] at Hn24
      clear o24 b24
      refine hK.out _ _ trivial (fun hHeld => ?_)
      clear hK K
      change wpAnyH _ _ _ _ _ _ _ (Act.put _ (some 17) _) _
      simp only [Act.put, List.setIfInBounds_toArray, List.set_cons_zero, List.set_cons_succ]
      rw [hal24]
      refine wpAnyH_ready (rs := [6, 8]) (by kernel_rfl) (by simp) (AllReadyH.cons rfl (fun K hK => ?_) (AllReadyH.cons rfl (fun K hK => ?_) (AllReadyH.nil)))
      · skip
        have hbl25 := bel1 z24 (.cells #[.slice (some ⟨G, 0, none⟩) 2 3, .slice a24 4 c24, .slice (some ⟨z0.heap.size, 0, none⟩) 3 3] 26)
        have Hn25 := Lib.hid (show O1 26 w.heap.size (z24.alloc (.cells #[.slice (some ⟨G, 0, none⟩) 2 3, .slice a24 4 c24, .slice (some ⟨z0.heap.size, 0, none⟩) 3 3] 26)) (.slice (some ⟨z24.heap.size, 0, none⟩) 3 3) [.slice (some ⟨G, 0, none⟩) 2 3, .slice a24 4 c24, .slice (some ⟨z0.heap.size, 0, none⟩) 3 3] from O1.lit (T := 26) HS24.out.size #[.slice (some ⟨G, 0, none⟩) 2 3, .slice a24 4 c24, .slice (some ⟨z0.heap.size, 0, none⟩) 3 3] (by unfold maxLen; simp))
        have Hg25 := Lib.hid (Hg24.out.next hbl25)
        have Ho25 := Lib.hid (Ho24.out.next hbl25)
        have Ha25 := Lib.hid (Hn24.out.next hbl25)
        have Ht25 := Lib.hid (Ht24.out.next hbl25)
        have HS25 := Lib.hid (HS24.out.alloc (.cells #[.slice (some ⟨G, 0, none⟩) 2 3, .slice a24 4 c24, .slice (some ⟨z0.heap.size, 0, none⟩) 3 3] 26))
        have hb_25 : z24.heap.size = z24.heap.size := rfl
        go_simp
        refine hK.out _ _ trivial (fun hHeld => ?_)
        clear hK K hbl25 hb_25
        generalize z24.alloc (.cells #[.slice (some ⟨G, 0, none⟩) 2 3, .slice a24 4 c24, .slice (some ⟨z0.heap.size, 0, none⟩) 3 3] 26) = z25 at *
        refine wpAnyH_ready (rs := [8]) (by kernel_rfl) (by simp) (AllReadyH.cons rfl (fun K hK => ?_) (AllReadyH.nil))
        go_simp
        refine (below_any B b _ _ HS25.out.cur (by decide) (by decide)).mono ?_; rintro e z26 ⟨y, rfl, y0, y1, hc26, hw26⟩
        obtain ⟨m, rfl⟩ := Int.eq_ofNat_of_zero_le y0
        have hm3 : m < 3 := by omega
        have hmi : (m : Int) < 3 := by omega
        have HS26 := Lib.hid (HS25.out.draws hw26 hc26)
        have Hg26 := Lib.hid (Hg25.out.but hw26 hlt)
        have Ho26 := Lib.hid (Ho25.out.but hw26 hlt)
        have Ha26 := Lib.hid (Ha25.out.but hw26 hlt)
        have Ht26 := Lib.hid (Ht25.out.but hw26 hlt)
        have Hq26 := Lib.hid (Hn25.out.but hw26 hlt)
        clear hw26 hc26
        refine hK.out _ _ trivial (fun hHeld => ?_)
        clear hK K
        refine tkI (i := 9) (v := ?v9tyx) rfl (Or.inl ⟨by rfl, ?hy9tyx⟩) ?rest9tyx
        case hy9tyx => (intro zz hSw; (try dsimp only at hSw); go_simp; (try with_reducible rfl))
        change wpAnyH _ _ _ _ _ _ _ (Act.put _ (some 22) _) _
        simp only [Act.put, List.setIfInBounds_toArray, List.set_cons_zero, List.set_cons_succ]
        refine wpAnyH_ready (rs := [10]) (by kernel_rfl) (by simp) (AllReadyH.cons rfl (fun K hK => ?_) (AllReadyH.nil))
        obtain ⟨pa, pn, pc, gs, hcell, hgn, hgv, hg4, hgi⟩ := pick3 (ON.cut Hg26.out HL3.out (k := 2) (by omega)) Ha26.out Ht26.out Hq26.out (by rw [List.length_take, HL3.out]; decide) (by rw [List.length_append, HL3.out]; decide) (by decide) (fun x hx => HI.out x (List.mem_of_mem_take hx)) (fun x hx => by
            rcases List.mem_append.1 hx with h | h
            · exact HI.out x h
            · simp at h; subst h; exact ⟨by decide, by decide⟩) (fun x hx => by simp at hx; rcases hx with rfl | rfl | rfl <;> exact ⟨by decide, by decide⟩) hm3
        go_simp
        refine hK.out _ _ trivial (fun hHeld => ?_)
        clear hK K
        refine tkI (i := 11) (v := ?v11tyx) rfl (Or.inl ⟨by rfl, ?hy11tyx⟩) ?rest11tyx
        case hy11tyx => (intro zz hSw; (try dsimp only at hSw); go_simp; (try with_reducible rfl))
        change wpAnyH _ _ _ _ _ _ _ (Act.put _ (some 2) _) _
        simp only [Act.put, List.setIfInBounds_toArray, List.set_cons_zero, List.set_cons_succ]
        refine wpAnyH_done (by kernel_rfl) ?_ _
        go_wp2_with fail
        go_ret
        exact ⟨_, _, _, gs, rfl, hgn, hgv, hg4, hgi, HS26.out.cur, HS26.out.but⟩
      · skip
        go_simp
        refine (below_any B b _ _ HS24.out.cur (by decide) (by decide)).mono ?_; rintro e z28 ⟨y, rfl, y0, y1, hc28, hw28⟩
        obtain ⟨m, rfl⟩ := Int.eq_ofNat_of_zero_le y0
        have hm3 : m < 3 := by omega
        have hmi : (m : Int) < 3 := by omega
        have HS28 := Lib.hid (HS24.out.draws hw28 hc28)
        have Hg28 := Lib.hid (Hg24.out.but hw28 hlt)
        have Ho28 := Lib.hid (Ho24.out.but hw28 hlt)
        have Ha28 := Lib.hid (Hn24.out.but hw28 hlt)
        have Ht28 := Lib.hid (Ht24.out.but hw28 hlt)
        clear hw28 hc28
        refine hK.out _ _ trivial (fun hHeld => ?_)
        clear hK K
        refine wpAnyH_ready (rs := [6]) (by kernel_rfl) (by simp) (AllReadyH.cons rfl (fun K hK => ?_) (AllReadyH.nil))
        have hbl29 := bel1 z28 (.cells #[.slice (some ⟨G, 0, none⟩) 2 3, .slice a24 4 c24, .slice (some ⟨z0.heap.size, 0, none⟩) 3 3] 26)
        have Hn29 := Lib.hid (show O1 26 w.heap.size (z28.alloc (.cells #[.slice (some ⟨G, 0, none⟩) 2 3, .slice a24 4 c24, .slice (some ⟨z0.heap.size, 0, none⟩) 3 3] 26)) (.slice (some ⟨z28.heap.size, 0, none⟩) 3 3) [.slice (some ⟨G, 0, none⟩) 2 3, .slice a24 4 c24, .slice (some ⟨z0.heap.size, 0, none⟩) 3 3] from O1.lit (T := 26) HS28.out.size #[.slice (some ⟨G, 0, none⟩) 2 3, .slice a24 4 c24, .slice (some ⟨z0.heap.size, 0, none⟩) 3 3] (by unfold maxLen; simp))
        have Hg29 := Lib.hid (Hg28.out.next hbl29)
        have Ho29 := Lib.hid (Ho28.out.next hbl29)
        have Ha29 := Lib.hid (Ha28.out.next hbl29)
        have Ht29 := Lib.hid (Ht28.out.next hbl29)
        have HS29 := Lib.hid (HS28.out.alloc (.cells #[.slice (some ⟨G, 0, none⟩) 2 3, .slice a24 4 c24, .slice (some ⟨z0.heap.size, 0, none⟩) 3 3] 26))
        have hb_29 : z28.heap.size = z28.heap.size := rfl
        go_simp
        refine hK.out _ _ trivial (fun hHeld => ?_)
        clear hK K hbl29 hb_29
        generalize z28.alloc (.cells #[.slice (some ⟨G, 0, none⟩) 2 3, .slice a24 4 c24, .slice (some ⟨z0.heap.size, 0, none⟩) 3 3] 26) = z29 at *
        refine tkI (i := 9) (v := ?v9tyy) rfl (Or.inl ⟨by rfl, ?hy9tyy⟩) ?rest9tyy
        case hy9tyy => (intro zz hSw; (try dsimp only at hSw); go_simp; (try with_reducible rfl))
        change wpAnyH _ _ _ _ _ _ _ (Act.put _ (some 22) _) _
        simp only [Act.put, List.setIfInBounds_toArray, List.set_cons_zero, List.set_cons_succ]
        refine wpAnyH_ready (rs := [10]) (by kernel_rfl) (by simp) (AllReadyH.cons rfl (fun K hK => ?_) (AllReadyH.nil))
        obtain ⟨pa, pn, pc, gs, hcell, hgn, hgv, hg4, hgi⟩ := pick3 (ON.cut Hg29.out HL3.out (k := 2) (by omega)) Ha29.out Ht29.out Hn29.out (by rw [List.length_take, HL3.out]; decide) (by rw [List.length_append, HL3.out]; decide) (by decide) (fun x hx => HI.out x (List.mem_of_mem_take hx)) (fun x hx => by
            rcases List.mem_append.1 hx with h | h
            · exact HI.out x h
            · simp at h; subst h; exact ⟨by decide, by decide⟩) (fun x hx => by simp at hx; rcases hx with rfl | rfl | rfl <;> exact ⟨by decide, by decide⟩) hm3
        go_simp
        refine hK.out _ _ trivial (fun hHeld => ?_)
        clear hK K
        refine tkI (i := 11) (v := ?v11tyy) rfl (Or.inl ⟨by rfl, ?hy11tyy⟩) ?rest11tyy
        case hy11tyy => (intro zz hSw; (try dsimp only at hSw); go_simp; (try with_reducible rfl))
        change wpAnyH _ _ _ _ _ _ _ (Act.put _ (some 2) _) _
        simp only [Act.put, List.setIfInBounds_toArray, List.set_cons_zero, List.set_cons_succ]
        refine wpAnyH_done (by kernel_rfl) ?_ _
        go_wp2_with fail
        go_ret
        exact ⟨_, _, _, gs, rfl, hgn, hgv, hg4, hgi, HS29.out.cur, HS29.out.but⟩
end Go.Proofs.YtfnnoehpahdgcaaGreatDoor.Cl
namespace Go.Proofs.YtfnnoehpahdgcaaGreatDoor.Lc
set_option linter.unusedVariables false
open Go.RowKit
def F (h : Int) : Int := wrap64 (wrap64 (h * 6364136223846793005) + 1442695040888963407)
def it : Nat → Int → Int
  | 0, h => h
  | n + 1, h => it n (F h)
theorem it_add : ∀ (m n : Nat) (h : Int), it (m + n) h = it n (it m h)
  | 0, n, h => by rw [Nat.zero_add]; rfl
  | m + 1, n, h => by rw [show m + 1 + n = (m + n) + 1 by omega]; exact it_add m n (F h)
theorem F_form (h : Int) : ∃ q, F h = 6364136223846793005 * h + 1442695040888963407 + q * 18446744073709551616 := by
  unfold F
  unfold wrap64
  refine ⟨(F h - (6364136223846793005 * h + 1442695040888963407)) / 18446744073709551616, ?_⟩
  unfold F
  unfold wrap64
  omega
theorem F_range (h : Int) : -9223372036854775808 ≤ F h ∧ F h ≤ 9223372036854775807 := by
  unfold F
  unfold wrap64
  omega
theorem pw : ∀ m : Nat, ∃ u v : Int, ∀ h, ∃ q, it (2 ^ m) h = (1 + 4 * 2 ^ m * u) * h + 2 ^ m * (2 * v + 1) + q * 18446744073709551616
  | 0 => ⟨1591034055961698251, 721347520444481703, fun h => by
    obtain ⟨q, hq⟩ := F_form h
    exact ⟨q, by show F h = _; rw [hq]; omega⟩⟩
  | m + 1 => by
    obtain ⟨u, v, hu⟩ := pw m
    refine ⟨u + 2 * 2 ^ m * (u * u), v + 2 ^ m * u * (2 * v + 1), fun h => ?_⟩
    obtain ⟨q, hq⟩ := hu h
    obtain ⟨r, hr⟩ := hu (it (2 ^ m) h)
    refine ⟨(1 + 4 * 2 ^ m * u) * q + r, ?_⟩
    rw [show (2 : Nat) ^ (m + 1) = 2 ^ m + 2 ^ m by rw [Nat.pow_succ]; omega, it_add, hr, hq, Int.pow_succ]
    generalize (2 : Int) ^ m = p
    grind
theorem reach : ∀ (m : Nat), m ≤ 64 → ∀ h h' : Int, ∃ (k : Nat) (q : Int), it k h = h' + 2 ^ m * q
  | 0, _, h, h' => ⟨0, h - h', by show h = _; omega⟩
  | m + 1, hm, h, h' => by
    obtain ⟨k, q, hk⟩ := reach m (by omega) h h'
    by_cases he : q % 2 = 0
    · refine ⟨k, q / 2, ?_⟩
      rw [hk, Int.pow_succ]
      obtain ⟨c, rfl⟩ : ∃ c, q = 2 * c := ⟨q / 2, by omega⟩
      rw [Int.mul_ediv_cancel_left _ (by decide)]
      grind
    · obtain ⟨c, rfl⟩ : ∃ c, q = 2 * c + 1 := ⟨q / 2, by omega⟩
      obtain ⟨u, v, hu⟩ := pw m
      obtain ⟨r, hr⟩ := hu (it k h)
      refine ⟨k + 2 ^ m, c + 2 * u * (it k h) + v + 1 + r * 2 ^ (63 - m), ?_⟩
      rw [it_add, hr, show (18446744073709551616 : Int) = 2 ^ m * 2 * 2 ^ (63 - m) by rw [← Int.pow_succ, ← Int.pow_add, show m + 1 + (63 - m) = 64 by omega]; rfl, Int.pow_succ]
      generalize he : it k h = g at *
      generalize (2 : Int) ^ (63 - m) = z
      generalize (2 : Int) ^ m = p at *
      grind
theorem to_zero (h : Int) : ∃ k, it (k + 1) h = 0 := by
  obtain ⟨k, q, hk⟩ := reach 64 (by omega) (F h) 0
  refine ⟨k, ?_⟩
  show it k (F h) = 0
  have hr : -9223372036854775808 ≤ it k (F h) ∧ it k (F h) ≤ 9223372036854775807 := by
    cases k with
    | zero => exact F_range h
    | succ k => rw [it_add k 1]; exact F_range _
  rw [show (2 : Int) ^ 64 = 18446744073709551616 by rfl] at hk
  omega

abbrev S := List Int × Int
def X (h : Int) : Int := bits .xor .i64 (h / 8589934592) (h / 35184372088832) % 256
def byteM : S → Int × S
  | ([], h) => (X (F h), ([], F h))
  | (z :: r, h) => ((X (F h) + z) % 256, (r, F h))
def belowM (n : Int) (s : S) : Int × S :=
  if n ≤ 256 then ((byteM s).1 % n, (byteM s).2) else
    let a := byteM s
    let b := byteM a.2
    let c := byteM b.2
    let d := byteM c.2
    ((a.1 * 16777216 + b.1 * 65536 + c.1 * 256 + d.1) % n, d.2)
def wordM (s : S) : S :=
  let a := belowM 5 s
  if a.1 = 0 then (belowM 6 a.2).2 else if a.1 = 1 then (belowM 4294967296 a.2).2 else (belowM 12 a.2).2
def leafM (s : S) : S :=
  let a := belowM 4 s
  if a.1 = 0 then wordM a.2 else if a.1 = 1 then (belowM 3 a.2).2 else (belowM 6 a.2).2
def twoM (f : S → Nat × S) (s : S) : Nat × S := (1 + (f s).1 + (f (f s).2).1, (f (f s).2).2)
def numM : Nat → S → Nat × S
  | 0, s => (1, leafM s)
  | d + 1, s =>
    let a := belowM 2 s
    if a.1 = 0 then (1, leafM a.2) else twoM (numM d) (belowM 4 a.2).2
def truM : Nat → S → Nat × S
  | 0, s => (0, s)
  | 1, s => twoM (numM 0) (belowM 4 s).2
  | d + 2, s =>
    let a := belowM 4 s
    if a.1 = 3 then twoM (truM (d + 1)) a.2 else twoM (numM (d + 1)) a.2
def loopM (f : S → Nat × S) : Nat → S → Nat × S
  | 0, s => (0, s)
  | n + 1, s => ((f s).1 + (loopM f n (f s).2).1, (loopM f n (f s).2).2)
def deedM (B : Option (Int → S → Nat × S)) (s : S) : Nat × S :=
  let a := belowM 8 s
  if a.1 = 0 then (2, (belowM 6 a.2).2)
  else if a.1 = 1 then (let b := belowM 4 a.2; (if b.1 = 0 then 1 else 0, b.2))
  else if a.1 = 2 ∨ a.1 = 3 then
    match B with
    | none => (0, a.2)
    | some B => (let t := truM 2 a.2; let b := B 3 t.2; let c := B 3 b.2; (1 + t.1 + 1 + b.1 + 2 + c.1 + 1, c.2))
  else if a.1 = 4 then
    match B with
    | none => (0, a.2)
    | some B => (let b := B 2 (belowM 12 (belowM 6 a.2).2).2; (5 + b.1 + 6, b.2))
  else (let b := numM 2 (belowM 6 a.2).2; (2 + b.1, b.2))
def deedsM : Nat → Int → S → Nat × S
  | 0, most, s => let a := belowM most s; loopM (deedM none) a.1.toNat a.2
  | d + 1, most, s => let a := belowM most s; loopM (deedM (some (deedsM d))) a.1.toNat a.2
def goodFrom : Nat → Int → Bool
  | 0, _ => true
  | n + 1, h => decide ((deedsM 1 4 ([], h)).1 ≤ 120) && goodFrom n (F h)
theorem window : goodFrom 600 0 = true := by kernel_rfl
theorem good_at : ∀ (n : Nat) (h : Int), goodFrom n h = true → ∀ j, j < n → (deedsM 1 4 ([], it j h)).1 ≤ 120
  | 0, _, _, j, hj => absurd hj (by omega)
  | n + 1, h, hg, 0, _ => by
    unfold goodFrom at hg
    rw [Bool.and_eq_true, decide_eq_true_eq] at hg
    exact hg.1
  | n + 1, h, hg, j + 1, hj => by
    unfold goodFrom at hg
    rw [Bool.and_eq_true] at hg
    exact good_at n (F h) hg.2 j (by omega)

def stp (t : Nat) (s : S) : S := (s.1.drop t, it t s.2)
theorem stp_add (m n : Nat) (s : S) : stp (m + n) s = stp n (stp m s) := by
  unfold stp
  rw [it_add, List.drop_drop]
def Adv (lo hi : Nat) (s s' : S) : Prop := ∃ t, lo ≤ t ∧ t ≤ hi ∧ s' = stp t s
theorem Adv.trans {a b c d : Nat} {x y z : S} (h : Adv a b x y) (k : Adv c d y z) : Adv (a + c) (b + d) x z := by
  obtain ⟨t, t1, t2, rfl⟩ := h
  obtain ⟨u, u1, u2, rfl⟩ := k
  exact ⟨t + u, by omega, by omega, (stp_add t u x).symm⟩
theorem Adv.mono {a b c d : Nat} {x y : S} (h : Adv a b x y) (h1 : c ≤ a) (h2 : b ≤ d) : Adv c d x y := by
  obtain ⟨t, t1, t2, e⟩ := h
  exact ⟨t, by omega, by omega, e⟩
theorem Adv.refl (n : Nat) (x : S) : Adv 0 n x x := ⟨0, Nat.le_refl _, Nat.zero_le _, rfl⟩
theorem byte_adv (s : S) : Adv 1 1 s (byteM s).2 := by
  obtain ⟨r, h⟩ := s
  cases r with
  | nil => exact ⟨1, Nat.le_refl _, Nat.le_refl _, rfl⟩
  | cons z r => exact ⟨1, Nat.le_refl _, Nat.le_refl _, rfl⟩
theorem below_adv {n : Int} (hn : n ≤ 256) (s : S) : Adv 1 1 s (belowM n s).2 := by
  unfold belowM
  rw [if_pos hn]
  exact byte_adv s
theorem below_adv4 (n : Int) (s : S) : Adv 1 4 s (belowM n s).2 := by
  by_cases hn : n ≤ 256
  · exact (below_adv hn s).mono (by omega) (by omega)
  · unfold belowM
    rw [if_neg hn]
    exact ((((byte_adv s).trans (byte_adv _)).trans (byte_adv _)).trans (byte_adv _)).mono (by omega) (by omega)
theorem word_adv (s : S) : Adv 2 5 s (wordM s) := by
  unfold wordM
  have h := below_adv (n := 5) (by decide) s
  dsimp only
  split
  · exact (h.trans (below_adv (by decide) _)).mono (by omega) (by omega)
  · split
    · exact (h.trans (below_adv4 _ _)).mono (by omega) (by omega)
    · exact (h.trans (below_adv (by decide) _)).mono (by omega) (by omega)
theorem leaf_adv (s : S) : Adv 2 6 s (leafM s) := by
  unfold leafM
  have h := below_adv (n := 4) (by decide) s
  dsimp only
  split
  · exact (h.trans (word_adv _)).mono (by omega) (by omega)
  · split
    · exact (h.trans (below_adv (by decide) _)).mono (by omega) (by omega)
    · exact (h.trans (below_adv (by decide) _)).mono (by omega) (by omega)
theorem two_adv {f : S → Nat × S} {a b : Nat} (hf : ∀ s, Adv a b s (f s).2) (s : S) : Adv (a + a) (b + b) s (twoM f s).2 := (hf s).trans (hf _)
theorem num0_adv (s : S) : Adv 1 6 s (numM 0 s).2 := (leaf_adv s).mono (by omega) (by omega)
theorem num_adv {d b : Nat} (hd : ∀ s, Adv 1 b s (numM d s).2) (hb : 6 ≤ b) (s : S) : Adv 1 (2 + b + b) s (numM (d + 1) s).2 := by
  unfold numM
  have h := below_adv (n := 2) (by decide) s
  dsimp only
  split
  · exact (h.trans (leaf_adv _)).mono (by omega) (by omega)
  · exact ((h.trans (below_adv (n := 4) (by decide) _)).trans (two_adv hd _)).mono (by omega) (by omega)
theorem num1_adv (s : S) : Adv 1 14 s (numM 1 s).2 := num_adv num0_adv (by omega) s
theorem num2_adv (s : S) : Adv 1 30 s (numM 2 s).2 := num_adv num1_adv (by omega) s
theorem tru1_adv (s : S) : Adv 1 13 s (truM 1 s).2 := by
  unfold truM
  exact ((below_adv (n := 4) (by decide) s).trans (two_adv num0_adv _)).mono (by omega) (by omega)
theorem tru2_adv (s : S) : Adv 1 29 s (truM 2 s).2 := by
  unfold truM
  have h := below_adv (n := 4) (by decide) s
  dsimp only
  split
  · exact (h.trans (two_adv tru1_adv _)).mono (by omega) (by omega)
  · exact (h.trans (two_adv num1_adv _)).mono (by omega) (by omega)
theorem loop_adv {f : S → Nat × S} {b : Nat} (hf : ∀ s, Adv 1 b s (f s).2) : ∀ (n : Nat) (s : S), Adv 0 (n * b) s (loopM f n s).2
  | 0, s => Adv.refl _ s
  | n + 1, s => ((hf s).trans (loop_adv hf n _)).mono (by omega) (by rw [Nat.succ_mul]; omega)
theorem deed0_adv (s : S) : Adv 1 32 s (deedM none s).2 := by
  unfold deedM
  have h := below_adv (n := 8) (by decide) s
  dsimp only
  split
  · exact (h.trans (below_adv (by decide) _)).mono (by omega) (by omega)
  · split
    · exact (h.trans (below_adv (by decide) _)).mono (by omega) (by omega)
    · split
      · exact h.mono (by omega) (by omega)
      · split
        · exact h.mono (by omega) (by omega)
        · exact ((h.trans (below_adv (n := 6) (by decide) _)).trans (num2_adv _)).mono (by omega) (by omega)
theorem below_lt {n : Int} (h1 : 1 ≤ n) (s : S) : (belowM n s).1.toNat ≤ n.toNat - 1 := by
  have key : ∀ x : Int, (x % n).toNat ≤ n.toNat - 1 := fun x => by
    have := Int.emod_nonneg x (show n ≠ 0 by omega)
    have := Int.emod_lt_of_pos x (show 0 < n by omega)
    omega
  unfold belowM
  split
  · exact key _
  · exact key _
theorem deeds0_adv {most : Int} (h1 : 1 ≤ most) (h2 : most ≤ 3) (s : S) : Adv 1 65 s (deedsM 0 most s).2 := by
  unfold deedsM
  have h := below_adv (n := most) (by omega) s
  have hl := below_lt h1 s
  exact (h.trans (loop_adv deed0_adv _ _)).mono (by omega) (by have : (belowM most s).1.toNat * 32 ≤ 2 * 32 := Nat.mul_le_mul_right _ (by omega); omega)
theorem deed1_adv (s : S) : Adv 1 160 s (deedM (some (deedsM 0)) s).2 := by
  unfold deedM
  have h := below_adv (n := 8) (by decide) s
  dsimp only
  split
  · exact (h.trans (below_adv (by decide) _)).mono (by omega) (by omega)
  · split
    · exact (h.trans (below_adv (by decide) _)).mono (by omega) (by omega)
    · split
      · exact (((h.trans (tru2_adv _)).trans (deeds0_adv (by decide) (by decide) _)).trans (deeds0_adv (by decide) (by decide) _)).mono (by omega) (by omega)
      · split
        · exact (((h.trans (below_adv (n := 6) (by decide) _)).trans (below_adv (n := 12) (by decide) _)).trans (deeds0_adv (by decide) (by decide) _)).mono (by omega) (by omega)
        · exact ((h.trans (below_adv (n := 6) (by decide) _)).trans (num2_adv _)).mono (by omega) (by omega)
theorem round_adv (s : S) : Adv 1 481 s (deedsM 1 4 s).2 := by
  unfold deedsM
  have h := below_adv (n := 4) (by decide) s
  have hl := below_lt (n := 4) (by decide) s
  exact (h.trans (loop_adv deed1_adv _ _)).mono (by omega) (by have : (belowM 4 s).1.toNat * 160 ≤ 3 * 160 := Nat.mul_le_mul_right _ hl; omega)

def Good (s : S) : Prop := (deedsM 1 4 s).1 ≤ 120
def rnd : Nat → S → S
  | 0, s => s
  | n + 1, s => rnd n (deedsM 1 4 s).2
theorem ends_pure : ∀ (D : Nat) (h : Int), it D h = 0 → ∃ n, Good (rnd n ([], h)) := by
  intro D
  induction D using Nat.strongRecOn with
  | _ D ih =>
    intro h hD
    obtain ⟨t, t1, t2, e⟩ := round_adv ([], h)
    have e' : (deedsM 1 4 ([], h)).2 = ([], it t h) := by rw [e]; unfold stp; rw [List.drop_nil]
    by_cases ht : t ≤ D
    · obtain ⟨n, hn⟩ := ih (D - t) (by omega) (it t h) (by rw [← it_add, show t + (D - t) = D by omega]; exact hD)
      exact ⟨n + 1, by show Good (rnd n (deedsM 1 4 ([], h)).2); rw [e']; exact hn⟩
    · refine ⟨1, ?_⟩
      show Good (deedsM 1 4 ([], h)).2
      rw [e', show t = D + (t - D) by omega, it_add, hD]
      exact good_at 600 0 window (t - D) (by omega)
theorem ends : ∀ (k : Nat) (s : S), s.1.length = k → ∃ n, Good (rnd n s) := by
  intro k
  induction k using Nat.strongRecOn with
  | _ k ih =>
    intro s hs
    obtain ⟨t, t1, t2, e⟩ := round_adv s
    obtain ⟨r, h⟩ := s
    cases r with
    | nil =>
      obtain ⟨k, hk⟩ := to_zero h
      exact ends_pure (k + 1) h hk
    | cons z r =>
      obtain ⟨n, hn⟩ := ih (stp t (z :: r, h)).1.length (by unfold stp; rw [List.length_drop]; rw [← hs]; simp only [List.length_cons]; omega) _ rfl
      exact ⟨n + 1, by show Good (rnd n (deedsM 1 4 (z :: r, h)).2); rw [e]; exact hn⟩
theorem falls : ∃ m : S → Nat, ∀ s, ¬ Good s → m (deedsM 1 4 s).2 < m s := by
  have least : ∀ s, ∃ n, Good (rnd n s) ∧ ∀ j, j < n → ¬ Good (rnd j s) := fun s => by
    obtain ⟨n, hn⟩ := ends _ s rfl
    revert hn
    induction n using Nat.strongRecOn with
    | _ n ih =>
      intro hn
      by_cases h : ∃ j, j < n ∧ Good (rnd j s)
      · obtain ⟨j, hj, hg⟩ := h
        exact ih j hj hg
      · exact ⟨n, hn, fun j hj hg => h ⟨j, hj, hg⟩⟩
  obtain ⟨m, hm⟩ := Classical.axiomOfChoice least
  refine ⟨m, fun s hb => ?_⟩
  obtain ⟨a1, a2⟩ := hm s
  obtain ⟨b1, b2⟩ := hm (deedsM 1 4 s).2
  generalize m s = n at *
  generalize m (deedsM 1 4 s).2 = m at *
  cases n with
  | zero => exact absurd a1 hb
  | succ n =>
    show m < n + 1
    have : ¬ n < m := fun h => b2 n h a1
    omega
end Go.Proofs.YtfnnoehpahdgcaaGreatDoor.Lc
namespace Go.Proofs.YtfnnoehpahdgcaaGreatDoor.Cu
set_option linter.unusedVariables false
open Go.RowKit Lc Kp
def Bz (w : World) (B : Nat) (a : Option Addr) (zs : List Int) : Prop :=
  0 < zs.length → ∃ ab ao, a = some ⟨ab, ao, none⟩ ∧ ab < B ∧ ∀ k z, zs[k]? = some z → w.cell? ⟨ab, ao + k, none⟩ = some (.int .u8 z) ∧ 0 ≤ z ∧ z ≤ 255
theorem Bz.carry {w w' : World} {B : Nat} {a : Option Addr} {zs : List Int} (h : Bz w B a zs) (hb : ∀ k, k < B → w'.heap[k]? = w.heap[k]?) : Bz w' B a zs := by
  intro hl
  obtain ⟨ab, ao, h1, h2, h3⟩ := h hl
  refine ⟨ab, ao, h1, h2, fun k z hk => ?_⟩
  obtain ⟨h4, h5⟩ := h3 k z hk
  exact ⟨(World.cell?_of_block (w := w) (hb ab h2)).trans h4, h5⟩
theorem Bz.bytes {w : World} {B : Nat} {a : Option Addr} {zs : List Int} (h : Bz w B a zs) : Bytes w B a zs.length := by
  intro hl
  obtain ⟨ab, ao, h1, h2, h3⟩ := h hl
  exact ⟨ab, ao, h1, h2, fun k hk => ⟨zs[k], h3 k zs[k] (List.getElem?_eq_getElem hk)⟩⟩
theorem Bytes.exact {w : World} {B : Nat} {a : Option Addr} : ∀ {len : Nat}, Bytes w B a len → ∃ zs : List Int, zs.length = len ∧ Bz w B a zs
  | 0, _ => ⟨[], rfl, fun h => absurd h (by simp)⟩
  | n + 1, h => by
    obtain ⟨ab, ao, h1, h2, h3⟩ := h (by omega)
    obtain ⟨zs, hz, hb⟩ := Bytes.exact (len := n) (fun hl => ⟨ab, ao, h1, h2, fun k hk => h3 k (by omega)⟩)
    obtain ⟨z, hc⟩ := h3 n (by omega)
    refine ⟨zs ++ [z], by simp [hz], fun _ => ⟨ab, ao, h1, h2, fun k y hk => ?_⟩⟩
    by_cases hk' : k < zs.length
    · rw [List.getElem?_append_left hk'] at hk
      obtain ⟨ab', ao', h1', -, h3'⟩ := hb (by omega)
      rw [h1] at h1'; cases h1'
      exact h3' k y hk
    · rw [List.getElem?_append_right (by omega)] at hk
      have : k - zs.length = 0 := by
        rcases Nat.eq_zero_or_pos (k - zs.length) with g | g
        · exact g
        · rw [List.getElem?_eq_none (by simp; omega)] at hk; cases hk
      rw [this] at hk
      cases hk
      rw [show k = n by omega]; exact hc
def CurE (B b : Nat) (s : S) (w : World) : Prop :=
  B ≤ b ∧ ∃ (a : Option Addr) (len cap i : Nat) (h : Int) (zs : List Int), zs.length = len ∧ i ≤ len ∧ len ≤ 9223372036854775806 ∧ s = (zs.drop i, h) ∧ Bz w B a zs ∧
    w.heap[b]? = some (.cells #[.slice a len cap, .int .i64 i, .int .i64 h] 83 (0, 0))
theorem CurE.carry {B b : Nat} {s : S} {w w' : World} (h : CurE B b s w) (hb : ∀ k, k < B → w'.heap[k]? = w.heap[k]?) (hc : w'.heap[b]? = w.heap[b]?) : CurE B b s w' := by
  obtain ⟨h1, a, len, cap, i, h, zs, h2, h3, h4, h5, h6, h7⟩ := h
  exact ⟨h1, a, len, cap, i, h, zs, h2, h3, h4, h5, h6.carry hb, hc.trans h7⟩
theorem CurE.cur {B b : Nat} {s : S} {w : World} (h : CurE B b s w) : Cur B b w := by
  obtain ⟨h1, a, len, cap, i, h, zs, h2, h3, h4, h5, h6, h7⟩ := h
  exact ⟨h1, a, len, cap, i, h, by omega, by omega, h4, h2 ▸ h6.bytes, h7⟩
theorem Cur.exact {B b : Nat} {w : World} (h : Cur B b w) : ∃ s, CurE B b s w := by
  obtain ⟨h1, a, len, cap, i, h, h2, h3, h4, h5, h6⟩ := h
  obtain ⟨n, rfl⟩ := Int.eq_ofNat_of_zero_le h2
  obtain ⟨zs, hz, hb⟩ := h5.exact
  exact ⟨_, h1, a, len, cap, n, h, zs, hz, by omega, h4, rfl, hb, h6⟩
theorem CurE.lt {B b : Nat} {s : S} {w : World} (h : CurE B b s w) : b < w.heap.size := h.cur.lt
theorem CurE.le {B b : Nat} {s : S} {w : World} (h : CurE B b s w) : B ≤ b := h.1
theorem CurE.alloc {B b : Nat} {s : S} {w : World} (h : CurE B b s w) (o : Obj) : CurE B b s (w.alloc o) :=
  h.carry (fun k hk => Below.heap_alloc _ _ _ (by have := h.lt; have := h.le; omega)) (Below.heap_alloc _ _ _ h.lt)
def DrawsE (B b : Nat) (w : World) (r : Int × S) (e : Ending) (w' : World) : Prop := e = .returned (.int .i64 r.1) ∧ CurE B b r.2 w' ∧ But b w w'

def EndE (b : Nat) (h : Int) (w : World) (e : Ending) (w' : World) : Prop := e = .returned (.int .i64 (X (F h))) ∧ w'.heap = (w.setCell ⟨b, 2, none⟩ (.int .i64 (F h))).heap ∧ w'.os = w.os ∧ w'.tape = w.tape ∧ w'.output = w.output
def StepE (b : Nat) (i h z : Int) (w : World) (e : Ending) (w' : World) : Prop := e = .returned (.int .i64 ((X (F h) + z) % 256)) ∧ w'.heap = ((w.setCell ⟨b, 2, none⟩ (.int .i64 (F h))).setCell ⟨b, 1, none⟩ (.int .i64 (i + 1))).heap ∧ w'.os = w.os ∧ w'.tape = w.tape ∧ w'.output = w.output
set_option maxRecDepth 100000 in
set_option maxHeartbeats 1000000 in
theorem byteE_end (b : Nat) (a : Option Addr) (cap len : Nat) (i h : Int) (w : World) (h0 : w.cell? ⟨b, 0, none⟩ = some (.slice a len cap)) (h1 : w.cell? ⟨b, 1, none⟩ = some (.int .i64 i)) (h2 : w.cell? ⟨b, 2, none⟩ = some (.int .i64 h)) (f2 : w.frozen? ⟨b, 2, none⟩ = false)
    (hi : ¬ i < (len : Int)) :
    Calls Tryz.prog 80 #[.pointer (some ⟨b, 0, none⟩)] w (EndE b h w) := by
  have A := and255
  go_enter Tryz.func80, Tryz.ntmps80
  go_wp2
  go_quiet (fail)
  go_wp2
  go_quiet (fail)
  go_wp2
  go_ret
  exact ⟨rfl, rfl, rfl, rfl, rfl⟩
set_option maxRecDepth 100000 in
set_option maxHeartbeats 1000000 in
theorem byteE_step (b : Nat) (ab ao cap len : Nat) (i : Nat) (h z : Int) (w : World) (h0 : w.cell? ⟨b, 0, none⟩ = some (.slice (some ⟨ab, ao, none⟩) len cap)) (h1 : w.cell? ⟨b, 1, none⟩ = some (.int .i64 (i : Int))) (h2 : w.cell? ⟨b, 2, none⟩ = some (.int .i64 h)) (f1 : w.frozen? ⟨b, 1, none⟩ = false) (f2 : w.frozen? ⟨b, 2, none⟩ = false)
    (hi : (i : Int) < (len : Int)) (hl : len ≤ 9223372036854775806) (hne : ab ≠ b) (hz : w.cell? ⟨ab, ao + i, none⟩ = some (.int .u8 z)) (z0 : 0 ≤ z) (z1 : z ≤ 255) :
    Calls Tryz.prog 80 #[.pointer (some ⟨b, 0, none⟩)] w (StepE b i h z w) := by
  have A := and255
  have p0 : (0 : Int) ≤ (i : Int) := by omega
  have p1 : (i : Int) + 1 ≤ 9223372036854775807 := by omega
  go_enter Tryz.func80, Tryz.ntmps80
  go_wp2
  go_quiet (fail)
  go_wp2
  go_quiet (fail)
  go_wp2
  go_quiet (fail)
  go_wp2
  go_ret
  refine ⟨?_, rfl, rfl, rfl, rfl⟩
  simp [Array.getD]
  unfold X F
  omega
theorem byteE (B b : Nat) (s : S) (w : World) (hc : CurE B b s w) : Calls Tryz.prog 80 #[.pointer (some ⟨b, 0, none⟩)] w (DrawsE B b w (byteM s)) := by
  have hlt := hc.lt
  obtain ⟨hB, a, len, cap, i, h, zs, hz, hi, hl, rfl, hb, hh⟩ := hc
  obtain ⟨c0, c1, c2, f1, f2⟩ := cells_of hh
  by_cases hlen : i < len
  · obtain ⟨ab, ao, rfl, hab, hcell⟩ := hb (by omega)
    have hd : zs.drop i = zs[i] :: zs.drop (i + 1) := List.drop_eq_getElem_cons (by omega)
    obtain ⟨hzc, z0, z1⟩ := hcell i zs[i] (List.getElem?_eq_getElem (by omega))
    rw [hd]
    refine (byteE_step b ab ao cap len i h zs[i] w c0 c1 c2 f1 f2 (by omega) hl (by omega) hzc z0 z1).mono ?_
    rintro e w' ⟨rfl, hw, ho, ht, hp⟩
    have hset := (heap_set ((heap_set hh (.int .i64 (F h))).1) (.int .i64 ((i : Int) + 1))).2
    have hoth : ∀ k, k ≠ b → w'.heap[k]? = w.heap[k]? := fun k hk => by
      rw [hw, Below.heap_setCell _ _ _ _ (by simpa using hk), Below.heap_setCell _ _ _ _ (by simpa using hk)]
    exact ⟨rfl, ⟨hB, some ⟨ab, ao, none⟩, len, cap, i + 1, F h, zs, hz, by omega, hl, rfl, hb.carry fun k hk => hoth k (by omega), by rw [hw]; exact hset⟩, ⟨ho, ht, hp, by rw [hw]; simp [World.setCell], fun k _ hk => hoth k hk⟩⟩
  · have hd : zs.drop i = [] := List.drop_eq_nil_iff.2 (by omega)
    rw [hd]
    refine (byteE_end b a cap len i h w c0 c1 c2 f2 (by omega)).mono ?_
    rintro e w' ⟨rfl, hw, ho, ht, hp⟩
    have hset := (heap_set hh (.int .i64 (F h))).1
    have hoth : ∀ k, k ≠ b → w'.heap[k]? = w.heap[k]? := fun k hk => by
      rw [hw, Below.heap_setCell _ _ _ _ (by simpa using hk)]
    exact ⟨rfl, ⟨hB, a, len, cap, i, F h, zs, hz, hi, hl, by show (([], F h) : S) = (zs.drop i, F h); rw [hd], hb.carry fun k hk => hoth k (by omega), by rw [hw]; exact hset⟩, ⟨ho, ht, hp, by rw [hw]; simp [World.setCell], fun k _ hk => hoth k hk⟩⟩
theorem byteM_range (s : S) : 0 ≤ (byteM s).1 ∧ (byteM s).1 ≤ 255 := by
  obtain ⟨r, h⟩ := s
  cases r with
  | nil => show 0 ≤ X (F h) ∧ X (F h) ≤ 255; unfold X; omega
  | cons z r => show 0 ≤ (X (F h) + z) % 256 ∧ (X (F h) + z) % 256 ≤ 255; omega
theorem belowM_range {n : Int} (h1 : 1 ≤ n) (s : S) : 0 ≤ (belowM n s).1 ∧ (belowM n s).1 ≤ n - 1 := by
  have key : ∀ x : Int, 0 ≤ x % n ∧ x % n ≤ n - 1 := fun x => by
    have := Int.emod_nonneg x (show n ≠ 0 by omega)
    have := Int.emod_lt_of_pos x (show 0 < n by omega)
    omega
  unfold belowM
  split
  · exact key _
  · exact key _
set_option maxRecDepth 100000 in
set_option maxHeartbeats 400000 in
theorem belowE_small (B b : Nat) (n : Int) (s : S) (w : World) (hc : CurE B b s w) (n1 : 1 ≤ n) (n2 : n ≤ 256) : Calls Tryz.prog 48 #[.pointer (some ⟨b, 0, none⟩), .int .i64 n] w (DrawsE B b w (belowM n s)) := by
  have HC := Lib.hid (byteE B b s w hc); clear hc
  have HR := byteM_range s
  have HM := Lib.hid (show belowM n s = ((byteM s).1 % n, (byteM s).2) by unfold belowM; rw [if_pos n2])
  generalize belowM n s = r at *
  generalize byteM s = q at *
  obtain ⟨x, s1⟩ := q
  dsimp only at HR HM
  go_enter Tryz.func48, Tryz.ntmps48
  go_wp2_with (go_at_call 80; refine HC.out.mono ?_; rintro e w' ⟨rfl, hc1, hw1⟩)
  go_ret
  rw [HM.out]
  exact ⟨rfl, hc1, hw1⟩
set_option maxRecDepth 100000 in
set_option maxHeartbeats 1000000 in
theorem belowE_big (B b : Nat) (n : Int) (s : S) (w : World) (hc : CurE B b s w) (n1 : 256 < n) (n2 : n ≤ 9223372036854775807) : Calls Tryz.prog 48 #[.pointer (some ⟨b, 0, none⟩), .int .i64 n] w (DrawsE B b w (belowM n s)) := by
  have HC := Lib.hid (byteE B b s w hc); clear hc
  have HM := Lib.hid (show belowM n s = (let a := byteM s; let b := byteM a.2; let c := byteM b.2; let d := byteM c.2; ((a.1 * 16777216 + b.1 * 65536 + c.1 * 256 + d.1) % n, d.2)) by unfold belowM; rw [if_neg (by omega)])
  generalize belowM n s = r at *
  have R1 := byteM_range s
  generalize byteM s = q at *
  obtain ⟨x, s1⟩ := q
  dsimp only at R1 HM
  go_enter Tryz.func48, Tryz.ntmps48
  go_wp2_with fail
  refine HC.out.mono ?_; rintro e w1 ⟨rfl, hc1, hw1⟩
  have HC1 := Lib.hid (byteE B b s1 w1 hc1); clear hc1
  have R2 := byteM_range s1
  generalize byteM s1 = q at *
  obtain ⟨y, s2⟩ := q
  dsimp only at R2 HM
  go_wp2_with fail
  refine HC1.out.mono ?_; rintro e w2 ⟨rfl, hc2, hw2⟩
  have HC2 := Lib.hid (byteE B b s2 w2 hc2); clear hc2
  have R3 := byteM_range s2
  generalize byteM s2 = q at *
  obtain ⟨z, s3⟩ := q
  dsimp only at R3 HM
  go_wp2_with fail
  refine HC2.out.mono ?_; rintro e w3 ⟨rfl, hc3, hw3⟩
  have HC3 := Lib.hid (byteE B b s3 w3 hc3); clear hc3
  have R4 := byteM_range s3
  generalize byteM s3 = q at *
  obtain ⟨u, s4⟩ := q
  dsimp only at R4 HM
  go_wp2_with fail
  refine HC3.out.mono ?_; rintro e w4 ⟨rfl, hc4, hw4⟩
  go_wp2_with fail
  go_ret
  rw [HM.out]
  exact ⟨rfl, hc4, ((hw1.trans hw2).trans hw3).trans hw4⟩
theorem belowE (B b : Nat) (n : Int) (s : S) (w : World) (hc : CurE B b s w) (n1 : 1 ≤ n) (n2 : n ≤ 9223372036854775807) : Calls Tryz.prog 48 #[.pointer (some ⟨b, 0, none⟩), .int .i64 n] w (DrawsE B b w (belowM n s)) := by
  by_cases h : n ≤ 256
  · exact belowE_small B b n s w hc n1 h
  · exact belowE_big B b n s w hc (by omega) n2
def DrawsBE (B b : Nat) (w : World) (r : Int × S) (e : Ending) (w' : World) : Prop := e = .returned (.bool (r.1 == 0)) ∧ CurE B b r.2 w' ∧ But b w w'
set_option maxRecDepth 100000 in
theorem onceE (B b : Nat) (n : Int) (s : S) (w : World) (hc : CurE B b s w) (n1 : 1 ≤ n) (n2 : n ≤ 9223372036854775807) : Calls Tryz.prog 68 #[.pointer (some ⟨b, 0, none⟩), .int .i64 n] w (DrawsBE B b w (belowM n s)) := by
  have HC := Lib.hid (belowE B b n s w hc n1 n2); clear hc
  generalize belowM n s = r at *
  obtain ⟨x, s1⟩ := r
  go_enter Tryz.func68, Tryz.ntmps68
  go_wp2_with (go_at_call 48; refine HC.out.mono ?_; rintro e w' ⟨rfl, hc1, hw1⟩)
  go_ret
  exact ⟨rfl, hc1, hw1⟩
end Go.Proofs.YtfnnoehpahdgcaaGreatDoor.Cu
namespace Go.Proofs.YtfnnoehpahdgcaaGreatDoor.Cl
set_option linter.unusedVariables false
open Go.RowKit Wd Rp Cu Kp Lc
def DrawsV (B b : Nat) (w : World) (lo hi : Int) (s : S) (e : Ending) (w' : World) : Prop := ∃ x : Int, e = .returned (.int .i64 x) ∧ lo ≤ x ∧ x ≤ hi ∧ CurE B b s w' ∧ But b w w'
def DrawsNE (B b : Nat) (w : World) (s : S) (e : Ending) (w' : World) : Prop := ∃ t : ByteArray, e = .returned (.string t) ∧ nmB t.data.toList = true ∧ CurE B b s w' ∧ But b w w'
def DrawsXE (n : Nat) (B b : Nat) (w : World) (r : Nat × S) (e : Ending) (w' : World) : Prop := ∃ (v : Value) (l : List Tk), e = .returned v ∧ OT w.heap.size w' v l ∧ l.length ≤ n ∧ l.length = r.1 ∧ SmT l ∧ CurE B b r.2 w' ∧ But b w w'
structure StE (w0 : World) (B b : Nat) (s : S) (w : World) : Prop where
  but : But b w0 w
  cur : CurE B b s w
  lt : b < w0.heap.size
theorem StE.st {w0 w : World} {B b : Nat} {s : S} (h : StE w0 B b s w) : St w0 B b w := ⟨h.but, h.cur.cur, h.lt⟩
theorem StE.alloc {w0 w : World} {B b : Nat} {s : S} (h : StE w0 B b s w) (o : Obj) : StE w0 B b s (w.alloc o) := ⟨h.but.alloc o, h.cur.alloc o, h.lt⟩
theorem StE.draws {w0 w w' : World} {B b : Nat} {s s' : S} (h : StE w0 B b s w) (hb : But b w w') (hc : CurE B b s' w') : StE w0 B b s' w' := ⟨h.but.trans hb, hc, h.lt⟩
theorem StE.size {w0 w : World} {B b : Nat} {s : S} (h : StE w0 B b s w) : w0.heap.size ≤ w.heap.size := h.but.size
theorem StE.grown {w0 w w' : World} {B b : Nat} {s : S} {row : Option Nat} (h : StE w0 B b s w) (hg : w.grownBy w' row) (hr : ∀ k, row = some k → w0.heap.size ≤ k) : StE w0 B b s w' :=
  ⟨h.but.grown hg hr, h.cur.carry (fun k hk => hg.block k (by have := h.cur.le; have := h.cur.lt; omega) (fun e => by have := hr k e.symm; have := h.cur.le; have := h.lt; omega)) (hg.block b h.cur.lt (fun e => by have := hr b e.symm; have := h.lt; omega)), h.lt⟩
theorem StE.below {w0 w w' : World} {B b : Nat} {s : S} (h : StE w0 B b s w) (hb : Below w.heap.size w w') : StE w0 B b s w' :=
  ⟨h.but.below' hb, h.cur.carry (fun k hk => hb.block k (by have := h.cur.le; have := h.cur.lt; omega)) (hb.block b h.cur.lt), h.lt⟩
set_option maxRecDepth 100000 in
set_option maxHeartbeats 1000000 in
theorem wordE (B b : Nat) (s : S) (w : World) (hc : CurE B b s w) : Calls Tryz.prog 72 #[.pointer (some ⟨b, 0, none⟩)] w (DrawsV B b w (-2147483648) 2147483647 (wordM s)) := by
  have HC := Lib.hid (belowE B b 5 s w hc (by decide) (by decide)); clear hc
  have HM := Lib.hid (show wordM s = (let a := belowM 5 s; if a.1 = 0 then (belowM 6 a.2).2 else if a.1 = 1 then (belowM 4294967296 a.2).2 else (belowM 12 a.2).2) from rfl)
  generalize wordM s = r at *
  generalize belowM 5 s = q at *
  obtain ⟨x, s1⟩ := q
  dsimp only at HM
  go_enter Tryz.func72, Tryz.ntmps72
  go_wp2_with fail
  refine HC.out.mono ?_; rintro e w1 ⟨rfl, hc1, hw1⟩
  dsimp only at hc1
  by_cases h0 : x = 0
  · subst h0
    replace HM := Lib.hid (HM.out.trans (if_pos rfl))
    go_wp2_with fail
    have hlt := hc1.lt
    have R := belowM_range (n := 6) (by decide) s1
    refine (belowE B b _ s1 _ (hc1.alloc _) (by decide) (by decide)).mono ?_; rintro e w2 ⟨rfl, hc2, hw2⟩
    generalize belowM 6 s1 = q at *
    obtain ⟨y, s2⟩ := q
    dsimp only at HM R hc2 hw2
    obtain ⟨n, rfl⟩ := Int.eq_ofNat_of_zero_le R.1
    obtain ⟨v, hv, v0, v1⟩ := pick_cell (lo := -2147483648) (hi := 2147483647) hlt hw2 (fun k hk => by
      have hk : k < 6 := hk
      match k, hk with
      | 0, _ => exact ⟨_, rfl, by decide, by decide⟩
      | 1, _ => exact ⟨_, rfl, by decide, by decide⟩
      | 2, _ => exact ⟨_, rfl, by decide, by decide⟩
      | 3, _ => exact ⟨_, rfl, by decide, by decide⟩
      | 4, _ => exact ⟨_, rfl, by decide, by decide⟩
      | 5, _ => exact ⟨_, rfl, by decide, by decide⟩) n (by show n < 6; omega)
    have n1 : (n : Int) < 6 := by omega
    go_wp2_with fail
    go_ret
    exact ⟨_, rfl, v0, v1, by rw [HM.out]; exact hc2, hw1.trans (((But.refl b w1).alloc _).trans hw2)⟩
  replace HM := Lib.hid (HM.out.trans (if_neg h0))
  by_cases h1 : x = 1
  · subst h1
    replace HM := Lib.hid (HM.out.trans (if_pos rfl))
    go_wp2_with fail
    have R := belowM_range (n := 4294967296) (by decide) s1
    refine (belowE B b _ s1 _ hc1 (by decide) (by decide)).mono ?_; rintro e w2 ⟨rfl, hc2, hw2⟩
    generalize belowM 4294967296 s1 = q at *
    obtain ⟨y, s2⟩ := q
    dsimp only at HM R hc2 hw2
    go_wp2_with fail
    go_ret
    exact ⟨_, rfl, by omega, by omega, by rw [HM.out]; exact hc2, hw1.trans hw2⟩
  · replace HM := Lib.hid (HM.out.trans (if_neg h1))
    have e0 : (x == 0) = false := beq_eq_false_iff_ne.2 h0
    have e1 : (x == 1) = false := beq_eq_false_iff_ne.2 h1
    go_wp2_with fail
    have R := belowM_range (n := 12) (by decide) s1
    refine (belowE B b _ s1 _ hc1 (by decide) (by decide)).mono ?_; rintro e w2 ⟨rfl, hc2, hw2⟩
    generalize belowM 12 s1 = q at *
    obtain ⟨y, s2⟩ := q
    dsimp only at HM R hc2 hw2
    go_wp2_with fail
    go_ret
    exact ⟨_, rfl, by omega, by omega, by rw [HM.out]; exact hc2, hw1.trans hw2⟩
set_option maxRecDepth 100000 in
set_option maxHeartbeats 1000000 in
theorem nameE (B b : Nat) (s : S) (w : World) (hc : CurE B b s w) : Calls Tryz.prog 81 #[.pointer (some ⟨b, 0, none⟩)] w (DrawsNE B b w (belowM 6 s).2) := by
  have hlt := hc.lt
  have HC := Lib.hid hc; clear hc
  have R := belowM_range (n := 6) (by decide) s
  go_enter Tryz.func81, Tryz.ntmps81
  go_wp2_with fail
  refine (belowE B b _ s _ (HC.out.alloc _) (by decide) (by decide)).mono ?_; rintro e w2 ⟨rfl, hc2, hw2⟩
  generalize belowM 6 s = q at *
  obtain ⟨y, s2⟩ := q
  dsimp only at R hc2 hw2
  obtain ⟨n, rfl⟩ := Int.eq_ofNat_of_zero_le R.1
  have hp := pick_any hlt hw2 n
  obtain ⟨s, hs, hnm⟩ : ∃ s : ByteArray, w2.cell? ⟨w.heap.size, n, none⟩ = some (.string s) ∧ nmB s.data.toList = true := by
    have hn : n < 6 := by omega
    match n, hn, hp with
    | 0, _, hp => exact ⟨_, hp, by decide⟩
    | 1, _, hp => exact ⟨_, hp, by decide⟩
    | 2, _, hp => exact ⟨_, hp, by decide⟩
    | 3, _, hp => exact ⟨_, hp, by decide⟩
    | 4, _, hp => exact ⟨_, hp, by decide⟩
    | 5, _, hp => exact ⟨_, hp, by decide⟩
  clear hp
  have n1 : (n : Int) < 6 := by omega
  have HP := Lib.hid (And.intro hnm (And.intro hc2 (((But.refl b w).alloc _).trans hw2))); clear hnm hc2 hw2
  go_wp2_with fail
  go_ret
  exact ⟨s, rfl, HP.out⟩
def SumE (n : Nat) (kind dep : Int) (f : S → Nat × S) : Prop := ∀ (B b : Nat) (s : S) (w : World), CurE B b s w →
    Calls Tryz.prog 104 #[.pointer (some ⟨b, 0, none⟩), .int .i64 kind, .int .i64 dep] w (DrawsXE n B b w (f s))
set_option maxHeartbeats 16000000 in
set_option maxRecDepth 100000 in
theorem sumE_leaf (dep : Int) (hdep : dep ≤ 0) (hlo : -1000 ≤ dep) : SumE 1 1 dep (numM 0) := by
  intro B b s w hc
  have HM := Lib.hid (show numM 0 s = (1, leafM s) from rfl)
  generalize numM 0 s = r at *
  have hlt := hc.lt
  have HS0 := Lib.hid (⟨But.refl b w, hc, hlt⟩ : StE w B b s w); clear hc
  have hp : 1 ≤ 1 := by decide
  have k0 : decide (dep ≤ 0) = true := by simpa using hdep
  go_enter Tryz.func104, Tryz.ntmps104
  have HU := Lib.hid (show leafM s = (let a := belowM 4 s; if a.1 = 0 then wordM a.2 else if a.1 = 1 then (belowM 3 a.2).2 else (belowM 6 a.2).2) from rfl)
  generalize leafM s = r1 at *
  have HB := Lib.hid (belowE B b 4 s w HS0.out.cur (by decide) (by decide))
  have RB := belowM_range (n := 4) (by decide) s
  generalize belowM 4 s = q at *
  obtain ⟨y, sa⟩ := q
  dsimp only at RB HU
  go_wp2_with fail
  refine HB.out.mono ?_; rintro e wa ⟨rfl, hc, hw⟩
  have HSa := Lib.hid (HS0.out.draws hw hc); clear hc hw HB HS0
  dsimp only at HSa
  by_cases e0 : y = 0
  · subst e0
    replace HU := Lib.hid (HU.out.trans (if_pos rfl))
    go_wp2_with fail
    refine (wordE B b sa _ HSa.out.cur).mono ?_; rintro e wb ⟨v, rfl, v0, v1, hcb, hwb⟩
    have HSb := Lib.hid (HSa.out.draws hwb hcb); clear hwb hcb HSa
    go_wp2_with fail
    refine (l1Int_any v wb (by omega) (by omega)).mono ?_; rintro e wc ⟨rfl, bc⟩
    have HSc := Lib.hid (HSb.out.below bc); clear bc HSb
    have HL := Lib.hid (lit1 (B := w.heap.size) wc (Lib.itoa v) HSc.out.size)
    have HLN := Lib.hid (Lib.itoa_length_le v (by omega) (by omega))
    go_wp2_with fail
    go_ret
    exact ⟨_, [Lib.itoa v], rfl, HL.out, hp, by rw [HM.out]; rfl, SmT.one (by have := HLN.out; omega), by rw [HM.out, HU.out]; exact (HSc.out.alloc _).cur, (HSc.out.alloc _).but⟩
  have k1 : (y == 0) = false := by rw [beq_eq_false_iff_ne]; exact e0
  replace HU := Lib.hid (HU.out.trans (if_neg e0))
  by_cases e1 : y = 1
  · subst e1
    replace HU := Lib.hid (HU.out.trans (if_pos rfl))
    have HB := Lib.hid (belowE B b 3 sa wa HSa.out.cur (by decide) (by decide))
    have RB := belowM_range (n := 3) (by decide) sa
    generalize belowM 3 sa = q at *
    obtain ⟨v, sb⟩ := q
    dsimp only at RB HU
    go_wp2_with fail
    refine HB.out.mono ?_; rintro e wb ⟨rfl, hc, hw⟩
    have HSb := Lib.hid (HSa.out.draws hw hc); clear hc hw HB HSa
    dsimp only at HSb
    go_wp2_with fail
    refine (l1Int_any v wb (by omega) (by omega)).mono ?_; rintro e wc ⟨rfl, bc⟩
    have HSc := Lib.hid (HSb.out.below bc); clear bc HSb
    have hsz : (⟨(Lib.itoa v).toArray⟩ : ByteArray).size ≤ 21 := by have := Lib.itoa_length_le v (by omega) (by omega); rw [tx_itoa, tx_size]; exact this
    generalize (⟨(Lib.itoa v).toArray⟩ : ByteArray) = t at *
    have hcat : ¬ 9223372036854775807 < (⟨#[64]⟩ : ByteArray).size + t.size := by show ¬ 9223372036854775807 < 1 + t.size; omega
    have HAT := Lib.hid (at_app t)
    have HL := Lib.hid (lit1 (B := w.heap.size) wc (64 :: t.data.toList) HSc.out.size)
    rw [← HAT.out] at HL
    have HLN := Lib.hid hsz
    go_wp2_with fail
    go_ret
    exact ⟨_, [64 :: t.data.toList], rfl, HL.out, hp, by rw [HM.out]; rfl, SmT.one (by have := HLN.out; have := llen t; simp only [List.length_cons]; omega), by rw [HM.out, HU.out]; exact (HSc.out.alloc _).cur, (HSc.out.alloc _).but⟩
  have k2 : (y == 1) = false := by rw [beq_eq_false_iff_ne]; exact e1
  replace HU := Lib.hid (HU.out.trans (if_neg e1))
  go_wp2_with fail
  refine (nameE B b sa _ HSa.out.cur).mono ?_; rintro e wb ⟨s', rfl, hnm, hcb, hwb⟩
  have HSb := Lib.hid (HSa.out.draws hwb hcb); clear hwb hcb HSa
  obtain ⟨t, rfl⟩ : ∃ t, s' = tx t := ⟨_, (tx_of s').symm⟩
  rw [tx_data] at hnm
  have HLN := Lib.hid (nm_len hnm); clear hnm
  have HL := Lib.hid (lit1 (B := w.heap.size) wb t HSb.out.size)
  go_wp2_with fail
  go_ret
  exact ⟨_, [t], rfl, HL.out, hp, by rw [HM.out]; rfl, SmT.one (by have := HLN.out; omega), by rw [HM.out, HU.out]; exact (HSb.out.alloc _).cur, (HSb.out.alloc _).but⟩
set_option maxHeartbeats 16000000 in
set_option maxRecDepth 100000 in
theorem sumE_num (d n : Nat) (hn : n ≤ 100000) (dep : Int) (hdep : 0 < dep) (hhi : dep ≤ 1000) (ih : SumE n 1 (dep - 1) (numM d)) : SumE (1 + n + n) 1 dep (numM (d + 1)) := by
  intro B b s w hc
  have HM := Lib.hid (show numM (d + 1) s = (let a := belowM 2 s; if a.1 = 0 then (1, leafM a.2) else twoM (numM d) (belowM 4 a.2).2) from rfl)
  generalize numM (d + 1) s = r at *
  have hlt := hc.lt
  have HB0 := Lib.hid (onceE B b 2 s w hc (by decide) (by decide))
  generalize belowM 2 s = q at *
  obtain ⟨x, s1⟩ := q
  dsimp only at HM
  have HS0 := Lib.hid (⟨But.refl b w, hc, hlt⟩ : StE w B b s w); clear hc
  have IH1 := Lib.hid ih; clear ih
  have hp : 1 ≤ 1 + n + n := by omega
  have k0 : decide (dep ≤ 0) = false := by simpa using hdep
  go_enter Tryz.func104, Tryz.ntmps104
  go_wp2_with fail
  refine HB0.out.mono ?_; rintro e w1 ⟨rfl, hc1, hw1⟩
  dsimp only at hc1
  have HS1 := Lib.hid (HS0.out.draws hw1 hc1); clear hw1 hc1 HS0 HB0
  by_cases x0 : x = 0
  · subst x0
    replace HM := Lib.hid (HM.out.trans (if_pos rfl))
    clear IH1
    have HU := Lib.hid (show leafM s1 = (let a := belowM 4 s1; if a.1 = 0 then wordM a.2 else if a.1 = 1 then (belowM 3 a.2).2 else (belowM 6 a.2).2) from rfl)
    generalize leafM s1 = r1 at *
    have HB := Lib.hid (belowE B b 4 s1 w1 HS1.out.cur (by decide) (by decide))
    have RB := belowM_range (n := 4) (by decide) s1
    generalize belowM 4 s1 = q at *
    obtain ⟨y, sa⟩ := q
    dsimp only at RB HU
    go_wp2_with fail
    refine HB.out.mono ?_; rintro e wa ⟨rfl, hc, hw⟩
    have HSa := Lib.hid (HS1.out.draws hw hc); clear hc hw HB HS1
    dsimp only at HSa
    by_cases e0 : y = 0
    · subst e0
      replace HU := Lib.hid (HU.out.trans (if_pos rfl))
      go_wp2_with fail
      refine (wordE B b sa _ HSa.out.cur).mono ?_; rintro e wb ⟨v, rfl, v0, v1, hcb, hwb⟩
      have HSb := Lib.hid (HSa.out.draws hwb hcb); clear hwb hcb HSa
      go_wp2_with fail
      refine (l1Int_any v wb (by omega) (by omega)).mono ?_; rintro e wc ⟨rfl, bc⟩
      have HSc := Lib.hid (HSb.out.below bc); clear bc HSb
      have HL := Lib.hid (lit1 (B := w.heap.size) wc (Lib.itoa v) HSc.out.size)
      have HLN := Lib.hid (Lib.itoa_length_le v (by omega) (by omega))
      go_wp2_with fail
      go_ret
      exact ⟨_, [Lib.itoa v], rfl, HL.out, hp, by rw [HM.out]; rfl, SmT.one (by have := HLN.out; omega), by rw [HM.out, HU.out]; exact (HSc.out.alloc _).cur, (HSc.out.alloc _).but⟩
    have k1 : (y == 0) = false := by rw [beq_eq_false_iff_ne]; exact e0
    replace HU := Lib.hid (HU.out.trans (if_neg e0))
    by_cases e1 : y = 1
    · subst e1
      replace HU := Lib.hid (HU.out.trans (if_pos rfl))
      have HB := Lib.hid (belowE B b 3 sa wa HSa.out.cur (by decide) (by decide))
      have RB := belowM_range (n := 3) (by decide) sa
      generalize belowM 3 sa = q at *
      obtain ⟨v, sb⟩ := q
      dsimp only at RB HU
      go_wp2_with fail
      refine HB.out.mono ?_; rintro e wb ⟨rfl, hc, hw⟩
      have HSb := Lib.hid (HSa.out.draws hw hc); clear hc hw HB HSa
      dsimp only at HSb
      go_wp2_with fail
      refine (l1Int_any v wb (by omega) (by omega)).mono ?_; rintro e wc ⟨rfl, bc⟩
      have HSc := Lib.hid (HSb.out.below bc); clear bc HSb
      have hsz : (⟨(Lib.itoa v).toArray⟩ : ByteArray).size ≤ 21 := by have := Lib.itoa_length_le v (by omega) (by omega); rw [tx_itoa, tx_size]; exact this
      generalize (⟨(Lib.itoa v).toArray⟩ : ByteArray) = t at *
      have hcat : ¬ 9223372036854775807 < (⟨#[64]⟩ : ByteArray).size + t.size := by show ¬ 9223372036854775807 < 1 + t.size; omega
      have HAT := Lib.hid (at_app t)
      have HL := Lib.hid (lit1 (B := w.heap.size) wc (64 :: t.data.toList) HSc.out.size)
      rw [← HAT.out] at HL
      have HLN := Lib.hid hsz
      go_wp2_with fail
      go_ret
      exact ⟨_, [64 :: t.data.toList], rfl, HL.out, hp, by rw [HM.out]; rfl, SmT.one (by have := HLN.out; have := llen t; simp only [List.length_cons]; omega), by rw [HM.out, HU.out]; exact (HSc.out.alloc _).cur, (HSc.out.alloc _).but⟩
    have k2 : (y == 1) = false := by rw [beq_eq_false_iff_ne]; exact e1
    replace HU := Lib.hid (HU.out.trans (if_neg e1))
    go_wp2_with fail
    refine (nameE B b sa _ HSa.out.cur).mono ?_; rintro e wb ⟨s', rfl, hnm, hcb, hwb⟩
    have HSb := Lib.hid (HSa.out.draws hwb hcb); clear hwb hcb HSa
    obtain ⟨t, rfl⟩ : ∃ t, s' = tx t := ⟨_, (tx_of s').symm⟩
    rw [tx_data] at hnm
    have HLN := Lib.hid (nm_len hnm); clear hnm
    have HL := Lib.hid (lit1 (B := w.heap.size) wb t HSb.out.size)
    go_wp2_with fail
    go_ret
    exact ⟨_, [t], rfl, HL.out, hp, by rw [HM.out]; rfl, SmT.one (by have := HLN.out; omega), by rw [HM.out, HU.out]; exact (HSb.out.alloc _).cur, (HSb.out.alloc _).but⟩
  · have x1 : (x == 0) = false := beq_eq_false_iff_ne.2 x0
    replace HM := Lib.hid (HM.out.trans (if_neg x0))
    have HLB := Lib.hid (fun o => HS1.out.alloc o)
    go_wp2_with fail
    have R := belowM_range (n := 4) (by decide) s1
    refine (belowE B b _ s1 _ (HLB.out _).cur (by decide) (by decide)).mono ?_; rintro e w2 ⟨rfl, hc2, hw2⟩
    generalize belowM 4 s1 = q at *
    obtain ⟨y, s2⟩ := q
    dsimp only at HM R hc2 hw2
    obtain ⟨m, rfl⟩ := Int.eq_ofNat_of_zero_le R.1
    obtain ⟨s', hs, c0⟩ := pick_tx (ts := [[43], [45], [42], [47]]) HS1.out.cur.lt hw2 (k := m) (by simp; omega)
    have hsl := mem_short hs (by decide)
    have HS2 := Lib.hid ((HLB.out _).draws hw2 hc2); clear hw2 hc2 hs HLB
    have hm4 : m < 4 := by omega
    have HT := Lib.hid (show twoM (numM d) s2 = (1 + (numM d s2).1 + (numM d (numM d s2).2).1, (numM d (numM d s2).2).2) from rfl)
    rw [HT.out] at HM; clear HT
    have HK := Lib.hid (lit1 (B := w.heap.size) w2 s' HS2.out.size)
    have HSa := Lib.hid (HS2.out.alloc (.cells #[.string (tx s')] 9)); clear HS2
    have HC1 := Lib.hid (IH1.out B b s2 _ HSa.out.cur)
    generalize numM d s2 = q1 at *
    obtain ⟨m1, t1⟩ := q1
    dsimp only at HM HC1
    go_wp2_with fail
    refine HC1.out.mono ?_; rintro e x1 ⟨v1, l1, rfl, o1, n1, q1, s1, hd1, hx1⟩
    dsimp only at q1 hd1
    have Q1 := Lib.hid q1; clear q1
    have HK1 := Lib.hid (HK.out.but hx1 hlt)
    have HX1 := Lib.hid (HSa.out.draws hx1 hd1); clear hx1 hd1 HSa HK HC1
    obtain ⟨a1, c1, rfl, hv1⟩ := o1.form
    have HV1 := Lib.hid hv1
    have HM1 := Lib.hid s1
    clear o1 hv1 s1
    go_wp2_with (first
      | (at_builtin; refine append_tx rfl (.tmp 69) (.tmp 74) rfl (base := w.heap.size) (l := [s']) (m := l1) rfl rfl rfl HK1.out HV1.out (by simp; omega) HX1.out.size ?_; intro v2 x2 o2 g2; have O2 := Lib.hid (And.intro o2 g2); clear o2 g2))
    have HX2 := Lib.hid (HX1.out.grown O2.out.2 (fun k hk => OT.lt HK1.out k hk))
    have HC2 := Lib.hid (IH1.out B b t1 _ HX2.out.cur)
    generalize numM d t1 = q2 at *
    obtain ⟨m2, t2⟩ := q2
    dsimp only at HM HC2
    refine HC2.out.mono ?_; rintro e x3 ⟨v3, l3, rfl, o3, n3, q3, s3, hd3, hx3⟩
    dsimp only at q3 hd3
    have Q3 := Lib.hid q3; clear q3
    have HK3 := Lib.hid (O2.out.1.but hx3 hlt)
    have HX3 := Lib.hid (HX2.out.draws hx3 hd3); clear hx3 hd3 HX1 HX2 HC2
    obtain ⟨a3, c3, rfl, hv3⟩ := o3.form
    have HV3 := Lib.hid hv3
    have HM3 := Lib.hid s3
    clear o3 hv3 s3
    go_wp2_with (first
      | (at_builtin; refine append_tx rfl (.tmp 75) (.tmp 80) rfl (base := w.heap.size) (l := [s'] ++ l1) (m := l3) rfl rfl rfl HK3.out HV3.out (by simp; omega) HX3.out.size ?_; intro v4 x4 o4 g4; have O4 := Lib.hid (And.intro o4 g4); clear o4 g4))
    have HX4 := Lib.hid (HX3.out.grown O4.out.2 (fun k hk => OT.lt HK3.out k hk))
    go_ret
    exact ⟨_, _, rfl, O4.out.1, by simp; omega, by rw [HM.out]; have := Q1.out; have := Q3.out; simp; omega, ((SmT.one hsl).app HM1.out).app HM3.out, by rw [HM.out]; exact HX4.out.cur, HX4.out.but⟩
set_option maxHeartbeats 16000000 in
set_option maxRecDepth 100000 in
theorem sumE_tru (n : Nat) (hn : n ≤ 100000) (f g : S → Nat × S) (fM : S → Nat × S) (dep : Int) (hlo : -1000 ≤ dep) (hhi : dep ≤ 1000)
    (hf : ∀ s, fM s = (let a := belowM 4 s; if a.1 = 3 then twoM f a.2 else twoM g a.2)) (ih2 : 1 < dep → SumE n 2 (dep - 1) f) (ih1 : SumE n 1 (dep - 1) g) (he : ¬ 1 < dep → f = g) : SumE (1 + n + n) 2 dep fM := by
  intro B b s w hc
  have HM := Lib.hid (hf s); clear hf
  generalize fM s = r at *
  have hlt := hc.lt
  have R := belowM_range (n := 4) (by decide) s
  have HS0 := Lib.hid (⟨But.refl b w, hc, hlt⟩ : StE w B b s w); clear hc
  have IH1 := Lib.hid ih1; clear ih1
  have IHT := Lib.hid ih2; clear ih2
  have HE := Lib.hid he; clear he
  have HLB := Lib.hid (fun o => HS0.out.alloc o)
  go_enter Tryz.func104, Tryz.ntmps104
  go_wp2_with fail
  refine (belowE B b _ s _ (HLB.out _).cur (by decide) (by decide)).mono ?_; rintro e w2 ⟨rfl, hc2, hw2⟩
  generalize belowM 4 s = q at *
  obtain ⟨y, s2⟩ := q
  dsimp only at HM R hc2 hw2
  obtain ⟨m, rfl⟩ := Int.eq_ofNat_of_zero_le R.1
  obtain ⟨s', hs, c0⟩ := pick_tx (ts := [[60], [60], [61], [38]]) hlt hw2 (k := m) (by simp; omega)
  have hsl := mem_short hs (by decide)
  have HS2 := Lib.hid ((HLB.out _).draws hw2 hc2); clear hw2 hc2 HLB HS0
  have hm4 : m < 4 := by omega
  by_cases h3 : m = 3
  · obtain rfl : s' = [38] := by subst h3; simpa using hs.symm
    clear hs
    replace HM := Lib.hid (HM.out.trans (if_pos (by omega)))
    clear h3
    replace c0 : w2.cell? ⟨w.heap.size, m, none⟩ = some (.string ⟨#[38]⟩) := c0
    by_cases hd1 : 1 < dep
    · have k0 : decide (1 < dep) = true := by simpa using hd1
      have IH2 := Lib.hid (IHT.out hd1); clear IHT HE
      have HT := Lib.hid (show twoM (f) s2 = (1 + (f s2).1 + (f (f s2).2).1, (f (f s2).2).2) from rfl)
      rw [HT.out] at HM; clear HT
      have HK := Lib.hid (lit1 (B := w.heap.size) w2 [38] HS2.out.size)
      have HSa := Lib.hid (HS2.out.alloc (.cells #[.string (tx [38])] 9)); clear HS2
      have HC1 := Lib.hid (IH2.out B b s2 _ HSa.out.cur)
      generalize f s2 = q1 at *
      obtain ⟨m1, t1⟩ := q1
      dsimp only at HM HC1
      go_wp2_with fail
      refine HC1.out.mono ?_; rintro e x1 ⟨v1, l1, rfl, o1, n1, q1, s1, hd1, hx1⟩
      dsimp only at q1 hd1
      have Q1 := Lib.hid q1; clear q1
      have HK1 := Lib.hid (HK.out.but hx1 hlt)
      have HX1 := Lib.hid (HSa.out.draws hx1 hd1); clear hx1 hd1 HSa HK HC1
      obtain ⟨a1, c1, rfl, hv1⟩ := o1.form
      have HV1 := Lib.hid hv1
      have HM1 := Lib.hid s1
      clear o1 hv1 s1
      go_wp2_with (first
        | (at_builtin; refine append_tx rfl (.tmp 26) (.tmp 31) rfl (base := w.heap.size) (l := [[38]]) (m := l1) rfl rfl rfl HK1.out HV1.out (by simp; omega) HX1.out.size ?_; intro v2 x2 o2 g2; have O2 := Lib.hid (And.intro o2 g2); clear o2 g2))
      have HX2 := Lib.hid (HX1.out.grown O2.out.2 (fun k hk => OT.lt HK1.out k hk))
      have HC2 := Lib.hid (IH2.out B b t1 _ HX2.out.cur)
      generalize f t1 = q2 at *
      obtain ⟨m2, t2⟩ := q2
      dsimp only at HM HC2
      refine HC2.out.mono ?_; rintro e x3 ⟨v3, l3, rfl, o3, n3, q3, s3, hd3, hx3⟩
      dsimp only at q3 hd3
      have Q3 := Lib.hid q3; clear q3
      have HK3 := Lib.hid (O2.out.1.but hx3 hlt)
      have HX3 := Lib.hid (HX2.out.draws hx3 hd3); clear hx3 hd3 HX1 HX2 HC2
      obtain ⟨a3, c3, rfl, hv3⟩ := o3.form
      have HV3 := Lib.hid hv3
      have HM3 := Lib.hid s3
      clear o3 hv3 s3
      go_wp2_with (first
        | (at_builtin; refine append_tx rfl (.tmp 32) (.tmp 37) rfl (base := w.heap.size) (l := [[38]] ++ l1) (m := l3) rfl rfl rfl HK3.out HV3.out (by simp; omega) HX3.out.size ?_; intro v4 x4 o4 g4; have O4 := Lib.hid (And.intro o4 g4); clear o4 g4))
      have HX4 := Lib.hid (HX3.out.grown O4.out.2 (fun k hk => OT.lt HK3.out k hk))
      go_ret
      exact ⟨_, _, rfl, O4.out.1, by simp; omega, by rw [HM.out]; have := Q1.out; have := Q3.out; simp; omega, ((SmT.one (by decide)).app HM1.out).app HM3.out, by rw [HM.out]; exact HX4.out.cur, HX4.out.but⟩
    · have k0 : decide (1 < dep) = false := by simpa using hd1
      rw [HE.out (by omega)] at HM
      clear HE IHT
      have HT := Lib.hid (show twoM (g) s2 = (1 + (g s2).1 + (g (g s2).2).1, (g (g s2).2).2) from rfl)
      rw [HT.out] at HM; clear HT
      have HK := Lib.hid (lit1 (B := w.heap.size) w2 [60] HS2.out.size)
      have HSa := Lib.hid (HS2.out.alloc (.cells #[.string (tx [60])] 9)); clear HS2
      have HC1 := Lib.hid (IH1.out B b s2 _ HSa.out.cur)
      generalize g s2 = q1 at *
      obtain ⟨m1, t1⟩ := q1
      dsimp only at HM HC1
      go_wp2_with fail
      refine HC1.out.mono ?_; rintro e x1 ⟨v1, l1, rfl, o1, n1, q1, s1, hd1, hx1⟩
      dsimp only at q1 hd1
      have Q1 := Lib.hid q1; clear q1
      have HK1 := Lib.hid (HK.out.but hx1 hlt)
      have HX1 := Lib.hid (HSa.out.draws hx1 hd1); clear hx1 hd1 HSa HK HC1
      obtain ⟨a1, c1, rfl, hv1⟩ := o1.form
      have HV1 := Lib.hid hv1
      have HM1 := Lib.hid s1
      clear o1 hv1 s1
      go_wp2_with (first
        | (at_builtin; refine append_tx rfl (.tmp 26) (.tmp 31) rfl (base := w.heap.size) (l := [[60]]) (m := l1) rfl rfl rfl HK1.out HV1.out (by simp; omega) HX1.out.size ?_; intro v2 x2 o2 g2; have O2 := Lib.hid (And.intro o2 g2); clear o2 g2))
      have HX2 := Lib.hid (HX1.out.grown O2.out.2 (fun k hk => OT.lt HK1.out k hk))
      have HC2 := Lib.hid (IH1.out B b t1 _ HX2.out.cur)
      generalize g t1 = q2 at *
      obtain ⟨m2, t2⟩ := q2
      dsimp only at HM HC2
      refine HC2.out.mono ?_; rintro e x3 ⟨v3, l3, rfl, o3, n3, q3, s3, hd3, hx3⟩
      dsimp only at q3 hd3
      have Q3 := Lib.hid q3; clear q3
      have HK3 := Lib.hid (O2.out.1.but hx3 hlt)
      have HX3 := Lib.hid (HX2.out.draws hx3 hd3); clear hx3 hd3 HX1 HX2 HC2
      obtain ⟨a3, c3, rfl, hv3⟩ := o3.form
      have HV3 := Lib.hid hv3
      have HM3 := Lib.hid s3
      clear o3 hv3 s3
      go_wp2_with (first
        | (at_builtin; refine append_tx rfl (.tmp 32) (.tmp 37) rfl (base := w.heap.size) (l := [[60]] ++ l1) (m := l3) rfl rfl rfl HK3.out HV3.out (by simp; omega) HX3.out.size ?_; intro v4 x4 o4 g4; have O4 := Lib.hid (And.intro o4 g4); clear o4 g4))
      have HX4 := Lib.hid (HX3.out.grown O4.out.2 (fun k hk => OT.lt HK3.out k hk))
      go_ret
      exact ⟨_, _, rfl, O4.out.1, by simp; omega, by rw [HM.out]; have := Q1.out; have := Q3.out; simp; omega, ((SmT.one (by decide)).app HM1.out).app HM3.out, by rw [HM.out]; exact HX4.out.cur, HX4.out.but⟩
  · replace HM := Lib.hid (HM.out.trans (if_neg (by omega)))
    have h38 : s' ≠ [38] := by
      rintro rfl
      have : m = 0 ∨ m = 1 ∨ m = 2 := by omega
      rcases this with rfl | rfl | rfl <;> simp at hs
    clear hs IHT HE h3
    have q1 := tx_neL h38
    have HT := Lib.hid (show twoM (g) s2 = (1 + (g s2).1 + (g (g s2).2).1, (g (g s2).2).2) from rfl)
    rw [HT.out] at HM; clear HT
    have HK := Lib.hid (lit1 (B := w.heap.size) w2 s' HS2.out.size)
    have HSa := Lib.hid (HS2.out.alloc (.cells #[.string (tx s')] 9)); clear HS2
    have HC1 := Lib.hid (IH1.out B b s2 _ HSa.out.cur)
    generalize g s2 = q1 at *
    obtain ⟨m1, t1⟩ := q1
    dsimp only at HM HC1
    go_wp2_with fail
    refine HC1.out.mono ?_; rintro e x1 ⟨v1, l1, rfl, o1, n1, q1, s1, hd1, hx1⟩
    dsimp only at q1 hd1
    have Q1 := Lib.hid q1; clear q1
    have HK1 := Lib.hid (HK.out.but hx1 hlt)
    have HX1 := Lib.hid (HSa.out.draws hx1 hd1); clear hx1 hd1 HSa HK HC1
    obtain ⟨a1, c1, rfl, hv1⟩ := o1.form
    have HV1 := Lib.hid hv1
    have HM1 := Lib.hid s1
    clear o1 hv1 s1
    go_wp2_with (first
      | (at_builtin; refine append_tx rfl (.tmp 26) (.tmp 31) rfl (base := w.heap.size) (l := [s']) (m := l1) rfl rfl rfl HK1.out HV1.out (by simp; omega) HX1.out.size ?_; intro v2 x2 o2 g2; have O2 := Lib.hid (And.intro o2 g2); clear o2 g2))
    have HX2 := Lib.hid (HX1.out.grown O2.out.2 (fun k hk => OT.lt HK1.out k hk))
    have HC2 := Lib.hid (IH1.out B b t1 _ HX2.out.cur)
    generalize g t1 = q2 at *
    obtain ⟨m2, t2⟩ := q2
    dsimp only at HM HC2
    refine HC2.out.mono ?_; rintro e x3 ⟨v3, l3, rfl, o3, n3, q3, s3, hd3, hx3⟩
    dsimp only at q3 hd3
    have Q3 := Lib.hid q3; clear q3
    have HK3 := Lib.hid (O2.out.1.but hx3 hlt)
    have HX3 := Lib.hid (HX2.out.draws hx3 hd3); clear hx3 hd3 HX1 HX2 HC2
    obtain ⟨a3, c3, rfl, hv3⟩ := o3.form
    have HV3 := Lib.hid hv3
    have HM3 := Lib.hid s3
    clear o3 hv3 s3
    go_wp2_with (first
      | (at_builtin; refine append_tx rfl (.tmp 32) (.tmp 37) rfl (base := w.heap.size) (l := [s'] ++ l1) (m := l3) rfl rfl rfl HK3.out HV3.out (by simp; omega) HX3.out.size ?_; intro v4 x4 o4 g4; have O4 := Lib.hid (And.intro o4 g4); clear o4 g4))
    have HX4 := Lib.hid (HX3.out.grown O4.out.2 (fun k hk => OT.lt HK3.out k hk))
    go_ret
    exact ⟨_, _, rfl, O4.out.1, by simp; omega, by rw [HM.out]; have := Q1.out; have := Q3.out; simp; omega, ((SmT.one hsl).app HM1.out).app HM3.out, by rw [HM.out]; exact HX4.out.cur, HX4.out.but⟩
theorem sumE_num1 : SumE 3 1 1 (numM 1) := sumE_num 0 1 (by decide) 1 (by decide) (by decide) (sumE_leaf _ (by decide) (by decide))
theorem sumE_num2 : SumE 7 1 2 (numM 2) := sumE_num 1 3 (by decide) 2 (by decide) (by decide) sumE_num1
theorem sumE_tru1 : SumE 3 2 1 (truM 1) := sumE_tru 1 (by decide) (numM 0) (numM 0) (truM 1) 1 (by decide) (by decide) (fun s => by show twoM (numM 0) (belowM 4 s).2 = _; dsimp only; split <;> rfl) (fun h => absurd h (by decide)) (sumE_leaf _ (by decide) (by decide)) (fun _ => rfl)
theorem sumE_tru2 : SumE 7 2 2 (truM 2) := sumE_tru 3 (by decide) (truM 1) (numM 1) (truM 2) 2 (by decide) (by decide) (fun s => rfl) (fun _ => sumE_tru1) sumE_num1 (fun h => absurd (show (1 : Int) < 2 by decide) h)
end Go.Proofs.YtfnnoehpahdgcaaGreatDoor.Cl
namespace Go.Proofs.YtfnnoehpahdgcaaGreatDoor.Cl
set_option linter.unusedVariables false
open Go.RowKit Wd Rp Cu Kp Lc
theorem litV (w : World) (ts : List Tk) (h : ts.length ≤ 100) : V1 (w.alloc (.cells (ts.map tv).toArray 9)) (some ⟨w.heap.size, 0, none⟩) ts.length (txL ts) := by
  have h1 := O1.lit (T := 9) (B := 0) (w := w) (Nat.zero_le _) (ts.map tv).toArray (by unfold maxLen; simp; omega)
  have h2 := O1.vw h1
  simp only [List.size_toArray, List.length_map] at h2
  exact h2
def DL (w : World) (B b : Nat) (f : S → Nat × S) (M tot : Nat) (r : Nat × S) (v : Value) (k : Nat) (wr : World) : Prop :=
  ∃ (l : List Tk) (st : S), OT w.heap.size wr v l ∧ SmT l ∧ l.length + k * M ≤ tot ∧ r = (l.length + (loopM f k st).1, (loopM f k st).2) ∧ StE w B b st wr
theorem DL.step {w : World} {B b : Nat} {f : S → Nat × S} {M tot : Nat} {r q : Nat × S} {v' : Value} {k : Nat} {wr' : World} {l L' : List Tk} {st : S} (hk : 0 < k) (hq : f st = q) (ho : OT w.heap.size wr' v' L') (hs : SmT L')
    (hlen : L'.length = l.length + q.1) (hM : q.1 ≤ M) (hl : l.length + k * M ≤ tot) (hr : r = (l.length + (loopM f k st).1, (loopM f k st).2)) (hst : StE w B b q.2 wr') : DL w B b f M tot r v' (k - 1) wr' := by
  obtain ⟨k, rfl⟩ : ∃ j, k = j + 1 := ⟨k - 1, by omega⟩
  refine ⟨L', q.2, ho, hs, ?_, ?_, hst⟩
  · rw [Nat.add_sub_cancel]
    rw [Nat.succ_mul] at hl
    omega
  · rw [hr, Nat.add_sub_cancel]
    show (l.length + ((f st).1 + (loopM f k (f st).2).1), (loopM f k (f st).2).2) = _
    rw [hq, hlen, Nat.add_assoc]
def DeedsC (N : Nat) (dep most : Int) (f : S → Nat × S) : Prop := ∀ (B b : Nat) (s : S) (w : World), CurE B b s w →
    Calls Tryz.prog 92 #[.pointer (some ⟨b, 0, none⟩), .int .i64 dep, .int .i64 most] w (DrawsXE N B b w (f s))
set_option maxHeartbeats 32000000 in
set_option maxRecDepth 100000 in
theorem deeds0E (dep : Int) (hdep : dep ≤ 0) (hlo : -1000 ≤ dep) (M : Nat) (hM : M = 9) (most : Int) (h1 : 1 ≤ most) (h5 : most ≤ 5) :
    DeedsC (4 * M) dep most (fun s => loopM (deedM none) (belowM most s).1.toNat (belowM most s).2) := by
  intro B b s w hc
  have hlt := hc.lt
  have HB0 := Lib.hid (belowE B b most s _ (hc.alloc (.cells #[] 9)) (by omega) (by omega))
  have RB0 := belowM_range h1 s
  have HR0 := Lib.hid (show (fun s => loopM (deedM none) (belowM most s).1.toNat (belowM most s).2) s = loopM (deedM none) (belowM most s).1.toNat (belowM most s).2 from rfl)
  generalize (fun s => loopM (deedM none) (belowM most s).1.toNat (belowM most s).2) s = r at *
  generalize belowM most s = qq at *
  obtain ⟨n0, st0⟩ := qq
  dsimp only at RB0 HR0
  have HS := Lib.hid (StE.alloc ⟨But.refl b w, hc, hlt⟩ : ∀ o, StE w B b s (w.alloc o)); clear hc
  have HO := Lib.hid (show OT w.heap.size (w.alloc (.cells #[] 9)) (.slice (some ⟨w.heap.size, 0, none⟩) 0 0) [] from O1.start (Nat.le_refl _))
  obtain ⟨k0, rfl⟩ := Int.eq_ofNat_of_zero_le RB0.1
  rw [Int.toNat_natCast] at HR0
  go_enter Tryz.func92, Tryz.ntmps92
  go_wp2_with fail
  refine HB0.out.mono ?_; rintro e w0 ⟨rfl, hc, hw⟩
  dsimp only at hc
  have HSW := Lib.hid ((HS.out _).draws hw hc)
  have HOW := Lib.hid (HO.out.but hw hlt)
  clear hc hw HS HO HB0
  go_wp2_with fail
  go_loopw [7, 8, 9] (fun v n _ wr => ∃ k : Nat, k ≤ 4 ∧ n = .int .i64 (k : Int) ∧ DL w B b (deedM none) M (4 * M) r v k wr) (fun _ n _ _ => intV n)
  case atStart => exact ⟨k0, by omega, rfl, [], st0, HOW.out, (fun c hc => by cases hc), (by have : k0 * M ≤ 4 * M := Nat.mul_le_mul_right _ (by omega); simpa using this), by rw [HR0.out] <;> simp, HSW.out⟩
  case round =>
    clear HSW HOW HR0
    obtain ⟨k, hk4, rfl, l, st, ho, hsm, hlk, hr, hst⟩ := hrel
    have HO := Lib.hid ho
    have HSM := Lib.hid hsm
    have HLK := Lib.hid hlk
    have HR := Lib.hid hr
    have HS := Lib.hid hst
    have hl0 : l.length ≤ 4 * M := by omega
    clear ho hsm hlk hr hst
    by_cases hp : 0 < k
    · have i1 : (0 : Int) < (k : Int) := by omega
      have HF := Lib.hid (show deedM none st = deedM none st from rfl)
      have HM := Lib.hid (show deedM none st = (let a := belowM 8 st; if a.1 = 0 then (2, (belowM 6 a.2).2) else if a.1 = 1 then (let b := belowM 4 a.2; (if b.1 = 0 then 1 else 0, b.2)) else if a.1 = 2 ∨ a.1 = 3 then (0, a.2) else if a.1 = 4 then (0, a.2) else (let b := numM 2 (belowM 6 a.2).2; (2 + b.1, b.2))) from rfl)
      generalize hq : deedM none st = q at HM
      replace HF := Lib.hid hq; clear hq
      have HB1 := Lib.hid (belowE B b 8 st wr HS.out.cur (by decide) (by decide))
      have RB1 := belowM_range (n := 8) (by decide) st
      generalize belowM 8 st = qq at *
      obtain ⟨x, st1⟩ := qq
      dsimp only at RB1 HM
      go_wp2_with fail
      refine HB1.out.mono ?_; rintro e w1 ⟨rfl, hc, hw⟩
      dsimp only at hc
      have HS1 := Lib.hid (HS.out.draws hw hc)
      have HO1 := Lib.hid (HO.out.but hw hlt)
      clear hc hw
      clear HB1
      by_cases x0 : x = 0
      · subst x0
        replace HM := Lib.hid (HM.out.trans (if_pos rfl))
        have HB2 := Lib.hid (nameE B b st1 w1 HS1.out.cur)
        generalize belowM 6 st1 = qq at *
        obtain ⟨ny2, st2⟩ := qq
        dsimp only at HM HB2
        go_wp2_with fail
        refine HB2.out.mono ?_; rintro e w2 ⟨tt, rfl, hnm, hc, hw⟩
        obtain ⟨t, rfl⟩ : ∃ t, tt = tx t := ⟨_, (tx_of tt).symm⟩
        rw [tx_data] at hnm
        have HNt := Lib.hid (nm_len hnm); clear hnm HB2
        have HS2 := Lib.hid (HS1.out.draws hw hc)
        have HO2 := Lib.hid (HO1.out.but hw hlt)
        clear hc hw
        have HV3 := Lib.hid (litV w2 [[99, 117, 116], t] (by simp))
        have HP3 := Lib.hid (HS2.out.alloc (.cells ([[99, 117, 116], t].map tv).toArray 9))
        have HQ3 := Lib.hid (HO2.out.next (bel1 w2 (.cells ([[99, 117, 116], t].map tv).toArray 9)))
        go_wp2_with (first
          | (at_builtin; refine append_tx rfl (.tmp 31) (.tmp 34) rfl (base := w.heap.size) (l := l) (m := [[99, 117, 116], t]) rfl rfl rfl HQ3.out HV3.out (by simp; omega) HP3.out.size ?_; intro v3 w3 oo gg; have HS3 := Lib.hid (HP3.out.grown gg (fun k hk => OT.lt HQ3.out k hk)); have HO3 := Lib.hid oo; clear oo gg))
        have i2 : (k : Int) - 1 = ((k - 1 : Nat) : Int) := by omega
        go_roundw
        case rel => exact ⟨k - 1, by omega, by go_num, DL.step hp HF.out HO3.out (SmT.app HSM.out ((SmT.one (by decide)).app (SmT.one (by have := HNt.out; omega)))) (by rw [HM.out]; simp <;> omega) (by rw [HM.out]; (try dsimp only) <;> omega) HLK.out HR.out (by rw [HM.out]; exact HS3.out)⟩
        case measure => simp [intV]; omega
      have e0 : (x == 0) = false := beq_eq_false_iff_ne.2 x0
      replace HM := Lib.hid (HM.out.trans (if_neg x0))
      by_cases x1 : x = 1
      · subst x1
        replace HM := Lib.hid (HM.out.trans (if_pos rfl))
        have HB2 := Lib.hid (onceE B b 4 st1 w1 HS1.out.cur (by decide) (by decide))
        have RB2 := belowM_range (n := 4) (by decide) st1
        generalize belowM 4 st1 = qq at *
        obtain ⟨y, st2⟩ := qq
        dsimp only at RB2 HM
        go_wp2_with fail
        refine HB2.out.mono ?_; rintro e w2 ⟨rfl, hc, hw⟩
        dsimp only at hc
        have HS2 := Lib.hid (HS1.out.draws hw hc)
        have HO2 := Lib.hid (HO1.out.but hw hlt)
        clear hc hw
        clear HB2
        by_cases y0 : y = 0
        · subst y0
          have HV3 := Lib.hid (litV w2 [[115, 116, 111, 112]] (by simp))
          have HP3 := Lib.hid (HS2.out.alloc (.cells ([[115, 116, 111, 112]].map tv).toArray 9))
          have HQ3 := Lib.hid (HO2.out.next (bel1 w2 (.cells ([[115, 116, 111, 112]].map tv).toArray 9)))
          go_wp2_with (first
            | (at_builtin; refine append_tx rfl (.tmp 40) (.tmp 41) rfl (base := w.heap.size) (l := l) (m := [[115, 116, 111, 112]]) rfl rfl rfl HQ3.out HV3.out (by simp; omega) HP3.out.size ?_; intro v3 w3 oo gg; have HS3 := Lib.hid (HP3.out.grown gg (fun k hk => OT.lt HQ3.out k hk)); have HO3 := Lib.hid oo; clear oo gg))
          replace HM := Lib.hid (show q = (1, st2) by rw [HM.out]; simp)
          have i2 : (k : Int) - 1 = ((k - 1 : Nat) : Int) := by omega
          go_roundw
          case rel => exact ⟨k - 1, by omega, by go_num, DL.step hp HF.out HO3.out (SmT.app HSM.out (SmT.one (by decide))) (by rw [HM.out]; simp <;> omega) (by rw [HM.out]; (try dsimp only) <;> omega) HLK.out HR.out (by rw [HM.out]; exact HS3.out)⟩
          case measure => simp [intV]; omega
        · have f0 : (y == 0) = false := beq_eq_false_iff_ne.2 y0
          replace HM := Lib.hid (show q = (0, st2) by rw [HM.out, if_neg y0])
          go_wp2_with fail
          have i2 : (k : Int) - 1 = ((k - 1 : Nat) : Int) := by omega
          go_roundw
          case rel => exact ⟨k - 1, by omega, by go_num, DL.step hp HF.out HO2.out HSM.out (by rw [HM.out]; simp <;> omega) (by rw [HM.out]; (try dsimp only) <;> omega) HLK.out HR.out (by rw [HM.out]; exact HS2.out)⟩
          case measure => simp [intV]; omega
      have e1 : (x == 1) = false := beq_eq_false_iff_ne.2 x1
      replace HM := Lib.hid (HM.out.trans (if_neg x1))
      by_cases x2 : x = 2
      · subst x2
        replace HM := Lib.hid (HM.out.trans (if_pos (Or.inl rfl)))
        try dsimp only at HM
        have d0 : decide (0 < dep) = false := by simpa using hdep
        go_wp2_with fail
        have i2 : (k : Int) - 1 = ((k - 1 : Nat) : Int) := by omega
        go_roundw
        case rel => exact ⟨k - 1, by omega, by go_num, DL.step hp HF.out HO1.out HSM.out (by rw [HM.out]; simp <;> omega) (by rw [HM.out]; (try dsimp only) <;> omega) HLK.out HR.out (by rw [HM.out]; exact HS1.out)⟩
        case measure => simp [intV]; omega
      have e2 : (x == 2) = false := beq_eq_false_iff_ne.2 x2
      by_cases x3 : x = 3
      · subst x3
        replace HM := Lib.hid (HM.out.trans (if_pos (Or.inr rfl)))
        try dsimp only at HM
        have d0 : decide (0 < dep) = false := by simpa using hdep
        go_wp2_with fail
        have i2 : (k : Int) - 1 = ((k - 1 : Nat) : Int) := by omega
        go_roundw
        case rel => exact ⟨k - 1, by omega, by go_num, DL.step hp HF.out HO1.out HSM.out (by rw [HM.out]; simp <;> omega) (by rw [HM.out]; (try dsimp only) <;> omega) HLK.out HR.out (by rw [HM.out]; exact HS1.out)⟩
        case measure => simp [intV]; omega
      have e3 : (x == 3) = false := beq_eq_false_iff_ne.2 x3
      replace HM := Lib.hid (HM.out.trans (if_neg (by omega)))
      by_cases x4 : x = 4
      · subst x4
        replace HM := Lib.hid (HM.out.trans (if_pos rfl))
        try dsimp only at HM
        have d0 : decide (0 < dep) = false := by simpa using hdep
        go_wp2_with fail
        have i2 : (k : Int) - 1 = ((k - 1 : Nat) : Int) := by omega
        go_roundw
        case rel => exact ⟨k - 1, by omega, by go_num, DL.step hp HF.out HO1.out HSM.out (by rw [HM.out]; simp <;> omega) (by rw [HM.out]; (try dsimp only) <;> omega) HLK.out HR.out (by rw [HM.out]; exact HS1.out)⟩
        case measure => simp [intV]; omega
      have e4 : (x == 4) = false := beq_eq_false_iff_ne.2 x4
      replace HM := Lib.hid (HM.out.trans (if_neg x4))
      try dsimp only at HM
      have HB2 := Lib.hid (nameE B b st1 w1 HS1.out.cur)
      generalize belowM 6 st1 = qq at *
      obtain ⟨ny2, st2⟩ := qq
      dsimp only at HM HB2
      go_wp2_with fail
      refine HB2.out.mono ?_; rintro e w2 ⟨tt, rfl, hnm, hc, hw⟩
      obtain ⟨t, rfl⟩ : ∃ t, tt = tx t := ⟨_, (tx_of tt).symm⟩
      rw [tx_data] at hnm
      have HNt := Lib.hid (nm_len hnm); clear hnm HB2
      have HS2 := Lib.hid (HS1.out.draws hw hc)
      have HO2 := Lib.hid (HO1.out.but hw hlt)
      clear hc hw
      have HV3 := Lib.hid (litV w2 [[115, 101, 116], t] (by simp))
      have HP3 := Lib.hid (HS2.out.alloc (.cells ([[115, 101, 116], t].map tv).toArray 9))
      have HQ3 := Lib.hid (HO2.out.next (bel1 w2 (.cells ([[115, 101, 116], t].map tv).toArray 9)))
      go_wp2_with (first
        | (at_builtin; refine append_tx rfl (.tmp 20) (.tmp 23) rfl (base := w.heap.size) (l := l) (m := [[115, 101, 116], t]) rfl rfl rfl HQ3.out HV3.out (by simp; omega) HP3.out.size ?_; intro v3 w3 oo gg; have HS3 := Lib.hid (HP3.out.grown gg (fun k hk => OT.lt HQ3.out k hk)); have HO3 := Lib.hid oo; clear oo gg))
      have HB4 := Lib.hid (sumE_num2 B b st2 w3 HS3.out.cur)
      generalize numM 2 st2 = qq at *
      obtain ⟨m4, st4⟩ := qq
      dsimp only at HM HB4
      refine HB4.out.mono ?_; rintro e w4 ⟨dv4, dl4, rfl, od, nd4, qd, sd, hc, hw⟩
      dsimp only at qd hc
      have QD4 := Lib.hid qd
      have SD4 := Lib.hid sd
      obtain ⟨da4, dc4, rfl, hvd⟩ := od.form
      have HV4 := Lib.hid hvd
      clear qd sd od hvd HB4
      have HS4 := Lib.hid (HS3.out.draws hw hc)
      have HO4 := Lib.hid (HO3.out.but hw hlt)
      clear hc hw
      go_wp2_with (first
        | (at_builtin; refine append_tx rfl (.tmp 25) (.tmp 27) rfl (base := w.heap.size) (l := (l ++ [[115, 101, 116], t])) (m := dl4) rfl rfl rfl HO4.out HV4.out (by simp; omega) HS4.out.size ?_; intro v5 w5 oo gg; have HS5 := Lib.hid (HS4.out.grown gg (fun k hk => OT.lt HO4.out k hk)); have HO5 := Lib.hid oo; clear oo gg))
      have i2 : (k : Int) - 1 = ((k - 1 : Nat) : Int) := by omega
      go_roundw
      case rel => exact ⟨k - 1, by omega, by go_num, DL.step hp HF.out HO5.out (SmT.app (SmT.app HSM.out ((SmT.one (by decide)).app (SmT.one (by have := HNt.out; omega)))) SD4.out) (by rw [HM.out]; have := QD4.out; simp <;> omega) (by rw [HM.out]; have := QD4.out; (try dsimp only) <;> omega) HLK.out HR.out (by rw [HM.out]; exact HS5.out)⟩
      case measure => simp [intV]; omega
    · obtain rfl : k = 0 := by omega
      go_wp2_with fail
      go_ret
      exact ⟨_, l, rfl, HO.out, hl0, by rw [HR.out]; rfl, HSM.out, by rw [HR.out]; exact HS.out.cur, HS.out.but⟩
set_option maxHeartbeats 32000000 in
set_option maxRecDepth 100000 in
theorem deeds1E (N : Nat) (hN : N ≤ 10000) (dep : Int) (hdep : 0 < dep) (hhi : dep ≤ 1000) (D : Int → S → Nat × S) (ih3 : DeedsC N (dep - 1) 3 (D 3)) (ih2 : DeedsC N (dep - 1) 2 (D 2)) (M : Nat) (hM : M = 12 + 2 * N) (most : Int) (h1 : 1 ≤ most) (h5 : most ≤ 5) :
    DeedsC (4 * M) dep most (fun s => loopM (deedM (some D)) (belowM most s).1.toNat (belowM most s).2) := by
  intro B b s w hc
  have hlt := hc.lt
  have HB0 := Lib.hid (belowE B b most s _ (hc.alloc (.cells #[] 9)) (by omega) (by omega))
  have RB0 := belowM_range h1 s
  have HR0 := Lib.hid (show (fun s => loopM (deedM (some D)) (belowM most s).1.toNat (belowM most s).2) s = loopM (deedM (some D)) (belowM most s).1.toNat (belowM most s).2 from rfl)
  generalize (fun s => loopM (deedM (some D)) (belowM most s).1.toNat (belowM most s).2) s = r at *
  generalize belowM most s = qq at *
  obtain ⟨n0, st0⟩ := qq
  dsimp only at RB0 HR0
  have HS := Lib.hid (StE.alloc ⟨But.refl b w, hc, hlt⟩ : ∀ o, StE w B b s (w.alloc o)); clear hc
  have HO := Lib.hid (show OT w.heap.size (w.alloc (.cells #[] 9)) (.slice (some ⟨w.heap.size, 0, none⟩) 0 0) [] from O1.start (Nat.le_refl _))
  have IH3 := Lib.hid ih3; clear ih3
  have IH2 := Lib.hid ih2; clear ih2
  obtain ⟨k0, rfl⟩ := Int.eq_ofNat_of_zero_le RB0.1
  rw [Int.toNat_natCast] at HR0
  go_enter Tryz.func92, Tryz.ntmps92
  go_wp2_with fail
  refine HB0.out.mono ?_; rintro e w0 ⟨rfl, hc, hw⟩
  dsimp only at hc
  have HSW := Lib.hid ((HS.out _).draws hw hc)
  have HOW := Lib.hid (HO.out.but hw hlt)
  clear hc hw HS HO HB0
  go_wp2_with fail
  go_loopw [7, 8, 9] (fun v n _ wr => ∃ k : Nat, k ≤ 4 ∧ n = .int .i64 (k : Int) ∧ DL w B b (deedM (some D)) M (4 * M) r v k wr) (fun _ n _ _ => intV n)
  case atStart => exact ⟨k0, by omega, rfl, [], st0, HOW.out, (fun c hc => by cases hc), (by have : k0 * M ≤ 4 * M := Nat.mul_le_mul_right _ (by omega); simpa using this), by rw [HR0.out] <;> simp, HSW.out⟩
  case round =>
    clear HSW HOW HR0
    obtain ⟨k, hk4, rfl, l, st, ho, hsm, hlk, hr, hst⟩ := hrel
    have HO := Lib.hid ho
    have HSM := Lib.hid hsm
    have HLK := Lib.hid hlk
    have HR := Lib.hid hr
    have HS := Lib.hid hst
    have hl0 : l.length ≤ 4 * M := by omega
    clear ho hsm hlk hr hst
    by_cases hp : 0 < k
    · have i1 : (0 : Int) < (k : Int) := by omega
      have HF := Lib.hid (show deedM (some D) st = deedM (some D) st from rfl)
      have HM := Lib.hid (show deedM (some D) st = (let a := belowM 8 st; if a.1 = 0 then (2, (belowM 6 a.2).2) else if a.1 = 1 then (let b := belowM 4 a.2; (if b.1 = 0 then 1 else 0, b.2)) else if a.1 = 2 ∨ a.1 = 3 then (let t := truM 2 a.2; let b := D 3 t.2; let c := D 3 b.2; (1 + t.1 + 1 + b.1 + 2 + c.1 + 1, c.2)) else if a.1 = 4 then (let b := D 2 (belowM 12 (belowM 6 a.2).2).2; (5 + b.1 + 6, b.2)) else (let b := numM 2 (belowM 6 a.2).2; (2 + b.1, b.2))) from rfl)
      generalize hq : deedM (some D) st = q at HM
      replace HF := Lib.hid hq; clear hq
      have HB1 := Lib.hid (belowE B b 8 st wr HS.out.cur (by decide) (by decide))
      have RB1 := belowM_range (n := 8) (by decide) st
      generalize belowM 8 st = qq at *
      obtain ⟨x, st1⟩ := qq
      dsimp only at RB1 HM
      go_wp2_with fail
      refine HB1.out.mono ?_; rintro e w1 ⟨rfl, hc, hw⟩
      dsimp only at hc
      have HS1 := Lib.hid (HS.out.draws hw hc)
      have HO1 := Lib.hid (HO.out.but hw hlt)
      clear hc hw
      clear HB1
      by_cases x0 : x = 0
      · subst x0
        replace HM := Lib.hid (HM.out.trans (if_pos rfl))
        have HB2 := Lib.hid (nameE B b st1 w1 HS1.out.cur)
        generalize belowM 6 st1 = qq at *
        obtain ⟨ny2, st2⟩ := qq
        dsimp only at HM HB2
        go_wp2_with fail
        refine HB2.out.mono ?_; rintro e w2 ⟨tt, rfl, hnm, hc, hw⟩
        obtain ⟨t, rfl⟩ : ∃ t, tt = tx t := ⟨_, (tx_of tt).symm⟩
        rw [tx_data] at hnm
        have HNt := Lib.hid (nm_len hnm); clear hnm HB2
        have HS2 := Lib.hid (HS1.out.draws hw hc)
        have HO2 := Lib.hid (HO1.out.but hw hlt)
        clear hc hw
        have HV3 := Lib.hid (litV w2 [[99, 117, 116], t] (by simp))
        have HP3 := Lib.hid (HS2.out.alloc (.cells ([[99, 117, 116], t].map tv).toArray 9))
        have HQ3 := Lib.hid (HO2.out.next (bel1 w2 (.cells ([[99, 117, 116], t].map tv).toArray 9)))
        go_wp2_with (first
          | (at_builtin; refine append_tx rfl (.tmp 31) (.tmp 34) rfl (base := w.heap.size) (l := l) (m := [[99, 117, 116], t]) rfl rfl rfl HQ3.out HV3.out (by simp; omega) HP3.out.size ?_; intro v3 w3 oo gg; have HS3 := Lib.hid (HP3.out.grown gg (fun k hk => OT.lt HQ3.out k hk)); have HO3 := Lib.hid oo; clear oo gg))
        have i2 : (k : Int) - 1 = ((k - 1 : Nat) : Int) := by omega
        go_roundw
        case rel => exact ⟨k - 1, by omega, by go_num, DL.step hp HF.out HO3.out (SmT.app HSM.out ((SmT.one (by decide)).app (SmT.one (by have := HNt.out; omega)))) (by rw [HM.out]; simp <;> omega) (by rw [HM.out]; (try dsimp only) <;> omega) HLK.out HR.out (by rw [HM.out]; exact HS3.out)⟩
        case measure => simp [intV]; omega
      have e0 : (x == 0) = false := beq_eq_false_iff_ne.2 x0
      replace HM := Lib.hid (HM.out.trans (if_neg x0))
      by_cases x1 : x = 1
      · subst x1
        replace HM := Lib.hid (HM.out.trans (if_pos rfl))
        have HB2 := Lib.hid (onceE B b 4 st1 w1 HS1.out.cur (by decide) (by decide))
        have RB2 := belowM_range (n := 4) (by decide) st1
        generalize belowM 4 st1 = qq at *
        obtain ⟨y, st2⟩ := qq
        dsimp only at RB2 HM
        go_wp2_with fail
        refine HB2.out.mono ?_; rintro e w2 ⟨rfl, hc, hw⟩
        dsimp only at hc
        have HS2 := Lib.hid (HS1.out.draws hw hc)
        have HO2 := Lib.hid (HO1.out.but hw hlt)
        clear hc hw
        clear HB2
        by_cases y0 : y = 0
        · subst y0
          have HV3 := Lib.hid (litV w2 [[115, 116, 111, 112]] (by simp))
          have HP3 := Lib.hid (HS2.out.alloc (.cells ([[115, 116, 111, 112]].map tv).toArray 9))
          have HQ3 := Lib.hid (HO2.out.next (bel1 w2 (.cells ([[115, 116, 111, 112]].map tv).toArray 9)))
          go_wp2_with (first
            | (at_builtin; refine append_tx rfl (.tmp 40) (.tmp 41) rfl (base := w.heap.size) (l := l) (m := [[115, 116, 111, 112]]) rfl rfl rfl HQ3.out HV3.out (by simp; omega) HP3.out.size ?_; intro v3 w3 oo gg; have HS3 := Lib.hid (HP3.out.grown gg (fun k hk => OT.lt HQ3.out k hk)); have HO3 := Lib.hid oo; clear oo gg))
          replace HM := Lib.hid (show q = (1, st2) by rw [HM.out]; simp)
          have i2 : (k : Int) - 1 = ((k - 1 : Nat) : Int) := by omega
          go_roundw
          case rel => exact ⟨k - 1, by omega, by go_num, DL.step hp HF.out HO3.out (SmT.app HSM.out (SmT.one (by decide))) (by rw [HM.out]; simp <;> omega) (by rw [HM.out]; (try dsimp only) <;> omega) HLK.out HR.out (by rw [HM.out]; exact HS3.out)⟩
          case measure => simp [intV]; omega
        · have f0 : (y == 0) = false := beq_eq_false_iff_ne.2 y0
          replace HM := Lib.hid (show q = (0, st2) by rw [HM.out, if_neg y0])
          go_wp2_with fail
          have i2 : (k : Int) - 1 = ((k - 1 : Nat) : Int) := by omega
          go_roundw
          case rel => exact ⟨k - 1, by omega, by go_num, DL.step hp HF.out HO2.out HSM.out (by rw [HM.out]; simp <;> omega) (by rw [HM.out]; (try dsimp only) <;> omega) HLK.out HR.out (by rw [HM.out]; exact HS2.out)⟩
          case measure => simp [intV]; omega
      have e1 : (x == 1) = false := beq_eq_false_iff_ne.2 x1
      replace HM := Lib.hid (HM.out.trans (if_neg x1))
      by_cases x2 : x = 2
      · subst x2
        replace HM := Lib.hid (HM.out.trans (if_pos (Or.inl rfl)))
        try dsimp only at HM
        have d0 : decide (0 < dep) = true := by simpa using hdep
        have d1 : IntKind.i64.wrap (dep - 1) = dep - 1 := by rw [IntKind.wrap_i64]; omega
        have HV2 := Lib.hid (litV w1 [[105, 102]] (by simp))
        have HP2 := Lib.hid (HS1.out.alloc (.cells ([[105, 102]].map tv).toArray 9))
        have HQ2 := Lib.hid (HO1.out.next (bel1 w1 (.cells ([[105, 102]].map tv).toArray 9)))
        go_wp2_with (first
          | (at_builtin; refine append_tx rfl (.tmp 48) (.tmp 49) rfl (base := w.heap.size) (l := l) (m := [[105, 102]]) rfl rfl rfl HQ2.out HV2.out (by simp; omega) HP2.out.size ?_; intro v2 w2 oo gg; have HS2 := Lib.hid (HP2.out.grown gg (fun k hk => OT.lt HQ2.out k hk)); have HO2 := Lib.hid oo; clear oo gg))
        have HB3 := Lib.hid (sumE_tru2 B b st1 w2 HS2.out.cur)
        generalize truM 2 st1 = qq at *
        obtain ⟨m3, st3⟩ := qq
        dsimp only at HM HB3
        refine HB3.out.mono ?_; rintro e w3 ⟨dv3, dl3, rfl, od, nd3, qd, sd, hc, hw⟩
        dsimp only at qd hc
        have QD3 := Lib.hid qd
        have SD3 := Lib.hid sd
        obtain ⟨da3, dc3, rfl, hvd⟩ := od.form
        have HV3 := Lib.hid hvd
        clear qd sd od hvd HB3
        have HS3 := Lib.hid (HS2.out.draws hw hc)
        have HO3 := Lib.hid (HO2.out.but hw hlt)
        clear hc hw
        go_wp2_with (first
          | (at_builtin; refine append_tx rfl (.tmp 51) (.tmp 53) rfl (base := w.heap.size) (l := (l ++ [[105, 102]])) (m := dl3) rfl rfl rfl HO3.out HV3.out (by simp; omega) HS3.out.size ?_; intro v4 w4 oo gg; have HS4 := Lib.hid (HS3.out.grown gg (fun k hk => OT.lt HO3.out k hk)); have HO4 := Lib.hid oo; clear oo gg; have HV5 := Lib.hid (litV w4 [[91]] (by simp)); have HP5 := Lib.hid (HS4.out.alloc (.cells ([[91]].map tv).toArray 9)); have HQ5 := Lib.hid (HO4.out.next (bel1 w4 (.cells ([[91]].map tv).toArray 9))))
          | (at_builtin; refine append_tx rfl (.tmp 55) (.tmp 56) rfl (base := w.heap.size) (l := ((l ++ [[105, 102]]) ++ dl3)) (m := [[91]]) rfl rfl rfl HQ5.out HV5.out (by simp; omega) HP5.out.size ?_; intro v5 w5 oo gg; have HS5 := Lib.hid (HP5.out.grown gg (fun k hk => OT.lt HQ5.out k hk)); have HO5 := Lib.hid oo; clear oo gg))
        have HB6 := Lib.hid (IH3.out B b st3 w5 HS5.out.cur)
        generalize D 3 st3 = qq at *
        obtain ⟨m6, st6⟩ := qq
        dsimp only at HM HB6
        refine HB6.out.mono ?_; rintro e w6 ⟨dv6, dl6, rfl, od, nd6, qd, sd, hc, hw⟩
        dsimp only at qd hc
        have QD6 := Lib.hid qd
        have SD6 := Lib.hid sd
        obtain ⟨da6, dc6, rfl, hvd⟩ := od.form
        have HV6 := Lib.hid hvd
        clear qd sd od hvd HB6
        have HS6 := Lib.hid (HS5.out.draws hw hc)
        have HO6 := Lib.hid (HO5.out.but hw hlt)
        clear hc hw
        go_wp2_with (first
          | (at_builtin; refine append_tx rfl (.tmp 57) (.tmp 61) rfl (base := w.heap.size) (l := (((l ++ [[105, 102]]) ++ dl3) ++ [[91]])) (m := dl6) rfl rfl rfl HO6.out HV6.out (by simp; omega) HS6.out.size ?_; intro v7 w7 oo gg; have HS7 := Lib.hid (HS6.out.grown gg (fun k hk => OT.lt HO6.out k hk)); have HO7 := Lib.hid oo; clear oo gg; have HV8 := Lib.hid (litV w7 [[93], [91]] (by simp)); have HP8 := Lib.hid (HS7.out.alloc (.cells ([[93], [91]].map tv).toArray 9)); have HQ8 := Lib.hid (HO7.out.next (bel1 w7 (.cells ([[93], [91]].map tv).toArray 9))))
          | (at_builtin; refine append_tx rfl (.tmp 62) (.tmp 63) rfl (base := w.heap.size) (l := ((((l ++ [[105, 102]]) ++ dl3) ++ [[91]]) ++ dl6)) (m := [[93], [91]]) rfl rfl rfl HQ8.out HV8.out (by simp; omega) HP8.out.size ?_; intro v8 w8 oo gg; have HS8 := Lib.hid (HP8.out.grown gg (fun k hk => OT.lt HQ8.out k hk)); have HO8 := Lib.hid oo; clear oo gg))
        have HB9 := Lib.hid (IH3.out B b st6 w8 HS8.out.cur)
        generalize D 3 st6 = qq at *
        obtain ⟨m9, st9⟩ := qq
        dsimp only at HM HB9
        refine HB9.out.mono ?_; rintro e w9 ⟨dv9, dl9, rfl, od, nd9, qd, sd, hc, hw⟩
        dsimp only at qd hc
        have QD9 := Lib.hid qd
        have SD9 := Lib.hid sd
        obtain ⟨da9, dc9, rfl, hvd⟩ := od.form
        have HV9 := Lib.hid hvd
        clear qd sd od hvd HB9
        have HS9 := Lib.hid (HS8.out.draws hw hc)
        have HO9 := Lib.hid (HO8.out.but hw hlt)
        clear hc hw
        go_wp2_with (first
          | (at_builtin; refine append_tx rfl (.tmp 65) (.tmp 69) rfl (base := w.heap.size) (l := (((((l ++ [[105, 102]]) ++ dl3) ++ [[91]]) ++ dl6) ++ [[93], [91]])) (m := dl9) rfl rfl rfl HO9.out HV9.out (by simp; omega) HS9.out.size ?_; intro v10 w10 oo gg; have HS10 := Lib.hid (HS9.out.grown gg (fun k hk => OT.lt HO9.out k hk)); have HO10 := Lib.hid oo; clear oo gg; have HV11 := Lib.hid (litV w10 [[93]] (by simp)); have HP11 := Lib.hid (HS10.out.alloc (.cells ([[93]].map tv).toArray 9)); have HQ11 := Lib.hid (HO10.out.next (bel1 w10 (.cells ([[93]].map tv).toArray 9))))
          | (at_builtin; refine append_tx rfl (.tmp 70) (.tmp 71) rfl (base := w.heap.size) (l := ((((((l ++ [[105, 102]]) ++ dl3) ++ [[91]]) ++ dl6) ++ [[93], [91]]) ++ dl9)) (m := [[93]]) rfl rfl rfl HQ11.out HV11.out (by simp; omega) HP11.out.size ?_; intro v11 w11 oo gg; have HS11 := Lib.hid (HP11.out.grown gg (fun k hk => OT.lt HQ11.out k hk)); have HO11 := Lib.hid oo; clear oo gg))
        have i2 : (k : Int) - 1 = ((k - 1 : Nat) : Int) := by omega
        go_roundw
        case rel => exact ⟨k - 1, by omega, by go_num, DL.step hp HF.out HO11.out (SmT.app (SmT.app (SmT.app (SmT.app (SmT.app (SmT.app (SmT.app HSM.out (SmT.one (by decide))) SD3.out) (SmT.one (by decide))) SD6.out) ((SmT.one (by decide)).app (SmT.one (by decide)))) SD9.out) (SmT.one (by decide))) (by rw [HM.out]; have := QD3.out; have := QD6.out; have := QD9.out; simp <;> omega) (by rw [HM.out]; have := QD3.out; have := QD6.out; have := QD9.out; (try dsimp only) <;> omega) HLK.out HR.out (by rw [HM.out]; exact HS11.out)⟩
        case measure => simp [intV]; omega
      have e2 : (x == 2) = false := beq_eq_false_iff_ne.2 x2
      by_cases x3 : x = 3
      · subst x3
        replace HM := Lib.hid (HM.out.trans (if_pos (Or.inr rfl)))
        try dsimp only at HM
        have d0 : decide (0 < dep) = true := by simpa using hdep
        have d1 : IntKind.i64.wrap (dep - 1) = dep - 1 := by rw [IntKind.wrap_i64]; omega
        have HV2 := Lib.hid (litV w1 [[105, 102]] (by simp))
        have HP2 := Lib.hid (HS1.out.alloc (.cells ([[105, 102]].map tv).toArray 9))
        have HQ2 := Lib.hid (HO1.out.next (bel1 w1 (.cells ([[105, 102]].map tv).toArray 9)))
        go_wp2_with (first
          | (at_builtin; refine append_tx rfl (.tmp 48) (.tmp 49) rfl (base := w.heap.size) (l := l) (m := [[105, 102]]) rfl rfl rfl HQ2.out HV2.out (by simp; omega) HP2.out.size ?_; intro v2 w2 oo gg; have HS2 := Lib.hid (HP2.out.grown gg (fun k hk => OT.lt HQ2.out k hk)); have HO2 := Lib.hid oo; clear oo gg))
        have HB3 := Lib.hid (sumE_tru2 B b st1 w2 HS2.out.cur)
        generalize truM 2 st1 = qq at *
        obtain ⟨m3, st3⟩ := qq
        dsimp only at HM HB3
        refine HB3.out.mono ?_; rintro e w3 ⟨dv3, dl3, rfl, od, nd3, qd, sd, hc, hw⟩
        dsimp only at qd hc
        have QD3 := Lib.hid qd
        have SD3 := Lib.hid sd
        obtain ⟨da3, dc3, rfl, hvd⟩ := od.form
        have HV3 := Lib.hid hvd
        clear qd sd od hvd HB3
        have HS3 := Lib.hid (HS2.out.draws hw hc)
        have HO3 := Lib.hid (HO2.out.but hw hlt)
        clear hc hw
        go_wp2_with (first
          | (at_builtin; refine append_tx rfl (.tmp 51) (.tmp 53) rfl (base := w.heap.size) (l := (l ++ [[105, 102]])) (m := dl3) rfl rfl rfl HO3.out HV3.out (by simp; omega) HS3.out.size ?_; intro v4 w4 oo gg; have HS4 := Lib.hid (HS3.out.grown gg (fun k hk => OT.lt HO3.out k hk)); have HO4 := Lib.hid oo; clear oo gg; have HV5 := Lib.hid (litV w4 [[91]] (by simp)); have HP5 := Lib.hid (HS4.out.alloc (.cells ([[91]].map tv).toArray 9)); have HQ5 := Lib.hid (HO4.out.next (bel1 w4 (.cells ([[91]].map tv).toArray 9))))
          | (at_builtin; refine append_tx rfl (.tmp 55) (.tmp 56) rfl (base := w.heap.size) (l := ((l ++ [[105, 102]]) ++ dl3)) (m := [[91]]) rfl rfl rfl HQ5.out HV5.out (by simp; omega) HP5.out.size ?_; intro v5 w5 oo gg; have HS5 := Lib.hid (HP5.out.grown gg (fun k hk => OT.lt HQ5.out k hk)); have HO5 := Lib.hid oo; clear oo gg))
        have HB6 := Lib.hid (IH3.out B b st3 w5 HS5.out.cur)
        generalize D 3 st3 = qq at *
        obtain ⟨m6, st6⟩ := qq
        dsimp only at HM HB6
        refine HB6.out.mono ?_; rintro e w6 ⟨dv6, dl6, rfl, od, nd6, qd, sd, hc, hw⟩
        dsimp only at qd hc
        have QD6 := Lib.hid qd
        have SD6 := Lib.hid sd
        obtain ⟨da6, dc6, rfl, hvd⟩ := od.form
        have HV6 := Lib.hid hvd
        clear qd sd od hvd HB6
        have HS6 := Lib.hid (HS5.out.draws hw hc)
        have HO6 := Lib.hid (HO5.out.but hw hlt)
        clear hc hw
        go_wp2_with (first
          | (at_builtin; refine append_tx rfl (.tmp 57) (.tmp 61) rfl (base := w.heap.size) (l := (((l ++ [[105, 102]]) ++ dl3) ++ [[91]])) (m := dl6) rfl rfl rfl HO6.out HV6.out (by simp; omega) HS6.out.size ?_; intro v7 w7 oo gg; have HS7 := Lib.hid (HS6.out.grown gg (fun k hk => OT.lt HO6.out k hk)); have HO7 := Lib.hid oo; clear oo gg; have HV8 := Lib.hid (litV w7 [[93], [91]] (by simp)); have HP8 := Lib.hid (HS7.out.alloc (.cells ([[93], [91]].map tv).toArray 9)); have HQ8 := Lib.hid (HO7.out.next (bel1 w7 (.cells ([[93], [91]].map tv).toArray 9))))
          | (at_builtin; refine append_tx rfl (.tmp 62) (.tmp 63) rfl (base := w.heap.size) (l := ((((l ++ [[105, 102]]) ++ dl3) ++ [[91]]) ++ dl6)) (m := [[93], [91]]) rfl rfl rfl HQ8.out HV8.out (by simp; omega) HP8.out.size ?_; intro v8 w8 oo gg; have HS8 := Lib.hid (HP8.out.grown gg (fun k hk => OT.lt HQ8.out k hk)); have HO8 := Lib.hid oo; clear oo gg))
        have HB9 := Lib.hid (IH3.out B b st6 w8 HS8.out.cur)
        generalize D 3 st6 = qq at *
        obtain ⟨m9, st9⟩ := qq
        dsimp only at HM HB9
        refine HB9.out.mono ?_; rintro e w9 ⟨dv9, dl9, rfl, od, nd9, qd, sd, hc, hw⟩
        dsimp only at qd hc
        have QD9 := Lib.hid qd
        have SD9 := Lib.hid sd
        obtain ⟨da9, dc9, rfl, hvd⟩ := od.form
        have HV9 := Lib.hid hvd
        clear qd sd od hvd HB9
        have HS9 := Lib.hid (HS8.out.draws hw hc)
        have HO9 := Lib.hid (HO8.out.but hw hlt)
        clear hc hw
        go_wp2_with (first
          | (at_builtin; refine append_tx rfl (.tmp 65) (.tmp 69) rfl (base := w.heap.size) (l := (((((l ++ [[105, 102]]) ++ dl3) ++ [[91]]) ++ dl6) ++ [[93], [91]])) (m := dl9) rfl rfl rfl HO9.out HV9.out (by simp; omega) HS9.out.size ?_; intro v10 w10 oo gg; have HS10 := Lib.hid (HS9.out.grown gg (fun k hk => OT.lt HO9.out k hk)); have HO10 := Lib.hid oo; clear oo gg; have HV11 := Lib.hid (litV w10 [[93]] (by simp)); have HP11 := Lib.hid (HS10.out.alloc (.cells ([[93]].map tv).toArray 9)); have HQ11 := Lib.hid (HO10.out.next (bel1 w10 (.cells ([[93]].map tv).toArray 9))))
          | (at_builtin; refine append_tx rfl (.tmp 70) (.tmp 71) rfl (base := w.heap.size) (l := ((((((l ++ [[105, 102]]) ++ dl3) ++ [[91]]) ++ dl6) ++ [[93], [91]]) ++ dl9)) (m := [[93]]) rfl rfl rfl HQ11.out HV11.out (by simp; omega) HP11.out.size ?_; intro v11 w11 oo gg; have HS11 := Lib.hid (HP11.out.grown gg (fun k hk => OT.lt HQ11.out k hk)); have HO11 := Lib.hid oo; clear oo gg))
        have i2 : (k : Int) - 1 = ((k - 1 : Nat) : Int) := by omega
        go_roundw
        case rel => exact ⟨k - 1, by omega, by go_num, DL.step hp HF.out HO11.out (SmT.app (SmT.app (SmT.app (SmT.app (SmT.app (SmT.app (SmT.app HSM.out (SmT.one (by decide))) SD3.out) (SmT.one (by decide))) SD6.out) ((SmT.one (by decide)).app (SmT.one (by decide)))) SD9.out) (SmT.one (by decide))) (by rw [HM.out]; have := QD3.out; have := QD6.out; have := QD9.out; simp <;> omega) (by rw [HM.out]; have := QD3.out; have := QD6.out; have := QD9.out; (try dsimp only) <;> omega) HLK.out HR.out (by rw [HM.out]; exact HS11.out)⟩
        case measure => simp [intV]; omega
      have e3 : (x == 3) = false := beq_eq_false_iff_ne.2 x3
      replace HM := Lib.hid (HM.out.trans (if_neg (by omega)))
      by_cases x4 : x = 4
      · subst x4
        replace HM := Lib.hid (HM.out.trans (if_pos rfl))
        try dsimp only at HM
        have d0 : decide (0 < dep) = true := by simpa using hdep
        have d1 : IntKind.i64.wrap (dep - 1) = dep - 1 := by rw [IntKind.wrap_i64]; omega
        have HB2 := Lib.hid (nameE B b st1 w1 HS1.out.cur)
        generalize belowM 6 st1 = qq at *
        obtain ⟨ny2, st2⟩ := qq
        dsimp only at HM HB2
        go_wp2_with fail
        refine HB2.out.mono ?_; rintro e w2 ⟨tt, rfl, hnm, hc, hw⟩
        obtain ⟨t, rfl⟩ : ∃ t, tt = tx t := ⟨_, (tx_of tt).symm⟩
        rw [tx_data] at hnm
        have HNt := Lib.hid (nm_len hnm); clear hnm HB2
        have HS2 := Lib.hid (HS1.out.draws hw hc)
        have HO2 := Lib.hid (HO1.out.but hw hlt)
        clear hc hw
        have HB3 := Lib.hid (belowE B b 12 st2 w2 HS2.out.cur (by decide) (by decide))
        have RB3 := belowM_range (n := 12) (by decide) st2
        generalize belowM 12 st2 = qq at *
        obtain ⟨y, st3⟩ := qq
        dsimp only at RB3 HM
        go_wp2_with fail
        refine HB3.out.mono ?_; rintro e w3 ⟨rfl, hc, hw⟩
        dsimp only at hc
        have HS3 := Lib.hid (HS2.out.draws hw hc)
        have HO3 := Lib.hid (HO2.out.but hw hlt)
        clear hc hw
        clear HB3
        go_wp2_with fail
        refine (l1Int_any y w3 (by omega) (by omega)).mono ?_; rintro e w4 ⟨rfl, bc⟩
        have HS4 := Lib.hid (HS3.out.below bc)
        have HO4 := Lib.hid (HO3.out.next bc)
        clear bc
        have HNi := Lib.hid (Lib.itoa_length_le y (by omega) (by omega))
        have HV5 := Lib.hid (litV w4 [[119, 104, 105, 108, 101], [60], t, Lib.itoa y, [91]] (by simp))
        have HP5 := Lib.hid (HS4.out.alloc (.cells ([[119, 104, 105, 108, 101], [60], t, Lib.itoa y, [91]].map tv).toArray 9))
        have HQ5 := Lib.hid (HO4.out.next (bel1 w4 (.cells ([[119, 104, 105, 108, 101], [60], t, Lib.itoa y, [91]].map tv).toArray 9)))
        go_wp2_with (first
          | (at_builtin; refine append_tx rfl (.tmp 79) (.tmp 84) rfl (base := w.heap.size) (l := l) (m := [[119, 104, 105, 108, 101], [60], t, Lib.itoa y, [91]]) rfl rfl rfl HQ5.out HV5.out (by simp; omega) HP5.out.size ?_; intro v5 w5 oo gg; have HS5 := Lib.hid (HP5.out.grown gg (fun k hk => OT.lt HQ5.out k hk)); have HO5 := Lib.hid oo; clear oo gg))
        have HB6 := Lib.hid (IH2.out B b st3 w5 HS5.out.cur)
        generalize D 2 st3 = qq at *
        obtain ⟨m6, st6⟩ := qq
        dsimp only at HM HB6
        refine HB6.out.mono ?_; rintro e w6 ⟨dv6, dl6, rfl, od, nd6, qd, sd, hc, hw⟩
        dsimp only at qd hc
        have QD6 := Lib.hid qd
        have SD6 := Lib.hid sd
        obtain ⟨da6, dc6, rfl, hvd⟩ := od.form
        have HV6 := Lib.hid hvd
        clear qd sd od hvd HB6
        have HS6 := Lib.hid (HS5.out.draws hw hc)
        have HO6 := Lib.hid (HO5.out.but hw hlt)
        clear hc hw
        go_wp2_with (first
          | (at_builtin; refine append_tx rfl (.tmp 86) (.tmp 90) rfl (base := w.heap.size) (l := (l ++ [[119, 104, 105, 108, 101], [60], t, Lib.itoa y, [91]])) (m := dl6) rfl rfl rfl HO6.out HV6.out (by simp; omega) HS6.out.size ?_; intro v7 w7 oo gg; have HS7 := Lib.hid (HS6.out.grown gg (fun k hk => OT.lt HO6.out k hk)); have HO7 := Lib.hid oo; clear oo gg; have HV8 := Lib.hid (litV w7 [[115, 101, 116], t, [43], t, [49], [93]] (by simp)); have HP8 := Lib.hid (HS7.out.alloc (.cells ([[115, 101, 116], t, [43], t, [49], [93]].map tv).toArray 9)); have HQ8 := Lib.hid (HO7.out.next (bel1 w7 (.cells ([[115, 101, 116], t, [43], t, [49], [93]].map tv).toArray 9))))
          | (at_builtin; refine append_tx rfl (.tmp 92) (.tmp 95) rfl (base := w.heap.size) (l := ((l ++ [[119, 104, 105, 108, 101], [60], t, Lib.itoa y, [91]]) ++ dl6)) (m := [[115, 101, 116], t, [43], t, [49], [93]]) rfl rfl rfl HQ8.out HV8.out (by simp; omega) HP8.out.size ?_; intro v8 w8 oo gg; have HS8 := Lib.hid (HP8.out.grown gg (fun k hk => OT.lt HQ8.out k hk)); have HO8 := Lib.hid oo; clear oo gg))
        have i2 : (k : Int) - 1 = ((k - 1 : Nat) : Int) := by omega
        go_roundw
        case rel => exact ⟨k - 1, by omega, by go_num, DL.step hp HF.out HO8.out (SmT.app (SmT.app (SmT.app HSM.out (((((SmT.one (by decide)).app (SmT.one (by decide))).app (SmT.one (by have := HNt.out; omega))).app (SmT.one (by have := HNi.out; omega))).app (SmT.one (by decide)))) SD6.out) ((((((SmT.one (by decide)).app (SmT.one (by have := HNt.out; omega))).app (SmT.one (by decide))).app (SmT.one (by have := HNt.out; omega))).app (SmT.one (by decide))).app (SmT.one (by decide)))) (by rw [HM.out]; have := QD6.out; simp <;> omega) (by rw [HM.out]; have := QD6.out; (try dsimp only) <;> omega) HLK.out HR.out (by rw [HM.out]; exact HS8.out)⟩
        case measure => simp [intV]; omega
      have e4 : (x == 4) = false := beq_eq_false_iff_ne.2 x4
      replace HM := Lib.hid (HM.out.trans (if_neg x4))
      try dsimp only at HM
      have HB2 := Lib.hid (nameE B b st1 w1 HS1.out.cur)
      generalize belowM 6 st1 = qq at *
      obtain ⟨ny2, st2⟩ := qq
      dsimp only at HM HB2
      go_wp2_with fail
      refine HB2.out.mono ?_; rintro e w2 ⟨tt, rfl, hnm, hc, hw⟩
      obtain ⟨t, rfl⟩ : ∃ t, tt = tx t := ⟨_, (tx_of tt).symm⟩
      rw [tx_data] at hnm
      have HNt := Lib.hid (nm_len hnm); clear hnm HB2
      have HS2 := Lib.hid (HS1.out.draws hw hc)
      have HO2 := Lib.hid (HO1.out.but hw hlt)
      clear hc hw
      have HV3 := Lib.hid (litV w2 [[115, 101, 116], t] (by simp))
      have HP3 := Lib.hid (HS2.out.alloc (.cells ([[115, 101, 116], t].map tv).toArray 9))
      have HQ3 := Lib.hid (HO2.out.next (bel1 w2 (.cells ([[115, 101, 116], t].map tv).toArray 9)))
      go_wp2_with (first
        | (at_builtin; refine append_tx rfl (.tmp 20) (.tmp 23) rfl (base := w.heap.size) (l := l) (m := [[115, 101, 116], t]) rfl rfl rfl HQ3.out HV3.out (by simp; omega) HP3.out.size ?_; intro v3 w3 oo gg; have HS3 := Lib.hid (HP3.out.grown gg (fun k hk => OT.lt HQ3.out k hk)); have HO3 := Lib.hid oo; clear oo gg))
      have HB4 := Lib.hid (sumE_num2 B b st2 w3 HS3.out.cur)
      generalize numM 2 st2 = qq at *
      obtain ⟨m4, st4⟩ := qq
      dsimp only at HM HB4
      refine HB4.out.mono ?_; rintro e w4 ⟨dv4, dl4, rfl, od, nd4, qd, sd, hc, hw⟩
      dsimp only at qd hc
      have QD4 := Lib.hid qd
      have SD4 := Lib.hid sd
      obtain ⟨da4, dc4, rfl, hvd⟩ := od.form
      have HV4 := Lib.hid hvd
      clear qd sd od hvd HB4
      have HS4 := Lib.hid (HS3.out.draws hw hc)
      have HO4 := Lib.hid (HO3.out.but hw hlt)
      clear hc hw
      go_wp2_with (first
        | (at_builtin; refine append_tx rfl (.tmp 25) (.tmp 27) rfl (base := w.heap.size) (l := (l ++ [[115, 101, 116], t])) (m := dl4) rfl rfl rfl HO4.out HV4.out (by simp; omega) HS4.out.size ?_; intro v5 w5 oo gg; have HS5 := Lib.hid (HS4.out.grown gg (fun k hk => OT.lt HO4.out k hk)); have HO5 := Lib.hid oo; clear oo gg))
      have i2 : (k : Int) - 1 = ((k - 1 : Nat) : Int) := by omega
      go_roundw
      case rel => exact ⟨k - 1, by omega, by go_num, DL.step hp HF.out HO5.out (SmT.app (SmT.app HSM.out ((SmT.one (by decide)).app (SmT.one (by have := HNt.out; omega)))) SD4.out) (by rw [HM.out]; have := QD4.out; simp <;> omega) (by rw [HM.out]; have := QD4.out; (try dsimp only) <;> omega) HLK.out HR.out (by rw [HM.out]; exact HS5.out)⟩
      case measure => simp [intV]; omega
    · obtain rfl : k = 0 := by omega
      go_wp2_with fail
      go_ret
      exact ⟨_, l, rfl, HO.out, hl0, by rw [HR.out]; rfl, HSM.out, by rw [HR.out]; exact HS.out.cur, HS.out.but⟩
theorem deeds0 (most : Int) (h1 : 1 ≤ most) (h5 : most ≤ 5) : DeedsC 36 0 most (deedsM 0 most) := deeds0E 0 (by decide) (by decide) 9 rfl most h1 h5
theorem deeds1 (most : Int) (h1 : 1 ≤ most) (h5 : most ≤ 5) : DeedsC 336 1 most (deedsM 1 most) := deeds1E 36 (by decide) 1 (by decide) (by decide) (deedsM 0) (deeds0 3 (by decide) (by decide)) (deeds0 2 (by decide) (by decide)) 84 rfl most h1 h5
theorem deeds2 (most : Int) (h1 : 1 ≤ most) (h5 : most ≤ 5) : DeedsC 2736 2 most (deedsM 2 most) := deeds1E 336 (by decide) 2 (by decide) (by decide) (deedsM 1) (deeds1 3 (by decide) (by decide)) (deeds1 2 (by decide) (by decide)) 684 rfl most h1 h5
end Go.Proofs.YtfnnoehpahdgcaaGreatDoor.Cl
