/-
  Draws of an expression, bins and the given: contracts of spec.l8DrawGiven, DrawSumOf. (Made by gen_ys.py.)
-/
import Derived.Test.YtdgkinepoalfcaaGreatDoorYq
import Derived.Test.YtdgkinepoalfcaaGreatDoorJk
namespace Go.Proofs.YtdgkinepoalfcaaGreatDoor.Cl
open Go.RowKit Wd Rp Cu Kp
set_option linter.unusedVariables false
theorem O1.but {T : TypeId} {B b : Nat} {w w' : World} {v : Value} {l : List Value} (h : O1 T B w v l) (hb : But b w w') (hB : b < B) : O1 T B w' v l :=
  row_next h fun g hg hlt => hb.block g hlt (by have := O1.lt h g hg; omega)
theorem ON.but {B b : Nat} {w w' : World} {v : Value} {l : List Int} (h : ON B w v l) (hb : But b w w') (hB : b < B) : ON B w' v l := O1.but h hb hB
theorem ON.mono {B C : Nat} {w : World} {v : Value} {l : List Int} (h : ON B w v l) (hC : C ≤ B) : ON C w v l := O1.mono h hC
theorem litN {B : Nat} (w : World) (l : List Int) (h : B ≤ w.heap.size) (hl : l.length ≤ 1000) : ON B (w.alloc (.cells (l.map iv).toArray 2)) (.slice (some ⟨w.heap.size, 0, none⟩) l.length l.length) l := by
  have := O1.lit (T := 2) h (l.map iv).toArray (by unfold maxLen; simp; omega)
  rw [show (l.map iv).toArray.size = l.length by simp] at this
  exact this
theorem ON.cut {B : Nat} {w : World} {g n cap : Nat} {l : List Int} (h : ON B w (.slice (some ⟨g, 0, none⟩) n cap) l) (hn : l.length = n) {k : Nat} (hk : k ≤ n) : ON B w (.slice (some ⟨g, 0, none⟩) k cap) (l.take k) := by
  unfold ON O1 at h ⊢
  rw [inL_len, hn] at h
  have := row_cut h hk
  rw [inL_len, List.length_take, Nat.min_eq_left (by omega)]
  unfold inL at this ⊢
  rwa [Nat.mul_one, ← List.map_take] at this
theorem inL_one : ∀ l : List Int, ∀ u ∈ inL l, u.oneCell' = true := fun l u hu => by
  unfold inL at hu
  rw [List.mem_map] at hu
  obtain ⟨s, -, rfl⟩ := hu; rfl
theorem run_append_fullN {w : World} {b : Addr} {ad : Option Addr} {k cap n : Nat} {l m : List Int} (ty : TypeId) (hl : l.length = k) (hv : V1 w (some b) k (inL l)) (hm : m.length = n) (hy : V1 w ad cap (inL m)) (hn : 0 < n) (hlen : k + n ≤ 10000000) :
    ∃ v' w', (Builtin.append_ #[26, 26] ty #[.slice (some b) k k, .slice ad n cap]).run Tryz.prog w = .ok v' w' ∧ ON w.heap.size w' v' (l ++ m) ∧ Below w.heap.size w w' := by
  obtain ⟨i0, hi, hz0, hz1, hz2⟩ := info_parts info1N
  obtain ⟨ad, rfl⟩ : ∃ x, ad = some x := by
    cases ad with
    | none => have := hy.2.2.1 rfl; have := hy.1; rw [inL_len] at this; omega
    | some x => exact ⟨x, rfl⟩
  have h1 := grownCap_ge w (k + n) k 2
  have hcm : grownCap w (k + n) k 2 ≤ maxLen := grownCap_le_maxLen w (k + n) k 2 (by unfold maxLen; omega)
  have hlm : (inL (l ++ m)).length = k + n := by rw [inL_len, List.length_append, hl, hm]
  have fin : ∀ cs : Array Value, cs = (inL l).toArray ++ (inL m).toArray ++ Builtin.zeroCells (Value.int .i64 0).cells (grownCap w (k + n) k 2 - (k + n)) →
      ON w.heap.size (w.drew.alloc (.cells cs 2)) (.slice (some ⟨w.heap.size, 0, none⟩) (k + n) (grownCap w (k + n) k 2)) (l ++ m) := fun cs hcs => by
    unfold ON O1
    refine ⟨by rw [Nat.mul_one], .inr ⟨w.heap.size, grownCap w (k + n) k 2, cs, by rw [hlm], Nat.le_refl _, heap_alloc_new w.drew _, by rw [hlm]; exact h1, hcm, ?_, ?_⟩⟩
    · rw [hcs]
      simp only [Array.size_append, List.size_toArray, size_zeroCells, inL_len, hl, hm]
      show k + n + (grownCap w (k + n) k 2 - (k + n)) * 1 = _
      omega
    · rw [hcs, Nat.mul_one, hlm]
      have e : inL (l ++ m) = inL l ++ inL m := List.map_append
      rw [e]
      simp only [Array.toList_append, List.append_assoc]
      rw [← List.append_assoc, show k + n = (inL l ++ inL m).length by rw [List.length_append, inL_len, inL_len, hl, hm]]
      exact List.take_left
  have hbel : ∀ o, Below w.heap.size w (w.drew.alloc o) := fun o => (Below.refl _ _).drew.alloc (Nat.le_refl _) o
  exact ⟨_, _, run_append_grow (P := Tryz.prog) w 26 ty 2 i0 _ Tryz.underlying26 hi hz0 b k k (inL l) (by rw [inL_len, hl, hz1, Nat.mul_one]) (v1_cells hv) ad n cap (inL m) (by rw [inL_len, hm, hz1, Nat.mul_one]) (v1_cells hy) (by omega) (by omega) (growslice_fits (by omega) (by rw [hz2]; omega)), fin _ rfl, hbel _⟩
theorem step_append_fullN {ops : Array Oper} {o : Oper} {a : Act} {Q : Exit → Act → World → Prop} {K : Act → World → Prop} {w : World} (hw : Region.wanted o (yielded ops a.tmps) = true) (s x : Operand)
    (ho : o.op = .call { callee := .builtin .append, args := #[s, x], argTypes := #[26, 26] })
    {b : Addr} {ad : Option Addr} {k cap n : Nat} {l m : List Int} (hs : a.eval s = .slice (some b) k k) (hx : a.eval x = .slice ad n cap) (hl : l.length = k) (hv : V1 w (some b) k (inL l)) (hmn : m.length = n) (hy : V1 w ad cap (inL m)) (hn : 0 < n) (hlen : k + n ≤ 10000000)
    (h : ∀ v' w', ON w.heap.size w' v' (l ++ m) → Below w.heap.size w w' → K (a.put o.dst v') w') :
    if Region.wanted o (yielded ops a.tmps) = true then Oper.wp Tryz.prog o a w K Q else K (a.put o.dst undef) w := by
  rw [if_pos hw]
  obtain ⟨v', w', hr, h2, h3⟩ := run_append_fullN o.type hl hv hmn hy hn hlen
  unfold Oper.wp execOp
  simp only [ho, resolve, invoke, builtin, Sem.run_bind, Sem.run_pure, Result.andThen_ok, List.map_toArray, List.map_cons, List.map_nil, hs, hx, hr]
  exact h v' w' h2 h3
theorem ON.form {B : Nat} {w : World} {v : Value} {l : List Int} (h : ON B w v l) : ∃ a cap, v = .slice a l.length cap ∧ V1 w a cap (inL l) := by
  obtain ⟨a, cap, e, hv⟩ := O1.view h
  rw [inL_len] at e
  exact ⟨a, cap, e, hv⟩
def I64s (l : List Int) : Prop := ∀ x ∈ l, I64 x
/-- One of three slices of numbers. -/
theorem pick3 {B q : Nat} {z : World} {T : TypeId} {s1 s2 s3 : Value} {l1 l2 l3 : List Int} (h1 : ON B z s1 l1) (h2 : ON B z s2 l2) (h3 : ON B z s3 l3) (hq : O1 T B z (.slice (some ⟨q, 0, none⟩) 3 3) [s1, s2, s3])
    (n1 : l1.length ≤ 4) (n2 : l2.length ≤ 4) (n3 : l3.length ≤ 4) (i1 : I64s l1) (i2 : I64s l2) (i3 : I64s l3) {m : Nat} (hm : m < 3) : ∃ a n c gs, z.cell? ⟨q, m, none⟩ = some (.slice a n c) ∧ gs.length = n ∧ V1 z a c (inL gs) ∧ n ≤ 4 ∧ I64s gs := by
  have key : ∀ (s : Value) (l : List Int), [s1, s2, s3][m]? = some s → ON B z s l → l.length ≤ 4 → I64s l → ∃ a n c gs, z.cell? ⟨q, m, none⟩ = some (.slice a n c) ∧ gs.length = n ∧ V1 z a c (inL gs) ∧ n ≤ 4 ∧ I64s gs := fun s l hs ho hn hi => by
    obtain ⟨a, c, rfl, hv⟩ := ho.form
    obtain ⟨g, o, e, -, hc⟩ := hq.vw.cell hs
    cases e
    rw [Nat.zero_add] at hc
    exact ⟨a, _, c, l, hc, rfl, hv, hn, hi⟩
  match m, hm with
  | 0, _ => exact key s1 l1 rfl h1 n1 i1
  | 1, _ => exact key s2 l2 rfl h2 n2 i2
  | 2, _ => exact key s3 l3 rfl h3 n3 i3
def DrawsG (B b : Nat) (w : World) (e : Ending) (w' : World) : Prop := ∃ (a : Option Addr) (n c : Nat) (gs : List Int), e = .returned (.slice a n c) ∧ gs.length = n ∧ V1 w' a c (inL gs) ∧ n ≤ 4 ∧ I64s gs ∧ Cur B b w' ∧ But b w w'
set_option maxHeartbeats 16000000 in
set_option maxRecDepth 100000 in
theorem drawGiven_any (B b : Nat) (w : World) (hc : Cur B b w) : Calls Tryz.prog 16 #[.pointer (some ⟨b, 0, none⟩)] w (DrawsG B b w) := by
  have hlt := hc.lt
  have HS0 := Lib.hid (⟨But.refl b w, hc, hlt⟩ : St w B b w); clear hc
  go_enter Tryz.func16, Tryz.ntmps16
  go_wp2_with fail
  refine (drawWord_any B b _ HS0.out.cur).mono ?_; rintro e w1 ⟨v0, rfl, v00, v01, hc1, hw1⟩
  have HS1 := Lib.hid (HS0.out.draws hw1 hc1); clear hw1 hc1 HS0
  go_wp2_with fail
  refine (drawWord_any B b _ HS1.out.cur).mono ?_; rintro e w2 ⟨v1, rfl, v10, v11, hc2, hw2⟩
  have HS2 := Lib.hid (HS1.out.draws hw2 hc2); clear hw2 hc2 HS1
  go_wp2_with fail
  refine (drawWord_any B b _ HS2.out.cur).mono ?_; rintro e w3 ⟨v2, rfl, v20, v21, hc3, hw3⟩
  have HS3 := Lib.hid (HS2.out.draws hw3 hc3); clear hw3 hc3 HS2
  have HG := Lib.hid (litN (B := w.heap.size) w3 [v0, v1, v2] HS3.out.size (by simp))
  have HS4 := Lib.hid (HS3.out.alloc (.cells #[.int .i64 v0, .int .i64 v1, .int .i64 v2] 2))
  have HI := Lib.hid (show I64s [v0, v1, v2] from fun x hx => by simp at hx; rcases hx with rfl | rfl | rfl <;> exact ⟨by omega, by omega⟩)
  have HGG := Lib.hid (show w.heap.size ≤ w3.heap.size from HS3.out.size)
  go_wp2_with fail
  refine (once_any B b _ _ HS4.out.cur (by decide) (by decide)).mono ?_; rintro e w5 ⟨tb, rfl, hc5, hw5⟩
  have HG5 := Lib.hid (HG.out.but hw5 hlt)
  have HS5 := Lib.hid (HS4.out.draws hw5 hc5); clear hw5 hc5 HS3 HS4 HG
  clear v00 v01 v10 v11 v20 v21
  generalize w3.heap.size = G at *
  generalize hgl : [v0, v1, v2] = gl at *
  have HL3 := Lib.hid (show gl.length = 3 by rw [← hgl]; rfl)
  have HG6 := Lib.hid (show ON w.heap.size w5 (.slice (some ⟨G, 0, none⟩) 3 3) gl from by have := HG5.out; rw [HL3.out] at this; exact this)
  clear HG5 hgl
  cases tb
  · have HF := Lib.hid HG6.out.vw
    go_wp2_with fail
    go_ret
    exact ⟨_, _, _, gl, rfl, HL3.out, HF.out, by decide, HI.out, HS5.out.cur, HS5.out.but⟩
  · have hcut : ∀ w, (Instr.slice 26 (.slice (some ⟨G, 0, none⟩) 3 3) none (some (.int .i64 2)) none).run Tryz.prog w = .ok (.slice (some ⟨G, 0, none⟩) 2 3) w := fun w => cut1_to 26 (by kernel_rfl) (fun w => by exact Tryz.sizeOf2 w) (some ⟨G, 0, none⟩) 3 3 2 (by omega) (by omega) w
    have HSd := Lib.hid (show St w B b w5.drew from HS5.out.drew)
    have HGd := Lib.hid (show ON w.heap.size w5.drew (.slice (some ⟨G, 0, none⟩) 3 3) gl from HG6.out)
    clear HS5 HG6
    go_wp2_with fail
    refine wp_region_held_drew (S := fun z => True) (by kernel_rfl) trivial (fun hHeld => ?_)
    refine wpAnyH_take (i := 0) (v := ?v0t) rfl (by kernel_rfl) (by kernel_rfl) (by kernel_rfl) (fun _ _ _ h => h) (Or.inl ⟨by rfl, ?hy0t⟩) (by assumption) ?rest0t
    case hy0t => (intro zz hSw; (try dsimp only at hSw); go_simp; (try with_reducible rfl))
    change wpAnyH _ _ _ _ _ _ _ (Act.put _ (some 13) _) _
    simp only [Act.put, List.setIfInBounds_toArray, List.set_cons_zero, List.set_cons_succ]
    refine wpAnyH_take (i := 1) (v := ?v1t) rfl (by kernel_rfl) (by kernel_rfl) (by kernel_rfl) (fun _ _ _ h => h) (Or.inl ⟨by rfl, ?hy1t⟩) (by assumption) ?rest1t
    case hy1t => (intro zz hSw; (try dsimp only at hSw); go_simp; (try with_reducible rfl))
    change wpAnyH _ _ _ _ _ _ _ (Act.put _ (some 14) _) _
    simp only [Act.put, List.setIfInBounds_toArray, List.set_cons_zero, List.set_cons_succ]
    refine wpAnyH_take (i := 2) (v := ?v2t) rfl (by kernel_rfl) (by kernel_rfl) (by kernel_rfl) (fun _ _ _ h => h) (Or.inl ⟨by rfl, ?hy2t⟩) (by assumption) ?rest2t
    case hy2t => (intro zz hSw; (try dsimp only at hSw); go_simp; (try with_reducible rfl))
    change wpAnyH _ _ _ _ _ _ _ (Act.put _ (some 15) _) _
    simp only [Act.put, List.setIfInBounds_toArray, List.set_cons_zero, List.set_cons_succ]
    refine wpAnyH_take (i := 7) (v := ?v7t) rfl (by kernel_rfl) (by kernel_rfl) (by kernel_rfl) (fun _ _ _ h => h) (Or.inl ⟨by rfl, ?hy7t⟩) (by assumption) ?rest7t
    case hy7t => (intro zz hSw; (try dsimp only at hSw); go_simp; (try with_reducible rfl))
    change wpAnyH _ _ _ _ _ _ _ (Act.put _ (some 20) _) _
    simp only [Act.put, List.setIfInBounds_toArray, List.set_cons_zero, List.set_cons_succ]
    refine wpAnyH_ready (rs := [3, 5]) (by kernel_rfl) (by simp) (AllReadyH.cons rfl (fun K hK => ?_) (AllReadyH.cons rfl (fun K hK => ?_) (AllReadyH.nil)))
    · skip
      generalize w5.drew = z0 at *
      have hbl1 := bel1 z0 (.cells #[.int .i64 1] 2)
      have Hn1 := Lib.hid (show ON w.heap.size (z0.alloc (.cells #[.int .i64 1] 2)) (.slice (some ⟨z0.heap.size, 0, none⟩) 1 1) [1] from litN (B := w.heap.size) z0 [1] HSd.out.size (by simp))
      have Hg1 := Lib.hid (HGd.out.next hbl1)
      have HS1 := Lib.hid (HSd.out.alloc (.cells #[.int .i64 1] 2))
      have hb_1 : z0.heap.size = z0.heap.size := rfl
      go_simp
      refine hK.out _ _ trivial (fun hHeld => ?_)
      clear hK K hbl1 hb_1
      generalize z0.alloc (.cells #[.int .i64 1] 2) = z1 at *
      refine wpAnyH_ready (rs := [4, 5]) (by kernel_rfl) (by simp) (AllReadyH.cons rfl (fun K hK => ?_) (AllReadyH.cons rfl (fun K hK => ?_) (AllReadyH.nil)))
      · skip
        refine step_append_fullN rfl (.tmp 15) (.tmp 16) rfl (l := gl) (m := [1]) rfl rfl HL3.out Hg1.out.vw rfl Hn1.out.vw (by decide) (by decide) ?_
        intro v2 z2 o2 b2
        obtain ⟨a2, c2, e2, -⟩ := o2.form
        subst e2
        have Hn2 := Lib.hid (ON.mono o2 HS1.out.size)
        have HS2 := Lib.hid (st_belowT HS1.out b2)
        have Hg2 := Lib.hid (Hg1.out.next b2)
        have Ho2 := Lib.hid (Hn1.out.next b2)
        have hal2 : (gl ++ [1]).length = 4 := by rw [List.length_append, HL3.out]; rfl
        rw [hal2] at Hn2
        clear o2 b2
        refine hK.out _ _ trivial (fun hHeld => ?_)
        clear hK K
        change wpAnyH _ _ _ _ _ _ _ (Act.put _ (some 17) _) _
        simp only [Act.put, List.setIfInBounds_toArray, List.set_cons_zero, List.set_cons_succ]
        rw [hal2]
        refine wpAnyH_ready (rs := [5, 8]) (by kernel_rfl) (by simp) (AllReadyH.cons rfl (fun K hK => ?_) (AllReadyH.cons rfl (fun K hK => ?_) (AllReadyH.nil)))
        · skip
          have hbl3 := bel1 z2 (.cells #[.int .i64 1, .int .i64 2, .int .i64 1099511627776] 2)
          have Hn3 := Lib.hid (show ON w.heap.size (z2.alloc (.cells #[.int .i64 1, .int .i64 2, .int .i64 1099511627776] 2)) (.slice (some ⟨z2.heap.size, 0, none⟩) 3 3) [1, 2, 1099511627776] from litN (B := w.heap.size) z2 [1, 2, 1099511627776] HS2.out.size (by simp))
          have Hg3 := Lib.hid (Hg2.out.next hbl3)
          have Ho3 := Lib.hid (Ho2.out.next hbl3)
          have Ha3 := Lib.hid (Hn2.out.next hbl3)
          have HS3 := Lib.hid (HS2.out.alloc (.cells #[.int .i64 1, .int .i64 2, .int .i64 1099511627776] 2))
          have hb_3 : z2.heap.size = z2.heap.size := rfl
          go_simp
          refine hK.out _ _ trivial (fun hHeld => ?_)
          clear hK K hbl3 hb_3
          generalize z2.alloc (.cells #[.int .i64 1, .int .i64 2, .int .i64 1099511627776] 2) = z3 at *
          refine wpAnyH_ready (rs := [6, 8]) (by kernel_rfl) (by simp) (AllReadyH.cons rfl (fun K hK => ?_) (AllReadyH.cons rfl (fun K hK => ?_) (AllReadyH.nil)))
          · skip
            have hbl4 := bel1 z3 (.cells #[.slice (some ⟨G, 0, none⟩) 2 3, .slice a2 4 c2, .slice (some ⟨z2.heap.size, 0, none⟩) 3 3] 26)
            have Hn4 := Lib.hid (show O1 26 w.heap.size (z3.alloc (.cells #[.slice (some ⟨G, 0, none⟩) 2 3, .slice a2 4 c2, .slice (some ⟨z2.heap.size, 0, none⟩) 3 3] 26)) (.slice (some ⟨z3.heap.size, 0, none⟩) 3 3) [.slice (some ⟨G, 0, none⟩) 2 3, .slice a2 4 c2, .slice (some ⟨z2.heap.size, 0, none⟩) 3 3] from O1.lit (T := 26) HS3.out.size #[.slice (some ⟨G, 0, none⟩) 2 3, .slice a2 4 c2, .slice (some ⟨z2.heap.size, 0, none⟩) 3 3] (by unfold maxLen; simp))
            have Hg4 := Lib.hid (Hg3.out.next hbl4)
            have Ho4 := Lib.hid (Ho3.out.next hbl4)
            have Ha4 := Lib.hid (Ha3.out.next hbl4)
            have Ht4 := Lib.hid (Hn3.out.next hbl4)
            have HS4 := Lib.hid (HS3.out.alloc (.cells #[.slice (some ⟨G, 0, none⟩) 2 3, .slice a2 4 c2, .slice (some ⟨z2.heap.size, 0, none⟩) 3 3] 26))
            have hb_4 : z3.heap.size = z3.heap.size := rfl
            go_simp
            refine hK.out _ _ trivial (fun hHeld => ?_)
            clear hK K hbl4 hb_4
            generalize z3.alloc (.cells #[.slice (some ⟨G, 0, none⟩) 2 3, .slice a2 4 c2, .slice (some ⟨z2.heap.size, 0, none⟩) 3 3] 26) = z4 at *
            refine wpAnyH_ready (rs := [8]) (by kernel_rfl) (by simp) (AllReadyH.cons rfl (fun K hK => ?_) (AllReadyH.nil))
            go_simp
            refine (below_any B b _ _ HS4.out.cur (by decide) (by decide)).mono ?_; rintro e z5 ⟨y, rfl, y0, y1, hc5, hw5⟩
            obtain ⟨m, rfl⟩ := Int.eq_ofNat_of_zero_le y0
            have hm3 : m < 3 := by omega
            have hmi : (m : Int) < 3 := by omega
            have HS5 := Lib.hid (HS4.out.draws hw5 hc5)
            have Hg5 := Lib.hid (Hg4.out.but hw5 hlt)
            have Ho5 := Lib.hid (Ho4.out.but hw5 hlt)
            have Ha5 := Lib.hid (Ha4.out.but hw5 hlt)
            have Ht5 := Lib.hid (Ht4.out.but hw5 hlt)
            have Hq5 := Lib.hid (Hn4.out.but hw5 hlt)
            clear hw5 hc5
            refine hK.out _ _ trivial (fun hHeld => ?_)
            clear hK K
            refine wpAnyH_take (i := 9) (v := ?v9txxxx) rfl (by kernel_rfl) (by kernel_rfl) (by kernel_rfl) (fun _ _ _ h => h) (Or.inl ⟨by rfl, ?hy9txxxx⟩) (by assumption) ?rest9txxxx
            case hy9txxxx => (intro zz hSw; (try dsimp only at hSw); go_simp; (try with_reducible rfl))
            change wpAnyH _ _ _ _ _ _ _ (Act.put _ (some 22) _) _
            simp only [Act.put, List.setIfInBounds_toArray, List.set_cons_zero, List.set_cons_succ]
            refine wpAnyH_ready (rs := [10]) (by kernel_rfl) (by simp) (AllReadyH.cons rfl (fun K hK => ?_) (AllReadyH.nil))
            obtain ⟨pa, pn, pc, gs, hcell, hgn, hgv, hg4, hgi⟩ := pick3 (ON.cut Hg5.out HL3.out (k := 2) (by omega)) Ha5.out Ht5.out Hq5.out (by rw [List.length_take, HL3.out]; decide) (by rw [List.length_append, HL3.out]; decide) (by decide) (fun x hx => HI.out x (List.mem_of_mem_take hx)) (fun x hx => by
                rcases List.mem_append.1 hx with h | h
                · exact HI.out x h
                · simp at h; subst h; exact ⟨by decide, by decide⟩) (fun x hx => by simp at hx; rcases hx with rfl | rfl | rfl <;> exact ⟨by decide, by decide⟩) hm3
            go_simp
            refine hK.out _ _ trivial (fun hHeld => ?_)
            clear hK K
            refine wpAnyH_take (i := 11) (v := ?v11txxxx) rfl (by kernel_rfl) (by kernel_rfl) (by kernel_rfl) (fun _ _ _ h => h) (Or.inl ⟨by rfl, ?hy11txxxx⟩) (by assumption) ?rest11txxxx
            case hy11txxxx => (intro zz hSw; (try dsimp only at hSw); go_simp; (try with_reducible rfl))
            change wpAnyH _ _ _ _ _ _ _ (Act.put _ (some 2) _) _
            simp only [Act.put, List.setIfInBounds_toArray, List.set_cons_zero, List.set_cons_succ]
            refine wpAnyH_done (by kernel_rfl) ?_ _
            go_wp2_with fail
            go_ret
            exact ⟨_, _, _, gs, rfl, hgn, hgv, hg4, hgi, HS5.out.cur, HS5.out.but⟩
          · skip
            go_simp
            refine (below_any B b _ _ HS3.out.cur (by decide) (by decide)).mono ?_; rintro e z7 ⟨y, rfl, y0, y1, hc7, hw7⟩
            obtain ⟨m, rfl⟩ := Int.eq_ofNat_of_zero_le y0
            have hm3 : m < 3 := by omega
            have hmi : (m : Int) < 3 := by omega
            have HS7 := Lib.hid (HS3.out.draws hw7 hc7)
            have Hg7 := Lib.hid (Hg3.out.but hw7 hlt)
            have Ho7 := Lib.hid (Ho3.out.but hw7 hlt)
            have Ha7 := Lib.hid (Ha3.out.but hw7 hlt)
            have Ht7 := Lib.hid (Hn3.out.but hw7 hlt)
            clear hw7 hc7
            refine hK.out _ _ trivial (fun hHeld => ?_)
            clear hK K
            refine wpAnyH_ready (rs := [6]) (by kernel_rfl) (by simp) (AllReadyH.cons rfl (fun K hK => ?_) (AllReadyH.nil))
            have hbl8 := bel1 z7 (.cells #[.slice (some ⟨G, 0, none⟩) 2 3, .slice a2 4 c2, .slice (some ⟨z2.heap.size, 0, none⟩) 3 3] 26)
            have Hn8 := Lib.hid (show O1 26 w.heap.size (z7.alloc (.cells #[.slice (some ⟨G, 0, none⟩) 2 3, .slice a2 4 c2, .slice (some ⟨z2.heap.size, 0, none⟩) 3 3] 26)) (.slice (some ⟨z7.heap.size, 0, none⟩) 3 3) [.slice (some ⟨G, 0, none⟩) 2 3, .slice a2 4 c2, .slice (some ⟨z2.heap.size, 0, none⟩) 3 3] from O1.lit (T := 26) HS7.out.size #[.slice (some ⟨G, 0, none⟩) 2 3, .slice a2 4 c2, .slice (some ⟨z2.heap.size, 0, none⟩) 3 3] (by unfold maxLen; simp))
            have Hg8 := Lib.hid (Hg7.out.next hbl8)
            have Ho8 := Lib.hid (Ho7.out.next hbl8)
            have Ha8 := Lib.hid (Ha7.out.next hbl8)
            have Ht8 := Lib.hid (Ht7.out.next hbl8)
            have HS8 := Lib.hid (HS7.out.alloc (.cells #[.slice (some ⟨G, 0, none⟩) 2 3, .slice a2 4 c2, .slice (some ⟨z2.heap.size, 0, none⟩) 3 3] 26))
            have hb_8 : z7.heap.size = z7.heap.size := rfl
            go_simp
            refine hK.out _ _ trivial (fun hHeld => ?_)
            clear hK K hbl8 hb_8
            generalize z7.alloc (.cells #[.slice (some ⟨G, 0, none⟩) 2 3, .slice a2 4 c2, .slice (some ⟨z2.heap.size, 0, none⟩) 3 3] 26) = z8 at *
            refine wpAnyH_take (i := 9) (v := ?v9txxxy) rfl (by kernel_rfl) (by kernel_rfl) (by kernel_rfl) (fun _ _ _ h => h) (Or.inl ⟨by rfl, ?hy9txxxy⟩) (by assumption) ?rest9txxxy
            case hy9txxxy => (intro zz hSw; (try dsimp only at hSw); go_simp; (try with_reducible rfl))
            change wpAnyH _ _ _ _ _ _ _ (Act.put _ (some 22) _) _
            simp only [Act.put, List.setIfInBounds_toArray, List.set_cons_zero, List.set_cons_succ]
            refine wpAnyH_ready (rs := [10]) (by kernel_rfl) (by simp) (AllReadyH.cons rfl (fun K hK => ?_) (AllReadyH.nil))
            obtain ⟨pa, pn, pc, gs, hcell, hgn, hgv, hg4, hgi⟩ := pick3 (ON.cut Hg8.out HL3.out (k := 2) (by omega)) Ha8.out Ht8.out Hn8.out (by rw [List.length_take, HL3.out]; decide) (by rw [List.length_append, HL3.out]; decide) (by decide) (fun x hx => HI.out x (List.mem_of_mem_take hx)) (fun x hx => by
                rcases List.mem_append.1 hx with h | h
                · exact HI.out x h
                · simp at h; subst h; exact ⟨by decide, by decide⟩) (fun x hx => by simp at hx; rcases hx with rfl | rfl | rfl <;> exact ⟨by decide, by decide⟩) hm3
            go_simp
            refine hK.out _ _ trivial (fun hHeld => ?_)
            clear hK K
            refine wpAnyH_take (i := 11) (v := ?v11txxxy) rfl (by kernel_rfl) (by kernel_rfl) (by kernel_rfl) (fun _ _ _ h => h) (Or.inl ⟨by rfl, ?hy11txxxy⟩) (by assumption) ?rest11txxxy
            case hy11txxxy => (intro zz hSw; (try dsimp only at hSw); go_simp; (try with_reducible rfl))
            change wpAnyH _ _ _ _ _ _ _ (Act.put _ (some 2) _) _
            simp only [Act.put, List.setIfInBounds_toArray, List.set_cons_zero, List.set_cons_succ]
            refine wpAnyH_done (by kernel_rfl) ?_ _
            go_wp2_with fail
            go_ret
            exact ⟨_, _, _, gs, rfl, hgn, hgv, hg4, hgi, HS8.out.cur, HS8.out.but⟩
        · skip
          go_simp
          refine (below_any B b _ _ HS2.out.cur (by decide) (by decide)).mono ?_; rintro e z10 ⟨y, rfl, y0, y1, hc10, hw10⟩
          obtain ⟨m, rfl⟩ := Int.eq_ofNat_of_zero_le y0
          have hm3 : m < 3 := by omega
          have hmi : (m : Int) < 3 := by omega
          have HS10 := Lib.hid (HS2.out.draws hw10 hc10)
          have Hg10 := Lib.hid (Hg2.out.but hw10 hlt)
          have Ho10 := Lib.hid (Ho2.out.but hw10 hlt)
          have Ha10 := Lib.hid (Hn2.out.but hw10 hlt)
          clear hw10 hc10
          refine hK.out _ _ trivial (fun hHeld => ?_)
          clear hK K
          refine wpAnyH_ready (rs := [5]) (by kernel_rfl) (by simp) (AllReadyH.cons rfl (fun K hK => ?_) (AllReadyH.nil))
          have hbl11 := bel1 z10 (.cells #[.int .i64 1, .int .i64 2, .int .i64 1099511627776] 2)
          have Hn11 := Lib.hid (show ON w.heap.size (z10.alloc (.cells #[.int .i64 1, .int .i64 2, .int .i64 1099511627776] 2)) (.slice (some ⟨z10.heap.size, 0, none⟩) 3 3) [1, 2, 1099511627776] from litN (B := w.heap.size) z10 [1, 2, 1099511627776] HS10.out.size (by simp))
          have Hg11 := Lib.hid (Hg10.out.next hbl11)
          have Ho11 := Lib.hid (Ho10.out.next hbl11)
          have Ha11 := Lib.hid (Ha10.out.next hbl11)
          have HS11 := Lib.hid (HS10.out.alloc (.cells #[.int .i64 1, .int .i64 2, .int .i64 1099511627776] 2))
          have hb_11 : z10.heap.size = z10.heap.size := rfl
          go_simp
          refine hK.out _ _ trivial (fun hHeld => ?_)
          clear hK K hbl11 hb_11
          generalize z10.alloc (.cells #[.int .i64 1, .int .i64 2, .int .i64 1099511627776] 2) = z11 at *
          refine wpAnyH_ready (rs := [6]) (by kernel_rfl) (by simp) (AllReadyH.cons rfl (fun K hK => ?_) (AllReadyH.nil))
          have hbl12 := bel1 z11 (.cells #[.slice (some ⟨G, 0, none⟩) 2 3, .slice a2 4 c2, .slice (some ⟨z10.heap.size, 0, none⟩) 3 3] 26)
          have Hn12 := Lib.hid (show O1 26 w.heap.size (z11.alloc (.cells #[.slice (some ⟨G, 0, none⟩) 2 3, .slice a2 4 c2, .slice (some ⟨z10.heap.size, 0, none⟩) 3 3] 26)) (.slice (some ⟨z11.heap.size, 0, none⟩) 3 3) [.slice (some ⟨G, 0, none⟩) 2 3, .slice a2 4 c2, .slice (some ⟨z10.heap.size, 0, none⟩) 3 3] from O1.lit (T := 26) HS11.out.size #[.slice (some ⟨G, 0, none⟩) 2 3, .slice a2 4 c2, .slice (some ⟨z10.heap.size, 0, none⟩) 3 3] (by unfold maxLen; simp))
          have Hg12 := Lib.hid (Hg11.out.next hbl12)
          have Ho12 := Lib.hid (Ho11.out.next hbl12)
          have Ha12 := Lib.hid (Ha11.out.next hbl12)
          have Ht12 := Lib.hid (Hn11.out.next hbl12)
          have HS12 := Lib.hid (HS11.out.alloc (.cells #[.slice (some ⟨G, 0, none⟩) 2 3, .slice a2 4 c2, .slice (some ⟨z10.heap.size, 0, none⟩) 3 3] 26))
          have hb_12 : z11.heap.size = z11.heap.size := rfl
          go_simp
          refine hK.out _ _ trivial (fun hHeld => ?_)
          clear hK K hbl12 hb_12
          generalize z11.alloc (.cells #[.slice (some ⟨G, 0, none⟩) 2 3, .slice a2 4 c2, .slice (some ⟨z10.heap.size, 0, none⟩) 3 3] 26) = z12 at *
          refine wpAnyH_take (i := 9) (v := ?v9txxy) rfl (by kernel_rfl) (by kernel_rfl) (by kernel_rfl) (fun _ _ _ h => h) (Or.inl ⟨by rfl, ?hy9txxy⟩) (by assumption) ?rest9txxy
          case hy9txxy => (intro zz hSw; (try dsimp only at hSw); go_simp; (try with_reducible rfl))
          change wpAnyH _ _ _ _ _ _ _ (Act.put _ (some 22) _) _
          simp only [Act.put, List.setIfInBounds_toArray, List.set_cons_zero, List.set_cons_succ]
          refine wpAnyH_ready (rs := [10]) (by kernel_rfl) (by simp) (AllReadyH.cons rfl (fun K hK => ?_) (AllReadyH.nil))
          obtain ⟨pa, pn, pc, gs, hcell, hgn, hgv, hg4, hgi⟩ := pick3 (ON.cut Hg12.out HL3.out (k := 2) (by omega)) Ha12.out Ht12.out Hn12.out (by rw [List.length_take, HL3.out]; decide) (by rw [List.length_append, HL3.out]; decide) (by decide) (fun x hx => HI.out x (List.mem_of_mem_take hx)) (fun x hx => by
              rcases List.mem_append.1 hx with h | h
              · exact HI.out x h
              · simp at h; subst h; exact ⟨by decide, by decide⟩) (fun x hx => by simp at hx; rcases hx with rfl | rfl | rfl <;> exact ⟨by decide, by decide⟩) hm3
          go_simp
          refine hK.out _ _ trivial (fun hHeld => ?_)
          clear hK K
          refine wpAnyH_take (i := 11) (v := ?v11txxy) rfl (by kernel_rfl) (by kernel_rfl) (by kernel_rfl) (fun _ _ _ h => h) (Or.inl ⟨by rfl, ?hy11txxy⟩) (by assumption) ?rest11txxy
          case hy11txxy => (intro zz hSw; (try dsimp only at hSw); go_simp; (try with_reducible rfl))
          change wpAnyH _ _ _ _ _ _ _ (Act.put _ (some 2) _) _
          simp only [Act.put, List.setIfInBounds_toArray, List.set_cons_zero, List.set_cons_succ]
          refine wpAnyH_done (by kernel_rfl) ?_ _
          go_wp2_with fail
          go_ret
          exact ⟨_, _, _, gs, rfl, hgn, hgv, hg4, hgi, HS12.out.cur, HS12.out.but⟩
      · skip
        have hbl14 := bel1 z1 (.cells #[.int .i64 1, .int .i64 2, .int .i64 1099511627776] 2)
        have Hn14 := Lib.hid (show ON w.heap.size (z1.alloc (.cells #[.int .i64 1, .int .i64 2, .int .i64 1099511627776] 2)) (.slice (some ⟨z1.heap.size, 0, none⟩) 3 3) [1, 2, 1099511627776] from litN (B := w.heap.size) z1 [1, 2, 1099511627776] HS1.out.size (by simp))
        have Hg14 := Lib.hid (Hg1.out.next hbl14)
        have Ho14 := Lib.hid (Hn1.out.next hbl14)
        have HS14 := Lib.hid (HS1.out.alloc (.cells #[.int .i64 1, .int .i64 2, .int .i64 1099511627776] 2))
        have hb_14 : z1.heap.size = z1.heap.size := rfl
        go_simp
        refine hK.out _ _ trivial (fun hHeld => ?_)
        clear hK K hbl14 hb_14
        generalize z1.alloc (.cells #[.int .i64 1, .int .i64 2, .int .i64 1099511627776] 2) = z14 at *
        refine wpAnyH_ready (rs := [4]) (by kernel_rfl) (by simp) (AllReadyH.cons rfl (fun K hK => ?_) (AllReadyH.nil))
        refine step_append_fullN rfl (.tmp 15) (.tmp 16) rfl (l := gl) (m := [1]) rfl rfl HL3.out Hg14.out.vw rfl Ho14.out.vw (by decide) (by decide) ?_
        intro v15 z15 o15 b15
        obtain ⟨a15, c15, e15, -⟩ := o15.form
        subst e15
        have Hn15 := Lib.hid (ON.mono o15 HS14.out.size)
        have HS15 := Lib.hid (st_belowT HS14.out b15)
        have Hg15 := Lib.hid (Hg14.out.next b15)
        have Ho15 := Lib.hid (Ho14.out.next b15)
        have Ht15 := Lib.hid (Hn14.out.next b15)
        have hal15 : (gl ++ [1]).length = 4 := by rw [List.length_append, HL3.out]; rfl
        rw [hal15] at Hn15
        clear o15 b15
        refine hK.out _ _ trivial (fun hHeld => ?_)
        clear hK K
        change wpAnyH _ _ _ _ _ _ _ (Act.put _ (some 17) _) _
        simp only [Act.put, List.setIfInBounds_toArray, List.set_cons_zero, List.set_cons_succ]
        rw [hal15]
        refine wpAnyH_ready (rs := [6, 8]) (by kernel_rfl) (by simp) (AllReadyH.cons rfl (fun K hK => ?_) (AllReadyH.cons rfl (fun K hK => ?_) (AllReadyH.nil)))
        · skip
          have hbl16 := bel1 z15 (.cells #[.slice (some ⟨G, 0, none⟩) 2 3, .slice a15 4 c15, .slice (some ⟨z1.heap.size, 0, none⟩) 3 3] 26)
          have Hn16 := Lib.hid (show O1 26 w.heap.size (z15.alloc (.cells #[.slice (some ⟨G, 0, none⟩) 2 3, .slice a15 4 c15, .slice (some ⟨z1.heap.size, 0, none⟩) 3 3] 26)) (.slice (some ⟨z15.heap.size, 0, none⟩) 3 3) [.slice (some ⟨G, 0, none⟩) 2 3, .slice a15 4 c15, .slice (some ⟨z1.heap.size, 0, none⟩) 3 3] from O1.lit (T := 26) HS15.out.size #[.slice (some ⟨G, 0, none⟩) 2 3, .slice a15 4 c15, .slice (some ⟨z1.heap.size, 0, none⟩) 3 3] (by unfold maxLen; simp))
          have Hg16 := Lib.hid (Hg15.out.next hbl16)
          have Ho16 := Lib.hid (Ho15.out.next hbl16)
          have Ha16 := Lib.hid (Hn15.out.next hbl16)
          have Ht16 := Lib.hid (Ht15.out.next hbl16)
          have HS16 := Lib.hid (HS15.out.alloc (.cells #[.slice (some ⟨G, 0, none⟩) 2 3, .slice a15 4 c15, .slice (some ⟨z1.heap.size, 0, none⟩) 3 3] 26))
          have hb_16 : z15.heap.size = z15.heap.size := rfl
          go_simp
          refine hK.out _ _ trivial (fun hHeld => ?_)
          clear hK K hbl16 hb_16
          generalize z15.alloc (.cells #[.slice (some ⟨G, 0, none⟩) 2 3, .slice a15 4 c15, .slice (some ⟨z1.heap.size, 0, none⟩) 3 3] 26) = z16 at *
          refine wpAnyH_ready (rs := [8]) (by kernel_rfl) (by simp) (AllReadyH.cons rfl (fun K hK => ?_) (AllReadyH.nil))
          go_simp
          refine (below_any B b _ _ HS16.out.cur (by decide) (by decide)).mono ?_; rintro e z17 ⟨y, rfl, y0, y1, hc17, hw17⟩
          obtain ⟨m, rfl⟩ := Int.eq_ofNat_of_zero_le y0
          have hm3 : m < 3 := by omega
          have hmi : (m : Int) < 3 := by omega
          have HS17 := Lib.hid (HS16.out.draws hw17 hc17)
          have Hg17 := Lib.hid (Hg16.out.but hw17 hlt)
          have Ho17 := Lib.hid (Ho16.out.but hw17 hlt)
          have Ha17 := Lib.hid (Ha16.out.but hw17 hlt)
          have Ht17 := Lib.hid (Ht16.out.but hw17 hlt)
          have Hq17 := Lib.hid (Hn16.out.but hw17 hlt)
          clear hw17 hc17
          refine hK.out _ _ trivial (fun hHeld => ?_)
          clear hK K
          refine wpAnyH_take (i := 9) (v := ?v9txyx) rfl (by kernel_rfl) (by kernel_rfl) (by kernel_rfl) (fun _ _ _ h => h) (Or.inl ⟨by rfl, ?hy9txyx⟩) (by assumption) ?rest9txyx
          case hy9txyx => (intro zz hSw; (try dsimp only at hSw); go_simp; (try with_reducible rfl))
          change wpAnyH _ _ _ _ _ _ _ (Act.put _ (some 22) _) _
          simp only [Act.put, List.setIfInBounds_toArray, List.set_cons_zero, List.set_cons_succ]
          refine wpAnyH_ready (rs := [10]) (by kernel_rfl) (by simp) (AllReadyH.cons rfl (fun K hK => ?_) (AllReadyH.nil))
          obtain ⟨pa, pn, pc, gs, hcell, hgn, hgv, hg4, hgi⟩ := pick3 (ON.cut Hg17.out HL3.out (k := 2) (by omega)) Ha17.out Ht17.out Hq17.out (by rw [List.length_take, HL3.out]; decide) (by rw [List.length_append, HL3.out]; decide) (by decide) (fun x hx => HI.out x (List.mem_of_mem_take hx)) (fun x hx => by
              rcases List.mem_append.1 hx with h | h
              · exact HI.out x h
              · simp at h; subst h; exact ⟨by decide, by decide⟩) (fun x hx => by simp at hx; rcases hx with rfl | rfl | rfl <;> exact ⟨by decide, by decide⟩) hm3
          go_simp
          refine hK.out _ _ trivial (fun hHeld => ?_)
          clear hK K
          refine wpAnyH_take (i := 11) (v := ?v11txyx) rfl (by kernel_rfl) (by kernel_rfl) (by kernel_rfl) (fun _ _ _ h => h) (Or.inl ⟨by rfl, ?hy11txyx⟩) (by assumption) ?rest11txyx
          case hy11txyx => (intro zz hSw; (try dsimp only at hSw); go_simp; (try with_reducible rfl))
          change wpAnyH _ _ _ _ _ _ _ (Act.put _ (some 2) _) _
          simp only [Act.put, List.setIfInBounds_toArray, List.set_cons_zero, List.set_cons_succ]
          refine wpAnyH_done (by kernel_rfl) ?_ _
          go_wp2_with fail
          go_ret
          exact ⟨_, _, _, gs, rfl, hgn, hgv, hg4, hgi, HS17.out.cur, HS17.out.but⟩
        · skip
          go_simp
          refine (below_any B b _ _ HS15.out.cur (by decide) (by decide)).mono ?_; rintro e z19 ⟨y, rfl, y0, y1, hc19, hw19⟩
          obtain ⟨m, rfl⟩ := Int.eq_ofNat_of_zero_le y0
          have hm3 : m < 3 := by omega
          have hmi : (m : Int) < 3 := by omega
          have HS19 := Lib.hid (HS15.out.draws hw19 hc19)
          have Hg19 := Lib.hid (Hg15.out.but hw19 hlt)
          have Ho19 := Lib.hid (Ho15.out.but hw19 hlt)
          have Ha19 := Lib.hid (Hn15.out.but hw19 hlt)
          have Ht19 := Lib.hid (Ht15.out.but hw19 hlt)
          clear hw19 hc19
          refine hK.out _ _ trivial (fun hHeld => ?_)
          clear hK K
          refine wpAnyH_ready (rs := [6]) (by kernel_rfl) (by simp) (AllReadyH.cons rfl (fun K hK => ?_) (AllReadyH.nil))
          have hbl20 := bel1 z19 (.cells #[.slice (some ⟨G, 0, none⟩) 2 3, .slice a15 4 c15, .slice (some ⟨z1.heap.size, 0, none⟩) 3 3] 26)
          have Hn20 := Lib.hid (show O1 26 w.heap.size (z19.alloc (.cells #[.slice (some ⟨G, 0, none⟩) 2 3, .slice a15 4 c15, .slice (some ⟨z1.heap.size, 0, none⟩) 3 3] 26)) (.slice (some ⟨z19.heap.size, 0, none⟩) 3 3) [.slice (some ⟨G, 0, none⟩) 2 3, .slice a15 4 c15, .slice (some ⟨z1.heap.size, 0, none⟩) 3 3] from O1.lit (T := 26) HS19.out.size #[.slice (some ⟨G, 0, none⟩) 2 3, .slice a15 4 c15, .slice (some ⟨z1.heap.size, 0, none⟩) 3 3] (by unfold maxLen; simp))
          have Hg20 := Lib.hid (Hg19.out.next hbl20)
          have Ho20 := Lib.hid (Ho19.out.next hbl20)
          have Ha20 := Lib.hid (Ha19.out.next hbl20)
          have Ht20 := Lib.hid (Ht19.out.next hbl20)
          have HS20 := Lib.hid (HS19.out.alloc (.cells #[.slice (some ⟨G, 0, none⟩) 2 3, .slice a15 4 c15, .slice (some ⟨z1.heap.size, 0, none⟩) 3 3] 26))
          have hb_20 : z19.heap.size = z19.heap.size := rfl
          go_simp
          refine hK.out _ _ trivial (fun hHeld => ?_)
          clear hK K hbl20 hb_20
          generalize z19.alloc (.cells #[.slice (some ⟨G, 0, none⟩) 2 3, .slice a15 4 c15, .slice (some ⟨z1.heap.size, 0, none⟩) 3 3] 26) = z20 at *
          refine wpAnyH_take (i := 9) (v := ?v9txyy) rfl (by kernel_rfl) (by kernel_rfl) (by kernel_rfl) (fun _ _ _ h => h) (Or.inl ⟨by rfl, ?hy9txyy⟩) (by assumption) ?rest9txyy
          case hy9txyy => (intro zz hSw; (try dsimp only at hSw); go_simp; (try with_reducible rfl))
          change wpAnyH _ _ _ _ _ _ _ (Act.put _ (some 22) _) _
          simp only [Act.put, List.setIfInBounds_toArray, List.set_cons_zero, List.set_cons_succ]
          refine wpAnyH_ready (rs := [10]) (by kernel_rfl) (by simp) (AllReadyH.cons rfl (fun K hK => ?_) (AllReadyH.nil))
          obtain ⟨pa, pn, pc, gs, hcell, hgn, hgv, hg4, hgi⟩ := pick3 (ON.cut Hg20.out HL3.out (k := 2) (by omega)) Ha20.out Ht20.out Hn20.out (by rw [List.length_take, HL3.out]; decide) (by rw [List.length_append, HL3.out]; decide) (by decide) (fun x hx => HI.out x (List.mem_of_mem_take hx)) (fun x hx => by
              rcases List.mem_append.1 hx with h | h
              · exact HI.out x h
              · simp at h; subst h; exact ⟨by decide, by decide⟩) (fun x hx => by simp at hx; rcases hx with rfl | rfl | rfl <;> exact ⟨by decide, by decide⟩) hm3
          go_simp
          refine hK.out _ _ trivial (fun hHeld => ?_)
          clear hK K
          refine wpAnyH_take (i := 11) (v := ?v11txyy) rfl (by kernel_rfl) (by kernel_rfl) (by kernel_rfl) (fun _ _ _ h => h) (Or.inl ⟨by rfl, ?hy11txyy⟩) (by assumption) ?rest11txyy
          case hy11txyy => (intro zz hSw; (try dsimp only at hSw); go_simp; (try with_reducible rfl))
          change wpAnyH _ _ _ _ _ _ _ (Act.put _ (some 2) _) _
          simp only [Act.put, List.setIfInBounds_toArray, List.set_cons_zero, List.set_cons_succ]
          refine wpAnyH_done (by kernel_rfl) ?_ _
          go_wp2_with fail
          go_ret
          exact ⟨_, _, _, gs, rfl, hgn, hgv, hg4, hgi, HS20.out.cur, HS20.out.but⟩
    · skip
      generalize w5.drew = z0 at *
      have hbl22 := bel1 z0 (.cells #[.int .i64 1, .int .i64 2, .int .i64 1099511627776] 2)
      have Hn22 := Lib.hid (show ON w.heap.size (z0.alloc (.cells #[.int .i64 1, .int .i64 2, .int .i64 1099511627776] 2)) (.slice (some ⟨z0.heap.size, 0, none⟩) 3 3) [1, 2, 1099511627776] from litN (B := w.heap.size) z0 [1, 2, 1099511627776] HSd.out.size (by simp))
      have Hg22 := Lib.hid (HGd.out.next hbl22)
      have HS22 := Lib.hid (HSd.out.alloc (.cells #[.int .i64 1, .int .i64 2, .int .i64 1099511627776] 2))
      have hb_22 : z0.heap.size = z0.heap.size := rfl
      go_simp
      refine hK.out _ _ trivial (fun hHeld => ?_)
      clear hK K hbl22 hb_22
      generalize z0.alloc (.cells #[.int .i64 1, .int .i64 2, .int .i64 1099511627776] 2) = z22 at *
      refine wpAnyH_ready (rs := [3]) (by kernel_rfl) (by simp) (AllReadyH.cons rfl (fun K hK => ?_) (AllReadyH.nil))
      have hbl23 := bel1 z22 (.cells #[.int .i64 1] 2)
      have Hn23 := Lib.hid (show ON w.heap.size (z22.alloc (.cells #[.int .i64 1] 2)) (.slice (some ⟨z22.heap.size, 0, none⟩) 1 1) [1] from litN (B := w.heap.size) z22 [1] HS22.out.size (by simp))
      have Hg23 := Lib.hid (Hg22.out.next hbl23)
      have Ht23 := Lib.hid (Hn22.out.next hbl23)
      have HS23 := Lib.hid (HS22.out.alloc (.cells #[.int .i64 1] 2))
      have hb_23 : z22.heap.size = z22.heap.size := rfl
      go_simp
      refine hK.out _ _ trivial (fun hHeld => ?_)
      clear hK K hbl23 hb_23
      generalize z22.alloc (.cells #[.int .i64 1] 2) = z23 at *
      refine wpAnyH_ready (rs := [4]) (by kernel_rfl) (by simp) (AllReadyH.cons rfl (fun K hK => ?_) (AllReadyH.nil))
      refine step_append_fullN rfl (.tmp 15) (.tmp 16) rfl (l := gl) (m := [1]) rfl rfl HL3.out Hg23.out.vw rfl Hn23.out.vw (by decide) (by decide) ?_
      intro v24 z24 o24 b24
      obtain ⟨a24, c24, e24, -⟩ := o24.form
      subst e24
      have Hn24 := Lib.hid (ON.mono o24 HS23.out.size)
      have HS24 := Lib.hid (st_belowT HS23.out b24)
      have Hg24 := Lib.hid (Hg23.out.next b24)
      have Ho24 := Lib.hid (Hn23.out.next b24)
      have Ht24 := Lib.hid (Ht23.out.next b24)
      have hal24 : (gl ++ [1]).length = 4 := by rw [List.length_append, HL3.out]; rfl
      rw [hal24] at Hn24
      clear o24 b24
      refine hK.out _ _ trivial (fun hHeld => ?_)
      clear hK K
      change wpAnyH _ _ _ _ _ _ _ (Act.put _ (some 17) _) _
      simp only [Act.put, List.setIfInBounds_toArray, List.set_cons_zero, List.set_cons_succ]
      rw [hal24]
      refine wpAnyH_ready (rs := [6, 8]) (by kernel_rfl) (by simp) (AllReadyH.cons rfl (fun K hK => ?_) (AllReadyH.cons rfl (fun K hK => ?_) (AllReadyH.nil)))
      · skip
        have hbl25 := bel1 z24 (.cells #[.slice (some ⟨G, 0, none⟩) 2 3, .slice a24 4 c24, .slice (some ⟨z0.heap.size, 0, none⟩) 3 3] 26)
        have Hn25 := Lib.hid (show O1 26 w.heap.size (z24.alloc (.cells #[.slice (some ⟨G, 0, none⟩) 2 3, .slice a24 4 c24, .slice (some ⟨z0.heap.size, 0, none⟩) 3 3] 26)) (.slice (some ⟨z24.heap.size, 0, none⟩) 3 3) [.slice (some ⟨G, 0, none⟩) 2 3, .slice a24 4 c24, .slice (some ⟨z0.heap.size, 0, none⟩) 3 3] from O1.lit (T := 26) HS24.out.size #[.slice (some ⟨G, 0, none⟩) 2 3, .slice a24 4 c24, .slice (some ⟨z0.heap.size, 0, none⟩) 3 3] (by unfold maxLen; simp))
        have Hg25 := Lib.hid (Hg24.out.next hbl25)
        have Ho25 := Lib.hid (Ho24.out.next hbl25)
        have Ha25 := Lib.hid (Hn24.out.next hbl25)
        have Ht25 := Lib.hid (Ht24.out.next hbl25)
        have HS25 := Lib.hid (HS24.out.alloc (.cells #[.slice (some ⟨G, 0, none⟩) 2 3, .slice a24 4 c24, .slice (some ⟨z0.heap.size, 0, none⟩) 3 3] 26))
        have hb_25 : z24.heap.size = z24.heap.size := rfl
        go_simp
        refine hK.out _ _ trivial (fun hHeld => ?_)
        clear hK K hbl25 hb_25
        generalize z24.alloc (.cells #[.slice (some ⟨G, 0, none⟩) 2 3, .slice a24 4 c24, .slice (some ⟨z0.heap.size, 0, none⟩) 3 3] 26) = z25 at *
        refine wpAnyH_ready (rs := [8]) (by kernel_rfl) (by simp) (AllReadyH.cons rfl (fun K hK => ?_) (AllReadyH.nil))
        go_simp
        refine (below_any B b _ _ HS25.out.cur (by decide) (by decide)).mono ?_; rintro e z26 ⟨y, rfl, y0, y1, hc26, hw26⟩
        obtain ⟨m, rfl⟩ := Int.eq_ofNat_of_zero_le y0
        have hm3 : m < 3 := by omega
        have hmi : (m : Int) < 3 := by omega
        have HS26 := Lib.hid (HS25.out.draws hw26 hc26)
        have Hg26 := Lib.hid (Hg25.out.but hw26 hlt)
        have Ho26 := Lib.hid (Ho25.out.but hw26 hlt)
        have Ha26 := Lib.hid (Ha25.out.but hw26 hlt)
        have Ht26 := Lib.hid (Ht25.out.but hw26 hlt)
        have Hq26 := Lib.hid (Hn25.out.but hw26 hlt)
        clear hw26 hc26
        refine hK.out _ _ trivial (fun hHeld => ?_)
        clear hK K
        refine wpAnyH_take (i := 9) (v := ?v9tyx) rfl (by kernel_rfl) (by kernel_rfl) (by kernel_rfl) (fun _ _ _ h => h) (Or.inl ⟨by rfl, ?hy9tyx⟩) (by assumption) ?rest9tyx
        case hy9tyx => (intro zz hSw; (try dsimp only at hSw); go_simp; (try with_reducible rfl))
        change wpAnyH _ _ _ _ _ _ _ (Act.put _ (some 22) _) _
        simp only [Act.put, List.setIfInBounds_toArray, List.set_cons_zero, List.set_cons_succ]
        refine wpAnyH_ready (rs := [10]) (by kernel_rfl) (by simp) (AllReadyH.cons rfl (fun K hK => ?_) (AllReadyH.nil))
        obtain ⟨pa, pn, pc, gs, hcell, hgn, hgv, hg4, hgi⟩ := pick3 (ON.cut Hg26.out HL3.out (k := 2) (by omega)) Ha26.out Ht26.out Hq26.out (by rw [List.length_take, HL3.out]; decide) (by rw [List.length_append, HL3.out]; decide) (by decide) (fun x hx => HI.out x (List.mem_of_mem_take hx)) (fun x hx => by
            rcases List.mem_append.1 hx with h | h
            · exact HI.out x h
            · simp at h; subst h; exact ⟨by decide, by decide⟩) (fun x hx => by simp at hx; rcases hx with rfl | rfl | rfl <;> exact ⟨by decide, by decide⟩) hm3
        go_simp
        refine hK.out _ _ trivial (fun hHeld => ?_)
        clear hK K
        refine wpAnyH_take (i := 11) (v := ?v11tyx) rfl (by kernel_rfl) (by kernel_rfl) (by kernel_rfl) (fun _ _ _ h => h) (Or.inl ⟨by rfl, ?hy11tyx⟩) (by assumption) ?rest11tyx
        case hy11tyx => (intro zz hSw; (try dsimp only at hSw); go_simp; (try with_reducible rfl))
        change wpAnyH _ _ _ _ _ _ _ (Act.put _ (some 2) _) _
        simp only [Act.put, List.setIfInBounds_toArray, List.set_cons_zero, List.set_cons_succ]
        refine wpAnyH_done (by kernel_rfl) ?_ _
        go_wp2_with fail
        go_ret
        exact ⟨_, _, _, gs, rfl, hgn, hgv, hg4, hgi, HS26.out.cur, HS26.out.but⟩
      · skip
        go_simp
        refine (below_any B b _ _ HS24.out.cur (by decide) (by decide)).mono ?_; rintro e z28 ⟨y, rfl, y0, y1, hc28, hw28⟩
        obtain ⟨m, rfl⟩ := Int.eq_ofNat_of_zero_le y0
        have hm3 : m < 3 := by omega
        have hmi : (m : Int) < 3 := by omega
        have HS28 := Lib.hid (HS24.out.draws hw28 hc28)
        have Hg28 := Lib.hid (Hg24.out.but hw28 hlt)
        have Ho28 := Lib.hid (Ho24.out.but hw28 hlt)
        have Ha28 := Lib.hid (Hn24.out.but hw28 hlt)
        have Ht28 := Lib.hid (Ht24.out.but hw28 hlt)
        clear hw28 hc28
        refine hK.out _ _ trivial (fun hHeld => ?_)
        clear hK K
        refine wpAnyH_ready (rs := [6]) (by kernel_rfl) (by simp) (AllReadyH.cons rfl (fun K hK => ?_) (AllReadyH.nil))
        have hbl29 := bel1 z28 (.cells #[.slice (some ⟨G, 0, none⟩) 2 3, .slice a24 4 c24, .slice (some ⟨z0.heap.size, 0, none⟩) 3 3] 26)
        have Hn29 := Lib.hid (show O1 26 w.heap.size (z28.alloc (.cells #[.slice (some ⟨G, 0, none⟩) 2 3, .slice a24 4 c24, .slice (some ⟨z0.heap.size, 0, none⟩) 3 3] 26)) (.slice (some ⟨z28.heap.size, 0, none⟩) 3 3) [.slice (some ⟨G, 0, none⟩) 2 3, .slice a24 4 c24, .slice (some ⟨z0.heap.size, 0, none⟩) 3 3] from O1.lit (T := 26) HS28.out.size #[.slice (some ⟨G, 0, none⟩) 2 3, .slice a24 4 c24, .slice (some ⟨z0.heap.size, 0, none⟩) 3 3] (by unfold maxLen; simp))
        have Hg29 := Lib.hid (Hg28.out.next hbl29)
        have Ho29 := Lib.hid (Ho28.out.next hbl29)
        have Ha29 := Lib.hid (Ha28.out.next hbl29)
        have Ht29 := Lib.hid (Ht28.out.next hbl29)
        have HS29 := Lib.hid (HS28.out.alloc (.cells #[.slice (some ⟨G, 0, none⟩) 2 3, .slice a24 4 c24, .slice (some ⟨z0.heap.size, 0, none⟩) 3 3] 26))
        have hb_29 : z28.heap.size = z28.heap.size := rfl
        go_simp
        refine hK.out _ _ trivial (fun hHeld => ?_)
        clear hK K hbl29 hb_29
        generalize z28.alloc (.cells #[.slice (some ⟨G, 0, none⟩) 2 3, .slice a24 4 c24, .slice (some ⟨z0.heap.size, 0, none⟩) 3 3] 26) = z29 at *
        refine wpAnyH_take (i := 9) (v := ?v9tyy) rfl (by kernel_rfl) (by kernel_rfl) (by kernel_rfl) (fun _ _ _ h => h) (Or.inl ⟨by rfl, ?hy9tyy⟩) (by assumption) ?rest9tyy
        case hy9tyy => (intro zz hSw; (try dsimp only at hSw); go_simp; (try with_reducible rfl))
        change wpAnyH _ _ _ _ _ _ _ (Act.put _ (some 22) _) _
        simp only [Act.put, List.setIfInBounds_toArray, List.set_cons_zero, List.set_cons_succ]
        refine wpAnyH_ready (rs := [10]) (by kernel_rfl) (by simp) (AllReadyH.cons rfl (fun K hK => ?_) (AllReadyH.nil))
        obtain ⟨pa, pn, pc, gs, hcell, hgn, hgv, hg4, hgi⟩ := pick3 (ON.cut Hg29.out HL3.out (k := 2) (by omega)) Ha29.out Ht29.out Hn29.out (by rw [List.length_take, HL3.out]; decide) (by rw [List.length_append, HL3.out]; decide) (by decide) (fun x hx => HI.out x (List.mem_of_mem_take hx)) (fun x hx => by
            rcases List.mem_append.1 hx with h | h
            · exact HI.out x h
            · simp at h; subst h; exact ⟨by decide, by decide⟩) (fun x hx => by simp at hx; rcases hx with rfl | rfl | rfl <;> exact ⟨by decide, by decide⟩) hm3
        go_simp
        refine hK.out _ _ trivial (fun hHeld => ?_)
        clear hK K
        refine wpAnyH_take (i := 11) (v := ?v11tyy) rfl (by kernel_rfl) (by kernel_rfl) (by kernel_rfl) (fun _ _ _ h => h) (Or.inl ⟨by rfl, ?hy11tyy⟩) (by assumption) ?rest11tyy
        case hy11tyy => (intro zz hSw; (try dsimp only at hSw); go_simp; (try with_reducible rfl))
        change wpAnyH _ _ _ _ _ _ _ (Act.put _ (some 2) _) _
        simp only [Act.put, List.setIfInBounds_toArray, List.set_cons_zero, List.set_cons_succ]
        refine wpAnyH_done (by kernel_rfl) ?_ _
        go_wp2_with fail
        go_ret
        exact ⟨_, _, _, gs, rfl, hgn, hgv, hg4, hgi, HS29.out.cur, HS29.out.but⟩
def DrewS (w : World) (e : Ending) (w' : World) : Prop := ∃ (v : Value) (l : List Tk) (at_ : Int) (bv : Value) (bs : List Bi) (ga : Option Addr) (gn gc : Nat) (gs : List Int), e = .returned (.tuple #[v, .int .i64 at_, bv, .slice ga gn gc]) ∧ OT w.heap.size w' v l ∧ l.length ≤ 40 ∧ SmT l ∧ -1 ≤ at_ ∧ at_ ≤ 40 ∧ OwI w.heap.size w' bv bs ∧ bs.length ≤ 20 ∧ SmI bs ∧ gs.length = gn ∧ V1 w' ga gc (inL gs) ∧ gn ≤ 4 ∧ I64s gs ∧ Below w.heap.size w w'
set_option maxHeartbeats 4000000 in
set_option maxRecDepth 100000 in
theorem drawSumOf_any (w : World) (a : Option Addr) (len cap : Nat) (hb : IsBytes w a len) (hl : len ≤ 4096) : Calls Tryz.prog 5 #[.slice a len cap] w (DrewS w) := by
  have HB := Lib.hid hb; clear hb
  go_enter Tryz.func5, Tryz.ntmps5
  go_wp2_with fail
  refine (new_any _ a len cap HB.out hl).mono ?_; rintro e w1 ⟨b, rfl, hc1, hw1⟩
  have hbw : w.heap.size ≤ b := hc1.le
  have B1 := Lib.hid hw1
  have HS := Lib.hid (show Cu.St w1 _ b w1 from ⟨But.refl b w1, hc1, hc1.lt⟩); clear hw1 hc1
  have HLT := Lib.hid (show b < w1.heap.size from HS.out.lt)
  go_wp2_with fail
  refine (drawX_any _ b _ HS.out.cur).mono ?_; rintro e w2 ⟨v, l, x, rfl, o2, n2, s2, x0, x1, hc2, hw2⟩
  have HS2 := Lib.hid (HS.out.draws hw2 hc2)
  have HM := Lib.hid s2
  have HO2 := Lib.hid o2; clear o2 s2 hc2 hw2 HS
  go_wp2_with fail
  refine (drawAnyI_any _ b _ HS2.out.cur).mono ?_; rintro e w3 ⟨bv, bs, rfl, o3, n3, s3, hc3, hw3⟩
  have HO3 := Lib.hid (HO2.out.but hw3 HLT.out)
  have HB3 := Lib.hid (o3.mono HS2.out.size)
  have HS3 := Lib.hid (HS2.out.draws hw3 hc3)
  have HMB := Lib.hid s3; clear o3 s3 hc3 hw3 HS2 HO2
  go_wp2_with fail
  refine (drawGiven_any _ b _ HS3.out.cur).mono ?_; rintro e w4 ⟨ga, gn, gc, gs, rfl, hgn, hgv, hg4, hgi, hc4, hw4⟩
  have HO4 := Lib.hid ((HO3.out.but hw4 HLT.out).mono B1.out.size)
  have HB4 := Lib.hid ((HB3.out.but hw4 HLT.out).mono B1.out.size)
  have HS4 := Lib.hid (HS3.out.draws hw4 hc4)
  have HG := Lib.hid (And.intro hgn (And.intro hgv hgi)); clear hc4 hw4 hgn hgv hgi HS3 HO3 HB3
  have HF := Lib.hid (B1.out.trans (HS4.out.but.below (B := w.heap.size) hbw B1.out.size))
  go_wp2_with fail
  refine bodyPost_ret (v := .tuple #[v, .int .i64 x, bv, .slice ga gn gc]) (by simp [results, Tryz.results5, go_sem]) rfl ⟨v, l, x, bv, bs, ga, gn, gc, gs, rfl, HO4.out, n2, HM.out, x0, x1, HB4.out, n3, HMB.out, HG.out.1, HG.out.2.1, hg4, HG.out.2.2, HF.out⟩
end Go.Proofs.YtdgkinepoalfcaaGreatDoor.Cl
