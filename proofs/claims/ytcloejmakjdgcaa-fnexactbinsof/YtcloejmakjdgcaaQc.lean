/-
  The contracts of spec.l5Alike, spec.l5Thin and spec.Thinned: 'al', 'thinL', 'thP'. (Made by gen_qc.py.)
-/
import Derived.Test.YtcloejmakjdgcaaQa
import Derived.Test.YtcloejmakjdgcaaCo
namespace Go.Proofs.Ytcloejmakjdgcaa.Cl
open Go.RowKit Wd Rp Kp
set_option linter.unusedVariables false
theorem append_at {ops : Array Oper} {rest : List Oper} {o : Oper} {a : Act} {Q : Exit → Act → World → Prop} {w : World} (hw : Region.wanted o (yielded ops a.tmps) = true) (s x : Operand)
    (ho : o.op = .call { callee := .builtin .append, args := #[s, x], argTypes := #[24, 24] })
    {base : Nat} {v : Value} {ad : Option Addr} {cap n : Nat} {l m : List Cel} (hs : a.eval s = v) (hx : a.eval x = .slice ad n cap) (hmn : m.length = n) (hown : OwC base w v l) (hy : Vw w ad cap m) (hlen : l.length + m.length ≤ 10000000) (hbase : base ≤ w.heap.size)
    (h : ∀ v' w', OwC base w' v' (l ++ m) → w.grownBy w' v.ownBlock → (v'.ownBlock = v.ownBlock ∨ v'.ownBlock = some w.heap.size) → wpList Try.prog ops Q rest (a.put o.dst v') w') : wpList Try.prog ops Q (o :: rest) a w := by
  refine BigFrame.wpList_want hw fun K hK => ?_
  subst hmn
  obtain ⟨v', w', hr, h2, h3, h4⟩ := run_append_cells o.type hown hy hlen hbase
  unfold Oper.wp execOp
  simp only [ho, resolve, invoke, builtin, Sem.run_bind, Sem.run_pure, Result.andThen_ok, List.map_toArray, List.map_cons, List.map_nil, hs, hx, hr]
  exact hK _ _ (h v' w' h2 h3 h4)
set_option maxRecDepth 100000 in
set_option maxHeartbeats 2000000 in
theorem l5Alike_any (c d : Cel) (w : World) :
    Calls Try.prog 132 #[.agg #[.string c.r, .string c.b, .int .i64 c.t, .int .i64 c.v, .bool c.g], .agg #[.string d.r, .string d.b, .int .i64 d.t, .int .i64 d.v, .bool d.g]] w fun e w' => e = .returned (.bool (c.al d)) ∧ Below w.heap.size w w' := by
  have HB := Lib.hid (bel2 w)
  have HA := Lib.hid (show c.al d = (c.r.toList == d.r.toList && c.b.toList == d.b.toList) by unfold Cel.al; rw [ba_beq, ba_beq])
  cases q1 : (c.r.toList == d.r.toList)
  · rw [q1] at HA
    go_enter Try.func132, Try.ntmps132
    go_wp2
    go_ret
    exact ⟨by rw [HA.out]; rfl, HB.out _ _⟩
  · rw [q1] at HA
    cases q2 : (c.b.toList == d.b.toList)
    all_goals
      rw [q2] at HA
      go_enter Try.func132, Try.ntmps132
      go_wp2
      go_ret
      exact ⟨by rw [HA.out]; rfl, HB.out _ _⟩
theorem alike_is {c d : Cel} {x : Bool} (h : c.al d = x) (w : World) : Calls Try.prog 132 #[.agg #[.string c.r, .string c.b, .int .i64 c.t, .int .i64 c.v, .bool c.g], .agg #[.string d.r, .string d.b, .int .i64 d.t, .int .i64 d.v, .bool d.g]] w fun e w' => e = .returned (.bool x) ∧ Below w.heap.size w w' := by
  rw [← h]; exact l5Alike_any c d w
theorem inB_iff {x lo hi : Int} : inB x lo hi = true ↔ lo ≤ x ∧ x ≤ hi := by unfold inB; simp
theorem inB_yes {x lo hi : Int} (h : lo ≤ x ∧ x ≤ hi) : inB x lo hi = true := inB_iff.2 h
theorem l1In_is {x lo hi : Int} {y : Bool} (h : inB x lo hi = y) (w : World) : Calls Try.prog 73 #[.int .i64 x, .int .i64 lo, .int .i64 hi] w fun e w' => e = .returned (.bool y) ∧ w = w' := by
  subst h
  exact l1In_any x lo hi w
theorem thin_round {K : Nat} {f : Int} {l r o0 o q : List Cel} {c : Cel} {i e j : Nat} (hs : Srt (l.drop i)) (hd : l.drop i = c :: r) (hg : grp (c :: r) = e - i) (hie : i ≤ e) (hf : (o, q) = ((c :: r).take (e - i)).foldl (stp K f) (o0, [])) (hj : trim q 0 q.length = j) (heq : o0 ++ thinL K f (l.drop i) = thinL K f l) :
    (o ++ q.take j) ++ thinL K f (l.drop e) = thinL K f l := by
  have hde : l.drop e = (c :: r).drop (e - i) := by rw [← hd, List.drop_drop]; congr 1; omega
  have h1 := stp_all (one_grp (l := c :: r) (by rw [← hd]; exact hs)) K f o0
  rw [hg] at h1
  rw [h1] at hf
  obtain ⟨rfl, rfl⟩ := Prod.mk.inj hf
  rw [← heq, hd, thinL_cons (l := c :: r) (by simp), thinG_is, hg, hde, ← hj, List.append_assoc, List.append_assoc, List.append_assoc]
/-- While the cells of one bin are gathered: those from i on, up to e. -/
def Gath (w : World) (K : Nat) (f : Int) (i : Nat) (c : Cel) (lr o0 : List Cel) (e : Nat) (s7 s10 : Value) (wr : World) : Prop :=
  ∃ o q, OwC w.heap.size wr s7 o ∧ OwC w.heap.size wr s10 q ∧ (∀ k, s7.ownBlock = some k → s10.ownBlock = some k → False) ∧ (o, q) = (lr.take (e - i)).foldl (stp K f) (o0, []) ∧ (∀ m d, m < e - i → lr[m]? = some d → c.al d = true) ∧ Below w.heap.size w wr ∧ o.length + q.length ≤ o0.length + (e - i) ∧ q.length ≤ K
set_option maxHeartbeats 8000000 in
set_option maxRecDepth 100000 in
theorem l5Thin_any (w : World) (a : Option Addr) (cap : Nat) (l : List Cel) (n K : Nat) (f : Int) (hn : l.length = n) (hv : Vw w a cap l) (hl : n ≤ 4000) (hK1 : 1 ≤ K) (hK : K ≤ 9) (hsrt : Srt l) :
    Calls Try.prog 75 #[.slice a n cap, .int .i64 (K : Int), .int .i64 f] w fun e w' => ∃ v, e = .returned v ∧ OwC w.heap.size w' v (thinL K f l) ∧ Below w.heap.size w w' := by
  have HV := Lib.hid hv; clear hv
  have HS0 := Lib.hid hsrt; clear hsrt
  have HNL := Lib.hid hn; clear hn
  have q5 : (K : Int) ≤ 9 := by omega
  have q6 : (0 : Int) ≤ (K : Int) := by omega
  go_enter Try.func75, Try.ntmps75
  go_wp2_with fail
  go_loopw [7, 8, 9, 10] (fun s7 s8 _ _ wr => ∃ i o, s8 = .int .i64 ((i : Nat) : Int) ∧ i ≤ n ∧ OwC w.heap.size wr s7 o ∧ o ++ thinL K f (l.drop i) = thinL K f l ∧ Below w.heap.size w wr ∧ o.length + (n - i) ≤ 4000) (fun _ s8 _ _ _ => n - intV s8)
  case atStart => exact ⟨0, [], rfl, Nat.zero_le _, OwC.start (Nat.le_refl _), rfl, bel1 _ _, by simp; omega⟩
  case round =>
    obtain ⟨i, o0, rfl, hi, ho, heq, hbel, hlen⟩ := hrel
    have HEQ := Lib.hid heq; clear heq
    by_cases hlt : i < n
    · obtain ⟨c, hc⟩ : ∃ c, l[i]? = some c := ⟨l[i]'(by rw [HNL.out]; exact hlt), List.getElem?_eq_getElem _⟩
      obtain ⟨g, ol, rfl, hg, h5⟩ := HV.out.2.2.2 i c hc
      have HC5 := Lib.hid h5; clear h5
      obtain ⟨r, hr⟩ : ∃ r, l.drop i = c :: r := by
        rw [List.drop_eq_getElem_cons (by rw [HNL.out]; exact hlt)]
        rw [List.getElem?_eq_getElem (by rw [HNL.out]; exact hlt)] at hc
        rw [Option.some.inj hc]; exact ⟨_, rfl⟩
      have HDR := Lib.hid hr
      have HSRT := Lib.hid (show Srt (l.drop i) from List.Pairwise.sublist (List.drop_sublist _ _) HS0.out)
      have HAT := Lib.hid (show ∀ m, (c :: r)[m]? = l[i + m]? from fun m => by rw [← hr, List.getElem?_drop])
      have HCR := Lib.hid (show (c :: r).length = n - i by rw [← hr, List.length_drop, HNL.out])
      have HST := Lib.hid (show Gath w K f i c (c :: r) o0 i _ (.slice (some ⟨wr.heap.size, 0, none⟩) 0 0) (wr.alloc (.cells #[] 33)) from
        ⟨o0, [], ho.next (bel1 _ _), OwC.start hbel.size, (fun k h1 h2 => by have := OwC.low ho k h1; have h3 : wr.heap.size = k := (by simpa [Value.ownBlock] using h2); omega), by simp, (fun m d hm => by omega), hbel.alloc hbel.size _, by simp, by simp⟩)
      clear hc hr ho hbel
      have jn : (i : Int) < (n : Int) := by omega
      have jn0 : (0 : Int) ≤ (i : Int) := by omega
      go_wp2_with fail
      go_loopw [7, 9, 10] (fun s7 s9 s10 wr => ∃ e : Nat, s9 = .int .i64 (e : Int) ∧ i ≤ e ∧ e ≤ n ∧ Gath w K f i c (c :: r) o0 e s7 s10 wr) (fun _ s9 _ _ => n - intV s9)
      case atStart => exact ⟨i, rfl, Nat.le_refl _, hi, HST.out⟩
      case round =>
        clear HST
        obtain ⟨e, rfl, hie, hen, o, q, hoa, hob, hap, hfold, hall, hbel, hol, hq9⟩ := hrel
        have HB := Lib.hid hbel; clear hbel
        have HOA := Lib.hid hoa; clear hoa
        have HOB := Lib.hid hob; clear hob
        have HAP := Lib.hid hap; clear hap
        have HFOLD := Lib.hid hfold; clear hfold
        have HALL := Lib.hid hall; clear hall
        have hg' : g < wr.heap.size := Nat.lt_of_lt_of_le hg HB.out.size
        by_cases hlt2 : e < n
        · obtain ⟨d, hd⟩ : ∃ d, l[e]? = some d := ⟨l[e]'(by rw [HNL.out]; exact hlt2), List.getElem?_eq_getElem _⟩
          obtain ⟨g2, o2, e2, -, h5⟩ := HV.out.2.2.2 e d hd
          cases e2
          have HD5 := Lib.hid h5; clear h5
          have HDX := Lib.hid (show (c :: r)[e - i]? = some d by rw [HAT.out, show i + (e - i) = e by omega]; exact hd); clear hd
          obtain ⟨c0, c1, c2, c3, c4⟩ : At5 wr g (ol + i * 5) c := HC5.out.same (HB.out.block g hg)
          obtain ⟨d0, d1, d2, d3, d4⟩ : At5 wr g (ol + e * 5) d := HD5.out.same (HB.out.block g hg)
          have SOF := Lib.hid (show ∀ z, Below wr.heap.size wr z → (z.cell? ⟨g, ol + i * 5, none⟩ = some (.string c.r) ∧ z.cell? ⟨g, ol + i * 5 + 1, none⟩ = some (.string c.b) ∧ z.cell? ⟨g, ol + i * 5 + 2, none⟩ = some (.int .i64 c.t) ∧ z.cell? ⟨g, ol + i * 5 + 3, none⟩ = some (.int .i64 c.v) ∧ z.cell? ⟨g, ol + i * 5 + 4, none⟩ = some (.bool c.g) ∧ z.cell? ⟨g, ol + e * 5, none⟩ = some (.string d.r) ∧ z.cell? ⟨g, ol + e * 5 + 1, none⟩ = some (.string d.b) ∧ z.cell? ⟨g, ol + e * 5 + 2, none⟩ = some (.int .i64 d.t) ∧ z.cell? ⟨g, ol + e * 5 + 3, none⟩ = some (.int .i64 d.v) ∧ z.cell? ⟨g, ol + e * 5 + 4, none⟩ = some (.bool d.g) ∧ Below wr.heap.size wr z) from fun z hz => ⟨coc hz hg' c0, coc hz hg' c1, coc hz hg' c2, coc hz hg' c3, coc hz hg' c4, coc hz hg' d0, coc hz hg' d1, coc hz hg' d2, coc hz hg' d3, coc hz hg' d4,  hz⟩)
          clear c0 c1 c2 c3 c4 d0 d1 d2 d3 d4
          have j1 : (e : Int) < (n : Int) := by omega
          have j2 : (0 : Int) ≤ (e : Int) := by omega
          have j3 : (n : Int) ≤ 4000 := by omega
          have j5 : decide ((e : Int) < (n : Int)) = true := decide_eq_true j1
          have j6 : decide (e < n) = true := decide_eq_true hlt2
          have j7 : 0 < n := by omega
          cases hal : c.al d
          · have HAL := Lib.hid (alike_is hal)
            have hei : 1 ≤ e - i := by
              rcases Nat.eq_zero_or_pos (e - i) with h0 | h0
              · have h1 := HDX.out
                rw [h0] at h1
                have h2 : c = d := by simpa using h1
                rw [← h2, al_refl] at hal; cases hal
              · exact h0
            have HGR := Lib.hid (show grp (c :: r) = e - i from grp_is hei (by rw [HCR.out]; omega) (fun m d' h1 h2 h3 => by rw [al_symm]; exact HALL.out m d' h2 h3) (fun d' h3 => by rw [HDX.out] at h3; cases h3; rw [al_symm]; exact hal))
            clear hal
            go_wp2_with fail
            refine wp_region_held_drew (S := fun z => z.cell? ⟨g, ol + i * 5, none⟩ = some (.string c.r) ∧ z.cell? ⟨g, ol + i * 5 + 1, none⟩ = some (.string c.b) ∧ z.cell? ⟨g, ol + i * 5 + 2, none⟩ = some (.int .i64 c.t) ∧ z.cell? ⟨g, ol + i * 5 + 3, none⟩ = some (.int .i64 c.v) ∧ z.cell? ⟨g, ol + i * 5 + 4, none⟩ = some (.bool c.g) ∧ z.cell? ⟨g, ol + e * 5, none⟩ = some (.string d.r) ∧ z.cell? ⟨g, ol + e * 5 + 1, none⟩ = some (.string d.b) ∧ z.cell? ⟨g, ol + e * 5 + 2, none⟩ = some (.int .i64 d.t) ∧ z.cell? ⟨g, ol + e * 5 + 3, none⟩ = some (.int .i64 d.v) ∧ z.cell? ⟨g, ol + e * 5 + 4, none⟩ = some (.bool d.g) ∧ Below wr.heap.size wr z) (by kernel_rfl) (SOF.out _ (Below.refl _ _).drew) (fun hHeld => ?_)
            refine wpAnyH_take (i := 0) (v := ?v0x) rfl (by kernel_rfl) (by kernel_rfl) (by kernel_rfl) (fun _ _ _ h => h) (Or.inl ⟨by rfl, ?hy0x⟩) (by assumption) ?rest0x
            case hy0x => (intro zz hSw; (try dsimp only at hSw); go_simp; (try with_reducible rfl))
            change wpAnyH _ _ _ _ _ _ _ (Act.put _ (some 18) _) _
            simp only [Act.put, List.setIfInBounds_toArray, List.set_cons_zero, List.set_cons_succ]
            refine wpAnyH_take (i := 1) (v := ?v1x) rfl (by kernel_rfl) (by kernel_rfl) (by kernel_rfl) (fun _ _ _ h => h) (Or.inl ⟨by rfl, ?hy1x⟩) (by assumption) ?rest1x
            case hy1x => (intro zz hSw; (try dsimp only at hSw); go_simp; (try with_reducible rfl))
            change wpAnyH _ _ _ _ _ _ _ (Act.put _ (some 19) _) _
            simp only [Act.put, List.setIfInBounds_toArray, List.set_cons_zero, List.set_cons_succ]
            refine wpAnyH_take (i := 2) (v := ?v2x) rfl (by kernel_rfl) (by kernel_rfl) (by kernel_rfl) (fun _ _ _ h => h) (Or.inl ⟨by rfl, ?hy2x⟩) (by assumption) ?rest2x
            case hy2x => (intro zz hSw; (try dsimp only at hSw); go_simp; (try with_reducible rfl))
            change wpAnyH _ _ _ _ _ _ _ (Act.put _ (some 20) _) _
            simp only [Act.put, List.setIfInBounds_toArray, List.set_cons_zero, List.set_cons_succ]
            refine wpAnyH_take (i := 3) (v := ?v3x) rfl (by kernel_rfl) (by kernel_rfl) (by kernel_rfl) (fun _ _ _ h => h) (Or.inl ⟨by rfl, ?hy3x⟩) (by assumption) ?rest3x
            case hy3x => (intro zz hSw; (try dsimp only at hSw); go_simp; (try with_reducible rfl))
            change wpAnyH _ _ _ _ _ _ _ (Act.put _ (some 21) _) _
            simp only [Act.put, List.setIfInBounds_toArray, List.set_cons_zero, List.set_cons_succ]
            refine wpAnyH_take (i := 4) (v := ?v4x) rfl (by kernel_rfl) (by kernel_rfl) (by kernel_rfl) (fun _ _ _ h => h) (Or.inl ⟨by rfl, ?hy4x⟩) (by assumption) ?rest4x
            case hy4x => (intro zz hSw; (try dsimp only at hSw); go_simp; (try with_reducible rfl))
            change wpAnyH _ _ _ _ _ _ _ (Act.put _ (some 22) _) _
            simp only [Act.put, List.setIfInBounds_toArray, List.set_cons_zero, List.set_cons_succ]
            refine wpAnyH_take (i := 5) (v := ?v5x) rfl (by kernel_rfl) (by kernel_rfl) (by kernel_rfl) (fun _ _ _ h => h) (Or.inl ⟨by rfl, ?hy5x⟩) (by assumption) ?rest5x
            case hy5x => (intro zz hSw; (try dsimp only at hSw); go_simp; (try with_reducible rfl))
            change wpAnyH _ _ _ _ _ _ _ (Act.put _ (some 23) _) _
            simp only [Act.put, List.setIfInBounds_toArray, List.set_cons_zero, List.set_cons_succ]
            refine wpAnyH_take (i := 6) (v := ?v6x) rfl (by kernel_rfl) (by kernel_rfl) (by kernel_rfl) (fun _ _ _ h => h) (Or.inl ⟨by rfl, ?hy6x⟩) (by assumption) ?rest6x
            case hy6x => (intro zz hSw; (try dsimp only at hSw); go_simp; (try with_reducible rfl))
            change wpAnyH _ _ _ _ _ _ _ (Act.put _ (some 24) _) _
            simp only [Act.put, List.setIfInBounds_toArray, List.set_cons_zero, List.set_cons_succ]
            refine wpAnyH_take (i := 7) (v := ?v7x) rfl (by kernel_rfl) (by kernel_rfl) (by kernel_rfl) (fun _ _ _ h => h) (Or.inl ⟨by rfl, ?hy7x⟩) (by assumption) ?rest7x
            case hy7x => (intro zz hSw; (try dsimp only at hSw); go_simp; (try with_reducible rfl))
            change wpAnyH _ _ _ _ _ _ _ (Act.put _ (some 25) _) _
            simp only [Act.put, List.setIfInBounds_toArray, List.set_cons_zero, List.set_cons_succ]
            refine wpAnyH_take (i := 8) (v := ?v8x) rfl (by kernel_rfl) (by kernel_rfl) (by kernel_rfl) (fun _ _ _ h => h) (Or.inl ⟨by rfl, ?hy8x⟩) (by assumption) ?rest8x
            case hy8x => (intro zz hSw; (try dsimp only at hSw); go_simp; (try with_reducible rfl))
            change wpAnyH _ _ _ _ _ _ _ (Act.put _ (some 26) _) _
            simp only [Act.put, List.setIfInBounds_toArray, List.set_cons_zero, List.set_cons_succ]
            refine wpAnyH_take (i := 9) (v := ?v9x) rfl (by kernel_rfl) (by kernel_rfl) (by kernel_rfl) (fun _ _ _ h => h) (Or.inl ⟨by rfl, ?hy9x⟩) (by assumption) ?rest9x
            case hy9x => (intro zz hSw; (try dsimp only at hSw); go_simp; (try with_reducible rfl))
            change wpAnyH _ _ _ _ _ _ _ (Act.put _ (some 27) _) _
            simp only [Act.put, List.setIfInBounds_toArray, List.set_cons_zero, List.set_cons_succ]
            refine wpAnyH_take (i := 10) (v := ?v10x) rfl (by kernel_rfl) (by kernel_rfl) (by kernel_rfl) (fun _ _ _ h => h) (Or.inl ⟨by rfl, ?hy10x⟩) (by assumption) ?rest10x
            case hy10x => (intro zz hSw; (try dsimp only at hSw); go_simp; (try with_reducible rfl))
            change wpAnyH _ _ _ _ _ _ _ (Act.put _ (some 28) _) _
            simp only [Act.put, List.setIfInBounds_toArray, List.set_cons_zero, List.set_cons_succ]
            refine wpAnyH_take (i := 11) (v := ?v11x) rfl (by kernel_rfl) (by kernel_rfl) (by kernel_rfl) (fun _ _ _ h => h) (Or.inl ⟨by rfl, ?hy11x⟩) (by assumption) ?rest11x
            case hy11x => (intro zz hSw; (try dsimp only at hSw); go_simp; (try with_reducible rfl))
            change wpAnyH _ _ _ _ _ _ _ (Act.put _ (some 29) _) _
            simp only [Act.put, List.setIfInBounds_toArray, List.set_cons_zero, List.set_cons_succ]
            refine wpAnyH_take (i := 12) (v := ?v12x) rfl (by kernel_rfl) (by kernel_rfl) (by kernel_rfl) (fun _ _ _ h => h) (Or.inl ⟨by rfl, ?hy12x⟩) (by assumption) ?rest12x
            case hy12x => (intro zz hSw; (try dsimp only at hSw); go_simp; (try with_reducible rfl))
            change wpAnyH _ _ _ _ _ _ _ (Act.put _ (some 30) _) _
            simp only [Act.put, List.setIfInBounds_toArray, List.set_cons_zero, List.set_cons_succ]
            refine wpAnyH_ready (rs := [13]) (by kernel_rfl) (by simp) (AllReadyH.cons rfl (fun K hK => ?_) AllReadyH.nil)
            go_simp
            refine (HAL.out _).mono ?_; rintro _ w7 ⟨rfl, bel⟩
            refine hK.out _ _ (SOF.out _ (bel_tr hHeld.2.2.2.2.2.2.2.2.2.2 bel (Nat.le_refl _))) (fun hHeld => ?_)
            clear hK K bel
            refine wpAnyH_take (i := 14) (v := ?v14x) rfl (by kernel_rfl) (by kernel_rfl) (by kernel_rfl) (fun _ _ _ h => h) (Or.inl ⟨by rfl, ?hy14x⟩) (by assumption) ?rest14x
            case hy14x => (intro zz hSw; (try dsimp only at hSw); go_simp; (try with_reducible rfl))
            change wpAnyH _ _ _ _ _ _ _ (Act.put _ (some 32) _) _
            simp only [Act.put, List.setIfInBounds_toArray, List.set_cons_zero, List.set_cons_succ]
            refine wpAnyH_done (by kernel_rfl) ?_ _
            have BX := Lib.hid hHeld.2.2.2.2.2.2.2.2.2.2; clear hHeld SOF
            have B7 := Lib.hid (bel_tr HB.out BX.out (Nat.le_refl _))
            have OA := Lib.hid (HOA.out.next BX.out)
            have OB := Lib.hid (HOB.out.next BX.out)
            clear HOA HOB HB BX
            obtain ⟨qa, qc, rfl, hvq0, hq0⟩ := OB.out.view
            have HVQ := Lib.hid hvq0; clear hvq0 hq0
            go_wp2_with fail
            go_loop [10] (fun s => ∃ j : Nat, s = .slice qa j qc ∧ j ≤ q.length ∧ trim q 0 j = trim q 0 q.length) (fun s => slM s)
            case atStart => exact ⟨q.length, rfl, Nat.le_refl _, rfl⟩
            case round =>
              obtain ⟨j, rfl, hjq, htr⟩ := hrel
              cases j with
              | zero =>
                have HJ := Lib.hid (show trim q 0 q.length = 0 by rw [← htr]; rfl); clear htr
                have hvq := HVQ.out.take (k := 0) (m := qc) (Nat.zero_le _) (Nat.zero_le _) (Nat.le_refl _) HVQ.out.2.2.1
                have HVJ := Lib.hid (show Vw w7 _ qc (q.take 0) from hvq); clear hvq
                have HLJ := Lib.hid (show (q.take 0).length = 0 by rw [List.length_take]; omega)
                have HFE := Lib.hid (thin_round HSRT.out HDR.out HGR.out hie HFOLD.out HJ.out HEQ.out)
                go_wp2_with (first
                  | (at_builtin; refine append_cells rfl (.tmp 78) (.tmp 79) rfl (base := w.heap.size) (l := o) (m := q.take 0) rfl rfl HLJ.out OA.out HVJ.out (by rw [HLJ.out]; omega) B7.out.size ?_; intro v5 w5 o5 g5))
                have B8 := Lib.hid (B7.out.grown g5 B7.out.size (fun j hj => OwC.lt OA.out j hj))
                have O8 := Lib.hid o5; clear o5 g5
                go_wp2_with fail
                go_roundw
                case rel => exact ⟨e, o ++ q.take 0, rfl, by omega, O8.out, HFE.out, B8.out, by rw [List.length_append, HLJ.out]; omega⟩
                case measure => simp [intV]; omega
              | succ j =>
                obtain ⟨b, hb⟩ : ∃ b, q[j]? = some b := ⟨q[j]'(by omega), List.getElem?_eq_getElem _⟩
                obtain ⟨gq, oq, e2, -, y0, y1, y2, y3, y4⟩ := HVQ.out.2.2.2 j b hb
                cases e2
                have HTS := Lib.hid (show trim q 0 (j + 1) = if b.g = true then trim q 0 j else j + 1 by
                  rw [trim]; unfold isGone; rw [hb]
                  by_cases e : b.g = true
                  · rw [if_pos e, if_pos ⟨by omega, e⟩]
                  · rw [if_neg e, if_neg (fun h => e h.2)])
                have HTR := Lib.hid htr; clear htr hb
                have n0 : (0 : Int) < (j : Int) + 1 := by omega
                have n1 : (0 : Int) ≤ (j : Int) := by omega
                have n2 : (j : Int) < (j : Int) + 1 := by omega
                have n3 : (j : Int) ≤ 9 := by omega
                have n4 : j < j + 1 := by omega
                cases hg : b.g
                · rw [hg] at y4 HTS
                  have HJ := Lib.hid (show trim q 0 q.length = j + 1 by rw [← HTR.out, HTS.out]; rfl)
                  have hvq := HVQ.out.take (k := j + 1) (m := qc) hjq (by have := HVQ.out.1; omega) (Nat.le_refl _) HVQ.out.2.2.1
                  clear hg
                  have HVJ := Lib.hid (show Vw w7 _ qc (q.take (j + 1)) from hvq); clear hvq
                  have HLJ := Lib.hid (show (q.take (j + 1)).length = j + 1 by rw [List.length_take]; omega)
                  have HFE := Lib.hid (thin_round HSRT.out HDR.out HGR.out hie HFOLD.out HJ.out HEQ.out)
                  go_wp2_with (first
                    | (at_builtin; refine append_cells rfl (.tmp 78) (.tmp 79) rfl (base := w.heap.size) (l := o) (m := q.take (j + 1)) rfl rfl HLJ.out OA.out HVJ.out (by rw [HLJ.out]; omega) B7.out.size ?_; intro v5 w5 o5 g5))
                  have B8 := Lib.hid (B7.out.grown g5 B7.out.size (fun j hj => OwC.lt OA.out j hj))
                  have O8 := Lib.hid o5; clear o5 g5
                  go_wp2_with fail
                  go_roundw
                  case rel => exact ⟨e, o ++ q.take (j + 1), rfl, by omega, O8.out, HFE.out, B8.out, by rw [List.length_append, HLJ.out]; omega⟩
                  case measure => simp [intV]; omega
                · rw [hg] at y4 HTS
                  obtain ⟨hcut, -⟩ := cut_to (some ⟨gq, oq, none⟩) (j + 1) qc j (by omega) (by have := HVQ.out.1; omega) HVQ.out.2.2.1
                  clear hg
                  go_wp2_with fail
                  go_round
                  case rel => exact ⟨j, rfl, by omega, by rw [← HTR.out, HTS.out]; rfl⟩
                  case measure => simp [slM]
          · have HAL := Lib.hid (alike_is hal)
            have HALL2 := Lib.hid (show ∀ m d', m < e + 1 - i → (c :: r)[m]? = some d' → c.al d' = true from fun m d' h1 h2 => by
              by_cases em : m = e - i
              · subst em; rw [HDX.out] at h2; cases h2; exact hal
              · exact HALL.out m d' (by omega) h2)
            have HSN := Lib.hid (show (c :: r).take (e + 1 - i) = (c :: r).take (e - i) ++ [d] by
              rw [show e + 1 - i = (e - i) + 1 by omega, List.take_succ_eq_append_getElem (List.getElem?_eq_some_iff.1 HDX.out).1]
              congr 2
              exact (List.getElem?_eq_some_iff.1 HDX.out).2)
            clear hal
            generalize hs7 : u7 = s7 at *
            generalize hs10 : u10 = s10 at *
            clear hs7 hs10
            by_cases hft : f < d.t
            · skip
              go_wp2_with fail
              refine wp_region_held_drew (S := fun z => z.cell? ⟨g, ol + i * 5, none⟩ = some (.string c.r) ∧ z.cell? ⟨g, ol + i * 5 + 1, none⟩ = some (.string c.b) ∧ z.cell? ⟨g, ol + i * 5 + 2, none⟩ = some (.int .i64 c.t) ∧ z.cell? ⟨g, ol + i * 5 + 3, none⟩ = some (.int .i64 c.v) ∧ z.cell? ⟨g, ol + i * 5 + 4, none⟩ = some (.bool c.g) ∧ z.cell? ⟨g, ol + e * 5, none⟩ = some (.string d.r) ∧ z.cell? ⟨g, ol + e * 5 + 1, none⟩ = some (.string d.b) ∧ z.cell? ⟨g, ol + e * 5 + 2, none⟩ = some (.int .i64 d.t) ∧ z.cell? ⟨g, ol + e * 5 + 3, none⟩ = some (.int .i64 d.v) ∧ z.cell? ⟨g, ol + e * 5 + 4, none⟩ = some (.bool d.g) ∧ Below wr.heap.size wr z) (by kernel_rfl) (SOF.out _ (Below.refl _ _).drew) (fun hHeld => ?_)
              refine wpAnyH_take (i := 0) (v := ?v0a) rfl (by kernel_rfl) (by kernel_rfl) (by kernel_rfl) (fun _ _ _ h => h) (Or.inl ⟨by rfl, ?hy0a⟩) (by assumption) ?rest0a
              case hy0a => (intro zz hSw; (try dsimp only at hSw); go_simp; (try with_reducible rfl))
              change wpAnyH _ _ _ _ _ _ _ (Act.put _ (some 18) _) _
              simp only [Act.put, List.setIfInBounds_toArray, List.set_cons_zero, List.set_cons_succ]
              refine wpAnyH_take (i := 1) (v := ?v1a) rfl (by kernel_rfl) (by kernel_rfl) (by kernel_rfl) (fun _ _ _ h => h) (Or.inl ⟨by rfl, ?hy1a⟩) (by assumption) ?rest1a
              case hy1a => (intro zz hSw; (try dsimp only at hSw); go_simp; (try with_reducible rfl))
              change wpAnyH _ _ _ _ _ _ _ (Act.put _ (some 19) _) _
              simp only [Act.put, List.setIfInBounds_toArray, List.set_cons_zero, List.set_cons_succ]
              refine wpAnyH_take (i := 2) (v := ?v2a) rfl (by kernel_rfl) (by kernel_rfl) (by kernel_rfl) (fun _ _ _ h => h) (Or.inl ⟨by rfl, ?hy2a⟩) (by assumption) ?rest2a
              case hy2a => (intro zz hSw; (try dsimp only at hSw); go_simp; (try with_reducible rfl))
              change wpAnyH _ _ _ _ _ _ _ (Act.put _ (some 20) _) _
              simp only [Act.put, List.setIfInBounds_toArray, List.set_cons_zero, List.set_cons_succ]
              refine wpAnyH_take (i := 3) (v := ?v3a) rfl (by kernel_rfl) (by kernel_rfl) (by kernel_rfl) (fun _ _ _ h => h) (Or.inl ⟨by rfl, ?hy3a⟩) (by assumption) ?rest3a
              case hy3a => (intro zz hSw; (try dsimp only at hSw); go_simp; (try with_reducible rfl))
              change wpAnyH _ _ _ _ _ _ _ (Act.put _ (some 21) _) _
              simp only [Act.put, List.setIfInBounds_toArray, List.set_cons_zero, List.set_cons_succ]
              refine wpAnyH_take (i := 4) (v := ?v4a) rfl (by kernel_rfl) (by kernel_rfl) (by kernel_rfl) (fun _ _ _ h => h) (Or.inl ⟨by rfl, ?hy4a⟩) (by assumption) ?rest4a
              case hy4a => (intro zz hSw; (try dsimp only at hSw); go_simp; (try with_reducible rfl))
              change wpAnyH _ _ _ _ _ _ _ (Act.put _ (some 22) _) _
              simp only [Act.put, List.setIfInBounds_toArray, List.set_cons_zero, List.set_cons_succ]
              refine wpAnyH_take (i := 5) (v := ?v5a) rfl (by kernel_rfl) (by kernel_rfl) (by kernel_rfl) (fun _ _ _ h => h) (Or.inl ⟨by rfl, ?hy5a⟩) (by assumption) ?rest5a
              case hy5a => (intro zz hSw; (try dsimp only at hSw); go_simp; (try with_reducible rfl))
              change wpAnyH _ _ _ _ _ _ _ (Act.put _ (some 23) _) _
              simp only [Act.put, List.setIfInBounds_toArray, List.set_cons_zero, List.set_cons_succ]
              refine wpAnyH_take (i := 6) (v := ?v6a) rfl (by kernel_rfl) (by kernel_rfl) (by kernel_rfl) (fun _ _ _ h => h) (Or.inl ⟨by rfl, ?hy6a⟩) (by assumption) ?rest6a
              case hy6a => (intro zz hSw; (try dsimp only at hSw); go_simp; (try with_reducible rfl))
              change wpAnyH _ _ _ _ _ _ _ (Act.put _ (some 24) _) _
              simp only [Act.put, List.setIfInBounds_toArray, List.set_cons_zero, List.set_cons_succ]
              refine wpAnyH_take (i := 7) (v := ?v7a) rfl (by kernel_rfl) (by kernel_rfl) (by kernel_rfl) (fun _ _ _ h => h) (Or.inl ⟨by rfl, ?hy7a⟩) (by assumption) ?rest7a
              case hy7a => (intro zz hSw; (try dsimp only at hSw); go_simp; (try with_reducible rfl))
              change wpAnyH _ _ _ _ _ _ _ (Act.put _ (some 25) _) _
              simp only [Act.put, List.setIfInBounds_toArray, List.set_cons_zero, List.set_cons_succ]
              refine wpAnyH_take (i := 8) (v := ?v8a) rfl (by kernel_rfl) (by kernel_rfl) (by kernel_rfl) (fun _ _ _ h => h) (Or.inl ⟨by rfl, ?hy8a⟩) (by assumption) ?rest8a
              case hy8a => (intro zz hSw; (try dsimp only at hSw); go_simp; (try with_reducible rfl))
              change wpAnyH _ _ _ _ _ _ _ (Act.put _ (some 26) _) _
              simp only [Act.put, List.setIfInBounds_toArray, List.set_cons_zero, List.set_cons_succ]
              refine wpAnyH_take (i := 9) (v := ?v9a) rfl (by kernel_rfl) (by kernel_rfl) (by kernel_rfl) (fun _ _ _ h => h) (Or.inl ⟨by rfl, ?hy9a⟩) (by assumption) ?rest9a
              case hy9a => (intro zz hSw; (try dsimp only at hSw); go_simp; (try with_reducible rfl))
              change wpAnyH _ _ _ _ _ _ _ (Act.put _ (some 27) _) _
              simp only [Act.put, List.setIfInBounds_toArray, List.set_cons_zero, List.set_cons_succ]
              refine wpAnyH_take (i := 10) (v := ?v10a) rfl (by kernel_rfl) (by kernel_rfl) (by kernel_rfl) (fun _ _ _ h => h) (Or.inl ⟨by rfl, ?hy10a⟩) (by assumption) ?rest10a
              case hy10a => (intro zz hSw; (try dsimp only at hSw); go_simp; (try with_reducible rfl))
              change wpAnyH _ _ _ _ _ _ _ (Act.put _ (some 28) _) _
              simp only [Act.put, List.setIfInBounds_toArray, List.set_cons_zero, List.set_cons_succ]
              refine wpAnyH_take (i := 11) (v := ?v11a) rfl (by kernel_rfl) (by kernel_rfl) (by kernel_rfl) (fun _ _ _ h => h) (Or.inl ⟨by rfl, ?hy11a⟩) (by assumption) ?rest11a
              case hy11a => (intro zz hSw; (try dsimp only at hSw); go_simp; (try with_reducible rfl))
              change wpAnyH _ _ _ _ _ _ _ (Act.put _ (some 29) _) _
              simp only [Act.put, List.setIfInBounds_toArray, List.set_cons_zero, List.set_cons_succ]
              refine wpAnyH_take (i := 12) (v := ?v12a) rfl (by kernel_rfl) (by kernel_rfl) (by kernel_rfl) (fun _ _ _ h => h) (Or.inl ⟨by rfl, ?hy12a⟩) (by assumption) ?rest12a
              case hy12a => (intro zz hSw; (try dsimp only at hSw); go_simp; (try with_reducible rfl))
              change wpAnyH _ _ _ _ _ _ _ (Act.put _ (some 30) _) _
              simp only [Act.put, List.setIfInBounds_toArray, List.set_cons_zero, List.set_cons_succ]
              refine wpAnyH_ready (rs := [13]) (by kernel_rfl) (by simp) (AllReadyH.cons rfl (fun K hK => ?_) AllReadyH.nil)
              go_simp
              refine (HAL.out _).mono ?_; rintro _ w7 ⟨rfl, bel⟩
              refine hK.out _ _ (SOF.out _ (bel_tr hHeld.2.2.2.2.2.2.2.2.2.2 bel (Nat.le_refl _))) (fun hHeld => ?_)
              clear hK K bel
              refine wpAnyH_take (i := 14) (v := ?v14a) rfl (by kernel_rfl) (by kernel_rfl) (by kernel_rfl) (fun _ _ _ h => h) (Or.inl ⟨by rfl, ?hy14a⟩) (by assumption) ?rest14a
              case hy14a => (intro zz hSw; (try dsimp only at hSw); go_simp; (try with_reducible rfl))
              change wpAnyH _ _ _ _ _ _ _ (Act.put _ (some 32) _) _
              simp only [Act.put, List.setIfInBounds_toArray, List.set_cons_zero, List.set_cons_succ]
              refine wpAnyH_done (by kernel_rfl) ?_ _
              have BX := Lib.hid hHeld.2.2.2.2.2.2.2.2.2.2; clear hHeld SOF
              have B7 := Lib.hid (bel_tr HB.out BX.out (Nat.le_refl _))
              obtain ⟨d0, d1, d2, d3, d4⟩ : At5 w7 g (ol + e * 5) d := HD5.out.same (B7.out.block g hg)
              have VL := Lib.hid (Vw.lit w7 d)
              have BL := Lib.hid (bel1 w7 (.cells #[.string d.r, .string d.b, .int .i64 d.t, .int .i64 d.v, .bool d.g] 33))
              have OA := Lib.hid ((HOA.out.next BX.out).next BL.out)
              have OB := Lib.hid ((HOB.out.next BX.out).next BL.out)
              have hs4 : w.heap.size ≤ w7.heap.size := B7.out.size
              go_wp2_with (first
                | (at_builtin; refine append_at rfl (.tmp 41) (.tmp 46) rfl (base := w.heap.size) (v := s7) (l := o) (m := [d]) rfl rfl rfl OA.out VL.out (by simp; omega) (by simp; omega) ?_; intro v5 w5 o5 g5 p5))
              have B5 := Lib.hid ((bel_tr B7.out BL.out (Nat.le_refl _)).grown g5 (by simp; omega) (fun j hj => OwC.lt OA.out j hj))
              have FIN := Lib.hid (show Gath w K f i c (c :: r) o0 (e + 1) v5 s10 w5 from ⟨o ++ [d], q, o5, OB.out.grown g5 (fun k hk ee => HAP.out k ee hk), fun k h1 h2 => by
                  rcases p5 with p5 | p5
                  · exact HAP.out k (p5.symm.trans h1) h2
                  · have h3 := Option.some.inj (p5.symm.trans h1); have := OwC.low OB.out k h2; omega,
                by rw [HSN.out, List.foldl_append, ← HFOLD.out]; simp [stp, hft], HALL2.out, B5.out, by rw [List.length_append]; simp; omega, hq9⟩)
              clear o5 g5 p5 d0 d1 d2 d3 d4
              go_wp2_with fail
              go_roundw
              case rel => exact ⟨e + 1, by go_num, by omega, by omega, FIN.out⟩
              case measure => simp [intV]; omega
            · by_cases hqk : q.length < K
              · have hz : ((q.length : Nat) : Int) < (K : Int) := by omega
                obtain ⟨qa, qc, rfl, -, -⟩ := HOB.out.view
                generalize hqn : q.length = qn at *
                have HQN := Lib.hid hqn; clear hqn
                go_wp2_with fail
                refine wp_region_held_drew (S := fun z => z.cell? ⟨g, ol + i * 5, none⟩ = some (.string c.r) ∧ z.cell? ⟨g, ol + i * 5 + 1, none⟩ = some (.string c.b) ∧ z.cell? ⟨g, ol + i * 5 + 2, none⟩ = some (.int .i64 c.t) ∧ z.cell? ⟨g, ol + i * 5 + 3, none⟩ = some (.int .i64 c.v) ∧ z.cell? ⟨g, ol + i * 5 + 4, none⟩ = some (.bool c.g) ∧ z.cell? ⟨g, ol + e * 5, none⟩ = some (.string d.r) ∧ z.cell? ⟨g, ol + e * 5 + 1, none⟩ = some (.string d.b) ∧ z.cell? ⟨g, ol + e * 5 + 2, none⟩ = some (.int .i64 d.t) ∧ z.cell? ⟨g, ol + e * 5 + 3, none⟩ = some (.int .i64 d.v) ∧ z.cell? ⟨g, ol + e * 5 + 4, none⟩ = some (.bool d.g) ∧ Below wr.heap.size wr z) (by kernel_rfl) (SOF.out _ (Below.refl _ _).drew) (fun hHeld => ?_)
                refine wpAnyH_take (i := 0) (v := ?v0b) rfl (by kernel_rfl) (by kernel_rfl) (by kernel_rfl) (fun _ _ _ h => h) (Or.inl ⟨by rfl, ?hy0b⟩) (by assumption) ?rest0b
                case hy0b => (intro zz hSw; (try dsimp only at hSw); go_simp; (try with_reducible rfl))
                change wpAnyH _ _ _ _ _ _ _ (Act.put _ (some 18) _) _
                simp only [Act.put, List.setIfInBounds_toArray, List.set_cons_zero, List.set_cons_succ]
                refine wpAnyH_take (i := 1) (v := ?v1b) rfl (by kernel_rfl) (by kernel_rfl) (by kernel_rfl) (fun _ _ _ h => h) (Or.inl ⟨by rfl, ?hy1b⟩) (by assumption) ?rest1b
                case hy1b => (intro zz hSw; (try dsimp only at hSw); go_simp; (try with_reducible rfl))
                change wpAnyH _ _ _ _ _ _ _ (Act.put _ (some 19) _) _
                simp only [Act.put, List.setIfInBounds_toArray, List.set_cons_zero, List.set_cons_succ]
                refine wpAnyH_take (i := 2) (v := ?v2b) rfl (by kernel_rfl) (by kernel_rfl) (by kernel_rfl) (fun _ _ _ h => h) (Or.inl ⟨by rfl, ?hy2b⟩) (by assumption) ?rest2b
                case hy2b => (intro zz hSw; (try dsimp only at hSw); go_simp; (try with_reducible rfl))
                change wpAnyH _ _ _ _ _ _ _ (Act.put _ (some 20) _) _
                simp only [Act.put, List.setIfInBounds_toArray, List.set_cons_zero, List.set_cons_succ]
                refine wpAnyH_take (i := 3) (v := ?v3b) rfl (by kernel_rfl) (by kernel_rfl) (by kernel_rfl) (fun _ _ _ h => h) (Or.inl ⟨by rfl, ?hy3b⟩) (by assumption) ?rest3b
                case hy3b => (intro zz hSw; (try dsimp only at hSw); go_simp; (try with_reducible rfl))
                change wpAnyH _ _ _ _ _ _ _ (Act.put _ (some 21) _) _
                simp only [Act.put, List.setIfInBounds_toArray, List.set_cons_zero, List.set_cons_succ]
                refine wpAnyH_take (i := 4) (v := ?v4b) rfl (by kernel_rfl) (by kernel_rfl) (by kernel_rfl) (fun _ _ _ h => h) (Or.inl ⟨by rfl, ?hy4b⟩) (by assumption) ?rest4b
                case hy4b => (intro zz hSw; (try dsimp only at hSw); go_simp; (try with_reducible rfl))
                change wpAnyH _ _ _ _ _ _ _ (Act.put _ (some 22) _) _
                simp only [Act.put, List.setIfInBounds_toArray, List.set_cons_zero, List.set_cons_succ]
                refine wpAnyH_take (i := 5) (v := ?v5b) rfl (by kernel_rfl) (by kernel_rfl) (by kernel_rfl) (fun _ _ _ h => h) (Or.inl ⟨by rfl, ?hy5b⟩) (by assumption) ?rest5b
                case hy5b => (intro zz hSw; (try dsimp only at hSw); go_simp; (try with_reducible rfl))
                change wpAnyH _ _ _ _ _ _ _ (Act.put _ (some 23) _) _
                simp only [Act.put, List.setIfInBounds_toArray, List.set_cons_zero, List.set_cons_succ]
                refine wpAnyH_take (i := 6) (v := ?v6b) rfl (by kernel_rfl) (by kernel_rfl) (by kernel_rfl) (fun _ _ _ h => h) (Or.inl ⟨by rfl, ?hy6b⟩) (by assumption) ?rest6b
                case hy6b => (intro zz hSw; (try dsimp only at hSw); go_simp; (try with_reducible rfl))
                change wpAnyH _ _ _ _ _ _ _ (Act.put _ (some 24) _) _
                simp only [Act.put, List.setIfInBounds_toArray, List.set_cons_zero, List.set_cons_succ]
                refine wpAnyH_take (i := 7) (v := ?v7b) rfl (by kernel_rfl) (by kernel_rfl) (by kernel_rfl) (fun _ _ _ h => h) (Or.inl ⟨by rfl, ?hy7b⟩) (by assumption) ?rest7b
                case hy7b => (intro zz hSw; (try dsimp only at hSw); go_simp; (try with_reducible rfl))
                change wpAnyH _ _ _ _ _ _ _ (Act.put _ (some 25) _) _
                simp only [Act.put, List.setIfInBounds_toArray, List.set_cons_zero, List.set_cons_succ]
                refine wpAnyH_take (i := 8) (v := ?v8b) rfl (by kernel_rfl) (by kernel_rfl) (by kernel_rfl) (fun _ _ _ h => h) (Or.inl ⟨by rfl, ?hy8b⟩) (by assumption) ?rest8b
                case hy8b => (intro zz hSw; (try dsimp only at hSw); go_simp; (try with_reducible rfl))
                change wpAnyH _ _ _ _ _ _ _ (Act.put _ (some 26) _) _
                simp only [Act.put, List.setIfInBounds_toArray, List.set_cons_zero, List.set_cons_succ]
                refine wpAnyH_take (i := 9) (v := ?v9b) rfl (by kernel_rfl) (by kernel_rfl) (by kernel_rfl) (fun _ _ _ h => h) (Or.inl ⟨by rfl, ?hy9b⟩) (by assumption) ?rest9b
                case hy9b => (intro zz hSw; (try dsimp only at hSw); go_simp; (try with_reducible rfl))
                change wpAnyH _ _ _ _ _ _ _ (Act.put _ (some 27) _) _
                simp only [Act.put, List.setIfInBounds_toArray, List.set_cons_zero, List.set_cons_succ]
                refine wpAnyH_take (i := 10) (v := ?v10b) rfl (by kernel_rfl) (by kernel_rfl) (by kernel_rfl) (fun _ _ _ h => h) (Or.inl ⟨by rfl, ?hy10b⟩) (by assumption) ?rest10b
                case hy10b => (intro zz hSw; (try dsimp only at hSw); go_simp; (try with_reducible rfl))
                change wpAnyH _ _ _ _ _ _ _ (Act.put _ (some 28) _) _
                simp only [Act.put, List.setIfInBounds_toArray, List.set_cons_zero, List.set_cons_succ]
                refine wpAnyH_take (i := 11) (v := ?v11b) rfl (by kernel_rfl) (by kernel_rfl) (by kernel_rfl) (fun _ _ _ h => h) (Or.inl ⟨by rfl, ?hy11b⟩) (by assumption) ?rest11b
                case hy11b => (intro zz hSw; (try dsimp only at hSw); go_simp; (try with_reducible rfl))
                change wpAnyH _ _ _ _ _ _ _ (Act.put _ (some 29) _) _
                simp only [Act.put, List.setIfInBounds_toArray, List.set_cons_zero, List.set_cons_succ]
                refine wpAnyH_take (i := 12) (v := ?v12b) rfl (by kernel_rfl) (by kernel_rfl) (by kernel_rfl) (fun _ _ _ h => h) (Or.inl ⟨by rfl, ?hy12b⟩) (by assumption) ?rest12b
                case hy12b => (intro zz hSw; (try dsimp only at hSw); go_simp; (try with_reducible rfl))
                change wpAnyH _ _ _ _ _ _ _ (Act.put _ (some 30) _) _
                simp only [Act.put, List.setIfInBounds_toArray, List.set_cons_zero, List.set_cons_succ]
                refine wpAnyH_ready (rs := [13]) (by kernel_rfl) (by simp) (AllReadyH.cons rfl (fun K hK => ?_) AllReadyH.nil)
                go_simp
                refine (HAL.out _).mono ?_; rintro _ w7 ⟨rfl, bel⟩
                refine hK.out _ _ (SOF.out _ (bel_tr hHeld.2.2.2.2.2.2.2.2.2.2 bel (Nat.le_refl _))) (fun hHeld => ?_)
                clear hK K bel
                refine wpAnyH_take (i := 14) (v := ?v14b) rfl (by kernel_rfl) (by kernel_rfl) (by kernel_rfl) (fun _ _ _ h => h) (Or.inl ⟨by rfl, ?hy14b⟩) (by assumption) ?rest14b
                case hy14b => (intro zz hSw; (try dsimp only at hSw); go_simp; (try with_reducible rfl))
                change wpAnyH _ _ _ _ _ _ _ (Act.put _ (some 32) _) _
                simp only [Act.put, List.setIfInBounds_toArray, List.set_cons_zero, List.set_cons_succ]
                refine wpAnyH_done (by kernel_rfl) ?_ _
                have BX := Lib.hid hHeld.2.2.2.2.2.2.2.2.2.2; clear hHeld SOF
                have B7 := Lib.hid (bel_tr HB.out BX.out (Nat.le_refl _))
                obtain ⟨d0, d1, d2, d3, d4⟩ : At5 w7 g (ol + e * 5) d := HD5.out.same (B7.out.block g hg)
                have VL := Lib.hid (Vw.lit w7 d)
                have BL := Lib.hid (bel1 w7 (.cells #[.string d.r, .string d.b, .int .i64 d.t, .int .i64 d.v, .bool d.g] 33))
                have OA := Lib.hid ((HOA.out.next BX.out).next BL.out)
                have OB := Lib.hid ((HOB.out.next BX.out).next BL.out)
                have hs4 : w.heap.size ≤ w7.heap.size := B7.out.size
                go_wp2_with (first
                  | (at_builtin; refine append_at rfl (.tmp 52) (.tmp 57) rfl (base := w.heap.size) (v := .slice qa qn qc) (l := q) (m := [d]) rfl rfl rfl OB.out VL.out (by have := HQN.out; simp; omega) (by simp; omega) ?_; intro v5 w5 o5 g5 p5))
                have B5 := Lib.hid ((bel_tr B7.out BL.out (Nat.le_refl _)).grown g5 (by simp; omega) (fun j hj => OwC.lt OB.out j hj))
                have FIN := Lib.hid (show Gath w K f i c (c :: r) o0 (e + 1) s7 v5 w5 from ⟨o, q ++ [d], OA.out.grown g5 (fun k hk ee => HAP.out k hk ee), o5, fun k h1 h2 => by
                    rcases p5 with p5 | p5
                    · exact HAP.out k h1 (p5.symm.trans h2)
                    · have h3 := Option.some.inj (p5.symm.trans h2); have := OwC.low OA.out k h1; omega,
                  by rw [HSN.out, List.foldl_append, ← HFOLD.out]; show _ = stp K f (o, q) d; unfold stp; rw [if_neg (by omega), if_pos (by show q.length < K; rw [HQN.out]; exact hqk)], HALL2.out, B5.out, by rw [List.length_append, HQN.out]; simp; omega, by rw [List.length_append, HQN.out]; simp; omega⟩)
                clear o5 g5 p5 d0 d1 d2 d3 d4
                go_wp2_with fail
                go_roundw
                case rel => exact ⟨e + 1, by go_num, by omega, by omega, FIN.out⟩
                case measure => simp [intV]; omega
              · have hz : ¬ ((q.length : Nat) : Int) < (K : Int) := by omega
                obtain ⟨qa, qc, rfl, -, -⟩ := HOB.out.view
                go_wp2_with fail
                refine wp_region_held_drew (S := fun z => z.cell? ⟨g, ol + i * 5, none⟩ = some (.string c.r) ∧ z.cell? ⟨g, ol + i * 5 + 1, none⟩ = some (.string c.b) ∧ z.cell? ⟨g, ol + i * 5 + 2, none⟩ = some (.int .i64 c.t) ∧ z.cell? ⟨g, ol + i * 5 + 3, none⟩ = some (.int .i64 c.v) ∧ z.cell? ⟨g, ol + i * 5 + 4, none⟩ = some (.bool c.g) ∧ z.cell? ⟨g, ol + e * 5, none⟩ = some (.string d.r) ∧ z.cell? ⟨g, ol + e * 5 + 1, none⟩ = some (.string d.b) ∧ z.cell? ⟨g, ol + e * 5 + 2, none⟩ = some (.int .i64 d.t) ∧ z.cell? ⟨g, ol + e * 5 + 3, none⟩ = some (.int .i64 d.v) ∧ z.cell? ⟨g, ol + e * 5 + 4, none⟩ = some (.bool d.g) ∧ Below wr.heap.size wr z) (by kernel_rfl) (SOF.out _ (Below.refl _ _).drew) (fun hHeld => ?_)
                refine wpAnyH_take (i := 0) (v := ?v0c) rfl (by kernel_rfl) (by kernel_rfl) (by kernel_rfl) (fun _ _ _ h => h) (Or.inl ⟨by rfl, ?hy0c⟩) (by assumption) ?rest0c
                case hy0c => (intro zz hSw; (try dsimp only at hSw); go_simp; (try with_reducible rfl))
                change wpAnyH _ _ _ _ _ _ _ (Act.put _ (some 18) _) _
                simp only [Act.put, List.setIfInBounds_toArray, List.set_cons_zero, List.set_cons_succ]
                refine wpAnyH_take (i := 1) (v := ?v1c) rfl (by kernel_rfl) (by kernel_rfl) (by kernel_rfl) (fun _ _ _ h => h) (Or.inl ⟨by rfl, ?hy1c⟩) (by assumption) ?rest1c
                case hy1c => (intro zz hSw; (try dsimp only at hSw); go_simp; (try with_reducible rfl))
                change wpAnyH _ _ _ _ _ _ _ (Act.put _ (some 19) _) _
                simp only [Act.put, List.setIfInBounds_toArray, List.set_cons_zero, List.set_cons_succ]
                refine wpAnyH_take (i := 2) (v := ?v2c) rfl (by kernel_rfl) (by kernel_rfl) (by kernel_rfl) (fun _ _ _ h => h) (Or.inl ⟨by rfl, ?hy2c⟩) (by assumption) ?rest2c
                case hy2c => (intro zz hSw; (try dsimp only at hSw); go_simp; (try with_reducible rfl))
                change wpAnyH _ _ _ _ _ _ _ (Act.put _ (some 20) _) _
                simp only [Act.put, List.setIfInBounds_toArray, List.set_cons_zero, List.set_cons_succ]
                refine wpAnyH_take (i := 3) (v := ?v3c) rfl (by kernel_rfl) (by kernel_rfl) (by kernel_rfl) (fun _ _ _ h => h) (Or.inl ⟨by rfl, ?hy3c⟩) (by assumption) ?rest3c
                case hy3c => (intro zz hSw; (try dsimp only at hSw); go_simp; (try with_reducible rfl))
                change wpAnyH _ _ _ _ _ _ _ (Act.put _ (some 21) _) _
                simp only [Act.put, List.setIfInBounds_toArray, List.set_cons_zero, List.set_cons_succ]
                refine wpAnyH_take (i := 4) (v := ?v4c) rfl (by kernel_rfl) (by kernel_rfl) (by kernel_rfl) (fun _ _ _ h => h) (Or.inl ⟨by rfl, ?hy4c⟩) (by assumption) ?rest4c
                case hy4c => (intro zz hSw; (try dsimp only at hSw); go_simp; (try with_reducible rfl))
                change wpAnyH _ _ _ _ _ _ _ (Act.put _ (some 22) _) _
                simp only [Act.put, List.setIfInBounds_toArray, List.set_cons_zero, List.set_cons_succ]
                refine wpAnyH_take (i := 5) (v := ?v5c) rfl (by kernel_rfl) (by kernel_rfl) (by kernel_rfl) (fun _ _ _ h => h) (Or.inl ⟨by rfl, ?hy5c⟩) (by assumption) ?rest5c
                case hy5c => (intro zz hSw; (try dsimp only at hSw); go_simp; (try with_reducible rfl))
                change wpAnyH _ _ _ _ _ _ _ (Act.put _ (some 23) _) _
                simp only [Act.put, List.setIfInBounds_toArray, List.set_cons_zero, List.set_cons_succ]
                refine wpAnyH_take (i := 6) (v := ?v6c) rfl (by kernel_rfl) (by kernel_rfl) (by kernel_rfl) (fun _ _ _ h => h) (Or.inl ⟨by rfl, ?hy6c⟩) (by assumption) ?rest6c
                case hy6c => (intro zz hSw; (try dsimp only at hSw); go_simp; (try with_reducible rfl))
                change wpAnyH _ _ _ _ _ _ _ (Act.put _ (some 24) _) _
                simp only [Act.put, List.setIfInBounds_toArray, List.set_cons_zero, List.set_cons_succ]
                refine wpAnyH_take (i := 7) (v := ?v7c) rfl (by kernel_rfl) (by kernel_rfl) (by kernel_rfl) (fun _ _ _ h => h) (Or.inl ⟨by rfl, ?hy7c⟩) (by assumption) ?rest7c
                case hy7c => (intro zz hSw; (try dsimp only at hSw); go_simp; (try with_reducible rfl))
                change wpAnyH _ _ _ _ _ _ _ (Act.put _ (some 25) _) _
                simp only [Act.put, List.setIfInBounds_toArray, List.set_cons_zero, List.set_cons_succ]
                refine wpAnyH_take (i := 8) (v := ?v8c) rfl (by kernel_rfl) (by kernel_rfl) (by kernel_rfl) (fun _ _ _ h => h) (Or.inl ⟨by rfl, ?hy8c⟩) (by assumption) ?rest8c
                case hy8c => (intro zz hSw; (try dsimp only at hSw); go_simp; (try with_reducible rfl))
                change wpAnyH _ _ _ _ _ _ _ (Act.put _ (some 26) _) _
                simp only [Act.put, List.setIfInBounds_toArray, List.set_cons_zero, List.set_cons_succ]
                refine wpAnyH_take (i := 9) (v := ?v9c) rfl (by kernel_rfl) (by kernel_rfl) (by kernel_rfl) (fun _ _ _ h => h) (Or.inl ⟨by rfl, ?hy9c⟩) (by assumption) ?rest9c
                case hy9c => (intro zz hSw; (try dsimp only at hSw); go_simp; (try with_reducible rfl))
                change wpAnyH _ _ _ _ _ _ _ (Act.put _ (some 27) _) _
                simp only [Act.put, List.setIfInBounds_toArray, List.set_cons_zero, List.set_cons_succ]
                refine wpAnyH_take (i := 10) (v := ?v10c) rfl (by kernel_rfl) (by kernel_rfl) (by kernel_rfl) (fun _ _ _ h => h) (Or.inl ⟨by rfl, ?hy10c⟩) (by assumption) ?rest10c
                case hy10c => (intro zz hSw; (try dsimp only at hSw); go_simp; (try with_reducible rfl))
                change wpAnyH _ _ _ _ _ _ _ (Act.put _ (some 28) _) _
                simp only [Act.put, List.setIfInBounds_toArray, List.set_cons_zero, List.set_cons_succ]
                refine wpAnyH_take (i := 11) (v := ?v11c) rfl (by kernel_rfl) (by kernel_rfl) (by kernel_rfl) (fun _ _ _ h => h) (Or.inl ⟨by rfl, ?hy11c⟩) (by assumption) ?rest11c
                case hy11c => (intro zz hSw; (try dsimp only at hSw); go_simp; (try with_reducible rfl))
                change wpAnyH _ _ _ _ _ _ _ (Act.put _ (some 29) _) _
                simp only [Act.put, List.setIfInBounds_toArray, List.set_cons_zero, List.set_cons_succ]
                refine wpAnyH_take (i := 12) (v := ?v12c) rfl (by kernel_rfl) (by kernel_rfl) (by kernel_rfl) (fun _ _ _ h => h) (Or.inl ⟨by rfl, ?hy12c⟩) (by assumption) ?rest12c
                case hy12c => (intro zz hSw; (try dsimp only at hSw); go_simp; (try with_reducible rfl))
                change wpAnyH _ _ _ _ _ _ _ (Act.put _ (some 30) _) _
                simp only [Act.put, List.setIfInBounds_toArray, List.set_cons_zero, List.set_cons_succ]
                refine wpAnyH_ready (rs := [13]) (by kernel_rfl) (by simp) (AllReadyH.cons rfl (fun K hK => ?_) AllReadyH.nil)
                go_simp
                refine (HAL.out _).mono ?_; rintro _ w7 ⟨rfl, bel⟩
                refine hK.out _ _ (SOF.out _ (bel_tr hHeld.2.2.2.2.2.2.2.2.2.2 bel (Nat.le_refl _))) (fun hHeld => ?_)
                clear hK K bel
                refine wpAnyH_take (i := 14) (v := ?v14c) rfl (by kernel_rfl) (by kernel_rfl) (by kernel_rfl) (fun _ _ _ h => h) (Or.inl ⟨by rfl, ?hy14c⟩) (by assumption) ?rest14c
                case hy14c => (intro zz hSw; (try dsimp only at hSw); go_simp; (try with_reducible rfl))
                change wpAnyH _ _ _ _ _ _ _ (Act.put _ (some 32) _) _
                simp only [Act.put, List.setIfInBounds_toArray, List.set_cons_zero, List.set_cons_succ]
                refine wpAnyH_done (by kernel_rfl) ?_ _
                have BX := Lib.hid hHeld.2.2.2.2.2.2.2.2.2.2; clear hHeld SOF
                have B7 := Lib.hid (bel_tr HB.out BX.out (Nat.le_refl _))
                obtain ⟨d0, d1, d2, d3, d4⟩ : At5 w7 g (ol + e * 5) d := HD5.out.same (B7.out.block g hg)
                have FIN := Lib.hid (show Gath w K f i c (c :: r) o0 (e + 1) s7 (.slice qa q.length qc) w7 from ⟨o, q, HOA.out.next BX.out, HOB.out.next BX.out, HAP.out,
                  by rw [HSN.out, List.foldl_append, ← HFOLD.out]; simp [stp, hft, hqk], HALL2.out, B7.out, by omega, hq9⟩)
                go_wp2_with fail
                go_roundw
                case rel => exact ⟨e + 1, by go_num, by omega, by omega, FIN.out⟩
                case measure => simp [intV]; omega
        · have hen2 : e = n := by omega
          have hei : 1 ≤ e - i := by omega
          have HGR := Lib.hid (show grp (c :: r) = e - i from grp_is hei (by rw [HCR.out]; omega) (fun m d' h1 h2 h3 => by rw [al_symm]; exact HALL.out m d' h2 h3) (fun d' h3 => by have := (List.getElem?_eq_some_iff.1 h3).1; rw [HCR.out] at this; omega))
          clear hen2
          have j1 : ¬ (e : Int) < (n : Int) := by omega
          have j5 : decide ((e : Int) < (n : Int)) = false := decide_eq_false j1
          have j6 : decide (e < n) = false := decide_eq_false hlt2
          go_wp2_with fail
          refine wp_region_held_drew (S := fun z => Below wr.heap.size wr z) (by kernel_rfl) (Below.refl _ _).drew (fun hHeld => ?_)
          refine wpAnyH_take (i := 0) (v := ?v0n) rfl (by kernel_rfl) (by kernel_rfl) (by kernel_rfl) (fun _ _ _ h => h) (Or.inl ⟨by rfl, ?hy0n⟩) (by assumption) ?rest0n
          case hy0n => (intro zz hSw; (try dsimp only at hSw); go_simp; (try with_reducible rfl))
          change wpAnyH _ _ _ _ _ _ _ (Act.put _ (some 18) _) _
          simp only [Act.put, List.setIfInBounds_toArray, List.set_cons_zero, List.set_cons_succ]
          refine wpAnyH_take (i := 1) (v := ?v1n) rfl (by kernel_rfl) (by kernel_rfl) (by kernel_rfl) (fun _ _ _ h => h) (Or.inl ⟨by rfl, ?hy1n⟩) (by assumption) ?rest1n
          case hy1n => (intro zz hSw; (try dsimp only at hSw); go_simp; (try with_reducible rfl))
          change wpAnyH _ _ _ _ _ _ _ (Act.put _ (some 19) _) _
          simp only [Act.put, List.setIfInBounds_toArray, List.set_cons_zero, List.set_cons_succ]
          refine wpAnyH_take (i := 2) (v := ?v2n) rfl (by kernel_rfl) (by kernel_rfl) (by kernel_rfl) (fun _ _ _ h => h) (Or.inl ⟨by rfl, ?hy2n⟩) (by assumption) ?rest2n
          case hy2n => (intro zz hSw; (try dsimp only at hSw); go_simp; (try with_reducible rfl))
          change wpAnyH _ _ _ _ _ _ _ (Act.put _ (some 20) _) _
          simp only [Act.put, List.setIfInBounds_toArray, List.set_cons_zero, List.set_cons_succ]
          refine wpAnyH_take (i := 3) (v := ?v3n) rfl (by kernel_rfl) (by kernel_rfl) (by kernel_rfl) (fun _ _ _ h => h) (Or.inl ⟨by rfl, ?hy3n⟩) (by assumption) ?rest3n
          case hy3n => (intro zz hSw; (try dsimp only at hSw); go_simp; (try with_reducible rfl))
          change wpAnyH _ _ _ _ _ _ _ (Act.put _ (some 21) _) _
          simp only [Act.put, List.setIfInBounds_toArray, List.set_cons_zero, List.set_cons_succ]
          refine wpAnyH_take (i := 4) (v := ?v4n) rfl (by kernel_rfl) (by kernel_rfl) (by kernel_rfl) (fun _ _ _ h => h) (Or.inl ⟨by rfl, ?hy4n⟩) (by assumption) ?rest4n
          case hy4n => (intro zz hSw; (try dsimp only at hSw); go_simp; (try with_reducible rfl))
          change wpAnyH _ _ _ _ _ _ _ (Act.put _ (some 22) _) _
          simp only [Act.put, List.setIfInBounds_toArray, List.set_cons_zero, List.set_cons_succ]
          refine wpAnyH_take (i := 5) (v := undef) rfl (by kernel_rfl) (by kernel_rfl) (by kernel_rfl) (fun _ _ _ h => h) (Or.inr ⟨by rfl, rfl⟩) (by assumption) ?_
          change wpAnyH _ _ _ _ _ _ _ (Act.put _ (some 23) _) _
          simp only [Act.put, List.setIfInBounds_toArray, List.set_cons_zero, List.set_cons_succ]
          refine wpAnyH_take (i := 6) (v := undef) rfl (by kernel_rfl) (by kernel_rfl) (by kernel_rfl) (fun _ _ _ h => h) (Or.inr ⟨by rfl, rfl⟩) (by assumption) ?_
          change wpAnyH _ _ _ _ _ _ _ (Act.put _ (some 24) _) _
          simp only [Act.put, List.setIfInBounds_toArray, List.set_cons_zero, List.set_cons_succ]
          refine wpAnyH_take (i := 7) (v := undef) rfl (by kernel_rfl) (by kernel_rfl) (by kernel_rfl) (fun _ _ _ h => h) (Or.inr ⟨by rfl, rfl⟩) (by assumption) ?_
          change wpAnyH _ _ _ _ _ _ _ (Act.put _ (some 25) _) _
          simp only [Act.put, List.setIfInBounds_toArray, List.set_cons_zero, List.set_cons_succ]
          refine wpAnyH_take (i := 8) (v := undef) rfl (by kernel_rfl) (by kernel_rfl) (by kernel_rfl) (fun _ _ _ h => h) (Or.inr ⟨by rfl, rfl⟩) (by assumption) ?_
          change wpAnyH _ _ _ _ _ _ _ (Act.put _ (some 26) _) _
          simp only [Act.put, List.setIfInBounds_toArray, List.set_cons_zero, List.set_cons_succ]
          refine wpAnyH_take (i := 9) (v := undef) rfl (by kernel_rfl) (by kernel_rfl) (by kernel_rfl) (fun _ _ _ h => h) (Or.inr ⟨by rfl, rfl⟩) (by assumption) ?_
          change wpAnyH _ _ _ _ _ _ _ (Act.put _ (some 27) _) _
          simp only [Act.put, List.setIfInBounds_toArray, List.set_cons_zero, List.set_cons_succ]
          refine wpAnyH_take (i := 10) (v := undef) rfl (by kernel_rfl) (by kernel_rfl) (by kernel_rfl) (fun _ _ _ h => h) (Or.inr ⟨by rfl, rfl⟩) (by assumption) ?_
          change wpAnyH _ _ _ _ _ _ _ (Act.put _ (some 28) _) _
          simp only [Act.put, List.setIfInBounds_toArray, List.set_cons_zero, List.set_cons_succ]
          refine wpAnyH_take (i := 11) (v := undef) rfl (by kernel_rfl) (by kernel_rfl) (by kernel_rfl) (fun _ _ _ h => h) (Or.inr ⟨by rfl, rfl⟩) (by assumption) ?_
          change wpAnyH _ _ _ _ _ _ _ (Act.put _ (some 29) _) _
          simp only [Act.put, List.setIfInBounds_toArray, List.set_cons_zero, List.set_cons_succ]
          refine wpAnyH_take (i := 12) (v := undef) rfl (by kernel_rfl) (by kernel_rfl) (by kernel_rfl) (fun _ _ _ h => h) (Or.inr ⟨by rfl, rfl⟩) (by assumption) ?_
          change wpAnyH _ _ _ _ _ _ _ (Act.put _ (some 30) _) _
          simp only [Act.put, List.setIfInBounds_toArray, List.set_cons_zero, List.set_cons_succ]
          refine wpAnyH_take (i := 13) (v := undef) rfl (by kernel_rfl) (by kernel_rfl) (by kernel_rfl) (fun _ _ _ h => h) (Or.inr ⟨by rfl, rfl⟩) (by assumption) ?_
          change wpAnyH _ _ _ _ _ _ _ (Act.put _ (some 31) _) _
          simp only [Act.put, List.setIfInBounds_toArray, List.set_cons_zero, List.set_cons_succ]
          refine wpAnyH_take (i := 14) (v := ?v14n) rfl (by kernel_rfl) (by kernel_rfl) (by kernel_rfl) (fun _ _ _ h => h) (Or.inl ⟨by rfl, ?hy14n⟩) (by assumption) ?rest14n
          case hy14n => (intro zz hSw; (try dsimp only at hSw); go_simp; (try with_reducible rfl))
          change wpAnyH _ _ _ _ _ _ _ (Act.put _ (some 32) _) _
          simp only [Act.put, List.setIfInBounds_toArray, List.set_cons_zero, List.set_cons_succ]
          refine wpAnyH_done (by kernel_rfl) ?_ _
          have BX := Lib.hid hHeld; clear hHeld
          generalize wr.drew = w7 at BX ⊢
          have B7 := Lib.hid (bel_tr HB.out BX.out (Nat.le_refl _))
          have OA := Lib.hid (HOA.out.next BX.out)
          have OB := Lib.hid (HOB.out.next BX.out)
          clear HOA HOB HB BX
          obtain ⟨qa, qc, rfl, hvq0, hq0⟩ := OB.out.view
          have HVQ := Lib.hid hvq0; clear hvq0 hq0
          go_wp2_with fail
          go_loop [10] (fun s => ∃ j : Nat, s = .slice qa j qc ∧ j ≤ q.length ∧ trim q 0 j = trim q 0 q.length) (fun s => slM s)
          case atStart => exact ⟨q.length, rfl, Nat.le_refl _, rfl⟩
          case round =>
            obtain ⟨j, rfl, hjq, htr⟩ := hrel
            cases j with
            | zero =>
              have HJ := Lib.hid (show trim q 0 q.length = 0 by rw [← htr]; rfl); clear htr
              have hvq := HVQ.out.take (k := 0) (m := qc) (Nat.zero_le _) (Nat.zero_le _) (Nat.le_refl _) HVQ.out.2.2.1
              have HVJ := Lib.hid (show Vw w7 _ qc (q.take 0) from hvq); clear hvq
              have HLJ := Lib.hid (show (q.take 0).length = 0 by rw [List.length_take]; omega)
              have HFE := Lib.hid (thin_round HSRT.out HDR.out HGR.out hie HFOLD.out HJ.out HEQ.out)
              go_wp2_with (first
                | (at_builtin; refine append_cells rfl (.tmp 78) (.tmp 79) rfl (base := w.heap.size) (l := o) (m := q.take 0) rfl rfl HLJ.out OA.out HVJ.out (by rw [HLJ.out]; omega) B7.out.size ?_; intro v5 w5 o5 g5))
              have B8 := Lib.hid (B7.out.grown g5 B7.out.size (fun j hj => OwC.lt OA.out j hj))
              have O8 := Lib.hid o5; clear o5 g5
              go_wp2_with fail
              go_roundw
              case rel => exact ⟨e, o ++ q.take 0, rfl, by omega, O8.out, HFE.out, B8.out, by rw [List.length_append, HLJ.out]; omega⟩
              case measure => simp [intV]; omega
            | succ j =>
              obtain ⟨b, hb⟩ : ∃ b, q[j]? = some b := ⟨q[j]'(by omega), List.getElem?_eq_getElem _⟩
              obtain ⟨gq, oq, e2, -, y0, y1, y2, y3, y4⟩ := HVQ.out.2.2.2 j b hb
              cases e2
              have HTS := Lib.hid (show trim q 0 (j + 1) = if b.g = true then trim q 0 j else j + 1 by
                rw [trim]; unfold isGone; rw [hb]
                by_cases e : b.g = true
                · rw [if_pos e, if_pos ⟨by omega, e⟩]
                · rw [if_neg e, if_neg (fun h => e h.2)])
              have HTR := Lib.hid htr; clear htr hb
              have n0 : (0 : Int) < (j : Int) + 1 := by omega
              have n1 : (0 : Int) ≤ (j : Int) := by omega
              have n2 : (j : Int) < (j : Int) + 1 := by omega
              have n3 : (j : Int) ≤ 9 := by omega
              have n4 : j < j + 1 := by omega
              cases hg : b.g
              · rw [hg] at y4 HTS
                have HJ := Lib.hid (show trim q 0 q.length = j + 1 by rw [← HTR.out, HTS.out]; rfl)
                have hvq := HVQ.out.take (k := j + 1) (m := qc) hjq (by have := HVQ.out.1; omega) (Nat.le_refl _) HVQ.out.2.2.1
                clear hg
                have HVJ := Lib.hid (show Vw w7 _ qc (q.take (j + 1)) from hvq); clear hvq
                have HLJ := Lib.hid (show (q.take (j + 1)).length = j + 1 by rw [List.length_take]; omega)
                have HFE := Lib.hid (thin_round HSRT.out HDR.out HGR.out hie HFOLD.out HJ.out HEQ.out)
                go_wp2_with (first
                  | (at_builtin; refine append_cells rfl (.tmp 78) (.tmp 79) rfl (base := w.heap.size) (l := o) (m := q.take (j + 1)) rfl rfl HLJ.out OA.out HVJ.out (by rw [HLJ.out]; omega) B7.out.size ?_; intro v5 w5 o5 g5))
                have B8 := Lib.hid (B7.out.grown g5 B7.out.size (fun j hj => OwC.lt OA.out j hj))
                have O8 := Lib.hid o5; clear o5 g5
                go_wp2_with fail
                go_roundw
                case rel => exact ⟨e, o ++ q.take (j + 1), rfl, by omega, O8.out, HFE.out, B8.out, by rw [List.length_append, HLJ.out]; omega⟩
                case measure => simp [intV]; omega
              · rw [hg] at y4 HTS
                obtain ⟨hcut, -⟩ := cut_to (some ⟨gq, oq, none⟩) (j + 1) qc j (by omega) (by have := HVQ.out.1; omega) HVQ.out.2.2.1
                clear hg
                go_wp2_with fail
                go_round
                case rel => exact ⟨j, rfl, by omega, by rw [← HTR.out, HTS.out]; rfl⟩
                case measure => simp [slM]
    · have HF := Lib.hid (show o0 = thinL K f l by rw [← HEQ.out, List.drop_of_length_le (by rw [HNL.out]; omega), thinL_nil, List.append_nil])
      have HO := Lib.hid ho; clear ho
      have HB := Lib.hid hbel; clear hbel
      have jn : ¬ (i : Int) < (n : Int) := by omega
      go_wp2_with fail
      go_ret
      exact ⟨_, rfl, by rw [← HF.out]; exact HO.out, HB.out⟩
theorem timeB_is {t : Int} {x : Bool} (h : inB t 0 1000000 = x) (w : World) : Calls Try.prog 74 #[.int .i64 t] w fun e w' => e = .returned (.bool x) ∧ w = w' := by
  subst h
  exact l2Time_any t w
set_option maxHeartbeats 4000000 in
set_option maxRecDepth 100000 in
theorem specThinned_any (w : World) (a : Option Addr) (cap : Nat) (l : List Cel) (n : Nat) (k f : Int) (hn : l.length = n) (hv : Vw w a cap l) (hm : ∀ c ∈ l, c.mod) (hl : n ≤ 4194304) :
    Calls Try.prog 18 #[.slice a n cap, .int .i64 k, .int .i64 f] w (ThPost l k f w) := by
  have HV := Lib.hid hv; clear hv
  have HM := Lib.hid hm; clear hm
  cases h1 : okL l
  · have HP := Lib.hid (thP_no (k := k) (f := f) h1)
    have H1 := Lib.hid h1; clear h1
    go_enter Try.func18, Try.ntmps18
    go_wp2_with fail
    refine (specCells_is H1.out _ a cap n hn HV.out HM.out hl).mono ?_; rintro e w1 ⟨rfl, b1⟩
    have B1 := Lib.hid b1; clear b1
    go_wp2_with fail
    go_ret
    exact ⟨_, rfl, by rw [HP.out]; exact OwC.start B1.out.size, B1.out.alloc B1.out.size _⟩
  · have H1 := Lib.hid h1
    cases h2 : inB k 1 9
    · have HP := Lib.hid (thP_bad (l := l) (k := k) (f := f) (fun h => by rw [inB_yes ⟨h.1, h.2.1⟩] at h2; cases h2))
      have H2 := Lib.hid (l1In_is h2); clear h1 h2
      go_enter Try.func18, Try.ntmps18
      go_wp2_with fail
      refine (specCells_is H1.out _ a cap n hn HV.out HM.out hl).mono ?_; rintro e w1 ⟨rfl, b1⟩
      have B1 := Lib.hid b1; clear b1
      go_wp2_with fail
      refine (H2.out _).mono ?_; rintro e w' ⟨rfl, rfl⟩
      go_wp2_with fail
      go_ret
      exact ⟨_, rfl, by rw [HP.out]; exact OwC.start B1.out.size, B1.out.alloc B1.out.size _⟩
    · cases h3 : inB f 0 1000000
      · have HP := Lib.hid (thP_bad (l := l) (k := k) (f := f) (fun h => by rw [inB_yes ⟨h.2.2.1, h.2.2.2⟩] at h3; cases h3))
        have H2 := Lib.hid (l1In_is h2)
        have H3 := Lib.hid (timeB_is h3); clear h1 h2 h3
        go_enter Try.func18, Try.ntmps18
        go_wp2_with fail
        refine (specCells_is H1.out _ a cap n hn HV.out HM.out hl).mono ?_; rintro e w1 ⟨rfl, b1⟩
        have B1 := Lib.hid b1; clear b1
        go_wp2_with fail
        refine (H2.out _).mono ?_; rintro e w' ⟨rfl, rfl⟩
        go_wp2_with fail
        refine (H3.out _).mono ?_; rintro e w' ⟨rfl, rfl⟩
        go_wp2_with fail
        go_ret
        exact ⟨_, rfl, by rw [HP.out]; exact OwC.start B1.out.size, B1.out.alloc B1.out.size _⟩
      · obtain ⟨k1, k2⟩ := inB_iff.1 h2
        obtain ⟨f1, f2⟩ := inB_iff.1 h3
        have HP := Lib.hid (thP_yes h1 ⟨k1, k2, f1, f2⟩)
        have H2 := Lib.hid (l1In_is h2)
        have H3 := Lib.hid (timeB_is h3)
        have hl2 : n ≤ 200 := by rw [← hn]; exact okLM h1
        have HS := Lib.hid (okLS h1)
        obtain ⟨K, rfl⟩ := Int.eq_ofNat_of_zero_le (show 0 ≤ k by omega)
        rw [Int.toNat_natCast] at HP
        clear h1 h2 h3
        go_enter Try.func18, Try.ntmps18
        go_wp2_with fail
        refine (specCells_is H1.out _ a cap n hn HV.out HM.out hl).mono ?_; rintro e w1 ⟨rfl, b1⟩
        have B1 := Lib.hid b1; clear b1
        go_wp2_with fail
        refine (H2.out _).mono ?_; rintro e w' ⟨rfl, rfl⟩
        go_wp2_with fail
        refine (H3.out _).mono ?_; rintro e w' ⟨rfl, rfl⟩
        go_wp2_with fail
        refine (l5Thin_any _ a cap l n K f hn (HV.out.below B1.out) (by omega) (by omega) (by omega) HS.out).mono ?_; rintro e w2 ⟨v, rfl, o2, b2⟩
        have B2 := Lib.hid (bel_tr B1.out b2 (Nat.le_refl _))
        have O2 := Lib.hid (o2.mono B1.out.size); clear o2 b2
        go_wp2_with fail
        go_ret
        exact ⟨_, rfl, by rw [HP.out]; exact O2.out, B2.out⟩
theorem specThinned_own (w : World) {B : Nat} {v : Value} {l : List Cel} {k f : Int} (ho : OwC B w v l) (hm : ∀ c ∈ l, c.mod) (hl : l.length ≤ 4194304) :
    Calls Try.prog 18 #[v, .int .i64 k, .int .i64 f] w (ThPost l k f w) := by
  obtain ⟨x, cx, rfl, h1, -⟩ := ho.view
  exact specThinned_any w x cx l _ k f rfl h1 hm hl
theorem implThinned_own (w : World) {B : Nat} {v : Value} {l : List Cel} {k f : Int} (ho : OwC B w v l) (hl : l.length ≤ 4194304) :
    Calls Try.prog 16 #[v, .int .i64 k, .int .i64 f] w (ThPost l k f w) := by
  obtain ⟨x, cx, rfl, h1, -⟩ := ho.view
  exact implThinned_any w x cx l _ k f rfl h1 hl
end Go.Proofs.Ytcloejmakjdgcaa.Cl
