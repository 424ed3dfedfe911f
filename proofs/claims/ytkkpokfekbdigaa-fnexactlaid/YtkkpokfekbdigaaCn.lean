/-
  The contract of impl.PutCell: 'putP'. (Made by gen_cn.py.)
-/
import Derived.Test.YtkkpokfekbdigaaCk
import Derived.Test.YtkkpokfekbdigaaCe
import Derived.Test.YtkkpokfekbdigaaCd
namespace Go.Proofs.Ytkkpokfekbdigaa.Cl
open Go.RowKit Wd Rp Kp
set_option linter.unusedVariables false
theorem implCells_is {l : List Cel} {x : Bool} (h : okL l = x) (w : World) (a : Option Addr) (cap : Nat) (n : Nat) (hn : l.length = n) (hv : Vw w a cap l) (hlen : n ≤ 4194304) :
    Calls Try.prog 23 #[.slice a n cap] w fun e w' => e = .returned (.bool x) ∧ Below w.heap.size w w' := by
  subst hn; rw [← h]; exact implCells_any w a cap l hv hlen
theorem cellAt_is {l : List Cel} {K : Cel} {m : Nat} {x : Bool} (hm : cnt l K = m) (hx : there l m K = x) (w : World) (a : Option Addr) (cap : Nat) (n : Nat) (hn : l.length = n) (hv : Vw w a cap l) (hl : n ≤ 4194304) (hok : okL l = true) :
    Calls Try.prog 61 #[.slice a n cap, .agg #[.string K.r, .string K.b, .int .i64 K.t]] w fun e w' => e = .returned (.tuple #[.int .i64 (m : Nat), .bool x]) ∧ Below w.heap.size w w' := by
  subst hn; subst hm; rw [← hx]; exact cellAt_any w a cap l K hv hl hok
set_option maxRecDepth 100000 in
set_option maxHeartbeats 8000000 in
theorem implPut_any (w : World) (a : Option Addr) (cap : Nat) (l : List Cel) (c : Cel) (n : Nat) (hn : l.length = n) (hv : Vw w a cap l) (hl : n ≤ 4194304) :
    Calls Try.prog 18 #[.slice a n cap, .agg #[.string c.r, .string c.b, .int .i64 c.t, .int .i64 c.v, .bool c.g]] w (PutPost l c w) := by
  go_enter Try.func18, Try.ntmps18
  go_wp2_with fail
  have X0 := Bc.made c.r c.b c.t c.v c.g w 28
  have b0 := bel1 w (.cells #[.string c.r, .string c.b, .int .i64 c.t, .int .i64 c.v, .bool c.g] 28)
  have hv0 := hv.below b0
  generalize w.alloc (Obj.cells #[Value.string c.r, Value.string c.b, Value.int IntKind.i64 c.t, Value.int IntKind.i64 c.v, Value.bool c.g] 28) = w0 at X0 b0 hv0 ⊢
  have HB0 := Lib.hid b0; clear b0 hv
  have HX := Lib.hid X0; clear X0
  have HV := Lib.hid hv0; clear hv0
  generalize hq0 : w.heap.size = q at HX ⊢
  cases hok : okL l
  · have HP := Lib.hid (putP_bad (c := c) hok)
    refine (implCells_is hok w0 a cap n hn HV.out hl).mono ?_; rintro e w1 ⟨rfl, b1⟩
    have B1 := Lib.hid (bel_tr HB0.out b1 (Nat.le_refl _)); clear b1 hok
    go_wp2_with fail
    refine bodyPost_ret (v := .tuple #[.slice none 0 0, .bool false]) (by simp [results, Try.results18, go_sem]) rfl ⟨_, by rw [HP.out], by rw [HP.out]; exact OwC.nothing _ _, B1.out⟩
  · have HO := Lib.hid hok
    have hl200 : n ≤ 200 := by rw [← hn]; exact (okL_iff.1 hok).2
    refine (implCells_is hok w0 a cap n hn HV.out hl).mono ?_; rintro e w1 ⟨rfl, b1⟩
    have X1 := HX.out.next b1
    have B1 := Lib.hid b1; clear b1
    obtain ⟨x0, x1, x2, x3, x4, -⟩ := id X1
    obtain ⟨m, hm⟩ : ∃ m, cnt l c = m := ⟨_, rfl⟩
    have hmn : m ≤ n := by rw [← hm, ← hn]; exact (cntP_spec _ l).1
    obtain ⟨th, hth⟩ : ∃ x, there l m c = x := ⟨_, rfl⟩
    have HCA := Lib.hid (cellAt_is hm hth w1 a cap n hn (HV.out.below B1.out) hl HO.out)
    go_wp2_with fail
    refine HCA.out.mono ?_; rintro e w2 ⟨rfl, b2⟩
    have X2 := X1.next b2
    have B2 := Lib.hid (bel_tr B1.out b2 (Nat.le_refl _)); clear b2 x0 x1 x2 x3 x4 HCA X1
    obtain ⟨x0, x1, x2, x3, x4, -⟩ := id X2
    cases hco : c.ok
    · have HP := Lib.hid (putP_no hok hco)
      have HC := Lib.hid (implCell_is hco); clear hco hok
      go_wp2_with fail
      refine (HC.out _).mono ?_; rintro e w3 ⟨rfl, b3⟩
      have B3 := Lib.hid (bel_tr B2.out b3 (Nat.le_refl _)); clear b3 x0 x1 x2 x3 x4 X2
      go_wp2_with fail
      refine (copyOf_any _ a cap l n hn (HV.out.below B3.out) hl).mono ?_; rintro e w4 ⟨v4, rfl, o4, b4⟩
      have B4 := Lib.hid (bel_tr HB0.out (bel_tr B3.out b4 (Nat.le_refl _)) (Nat.le_refl _)); clear b4
      have O4 := Lib.hid (o4.mono (Nat.le_trans HB0.out.size B3.out.size)); clear o4
      go_wp2_with fail
      refine bodyPost_ret (v := .tuple #[v4, .bool false]) (by simp [results, Try.results18, go_sem]) rfl ⟨_, by rw [HP.out], by rw [HP.out]; exact O4.out, B4.out⟩
    · have HC := Lib.hid (implCell_is hco)
      have hcnt : cntP (fun d => d.ls c) l = m := by rw [← cnt_ls hok hco]; exact hm
      have HPUT := Lib.hid (putL_at hcnt hth)
      have hpl := putL_len l c
      rw [hcnt, hth, hn] at hpl
      cases th
      · rw [if_neg (by decide)] at hpl
        by_cases h2 : n = 200
        · have HP := Lib.hid (putP_big hok hco (by omega)); clear hco hok
          have q1 : ((n : Int) == 200) = true := by rw [beq_iff_eq]; omega
          clear h2 hpl
          go_wp2_with fail
          refine (HC.out _).mono ?_; rintro e w3 ⟨rfl, b3⟩
          have B3 := Lib.hid (bel_tr B2.out b3 (Nat.le_refl _)); clear b3 x0 x1 x2 x3 x4 X2
          go_wp2_with fail
          refine (copyOf_any _ a cap l n hn (HV.out.below B3.out) hl).mono ?_; rintro e w4 ⟨v4, rfl, o4, b4⟩
          have B4 := Lib.hid (bel_tr HB0.out (bel_tr B3.out b4 (Nat.le_refl _)) (Nat.le_refl _)); clear b4
          have O4 := Lib.hid (o4.mono (Nat.le_trans HB0.out.size B3.out.size)); clear o4
          go_wp2_with fail
          refine bodyPost_ret (v := .tuple #[v4, .bool false]) (by simp [results, Try.results18, go_sem]) rfl ⟨_, by rw [HP.out], by rw [HP.out]; exact O4.out, B4.out⟩
        · have HP := Lib.hid (putP_yes hok hco (by omega)); clear hco hok hcnt hth
          have q1 : ((n : Int) == 200) = false := by rw [beq_eq_false_iff_ne]; omega
          clear h2 hpl
          go_wp2_with fail
          refine (HC.out _).mono ?_; rintro e w3 ⟨rfl, b3⟩
          have HX3 := Lib.hid (X2.next b3)
          have B3 := Lib.hid (bel_tr B2.out b3 (Nat.le_refl _)); clear b3 x0 x1 x2 x3 x4 X2
          obtain ⟨b, cb, hrun, hvw⟩ := cut_from a n cap m (by omega)
          have HVW := Lib.hid (fun w h => hvw w l h hn); clear hvw
          have HLD := Lib.hid (show (l.drop m).length = n - m by rw [List.length_drop, hn])
          generalize hN : n - m = N at *
          obtain ⟨hrun4, hvw4⟩ := cut_full a n cap m (by omega) (by rw [← hn]; exact HV.out.1) HV.out.2.2.1
          have HVT := Lib.hid (fun w h => hvw4 w l h hn); clear hvw4
          have HW3 := Lib.hid (HVW.out _ (HV.out.below B3.out))
          have HRN := Lib.hid HLD.out
          obtain ⟨x0, x1, x2, x3, x4, hq3⟩ := id HX3.out
          have SOG := Lib.hid (show ∀ z, Below w3.heap.size w3 z → (z.cell? ⟨q, 0, none⟩ = some (.string c.r) ∧ z.cell? ⟨q, 1, none⟩ = some (.string c.b) ∧ z.cell? ⟨q, 2, none⟩ = some (.int .i64 c.t) ∧ z.cell? ⟨q, 3, none⟩ = some (.int .i64 c.v) ∧ z.cell? ⟨q, 4, none⟩ = some (.bool c.g) ∧ Below w3.heap.size w3 z) from fun z hz => ⟨coc hz hq3 x0, coc hz hq3 x1, coc hz hq3 x2, coc hz hq3 x3, coc hz hq3 x4,  hz⟩)
          clear x0 x1 x2 x3 x4
          go_wp2_with fail
          refine wp_region_held_drew (S := fun z => z.cell? ⟨q, 0, none⟩ = some (.string c.r) ∧ z.cell? ⟨q, 1, none⟩ = some (.string c.b) ∧ z.cell? ⟨q, 2, none⟩ = some (.int .i64 c.t) ∧ z.cell? ⟨q, 3, none⟩ = some (.int .i64 c.v) ∧ z.cell? ⟨q, 4, none⟩ = some (.bool c.g) ∧ Below w3.heap.size w3 z) (by kernel_rfl) (SOG.out _ (Below.refl _ _).drew) (fun hHeld => ?_)
          refine wpAnyH_take (i := 0) (v := ?v0a) rfl (by kernel_rfl) (by kernel_rfl) (by kernel_rfl) (fun _ _ _ h => h) (Or.inl ⟨by rfl, ?hy0a⟩) (by assumption) ?rest0a
          case hy0a => (intro zz hSw; (try dsimp only at hSw); go_simp; (try with_reducible rfl))
          change wpAnyH _ _ _ _ _ _ _ (Act.put _ (some 40) _) _
          simp only [Act.put, List.setIfInBounds_toArray, List.set_cons_zero, List.set_cons_succ]
          refine wpAnyH_take (i := 1) (v := ?v1a) rfl (by kernel_rfl) (by kernel_rfl) (by kernel_rfl) (fun _ _ _ h => h) (Or.inl ⟨by rfl, ?hy1a⟩) (by assumption) ?rest1a
          case hy1a => (intro zz hSw; (try dsimp only at hSw); go_simp; (try with_reducible rfl))
          change wpAnyH _ _ _ _ _ _ _ (Act.put _ (some 41) _) _
          simp only [Act.put, List.setIfInBounds_toArray, List.set_cons_zero, List.set_cons_succ]
          refine wpAnyH_take (i := 2) (v := ?v2a) rfl (by kernel_rfl) (by kernel_rfl) (by kernel_rfl) (fun _ _ _ h => h) (Or.inl ⟨by rfl, ?hy2a⟩) (by assumption) ?rest2a
          case hy2a => (intro zz hSw; (try dsimp only at hSw); go_simp; (try with_reducible rfl))
          change wpAnyH _ _ _ _ _ _ _ (Act.put _ (some 42) _) _
          simp only [Act.put, List.setIfInBounds_toArray, List.set_cons_zero, List.set_cons_succ]
          refine wpAnyH_take (i := 3) (v := ?v3a) rfl (by kernel_rfl) (by kernel_rfl) (by kernel_rfl) (fun _ _ _ h => h) (Or.inl ⟨by rfl, ?hy3a⟩) (by assumption) ?rest3a
          case hy3a => (intro zz hSw; (try dsimp only at hSw); go_simp; (try with_reducible rfl))
          change wpAnyH _ _ _ _ _ _ _ (Act.put _ (some 43) _) _
          simp only [Act.put, List.setIfInBounds_toArray, List.set_cons_zero, List.set_cons_succ]
          refine wpAnyH_take (i := 4) (v := ?v4a) rfl (by kernel_rfl) (by kernel_rfl) (by kernel_rfl) (fun _ _ _ h => h) (Or.inl ⟨by rfl, ?hy4a⟩) (by assumption) ?rest4a
          case hy4a => (intro zz hSw; (try dsimp only at hSw); go_simp; (try with_reducible rfl))
          change wpAnyH _ _ _ _ _ _ _ (Act.put _ (some 44) _) _
          simp only [Act.put, List.setIfInBounds_toArray, List.set_cons_zero, List.set_cons_succ]
          refine wpAnyH_ready (rs := [5]) (by kernel_rfl) (by simp) (AllReadyH.cons rfl (fun K hK => ?_) (AllReadyH.nil))
          go_simp
          have VL := Lib.hid (Vw.lit (w3.drew) c)
          have bel := bel1 (w3.drew) (.cells #[.string c.r, .string c.b, .int .i64 c.t, .int .i64 c.v, .bool c.g] 28)
          refine hK.out _ _ (SOG.out _ (bel_tr hHeld.2.2.2.2.2 bel (Nat.le_refl _))) (fun hHeld => ?_)
          clear hK K bel
          refine wpAnyH_ready (rs := [6]) (by kernel_rfl) (by simp) (AllReadyH.cons rfl (fun K hK => ?_) (AllReadyH.nil))
          refine step_append_full rfl (.tmp 43) (.tmp 45) rfl (k := m) (l := l.take m) (m := [c]) rfl rfl (by rw [List.length_take]; omega) (HVT.out _ (HV.out.below (bel_tr B3.out hHeld.2.2.2.2.2 (Nat.le_refl _)))) rfl VL.out (by decide) (by omega) ?_
          intro v6 w6 o6 bel
          have O6 := Lib.hid (o6.mono hHeld.2.2.2.2.2.size); clear o6
          refine hK.out _ _ (SOG.out _ (bel_tr hHeld.2.2.2.2.2 bel (Nat.le_refl _))) (fun hHeld => ?_)
          clear hK K bel VL
          change wpAnyH _ _ _ _ _ _ _ (Act.put _ (some 46) _) _
          simp only [Act.put, List.setIfInBounds_toArray, List.set_cons_zero, List.set_cons_succ]
          refine wpAnyH_take (i := 7) (v := ?v7a) rfl (by kernel_rfl) (by kernel_rfl) (by kernel_rfl) (fun _ _ _ h => h) (Or.inl ⟨by rfl, ?hy7a⟩) (by assumption) ?rest7a
          case hy7a => (intro zz hSw; (try dsimp only at hSw); go_simp; (try with_reducible rfl))
          change wpAnyH _ _ _ _ _ _ _ (Act.put _ (some 9) _) _
          simp only [Act.put, List.setIfInBounds_toArray, List.set_cons_zero, List.set_cons_succ]
          refine wpAnyH_done (by kernel_rfl) ?_ _
          have B6 := Lib.hid hHeld.2.2.2.2.2; clear hHeld
          go_wp2_with (first
            | (at_builtin; refine append_cells rfl (.tmp 47) (.tmp 48) rfl (base := w3.heap.size) (l := l.take m ++ [c]) (m := l.drop m) rfl rfl HRN.out O6.out (HW3.out.below B6.out) (by rw [List.length_append, HRN.out, List.length_singleton, List.length_take]; omega) B6.out.size ?_; intro v8 w8 o8 g8))
          have B8 := Lib.hid (bel_tr HB0.out (bel_tr B3.out (B6.out.grown g8 B6.out.size (fun j hj => OwC.lt O6.out j hj)) (Nat.le_refl _)) (Nat.le_refl _))
          have O8 := Lib.hid (o8.mono (C := w.heap.size) (Nat.le_trans HB0.out.size B3.out.size)); clear o8 g8
          refine bodyPost_ret (v := .tuple #[v8, .bool true]) (by simp [results, Try.results18, go_sem]) rfl ⟨_, by rw [HP.out], ?_, B8.out⟩
          rw [HP.out]
          show OwC _ _ _ (putL l c)
          rw [HPUT.out]
          have := O8.out
          rwa [List.append_assoc] at this
      · rw [if_pos rfl] at hpl
        have HLT := Lib.hid (there_lt hth)
        have HP := Lib.hid (putP_yes hok hco (by omega)); clear hco hok hcnt hth
        go_wp2_with fail
        refine (HC.out _).mono ?_; rintro e w3 ⟨rfl, b3⟩
        have HX3 := Lib.hid (X2.next b3)
        have B3 := Lib.hid (bel_tr B2.out b3 (Nat.le_refl _)); clear b3 x0 x1 x2 x3 x4 X2
        obtain ⟨b, cb, hrun, hvw⟩ := cut_from a n cap m (by omega)
        have HVW := Lib.hid (fun w h => hvw w l h hn); clear hvw
        have HLD := Lib.hid (show (l.drop m).length = n - m by rw [List.length_drop, hn])
        generalize hN : n - m = N at *
        obtain ⟨hrun4, hvw4⟩ := cut_full a n cap m (by omega) (by rw [← hn]; exact HV.out.1) HV.out.2.2.1
        have HVT := Lib.hid (fun w h => hvw4 w l h hn); clear hvw4
        obtain ⟨b3, cb3, hrun3, hvw3⟩ := cut_from b N cb 1 (by have := HLT.out; omega)
        have hrun3' : ∀ w, (Instr.slice 24 (.slice b N cb) (some (.int .i64 1)) none none).run Try.prog w = .ok (.slice b3 (N - 1) cb3) w := hrun3
        clear hrun3
        have HW3 := Lib.hid (show Vw w3 b3 cb3 (l.drop (m + 1)) by rw [← List.drop_drop]; exact hvw3 w3 (l.drop m) (HVW.out _ (HV.out.below B3.out)) HLD.out); clear hvw3
        have HRN := Lib.hid (show (l.drop (m + 1)).length = N - 1 by rw [List.length_drop]; omega)
        obtain ⟨x0, x1, x2, x3, x4, hq3⟩ := id HX3.out
        have SOG := Lib.hid (show ∀ z, Below w3.heap.size w3 z → (z.cell? ⟨q, 0, none⟩ = some (.string c.r) ∧ z.cell? ⟨q, 1, none⟩ = some (.string c.b) ∧ z.cell? ⟨q, 2, none⟩ = some (.int .i64 c.t) ∧ z.cell? ⟨q, 3, none⟩ = some (.int .i64 c.v) ∧ z.cell? ⟨q, 4, none⟩ = some (.bool c.g) ∧ Below w3.heap.size w3 z) from fun z hz => ⟨coc hz hq3 x0, coc hz hq3 x1, coc hz hq3 x2, coc hz hq3 x3, coc hz hq3 x4,  hz⟩)
        clear x0 x1 x2 x3 x4
        go_wp2_with fail
        refine wp_region_held_drew (S := fun z => z.cell? ⟨q, 0, none⟩ = some (.string c.r) ∧ z.cell? ⟨q, 1, none⟩ = some (.string c.b) ∧ z.cell? ⟨q, 2, none⟩ = some (.int .i64 c.t) ∧ z.cell? ⟨q, 3, none⟩ = some (.int .i64 c.v) ∧ z.cell? ⟨q, 4, none⟩ = some (.bool c.g) ∧ Below w3.heap.size w3 z) (by kernel_rfl) (SOG.out _ (Below.refl _ _).drew) (fun hHeld => ?_)
        refine wpAnyH_take (i := 0) (v := ?v0b) rfl (by kernel_rfl) (by kernel_rfl) (by kernel_rfl) (fun _ _ _ h => h) (Or.inl ⟨by rfl, ?hy0b⟩) (by assumption) ?rest0b
        case hy0b => (intro zz hSw; (try dsimp only at hSw); go_simp; (try with_reducible rfl))
        change wpAnyH _ _ _ _ _ _ _ (Act.put _ (some 40) _) _
        simp only [Act.put, List.setIfInBounds_toArray, List.set_cons_zero, List.set_cons_succ]
        refine wpAnyH_take (i := 1) (v := ?v1b) rfl (by kernel_rfl) (by kernel_rfl) (by kernel_rfl) (fun _ _ _ h => h) (Or.inl ⟨by rfl, ?hy1b⟩) (by assumption) ?rest1b
        case hy1b => (intro zz hSw; (try dsimp only at hSw); go_simp; (try with_reducible rfl))
        change wpAnyH _ _ _ _ _ _ _ (Act.put _ (some 41) _) _
        simp only [Act.put, List.setIfInBounds_toArray, List.set_cons_zero, List.set_cons_succ]
        refine wpAnyH_take (i := 2) (v := ?v2b) rfl (by kernel_rfl) (by kernel_rfl) (by kernel_rfl) (fun _ _ _ h => h) (Or.inl ⟨by rfl, ?hy2b⟩) (by assumption) ?rest2b
        case hy2b => (intro zz hSw; (try dsimp only at hSw); go_simp; (try with_reducible rfl))
        change wpAnyH _ _ _ _ _ _ _ (Act.put _ (some 42) _) _
        simp only [Act.put, List.setIfInBounds_toArray, List.set_cons_zero, List.set_cons_succ]
        refine wpAnyH_take (i := 3) (v := ?v3b) rfl (by kernel_rfl) (by kernel_rfl) (by kernel_rfl) (fun _ _ _ h => h) (Or.inl ⟨by rfl, ?hy3b⟩) (by assumption) ?rest3b
        case hy3b => (intro zz hSw; (try dsimp only at hSw); go_simp; (try with_reducible rfl))
        change wpAnyH _ _ _ _ _ _ _ (Act.put _ (some 43) _) _
        simp only [Act.put, List.setIfInBounds_toArray, List.set_cons_zero, List.set_cons_succ]
        refine wpAnyH_take (i := 4) (v := ?v4b) rfl (by kernel_rfl) (by kernel_rfl) (by kernel_rfl) (fun _ _ _ h => h) (Or.inl ⟨by rfl, ?hy4b⟩) (by assumption) ?rest4b
        case hy4b => (intro zz hSw; (try dsimp only at hSw); go_simp; (try with_reducible rfl))
        change wpAnyH _ _ _ _ _ _ _ (Act.put _ (some 44) _) _
        simp only [Act.put, List.setIfInBounds_toArray, List.set_cons_zero, List.set_cons_succ]
        refine wpAnyH_ready (rs := [5]) (by kernel_rfl) (by simp) (AllReadyH.cons rfl (fun K hK => ?_) (AllReadyH.nil))
        go_simp
        have VL := Lib.hid (Vw.lit (w3.drew) c)
        have bel := bel1 (w3.drew) (.cells #[.string c.r, .string c.b, .int .i64 c.t, .int .i64 c.v, .bool c.g] 28)
        refine hK.out _ _ (SOG.out _ (bel_tr hHeld.2.2.2.2.2 bel (Nat.le_refl _))) (fun hHeld => ?_)
        clear hK K bel
        refine wpAnyH_ready (rs := [6]) (by kernel_rfl) (by simp) (AllReadyH.cons rfl (fun K hK => ?_) (AllReadyH.nil))
        refine step_append_full rfl (.tmp 43) (.tmp 45) rfl (k := m) (l := l.take m) (m := [c]) rfl rfl (by rw [List.length_take]; omega) (HVT.out _ (HV.out.below (bel_tr B3.out hHeld.2.2.2.2.2 (Nat.le_refl _)))) rfl VL.out (by decide) (by omega) ?_
        intro v6 w6 o6 bel
        have O6 := Lib.hid (o6.mono hHeld.2.2.2.2.2.size); clear o6
        refine hK.out _ _ (SOG.out _ (bel_tr hHeld.2.2.2.2.2 bel (Nat.le_refl _))) (fun hHeld => ?_)
        clear hK K bel VL
        change wpAnyH _ _ _ _ _ _ _ (Act.put _ (some 46) _) _
        simp only [Act.put, List.setIfInBounds_toArray, List.set_cons_zero, List.set_cons_succ]
        refine wpAnyH_take (i := 7) (v := ?v7b) rfl (by kernel_rfl) (by kernel_rfl) (by kernel_rfl) (fun _ _ _ h => h) (Or.inl ⟨by rfl, ?hy7b⟩) (by assumption) ?rest7b
        case hy7b => (intro zz hSw; (try dsimp only at hSw); go_simp; (try with_reducible rfl))
        change wpAnyH _ _ _ _ _ _ _ (Act.put _ (some 9) _) _
        simp only [Act.put, List.setIfInBounds_toArray, List.set_cons_zero, List.set_cons_succ]
        refine wpAnyH_done (by kernel_rfl) ?_ _
        have B6 := Lib.hid hHeld.2.2.2.2.2; clear hHeld
        go_wp2_with (first
          | (at_builtin; refine append_cells rfl (.tmp 47) (.tmp 48) rfl (base := w3.heap.size) (l := l.take m ++ [c]) (m := l.drop (m + 1)) rfl rfl HRN.out O6.out (HW3.out.below B6.out) (by rw [List.length_append, HRN.out, List.length_singleton, List.length_take]; omega) B6.out.size ?_; intro v8 w8 o8 g8))
        have B8 := Lib.hid (bel_tr HB0.out (bel_tr B3.out (B6.out.grown g8 B6.out.size (fun j hj => OwC.lt O6.out j hj)) (Nat.le_refl _)) (Nat.le_refl _))
        have O8 := Lib.hid (o8.mono (C := w.heap.size) (Nat.le_trans HB0.out.size B3.out.size)); clear o8 g8
        refine bodyPost_ret (v := .tuple #[v8, .bool true]) (by simp [results, Try.results18, go_sem]) rfl ⟨_, by rw [HP.out], ?_, B8.out⟩
        rw [HP.out]
        show OwC _ _ _ (putL l c)
        rw [HPUT.out]
        have := O8.out
        rwa [List.append_assoc] at this
end Go.Proofs.Ytkkpokfekbdigaa.Cl
