/-
  The contract of impl.keptCount: 'kept'. (Made by gen_qa.py.)
  The contracts of impl.versionCount and impl.Thinned: 'grp', 'thP'. (Made by gen_qb.py.)
-/
import Derived.Test.YtcloejmakjdgcaaGreatMa
import Derived.Test.YtcloejmakjdgcaaGreatCe
import Derived.Test.YtcloejmakjdgcaaGreatCn
import Derived.Test.YtcloejmakjdgcaaGreatRv
import Derived.Test.YtcloejmakjdgcaaGreatCo
namespace Go.Proofs.YtcloejmakjdgcaaGreat.Cl
open Go.RowKit Wd Rp Kp
set_option linter.unusedVariables false
def slM : Value → Nat
  | .slice _ n _ => n
  | _ => 0
theorem slcM {a : Option Addr} {n m cap : Nat} (h : n = m) : Value.slice a n cap = .slice a m cap := by rw [h]
theorem okLM {l : List Cel} (h : okL l = true) : l.length ≤ 200 := (okL_iff.1 h).2
theorem okLS {l : List Cel} (h : okL l = true) : Srt l := okL_pair h
end Go.Proofs.YtcloejmakjdgcaaGreat.Cl
namespace Go.Proofs.YtcloejmakjdgcaaGreat.Cl
open Go.RowKit Wd Rp Kp
set_option linter.unusedVariables false
theorem grp_is {c : Cel} {r : List Cel} {x : Nat} (h1 : 1 ≤ x) (hx : x ≤ (c :: r).length) (hy : ∀ m d, 1 ≤ m → m < x → (c :: r)[m]? = some d → d.al c = true) (hn : ∀ d, (c :: r)[x]? = some d → d.al c = false) : grp (c :: r) = x := by
  have : cntP (fun d => d.al c) r = x - 1 := by
    refine cntP_eq (by rw [List.length_cons] at hx; omega) (fun m d hm hd => hy (m + 1) d (by omega) (by omega) (by simpa using hd)) (fun d hd => hn d ?_)
    rw [show x = (x - 1) + 1 by omega]; simpa using hd
  rw [grp, this]; omega
theorem plEqT {c d : Cel} {x : Bool} (h : c.al d = x) (w : World) : (Op.equalIn 10000 107 (.agg #[.string c.r, .string c.b]) (.agg #[.string d.r, .string d.b])).run Tryz.prog w = .ok x w := by
  rw [plEq]; exact congrArg (fun y => Result.ok y w) h
set_option maxHeartbeats 4000000 in
set_option maxRecDepth 100000 in
theorem versionCount_any (w : World) (a : Option Addr) (cap : Nat) (c : Cel) (r : List Cel) (n : Nat) (hn : (c :: r).length = n) (hv : Vw w a cap (c :: r)) (hl : n ≤ 4194304) :
    Calls Tryz.prog 53 #[.slice a n cap] w fun e w' => e = .returned (.int .i64 (grp (c :: r) : Nat)) ∧ Below w.heap.size w w' := by
  obtain ⟨g, o, rfl, hg, h5⟩ := hv.2.2.2 0 c rfl
  rw [Nat.zero_mul, Nat.add_zero] at h5
  have HC := Lib.hid h5; clear h5
  have HV := Lib.hid hv; clear hv
  have HN := Lib.hid hn
  have hn1 : 1 ≤ n := by rw [← hn]; simp
  clear hn
  go_enter Tryz.func53, Tryz.ntmps53
  go_wp2_with fail
  go_loopw [3] (fun s wr => ∃ x : Nat, s = .int .i64 (x : Int) ∧ 1 ≤ x ∧ x ≤ n ∧ (∀ m d, 1 ≤ m → m < x → (c :: r)[m]? = some d → d.al c = true) ∧ Below w.heap.size w wr) (fun s _ => n - intV s)
  case atStart => exact ⟨1, rfl, Nat.le_refl _, hn1, (fun m d h1 h2 => by omega), Below.refl _ _⟩
  case round =>
    obtain ⟨x, rfl, hx1, hxn, hlo, hbel⟩ := hrel
    have HB := Lib.hid hbel; clear hbel
    have HLO := Lib.hid hlo; clear hlo
    have hg' : g < wr.heap.size := Nat.lt_of_lt_of_le hg HB.out.size
    by_cases hlt : x < n
    · obtain ⟨d, hd⟩ : ∃ d, (c :: r)[x]? = some d := ⟨(c :: r)[x]'(by rw [HN.out]; exact hlt), List.getElem?_eq_getElem _⟩
      obtain ⟨g2, o2, e2, -, h5⟩ := HV.out.2.2.2 x d hd
      cases e2
      have HD := Lib.hid hd; clear hd
      obtain ⟨d0, d1, d2, -, -⟩ : At5 wr g (o + x * 5) d := h5.same (HB.out.block g hg)
      obtain ⟨c0, c1, c2, -, -⟩ : At5 wr g o c := HC.out.same (HB.out.block g hg)
      have SOF := Lib.hid (show ∀ z, Below wr.heap.size wr z → (z.cell? ⟨g, o + x * 5, none⟩ = some (.string d.r) ∧ z.cell? ⟨g, o + x * 5 + 1, none⟩ = some (.string d.b) ∧ z.cell? ⟨g, o + x * 5 + 2, none⟩ = some (.int .i64 d.t) ∧ z.cell? ⟨g, o, none⟩ = some (.string c.r) ∧ z.cell? ⟨g, o + 1, none⟩ = some (.string c.b) ∧ z.cell? ⟨g, o + 2, none⟩ = some (.int .i64 c.t) ∧ Below wr.heap.size wr z) from fun z hz => ⟨coc hz hg' d0, coc hz hg' d1, coc hz hg' d2, coc hz hg' c0, coc hz hg' c1, coc hz hg' c2,  hz⟩)
      clear c0 c1 c2 d0 d1 d2 h5
      have j1 : (x : Int) < (n : Int) := by omega
      have j2 : (0 : Int) ≤ (x : Int) := by omega
      have j3 : (n : Int) ≤ 4194304 := by omega
      have j4 : (0 : Int) < (n : Int) := by omega
      have j5 : decide ((x : Int) < (n : Int)) = true := decide_eq_true j1
      have j6 : decide (x < n) = true := decide_eq_true hlt
      have j7 : 0 < n := by omega
      cases hal : d.al c
      · have heq := plEqT hal
        have HE := Lib.hid (show grp (c :: r) = x from grp_is hx1 (by rw [HN.out]; exact hxn) HLO.out (fun e he => by rw [HD.out] at he; cases he; exact hal))
        clear hal
        go_wp2_with fail
        refine wp_region_held_drew (S := fun z => z.cell? ⟨g, o + x * 5, none⟩ = some (.string d.r) ∧ z.cell? ⟨g, o + x * 5 + 1, none⟩ = some (.string d.b) ∧ z.cell? ⟨g, o + x * 5 + 2, none⟩ = some (.int .i64 d.t) ∧ z.cell? ⟨g, o, none⟩ = some (.string c.r) ∧ z.cell? ⟨g, o + 1, none⟩ = some (.string c.b) ∧ z.cell? ⟨g, o + 2, none⟩ = some (.int .i64 c.t) ∧ Below wr.heap.size wr z) (by kernel_rfl) (SOF.out _ (Below.refl _ _).drew) (fun hHeld => ?_)
        refine wpAnyH_take (i := 0) (v := ?v0f) rfl (by kernel_rfl) (by kernel_rfl) (by kernel_rfl) (fun _ _ _ h => h) (Or.inl ⟨by rfl, ?hy0f⟩) (by assumption) ?rest0f
        case hy0f => (intro zz hSw; (try dsimp only at hSw); go_simp; (try with_reducible rfl))
        change wpAnyH _ _ _ _ _ _ _ (Act.put _ (some 4) _) _
        simp only [Act.put, List.setIfInBounds_toArray, List.set_cons_zero, List.set_cons_succ]
        refine wpAnyH_take (i := 1) (v := ?v1f) rfl (by kernel_rfl) (by kernel_rfl) (by kernel_rfl) (fun _ _ _ h => h) (Or.inl ⟨by rfl, ?hy1f⟩) (by assumption) ?rest1f
        case hy1f => (intro zz hSw; (try dsimp only at hSw); go_simp; (try with_reducible rfl))
        change wpAnyH _ _ _ _ _ _ _ (Act.put _ (some 5) _) _
        simp only [Act.put, List.setIfInBounds_toArray, List.set_cons_zero, List.set_cons_succ]
        refine wpAnyH_take (i := 2) (v := ?v2f) rfl (by kernel_rfl) (by kernel_rfl) (by kernel_rfl) (fun _ _ _ h => h) (Or.inl ⟨by rfl, ?hy2f⟩) (by assumption) ?rest2f
        case hy2f => (intro zz hSw; (try dsimp only at hSw); go_simp; (try with_reducible rfl))
        change wpAnyH _ _ _ _ _ _ _ (Act.put _ (some 6) _) _
        simp only [Act.put, List.setIfInBounds_toArray, List.set_cons_zero, List.set_cons_succ]
        refine wpAnyH_take (i := 3) (v := ?v3f) rfl (by kernel_rfl) (by kernel_rfl) (by kernel_rfl) (fun _ _ _ h => h) (Or.inl ⟨by rfl, ?hy3f⟩) (by assumption) ?rest3f
        case hy3f => (intro zz hSw; (try dsimp only at hSw); go_simp; (try with_reducible rfl))
        change wpAnyH _ _ _ _ _ _ _ (Act.put _ (some 7) _) _
        simp only [Act.put, List.setIfInBounds_toArray, List.set_cons_zero, List.set_cons_succ]
        refine wpAnyH_take (i := 4) (v := ?v4f) rfl (by kernel_rfl) (by kernel_rfl) (by kernel_rfl) (fun _ _ _ h => h) (Or.inl ⟨by rfl, ?hy4f⟩) (by assumption) ?rest4f
        case hy4f => (intro zz hSw; (try dsimp only at hSw); go_simp; (try with_reducible rfl))
        change wpAnyH _ _ _ _ _ _ _ (Act.put _ (some 8) _) _
        simp only [Act.put, List.setIfInBounds_toArray, List.set_cons_zero, List.set_cons_succ]
        refine wpAnyH_take (i := 5) (v := ?v5f) rfl (by kernel_rfl) (by kernel_rfl) (by kernel_rfl) (fun _ _ _ h => h) (Or.inl ⟨by rfl, ?hy5f⟩) (by assumption) ?rest5f
        case hy5f => (intro zz hSw; (try dsimp only at hSw); go_simp; (try with_reducible rfl))
        change wpAnyH _ _ _ _ _ _ _ (Act.put _ (some 9) _) _
        simp only [Act.put, List.setIfInBounds_toArray, List.set_cons_zero, List.set_cons_succ]
        refine wpAnyH_take (i := 6) (v := ?v6f) rfl (by kernel_rfl) (by kernel_rfl) (by kernel_rfl) (fun _ _ _ h => h) (Or.inl ⟨by rfl, ?hy6f⟩) (by assumption) ?rest6f
        case hy6f => (intro zz hSw; (try dsimp only at hSw); go_simp; (try with_reducible rfl))
        change wpAnyH _ _ _ _ _ _ _ (Act.put _ (some 10) _) _
        simp only [Act.put, List.setIfInBounds_toArray, List.set_cons_zero, List.set_cons_succ]
        refine wpAnyH_take (i := 7) (v := ?v7f) rfl (by kernel_rfl) (by kernel_rfl) (by kernel_rfl) (fun _ _ _ h => h) (Or.inl ⟨by rfl, ?hy7f⟩) (by assumption) ?rest7f
        case hy7f => (intro zz hSw; (try dsimp only at hSw); go_simp; (try with_reducible rfl))
        change wpAnyH _ _ _ _ _ _ _ (Act.put _ (some 11) _) _
        simp only [Act.put, List.setIfInBounds_toArray, List.set_cons_zero, List.set_cons_succ]
        refine wpAnyH_take (i := 8) (v := ?v8f) rfl (by kernel_rfl) (by kernel_rfl) (by kernel_rfl) (fun _ _ _ h => h) (Or.inl ⟨by rfl, ?hy8f⟩) (by assumption) ?rest8f
        case hy8f => (intro zz hSw; (try dsimp only at hSw); go_simp; (try with_reducible rfl))
        change wpAnyH _ _ _ _ _ _ _ (Act.put _ (some 12) _) _
        simp only [Act.put, List.setIfInBounds_toArray, List.set_cons_zero, List.set_cons_succ]
        refine wpAnyH_take (i := 9) (v := ?v9f) rfl (by kernel_rfl) (by kernel_rfl) (by kernel_rfl) (fun _ _ _ h => h) (Or.inl ⟨by rfl, ?hy9f⟩) (by assumption) ?rest9f
        case hy9f => (intro zz hSw; (try dsimp only at hSw); go_simp; (try with_reducible rfl))
        change wpAnyH _ _ _ _ _ _ _ (Act.put _ (some 13) _) _
        simp only [Act.put, List.setIfInBounds_toArray, List.set_cons_zero, List.set_cons_succ]
        refine wpAnyH_take (i := 11) (v := ?v11f) rfl (by kernel_rfl) (by kernel_rfl) (by kernel_rfl) (fun _ _ _ h => h) (Or.inl ⟨by rfl, ?hy11f⟩) (by assumption) ?rest11f
        case hy11f => (intro zz hSw; (try dsimp only at hSw); go_simp; (try with_reducible rfl))
        change wpAnyH _ _ _ _ _ _ _ (Act.put _ (some 15) _) _
        simp only [Act.put, List.setIfInBounds_toArray, List.set_cons_zero, List.set_cons_succ]
        refine wpAnyH_take (i := 12) (v := ?v12f) rfl (by kernel_rfl) (by kernel_rfl) (by kernel_rfl) (fun _ _ _ h => h) (Or.inl ⟨by rfl, ?hy12f⟩) (by assumption) ?rest12f
        case hy12f => (intro zz hSw; (try dsimp only at hSw); go_simp; (try with_reducible rfl))
        change wpAnyH _ _ _ _ _ _ _ (Act.put _ (some 16) _) _
        simp only [Act.put, List.setIfInBounds_toArray, List.set_cons_zero, List.set_cons_succ]
        refine wpAnyH_take (i := 13) (v := ?v13f) rfl (by kernel_rfl) (by kernel_rfl) (by kernel_rfl) (fun _ _ _ h => h) (Or.inl ⟨by rfl, ?hy13f⟩) (by assumption) ?rest13f
        case hy13f => (intro zz hSw; (try dsimp only at hSw); go_simp; (try with_reducible rfl))
        change wpAnyH _ _ _ _ _ _ _ (Act.put _ (some 17) _) _
        simp only [Act.put, List.setIfInBounds_toArray, List.set_cons_zero, List.set_cons_succ]
        refine wpAnyH_take (i := 14) (v := ?v14f) rfl (by kernel_rfl) (by kernel_rfl) (by kernel_rfl) (fun _ _ _ h => h) (Or.inl ⟨by rfl, ?hy14f⟩) (by assumption) ?rest14f
        case hy14f => (intro zz hSw; (try dsimp only at hSw); go_simp; (try with_reducible rfl))
        change wpAnyH _ _ _ _ _ _ _ (Act.put _ (some 18) _) _
        simp only [Act.put, List.setIfInBounds_toArray, List.set_cons_zero, List.set_cons_succ]
        refine wpAnyH_ready (rs := [10]) (by kernel_rfl) (by simp) (AllReadyH.cons rfl (fun K hK => ?_) AllReadyH.nil)
        go_simp
        refine (placeOf_bel _ _ _ _).mono ?_; rintro e w7 ⟨rfl, bel⟩
        refine hK.out _ _ (SOF.out _ (bel_tr hHeld.2.2.2.2.2.2 bel (Nat.le_refl _))) (fun hHeld => ?_)
        clear hK K bel
        refine wpAnyH_ready (rs := [15]) (by kernel_rfl) (by simp) (AllReadyH.cons rfl (fun K hK => ?_) AllReadyH.nil)
        go_simp
        refine (placeOf_bel _ _ _ _).mono ?_; rintro e w8 ⟨rfl, bel⟩
        refine hK.out _ _ (SOF.out _ (bel_tr hHeld.2.2.2.2.2.2 bel (Nat.le_refl _))) (fun hHeld => ?_)
        clear hK K bel
        refine wpAnyH_take (i := 16) (v := ?v16f) rfl (by kernel_rfl) (by kernel_rfl) (by kernel_rfl) (fun _ _ _ h => h) (Or.inl ⟨by rfl, ?hy16f⟩) (by assumption) ?rest16f
        case hy16f => (intro zz hSw; (try dsimp only at hSw); go_simp; (try with_reducible rfl))
        change wpAnyH _ _ _ _ _ _ _ (Act.put _ (some 20) _) _
        simp only [Act.put, List.setIfInBounds_toArray, List.set_cons_zero, List.set_cons_succ]
        refine wpAnyH_take (i := 17) (v := ?v17f) rfl (by kernel_rfl) (by kernel_rfl) (by kernel_rfl) (fun _ _ _ h => h) (Or.inl ⟨by rfl, ?hy17f⟩) (by assumption) ?rest17f
        case hy17f => (intro zz hSw; (try dsimp only at hSw); go_simp; (try with_reducible rfl))
        change wpAnyH _ _ _ _ _ _ _ (Act.put _ (some 21) _) _
        simp only [Act.put, List.setIfInBounds_toArray, List.set_cons_zero, List.set_cons_succ]
        refine wpAnyH_done (by kernel_rfl) ?_ _
        have BX := Lib.hid hHeld.2.2.2.2.2.2; clear hHeld SOF heq
        go_wp2_with fail
        go_ret
        exact ⟨by rw [HE.out]; rfl, bel_tr HB.out BX.out (Nat.le_refl _)⟩
      · have heq := plEqT hal
        have HLO2 := Lib.hid (show ∀ m e, 1 ≤ m → m < x + 1 → (c :: r)[m]? = some e → e.al c = true from fun m e h1 h2 he => by
          by_cases em : m = x
          · subst em; rw [HD.out] at he; cases he; exact hal
          · exact HLO.out m e h1 (by omega) he)
        clear hal
        go_wp2_with fail
        refine wp_region_held_drew (S := fun z => z.cell? ⟨g, o + x * 5, none⟩ = some (.string d.r) ∧ z.cell? ⟨g, o + x * 5 + 1, none⟩ = some (.string d.b) ∧ z.cell? ⟨g, o + x * 5 + 2, none⟩ = some (.int .i64 d.t) ∧ z.cell? ⟨g, o, none⟩ = some (.string c.r) ∧ z.cell? ⟨g, o + 1, none⟩ = some (.string c.b) ∧ z.cell? ⟨g, o + 2, none⟩ = some (.int .i64 c.t) ∧ Below wr.heap.size wr z) (by kernel_rfl) (SOF.out _ (Below.refl _ _).drew) (fun hHeld => ?_)
        refine wpAnyH_take (i := 0) (v := ?v0t) rfl (by kernel_rfl) (by kernel_rfl) (by kernel_rfl) (fun _ _ _ h => h) (Or.inl ⟨by rfl, ?hy0t⟩) (by assumption) ?rest0t
        case hy0t => (intro zz hSw; (try dsimp only at hSw); go_simp; (try with_reducible rfl))
        change wpAnyH _ _ _ _ _ _ _ (Act.put _ (some 4) _) _
        simp only [Act.put, List.setIfInBounds_toArray, List.set_cons_zero, List.set_cons_succ]
        refine wpAnyH_take (i := 1) (v := ?v1t) rfl (by kernel_rfl) (by kernel_rfl) (by kernel_rfl) (fun _ _ _ h => h) (Or.inl ⟨by rfl, ?hy1t⟩) (by assumption) ?rest1t
        case hy1t => (intro zz hSw; (try dsimp only at hSw); go_simp; (try with_reducible rfl))
        change wpAnyH _ _ _ _ _ _ _ (Act.put _ (some 5) _) _
        simp only [Act.put, List.setIfInBounds_toArray, List.set_cons_zero, List.set_cons_succ]
        refine wpAnyH_take (i := 2) (v := ?v2t) rfl (by kernel_rfl) (by kernel_rfl) (by kernel_rfl) (fun _ _ _ h => h) (Or.inl ⟨by rfl, ?hy2t⟩) (by assumption) ?rest2t
        case hy2t => (intro zz hSw; (try dsimp only at hSw); go_simp; (try with_reducible rfl))
        change wpAnyH _ _ _ _ _ _ _ (Act.put _ (some 6) _) _
        simp only [Act.put, List.setIfInBounds_toArray, List.set_cons_zero, List.set_cons_succ]
        refine wpAnyH_take (i := 3) (v := ?v3t) rfl (by kernel_rfl) (by kernel_rfl) (by kernel_rfl) (fun _ _ _ h => h) (Or.inl ⟨by rfl, ?hy3t⟩) (by assumption) ?rest3t
        case hy3t => (intro zz hSw; (try dsimp only at hSw); go_simp; (try with_reducible rfl))
        change wpAnyH _ _ _ _ _ _ _ (Act.put _ (some 7) _) _
        simp only [Act.put, List.setIfInBounds_toArray, List.set_cons_zero, List.set_cons_succ]
        refine wpAnyH_take (i := 4) (v := ?v4t) rfl (by kernel_rfl) (by kernel_rfl) (by kernel_rfl) (fun _ _ _ h => h) (Or.inl ⟨by rfl, ?hy4t⟩) (by assumption) ?rest4t
        case hy4t => (intro zz hSw; (try dsimp only at hSw); go_simp; (try with_reducible rfl))
        change wpAnyH _ _ _ _ _ _ _ (Act.put _ (some 8) _) _
        simp only [Act.put, List.setIfInBounds_toArray, List.set_cons_zero, List.set_cons_succ]
        refine wpAnyH_take (i := 5) (v := ?v5t) rfl (by kernel_rfl) (by kernel_rfl) (by kernel_rfl) (fun _ _ _ h => h) (Or.inl ⟨by rfl, ?hy5t⟩) (by assumption) ?rest5t
        case hy5t => (intro zz hSw; (try dsimp only at hSw); go_simp; (try with_reducible rfl))
        change wpAnyH _ _ _ _ _ _ _ (Act.put _ (some 9) _) _
        simp only [Act.put, List.setIfInBounds_toArray, List.set_cons_zero, List.set_cons_succ]
        refine wpAnyH_take (i := 6) (v := ?v6t) rfl (by kernel_rfl) (by kernel_rfl) (by kernel_rfl) (fun _ _ _ h => h) (Or.inl ⟨by rfl, ?hy6t⟩) (by assumption) ?rest6t
        case hy6t => (intro zz hSw; (try dsimp only at hSw); go_simp; (try with_reducible rfl))
        change wpAnyH _ _ _ _ _ _ _ (Act.put _ (some 10) _) _
        simp only [Act.put, List.setIfInBounds_toArray, List.set_cons_zero, List.set_cons_succ]
        refine wpAnyH_take (i := 7) (v := ?v7t) rfl (by kernel_rfl) (by kernel_rfl) (by kernel_rfl) (fun _ _ _ h => h) (Or.inl ⟨by rfl, ?hy7t⟩) (by assumption) ?rest7t
        case hy7t => (intro zz hSw; (try dsimp only at hSw); go_simp; (try with_reducible rfl))
        change wpAnyH _ _ _ _ _ _ _ (Act.put _ (some 11) _) _
        simp only [Act.put, List.setIfInBounds_toArray, List.set_cons_zero, List.set_cons_succ]
        refine wpAnyH_take (i := 8) (v := ?v8t) rfl (by kernel_rfl) (by kernel_rfl) (by kernel_rfl) (fun _ _ _ h => h) (Or.inl ⟨by rfl, ?hy8t⟩) (by assumption) ?rest8t
        case hy8t => (intro zz hSw; (try dsimp only at hSw); go_simp; (try with_reducible rfl))
        change wpAnyH _ _ _ _ _ _ _ (Act.put _ (some 12) _) _
        simp only [Act.put, List.setIfInBounds_toArray, List.set_cons_zero, List.set_cons_succ]
        refine wpAnyH_take (i := 9) (v := ?v9t) rfl (by kernel_rfl) (by kernel_rfl) (by kernel_rfl) (fun _ _ _ h => h) (Or.inl ⟨by rfl, ?hy9t⟩) (by assumption) ?rest9t
        case hy9t => (intro zz hSw; (try dsimp only at hSw); go_simp; (try with_reducible rfl))
        change wpAnyH _ _ _ _ _ _ _ (Act.put _ (some 13) _) _
        simp only [Act.put, List.setIfInBounds_toArray, List.set_cons_zero, List.set_cons_succ]
        refine wpAnyH_take (i := 11) (v := ?v11t) rfl (by kernel_rfl) (by kernel_rfl) (by kernel_rfl) (fun _ _ _ h => h) (Or.inl ⟨by rfl, ?hy11t⟩) (by assumption) ?rest11t
        case hy11t => (intro zz hSw; (try dsimp only at hSw); go_simp; (try with_reducible rfl))
        change wpAnyH _ _ _ _ _ _ _ (Act.put _ (some 15) _) _
        simp only [Act.put, List.setIfInBounds_toArray, List.set_cons_zero, List.set_cons_succ]
        refine wpAnyH_take (i := 12) (v := ?v12t) rfl (by kernel_rfl) (by kernel_rfl) (by kernel_rfl) (fun _ _ _ h => h) (Or.inl ⟨by rfl, ?hy12t⟩) (by assumption) ?rest12t
        case hy12t => (intro zz hSw; (try dsimp only at hSw); go_simp; (try with_reducible rfl))
        change wpAnyH _ _ _ _ _ _ _ (Act.put _ (some 16) _) _
        simp only [Act.put, List.setIfInBounds_toArray, List.set_cons_zero, List.set_cons_succ]
        refine wpAnyH_take (i := 13) (v := ?v13t) rfl (by kernel_rfl) (by kernel_rfl) (by kernel_rfl) (fun _ _ _ h => h) (Or.inl ⟨by rfl, ?hy13t⟩) (by assumption) ?rest13t
        case hy13t => (intro zz hSw; (try dsimp only at hSw); go_simp; (try with_reducible rfl))
        change wpAnyH _ _ _ _ _ _ _ (Act.put _ (some 17) _) _
        simp only [Act.put, List.setIfInBounds_toArray, List.set_cons_zero, List.set_cons_succ]
        refine wpAnyH_take (i := 14) (v := ?v14t) rfl (by kernel_rfl) (by kernel_rfl) (by kernel_rfl) (fun _ _ _ h => h) (Or.inl ⟨by rfl, ?hy14t⟩) (by assumption) ?rest14t
        case hy14t => (intro zz hSw; (try dsimp only at hSw); go_simp; (try with_reducible rfl))
        change wpAnyH _ _ _ _ _ _ _ (Act.put _ (some 18) _) _
        simp only [Act.put, List.setIfInBounds_toArray, List.set_cons_zero, List.set_cons_succ]
        refine wpAnyH_ready (rs := [10]) (by kernel_rfl) (by simp) (AllReadyH.cons rfl (fun K hK => ?_) AllReadyH.nil)
        go_simp
        refine (placeOf_bel _ _ _ _).mono ?_; rintro e w7 ⟨rfl, bel⟩
        refine hK.out _ _ (SOF.out _ (bel_tr hHeld.2.2.2.2.2.2 bel (Nat.le_refl _))) (fun hHeld => ?_)
        clear hK K bel
        refine wpAnyH_ready (rs := [15]) (by kernel_rfl) (by simp) (AllReadyH.cons rfl (fun K hK => ?_) AllReadyH.nil)
        go_simp
        refine (placeOf_bel _ _ _ _).mono ?_; rintro e w8 ⟨rfl, bel⟩
        refine hK.out _ _ (SOF.out _ (bel_tr hHeld.2.2.2.2.2.2 bel (Nat.le_refl _))) (fun hHeld => ?_)
        clear hK K bel
        refine wpAnyH_take (i := 16) (v := ?v16t) rfl (by kernel_rfl) (by kernel_rfl) (by kernel_rfl) (fun _ _ _ h => h) (Or.inl ⟨by rfl, ?hy16t⟩) (by assumption) ?rest16t
        case hy16t => (intro zz hSw; (try dsimp only at hSw); go_simp; (try with_reducible rfl))
        change wpAnyH _ _ _ _ _ _ _ (Act.put _ (some 20) _) _
        simp only [Act.put, List.setIfInBounds_toArray, List.set_cons_zero, List.set_cons_succ]
        refine wpAnyH_take (i := 17) (v := ?v17t) rfl (by kernel_rfl) (by kernel_rfl) (by kernel_rfl) (fun _ _ _ h => h) (Or.inl ⟨by rfl, ?hy17t⟩) (by assumption) ?rest17t
        case hy17t => (intro zz hSw; (try dsimp only at hSw); go_simp; (try with_reducible rfl))
        change wpAnyH _ _ _ _ _ _ _ (Act.put _ (some 21) _) _
        simp only [Act.put, List.setIfInBounds_toArray, List.set_cons_zero, List.set_cons_succ]
        refine wpAnyH_done (by kernel_rfl) ?_ _
        have BX := Lib.hid hHeld.2.2.2.2.2.2; clear hHeld SOF heq
        go_wp2_with fail
        go_roundw
        case rel => exact ⟨x + 1, by go_num, by omega, by omega, HLO2.out, bel_tr HB.out BX.out (Nat.le_refl _)⟩
        case measure => simp [intV]; omega
    · have hxe : x = n := by omega
      have HE := Lib.hid (show grp (c :: r) = x from grp_is hx1 (by rw [HN.out]; exact hxn) HLO.out (fun e he => by have := (List.getElem?_eq_some_iff.1 he).1; rw [HN.out] at this; omega))
      clear hxe
      have j1 : ¬ (x : Int) < (n : Int) := by omega
      have j5 : decide ((x : Int) < (n : Int)) = false := decide_eq_false j1
      have j6 : decide (x < n) = false := decide_eq_false hlt
      go_wp2_with fail
      refine wp_region_held_drew (S := fun z => Below wr.heap.size wr z) (by kernel_rfl) (Below.refl _ _).drew (fun hHeld => ?_)
      refine wpAnyH_take (i := 0) (v := ?v0n) rfl (by kernel_rfl) (by kernel_rfl) (by kernel_rfl) (fun _ _ _ h => h) (Or.inl ⟨by rfl, ?hy0n⟩) (by assumption) ?rest0n
      case hy0n => (intro zz hSw; (try dsimp only at hSw); go_simp; (try with_reducible rfl))
      change wpAnyH _ _ _ _ _ _ _ (Act.put _ (some 4) _) _
      simp only [Act.put, List.setIfInBounds_toArray, List.set_cons_zero, List.set_cons_succ]
      refine wpAnyH_take (i := 1) (v := ?v1n) rfl (by kernel_rfl) (by kernel_rfl) (by kernel_rfl) (fun _ _ _ h => h) (Or.inl ⟨by rfl, ?hy1n⟩) (by assumption) ?rest1n
      case hy1n => (intro zz hSw; (try dsimp only at hSw); go_simp; (try with_reducible rfl))
      change wpAnyH _ _ _ _ _ _ _ (Act.put _ (some 5) _) _
      simp only [Act.put, List.setIfInBounds_toArray, List.set_cons_zero, List.set_cons_succ]
      refine wpAnyH_take (i := 2) (v := ?v2n) rfl (by kernel_rfl) (by kernel_rfl) (by kernel_rfl) (fun _ _ _ h => h) (Or.inl ⟨by rfl, ?hy2n⟩) (by assumption) ?rest2n
      case hy2n => (intro zz hSw; (try dsimp only at hSw); go_simp; (try with_reducible rfl))
      change wpAnyH _ _ _ _ _ _ _ (Act.put _ (some 6) _) _
      simp only [Act.put, List.setIfInBounds_toArray, List.set_cons_zero, List.set_cons_succ]
      refine wpAnyH_take (i := 3) (v := ?v3n) rfl (by kernel_rfl) (by kernel_rfl) (by kernel_rfl) (fun _ _ _ h => h) (Or.inl ⟨by rfl, ?hy3n⟩) (by assumption) ?rest3n
      case hy3n => (intro zz hSw; (try dsimp only at hSw); go_simp; (try with_reducible rfl))
      change wpAnyH _ _ _ _ _ _ _ (Act.put _ (some 7) _) _
      simp only [Act.put, List.setIfInBounds_toArray, List.set_cons_zero, List.set_cons_succ]
      refine wpAnyH_take (i := 4) (v := ?v4n) rfl (by kernel_rfl) (by kernel_rfl) (by kernel_rfl) (fun _ _ _ h => h) (Or.inl ⟨by rfl, ?hy4n⟩) (by assumption) ?rest4n
      case hy4n => (intro zz hSw; (try dsimp only at hSw); go_simp; (try with_reducible rfl))
      change wpAnyH _ _ _ _ _ _ _ (Act.put _ (some 8) _) _
      simp only [Act.put, List.setIfInBounds_toArray, List.set_cons_zero, List.set_cons_succ]
      refine wpAnyH_take (i := 5) (v := undef) rfl (by kernel_rfl) (by kernel_rfl) (by kernel_rfl) (fun _ _ _ h => h) (Or.inr ⟨by rfl, rfl⟩) (by assumption) ?_
      change wpAnyH _ _ _ _ _ _ _ (Act.put _ (some 9) _) _
      simp only [Act.put, List.setIfInBounds_toArray, List.set_cons_zero, List.set_cons_succ]
      refine wpAnyH_take (i := 6) (v := undef) rfl (by kernel_rfl) (by kernel_rfl) (by kernel_rfl) (fun _ _ _ h => h) (Or.inr ⟨by rfl, rfl⟩) (by assumption) ?_
      change wpAnyH _ _ _ _ _ _ _ (Act.put _ (some 10) _) _
      simp only [Act.put, List.setIfInBounds_toArray, List.set_cons_zero, List.set_cons_succ]
      refine wpAnyH_take (i := 7) (v := undef) rfl (by kernel_rfl) (by kernel_rfl) (by kernel_rfl) (fun _ _ _ h => h) (Or.inr ⟨by rfl, rfl⟩) (by assumption) ?_
      change wpAnyH _ _ _ _ _ _ _ (Act.put _ (some 11) _) _
      simp only [Act.put, List.setIfInBounds_toArray, List.set_cons_zero, List.set_cons_succ]
      refine wpAnyH_take (i := 8) (v := undef) rfl (by kernel_rfl) (by kernel_rfl) (by kernel_rfl) (fun _ _ _ h => h) (Or.inr ⟨by rfl, rfl⟩) (by assumption) ?_
      change wpAnyH _ _ _ _ _ _ _ (Act.put _ (some 12) _) _
      simp only [Act.put, List.setIfInBounds_toArray, List.set_cons_zero, List.set_cons_succ]
      refine wpAnyH_take (i := 9) (v := undef) rfl (by kernel_rfl) (by kernel_rfl) (by kernel_rfl) (fun _ _ _ h => h) (Or.inr ⟨by rfl, rfl⟩) (by assumption) ?_
      change wpAnyH _ _ _ _ _ _ _ (Act.put _ (some 13) _) _
      simp only [Act.put, List.setIfInBounds_toArray, List.set_cons_zero, List.set_cons_succ]
      refine wpAnyH_take (i := 10) (v := undef) rfl (by kernel_rfl) (by kernel_rfl) (by kernel_rfl) (fun _ _ _ h => h) (Or.inr ⟨by rfl, rfl⟩) (by assumption) ?_
      change wpAnyH _ _ _ _ _ _ _ (Act.put _ (some 14) _) _
      simp only [Act.put, List.setIfInBounds_toArray, List.set_cons_zero, List.set_cons_succ]
      refine wpAnyH_take (i := 11) (v := undef) rfl (by kernel_rfl) (by kernel_rfl) (by kernel_rfl) (fun _ _ _ h => h) (Or.inr ⟨by rfl, rfl⟩) (by assumption) ?_
      change wpAnyH _ _ _ _ _ _ _ (Act.put _ (some 15) _) _
      simp only [Act.put, List.setIfInBounds_toArray, List.set_cons_zero, List.set_cons_succ]
      refine wpAnyH_take (i := 12) (v := undef) rfl (by kernel_rfl) (by kernel_rfl) (by kernel_rfl) (fun _ _ _ h => h) (Or.inr ⟨by rfl, rfl⟩) (by assumption) ?_
      change wpAnyH _ _ _ _ _ _ _ (Act.put _ (some 16) _) _
      simp only [Act.put, List.setIfInBounds_toArray, List.set_cons_zero, List.set_cons_succ]
      refine wpAnyH_take (i := 13) (v := undef) rfl (by kernel_rfl) (by kernel_rfl) (by kernel_rfl) (fun _ _ _ h => h) (Or.inr ⟨by rfl, rfl⟩) (by assumption) ?_
      change wpAnyH _ _ _ _ _ _ _ (Act.put _ (some 17) _) _
      simp only [Act.put, List.setIfInBounds_toArray, List.set_cons_zero, List.set_cons_succ]
      refine wpAnyH_take (i := 14) (v := undef) rfl (by kernel_rfl) (by kernel_rfl) (by kernel_rfl) (fun _ _ _ h => h) (Or.inr ⟨by rfl, rfl⟩) (by assumption) ?_
      change wpAnyH _ _ _ _ _ _ _ (Act.put _ (some 18) _) _
      simp only [Act.put, List.setIfInBounds_toArray, List.set_cons_zero, List.set_cons_succ]
      refine wpAnyH_take (i := 15) (v := undef) rfl (by kernel_rfl) (by kernel_rfl) (by kernel_rfl) (fun _ _ _ h => h) (Or.inr ⟨by rfl, rfl⟩) (by assumption) ?_
      change wpAnyH _ _ _ _ _ _ _ (Act.put _ (some 19) _) _
      simp only [Act.put, List.setIfInBounds_toArray, List.set_cons_zero, List.set_cons_succ]
      refine wpAnyH_take (i := 16) (v := undef) rfl (by kernel_rfl) (by kernel_rfl) (by kernel_rfl) (fun _ _ _ h => h) (Or.inr ⟨by rfl, rfl⟩) (by assumption) ?_
      change wpAnyH _ _ _ _ _ _ _ (Act.put _ (some 20) _) _
      simp only [Act.put, List.setIfInBounds_toArray, List.set_cons_zero, List.set_cons_succ]
      refine wpAnyH_take (i := 17) (v := ?v17n) rfl (by kernel_rfl) (by kernel_rfl) (by kernel_rfl) (fun _ _ _ h => h) (Or.inl ⟨by rfl, ?hy17n⟩) (by assumption) ?rest17n
      case hy17n => (intro zz hSw; (try dsimp only at hSw); go_simp; (try with_reducible rfl))
      change wpAnyH _ _ _ _ _ _ _ (Act.put _ (some 21) _) _
      simp only [Act.put, List.setIfInBounds_toArray, List.set_cons_zero, List.set_cons_succ]
      refine wpAnyH_done (by kernel_rfl) ?_ _
      have BX := Lib.hid hHeld; clear hHeld
      generalize wr.drew = w9 at BX ⊢
      go_wp2_with fail
      go_ret
      exact ⟨by rw [HE.out]; rfl, bel_tr HB.out BX.out (Nat.le_refl _)⟩
/-- The versions, one bin after the other. -/
def grps (l : List Cel) : List (List Cel) :=
  if h : l = [] then [] else l.take (grp l) :: grps (l.drop (grp l))
termination_by l.length
decreasing_by
  have := grp_pos h
  have : 0 < l.length := List.length_pos_iff.2 h
  rw [List.length_drop]; omega
theorem grps_nil : grps [] = [] := by rw [grps]; simp
theorem grps_cons {l : List Cel} (h : l ≠ []) : grps l = l.take (grp l) :: grps (l.drop (grp l)) := by rw [grps, dif_neg h]
/-- The slices that hold them. -/
def grpV (a : Option Addr) (cap : Nat) (l : List Cel) : List Value :=
  if h : l = [] then [] else .slice a (grp l) cap :: grpV (if cap = grp l then a else a.map (·.add (grp l * 5))) (cap - grp l) (l.drop (grp l))
termination_by l.length
decreasing_by
  have := grp_pos h
  have : 0 < l.length := List.length_pos_iff.2 h
  rw [List.length_drop]; omega
theorem grpV_nil (a : Option Addr) (cap : Nat) : grpV a cap [] = [] := by rw [grpV]; simp
theorem grpV_cons {a : Option Addr} {cap : Nat} {l : List Cel} (h : l ≠ []) : grpV a cap l = .slice a (grp l) cap :: grpV (if cap = grp l then a else a.map (·.add (grp l * 5))) (cap - grp l) (l.drop (grp l)) := by rw [grpV, dif_neg h]
theorem cells_ind {P : List Cel → Prop} (h0 : P []) (h1 : ∀ l, l ≠ [] → P (l.drop (grp l)) → P l) : ∀ (n : Nat) (l : List Cel), l.length ≤ n → P l
  | 0, l, h => by have e := List.length_eq_zero_iff.1 (Nat.le_zero.1 h); subst e; exact h0
  | n + 1, l, h => by
    by_cases e : l = []
    · subst e; exact h0
    · exact h1 l e (cells_ind h0 h1 n _ (by have := grp_pos e; have : 0 < l.length := List.length_pos_iff.2 e; rw [List.length_drop]; omega))
theorem grps_len (a : Option Addr) (cap : Nat) (l : List Cel) : (grpV a cap l).length = (grps l).length := by
  refine cells_ind (P := fun l => ∀ a cap, (grpV a cap l).length = (grps l).length) (fun a cap => by rw [grpV_nil, grps_nil]; rfl) (fun l h ih a cap => ?_) l.length l (Nat.le_refl _) a cap
  rw [grpV_cons h, grps_cons h, List.length_cons, List.length_cons, ih]
theorem grps_thin (k : Nat) (f : Int) (l : List Cel) : thinL k f l = (grps l).flatMap fun g => thinG g k f := by
  refine cells_ind (P := fun l => thinL k f l = (grps l).flatMap fun g => thinG g k f) (by rw [thinL_nil, grps_nil]; rfl) (fun l h ih => ?_) l.length l (Nat.le_refl _)
  rw [thinL_cons h, grps_cons h, List.flatMap_cons, ih]
theorem grps_flat (l : List Cel) : (grps l).flatMap id = l := by
  refine cells_ind (P := fun l => (grps l).flatMap id = l) (by rw [grps_nil]; rfl) (fun l h ih => ?_) l.length l (Nat.le_refl _)
  rw [grps_cons h, List.flatMap_cons, ih]; exact List.take_append_drop _ _
theorem Vw.moved {w w' : World} {a : Option Addr} {cap q0 : Nat} {l : List Cel} (h : Vw w a cap l) (hq : l ≠ [] → ∃ o, a = some ⟨q0, o, none⟩) (hb : l ≠ [] → w'.heap[q0]? = w.heap[q0]?) (hz : w.heap.size ≤ w'.heap.size) : Vw w' a cap l := by
  obtain ⟨h1, h2, h3, h4⟩ := h
  refine ⟨h1, h2, h3, fun k c hk => ?_⟩
  have hne : l ≠ [] := fun e => by rw [e] at hk; simp at hk
  obtain ⟨g, o, e, hg, hc⟩ := h4 k c hk
  obtain ⟨o', e'⟩ := hq hne
  have eg : g = q0 := by rw [e] at e'; injection e' with e'; injection e'
  exact ⟨g, o, e, Nat.lt_of_lt_of_le hg hz, hc.same (by rw [eg]; exact hb hne)⟩
theorem grpV_at {w : World} {a : Option Addr} {cap : Nat} {l : List Cel} (h : Vw w a cap l) : ∀ (i : Nat) (x : Value), (grpV a cap l)[i]? = some x → ∃ (b : Option Addr) (c : Nat) (g : List Cel), (grps l)[i]? = some g ∧ x = .slice b g.length c ∧ Vw w b c g ∧ g ≠ [] ∧ g.length ≤ l.length := by
  refine cells_ind (P := fun l => ∀ (a : Option Addr) (cap : Nat), Vw w a cap l → ∀ (i : Nat) (x : Value), (grpV a cap l)[i]? = some x → ∃ (b : Option Addr) (c : Nat) (g : List Cel), (grps l)[i]? = some g ∧ x = .slice b g.length c ∧ Vw w b c g ∧ g ≠ [] ∧ g.length ≤ l.length) (fun a cap h i x hx => by rw [grpV_nil] at hx; simp at hx) (fun l hl ih a cap h i x hx => ?_) l.length l (Nat.le_refl _) a cap h
  have hgl := grp_le l
  have hgp := grp_pos hl
  have hlt : (l.take (grp l)).length = grp l := by rw [List.length_take]; omega
  rw [grpV_cons hl] at hx
  rw [grps_cons hl]
  cases i with
  | zero =>
    simp at hx; subst hx
    exact ⟨a, cap, l.take (grp l), rfl, by rw [hlt], h.take hgl (by have := h.1; omega) (Nat.le_refl _) h.2.2.1, fun e => by rw [e] at hlt; simp at hlt; omega, by omega⟩
  | succ i =>
    obtain ⟨b, c, g, e1, e2, e3, e4, e5⟩ := ih _ _ (h.drop hgl) i x (by simpa using hx)
    rw [List.length_drop] at e5
    exact ⟨b, c, g, by simpa using e1, e2, e3, e4, by omega⟩
set_option maxRecDepth 100000 in
set_option maxHeartbeats 4000000 in
theorem versions1_hands (F : Nat → Prop) (B q0 : Nat) (a : Option Addr) (cap : Nat) (l : List Cel) (hlen : l.length ≤ 4194304) (w : World) (hB : B < w.heap.size) (hbox : w.cell? ⟨B, 0, none⟩ = some (.slice a l.length cap)) (hx : Vw w a cap l)
    (hq : l ≠ [] → ∃ o, a = some ⟨q0, o, none⟩) (hF : l ≠ [] → ¬ F q0) : Ra.Hands Tryz.prog 52 #[.pointer (some ⟨B, 0, none⟩)] F (grpV a cap l) w := by
  intro ll J Jx W hW hl0 hl hFk hJ hJx hY h0 n
  clear hFk
  have hc0 := (hW.cell (p := ⟨B, 0, none⟩) hB).trans hbox
  have HVX := Lib.hid (hx.below hW)
  have hq0 : l ≠ [] → q0 < w.heap.size := fun hne => by
    obtain ⟨c, r, e⟩ := List.exists_cons_of_ne_nil hne
    obtain ⟨g, o, e1, hg, -⟩ := hx.2.2.2 0 c (by rw [e]; rfl)
    obtain ⟨o', e2⟩ := hq hne
    rw [e1] at e2; cases e2; exact hg
  have HQ := Lib.hid hq; clear hq
  have HFQ := Lib.hid (show l ≠ [] → q0 < w.heap.size ∧ ¬ F q0 from fun h => ⟨hq0 h, hF h⟩); clear hq0 hF hx hbox
  have hws := hW.size
  clear hW
  have HY := Lib.hid hY; clear hY
  refine callsIn_of_wp Tryz.func52 rfl trivial ?_ rfl
  simp only [Tryz.ntmps52, List.size_toArray, List.length_cons, List.length_nil, Nat.reduceAdd, Nat.reduceSub, Array.replicate_succ, Array.replicate_zero, List.push_toArray, List.append_toArray, List.nil_append, List.cons_append]
  gi_wp2
  gi_loopw [3] (fun s3 wr => ∃ (pre : List Value) (x : Option Addr) (cx : Nat) (lr : List Cel) (gg : Option Nat), s3 = .slice x lr.length cx ∧ pre ++ grpV x cx lr = grpV a cap l ∧ lr.length ≤ l.length ∧ Vw W x cx lr ∧ (lr ≠ [] → ∃ o, x = some ⟨q0, o, none⟩) ∧ J (pre, gg) wr ∧ (∀ q, gg = some q → W.heap.size ≤ q) ∧ W.heap.size ≤ wr.heap.size ∧ (l ≠ [] → wr.heap[q0]? = W.heap[q0]?)) (fun s3 _ => slM s3)
  case atStart => exact ⟨[], a, cap, l, none, rfl, rfl, Nat.le_refl _, HVX.out, HQ.out, h0, (fun q e => by cases e), Nat.le_refl _, fun _ => rfl⟩
  case round =>
    obtain ⟨pre, x, cx, lr, gg, rfl, hpre, hlr, hvr, hxq, hJs, hgg, hsz, hnx⟩ := hrel
    have HR := Lib.hid hvr; clear hvr
    have HXQ := Lib.hid hxq; clear hxq
    have HGG := Lib.hid hgg; clear hgg
    cases lr with
    | nil =>
      rw [grpV_nil, List.append_nil] at hpre
      subst hpre
      have HJ := Lib.hid hJs; clear hJs hnx
      gi_wp2
      go_end0
      exact ⟨⟨_, rfl⟩, .inl ⟨gg, HJ.out⟩⟩
    | cons c r =>
      have hne : c :: r ≠ [] := by simp
      have hlne : l ≠ [] := fun e => by rw [e] at hlr; simp at hlr
      have HNX := Lib.hid (hnx hlne); clear hnx
      have hgp := grp_pos hne
      have hgl := grp_le (c :: r)
      have HVR := Lib.hid (HR.out.moved HXQ.out (fun _ => HNX.out) hsz)
      have HVC := Lib.hid (versionCount_any wr x cx c r (c :: r).length rfl HVR.out (by omega))
      rw [grpV_cons hne] at hpre
      have hp2 : (pre ++ [.slice x (grp (c :: r)) cx]) ++ grpV (if cx = grp (c :: r) then x else x.map (·.add (grp (c :: r) * 5))) (cx - grp (c :: r)) ((c :: r).drop (grp (c :: r))) = grpV a cap l := by rw [← hpre, List.append_assoc]; rfl
      have HP2 := Lib.hid hp2; clear hpre hp2
      have HCL := Lib.hid (show (c :: r).length = r.length + 1 by simp)
      have hld : ((c :: r).drop (grp (c :: r))).length = (c :: r).length - grp (c :: r) := by rw [List.length_drop]
      have HVD := Lib.hid (HR.out.drop hgl)
      have HXD := Lib.hid (show (c :: r).drop (grp (c :: r)) ≠ [] → ∃ o, (if cx = grp (c :: r) then x else x.map (·.add (grp (c :: r) * 5))) = some ⟨q0, o, none⟩ from fun _ => by
        obtain ⟨o, e⟩ := HXQ.out hne
        rw [e]
        split
        · exact ⟨_, rfl⟩
        · refine ⟨o + grp (c :: r) * 5, ?_⟩
          show some ((⟨q0, o, none⟩ : Addr).add (grp (c :: r) * 5)) = _
          have hadd : ∀ j, (⟨q0, o, none⟩ : Addr).add j = ⟨q0, o + j, none⟩ := fun j => by cases j <;> simp [Addr.add]
          rw [hadd])
      obtain ⟨hr1, -⟩ := cut_to x (c :: r).length cx (grp (c :: r)) hgl (by have := HR.out.1; omega) HR.out.2.2.1
      have hr3 : ∀ w, (Instr.slice 24 (.slice x (c :: r).length cx) (some (.int .i64 (grp (c :: r) : Int))) none none).run Tryz.prog w = .ok (.slice (if cx = grp (c :: r) then x else x.map (·.add (grp (c :: r) * 5))) ((c :: r).length - grp (c :: r)) (cx - grp (c :: r))) w := fun w => by
        have hu : Tryz.prog.underlying 24 = some (.slice (Tryz.prog.elem 24)) := by kernel_rfl
        have hs : ∀ w, (sizeOf (Tryz.prog.elem 24)).run Tryz.prog w = .ok 5 w := fun w => by
          rw [show Tryz.prog.elem 24 = 44 by kernel_rfl]; exact Tryz.sizeOf44 w
        rw [run_slice_l w 24 x (c :: r).length cx hu .i64 (grp (c :: r) : Int) (by omega) (by omega), hs]
        rfl
      generalize (if cx = grp (c :: r) then x else x.map (·.add (grp (c :: r) * 5))) = y at *
      generalize (c :: r).drop (grp (c :: r)) = dr at *
      generalize grp (c :: r) = GG at *
      generalize (c :: r).length = LL at *
      have z0 : (0 : Int) < (LL : Int) := by have := HCL.out; omega
      have HLD := Lib.hid hld; clear hld
      have hle := HR.out.1
      clear hne
      gi_wp2_with fail
      refine ⟨trivial, fun h => (by cases h), (callsIn_wide.2 HVC.out).mono ?_⟩
      rintro e w2 ⟨rfl, b2⟩
      have z2 := b2.size
      have J2 := Lib.hid (hJ _ wr w2 none hJs ⟨b2.os, b2.tape, b2.output, b2.size, fun q hq _ => b2.block q hq⟩ (fun r e => by cases e))
      have HN2 := Lib.hid (show w2.heap[q0]? = W.heap[q0]? from (b2.block q0 (by have := (HFQ.out hlne).1; omega)).trans HNX.out)
      obtain ⟨fn, tmps, assign, body, hy, hR⟩ := HY.out pre (.slice x GG cx) (by rw [← HP2.out]; exact List.prefix_append _ _) gg w2 (n - 1) J2.out
      clear b2 hJs
      gi_wp2_with fail
      refine ⟨fun h => (by cases h), hR.mono ?_⟩
      rintro e W3 (⟨rfl, g', hJ3, hn3, hk3⟩ | ⟨rfl, hJx3, -⟩)
      · have K3 := Lib.hid (And.intro hJ3 (And.intro hn3 hk3)); clear hJ3 hn3 hk3 hy hR
        gi_wp2_with fail
        go_roundw
        case rel =>
          obtain ⟨hJ3, hn3, hk3⟩ := K3.out
          refine ⟨pre ++ [.slice x GG cx], y, cx - GG, dr, g', by rw [HLD.out], HP2.out, by have := HLD.out; omega, HVD.out, HXD.out, hJ3, fun q hq => ?_, by have := hk3.size; omega, fun _ => ?_⟩
          · rcases hn3 with e | ⟨q', e, h', -⟩
            · exact HGG.out q (by rw [← e]; exact hq)
            · rw [e] at hq; cases hq; omega
          · have := (HFQ.out hlne).1
            exact (hk3.block q0 (by omega) (fun e => e.elim (HFQ.out hlne).2 (fun e => by omega)) (fun e => by have := HGG.out q0 e; omega)).trans HN2.out
        case measure => simp [slM]; omega
      · clear hy hR
        gi_wp2_with fail
        refine bodyPost_ret (results_none rfl _ _ _) rfl ?_
        exact ⟨⟨_, rfl⟩, .inr ⟨_, by rw [← HP2.out]; exact List.prefix_append _ _, hJx3⟩⟩
set_option maxHeartbeats 1000000 in
theorem versionsOf_any (F0 : Nat → Prop) (q0 : Nat) (a : Option Addr) (cap n : Nat) (l : List Cel) (hn : l.length = n) (hlen : n ≤ 4194304) (w : World) (hx : Vw w a cap l) (hq : l ≠ [] → ∃ o, a = some ⟨q0, o, none⟩) (hF : l ≠ [] → ¬ F0 q0) :
    Calls Tryz.prog 23 #[.slice a n cap] w (Ra.IterA F0 (grpV a cap l) w) := by
  have HB := Lib.hid (show Below w.heap.size w (w.alloc (.cells #[.slice a n cap] 24)) from (Below.refl _ w).alloc (Nat.le_refl _) _)
  have hp : (w.alloc (.cells #[.slice a n cap] 24)).heap[w.heap.size]? = some (.cells #[.slice a n cap] 24 (0, 0)) := World.alloc_heap_new w _
  have HW := Lib.hid (fun (F : Nat → Prop) (hFF : ∀ k, F k → F0 k ∨ (w.alloc (.cells #[.slice a n cap] 24)).heap.size ≤ k) => versions1_hands F w.heap.size q0 a cap l (by omega) (w.alloc (.cells #[.slice a n cap] 24)) (by simp) (by rw [hn]; simp only [World.cell?, hp]; rfl) (hx.below HB.out) hq
    (fun hne e => (hFF _ e).elim (hF hne) (fun e2 => by
      obtain ⟨c, r, hr⟩ := List.exists_cons_of_ne_nil hne
      obtain ⟨g, o, e1, hg, -⟩ := hx.2.2.2 0 c (by rw [hr]; rfl)
      obtain ⟨o', e3⟩ := hq hne
      rw [e1] at e3; cases e3
      simp at e2; omega)))
  clear hF hq hx hp
  go_enter Tryz.func23, Tryz.ntmps23
  go_wp2_with fail
  go_ret
  exact ⟨_, _, rfl, enters_of Tryz.func52 (by kernel_rfl) rfl, HW.out, HB.out⟩
/-- What Thinned gives. -/
def thP (l : List Cel) (k f : Int) : List Cel := if okL l && (decide (1 ≤ k) && (decide (k ≤ 9) && (decide (0 ≤ f) && decide (f ≤ 1000000)))) then thinL k.toNat f l else []
def thB (k f : Int) : Bool := decide (1 ≤ k) && (decide (k ≤ 9) && (decide (0 ≤ f) && decide (f ≤ 1000000)))
theorem thB_iff {k f : Int} : thB k f = true ↔ 1 ≤ k ∧ k ≤ 9 ∧ 0 ≤ f ∧ f ≤ 1000000 := by unfold thB; simp
theorem thP_no {l : List Cel} {k f : Int} (h : okL l = false) : thP l k f = [] := by unfold thP; rw [h]; rfl
theorem thP_bad {l : List Cel} {k f : Int} (h : ¬ (1 ≤ k ∧ k ≤ 9 ∧ 0 ≤ f ∧ f ≤ 1000000)) : thP l k f = [] := by
  have : thB k f = false := by
    cases e : thB k f with
    | false => rfl
    | true => exact absurd (thB_iff.1 e) h
  unfold thP; unfold thB at this; rw [this, Bool.and_false]; rfl
theorem thP_yes {l : List Cel} {k f : Int} (h : okL l = true) (h2 : 1 ≤ k ∧ k ≤ 9 ∧ 0 ≤ f ∧ f ≤ 1000000) : thP l k f = thinL k.toNat f l := by
  have := thB_iff.2 h2
  unfold thP; unfold thB at this; rw [h, this]; rfl
theorem thP_len (l : List Cel) (k f : Int) : (thP l k f).length ≤ l.length := by
  unfold thP; split
  · exact (thin_subl _ _ _).length_le
  · simp
def ThPost (l : List Cel) (k f : Int) (w : World) (e : Ending) (w' : World) : Prop := ∃ v, e = .returned v ∧ OwC w.heap.size w' v (thP l k f) ∧ Below w.heap.size w w'
end Go.Proofs.YtcloejmakjdgcaaGreat.Cl
namespace Go.Proofs.YtcloejmakjdgcaaGreat.Cl
open Go.RowKit Wd Rp Kp Ra Go.Shelf
attribute [local go_sem] Oper.semAt_some
set_option linter.unusedVariables false
theorem cells_of_owns {w : World} {B k n q : Nat} {e : TypeId} {v : Value} {xs : List Value} (h : w.ownsRow B e k v n xs) (hk : v.ownBlock = some q) : ∀ o, w.heap[q]? = some o → o.isCells = true := fun o ho => by
  obtain ⟨-, h2⟩ := h
  rcases h2 with ⟨rfl, -⟩ | ⟨g, cap, cur, rfl, -, hg, -⟩
  · cases hk
  · cases hk
    rw [hg] at ho; cases ho; rfl
/-- A variable in a block of its own. -/
def Bxd (q : Nat) (v : Value) (w : World) : Prop := w.cell? ⟨q, 0, none⟩ = some v ∧ w.frozen? ⟨q, 0, none⟩ = false ∧ q < w.heap.size
theorem Bxd.of {q T : Nat} {v : Value} {w : World} (e : w.heap[q]? = some (.cells #[v] T (0, 0))) : Bxd q v w := ⟨by simp only [World.cell?, e]; rfl, by simp only [World.frozen?, e]; rfl, (Array.getElem?_eq_some_iff.1 e).1⟩
theorem Bxd.same {q : Nat} {v : Value} {w w' : World} (h : Bxd q v w) (e : w'.heap[q]? = w.heap[q]?) : Bxd q v w' := by
  refine ⟨(World.cell?_of_block (w := w) e).trans h.1, ?_, ?_⟩
  · have := h.2.1; unfold World.frozen? at this ⊢; rw [e]; exact this
  · have h3 := h.2.2
    rcases Nat.lt_or_ge q w'.heap.size with h4 | h4
    · exact h4
    · rw [Array.getElem?_eq_none h4] at e; have := Array.getElem?_eq_none_iff.1 e.symm; omega
theorem Bxd.drew {q : Nat} {v : Value} {w : World} (h : Bxd q v w) : Bxd q v w.drew := h
theorem Bxd.set {q : Nat} {v : Value} {w : World} (h : Bxd q v w) (x : Value) : Bxd q x (w.setCell ⟨q, 0, none⟩ x) := ⟨World.cell?_setCell_same' _ _ _ (by rw [h.1]; rfl), by rw [World.frozen?_setCell]; exact h.2.1, by rw [World.size_setCell]; exact h.2.2⟩
theorem OwC.drew {B : Nat} {w : World} {v : Value} {l : List Cel} (h : OwC B w v l) : OwC B w.drew v l := h
theorem gcell {w w' : World} {row : Option Nat} {q : Nat} {v : Value} (h : w.grownBy w' row) (hp : q < w.heap.size) (hne : some q ≠ row) (hc : w.cell? ⟨q, 0, none⟩ = some v) : w'.cell? ⟨q, 0, none⟩ = some v := (World.cell?_of_block (w := w) (h.block _ hp hne)).trans hc
theorem cst2 {w : World} {p r : Nat} {v x : Value} (h : p ≠ r) (hc : w.cell? ⟨p, 0, none⟩ = some v) : (w.setCell ⟨r, 0, none⟩ x).cell? ⟨p, 0, none⟩ = some v := (World.cell?_setCell_other w ⟨r, 0, none⟩ ⟨p, 0, none⟩ x (fun e => h (by cases e; rfl))).trans hc
theorem step_append_new {ops : Array Oper} {o : Oper} {a : Act} {Q : Exit → Act → World → Prop} {K : Act → World → Prop} {w : World} (hw : Region.wanted o (yielded ops a.tmps) = true) (s x : Operand)
    (ho : o.op = .call { callee := .builtin .append, args := #[s, x], argTypes := #[24, 24] })
    {base : Nat} {v : Value} {ad : Option Addr} {cap n : Nat} {l m : List Cel} (hs : a.eval s = v) (hx : a.eval x = .slice ad n cap) (hmn : m.length = n) (hown : OwC base w v l) (hy : Vw w ad cap m) (hlen : l.length + m.length ≤ 10000000) (hbase : base ≤ w.heap.size)
    (h : ∀ v' w', OwC base w' v' (l ++ m) → w.grownBy w' v.ownBlock → (v'.ownBlock = v.ownBlock ∨ v'.ownBlock = some w.heap.size) → K (a.put o.dst v') w') :
    if Region.wanted o (yielded ops a.tmps) = true then Oper.wp Tryz.prog o a w K Q else K (a.put o.dst undef) w := by
  rw [if_pos hw]
  obtain ⟨v', w', hr, h2, h3, h4⟩ := run_append_cells o.type hown hy hlen hbase
  subst hmn
  unfold Oper.wp execOp
  simp only [ho, resolve, invoke, builtin, Sem.run_bind, Sem.run_pure, Result.andThen_ok, List.map_toArray, List.map_cons, List.map_nil, hs, hx, hr]
  exact h v' w' h2 h3 h4
theorem pre_grps {w : World} {a : Option Addr} {cap : Nat} {l : List Cel} (hv : Vw w a cap l) {pre : List Value} {x : Value} (h : (pre ++ [x]) <+: grpV a cap l) : ∃ (b : Option Addr) (c : Nat) (g : List Cel), (grps l)[pre.length]? = some g ∧ x = .slice b g.length c ∧ Vw w b c g ∧ g ≠ [] ∧ g.length ≤ l.length := by
  obtain ⟨r, hr⟩ := h
  exact grpV_at hv pre.length x (by rw [← hr]; simp)
theorem grps_snoc {l g : List Cel} {k : Nat} {K : Nat} {f : Int} (h : (grps l)[k]? = some g) : ((grps l).take k).flatMap (fun g => thinG g K f) ++ thinG g K f = ((grps l).take (k + 1)).flatMap fun g => thinG g K f := by
  rw [List.take_add_one, h, List.flatMap_append]; simp
theorem grps_part (l : List Cel) (k K : Nat) (f : Int) : (((grps l).take k).flatMap fun g => thinG g K f).length ≤ l.length := by
  have h1 : (((grps l).take k).flatMap fun g => thinG g K f).length ≤ ((grps l).flatMap fun g => thinG g K f).length := by
    conv => rhs; rw [← List.take_append_drop k (grps l)]
    rw [List.flatMap_append, List.length_append]; omega
  rw [← grps_thin] at h1
  exact Nat.le_trans h1 (thin_subl _ _ _).length_le
/-- While the versions are thinned. -/
def Thn (q n0 K : Nat) (f : Int) (l : List Cel) (w : World) (s : List Value × Option Nat) (W : World) : Prop :=
  n0 ≤ W.heap.size ∧ ∃ sv, Bxd (q + 1 + 1) sv W ∧ OwC (q + 3) W sv (((grps l).take s.1.length).flatMap fun g => thinG g K f) ∧ sv.ownBlock = s.2 ∧ Below q w W ∧ W.cell? ⟨q, 0, none⟩ = some (.int .i64 (K : Int)) ∧ W.cell? ⟨q + 1, 0, none⟩ = some (.int .i64 f)
theorem th_end {q n0 K L : Nat} {f : Int} {l : List Cel} {w W w6 : World} {pre : List Value} {x sv : Value} {gg : Option Nat} {o tg : List Cel} {v6a : Option Addr} {v6c : Nat} {a : Act} (hO : Bxd (q + 1 + 1) sv w6)
    (h6 : OwC (q + 3) w6 (.slice v6a L v6c) (o ++ tg) ∧ W.drew.grownBy w6 sv.ownBlock ∧ ((Value.slice v6a L v6c).ownBlock = sv.ownBlock ∨ (Value.slice v6a L v6c).ownBlock = some W.drew.heap.size)) (hb : Below q w W) (hg : sv.ownBlock = gg)
    (hsn : o ++ tg = ((grps l).take (pre.length + 1)).flatMap fun g => thinG g K f) (hs1 : n0 ≤ W.heap.size) (z3 : q + 3 ≤ n0) (hr : OwC (q + 3) W sv o)
    (hc : (w6.setCell ⟨q + 1 + 1, 0, none⟩ (.slice v6a L v6c)).cell? ⟨q, 0, none⟩ = some (.int .i64 (K : Int)) ∧ (w6.setCell ⟨q + 1 + 1, 0, none⟩ (.slice v6a L v6c)).cell? ⟨q + 1, 0, none⟩ = some (.int .i64 f)) :
    Rounds n0 (fun k => k = q + 1 + 1) (Thn q n0 K f l w) (fun _ _ _ => False) (pre ++ [x]) gg W .normal a (w6.setCell ⟨q + 1 + 1, 0, none⟩ (.slice v6a L v6c)) := by
  obtain ⟨r6, g6, n6⟩ := h6
  have k5 : Kept (fun k => k = q + 1 + 1) gg W.drew w6 := Kept.of_grown g6 fun k hk => Or.inr ⟨by rw [← hg]; exact hk, cells_of_owns hr hk⟩
  have K5 : Kept (fun k => k = q + 1 + 1) gg W w6 := ⟨k5.os, k5.tape, k5.output, k5.size, k5.block, k5.other⟩
  have K6 : Kept (fun k => k = q + 1 + 1) gg W (w6.setCell ⟨q + 1 + 1, 0, none⟩ (.slice v6a L v6c)) := K5.trans (Kept.set (F := fun k => k = q + 1 + 1) (p := ⟨q + 1 + 1, 0, none⟩) rfl _)
  have hzz : W.heap.size ≤ w6.heap.size := k5.size
  refine ⟨K6.keeps (fun k hk => by have : k = q + 1 + 1 := hk; omega), K6, (Value.slice v6a L v6c).ownBlock, ?_, ?_, _, hO.set _, ?_, rfl, ?_, hc.1, hc.2⟩
  · rw [World.size_setCell]
    rcases n6 with e | e
    · exact Or.inl (e.trans hg)
    · exact Or.inr ⟨W.drew.heap.size, e, Nat.le_refl _, (World.ownsRow.lt r6 _ e).2⟩
  · rw [World.size_setCell]; exact Nat.le_trans hs1 hzz
  · rw [show ((pre ++ [x], (Value.slice v6a L v6c).ownBlock) : List Value × Option Nat).1.length = pre.length + 1 by simp, ← hsn]
    exact row_next r6 fun g hgb _ => Below.heap_setCell _ _ _ _ (fun e => by have := OwC.lt r6 g hgb; have e' : g = q + 1 + 1 := e; omega)
  · exact (Below.trans hb (K5.below (show q ≤ W.heap.size by omega) (fun k hk => by have : k = q + 1 + 1 := hk; omega) (fun k hk => by have := OwC.lt hr k (hg.trans hk); omega))).setCell (p := ⟨q + 1 + 1, 0, none⟩) (by show q ≤ q + 1 + 1; omega) _
end Go.Proofs.YtcloejmakjdgcaaGreat.Cl
namespace Go.Proofs.YtcloejmakjdgcaaGreat.Cl
open Go.RowKit Wd Rp Kp
set_option linter.unusedVariables false
theorem thB_no {k f : Int} (h : thB k f = false) : ¬ (1 ≤ k ∧ k ≤ 9 ∧ 0 ≤ f ∧ f ≤ 1000000) := fun h2 => by rw [thB_iff.2 h2] at h; cases h
end Go.Proofs.YtcloejmakjdgcaaGreat.Cl
