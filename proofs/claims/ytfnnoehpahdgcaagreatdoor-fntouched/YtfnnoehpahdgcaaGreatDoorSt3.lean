/-
  Texts of mine, joined (part 3 of 11): what the law at hand reaches of them; each text's own words stand in the verifier's repo.
-/
import Derived.Test.YtfnnoehpahdgcaaGreatDoorSt2
import Derived.Test.YtfnnoehpahdgcaaGreatDoorRows
import Derived.WalkKit
import Derived.IntWalk
import Derived.Laws.Bits128
import Derived.Lib.Hide
import Derived.Lib.ParseIntBTie
import Derived.Lib.ParseIntBCases
import Derived.Lib.ItoaMem
import Derived.Lib.IndexMore
import Derived.Lib.Repeat
import Derived.WalkSpells
import Derived.Below
import Derived.Carry
import Derived.WalkSmall
import Derived.Laws.Closers25b
import Derived.Lib.Strings
import Derived.Lib.SmallJoins
import Derived.Lib.AppendIntMem
import Derived.Maps.AppendAt
import Derived.OwnWalk
import Derived.WalkLawsBesides
import Derived.Deep.QuietTactic
import Derived.BigQuiet
import Derived.Deep.RegionHeld3
import Derived.Laws.OwnMore
import Derived.Laws.StructEq
import Derived.BigFrame
import Derived.Deep.Upon
import Derived.Laws.CopyRow
import Derived.Laws.BytesArg
import Derived.RowKit3
import Derived.Shelf.Strconv.Itoa4
import Derived.Shelf.Strconv.ParseIntPublic10
import Derived.Shelf.Strconv.ErrVarParseInt
import Derived.Test.YtfnnoehpahdgcaaGreatDoorProg
import Derived.LaidMore
import Derived.Stop.LaidErr
import Derived.Lib.LaidTab
import Derived.RangeFuncWrites
import Derived.RangeFuncCalls
import Derived.RangeFuncBox
import Derived.RangeFuncNested
import Derived.RangeFuncLeaves
import Derived.Shelf.Abstract
import Derived.Shelf.RegionOpen
import Derived.OwnWalkIn
import Derived.TacticsInMore
import Derived.LoopNIn
import Derived.LoopIn
import Derived.Lib.Bytealg
import Derived.Deep.LoopGhost
import Derived.Lib.AtoiErrMem
import Derived.OpenShut
import Derived.Lib.ConvBytes
import Derived.Deep.RegionLaw
import Derived.Deep.AppendLies
import Derived.Lib.AppendZeros
import Derived.Defers
import Derived.Recover
import Derived.Lib.ItoaLen
import Derived.Sort.Walk0
import Derived.Lib.SlicesCompact
import Derived.ProofKit
import Derived.Handed
import Derived.SizedLaws
import Derived.ShutString
import Derived.Deep.Slices
import Derived.Deep.Fields
import Derived.ChangeSame
namespace Go.Proofs.YtfnnoehpahdgcaaGreatDoor.Cl
set_option linter.unusedVariables false
open Go.RowKit Wd Rp Kp
theorem m_name (s : ByteArray) (v : Int) (w : World) : (method 331 44 (.agg #[.string s, .int .i64 v]) "loop.example/g00526/impl.name").run Tryz.prog w = .ok (216, .agg #[.string s, .int .i64 v]) w := by kernel_rfl
theorem e_name (args : Array Value) (w : World) : (callFunc 216 args).run Tryz.prog w = .ok (.enter 216 args) w := by kernel_rfl
set_option maxRecDepth 100000 in
theorem nameB_any (s : ByteArray) (v : Int) (w : World) : Calls Tryz.prog 216 #[.agg #[.string s, .int .i64 v]] w fun e w' => e = .returned (.string s) ∧ Below w.heap.size w w' := by
  have HB := Lib.hid (bel1 w)
  go_enter Tryz.func216, Tryz.ntmps216
  go_wp2_with fail
  go_ret
  exact ⟨rfl, HB.out _⟩
set_option maxHeartbeats 4000000 in
set_option maxRecDepth 100000 in
theorem rises_any (w : World) (a : Option Addr) (cap : Nat) (l : List Bi) (n : Nat) (hn : l.length = n) (hv : VwI w a cap l) (hl : n ≤ 4194304) :
    Calls Tryz.prog 94 #[.slice a n cap] w fun e w' => e = .returned (.bool (risI l)) ∧ Below w.heap.size w w' := by
  have HV := Lib.hid hv; clear hv
  have HN := Lib.hid hn; clear hn
  go_enter Tryz.func94, Tryz.ntmps94
  go_wp2_with fail
  go_loopw [3] (fun i wr => ∃ k : Nat, i = .int .i64 ((k : Int) + 1) ∧ (k = 0 ∨ k + 1 ≤ n) ∧ (∀ (j : Nat) (c d : Bi), j < k → l[j]? = some c → l[j + 1]? = some d → Op.bytesLess c.n.toList d.n.toList = true) ∧ Below w.heap.size w wr) (fun i _ => n - intV i)
  case atStart => exact ⟨0, rfl, Or.inl rfl, (fun j c d hj => by omega), Below.refl _ _⟩
  case round =>
    obtain ⟨k, rfl, hk, hlo, hbel⟩ := hrel
    have HB := Lib.hid hbel; clear hbel
    have HLO := Lib.hid hlo; clear hlo
    by_cases hlt : k + 1 < n
    · obtain ⟨c, hc⟩ : ∃ c, l[k]? = some c := ⟨l[k]'(by have := HN.out; omega), List.getElem?_eq_getElem _⟩
      obtain ⟨d, hd⟩ : ∃ d, l[k + 1]? = some d := ⟨l[k + 1]'(by have := HN.out; omega), List.getElem?_eq_getElem _⟩
      obtain ⟨g, o, rfl, hg, h5⟩ := HV.out.2.2.2 k c hc
      obtain ⟨g2, o2, e2, -, h6⟩ := HV.out.2.2.2 (k + 1) d hd
      cases e2
      obtain ⟨c0, c1⟩ : At2 wr g (o + k * 2) c := h5.same (HB.out.block g hg)
      obtain ⟨d0, d1⟩ : At2 wr g (o + (k + 1) * 2) d := h6.same (HB.out.block g hg)
      have hg' : g < wr.heap.size := Nat.lt_of_lt_of_le hg HB.out.size
      have SOF := Lib.hid (show ∀ z, Below wr.heap.size wr z → (z.cell? ⟨g, o + k * 2, none⟩ = some (.string c.n) ∧ z.cell? ⟨g, o + k * 2 + 1, none⟩ = some (.int .i64 c.v) ∧ z.cell? ⟨g, o + (k + 1) * 2, none⟩ = some (.string d.n) ∧ z.cell? ⟨g, o + (k + 1) * 2 + 1, none⟩ = some (.int .i64 d.v) ∧ Below wr.heap.size wr z) from fun z hz => ⟨coc hz hg' c0, coc hz hg' c1, coc hz hg' d0, coc hz hg' d1,  hz⟩)
      have HCD := Lib.hid (And.intro hc hd); clear hc hd
      clear h5 h6 hg c0 c1 d0 d1
      have i1 : ((k : Int) + 1) < (n : Int) := by omega
      have i2 : (0 : Int) ≤ (k : Int) := by omega
      have i3 : (n : Int) ≤ 4194304 := by omega
      have i4 : (k : Int) < (n : Int) := by omega
      have i5 : (0 : Int) ≤ (k : Int) + 1 := by omega
      have i7 : IntKind.i64.wrap (k : Int) = (k : Int) := by rw [IntKind.wrap_i64]; omega
      cases hle : Op.bytesLess c.n.toList d.n.toList
      · have HE := Lib.hid (show risI l = false from by
          cases hr : risI l with
          | false => rfl
          | true => rw [(risI_iff l).1 hr k c d HCD.out.1 HCD.out.2] at hle; cases hle)
        go_wp2_with fail
        refine wp_region_held_drew (S := fun z => z.cell? ⟨g, o + k * 2, none⟩ = some (.string c.n) ∧ z.cell? ⟨g, o + k * 2 + 1, none⟩ = some (.int .i64 c.v) ∧ z.cell? ⟨g, o + (k + 1) * 2, none⟩ = some (.string d.n) ∧ z.cell? ⟨g, o + (k + 1) * 2 + 1, none⟩ = some (.int .i64 d.v) ∧ Below wr.heap.size wr z) (by kernel_rfl) (SOF.out _ (Below.refl _ _).drew) (fun hHeld => ?_)
        refine tkI (i := 0) (v := ?v0a) rfl (Or.inl ⟨by rfl, ?hy0a⟩) ?rest0a
        case hy0a => (intro zz hSw; (try dsimp only at hSw); go_simp; (try with_reducible rfl))
        change wpAnyH _ _ _ _ _ _ _ (Act.put _ (some 10) _) _
        simp only [Act.put, List.setIfInBounds_toArray, List.set_cons_zero, List.set_cons_succ]
        refine tkI (i := 1) (v := ?v1a) rfl (Or.inl ⟨by rfl, ?hy1a⟩) ?rest1a
        case hy1a => (intro zz hSw; (try dsimp only at hSw); go_simp; (try with_reducible rfl))
        change wpAnyH _ _ _ _ _ _ _ (Act.put _ (some 11) _) _
        simp only [Act.put, List.setIfInBounds_toArray, List.set_cons_zero, List.set_cons_succ]
        refine tkI (i := 2) (v := ?v2a) rfl (Or.inl ⟨by rfl, ?hy2a⟩) ?rest2a
        case hy2a => (intro zz hSw; (try dsimp only at hSw); go_simp; (try with_reducible rfl))
        change wpAnyH _ _ _ _ _ _ _ (Act.put _ (some 12) _) _
        simp only [Act.put, List.setIfInBounds_toArray, List.set_cons_zero, List.set_cons_succ]
        refine tkI (i := 3) (v := ?v3a) rfl (Or.inl ⟨by rfl, ?hy3a⟩) ?rest3a
        case hy3a => (intro zz hSw; (try dsimp only at hSw); go_simp; (try with_reducible rfl))
        change wpAnyH _ _ _ _ _ _ _ (Act.put _ (some 13) _) _
        simp only [Act.put, List.setIfInBounds_toArray, List.set_cons_zero, List.set_cons_succ]
        refine tkI (i := 4) (v := ?v4a) rfl (Or.inl ⟨by rfl, ?hy4a⟩) ?rest4a
        case hy4a => (intro zz hSw; (try dsimp only at hSw); go_simp; (try with_reducible rfl))
        change wpAnyH _ _ _ _ _ _ _ (Act.put _ (some 14) _) _
        simp only [Act.put, List.setIfInBounds_toArray, List.set_cons_zero, List.set_cons_succ]
        refine tkI (i := 5) (v := ?v5a) rfl (Or.inl ⟨by rfl, ?hy5a⟩) ?rest5a
        case hy5a => (intro zz hSw; (try dsimp only at hSw); go_simp; (try with_reducible rfl))
        change wpAnyH _ _ _ _ _ _ _ (Act.put _ (some 15) _) _
        simp only [Act.put, List.setIfInBounds_toArray, List.set_cons_zero, List.set_cons_succ]
        refine tkI (i := 7) (v := ?v7a) rfl (Or.inl ⟨by rfl, ?hy7a⟩) ?rest7a
        case hy7a => (intro zz hSw; (try dsimp only at hSw); go_simp; (try with_reducible rfl))
        change wpAnyH _ _ _ _ _ _ _ (Act.put _ (some 17) _) _
        simp only [Act.put, List.setIfInBounds_toArray, List.set_cons_zero, List.set_cons_succ]
        refine tkI (i := 8) (v := ?v8a) rfl (Or.inl ⟨by rfl, ?hy8a⟩) ?rest8a
        case hy8a => (intro zz hSw; (try dsimp only at hSw); go_simp; (try with_reducible rfl))
        change wpAnyH _ _ _ _ _ _ _ (Act.put _ (some 18) _) _
        simp only [Act.put, List.setIfInBounds_toArray, List.set_cons_zero, List.set_cons_succ]
        refine tkI (i := 9) (v := ?v9a) rfl (Or.inl ⟨by rfl, ?hy9a⟩) ?rest9a
        case hy9a => (intro zz hSw; (try dsimp only at hSw); go_simp; (try with_reducible rfl))
        change wpAnyH _ _ _ _ _ _ _ (Act.put _ (some 19) _) _
        simp only [Act.put, List.setIfInBounds_toArray, List.set_cons_zero, List.set_cons_succ]
        refine tkI (i := 10) (v := ?v10a) rfl (Or.inl ⟨by rfl, ?hy10a⟩) ?rest10a
        case hy10a => (intro zz hSw; (try dsimp only at hSw); go_simp; (try with_reducible rfl))
        change wpAnyH _ _ _ _ _ _ _ (Act.put _ (some 20) _) _
        simp only [Act.put, List.setIfInBounds_toArray, List.set_cons_zero, List.set_cons_succ]
        refine tkI (i := 11) (v := ?v11a) rfl (Or.inl ⟨by rfl, ?hy11a⟩) ?rest11a
        case hy11a => (intro zz hSw; (try dsimp only at hSw); go_simp; (try with_reducible rfl))
        change wpAnyH _ _ _ _ _ _ _ (Act.put _ (some 21) _) _
        simp only [Act.put, List.setIfInBounds_toArray, List.set_cons_zero, List.set_cons_succ]
        refine wpAnyH_ready (rs := [6]) (by kernel_rfl) (by simp) (AllReadyH.cons rfl (fun K hK => ?_) AllReadyH.nil)
        go_simp
        refine (nameB_any c.n c.v _).mono ?_; rintro e w' ⟨rfl, bel⟩
        refine hK.out _ _ (SOF.out _ (bel_tr hHeld.2.2.2.2 bel (Nat.le_refl _))) (fun hHeld => ?_)
        clear hK K bel
        refine wpAnyH_ready (rs := [12]) (by kernel_rfl) (by simp) (AllReadyH.cons rfl (fun K hK => ?_) AllReadyH.nil)
        go_simp
        refine (nameB_any d.n d.v _).mono ?_; rintro e w' ⟨rfl, bel⟩
        refine hK.out _ _ (SOF.out _ (bel_tr hHeld.2.2.2.2 bel (Nat.le_refl _))) (fun hHeld => ?_)
        clear hK K bel
        refine tkI (i := 13) (v := ?v13a) rfl (Or.inl ⟨by rfl, ?hy13a⟩) ?rest13a
        case hy13a => (intro zz hSw; (try dsimp only at hSw); go_simp; (try with_reducible rfl))
        change wpAnyH _ _ _ _ _ _ _ (Act.put _ (some 23) _) _
        simp only [Act.put, List.setIfInBounds_toArray, List.set_cons_zero, List.set_cons_succ]
        refine wpAnyH_done (by kernel_rfl) ?_ _
        have BX := Lib.hid hHeld.2.2.2.2; clear hHeld SOF
        go_wp2_with fail
        go_ret
        exact ⟨by rw [HE.out]; rfl, bel_tr HB.out BX.out (Nat.le_refl _)⟩
      · have HLO2 := Lib.hid (show ∀ (j : Nat) (c d : Bi), j < k + 1 → l[j]? = some c → l[j + 1]? = some d → Op.bytesLess c.n.toList d.n.toList = true from fun j x y hj hx hy => by
          by_cases e : j = k
          · subst e; rw [HCD.out.1] at hx; rw [HCD.out.2] at hy; cases hx; cases hy; exact hle
          · exact HLO.out j x y (by omega) hx hy)
        go_wp2_with fail
        refine wp_region_held_drew (S := fun z => z.cell? ⟨g, o + k * 2, none⟩ = some (.string c.n) ∧ z.cell? ⟨g, o + k * 2 + 1, none⟩ = some (.int .i64 c.v) ∧ z.cell? ⟨g, o + (k + 1) * 2, none⟩ = some (.string d.n) ∧ z.cell? ⟨g, o + (k + 1) * 2 + 1, none⟩ = some (.int .i64 d.v) ∧ Below wr.heap.size wr z) (by kernel_rfl) (SOF.out _ (Below.refl _ _).drew) (fun hHeld => ?_)
        refine tkI (i := 0) (v := ?v0b) rfl (Or.inl ⟨by rfl, ?hy0b⟩) ?rest0b
        case hy0b => (intro zz hSw; (try dsimp only at hSw); go_simp; (try with_reducible rfl))
        change wpAnyH _ _ _ _ _ _ _ (Act.put _ (some 10) _) _
        simp only [Act.put, List.setIfInBounds_toArray, List.set_cons_zero, List.set_cons_succ]
        refine tkI (i := 1) (v := ?v1b) rfl (Or.inl ⟨by rfl, ?hy1b⟩) ?rest1b
        case hy1b => (intro zz hSw; (try dsimp only at hSw); go_simp; (try with_reducible rfl))
        change wpAnyH _ _ _ _ _ _ _ (Act.put _ (some 11) _) _
        simp only [Act.put, List.setIfInBounds_toArray, List.set_cons_zero, List.set_cons_succ]
        refine tkI (i := 2) (v := ?v2b) rfl (Or.inl ⟨by rfl, ?hy2b⟩) ?rest2b
        case hy2b => (intro zz hSw; (try dsimp only at hSw); go_simp; (try with_reducible rfl))
        change wpAnyH _ _ _ _ _ _ _ (Act.put _ (some 12) _) _
        simp only [Act.put, List.setIfInBounds_toArray, List.set_cons_zero, List.set_cons_succ]
        refine tkI (i := 3) (v := ?v3b) rfl (Or.inl ⟨by rfl, ?hy3b⟩) ?rest3b
        case hy3b => (intro zz hSw; (try dsimp only at hSw); go_simp; (try with_reducible rfl))
        change wpAnyH _ _ _ _ _ _ _ (Act.put _ (some 13) _) _
        simp only [Act.put, List.setIfInBounds_toArray, List.set_cons_zero, List.set_cons_succ]
        refine tkI (i := 4) (v := ?v4b) rfl (Or.inl ⟨by rfl, ?hy4b⟩) ?rest4b
        case hy4b => (intro zz hSw; (try dsimp only at hSw); go_simp; (try with_reducible rfl))
        change wpAnyH _ _ _ _ _ _ _ (Act.put _ (some 14) _) _
        simp only [Act.put, List.setIfInBounds_toArray, List.set_cons_zero, List.set_cons_succ]
        refine tkI (i := 5) (v := ?v5b) rfl (Or.inl ⟨by rfl, ?hy5b⟩) ?rest5b
        case hy5b => (intro zz hSw; (try dsimp only at hSw); go_simp; (try with_reducible rfl))
        change wpAnyH _ _ _ _ _ _ _ (Act.put _ (some 15) _) _
        simp only [Act.put, List.setIfInBounds_toArray, List.set_cons_zero, List.set_cons_succ]
        refine tkI (i := 7) (v := ?v7b) rfl (Or.inl ⟨by rfl, ?hy7b⟩) ?rest7b
        case hy7b => (intro zz hSw; (try dsimp only at hSw); go_simp; (try with_reducible rfl))
        change wpAnyH _ _ _ _ _ _ _ (Act.put _ (some 17) _) _
        simp only [Act.put, List.setIfInBounds_toArray, List.set_cons_zero, List.set_cons_succ]
        refine tkI (i := 8) (v := ?v8b) rfl (Or.inl ⟨by rfl, ?hy8b⟩) ?rest8b
        case hy8b => (intro zz hSw; (try dsimp only at hSw); go_simp; (try with_reducible rfl))
        change wpAnyH _ _ _ _ _ _ _ (Act.put _ (some 18) _) _
        simp only [Act.put, List.setIfInBounds_toArray, List.set_cons_zero, List.set_cons_succ]
        refine tkI (i := 9) (v := ?v9b) rfl (Or.inl ⟨by rfl, ?hy9b⟩) ?rest9b
        case hy9b => (intro zz hSw; (try dsimp only at hSw); go_simp; (try with_reducible rfl))
        change wpAnyH _ _ _ _ _ _ _ (Act.put _ (some 19) _) _
        simp only [Act.put, List.setIfInBounds_toArray, List.set_cons_zero, List.set_cons_succ]
        refine tkI (i := 10) (v := ?v10b) rfl (Or.inl ⟨by rfl, ?hy10b⟩) ?rest10b
        case hy10b => (intro zz hSw; (try dsimp only at hSw); go_simp; (try with_reducible rfl))
        change wpAnyH _ _ _ _ _ _ _ (Act.put _ (some 20) _) _
        simp only [Act.put, List.setIfInBounds_toArray, List.set_cons_zero, List.set_cons_succ]
        refine tkI (i := 11) (v := ?v11b) rfl (Or.inl ⟨by rfl, ?hy11b⟩) ?rest11b
        case hy11b => (intro zz hSw; (try dsimp only at hSw); go_simp; (try with_reducible rfl))
        change wpAnyH _ _ _ _ _ _ _ (Act.put _ (some 21) _) _
        simp only [Act.put, List.setIfInBounds_toArray, List.set_cons_zero, List.set_cons_succ]
        refine wpAnyH_ready (rs := [6]) (by kernel_rfl) (by simp) (AllReadyH.cons rfl (fun K hK => ?_) AllReadyH.nil)
        go_simp
        refine (nameB_any c.n c.v _).mono ?_; rintro e w' ⟨rfl, bel⟩
        refine hK.out _ _ (SOF.out _ (bel_tr hHeld.2.2.2.2 bel (Nat.le_refl _))) (fun hHeld => ?_)
        clear hK K bel
        refine wpAnyH_ready (rs := [12]) (by kernel_rfl) (by simp) (AllReadyH.cons rfl (fun K hK => ?_) AllReadyH.nil)
        go_simp
        refine (nameB_any d.n d.v _).mono ?_; rintro e w' ⟨rfl, bel⟩
        refine hK.out _ _ (SOF.out _ (bel_tr hHeld.2.2.2.2 bel (Nat.le_refl _))) (fun hHeld => ?_)
        clear hK K bel
        refine tkI (i := 13) (v := ?v13b) rfl (Or.inl ⟨by rfl, ?hy13b⟩) ?rest13b
        case hy13b => (intro zz hSw; (try dsimp only at hSw); go_simp; (try with_reducible rfl))
        change wpAnyH _ _ _ _ _ _ _ (Act.put _ (some 23) _) _
        simp only [Act.put, List.setIfInBounds_toArray, List.set_cons_zero, List.set_cons_succ]
        refine wpAnyH_done (by kernel_rfl) ?_ _
        have BX := Lib.hid hHeld.2.2.2.2; clear hHeld SOF
        go_wp2_with fail
        go_roundw
        case rel => exact ⟨k + 1, by go_num, Or.inr (by omega), HLO2.out, bel_tr HB.out BX.out (Nat.le_refl _)⟩
        case measure => simp [intV]; omega
    · have HE := Lib.hid (show risI l = true from (risI_iff l).2 fun j c d hc hd => HLO.out j c d (by have := (List.getElem?_eq_some_iff.1 hd).1; have := HN.out; omega) hc hd)
      go_wp2_with fail
      go_ret
      exact ⟨by rw [HE.out]; rfl, HB.out⟩
set_option maxRecDepth 100000 in
theorem binOk_any (c : Bi) (w : World) : Calls Tryz.prog 95 #[.agg #[.string c.n, .int .i64 c.v]] w fun e w' => e = .returned (.bool c.ok) ∧ Below w.heap.size w w' := by
  have HB := Lib.hid (bel1 w)
  have HX := Lib.hid (Bn2.made c.n c.v w)
  cases h1 : nmB c.n.data.toList
  · have HK := Lib.hid (show c.ok = false by unfold Bi.ok; rw [h1]; rfl)
    have H1 := Lib.hid h1; clear h1
    go_enter Tryz.func95, Tryz.ntmps95
    go_wp2_with fail
    refine (implName_is H1.out _).mono ?_; rintro e w1 ⟨rfl, rfl⟩
    go_wp2_with fail
    go_ret
    exact ⟨by rw [HK.out]; rfl, HB.out _⟩
  · have HK := Lib.hid (show c.ok = isW c.v by unfold Bi.ok; rw [h1, Bool.true_and])
    have H1 := Lib.hid h1; clear h1
    go_enter Tryz.func95, Tryz.ntmps95
    go_wp2_with fail
    refine (implName_is H1.out _).mono ?_; rintro e w1 ⟨rfl, rfl⟩
    go_wp2_with fail
    refine (implWordOk_any _ _).mono ?_; rintro e w1 ⟨rfl, rfl⟩
    go_wp2_with fail
    go_ret
    exact ⟨by rw [HK.out]; rfl, HB.out _⟩
theorem binOk_is {c : Bi} {x : Bool} (h : c.ok = x) (w : World) : Calls Tryz.prog 95 #[.agg #[.string c.n, .int .i64 c.v]] w fun e w' => e = .returned (.bool x) ∧ Below w.heap.size w w' :=
  (binOk_any c w).mono fun _ _ ⟨he, hw⟩ => ⟨by rw [he, h], hw⟩
theorem rises_is {l : List Bi} {x : Bool} (h : risI l = x) (w : World) (a : Option Addr) (cap n : Nat) (hn : l.length = n) (hv : VwI w a cap l) (hl : n ≤ 4194304) :
    Calls Tryz.prog 94 #[.slice a n cap] w fun e w' => e = .returned (.bool x) ∧ Below w.heap.size w w' :=
  (rises_any w a cap l n hn hv hl).mono fun _ _ ⟨he, hw⟩ => ⟨by rw [he, h], hw⟩
set_option maxHeartbeats 4000000 in
set_option maxRecDepth 100000 in
theorem implBins_any (w : World) (a : Option Addr) (cap : Nat) (l : List Bi) (n : Nat) (hn : l.length = n) (hv : VwI w a cap l) (hl : n ≤ 4194304) :
    Calls Tryz.prog 76 #[.slice a n cap] w fun e w' => e = .returned (.bool (okI l)) ∧ Below w.heap.size w w' := by
  have HV := Lib.hid hv; clear hv
  have HN := Lib.hid hn; clear hn
  by_cases hlen : 12 < n
  · have HE := Lib.hid (okI_long (l := l) (by rw [HN.out]; exact hlen))
    have i1 : (12 : Int) < (n : Int) := by omega
    go_enter Tryz.func76, Tryz.ntmps76
    go_wp2_with fail
    go_ret
    exact ⟨by rw [HE.out]; rfl, Below.refl _ _⟩
  · have i1 : ¬ (12 : Int) < (n : Int) := by omega
    cases hr : risI l
    · have HE := Lib.hid (okI_ris hr)
      have HR := Lib.hid (rises_is hr w a cap n HN.out HV.out hl); clear hr
      go_enter Tryz.func76, Tryz.ntmps76
      go_wp2_with fail
      refine HR.out.mono ?_; rintro e w1 ⟨rfl, b1⟩
      have B1 := Lib.hid b1; clear b1
      go_wp2_with fail
      go_ret
      exact ⟨by rw [HE.out]; rfl, B1.out⟩
    · have HR := Lib.hid (rises_is hr w a cap n HN.out HV.out hl)
      have HRR := Lib.hid hr; clear hr
      go_enter Tryz.func76, Tryz.ntmps76
      go_wp2_with fail
      refine HR.out.mono ?_; rintro e w1 ⟨rfl, b1⟩
      have B1 := Lib.hid b1; clear b1
      go_wp2_with fail
      go_loopw [15] (fun i wr => ∃ k : Nat, k ≤ n ∧ i = .int .i64 k ∧ (∀ (j : Nat) (c : Bi), j < k → l[j]? = some c → c.ok = true) ∧ Below w.heap.size w wr) (fun i _ => n - intV i)
      case atStart => exact ⟨0, Nat.zero_le _, rfl, (fun j c hj => by omega), B1.out⟩
      case round =>
        obtain ⟨k, hk, rfl, hlo, hbel⟩ := hrel
        have HB := Lib.hid hbel; clear hbel
        have HLO := Lib.hid hlo; clear hlo
        by_cases hlt : k < n
        · obtain ⟨c, hc⟩ : ∃ c, l[k]? = some c := ⟨l[k]'(by have := HN.out; omega), List.getElem?_eq_getElem _⟩
          obtain ⟨g, o, rfl, hg, h5⟩ := HV.out.2.2.2 k c hc
          obtain ⟨c0, c1⟩ : At2 wr g (o + k * 2) c := h5.same (HB.out.block g hg)
          have HC := Lib.hid hc; clear hc h5 hg
          have HX := Lib.hid (Bn2.made c.n c.v wr 44)
          have HW := Lib.hid (bel1 wr (.cells #[.string c.n, .int .i64 c.v] 44))
          cases hco : c.ok
          · have HE := Lib.hid (okI_bad HC.out hco)
            have HCK := Lib.hid (binOk_is hco); clear hco
            go_wp2_with fail
            refine (HCK.out _).mono ?_; rintro e w2 ⟨rfl, b2⟩
            have B2 := Lib.hid (bel_tr HB.out (bel_tr HW.out b2 (Nat.le_refl _)) (Nat.le_refl _)); clear b2
            go_wp2_with fail
            go_ret
            exact ⟨by rw [HE.out]; rfl, B2.out⟩
          · have HLO2 := Lib.hid (show ∀ (j : Nat) (c : Bi), j < k + 1 → l[j]? = some c → c.ok = true from fun j d hj hd => by
              by_cases e : j = k
              · subst e; rw [HC.out] at hd; cases hd; exact hco
              · exact HLO.out j d (by omega) hd)
            have HCK := Lib.hid (binOk_is hco); clear hco
            go_wp2_with fail
            refine (HCK.out _).mono ?_; rintro e w2 ⟨rfl, b2⟩
            have B2 := Lib.hid (bel_tr HB.out (bel_tr HW.out b2 (Nat.le_refl _)) (Nat.le_refl _)); clear b2
            go_wp2_with fail
            go_roundw
            case rel => exact ⟨k + 1, by omega, by go_num, HLO2.out, B2.out⟩
            case measure => simp [intV]; omega
        · obtain rfl : k = n := by omega
          have HE := Lib.hid (show okI l = true from okI_iff.2 ⟨by rw [HN.out]; omega, asc_of_ris HRR.out, fun c hc => by
            obtain ⟨j, hj⟩ := List.mem_iff_getElem?.1 hc
            exact HLO.out j c (by have := (List.getElem?_eq_some_iff.1 hj).1; have := HN.out; omega) hj⟩)
          go_wp2_with fail
          go_ret
          exact ⟨by rw [HE.out]; rfl, HB.out⟩
theorem implBins_is {l : List Bi} {x : Bool} (h : okI l = x) (w : World) (a : Option Addr) (cap n : Nat) (hn : l.length = n) (hv : VwI w a cap l) (hl : n ≤ 4194304) :
    Calls Tryz.prog 76 #[.slice a n cap] w fun e w' => e = .returned (.bool x) ∧ Below w.heap.size w w' :=
  (implBins_any w a cap l n hn hv hl).mono fun _ _ ⟨he, hw⟩ => ⟨by rw [he, h], hw⟩
theorem lt_cases {x y : List UInt8} (h : Op.bytesLess x y = true) : Op.bytesLess y x = false ∧ (y == x) = false := by
  have h3 := bl_three x y
  constructor
  · cases h2 : Op.bytesLess y x with
    | false => rfl
    | true => have := bl_tr h h2; rw [bl_irr] at this; cases this
  · cases h2 : (y == x) with
    | false => rfl
    | true => rw [beq_iff_eq.1 h2, bl_irr] at h; cases h
theorem le_cases {x y : List UInt8} (h : Op.bytesLess x y = false) : Op.bytesLess y x = true ∨ (Op.bytesLess y x = false ∧ (y == x) = true) := by
  have h3 := bl_three x y
  rw [h, Bool.false_or] at h3
  cases h2 : Op.bytesLess y x with
  | true => exact Or.inl rfl
  | false =>
    right
    rw [h2] at h3
    have : (x == y) = true := by cases e : (x == y) with | true => rfl | false => rw [e] at h3; cases h3
    exact ⟨rfl, by rw [beq_iff_eq] at this ⊢; exact this.symm⟩
theorem bel_eq {w w' : World} (h : w = w') : Below w.heap.size w w' := by subst h; exact Below.refl _ _
def okJ (l : List Bi) (k : Nat) : Prop := ∀ (j : Nat) (c : Bi), j < k → l[j]? = some c → c.ok = true ∧ ∀ p, j ≠ 0 → l[j - 1]? = some p → Op.bytesLess p.n.toList c.n.toList = true
theorem okJ_succ {l : List Bi} {k : Nat} {c : Bi} (h : okJ l k) (hc : l[k]? = some c) (h1 : c.ok = true) (h2 : ∀ p, k ≠ 0 → l[k - 1]? = some p → Op.bytesLess p.n.toList c.n.toList = true) : okJ l (k + 1) := fun j d hj hd => by
  by_cases e : j = k
  · subst e; rw [hc] at hd; cases hd; exact ⟨h1, h2⟩
  · exact h j d (by omega) hd
theorem okJ_all {l : List Bi} {n : Nat} (hn : l.length = n) (h : okJ l n) : okI l = decide (n ≤ 12) := by
  have hr : risI l = true := (risI_iff l).2 fun j c d hc hd => by
    have hl := (List.getElem?_eq_some_iff.1 hd).1
    exact (h (j + 1) d (by omega) hd).2 c (by omega) (by simpa using hc)
  have ha : l.all Bi.ok = true := List.all_eq_true.2 fun c hc => by
    obtain ⟨j, hj⟩ := List.mem_iff_getElem?.1 hc
    exact (h j c (by have := (List.getElem?_eq_some_iff.1 hj).1; omega) hj).1
  unfold okI
  rw [hr, ha, hn, Bool.and_self, Bool.and_true]
set_option maxHeartbeats 4000000 in
set_option maxRecDepth 100000 in
theorem specBins2_any (w : World) (a : Option Addr) (cap : Nat) (l : List Bi) (n : Nat) (hn : l.length = n) (hv : VwI w a cap l) (hm : ∀ c ∈ l, c.n.size ≤ 9223372036854775806) (hl : n ≤ 4194304) :
    Calls Tryz.prog 20 #[.slice a n cap] w fun e w' => e = .returned (.bool (okI l)) ∧ Below w.heap.size w w' := by
  have HV := Lib.hid hv; clear hv
  have HN := Lib.hid hn; clear hn
  have HM := Lib.hid hm; clear hm
  go_enter Tryz.func20, Tryz.ntmps20
  go_wp2_with fail
  go_loopw [3] (fun i wr => ∃ k : Nat, k ≤ n ∧ i = .int .i64 k ∧ okJ l k ∧ Below w.heap.size w wr) (fun i _ => n - intV i)
  case atStart => exact ⟨0, Nat.zero_le _, rfl, (fun j c hj => by omega), Below.refl _ _⟩
  case round =>
    obtain ⟨k, hk, rfl, hlo, hbel⟩ := hrel
    have HB := Lib.hid hbel; clear hbel
    have HLO := Lib.hid hlo; clear hlo
    by_cases hlt : k < n
    · obtain ⟨c, hc⟩ : ∃ c, l[k]? = some c := ⟨l[k]'(by have := HN.out; omega), List.getElem?_eq_getElem _⟩
      obtain ⟨g, o, rfl, hg, h5⟩ := HV.out.2.2.2 k c hc
      obtain ⟨c0, c1⟩ : At2 wr g (o + k * 2) c := h5.same (HB.out.block g hg)
      have hg' : g < wr.heap.size := Nat.lt_of_lt_of_le hg HB.out.size
      have HMC := Lib.hid (HM.out c (List.mem_of_getElem? hc))
      have HC := Lib.hid hc; clear hc h5
      have i1 : (k : Int) < (n : Int) := by omega
      have i2 : (0 : Int) ≤ (k : Int) := by omega
      have i3 : (n : Int) ≤ 4194304 := by omega
      cases h1 : nmB c.n.data.toList
      · have HE := Lib.hid (okI_bad HC.out (by unfold Bi.ok; rw [h1]; rfl))
        have H1 := Lib.hid h1; clear h1
        have SOF := Lib.hid (show ∀ z, Below wr.heap.size wr z → (z.cell? ⟨g, o + k * 2, none⟩ = some (.string c.n) ∧ z.cell? ⟨g, o + k * 2 + 1, none⟩ = some (.int .i64 c.v) ∧ Below wr.heap.size wr z) from fun z hz => ⟨coc hz hg' c0, coc hz hg' c1,  hz⟩)
        clear c0 c1
        go_wp2_with fail
        refine wp_region_held_drew (S := fun z => z.cell? ⟨g, o + k * 2, none⟩ = some (.string c.n) ∧ z.cell? ⟨g, o + k * 2 + 1, none⟩ = some (.int .i64 c.v) ∧ Below wr.heap.size wr z) (by kernel_rfl) (SOF.out _ (Below.refl _ _).drew) (fun hHeld => ?_)
        refine tkI (i := 0) (v := ?v0c) rfl (Or.inl ⟨by rfl, ?hy0c⟩) ?rest0c
        case hy0c => (intro zz hSw; (try dsimp only at hSw); go_simp; (try with_reducible rfl))
        change wpAnyH _ _ _ _ _ _ _ (Act.put _ (some 10) _) _
        simp only [Act.put, List.setIfInBounds_toArray, List.set_cons_zero, List.set_cons_succ]
        refine tkI (i := 1) (v := ?v1c) rfl (Or.inl ⟨by rfl, ?hy1c⟩) ?rest1c
        case hy1c => (intro zz hSw; (try dsimp only at hSw); go_simp; (try with_reducible rfl))
        change wpAnyH _ _ _ _ _ _ _ (Act.put _ (some 11) _) _
        simp only [Act.put, List.setIfInBounds_toArray, List.set_cons_zero, List.set_cons_succ]
        refine tkI (i := 2) (v := ?v2c) rfl (Or.inl ⟨by rfl, ?hy2c⟩) ?rest2c
        case hy2c => (intro zz hSw; (try dsimp only at hSw); go_simp; (try with_reducible rfl))
        change wpAnyH _ _ _ _ _ _ _ (Act.put _ (some 12) _) _
        simp only [Act.put, List.setIfInBounds_toArray, List.set_cons_zero, List.set_cons_succ]
        refine tkI (i := 3) (v := ?v3c) rfl (Or.inl ⟨by rfl, ?hy3c⟩) ?rest3c
        case hy3c => (intro zz hSw; (try dsimp only at hSw); go_simp; (try with_reducible rfl))
        change wpAnyH _ _ _ _ _ _ _ (Act.put _ (some 13) _) _
        simp only [Act.put, List.setIfInBounds_toArray, List.set_cons_zero, List.set_cons_succ]
        refine tkI (i := 4) (v := ?v4c) rfl (Or.inl ⟨by rfl, ?hy4c⟩) ?rest4c
        case hy4c => (intro zz hSw; (try dsimp only at hSw); go_simp; (try with_reducible rfl))
        change wpAnyH _ _ _ _ _ _ _ (Act.put _ (some 14) _) _
        simp only [Act.put, List.setIfInBounds_toArray, List.set_cons_zero, List.set_cons_succ]
        refine wpAnyH_ready (rs := [5]) (by kernel_rfl) (by simp) (AllReadyH.cons rfl (fun K hK => ?_) AllReadyH.nil)
        go_simp
        refine (specName_is H1.out _ HMC.out).mono ?_; rintro e w' ⟨rfl, hww⟩
        have bel := bel_eq hww
        refine hK.out _ _ (SOF.out _ (bel_tr hHeld.2.2 bel (Nat.le_refl _))) (fun hHeld => ?_)
        clear hK K bel
        refine tkI (i := 6) (v := ?v6c) rfl (Or.inl ⟨by rfl, ?hy6c⟩) ?rest6c
        case hy6c => (intro zz hSw; (try dsimp only at hSw); go_simp; (try with_reducible rfl))
        change wpAnyH _ _ _ _ _ _ _ (Act.put _ (some 16) _) _
        simp only [Act.put, List.setIfInBounds_toArray, List.set_cons_zero, List.set_cons_succ]
        refine tkI (i := 7) (v := ?v7c) rfl (Or.inl ⟨by rfl, ?hy7c⟩) ?rest7c
        case hy7c => (intro zz hSw; (try dsimp only at hSw); go_simp; (try with_reducible rfl))
        change wpAnyH _ _ _ _ _ _ _ (Act.put _ (some 17) _) _
        simp only [Act.put, List.setIfInBounds_toArray, List.set_cons_zero, List.set_cons_succ]
        refine tkI (i := 8) (v := undef) rfl (Or.inr ⟨by rfl, rfl⟩) ?_
        change wpAnyH _ _ _ _ _ _ _ (Act.put _ (some 18) _) _
        simp only [Act.put, List.setIfInBounds_toArray, List.set_cons_zero, List.set_cons_succ]
        refine tkI (i := 9) (v := undef) rfl (Or.inr ⟨by rfl, rfl⟩) ?_
        change wpAnyH _ _ _ _ _ _ _ (Act.put _ (some 19) _) _
        simp only [Act.put, List.setIfInBounds_toArray, List.set_cons_zero, List.set_cons_succ]
        refine tkI (i := 10) (v := undef) rfl (Or.inr ⟨by rfl, rfl⟩) ?_
        change wpAnyH _ _ _ _ _ _ _ (Act.put _ (some 20) _) _
        simp only [Act.put, List.setIfInBounds_toArray, List.set_cons_zero, List.set_cons_succ]
        refine tkI (i := 11) (v := undef) rfl (Or.inr ⟨by rfl, rfl⟩) ?_
        change wpAnyH _ _ _ _ _ _ _ (Act.put _ (some 21) _) _
        simp only [Act.put, List.setIfInBounds_toArray, List.set_cons_zero, List.set_cons_succ]
        refine tkI (i := 12) (v := undef) rfl (Or.inr ⟨by rfl, rfl⟩) ?_
        change wpAnyH _ _ _ _ _ _ _ (Act.put _ (some 22) _) _
        simp only [Act.put, List.setIfInBounds_toArray, List.set_cons_zero, List.set_cons_succ]
        refine tkI (i := 13) (v := undef) rfl (Or.inr ⟨by rfl, rfl⟩) ?_
        change wpAnyH _ _ _ _ _ _ _ (Act.put _ (some 23) _) _
        simp only [Act.put, List.setIfInBounds_toArray, List.set_cons_zero, List.set_cons_succ]
        refine tkI (i := 14) (v := undef) rfl (Or.inr ⟨by rfl, rfl⟩) ?_
        change wpAnyH _ _ _ _ _ _ _ (Act.put _ (some 24) _) _
        simp only [Act.put, List.setIfInBounds_toArray, List.set_cons_zero, List.set_cons_succ]
        refine tkI (i := 15) (v := ?v15c) rfl (Or.inl ⟨by rfl, ?hy15c⟩) ?rest15c
        case hy15c => (intro zz hSw; (try dsimp only at hSw); go_simp; (try with_reducible rfl))
        change wpAnyH _ _ _ _ _ _ _ (Act.put _ (some 25) _) _
        simp only [Act.put, List.setIfInBounds_toArray, List.set_cons_zero, List.set_cons_succ]
        refine tkI (i := 16) (v := ?v16c) rfl (Or.inl ⟨by rfl, ?hy16c⟩) ?rest16c
        case hy16c => (intro zz hSw; (try dsimp only at hSw); go_simp; (try with_reducible rfl))
        change wpAnyH _ _ _ _ _ _ _ (Act.put _ (some 26) _) _
        simp only [Act.put, List.setIfInBounds_toArray, List.set_cons_zero, List.set_cons_succ]
        refine tkI (i := 17) (v := undef) rfl (Or.inr ⟨by rfl, rfl⟩) ?_
        change wpAnyH _ _ _ _ _ _ _ (Act.put _ (some 27) _) _
        simp only [Act.put, List.setIfInBounds_toArray, List.set_cons_zero, List.set_cons_succ]
        refine tkI (i := 18) (v := undef) rfl (Or.inr ⟨by rfl, rfl⟩) ?_
        change wpAnyH _ _ _ _ _ _ _ (Act.put _ (some 28) _) _
        simp only [Act.put, List.setIfInBounds_toArray, List.set_cons_zero, List.set_cons_succ]
        refine tkI (i := 19) (v := undef) rfl (Or.inr ⟨by rfl, rfl⟩) ?_
        change wpAnyH _ _ _ _ _ _ _ (Act.put _ (some 29) _) _
        simp only [Act.put, List.setIfInBounds_toArray, List.set_cons_zero, List.set_cons_succ]
        refine tkI (i := 20) (v := undef) rfl (Or.inr ⟨by rfl, rfl⟩) ?_
        change wpAnyH _ _ _ _ _ _ _ (Act.put _ (some 30) _) _
        simp only [Act.put, List.setIfInBounds_toArray, List.set_cons_zero, List.set_cons_succ]
        refine tkI (i := 21) (v := undef) rfl (Or.inr ⟨by rfl, rfl⟩) ?_
        change wpAnyH _ _ _ _ _ _ _ (Act.put _ (some 31) _) _
        simp only [Act.put, List.setIfInBounds_toArray, List.set_cons_zero, List.set_cons_succ]
        refine tkI (i := 22) (v := undef) rfl (Or.inr ⟨by rfl, rfl⟩) ?_
        change wpAnyH _ _ _ _ _ _ _ (Act.put _ (some 32) _) _
        simp only [Act.put, List.setIfInBounds_toArray, List.set_cons_zero, List.set_cons_succ]
        refine tkI (i := 23) (v := undef) rfl (Or.inr ⟨by rfl, rfl⟩) ?_
        change wpAnyH _ _ _ _ _ _ _ (Act.put _ (some 33) _) _
        simp only [Act.put, List.setIfInBounds_toArray, List.set_cons_zero, List.set_cons_succ]
        refine tkI (i := 24) (v := undef) rfl (Or.inr ⟨by rfl, rfl⟩) ?_
        change wpAnyH _ _ _ _ _ _ _ (Act.put _ (some 34) _) _
        simp only [Act.put, List.setIfInBounds_toArray, List.set_cons_zero, List.set_cons_succ]
        refine tkI (i := 25) (v := undef) rfl (Or.inr ⟨by rfl, rfl⟩) ?_
        change wpAnyH _ _ _ _ _ _ _ (Act.put _ (some 35) _) _
        simp only [Act.put, List.setIfInBounds_toArray, List.set_cons_zero, List.set_cons_succ]
        refine tkI (i := 26) (v := undef) rfl (Or.inr ⟨by rfl, rfl⟩) ?_
        change wpAnyH _ _ _ _ _ _ _ (Act.put _ (some 36) _) _
        simp only [Act.put, List.setIfInBounds_toArray, List.set_cons_zero, List.set_cons_succ]
        refine tkI (i := 27) (v := undef) rfl (Or.inr ⟨by rfl, rfl⟩) ?_
        change wpAnyH _ _ _ _ _ _ _ (Act.put _ (some 37) _) _
        simp only [Act.put, List.setIfInBounds_toArray, List.set_cons_zero, List.set_cons_succ]
        refine tkI (i := 28) (v := undef) rfl (Or.inr ⟨by rfl, rfl⟩) ?_
        change wpAnyH _ _ _ _ _ _ _ (Act.put _ (some 38) _) _
        simp only [Act.put, List.setIfInBounds_toArray, List.set_cons_zero, List.set_cons_succ]
        refine tkI (i := 29) (v := undef) rfl (Or.inr ⟨by rfl, rfl⟩) ?_
        change wpAnyH _ _ _ _ _ _ _ (Act.put _ (some 39) _) _
        simp only [Act.put, List.setIfInBounds_toArray, List.set_cons_zero, List.set_cons_succ]
        refine tkI (i := 30) (v := undef) rfl (Or.inr ⟨by rfl, rfl⟩) ?_
        change wpAnyH _ _ _ _ _ _ _ (Act.put _ (some 40) _) _
        simp only [Act.put, List.setIfInBounds_toArray, List.set_cons_zero, List.set_cons_succ]
        refine tkI (i := 31) (v := undef) rfl (Or.inr ⟨by rfl, rfl⟩) ?_
        change wpAnyH _ _ _ _ _ _ _ (Act.put _ (some 41) _) _
        simp only [Act.put, List.setIfInBounds_toArray, List.set_cons_zero, List.set_cons_succ]
        refine tkI (i := 32) (v := undef) rfl (Or.inr ⟨by rfl, rfl⟩) ?_
        change wpAnyH _ _ _ _ _ _ _ (Act.put _ (some 42) _) _
        simp only [Act.put, List.setIfInBounds_toArray, List.set_cons_zero, List.set_cons_succ]
        refine tkI (i := 33) (v := ?v33c) rfl (Or.inl ⟨by rfl, ?hy33c⟩) ?rest33c
        case hy33c => (intro zz hSw; (try dsimp only at hSw); go_simp; (try with_reducible rfl))
        change wpAnyH _ _ _ _ _ _ _ (Act.put _ (some 43) _) _
        simp only [Act.put, List.setIfInBounds_toArray, List.set_cons_zero, List.set_cons_succ]
        refine wpAnyH_done (by kernel_rfl) ?_ _
        have BX := Lib.hid hHeld.2.2; clear hHeld SOF
        go_wp2_with fail
        go_ret
        exact ⟨by rw [HE.out]; rfl, bel_tr HB.out BX.out (Nat.le_refl _)⟩
      · cases h2 : isW c.v
        · have HE := Lib.hid (okI_bad HC.out (by unfold Bi.ok; rw [h1, h2]; rfl))
          have H1 := Lib.hid h1; clear h1
          have H2 := Lib.hid h2; clear h2
          have SOF := Lib.hid (show ∀ z, Below wr.heap.size wr z → (z.cell? ⟨g, o + k * 2, none⟩ = some (.string c.n) ∧ z.cell? ⟨g, o + k * 2 + 1, none⟩ = some (.int .i64 c.v) ∧ Below wr.heap.size wr z) from fun z hz => ⟨coc hz hg' c0, coc hz hg' c1,  hz⟩)
          clear c0 c1
          go_wp2_with fail
          refine wp_region_held_drew (S := fun z => z.cell? ⟨g, o + k * 2, none⟩ = some (.string c.n) ∧ z.cell? ⟨g, o + k * 2 + 1, none⟩ = some (.int .i64 c.v) ∧ Below wr.heap.size wr z) (by kernel_rfl) (SOF.out _ (Below.refl _ _).drew) (fun hHeld => ?_)
          refine tkI (i := 0) (v := ?v0d) rfl (Or.inl ⟨by rfl, ?hy0d⟩) ?rest0d
          case hy0d => (intro zz hSw; (try dsimp only at hSw); go_simp; (try with_reducible rfl))
          change wpAnyH _ _ _ _ _ _ _ (Act.put _ (some 10) _) _
          simp only [Act.put, List.setIfInBounds_toArray, List.set_cons_zero, List.set_cons_succ]
          refine tkI (i := 1) (v := ?v1d) rfl (Or.inl ⟨by rfl, ?hy1d⟩) ?rest1d
          case hy1d => (intro zz hSw; (try dsimp only at hSw); go_simp; (try with_reducible rfl))
          change wpAnyH _ _ _ _ _ _ _ (Act.put _ (some 11) _) _
          simp only [Act.put, List.setIfInBounds_toArray, List.set_cons_zero, List.set_cons_succ]
          refine tkI (i := 2) (v := ?v2d) rfl (Or.inl ⟨by rfl, ?hy2d⟩) ?rest2d
          case hy2d => (intro zz hSw; (try dsimp only at hSw); go_simp; (try with_reducible rfl))
          change wpAnyH _ _ _ _ _ _ _ (Act.put _ (some 12) _) _
          simp only [Act.put, List.setIfInBounds_toArray, List.set_cons_zero, List.set_cons_succ]
          refine tkI (i := 3) (v := ?v3d) rfl (Or.inl ⟨by rfl, ?hy3d⟩) ?rest3d
          case hy3d => (intro zz hSw; (try dsimp only at hSw); go_simp; (try with_reducible rfl))
          change wpAnyH _ _ _ _ _ _ _ (Act.put _ (some 13) _) _
          simp only [Act.put, List.setIfInBounds_toArray, List.set_cons_zero, List.set_cons_succ]
          refine tkI (i := 4) (v := ?v4d) rfl (Or.inl ⟨by rfl, ?hy4d⟩) ?rest4d
          case hy4d => (intro zz hSw; (try dsimp only at hSw); go_simp; (try with_reducible rfl))
          change wpAnyH _ _ _ _ _ _ _ (Act.put _ (some 14) _) _
          simp only [Act.put, List.setIfInBounds_toArray, List.set_cons_zero, List.set_cons_succ]
          refine wpAnyH_ready (rs := [5]) (by kernel_rfl) (by simp) (AllReadyH.cons rfl (fun K hK => ?_) AllReadyH.nil)
          go_simp
          refine (specName_is H1.out _ HMC.out).mono ?_; rintro e w' ⟨rfl, hww⟩
          have bel := bel_eq hww
          refine hK.out _ _ (SOF.out _ (bel_tr hHeld.2.2 bel (Nat.le_refl _))) (fun hHeld => ?_)
          clear hK K bel
          refine tkI (i := 6) (v := ?v6d) rfl (Or.inl ⟨by rfl, ?hy6d⟩) ?rest6d
          case hy6d => (intro zz hSw; (try dsimp only at hSw); go_simp; (try with_reducible rfl))
          change wpAnyH _ _ _ _ _ _ _ (Act.put _ (some 16) _) _
          simp only [Act.put, List.setIfInBounds_toArray, List.set_cons_zero, List.set_cons_succ]
          refine tkI (i := 7) (v := ?v7d) rfl (Or.inl ⟨by rfl, ?hy7d⟩) ?rest7d
          case hy7d => (intro zz hSw; (try dsimp only at hSw); go_simp; (try with_reducible rfl))
          change wpAnyH _ _ _ _ _ _ _ (Act.put _ (some 17) _) _
          simp only [Act.put, List.setIfInBounds_toArray, List.set_cons_zero, List.set_cons_succ]
          refine tkI (i := 8) (v := ?v8d) rfl (Or.inl ⟨by rfl, ?hy8d⟩) ?rest8d
          case hy8d => (intro zz hSw; (try dsimp only at hSw); go_simp; (try with_reducible rfl))
          change wpAnyH _ _ _ _ _ _ _ (Act.put _ (some 18) _) _
          simp only [Act.put, List.setIfInBounds_toArray, List.set_cons_zero, List.set_cons_succ]
          refine tkI (i := 9) (v := ?v9d) rfl (Or.inl ⟨by rfl, ?hy9d⟩) ?rest9d
          case hy9d => (intro zz hSw; (try dsimp only at hSw); go_simp; (try with_reducible rfl))
          change wpAnyH _ _ _ _ _ _ _ (Act.put _ (some 19) _) _
          simp only [Act.put, List.setIfInBounds_toArray, List.set_cons_zero, List.set_cons_succ]
          refine tkI (i := 10) (v := ?v10d) rfl (Or.inl ⟨by rfl, ?hy10d⟩) ?rest10d
          case hy10d => (intro zz hSw; (try dsimp only at hSw); go_simp; (try with_reducible rfl))
          change wpAnyH _ _ _ _ _ _ _ (Act.put _ (some 20) _) _
          simp only [Act.put, List.setIfInBounds_toArray, List.set_cons_zero, List.set_cons_succ]
          refine tkI (i := 11) (v := ?v11d) rfl (Or.inl ⟨by rfl, ?hy11d⟩) ?rest11d
          case hy11d => (intro zz hSw; (try dsimp only at hSw); go_simp; (try with_reducible rfl))
          change wpAnyH _ _ _ _ _ _ _ (Act.put _ (some 21) _) _
          simp only [Act.put, List.setIfInBounds_toArray, List.set_cons_zero, List.set_cons_succ]
          refine tkI (i := 12) (v := ?v12d) rfl (Or.inl ⟨by rfl, ?hy12d⟩) ?rest12d
          case hy12d => (intro zz hSw; (try dsimp only at hSw); go_simp; (try with_reducible rfl))
          change wpAnyH _ _ _ _ _ _ _ (Act.put _ (some 22) _) _
          simp only [Act.put, List.setIfInBounds_toArray, List.set_cons_zero, List.set_cons_succ]
          refine wpAnyH_ready (rs := [13]) (by kernel_rfl) (by simp) (AllReadyH.cons rfl (fun K hK => ?_) AllReadyH.nil)
          go_simp
          refine (word_is H2.out _).mono ?_; rintro e w' ⟨rfl, hww⟩
          have bel := bel_eq hww
          refine hK.out _ _ (SOF.out _ (bel_tr hHeld.2.2 bel (Nat.le_refl _))) (fun hHeld => ?_)
          clear hK K bel
          refine tkI (i := 14) (v := ?v14d) rfl (Or.inl ⟨by rfl, ?hy14d⟩) ?rest14d
          case hy14d => (intro zz hSw; (try dsimp only at hSw); go_simp; (try with_reducible rfl))
          change wpAnyH _ _ _ _ _ _ _ (Act.put _ (some 24) _) _
          simp only [Act.put, List.setIfInBounds_toArray, List.set_cons_zero, List.set_cons_succ]
          refine tkI (i := 15) (v := ?v15d) rfl (Or.inl ⟨by rfl, ?hy15d⟩) ?rest15d
          case hy15d => (intro zz hSw; (try dsimp only at hSw); go_simp; (try with_reducible rfl))
          change wpAnyH _ _ _ _ _ _ _ (Act.put _ (some 25) _) _
          simp only [Act.put, List.setIfInBounds_toArray, List.set_cons_zero, List.set_cons_succ]
          refine tkI (i := 16) (v := ?v16d) rfl (Or.inl ⟨by rfl, ?hy16d⟩) ?rest16d
          case hy16d => (intro zz hSw; (try dsimp only at hSw); go_simp; (try with_reducible rfl))
          change wpAnyH _ _ _ _ _ _ _ (Act.put _ (some 26) _) _
          simp only [Act.put, List.setIfInBounds_toArray, List.set_cons_zero, List.set_cons_succ]
          refine tkI (i := 17) (v := undef) rfl (Or.inr ⟨by rfl, rfl⟩) ?_
          change wpAnyH _ _ _ _ _ _ _ (Act.put _ (some 27) _) _
          simp only [Act.put, List.setIfInBounds_toArray, List.set_cons_zero, List.set_cons_succ]
          refine tkI (i := 18) (v := undef) rfl (Or.inr ⟨by rfl, rfl⟩) ?_
          change wpAnyH _ _ _ _ _ _ _ (Act.put _ (some 28) _) _
          simp only [Act.put, List.setIfInBounds_toArray, List.set_cons_zero, List.set_cons_succ]
          refine tkI (i := 19) (v := undef) rfl (Or.inr ⟨by rfl, rfl⟩) ?_
          change wpAnyH _ _ _ _ _ _ _ (Act.put _ (some 29) _) _
          simp only [Act.put, List.setIfInBounds_toArray, List.set_cons_zero, List.set_cons_succ]
          refine tkI (i := 20) (v := undef) rfl (Or.inr ⟨by rfl, rfl⟩) ?_
          change wpAnyH _ _ _ _ _ _ _ (Act.put _ (some 30) _) _
          simp only [Act.put, List.setIfInBounds_toArray, List.set_cons_zero, List.set_cons_succ]
          refine tkI (i := 21) (v := undef) rfl (Or.inr ⟨by rfl, rfl⟩) ?_
          change wpAnyH _ _ _ _ _ _ _ (Act.put _ (some 31) _) _
          simp only [Act.put, List.setIfInBounds_toArray, List.set_cons_zero, List.set_cons_succ]
          refine tkI (i := 22) (v := undef) rfl (Or.inr ⟨by rfl, rfl⟩) ?_
          change wpAnyH _ _ _ _ _ _ _ (Act.put _ (some 32) _) _
          simp only [Act.put, List.setIfInBounds_toArray, List.set_cons_zero, List.set_cons_succ]
          refine tkI (i := 23) (v := undef) rfl (Or.inr ⟨by rfl, rfl⟩) ?_
          change wpAnyH _ _ _ _ _ _ _ (Act.put _ (some 33) _) _
          simp only [Act.put, List.setIfInBounds_toArray, List.set_cons_zero, List.set_cons_succ]
          refine tkI (i := 24) (v := undef) rfl (Or.inr ⟨by rfl, rfl⟩) ?_
          change wpAnyH _ _ _ _ _ _ _ (Act.put _ (some 34) _) _
          simp only [Act.put, List.setIfInBounds_toArray, List.set_cons_zero, List.set_cons_succ]
          refine tkI (i := 25) (v := undef) rfl (Or.inr ⟨by rfl, rfl⟩) ?_
          change wpAnyH _ _ _ _ _ _ _ (Act.put _ (some 35) _) _
          simp only [Act.put, List.setIfInBounds_toArray, List.set_cons_zero, List.set_cons_succ]
          refine tkI (i := 26) (v := undef) rfl (Or.inr ⟨by rfl, rfl⟩) ?_
          change wpAnyH _ _ _ _ _ _ _ (Act.put _ (some 36) _) _
          simp only [Act.put, List.setIfInBounds_toArray, List.set_cons_zero, List.set_cons_succ]
          refine tkI (i := 27) (v := undef) rfl (Or.inr ⟨by rfl, rfl⟩) ?_
          change wpAnyH _ _ _ _ _ _ _ (Act.put _ (some 37) _) _
          simp only [Act.put, List.setIfInBounds_toArray, List.set_cons_zero, List.set_cons_succ]
          refine tkI (i := 28) (v := undef) rfl (Or.inr ⟨by rfl, rfl⟩) ?_
          change wpAnyH _ _ _ _ _ _ _ (Act.put _ (some 38) _) _
          simp only [Act.put, List.setIfInBounds_toArray, List.set_cons_zero, List.set_cons_succ]
          refine tkI (i := 29) (v := undef) rfl (Or.inr ⟨by rfl, rfl⟩) ?_
          change wpAnyH _ _ _ _ _ _ _ (Act.put _ (some 39) _) _
          simp only [Act.put, List.setIfInBounds_toArray, List.set_cons_zero, List.set_cons_succ]
          refine tkI (i := 30) (v := undef) rfl (Or.inr ⟨by rfl, rfl⟩) ?_
          change wpAnyH _ _ _ _ _ _ _ (Act.put _ (some 40) _) _
          simp only [Act.put, List.setIfInBounds_toArray, List.set_cons_zero, List.set_cons_succ]
          refine tkI (i := 31) (v := undef) rfl (Or.inr ⟨by rfl, rfl⟩) ?_
          change wpAnyH _ _ _ _ _ _ _ (Act.put _ (some 41) _) _
          simp only [Act.put, List.setIfInBounds_toArray, List.set_cons_zero, List.set_cons_succ]
          refine tkI (i := 32) (v := undef) rfl (Or.inr ⟨by rfl, rfl⟩) ?_
          change wpAnyH _ _ _ _ _ _ _ (Act.put _ (some 42) _) _
          simp only [Act.put, List.setIfInBounds_toArray, List.set_cons_zero, List.set_cons_succ]
          refine tkI (i := 33) (v := ?v33d) rfl (Or.inl ⟨by rfl, ?hy33d⟩) ?rest33d
          case hy33d => (intro zz hSw; (try dsimp only at hSw); go_simp; (try with_reducible rfl))
          change wpAnyH _ _ _ _ _ _ _ (Act.put _ (some 43) _) _
          simp only [Act.put, List.setIfInBounds_toArray, List.set_cons_zero, List.set_cons_succ]
          refine wpAnyH_done (by kernel_rfl) ?_ _
          have BX := Lib.hid hHeld.2.2; clear hHeld SOF
          go_wp2_with fail
          go_ret
          exact ⟨by rw [HE.out]; rfl, bel_tr HB.out BX.out (Nat.le_refl _)⟩
        · have HOK := Lib.hid (show c.ok = true by unfold Bi.ok; rw [h1, h2]; rfl)
          have H1 := Lib.hid h1; clear h1
          have H2 := Lib.hid h2; clear h2
          cases k with
          | zero =>
            have HL2 := Lib.hid (okJ_succ HLO.out HC.out HOK.out (fun p h => absurd rfl h))
            rw [Nat.zero_mul, Nat.add_zero] at c0 c1
            have SOF := Lib.hid (show ∀ z, Below wr.heap.size wr z → (z.cell? ⟨g, o, none⟩ = some (.string c.n) ∧ z.cell? ⟨g, o + 1, none⟩ = some (.int .i64 c.v) ∧ Below wr.heap.size wr z) from fun z hz => ⟨coc hz hg' c0, coc hz hg' c1,  hz⟩)
            clear c0 c1
            go_wp2_with fail
            refine wp_region_held_drew (S := fun z => z.cell? ⟨g, o, none⟩ = some (.string c.n) ∧ z.cell? ⟨g, o + 1, none⟩ = some (.int .i64 c.v) ∧ Below wr.heap.size wr z) (by kernel_rfl) (SOF.out _ (Below.refl _ _).drew) (fun hHeld => ?_)
            refine tkI (i := 0) (v := ?v0e) rfl (Or.inl ⟨by rfl, ?hy0e⟩) ?rest0e
            case hy0e => (intro zz hSw; (try dsimp only at hSw); go_simp; (try with_reducible rfl))
            change wpAnyH _ _ _ _ _ _ _ (Act.put _ (some 10) _) _
            simp only [Act.put, List.setIfInBounds_toArray, List.set_cons_zero, List.set_cons_succ]
            refine tkI (i := 1) (v := ?v1e) rfl (Or.inl ⟨by rfl, ?hy1e⟩) ?rest1e
            case hy1e => (intro zz hSw; (try dsimp only at hSw); go_simp; (try with_reducible rfl))
            change wpAnyH _ _ _ _ _ _ _ (Act.put _ (some 11) _) _
            simp only [Act.put, List.setIfInBounds_toArray, List.set_cons_zero, List.set_cons_succ]
            refine tkI (i := 2) (v := ?v2e) rfl (Or.inl ⟨by rfl, ?hy2e⟩) ?rest2e
            case hy2e => (intro zz hSw; (try dsimp only at hSw); go_simp; (try with_reducible rfl))
            change wpAnyH _ _ _ _ _ _ _ (Act.put _ (some 12) _) _
            simp only [Act.put, List.setIfInBounds_toArray, List.set_cons_zero, List.set_cons_succ]
            refine tkI (i := 3) (v := ?v3e) rfl (Or.inl ⟨by rfl, ?hy3e⟩) ?rest3e
            case hy3e => (intro zz hSw; (try dsimp only at hSw); go_simp; (try with_reducible rfl))
            change wpAnyH _ _ _ _ _ _ _ (Act.put _ (some 13) _) _
            simp only [Act.put, List.setIfInBounds_toArray, List.set_cons_zero, List.set_cons_succ]
            refine tkI (i := 4) (v := ?v4e) rfl (Or.inl ⟨by rfl, ?hy4e⟩) ?rest4e
            case hy4e => (intro zz hSw; (try dsimp only at hSw); go_simp; (try with_reducible rfl))
            change wpAnyH _ _ _ _ _ _ _ (Act.put _ (some 14) _) _
            simp only [Act.put, List.setIfInBounds_toArray, List.set_cons_zero, List.set_cons_succ]
            refine wpAnyH_ready (rs := [5]) (by kernel_rfl) (by simp) (AllReadyH.cons rfl (fun K hK => ?_) AllReadyH.nil)
            go_simp
            refine (specName_is H1.out _ HMC.out).mono ?_; rintro e w' ⟨rfl, hww⟩
            have bel := bel_eq hww
            refine hK.out _ _ (SOF.out _ (bel_tr hHeld.2.2 bel (Nat.le_refl _))) (fun hHeld => ?_)
            clear hK K bel
            refine tkI (i := 6) (v := ?v6e) rfl (Or.inl ⟨by rfl, ?hy6e⟩) ?rest6e
            case hy6e => (intro zz hSw; (try dsimp only at hSw); go_simp; (try with_reducible rfl))
            change wpAnyH _ _ _ _ _ _ _ (Act.put _ (some 16) _) _
            simp only [Act.put, List.setIfInBounds_toArray, List.set_cons_zero, List.set_cons_succ]
            refine tkI (i := 7) (v := ?v7e) rfl (Or.inl ⟨by rfl, ?hy7e⟩) ?rest7e
            case hy7e => (intro zz hSw; (try dsimp only at hSw); go_simp; (try with_reducible rfl))
            change wpAnyH _ _ _ _ _ _ _ (Act.put _ (some 17) _) _
            simp only [Act.put, List.setIfInBounds_toArray, List.set_cons_zero, List.set_cons_succ]
            refine tkI (i := 8) (v := ?v8e) rfl (Or.inl ⟨by rfl, ?hy8e⟩) ?rest8e
            case hy8e => (intro zz hSw; (try dsimp only at hSw); go_simp; (try with_reducible rfl))
            change wpAnyH _ _ _ _ _ _ _ (Act.put _ (some 18) _) _
            simp only [Act.put, List.setIfInBounds_toArray, List.set_cons_zero, List.set_cons_succ]
            refine tkI (i := 9) (v := ?v9e) rfl (Or.inl ⟨by rfl, ?hy9e⟩) ?rest9e
            case hy9e => (intro zz hSw; (try dsimp only at hSw); go_simp; (try with_reducible rfl))
            change wpAnyH _ _ _ _ _ _ _ (Act.put _ (some 19) _) _
            simp only [Act.put, List.setIfInBounds_toArray, List.set_cons_zero, List.set_cons_succ]
            refine tkI (i := 10) (v := ?v10e) rfl (Or.inl ⟨by rfl, ?hy10e⟩) ?rest10e
            case hy10e => (intro zz hSw; (try dsimp only at hSw); go_simp; (try with_reducible rfl))
            change wpAnyH _ _ _ _ _ _ _ (Act.put _ (some 20) _) _
            simp only [Act.put, List.setIfInBounds_toArray, List.set_cons_zero, List.set_cons_succ]
            refine tkI (i := 11) (v := ?v11e) rfl (Or.inl ⟨by rfl, ?hy11e⟩) ?rest11e
            case hy11e => (intro zz hSw; (try dsimp only at hSw); go_simp; (try with_reducible rfl))
            change wpAnyH _ _ _ _ _ _ _ (Act.put _ (some 21) _) _
            simp only [Act.put, List.setIfInBounds_toArray, List.set_cons_zero, List.set_cons_succ]
            refine tkI (i := 12) (v := ?v12e) rfl (Or.inl ⟨by rfl, ?hy12e⟩) ?rest12e
            case hy12e => (intro zz hSw; (try dsimp only at hSw); go_simp; (try with_reducible rfl))
            change wpAnyH _ _ _ _ _ _ _ (Act.put _ (some 22) _) _
            simp only [Act.put, List.setIfInBounds_toArray, List.set_cons_zero, List.set_cons_succ]
            refine wpAnyH_ready (rs := [13]) (by kernel_rfl) (by simp) (AllReadyH.cons rfl (fun K hK => ?_) AllReadyH.nil)
            go_simp
            refine (word_is H2.out _).mono ?_; rintro e w' ⟨rfl, hww⟩
            have bel := bel_eq hww
            refine hK.out _ _ (SOF.out _ (bel_tr hHeld.2.2 bel (Nat.le_refl _))) (fun hHeld => ?_)
            clear hK K bel
            refine tkI (i := 14) (v := ?v14e) rfl (Or.inl ⟨by rfl, ?hy14e⟩) ?rest14e
            case hy14e => (intro zz hSw; (try dsimp only at hSw); go_simp; (try with_reducible rfl))
            change wpAnyH _ _ _ _ _ _ _ (Act.put _ (some 24) _) _
            simp only [Act.put, List.setIfInBounds_toArray, List.set_cons_zero, List.set_cons_succ]
            refine tkI (i := 15) (v := ?v15e) rfl (Or.inl ⟨by rfl, ?hy15e⟩) ?rest15e
            case hy15e => (intro zz hSw; (try dsimp only at hSw); go_simp; (try with_reducible rfl))
            change wpAnyH _ _ _ _ _ _ _ (Act.put _ (some 25) _) _
            simp only [Act.put, List.setIfInBounds_toArray, List.set_cons_zero, List.set_cons_succ]
            refine tkI (i := 16) (v := ?v16e) rfl (Or.inl ⟨by rfl, ?hy16e⟩) ?rest16e
            case hy16e => (intro zz hSw; (try dsimp only at hSw); go_simp; (try with_reducible rfl))
            change wpAnyH _ _ _ _ _ _ _ (Act.put _ (some 26) _) _
            simp only [Act.put, List.setIfInBounds_toArray, List.set_cons_zero, List.set_cons_succ]
            refine tkI (i := 17) (v := ?v17e) rfl (Or.inl ⟨by rfl, ?hy17e⟩) ?rest17e
            case hy17e => (intro zz hSw; (try dsimp only at hSw); go_simp; (try with_reducible rfl))
            change wpAnyH _ _ _ _ _ _ _ (Act.put _ (some 27) _) _
            simp only [Act.put, List.setIfInBounds_toArray, List.set_cons_zero, List.set_cons_succ]
            refine tkI (i := 18) (v := ?v18e) rfl (Or.inl ⟨by rfl, ?hy18e⟩) ?rest18e
            case hy18e => (intro zz hSw; (try dsimp only at hSw); go_simp; (try with_reducible rfl))
            change wpAnyH _ _ _ _ _ _ _ (Act.put _ (some 28) _) _
            simp only [Act.put, List.setIfInBounds_toArray, List.set_cons_zero, List.set_cons_succ]
            refine tkI (i := 19) (v := ?v19e) rfl (Or.inl ⟨by rfl, ?hy19e⟩) ?rest19e
            case hy19e => (intro zz hSw; (try dsimp only at hSw); go_simp; (try with_reducible rfl))
            change wpAnyH _ _ _ _ _ _ _ (Act.put _ (some 29) _) _
            simp only [Act.put, List.setIfInBounds_toArray, List.set_cons_zero, List.set_cons_succ]
            refine tkI (i := 20) (v := undef) rfl (Or.inr ⟨by rfl, rfl⟩) ?_
            change wpAnyH _ _ _ _ _ _ _ (Act.put _ (some 30) _) _
            simp only [Act.put, List.setIfInBounds_toArray, List.set_cons_zero, List.set_cons_succ]
            refine tkI (i := 21) (v := undef) rfl (Or.inr ⟨by rfl, rfl⟩) ?_
            change wpAnyH _ _ _ _ _ _ _ (Act.put _ (some 31) _) _
            simp only [Act.put, List.setIfInBounds_toArray, List.set_cons_zero, List.set_cons_succ]
            refine tkI (i := 22) (v := undef) rfl (Or.inr ⟨by rfl, rfl⟩) ?_
            change wpAnyH _ _ _ _ _ _ _ (Act.put _ (some 32) _) _
            simp only [Act.put, List.setIfInBounds_toArray, List.set_cons_zero, List.set_cons_succ]
            refine tkI (i := 23) (v := undef) rfl (Or.inr ⟨by rfl, rfl⟩) ?_
            change wpAnyH _ _ _ _ _ _ _ (Act.put _ (some 33) _) _
            simp only [Act.put, List.setIfInBounds_toArray, List.set_cons_zero, List.set_cons_succ]
            refine tkI (i := 24) (v := undef) rfl (Or.inr ⟨by rfl, rfl⟩) ?_
            change wpAnyH _ _ _ _ _ _ _ (Act.put _ (some 34) _) _
            simp only [Act.put, List.setIfInBounds_toArray, List.set_cons_zero, List.set_cons_succ]
            refine tkI (i := 25) (v := undef) rfl (Or.inr ⟨by rfl, rfl⟩) ?_
            change wpAnyH _ _ _ _ _ _ _ (Act.put _ (some 35) _) _
            simp only [Act.put, List.setIfInBounds_toArray, List.set_cons_zero, List.set_cons_succ]
            refine tkI (i := 26) (v := undef) rfl (Or.inr ⟨by rfl, rfl⟩) ?_
            change wpAnyH _ _ _ _ _ _ _ (Act.put _ (some 36) _) _
            simp only [Act.put, List.setIfInBounds_toArray, List.set_cons_zero, List.set_cons_succ]
            refine tkI (i := 27) (v := undef) rfl (Or.inr ⟨by rfl, rfl⟩) ?_
            change wpAnyH _ _ _ _ _ _ _ (Act.put _ (some 37) _) _
            simp only [Act.put, List.setIfInBounds_toArray, List.set_cons_zero, List.set_cons_succ]
            refine tkI (i := 28) (v := undef) rfl (Or.inr ⟨by rfl, rfl⟩) ?_
            change wpAnyH _ _ _ _ _ _ _ (Act.put _ (some 38) _) _
            simp only [Act.put, List.setIfInBounds_toArray, List.set_cons_zero, List.set_cons_succ]
            refine tkI (i := 29) (v := undef) rfl (Or.inr ⟨by rfl, rfl⟩) ?_
            change wpAnyH _ _ _ _ _ _ _ (Act.put _ (some 39) _) _
            simp only [Act.put, List.setIfInBounds_toArray, List.set_cons_zero, List.set_cons_succ]
            refine tkI (i := 30) (v := undef) rfl (Or.inr ⟨by rfl, rfl⟩) ?_
            change wpAnyH _ _ _ _ _ _ _ (Act.put _ (some 40) _) _
            simp only [Act.put, List.setIfInBounds_toArray, List.set_cons_zero, List.set_cons_succ]
            refine tkI (i := 31) (v := undef) rfl (Or.inr ⟨by rfl, rfl⟩) ?_
            change wpAnyH _ _ _ _ _ _ _ (Act.put _ (some 41) _) _
            simp only [Act.put, List.setIfInBounds_toArray, List.set_cons_zero, List.set_cons_succ]
            refine tkI (i := 32) (v := ?v32e) rfl (Or.inl ⟨by rfl, ?hy32e⟩) ?rest32e
            case hy32e => (intro zz hSw; (try dsimp only at hSw); go_simp; (try with_reducible rfl))
            change wpAnyH _ _ _ _ _ _ _ (Act.put _ (some 42) _) _
            simp only [Act.put, List.setIfInBounds_toArray, List.set_cons_zero, List.set_cons_succ]
            refine tkI (i := 33) (v := ?v33e) rfl (Or.inl ⟨by rfl, ?hy33e⟩) ?rest33e
            case hy33e => (intro zz hSw; (try dsimp only at hSw); go_simp; (try with_reducible rfl))
            change wpAnyH _ _ _ _ _ _ _ (Act.put _ (some 43) _) _
            simp only [Act.put, List.setIfInBounds_toArray, List.set_cons_zero, List.set_cons_succ]
            refine wpAnyH_done (by kernel_rfl) ?_ _
            have BX := Lib.hid hHeld.2.2; clear hHeld SOF
            go_wp2_with fail
            go_roundw
            case rel => exact ⟨1, by omega, by go_num, HL2.out, bel_tr HB.out BX.out (Nat.le_refl _)⟩
            case measure => simp [intV]; omega
          | succ j =>
            obtain ⟨p, hp⟩ : ∃ p, l[j]? = some p := ⟨l[j]'(by have := HN.out; omega), List.getElem?_eq_getElem _⟩
            obtain ⟨g2, o2, e2, -, h6⟩ := HV.out.2.2.2 j p hp
            cases e2
            obtain ⟨p0, p1⟩ : At2 wr g (o + j * 2) p := h6.same (HB.out.block g hg)
            have HP := Lib.hid hp; clear hp h6
            have i4 : ((j : Int) + 1) < (n : Int) := by omega
            have i5 : (0 : Int) ≤ (j : Int) := by omega
            have i6 : (j : Int) < (n : Int) := by omega
            have i7 : IntKind.i64.wrap (j : Int) = (j : Int) := by rw [IntKind.wrap_i64]; omega
            have i8 : (0 : Int) < (j : Int) + 1 := by omega
            have i9 : (((j + 1 : Nat) : Int)) = (j : Int) + 1 := by omega
            rw [i9] at i1 i2
            cases hle : Op.bytesLess p.n.toList c.n.toList
            · have HE := Lib.hid (show okI l = false from by
                cases hr : okI l with
                | false => rfl
                | true => rw [asc_lt (okI_iff.1 hr).2.1 (Nat.lt_succ_self j) HP.out HC.out] at hle; cases hle)
              rcases le_cases hle with q1 | ⟨q1, q2⟩
              · skip
                have SOF := Lib.hid (show ∀ z, Below wr.heap.size wr z → (z.cell? ⟨g, o + j * 2, none⟩ = some (.string p.n) ∧ z.cell? ⟨g, o + j * 2 + 1, none⟩ = some (.int .i64 p.v) ∧ z.cell? ⟨g, o + (j + 1) * 2, none⟩ = some (.string c.n) ∧ z.cell? ⟨g, o + (j + 1) * 2 + 1, none⟩ = some (.int .i64 c.v) ∧ Below wr.heap.size wr z) from fun z hz => ⟨coc hz hg' p0, coc hz hg' p1, coc hz hg' c0, coc hz hg' c1,  hz⟩)
                clear p0 p1 c0 c1
                go_wp2_with fail
                refine wp_region_held_drew (S := fun z => z.cell? ⟨g, o + j * 2, none⟩ = some (.string p.n) ∧ z.cell? ⟨g, o + j * 2 + 1, none⟩ = some (.int .i64 p.v) ∧ z.cell? ⟨g, o + (j + 1) * 2, none⟩ = some (.string c.n) ∧ z.cell? ⟨g, o + (j + 1) * 2 + 1, none⟩ = some (.int .i64 c.v) ∧ Below wr.heap.size wr z) (by kernel_rfl) (SOF.out _ (Below.refl _ _).drew) (fun hHeld => ?_)
                refine tkI (i := 0) (v := ?v0f) rfl (Or.inl ⟨by rfl, ?hy0f⟩) ?rest0f
                case hy0f => (intro zz hSw; (try dsimp only at hSw); go_simp; (try with_reducible rfl))
                change wpAnyH _ _ _ _ _ _ _ (Act.put _ (some 10) _) _
                simp only [Act.put, List.setIfInBounds_toArray, List.set_cons_zero, List.set_cons_succ]
                refine tkI (i := 1) (v := ?v1f) rfl (Or.inl ⟨by rfl, ?hy1f⟩) ?rest1f
                case hy1f => (intro zz hSw; (try dsimp only at hSw); go_simp; (try with_reducible rfl))
                change wpAnyH _ _ _ _ _ _ _ (Act.put _ (some 11) _) _
                simp only [Act.put, List.setIfInBounds_toArray, List.set_cons_zero, List.set_cons_succ]
                refine tkI (i := 2) (v := ?v2f) rfl (Or.inl ⟨by rfl, ?hy2f⟩) ?rest2f
                case hy2f => (intro zz hSw; (try dsimp only at hSw); go_simp; (try with_reducible rfl))
                change wpAnyH _ _ _ _ _ _ _ (Act.put _ (some 12) _) _
                simp only [Act.put, List.setIfInBounds_toArray, List.set_cons_zero, List.set_cons_succ]
                refine tkI (i := 3) (v := ?v3f) rfl (Or.inl ⟨by rfl, ?hy3f⟩) ?rest3f
                case hy3f => (intro zz hSw; (try dsimp only at hSw); go_simp; (try with_reducible rfl))
                change wpAnyH _ _ _ _ _ _ _ (Act.put _ (some 13) _) _
                simp only [Act.put, List.setIfInBounds_toArray, List.set_cons_zero, List.set_cons_succ]
                refine tkI (i := 4) (v := ?v4f) rfl (Or.inl ⟨by rfl, ?hy4f⟩) ?rest4f
                case hy4f => (intro zz hSw; (try dsimp only at hSw); go_simp; (try with_reducible rfl))
                change wpAnyH _ _ _ _ _ _ _ (Act.put _ (some 14) _) _
                simp only [Act.put, List.setIfInBounds_toArray, List.set_cons_zero, List.set_cons_succ]
                refine wpAnyH_ready (rs := [5]) (by kernel_rfl) (by simp) (AllReadyH.cons rfl (fun K hK => ?_) AllReadyH.nil)
                go_simp
                refine (specName_is H1.out _ HMC.out).mono ?_; rintro e w' ⟨rfl, hww⟩
                have bel := bel_eq hww
                refine hK.out _ _ (SOF.out _ (bel_tr hHeld.2.2.2.2 bel (Nat.le_refl _))) (fun hHeld => ?_)
                clear hK K bel
                refine tkI (i := 6) (v := ?v6f) rfl (Or.inl ⟨by rfl, ?hy6f⟩) ?rest6f
                case hy6f => (intro zz hSw; (try dsimp only at hSw); go_simp; (try with_reducible rfl))
                change wpAnyH _ _ _ _ _ _ _ (Act.put _ (some 16) _) _
                simp only [Act.put, List.setIfInBounds_toArray, List.set_cons_zero, List.set_cons_succ]
                refine tkI (i := 7) (v := ?v7f) rfl (Or.inl ⟨by rfl, ?hy7f⟩) ?rest7f
                case hy7f => (intro zz hSw; (try dsimp only at hSw); go_simp; (try with_reducible rfl))
                change wpAnyH _ _ _ _ _ _ _ (Act.put _ (some 17) _) _
                simp only [Act.put, List.setIfInBounds_toArray, List.set_cons_zero, List.set_cons_succ]
                refine tkI (i := 8) (v := ?v8f) rfl (Or.inl ⟨by rfl, ?hy8f⟩) ?rest8f
                case hy8f => (intro zz hSw; (try dsimp only at hSw); go_simp; (try with_reducible rfl))
                change wpAnyH _ _ _ _ _ _ _ (Act.put _ (some 18) _) _
                simp only [Act.put, List.setIfInBounds_toArray, List.set_cons_zero, List.set_cons_succ]
                refine tkI (i := 9) (v := ?v9f) rfl (Or.inl ⟨by rfl, ?hy9f⟩) ?rest9f
                case hy9f => (intro zz hSw; (try dsimp only at hSw); go_simp; (try with_reducible rfl))
                change wpAnyH _ _ _ _ _ _ _ (Act.put _ (some 19) _) _
                simp only [Act.put, List.setIfInBounds_toArray, List.set_cons_zero, List.set_cons_succ]
                refine tkI (i := 10) (v := ?v10f) rfl (Or.inl ⟨by rfl, ?hy10f⟩) ?rest10f
                case hy10f => (intro zz hSw; (try dsimp only at hSw); go_simp; (try with_reducible rfl))
                change wpAnyH _ _ _ _ _ _ _ (Act.put _ (some 20) _) _
                simp only [Act.put, List.setIfInBounds_toArray, List.set_cons_zero, List.set_cons_succ]
                refine tkI (i := 11) (v := ?v11f) rfl (Or.inl ⟨by rfl, ?hy11f⟩) ?rest11f
                case hy11f => (intro zz hSw; (try dsimp only at hSw); go_simp; (try with_reducible rfl))
                change wpAnyH _ _ _ _ _ _ _ (Act.put _ (some 21) _) _
                simp only [Act.put, List.setIfInBounds_toArray, List.set_cons_zero, List.set_cons_succ]
                refine tkI (i := 12) (v := ?v12f) rfl (Or.inl ⟨by rfl, ?hy12f⟩) ?rest12f
                case hy12f => (intro zz hSw; (try dsimp only at hSw); go_simp; (try with_reducible rfl))
                change wpAnyH _ _ _ _ _ _ _ (Act.put _ (some 22) _) _
                simp only [Act.put, List.setIfInBounds_toArray, List.set_cons_zero, List.set_cons_succ]
                refine wpAnyH_ready (rs := [13]) (by kernel_rfl) (by simp) (AllReadyH.cons rfl (fun K hK => ?_) AllReadyH.nil)
                go_simp
                refine (word_is H2.out _).mono ?_; rintro e w' ⟨rfl, hww⟩
                have bel := bel_eq hww
                refine hK.out _ _ (SOF.out _ (bel_tr hHeld.2.2.2.2 bel (Nat.le_refl _))) (fun hHeld => ?_)
                clear hK K bel
                refine tkI (i := 14) (v := ?v14f) rfl (Or.inl ⟨by rfl, ?hy14f⟩) ?rest14f
                case hy14f => (intro zz hSw; (try dsimp only at hSw); go_simp; (try with_reducible rfl))
                change wpAnyH _ _ _ _ _ _ _ (Act.put _ (some 24) _) _
                simp only [Act.put, List.setIfInBounds_toArray, List.set_cons_zero, List.set_cons_succ]
                refine tkI (i := 15) (v := ?v15f) rfl (Or.inl ⟨by rfl, ?hy15f⟩) ?rest15f
                case hy15f => (intro zz hSw; (try dsimp only at hSw); go_simp; (try with_reducible rfl))
                change wpAnyH _ _ _ _ _ _ _ (Act.put _ (some 25) _) _
                simp only [Act.put, List.setIfInBounds_toArray, List.set_cons_zero, List.set_cons_succ]
                refine tkI (i := 16) (v := ?v16f) rfl (Or.inl ⟨by rfl, ?hy16f⟩) ?rest16f
                case hy16f => (intro zz hSw; (try dsimp only at hSw); go_simp; (try with_reducible rfl))
                change wpAnyH _ _ _ _ _ _ _ (Act.put _ (some 26) _) _
                simp only [Act.put, List.setIfInBounds_toArray, List.set_cons_zero, List.set_cons_succ]
                refine tkI (i := 17) (v := ?v17f) rfl (Or.inl ⟨by rfl, ?hy17f⟩) ?rest17f
                case hy17f => (intro zz hSw; (try dsimp only at hSw); go_simp; (try with_reducible rfl))
                change wpAnyH _ _ _ _ _ _ _ (Act.put _ (some 27) _) _
                simp only [Act.put, List.setIfInBounds_toArray, List.set_cons_zero, List.set_cons_succ]
                refine tkI (i := 18) (v := ?v18f) rfl (Or.inl ⟨by rfl, ?hy18f⟩) ?rest18f
                case hy18f => (intro zz hSw; (try dsimp only at hSw); go_simp; (try with_reducible rfl))
                change wpAnyH _ _ _ _ _ _ _ (Act.put _ (some 28) _) _
                simp only [Act.put, List.setIfInBounds_toArray, List.set_cons_zero, List.set_cons_succ]
                refine tkI (i := 19) (v := ?v19f) rfl (Or.inl ⟨by rfl, ?hy19f⟩) ?rest19f
                case hy19f => (intro zz hSw; (try dsimp only at hSw); go_simp; (try with_reducible rfl))
                change wpAnyH _ _ _ _ _ _ _ (Act.put _ (some 29) _) _
                simp only [Act.put, List.setIfInBounds_toArray, List.set_cons_zero, List.set_cons_succ]
                refine tkI (i := 20) (v := ?v20f) rfl (Or.inl ⟨by rfl, ?hy20f⟩) ?rest20f
                case hy20f => (intro zz hSw; (try dsimp only at hSw); go_simp; (try with_reducible rfl))
                change wpAnyH _ _ _ _ _ _ _ (Act.put _ (some 30) _) _
                simp only [Act.put, List.setIfInBounds_toArray, List.set_cons_zero, List.set_cons_succ]
                refine tkI (i := 21) (v := ?v21f) rfl (Or.inl ⟨by rfl, ?hy21f⟩) ?rest21f
                case hy21f => (intro zz hSw; (try dsimp only at hSw); go_simp; (try with_reducible rfl))
                change wpAnyH _ _ _ _ _ _ _ (Act.put _ (some 31) _) _
                simp only [Act.put, List.setIfInBounds_toArray, List.set_cons_zero, List.set_cons_succ]
                refine tkI (i := 22) (v := ?v22f) rfl (Or.inl ⟨by rfl, ?hy22f⟩) ?rest22f
                case hy22f => (intro zz hSw; (try dsimp only at hSw); go_simp; (try with_reducible rfl))
                change wpAnyH _ _ _ _ _ _ _ (Act.put _ (some 32) _) _
                simp only [Act.put, List.setIfInBounds_toArray, List.set_cons_zero, List.set_cons_succ]
                refine tkI (i := 23) (v := ?v23f) rfl (Or.inl ⟨by rfl, ?hy23f⟩) ?rest23f
                case hy23f => (intro zz hSw; (try dsimp only at hSw); go_simp; (try with_reducible rfl))
                change wpAnyH _ _ _ _ _ _ _ (Act.put _ (some 33) _) _
                simp only [Act.put, List.setIfInBounds_toArray, List.set_cons_zero, List.set_cons_succ]
                refine tkI (i := 24) (v := ?v24f) rfl (Or.inl ⟨by rfl, ?hy24f⟩) ?rest24f
                case hy24f => (intro zz hSw; (try dsimp only at hSw); go_simp; (try with_reducible rfl))
                change wpAnyH _ _ _ _ _ _ _ (Act.put _ (some 34) _) _
                simp only [Act.put, List.setIfInBounds_toArray, List.set_cons_zero, List.set_cons_succ]
                refine tkI (i := 25) (v := ?v25f) rfl (Or.inl ⟨by rfl, ?hy25f⟩) ?rest25f
                case hy25f => (intro zz hSw; (try dsimp only at hSw); go_simp; (try with_reducible rfl))
                change wpAnyH _ _ _ _ _ _ _ (Act.put _ (some 35) _) _
                simp only [Act.put, List.setIfInBounds_toArray, List.set_cons_zero, List.set_cons_succ]
                refine tkI (i := 26) (v := ?v26f) rfl (Or.inl ⟨by rfl, ?hy26f⟩) ?rest26f
                case hy26f => (intro zz hSw; (try dsimp only at hSw); go_simp; (try with_reducible rfl))
                change wpAnyH _ _ _ _ _ _ _ (Act.put _ (some 36) _) _
                simp only [Act.put, List.setIfInBounds_toArray, List.set_cons_zero, List.set_cons_succ]
                refine tkI (i := 27) (v := ?v27f) rfl (Or.inl ⟨by rfl, ?hy27f⟩) ?rest27f
                case hy27f => (intro zz hSw; (try dsimp only at hSw); go_simp; (try with_reducible rfl))
                change wpAnyH _ _ _ _ _ _ _ (Act.put _ (some 37) _) _
                simp only [Act.put, List.setIfInBounds_toArray, List.set_cons_zero, List.set_cons_succ]
                refine tkI (i := 28) (v := ?v28f) rfl (Or.inl ⟨by rfl, ?hy28f⟩) ?rest28f
                case hy28f => (intro zz hSw; (try dsimp only at hSw); go_simp; (try with_reducible rfl))
                change wpAnyH _ _ _ _ _ _ _ (Act.put _ (some 38) _) _
                simp only [Act.put, List.setIfInBounds_toArray, List.set_cons_zero, List.set_cons_succ]
                refine tkI (i := 29) (v := ?v29f) rfl (Or.inl ⟨by rfl, ?hy29f⟩) ?rest29f
                case hy29f => (intro zz hSw; (try dsimp only at hSw); go_simp; (try with_reducible rfl))
                change wpAnyH _ _ _ _ _ _ _ (Act.put _ (some 39) _) _
                simp only [Act.put, List.setIfInBounds_toArray, List.set_cons_zero, List.set_cons_succ]
                refine tkI (i := 30) (v := ?v30f) rfl (Or.inl ⟨by rfl, ?hy30f⟩) ?rest30f
                case hy30f => (intro zz hSw; (try dsimp only at hSw); go_simp; (try with_reducible rfl))
                change wpAnyH _ _ _ _ _ _ _ (Act.put _ (some 40) _) _
                simp only [Act.put, List.setIfInBounds_toArray, List.set_cons_zero, List.set_cons_succ]
                refine tkI (i := 31) (v := ?v31f) rfl (Or.inl ⟨by rfl, ?hy31f⟩) ?rest31f
                case hy31f => (intro zz hSw; (try dsimp only at hSw); go_simp; (try with_reducible rfl))
                change wpAnyH _ _ _ _ _ _ _ (Act.put _ (some 41) _) _
                simp only [Act.put, List.setIfInBounds_toArray, List.set_cons_zero, List.set_cons_succ]
                refine tkI (i := 32) (v := ?v32f) rfl (Or.inl ⟨by rfl, ?hy32f⟩) ?rest32f
                case hy32f => (intro zz hSw; (try dsimp only at hSw); go_simp; (try with_reducible rfl))
                change wpAnyH _ _ _ _ _ _ _ (Act.put _ (some 42) _) _
                simp only [Act.put, List.setIfInBounds_toArray, List.set_cons_zero, List.set_cons_succ]
                refine tkI (i := 33) (v := ?v33f) rfl (Or.inl ⟨by rfl, ?hy33f⟩) ?rest33f
                case hy33f => (intro zz hSw; (try dsimp only at hSw); go_simp; (try with_reducible rfl))
                change wpAnyH _ _ _ _ _ _ _ (Act.put _ (some 43) _) _
                simp only [Act.put, List.setIfInBounds_toArray, List.set_cons_zero, List.set_cons_succ]
                refine wpAnyH_done (by kernel_rfl) ?_ _
                have BX := Lib.hid hHeld.2.2.2.2; clear hHeld SOF
                go_wp2_with fail
                go_ret
                exact ⟨by rw [HE.out]; rfl, bel_tr HB.out BX.out (Nat.le_refl _)⟩
              · skip
                have SOF := Lib.hid (show ∀ z, Below wr.heap.size wr z → (z.cell? ⟨g, o + j * 2, none⟩ = some (.string p.n) ∧ z.cell? ⟨g, o + j * 2 + 1, none⟩ = some (.int .i64 p.v) ∧ z.cell? ⟨g, o + (j + 1) * 2, none⟩ = some (.string c.n) ∧ z.cell? ⟨g, o + (j + 1) * 2 + 1, none⟩ = some (.int .i64 c.v) ∧ Below wr.heap.size wr z) from fun z hz => ⟨coc hz hg' p0, coc hz hg' p1, coc hz hg' c0, coc hz hg' c1,  hz⟩)
                clear p0 p1 c0 c1
                go_wp2_with fail
                refine wp_region_held_drew (S := fun z => z.cell? ⟨g, o + j * 2, none⟩ = some (.string p.n) ∧ z.cell? ⟨g, o + j * 2 + 1, none⟩ = some (.int .i64 p.v) ∧ z.cell? ⟨g, o + (j + 1) * 2, none⟩ = some (.string c.n) ∧ z.cell? ⟨g, o + (j + 1) * 2 + 1, none⟩ = some (.int .i64 c.v) ∧ Below wr.heap.size wr z) (by kernel_rfl) (SOF.out _ (Below.refl _ _).drew) (fun hHeld => ?_)
                refine tkI (i := 0) (v := ?v0h) rfl (Or.inl ⟨by rfl, ?hy0h⟩) ?rest0h
                case hy0h => (intro zz hSw; (try dsimp only at hSw); go_simp; (try with_reducible rfl))
                change wpAnyH _ _ _ _ _ _ _ (Act.put _ (some 10) _) _
                simp only [Act.put, List.setIfInBounds_toArray, List.set_cons_zero, List.set_cons_succ]
                refine tkI (i := 1) (v := ?v1h) rfl (Or.inl ⟨by rfl, ?hy1h⟩) ?rest1h
                case hy1h => (intro zz hSw; (try dsimp only at hSw); go_simp; (try with_reducible rfl))
                change wpAnyH _ _ _ _ _ _ _ (Act.put _ (some 11) _) _
                simp only [Act.put, List.setIfInBounds_toArray, List.set_cons_zero, List.set_cons_succ]
                refine tkI (i := 2) (v := ?v2h) rfl (Or.inl ⟨by rfl, ?hy2h⟩) ?rest2h
                case hy2h => (intro zz hSw; (try dsimp only at hSw); go_simp; (try with_reducible rfl))
                change wpAnyH _ _ _ _ _ _ _ (Act.put _ (some 12) _) _
                simp only [Act.put, List.setIfInBounds_toArray, List.set_cons_zero, List.set_cons_succ]
                refine tkI (i := 3) (v := ?v3h) rfl (Or.inl ⟨by rfl, ?hy3h⟩) ?rest3h
                case hy3h => (intro zz hSw; (try dsimp only at hSw); go_simp; (try with_reducible rfl))
                change wpAnyH _ _ _ _ _ _ _ (Act.put _ (some 13) _) _
                simp only [Act.put, List.setIfInBounds_toArray, List.set_cons_zero, List.set_cons_succ]
                refine tkI (i := 4) (v := ?v4h) rfl (Or.inl ⟨by rfl, ?hy4h⟩) ?rest4h
                case hy4h => (intro zz hSw; (try dsimp only at hSw); go_simp; (try with_reducible rfl))
                change wpAnyH _ _ _ _ _ _ _ (Act.put _ (some 14) _) _
                simp only [Act.put, List.setIfInBounds_toArray, List.set_cons_zero, List.set_cons_succ]
                refine wpAnyH_ready (rs := [5]) (by kernel_rfl) (by simp) (AllReadyH.cons rfl (fun K hK => ?_) AllReadyH.nil)
                go_simp
                refine (specName_is H1.out _ HMC.out).mono ?_; rintro e w' ⟨rfl, hww⟩
                have bel := bel_eq hww
                refine hK.out _ _ (SOF.out _ (bel_tr hHeld.2.2.2.2 bel (Nat.le_refl _))) (fun hHeld => ?_)
                clear hK K bel
                refine tkI (i := 6) (v := ?v6h) rfl (Or.inl ⟨by rfl, ?hy6h⟩) ?rest6h
                case hy6h => (intro zz hSw; (try dsimp only at hSw); go_simp; (try with_reducible rfl))
                change wpAnyH _ _ _ _ _ _ _ (Act.put _ (some 16) _) _
                simp only [Act.put, List.setIfInBounds_toArray, List.set_cons_zero, List.set_cons_succ]
                refine tkI (i := 7) (v := ?v7h) rfl (Or.inl ⟨by rfl, ?hy7h⟩) ?rest7h
                case hy7h => (intro zz hSw; (try dsimp only at hSw); go_simp; (try with_reducible rfl))
                change wpAnyH _ _ _ _ _ _ _ (Act.put _ (some 17) _) _
                simp only [Act.put, List.setIfInBounds_toArray, List.set_cons_zero, List.set_cons_succ]
                refine tkI (i := 8) (v := ?v8h) rfl (Or.inl ⟨by rfl, ?hy8h⟩) ?rest8h
                case hy8h => (intro zz hSw; (try dsimp only at hSw); go_simp; (try with_reducible rfl))
                change wpAnyH _ _ _ _ _ _ _ (Act.put _ (some 18) _) _
                simp only [Act.put, List.setIfInBounds_toArray, List.set_cons_zero, List.set_cons_succ]
                refine tkI (i := 9) (v := ?v9h) rfl (Or.inl ⟨by rfl, ?hy9h⟩) ?rest9h
                case hy9h => (intro zz hSw; (try dsimp only at hSw); go_simp; (try with_reducible rfl))
                change wpAnyH _ _ _ _ _ _ _ (Act.put _ (some 19) _) _
                simp only [Act.put, List.setIfInBounds_toArray, List.set_cons_zero, List.set_cons_succ]
                refine tkI (i := 10) (v := ?v10h) rfl (Or.inl ⟨by rfl, ?hy10h⟩) ?rest10h
                case hy10h => (intro zz hSw; (try dsimp only at hSw); go_simp; (try with_reducible rfl))
                change wpAnyH _ _ _ _ _ _ _ (Act.put _ (some 20) _) _
                simp only [Act.put, List.setIfInBounds_toArray, List.set_cons_zero, List.set_cons_succ]
                refine tkI (i := 11) (v := ?v11h) rfl (Or.inl ⟨by rfl, ?hy11h⟩) ?rest11h
                case hy11h => (intro zz hSw; (try dsimp only at hSw); go_simp; (try with_reducible rfl))
                change wpAnyH _ _ _ _ _ _ _ (Act.put _ (some 21) _) _
                simp only [Act.put, List.setIfInBounds_toArray, List.set_cons_zero, List.set_cons_succ]
                refine tkI (i := 12) (v := ?v12h) rfl (Or.inl ⟨by rfl, ?hy12h⟩) ?rest12h
                case hy12h => (intro zz hSw; (try dsimp only at hSw); go_simp; (try with_reducible rfl))
                change wpAnyH _ _ _ _ _ _ _ (Act.put _ (some 22) _) _
                simp only [Act.put, List.setIfInBounds_toArray, List.set_cons_zero, List.set_cons_succ]
                refine wpAnyH_ready (rs := [13]) (by kernel_rfl) (by simp) (AllReadyH.cons rfl (fun K hK => ?_) AllReadyH.nil)
                go_simp
                refine (word_is H2.out _).mono ?_; rintro e w' ⟨rfl, hww⟩
                have bel := bel_eq hww
                refine hK.out _ _ (SOF.out _ (bel_tr hHeld.2.2.2.2 bel (Nat.le_refl _))) (fun hHeld => ?_)
                clear hK K bel
                refine tkI (i := 14) (v := ?v14h) rfl (Or.inl ⟨by rfl, ?hy14h⟩) ?rest14h
                case hy14h => (intro zz hSw; (try dsimp only at hSw); go_simp; (try with_reducible rfl))
                change wpAnyH _ _ _ _ _ _ _ (Act.put _ (some 24) _) _
                simp only [Act.put, List.setIfInBounds_toArray, List.set_cons_zero, List.set_cons_succ]
                refine tkI (i := 15) (v := ?v15h) rfl (Or.inl ⟨by rfl, ?hy15h⟩) ?rest15h
                case hy15h => (intro zz hSw; (try dsimp only at hSw); go_simp; (try with_reducible rfl))
                change wpAnyH _ _ _ _ _ _ _ (Act.put _ (some 25) _) _
                simp only [Act.put, List.setIfInBounds_toArray, List.set_cons_zero, List.set_cons_succ]
                refine tkI (i := 16) (v := ?v16h) rfl (Or.inl ⟨by rfl, ?hy16h⟩) ?rest16h
                case hy16h => (intro zz hSw; (try dsimp only at hSw); go_simp; (try with_reducible rfl))
                change wpAnyH _ _ _ _ _ _ _ (Act.put _ (some 26) _) _
                simp only [Act.put, List.setIfInBounds_toArray, List.set_cons_zero, List.set_cons_succ]
                refine tkI (i := 17) (v := ?v17h) rfl (Or.inl ⟨by rfl, ?hy17h⟩) ?rest17h
                case hy17h => (intro zz hSw; (try dsimp only at hSw); go_simp; (try with_reducible rfl))
                change wpAnyH _ _ _ _ _ _ _ (Act.put _ (some 27) _) _
                simp only [Act.put, List.setIfInBounds_toArray, List.set_cons_zero, List.set_cons_succ]
                refine tkI (i := 18) (v := ?v18h) rfl (Or.inl ⟨by rfl, ?hy18h⟩) ?rest18h
                case hy18h => (intro zz hSw; (try dsimp only at hSw); go_simp; (try with_reducible rfl))
                change wpAnyH _ _ _ _ _ _ _ (Act.put _ (some 28) _) _
                simp only [Act.put, List.setIfInBounds_toArray, List.set_cons_zero, List.set_cons_succ]
                refine tkI (i := 19) (v := ?v19h) rfl (Or.inl ⟨by rfl, ?hy19h⟩) ?rest19h
                case hy19h => (intro zz hSw; (try dsimp only at hSw); go_simp; (try with_reducible rfl))
                change wpAnyH _ _ _ _ _ _ _ (Act.put _ (some 29) _) _
                simp only [Act.put, List.setIfInBounds_toArray, List.set_cons_zero, List.set_cons_succ]
                refine tkI (i := 20) (v := ?v20h) rfl (Or.inl ⟨by rfl, ?hy20h⟩) ?rest20h
                case hy20h => (intro zz hSw; (try dsimp only at hSw); go_simp; (try with_reducible rfl))
                change wpAnyH _ _ _ _ _ _ _ (Act.put _ (some 30) _) _
                simp only [Act.put, List.setIfInBounds_toArray, List.set_cons_zero, List.set_cons_succ]
                refine tkI (i := 21) (v := ?v21h) rfl (Or.inl ⟨by rfl, ?hy21h⟩) ?rest21h
                case hy21h => (intro zz hSw; (try dsimp only at hSw); go_simp; (try with_reducible rfl))
                change wpAnyH _ _ _ _ _ _ _ (Act.put _ (some 31) _) _
                simp only [Act.put, List.setIfInBounds_toArray, List.set_cons_zero, List.set_cons_succ]
                refine tkI (i := 22) (v := ?v22h) rfl (Or.inl ⟨by rfl, ?hy22h⟩) ?rest22h
                case hy22h => (intro zz hSw; (try dsimp only at hSw); go_simp; (try with_reducible rfl))
                change wpAnyH _ _ _ _ _ _ _ (Act.put _ (some 32) _) _
                simp only [Act.put, List.setIfInBounds_toArray, List.set_cons_zero, List.set_cons_succ]
                refine tkI (i := 23) (v := ?v23h) rfl (Or.inl ⟨by rfl, ?hy23h⟩) ?rest23h
                case hy23h => (intro zz hSw; (try dsimp only at hSw); go_simp; (try with_reducible rfl))
                change wpAnyH _ _ _ _ _ _ _ (Act.put _ (some 33) _) _
                simp only [Act.put, List.setIfInBounds_toArray, List.set_cons_zero, List.set_cons_succ]
                refine tkI (i := 24) (v := ?v24h) rfl (Or.inl ⟨by rfl, ?hy24h⟩) ?rest24h
                case hy24h => (intro zz hSw; (try dsimp only at hSw); go_simp; (try with_reducible rfl))
                change wpAnyH _ _ _ _ _ _ _ (Act.put _ (some 34) _) _
                simp only [Act.put, List.setIfInBounds_toArray, List.set_cons_zero, List.set_cons_succ]
                refine tkI (i := 25) (v := ?v25h) rfl (Or.inl ⟨by rfl, ?hy25h⟩) ?rest25h
                case hy25h => (intro zz hSw; (try dsimp only at hSw); go_simp; (try with_reducible rfl))
                change wpAnyH _ _ _ _ _ _ _ (Act.put _ (some 35) _) _
                simp only [Act.put, List.setIfInBounds_toArray, List.set_cons_zero, List.set_cons_succ]
                refine tkI (i := 26) (v := ?v26h) rfl (Or.inl ⟨by rfl, ?hy26h⟩) ?rest26h
                case hy26h => (intro zz hSw; (try dsimp only at hSw); go_simp; (try with_reducible rfl))
                change wpAnyH _ _ _ _ _ _ _ (Act.put _ (some 36) _) _
                simp only [Act.put, List.setIfInBounds_toArray, List.set_cons_zero, List.set_cons_succ]
                refine tkI (i := 27) (v := ?v27h) rfl (Or.inl ⟨by rfl, ?hy27h⟩) ?rest27h
                case hy27h => (intro zz hSw; (try dsimp only at hSw); go_simp; (try with_reducible rfl))
                change wpAnyH _ _ _ _ _ _ _ (Act.put _ (some 37) _) _
                simp only [Act.put, List.setIfInBounds_toArray, List.set_cons_zero, List.set_cons_succ]
                refine tkI (i := 28) (v := ?v28h) rfl (Or.inl ⟨by rfl, ?hy28h⟩) ?rest28h
                case hy28h => (intro zz hSw; (try dsimp only at hSw); go_simp; (try with_reducible rfl))
                change wpAnyH _ _ _ _ _ _ _ (Act.put _ (some 38) _) _
                simp only [Act.put, List.setIfInBounds_toArray, List.set_cons_zero, List.set_cons_succ]
                refine tkI (i := 29) (v := ?v29h) rfl (Or.inl ⟨by rfl, ?hy29h⟩) ?rest29h
                case hy29h => (intro zz hSw; (try dsimp only at hSw); go_simp; (try with_reducible rfl))
                change wpAnyH _ _ _ _ _ _ _ (Act.put _ (some 39) _) _
                simp only [Act.put, List.setIfInBounds_toArray, List.set_cons_zero, List.set_cons_succ]
                refine tkI (i := 30) (v := ?v30h) rfl (Or.inl ⟨by rfl, ?hy30h⟩) ?rest30h
                case hy30h => (intro zz hSw; (try dsimp only at hSw); go_simp; (try with_reducible rfl))
                change wpAnyH _ _ _ _ _ _ _ (Act.put _ (some 40) _) _
                simp only [Act.put, List.setIfInBounds_toArray, List.set_cons_zero, List.set_cons_succ]
                refine tkI (i := 31) (v := ?v31h) rfl (Or.inl ⟨by rfl, ?hy31h⟩) ?rest31h
                case hy31h => (intro zz hSw; (try dsimp only at hSw); go_simp; (try with_reducible rfl))
                change wpAnyH _ _ _ _ _ _ _ (Act.put _ (some 41) _) _
                simp only [Act.put, List.setIfInBounds_toArray, List.set_cons_zero, List.set_cons_succ]
                refine tkI (i := 32) (v := ?v32h) rfl (Or.inl ⟨by rfl, ?hy32h⟩) ?rest32h
                case hy32h => (intro zz hSw; (try dsimp only at hSw); go_simp; (try with_reducible rfl))
                change wpAnyH _ _ _ _ _ _ _ (Act.put _ (some 42) _) _
                simp only [Act.put, List.setIfInBounds_toArray, List.set_cons_zero, List.set_cons_succ]
                refine tkI (i := 33) (v := ?v33h) rfl (Or.inl ⟨by rfl, ?hy33h⟩) ?rest33h
                case hy33h => (intro zz hSw; (try dsimp only at hSw); go_simp; (try with_reducible rfl))
                change wpAnyH _ _ _ _ _ _ _ (Act.put _ (some 43) _) _
                simp only [Act.put, List.setIfInBounds_toArray, List.set_cons_zero, List.set_cons_succ]
                refine wpAnyH_done (by kernel_rfl) ?_ _
                have BX := Lib.hid hHeld.2.2.2.2; clear hHeld SOF
                go_wp2_with fail
                go_ret
                exact ⟨by rw [HE.out]; rfl, bel_tr HB.out BX.out (Nat.le_refl _)⟩
            · have HL2 := Lib.hid (okJ_succ HLO.out HC.out HOK.out (fun q h hq => by
                rw [Nat.add_sub_cancel, HP.out] at hq; cases hq; exact hle))
              obtain ⟨q1, q2⟩ := lt_cases hle
              have SOF := Lib.hid (show ∀ z, Below wr.heap.size wr z → (z.cell? ⟨g, o + j * 2, none⟩ = some (.string p.n) ∧ z.cell? ⟨g, o + j * 2 + 1, none⟩ = some (.int .i64 p.v) ∧ z.cell? ⟨g, o + (j + 1) * 2, none⟩ = some (.string c.n) ∧ z.cell? ⟨g, o + (j + 1) * 2 + 1, none⟩ = some (.int .i64 c.v) ∧ Below wr.heap.size wr z) from fun z hz => ⟨coc hz hg' p0, coc hz hg' p1, coc hz hg' c0, coc hz hg' c1,  hz⟩)
              clear p0 p1 c0 c1
              go_wp2_with fail
              refine wp_region_held_drew (S := fun z => z.cell? ⟨g, o + j * 2, none⟩ = some (.string p.n) ∧ z.cell? ⟨g, o + j * 2 + 1, none⟩ = some (.int .i64 p.v) ∧ z.cell? ⟨g, o + (j + 1) * 2, none⟩ = some (.string c.n) ∧ z.cell? ⟨g, o + (j + 1) * 2 + 1, none⟩ = some (.int .i64 c.v) ∧ Below wr.heap.size wr z) (by kernel_rfl) (SOF.out _ (Below.refl _ _).drew) (fun hHeld => ?_)
              refine tkI (i := 0) (v := ?v0g) rfl (Or.inl ⟨by rfl, ?hy0g⟩) ?rest0g
              case hy0g => (intro zz hSw; (try dsimp only at hSw); go_simp; (try with_reducible rfl))
              change wpAnyH _ _ _ _ _ _ _ (Act.put _ (some 10) _) _
              simp only [Act.put, List.setIfInBounds_toArray, List.set_cons_zero, List.set_cons_succ]
              refine tkI (i := 1) (v := ?v1g) rfl (Or.inl ⟨by rfl, ?hy1g⟩) ?rest1g
              case hy1g => (intro zz hSw; (try dsimp only at hSw); go_simp; (try with_reducible rfl))
              change wpAnyH _ _ _ _ _ _ _ (Act.put _ (some 11) _) _
              simp only [Act.put, List.setIfInBounds_toArray, List.set_cons_zero, List.set_cons_succ]
              refine tkI (i := 2) (v := ?v2g) rfl (Or.inl ⟨by rfl, ?hy2g⟩) ?rest2g
              case hy2g => (intro zz hSw; (try dsimp only at hSw); go_simp; (try with_reducible rfl))
              change wpAnyH _ _ _ _ _ _ _ (Act.put _ (some 12) _) _
              simp only [Act.put, List.setIfInBounds_toArray, List.set_cons_zero, List.set_cons_succ]
              refine tkI (i := 3) (v := ?v3g) rfl (Or.inl ⟨by rfl, ?hy3g⟩) ?rest3g
              case hy3g => (intro zz hSw; (try dsimp only at hSw); go_simp; (try with_reducible rfl))
              change wpAnyH _ _ _ _ _ _ _ (Act.put _ (some 13) _) _
              simp only [Act.put, List.setIfInBounds_toArray, List.set_cons_zero, List.set_cons_succ]
              refine tkI (i := 4) (v := ?v4g) rfl (Or.inl ⟨by rfl, ?hy4g⟩) ?rest4g
              case hy4g => (intro zz hSw; (try dsimp only at hSw); go_simp; (try with_reducible rfl))
              change wpAnyH _ _ _ _ _ _ _ (Act.put _ (some 14) _) _
              simp only [Act.put, List.setIfInBounds_toArray, List.set_cons_zero, List.set_cons_succ]
              refine wpAnyH_ready (rs := [5]) (by kernel_rfl) (by simp) (AllReadyH.cons rfl (fun K hK => ?_) AllReadyH.nil)
              go_simp
              refine (specName_is H1.out _ HMC.out).mono ?_; rintro e w' ⟨rfl, hww⟩
              have bel := bel_eq hww
              refine hK.out _ _ (SOF.out _ (bel_tr hHeld.2.2.2.2 bel (Nat.le_refl _))) (fun hHeld => ?_)
              clear hK K bel
              refine tkI (i := 6) (v := ?v6g) rfl (Or.inl ⟨by rfl, ?hy6g⟩) ?rest6g
              case hy6g => (intro zz hSw; (try dsimp only at hSw); go_simp; (try with_reducible rfl))
              change wpAnyH _ _ _ _ _ _ _ (Act.put _ (some 16) _) _
              simp only [Act.put, List.setIfInBounds_toArray, List.set_cons_zero, List.set_cons_succ]
              refine tkI (i := 7) (v := ?v7g) rfl (Or.inl ⟨by rfl, ?hy7g⟩) ?rest7g
              case hy7g => (intro zz hSw; (try dsimp only at hSw); go_simp; (try with_reducible rfl))
              change wpAnyH _ _ _ _ _ _ _ (Act.put _ (some 17) _) _
              simp only [Act.put, List.setIfInBounds_toArray, List.set_cons_zero, List.set_cons_succ]
              refine tkI (i := 8) (v := ?v8g) rfl (Or.inl ⟨by rfl, ?hy8g⟩) ?rest8g
              case hy8g => (intro zz hSw; (try dsimp only at hSw); go_simp; (try with_reducible rfl))
              change wpAnyH _ _ _ _ _ _ _ (Act.put _ (some 18) _) _
              simp only [Act.put, List.setIfInBounds_toArray, List.set_cons_zero, List.set_cons_succ]
              refine tkI (i := 9) (v := ?v9g) rfl (Or.inl ⟨by rfl, ?hy9g⟩) ?rest9g
              case hy9g => (intro zz hSw; (try dsimp only at hSw); go_simp; (try with_reducible rfl))
              change wpAnyH _ _ _ _ _ _ _ (Act.put _ (some 19) _) _
              simp only [Act.put, List.setIfInBounds_toArray, List.set_cons_zero, List.set_cons_succ]
              refine tkI (i := 10) (v := ?v10g) rfl (Or.inl ⟨by rfl, ?hy10g⟩) ?rest10g
              case hy10g => (intro zz hSw; (try dsimp only at hSw); go_simp; (try with_reducible rfl))
              change wpAnyH _ _ _ _ _ _ _ (Act.put _ (some 20) _) _
              simp only [Act.put, List.setIfInBounds_toArray, List.set_cons_zero, List.set_cons_succ]
              refine tkI (i := 11) (v := ?v11g) rfl (Or.inl ⟨by rfl, ?hy11g⟩) ?rest11g
              case hy11g => (intro zz hSw; (try dsimp only at hSw); go_simp; (try with_reducible rfl))
              change wpAnyH _ _ _ _ _ _ _ (Act.put _ (some 21) _) _
              simp only [Act.put, List.setIfInBounds_toArray, List.set_cons_zero, List.set_cons_succ]
              refine tkI (i := 12) (v := ?v12g) rfl (Or.inl ⟨by rfl, ?hy12g⟩) ?rest12g
              case hy12g => (intro zz hSw; (try dsimp only at hSw); go_simp; (try with_reducible rfl))
              change wpAnyH _ _ _ _ _ _ _ (Act.put _ (some 22) _) _
              simp only [Act.put, List.setIfInBounds_toArray, List.set_cons_zero, List.set_cons_succ]
              refine wpAnyH_ready (rs := [13]) (by kernel_rfl) (by simp) (AllReadyH.cons rfl (fun K hK => ?_) AllReadyH.nil)
              go_simp
              refine (word_is H2.out _).mono ?_; rintro e w' ⟨rfl, hww⟩
              have bel := bel_eq hww
              refine hK.out _ _ (SOF.out _ (bel_tr hHeld.2.2.2.2 bel (Nat.le_refl _))) (fun hHeld => ?_)
              clear hK K bel
              refine tkI (i := 14) (v := ?v14g) rfl (Or.inl ⟨by rfl, ?hy14g⟩) ?rest14g
              case hy14g => (intro zz hSw; (try dsimp only at hSw); go_simp; (try with_reducible rfl))
              change wpAnyH _ _ _ _ _ _ _ (Act.put _ (some 24) _) _
              simp only [Act.put, List.setIfInBounds_toArray, List.set_cons_zero, List.set_cons_succ]
              refine tkI (i := 15) (v := ?v15g) rfl (Or.inl ⟨by rfl, ?hy15g⟩) ?rest15g
              case hy15g => (intro zz hSw; (try dsimp only at hSw); go_simp; (try with_reducible rfl))
              change wpAnyH _ _ _ _ _ _ _ (Act.put _ (some 25) _) _
              simp only [Act.put, List.setIfInBounds_toArray, List.set_cons_zero, List.set_cons_succ]
              refine tkI (i := 16) (v := ?v16g) rfl (Or.inl ⟨by rfl, ?hy16g⟩) ?rest16g
              case hy16g => (intro zz hSw; (try dsimp only at hSw); go_simp; (try with_reducible rfl))
              change wpAnyH _ _ _ _ _ _ _ (Act.put _ (some 26) _) _
              simp only [Act.put, List.setIfInBounds_toArray, List.set_cons_zero, List.set_cons_succ]
              refine tkI (i := 17) (v := ?v17g) rfl (Or.inl ⟨by rfl, ?hy17g⟩) ?rest17g
              case hy17g => (intro zz hSw; (try dsimp only at hSw); go_simp; (try with_reducible rfl))
              change wpAnyH _ _ _ _ _ _ _ (Act.put _ (some 27) _) _
              simp only [Act.put, List.setIfInBounds_toArray, List.set_cons_zero, List.set_cons_succ]
              refine tkI (i := 18) (v := ?v18g) rfl (Or.inl ⟨by rfl, ?hy18g⟩) ?rest18g
              case hy18g => (intro zz hSw; (try dsimp only at hSw); go_simp; (try with_reducible rfl))
              change wpAnyH _ _ _ _ _ _ _ (Act.put _ (some 28) _) _
              simp only [Act.put, List.setIfInBounds_toArray, List.set_cons_zero, List.set_cons_succ]
              refine tkI (i := 19) (v := ?v19g) rfl (Or.inl ⟨by rfl, ?hy19g⟩) ?rest19g
              case hy19g => (intro zz hSw; (try dsimp only at hSw); go_simp; (try with_reducible rfl))
              change wpAnyH _ _ _ _ _ _ _ (Act.put _ (some 29) _) _
              simp only [Act.put, List.setIfInBounds_toArray, List.set_cons_zero, List.set_cons_succ]
              refine tkI (i := 20) (v := ?v20g) rfl (Or.inl ⟨by rfl, ?hy20g⟩) ?rest20g
              case hy20g => (intro zz hSw; (try dsimp only at hSw); go_simp; (try with_reducible rfl))
              change wpAnyH _ _ _ _ _ _ _ (Act.put _ (some 30) _) _
              simp only [Act.put, List.setIfInBounds_toArray, List.set_cons_zero, List.set_cons_succ]
              refine tkI (i := 21) (v := ?v21g) rfl (Or.inl ⟨by rfl, ?hy21g⟩) ?rest21g
              case hy21g => (intro zz hSw; (try dsimp only at hSw); go_simp; (try with_reducible rfl))
              change wpAnyH _ _ _ _ _ _ _ (Act.put _ (some 31) _) _
              simp only [Act.put, List.setIfInBounds_toArray, List.set_cons_zero, List.set_cons_succ]
              refine tkI (i := 22) (v := ?v22g) rfl (Or.inl ⟨by rfl, ?hy22g⟩) ?rest22g
              case hy22g => (intro zz hSw; (try dsimp only at hSw); go_simp; (try with_reducible rfl))
              change wpAnyH _ _ _ _ _ _ _ (Act.put _ (some 32) _) _
              simp only [Act.put, List.setIfInBounds_toArray, List.set_cons_zero, List.set_cons_succ]
              refine tkI (i := 23) (v := ?v23g) rfl (Or.inl ⟨by rfl, ?hy23g⟩) ?rest23g
              case hy23g => (intro zz hSw; (try dsimp only at hSw); go_simp; (try with_reducible rfl))
              change wpAnyH _ _ _ _ _ _ _ (Act.put _ (some 33) _) _
              simp only [Act.put, List.setIfInBounds_toArray, List.set_cons_zero, List.set_cons_succ]
              refine tkI (i := 24) (v := ?v24g) rfl (Or.inl ⟨by rfl, ?hy24g⟩) ?rest24g
              case hy24g => (intro zz hSw; (try dsimp only at hSw); go_simp; (try with_reducible rfl))
              change wpAnyH _ _ _ _ _ _ _ (Act.put _ (some 34) _) _
              simp only [Act.put, List.setIfInBounds_toArray, List.set_cons_zero, List.set_cons_succ]
              refine tkI (i := 25) (v := ?v25g) rfl (Or.inl ⟨by rfl, ?hy25g⟩) ?rest25g
              case hy25g => (intro zz hSw; (try dsimp only at hSw); go_simp; (try with_reducible rfl))
              change wpAnyH _ _ _ _ _ _ _ (Act.put _ (some 35) _) _
              simp only [Act.put, List.setIfInBounds_toArray, List.set_cons_zero, List.set_cons_succ]
              refine tkI (i := 26) (v := ?v26g) rfl (Or.inl ⟨by rfl, ?hy26g⟩) ?rest26g
              case hy26g => (intro zz hSw; (try dsimp only at hSw); go_simp; (try with_reducible rfl))
              change wpAnyH _ _ _ _ _ _ _ (Act.put _ (some 36) _) _
              simp only [Act.put, List.setIfInBounds_toArray, List.set_cons_zero, List.set_cons_succ]
              refine tkI (i := 27) (v := ?v27g) rfl (Or.inl ⟨by rfl, ?hy27g⟩) ?rest27g
              case hy27g => (intro zz hSw; (try dsimp only at hSw); go_simp; (try with_reducible rfl))
              change wpAnyH _ _ _ _ _ _ _ (Act.put _ (some 37) _) _
              simp only [Act.put, List.setIfInBounds_toArray, List.set_cons_zero, List.set_cons_succ]
              refine tkI (i := 28) (v := ?v28g) rfl (Or.inl ⟨by rfl, ?hy28g⟩) ?rest28g
              case hy28g => (intro zz hSw; (try dsimp only at hSw); go_simp; (try with_reducible rfl))
              change wpAnyH _ _ _ _ _ _ _ (Act.put _ (some 38) _) _
              simp only [Act.put, List.setIfInBounds_toArray, List.set_cons_zero, List.set_cons_succ]
              refine tkI (i := 29) (v := ?v29g) rfl (Or.inl ⟨by rfl, ?hy29g⟩) ?rest29g
              case hy29g => (intro zz hSw; (try dsimp only at hSw); go_simp; (try with_reducible rfl))
              change wpAnyH _ _ _ _ _ _ _ (Act.put _ (some 39) _) _
              simp only [Act.put, List.setIfInBounds_toArray, List.set_cons_zero, List.set_cons_succ]
              refine tkI (i := 30) (v := ?v30g) rfl (Or.inl ⟨by rfl, ?hy30g⟩) ?rest30g
              case hy30g => (intro zz hSw; (try dsimp only at hSw); go_simp; (try with_reducible rfl))
              change wpAnyH _ _ _ _ _ _ _ (Act.put _ (some 40) _) _
              simp only [Act.put, List.setIfInBounds_toArray, List.set_cons_zero, List.set_cons_succ]
              refine tkI (i := 31) (v := ?v31g) rfl (Or.inl ⟨by rfl, ?hy31g⟩) ?rest31g
              case hy31g => (intro zz hSw; (try dsimp only at hSw); go_simp; (try with_reducible rfl))
              change wpAnyH _ _ _ _ _ _ _ (Act.put _ (some 41) _) _
              simp only [Act.put, List.setIfInBounds_toArray, List.set_cons_zero, List.set_cons_succ]
              refine tkI (i := 32) (v := ?v32g) rfl (Or.inl ⟨by rfl, ?hy32g⟩) ?rest32g
              case hy32g => (intro zz hSw; (try dsimp only at hSw); go_simp; (try with_reducible rfl))
              change wpAnyH _ _ _ _ _ _ _ (Act.put _ (some 42) _) _
              simp only [Act.put, List.setIfInBounds_toArray, List.set_cons_zero, List.set_cons_succ]
              refine tkI (i := 33) (v := ?v33g) rfl (Or.inl ⟨by rfl, ?hy33g⟩) ?rest33g
              case hy33g => (intro zz hSw; (try dsimp only at hSw); go_simp; (try with_reducible rfl))
              change wpAnyH _ _ _ _ _ _ _ (Act.put _ (some 43) _) _
              simp only [Act.put, List.setIfInBounds_toArray, List.set_cons_zero, List.set_cons_succ]
              refine wpAnyH_done (by kernel_rfl) ?_ _
              have BX := Lib.hid hHeld.2.2.2.2; clear hHeld SOF
              go_wp2_with fail
              go_roundw
              case rel => exact ⟨j + 1 + 1, by omega, by go_num, HL2.out, bel_tr HB.out BX.out (Nat.le_refl _)⟩
              case measure => simp [intV]; omega
    · obtain rfl : k = n := by omega
      have HE := Lib.hid (okJ_all HN.out HLO.out)
      go_wp2_with fail
      go_ret
      refine ⟨?_, HB.out⟩
      rw [HE.out]
      by_cases h12 : k ≤ 12
      · have : (k : Int) ≤ 12 := by omega
        simp [h12, this]
      · have : ¬ (k : Int) ≤ 12 := by omega
        simp [h12, this]
theorem specBins2_is {l : List Bi} {x : Bool} (h : okI l = x) (w : World) (a : Option Addr) (cap n : Nat) (hn : l.length = n) (hv : VwI w a cap l) (hm : ∀ c ∈ l, c.n.size ≤ 9223372036854775806) (hl : n ≤ 4194304) :
    Calls Tryz.prog 20 #[.slice a n cap] w fun e w' => e = .returned (.bool x) ∧ Below w.heap.size w w' :=
  (specBins2_any w a cap l n hn hv hm hl).mono fun _ _ ⟨he, hw⟩ => ⟨by rw [he, h], hw⟩
end Go.Proofs.YtfnnoehpahdgcaaGreatDoor.Cl
