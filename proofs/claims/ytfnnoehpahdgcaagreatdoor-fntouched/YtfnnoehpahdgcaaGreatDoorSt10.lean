/-
  Texts of mine, joined (part 10 of 11): what the law at hand reaches of them; each text's own words stand in the verifier's repo.
-/
import Derived.Test.YtfnnoehpahdgcaaGreatDoorSt9
import Derived.Test.YtfnnoehpahdgcaaGreatDoorRows
import Derived.WalkKit
import Derived.IntWalk
import Derived.Laws.Bits128
import Derived.Lib.Hide
import Derived.Lib.ParseIntBTie
import Derived.Lib.ParseIntBCases
import Derived.Lib.ItoaMem
import Derived.Lib.IndexMore
import Derived.Lib.Repeat
import Derived.WalkSpells
import Derived.Below
import Derived.Carry
import Derived.WalkSmall
import Derived.Laws.Closers25b
import Derived.Lib.Strings
import Derived.Lib.SmallJoins
import Derived.Lib.AppendIntMem
import Derived.Maps.AppendAt
import Derived.OwnWalk
import Derived.WalkLawsBesides
import Derived.Deep.QuietTactic
import Derived.BigQuiet
import Derived.Deep.RegionHeld3
import Derived.Laws.OwnMore
import Derived.Laws.StructEq
import Derived.BigFrame
import Derived.Deep.Upon
import Derived.Laws.CopyRow
import Derived.Laws.BytesArg
import Derived.RowKit3
import Derived.Shelf.Strconv.Itoa4
import Derived.Shelf.Strconv.ParseIntPublic10
import Derived.Shelf.Strconv.ErrVarParseInt
import Derived.Test.YtfnnoehpahdgcaaGreatDoorProg
import Derived.LaidMore
import Derived.Stop.LaidErr
import Derived.Lib.LaidTab
import Derived.RangeFuncWrites
import Derived.RangeFuncCalls
import Derived.RangeFuncBox
import Derived.RangeFuncNested
import Derived.RangeFuncLeaves
import Derived.Shelf.Abstract
import Derived.Shelf.RegionOpen
import Derived.OwnWalkIn
import Derived.TacticsInMore
import Derived.LoopNIn
import Derived.LoopIn
import Derived.Lib.Bytealg
import Derived.Deep.LoopGhost
import Derived.Lib.AtoiErrMem
import Derived.OpenShut
import Derived.Lib.ConvBytes
import Derived.Deep.RegionLaw
import Derived.Deep.AppendLies
import Derived.Lib.AppendZeros
import Derived.Defers
import Derived.Recover
import Derived.Lib.ItoaLen
import Derived.Sort.Walk0
import Derived.Lib.SlicesCompact
import Derived.ProofKit
import Derived.Handed
import Derived.SizedLaws
import Derived.ShutString
import Derived.Deep.Slices
import Derived.Deep.Fields
import Derived.ChangeSame
namespace Go.Proofs.YtfnnoehpahdgcaaGreatDoor.Cl
set_option linter.unusedVariables false
open Go.RowKit Wd Rp Cu Kp Lc
def lenV : Value → Nat | .slice _ n _ => n | _ => 0
set_option maxHeartbeats 4000000 in
set_option maxRecDepth 100000 in
theorem draw9_any (B b : Nat) (w : World) (hc : Cur B b w) : Calls Tryz.prog 67 #[.pointer (some ⟨b, 0, none⟩)] w (DrawsX 120 B b w) := by
  have hlt := hc.lt
  obtain ⟨s, hc⟩ := hc.exact
  obtain ⟨mu, hmu⟩ := falls
  have HF := Lib.hid hmu; clear hmu
  have HC := Lib.hid (deeds2 5 (by decide) (by decide) B b s w hc)
  have HS := Lib.hid (⟨But.refl b w, hc, hlt⟩ : StE w B b s w); clear hc
  generalize deedsM 2 5 s = q at *
  obtain ⟨m0, s0⟩ := q
  go_enter Tryz.func67, Tryz.ntmps67
  go_wp2_with fail
  refine HC.out.mono ?_; rintro e w0 ⟨v0, l0, rfl, o0, n0, q0, sm0, hc, hw⟩
  dsimp only at hc
  have HO0 := Lib.hid o0
  have HM0 := Lib.hid sm0
  have HS0 := Lib.hid (HS.out.draws hw hc); clear hc hw o0 sm0 q0 HS HC
  go_wp2_with fail
  go_loopg [3] (1 + mu s0) (fun k v wr => ∃ (l : List Tk) (st : S), OT w.heap.size wr v l ∧ SmT l ∧ l.length ≤ 2736 ∧ (l.length ≤ 120 ∨ 1 + mu st ≤ k) ∧ StE w B b st wr)
  case atStart => exact ⟨l0, s0, HO0.out, HM0.out, n0, Or.inr (Nat.le_refl _), HS0.out⟩
  case round =>
    clear HO0 HM0 HS0
    obtain ⟨l, st, ho, hsm, hl, hk, hst⟩ := hrel
    have HO := Lib.hid ho
    have HM := Lib.hid hsm
    have HS := Lib.hid hst
    have HK := Lib.hid hk
    obtain ⟨a, cap, rfl, hv⟩ := ho.form
    clear ho hsm hst hk hv
    by_cases hp : 120 < l.length
    · have i1 : decide ((120 : Int) < (l.length : Int)) = true := by simp; omega
      have hk : 1 + mu st ≤ gk := by rcases HK.out with h | h <;> omega
      have HD := Lib.hid (deeds1 4 (by decide) (by decide) B b st wr HS.out.cur)
      have HG := Lib.hid (show ¬ (deedsM 1 4 st).1 ≤ 120 → mu (deedsM 1 4 st).2 < mu st from HF.out st)
      generalize deedsM 1 4 st = q at *
      obtain ⟨m1, s1⟩ := q
      dsimp only at HG
      generalize hn : l.length = n at *
      go_wp2_with fail
      refine HD.out.mono ?_; rintro e w1 ⟨v1, l1, rfl, o1, n1, q1, sm1, hc, hw⟩
      dsimp only at q1 hc
      have HO1 := Lib.hid (o1.mono HS.out.size)
      have HM1 := Lib.hid sm1
      have HS1 := Lib.hid (HS.out.draws hw hc)
      have HQ := Lib.hid q1
      clear hc hw o1 sm1 q1
      go_wp2_with fail
      go_roundg (gk - 1)
      case measure => omega
      case rel =>
        refine ⟨l1, s1, HO1.out, HM1.out, by omega, ?_, HS1.out⟩
        have h1 := HG.out
        have h2 := HQ.out
        by_cases hg : m1 ≤ 120
        · exact Or.inl (by omega)
        · have := h1 hg
          exact Or.inr (by omega)
    · have i1 : decide ((120 : Int) < (l.length : Int)) = false := by simp; omega
      go_wp2_with fail
      go_ret
      exact ⟨_, l, rfl, HO.out, by omega, HM.out, HS.out.cur.cur, HS.out.but⟩
set_option maxHeartbeats 8000000 in
set_option maxRecDepth 100000 in
theorem draw9Any_any (B b : Nat) (w : World) (hc : Cur B b w) : Calls Tryz.prog 42 #[.pointer (some ⟨b, 0, none⟩)] w (DrawsX 121 B b w) := by
  have hlt := hc.lt
  have HS := Lib.hid (⟨But.refl b w, hc, hlt⟩ : St w B b w); clear hc
  go_enter Tryz.func42, Tryz.ntmps42
  go_wp2_with fail
  refine (draw9_any B b _ HS.out.cur).mono ?_; rintro e w1 ⟨v1, l1, rfl, o1, n1, sm1, hc, hw⟩
  have HO1 := Lib.hid o1
  have HM1 := Lib.hid sm1
  have HS1 := Lib.hid (HS.out.draws hw hc); clear hc hw o1 sm1 HS
  go_wp2_with fail
  refine (once_any B b _ _ HS1.out.cur (by decide) (by decide)).mono ?_; rintro e w2 ⟨t, rfl, hc, hw⟩
  have HO2 := Lib.hid (HO1.out.but hw hlt)
  have HS2 := Lib.hid (HS1.out.draws hw hc); clear hc hw HO1 HS1
  cases t
  · go_wp2_with fail
    refine (once_any B b _ _ HS2.out.cur (by decide) (by decide)).mono ?_; rintro e w3 ⟨t, rfl, hc, hw⟩
    have HO3 := Lib.hid (HO2.out.but hw hlt)
    have HS3 := Lib.hid (HS2.out.draws hw hc); clear hc hw HO2 HS2
    cases t
    · go_wp2_with fail
      go_ret
      exact ⟨_, l1, rfl, HO3.out, by omega, HM1.out, HS3.out.cur, HS3.out.but⟩
    · have HO4 := Lib.hid (show OT w.heap.size (w3.alloc (.cells #[] 9)) (.slice (some ⟨w3.heap.size, 0, none⟩) 0 0) [] from O1.start HS3.out.size)
      have HS4 := Lib.hid (HS3.out.alloc (.cells #[] 9))
      clear HO3
      go_wp2_with fail
      go_loopw [3] (fun v wr => ∃ (l : List Tk), OT w.heap.size wr v l ∧ SmT l ∧ l.length ≤ 121 ∧ St w B b wr) (fun v _ => 121 - lenV v)
      case atStart => exact ⟨[], HO4.out, (fun c hc => by cases hc), by simp, HS4.out⟩
      case round =>
        clear HO4 HS4 HM1 HS3
        obtain ⟨l, ho, hsm, hl, hst⟩ := hrel
        have HS := Lib.hid hst
        obtain ⟨a, cap, rfl, hv⟩ := ho.form
        have HO := Lib.hid ho
        have HM := Lib.hid hsm
        clear ho hsm hst hv
        generalize hn : l.length = n at *
        have HBL := Lib.hid (below_any B b 2 wr HS.out.cur (by decide) (by decide))
        go_wp2_with fail
        refine HBL.out.mono ?_; rintro e w5 ⟨y, rfl, y0, y1, hc, hw⟩
        have HO5 := Lib.hid (HO.out.but hw hlt)
        have HS5 := Lib.hid (HS.out.draws hw hc); clear hc hw HO HS HBL
        by_cases hp : (n : Int) < 120 + y
        · have i1 : decide ((n : Int) < 120 + y) = true := by simpa using hp
          have HV := Lib.hid (litV w5 [[115, 116, 111, 112]] (by simp))
          have HP := Lib.hid (HS5.out.alloc (.cells ([[115, 116, 111, 112]].map tv).toArray 9))
          have HQ := Lib.hid (HO5.out.next (bel1 w5 (.cells ([[115, 116, 111, 112]].map tv).toArray 9)))
          have HN := Lib.hid hn
          go_wp2_with (first
            | (at_builtin; refine append_tx rfl (.tmp 20) (.tmp 21) rfl (base := w.heap.size) (l := l) (m := [[115, 116, 111, 112]]) rfl rfl rfl HQ.out HV.out (by simp; omega) HP.out.size ?_; intro v6 w6 oo gg; have HS6 := Lib.hid (HP.out.grown gg (fun k hk => OT.lt HQ.out k hk)); have HO6 := Lib.hid oo; clear oo gg))
          obtain ⟨a6, c6, e6, -⟩ := HO6.out.form
          subst e6
          go_roundw
          case rel => exact ⟨_, HO6.out, HM.out.app (SmT.one (by decide)), by have := HN.out; simp; omega, HS6.out⟩
          case measure => have := HN.out; simp [lenV]; omega
        · have i1 : decide ((n : Int) < 120 + y) = false := by simpa using hp
          go_wp2_with fail
          go_ret
          exact ⟨_, l, rfl, HO5.out, by omega, HM.out, HS5.out.cur, HS5.out.but⟩
  · obtain ⟨a, cap, rfl, hv⟩ := HO2.out.form
    have HV := Lib.hid hv
    have HBB := Lib.hid (bend_any B b w2 HS2.out.cur a cap l1 l1.length rfl hv (by omega) HM1.out); clear hv
    generalize hn : l1.length = n at *
    go_wp2_with fail
    refine HBB.out.mono ?_; rintro e w2 ⟨v1, l1, rfl, o1, n1, sm1, hc, hw⟩
    have HO1 := Lib.hid (o1.mono HS2.out.size)
    have HM1 := Lib.hid sm1
    have HS1 := Lib.hid (HS2.out.draws hw hc); clear hc hw o1 sm1 HS2 HV HBB HO2 hn
    have HO2 := HO1
    have HS2 := HS1
    clear HO1 HS1
    go_wp2_with fail
    refine (once_any B b _ _ HS2.out.cur (by decide) (by decide)).mono ?_; rintro e w3 ⟨t, rfl, hc, hw⟩
    have HO3 := Lib.hid (HO2.out.but hw hlt)
    have HS3 := Lib.hid (HS2.out.draws hw hc); clear hc hw HO2 HS2
    cases t
    · go_wp2_with fail
      go_ret
      exact ⟨_, l1, rfl, HO3.out, by omega, HM1.out, HS3.out.cur, HS3.out.but⟩
    · have HO4 := Lib.hid (show OT w.heap.size (w3.alloc (.cells #[] 9)) (.slice (some ⟨w3.heap.size, 0, none⟩) 0 0) [] from O1.start HS3.out.size)
      have HS4 := Lib.hid (HS3.out.alloc (.cells #[] 9))
      clear HO3
      go_wp2_with fail
      go_loopw [3] (fun v wr => ∃ (l : List Tk), OT w.heap.size wr v l ∧ SmT l ∧ l.length ≤ 121 ∧ St w B b wr) (fun v _ => 121 - lenV v)
      case atStart => exact ⟨[], HO4.out, (fun c hc => by cases hc), by simp, HS4.out⟩
      case round =>
        clear HO4 HS4 HM1 HS3
        obtain ⟨l, ho, hsm, hl, hst⟩ := hrel
        have HS := Lib.hid hst
        obtain ⟨a, cap, rfl, hv⟩ := ho.form
        have HO := Lib.hid ho
        have HM := Lib.hid hsm
        clear ho hsm hst hv
        generalize hn : l.length = n at *
        have HBL := Lib.hid (below_any B b 2 wr HS.out.cur (by decide) (by decide))
        go_wp2_with fail
        refine HBL.out.mono ?_; rintro e w5 ⟨y, rfl, y0, y1, hc, hw⟩
        have HO5 := Lib.hid (HO.out.but hw hlt)
        have HS5 := Lib.hid (HS.out.draws hw hc); clear hc hw HO HS HBL
        by_cases hp : (n : Int) < 120 + y
        · have i1 : decide ((n : Int) < 120 + y) = true := by simpa using hp
          have HV := Lib.hid (litV w5 [[115, 116, 111, 112]] (by simp))
          have HP := Lib.hid (HS5.out.alloc (.cells ([[115, 116, 111, 112]].map tv).toArray 9))
          have HQ := Lib.hid (HO5.out.next (bel1 w5 (.cells ([[115, 116, 111, 112]].map tv).toArray 9)))
          have HN := Lib.hid hn
          go_wp2_with (first
            | (at_builtin; refine append_tx rfl (.tmp 20) (.tmp 21) rfl (base := w.heap.size) (l := l) (m := [[115, 116, 111, 112]]) rfl rfl rfl HQ.out HV.out (by simp; omega) HP.out.size ?_; intro v6 w6 oo gg; have HS6 := Lib.hid (HP.out.grown gg (fun k hk => OT.lt HQ.out k hk)); have HO6 := Lib.hid oo; clear oo gg))
          obtain ⟨a6, c6, e6, -⟩ := HO6.out.form
          subst e6
          go_roundw
          case rel => exact ⟨_, HO6.out, HM.out.app (SmT.one (by decide)), by have := HN.out; simp; omega, HS6.out⟩
          case measure => have := HN.out; simp [lenV]; omega
        · have i1 : decide ((n : Int) < 120 + y) = false := by simpa using hp
          go_wp2_with fail
          go_ret
          exact ⟨_, l, rfl, HO5.out, by omega, HM.out, HS5.out.cur, HS5.out.but⟩
end Go.Proofs.YtfnnoehpahdgcaaGreatDoor.Cl
namespace Go.Proofs.YtfnnoehpahdgcaaGreatDoor.Cl
set_option linter.unusedVariables false
open Go.RowKit Wd Rp Kp Cu
set_option maxRecDepth 100000 in
set_option maxHeartbeats 1000000 in
theorem drawFuel_any (B b : Nat) (w : World) (hc : Cur B b w) : Calls Tryz.prog 45 #[.pointer (some ⟨b, 0, none⟩)] w (Draws B b w (-1) 401) := by
  have HC := Lib.hid hc; clear hc
  go_enter Tryz.func45, Tryz.ntmps45
  go_wp2_with fail
  refine (once_any B b _ _ HC.out (by decide) (by decide)).mono ?_; rintro e w1 ⟨t, rfl, hc1, hw1⟩
  cases t
  · go_wp2_with fail
    refine (below_any B b _ _ hc1 (by decide) (by decide)).mono ?_; rintro e w2 ⟨y, rfl, y0, y1, hc2, hw2⟩
    go_wp2_with fail
    go_ret
    exact ⟨_, rfl, by omega, by omega, hc2, hw1.trans hw2⟩
  · go_wp2_with fail
    have hlt := hc1.lt
    refine (below_any B b _ _ (hc1.alloc _) (by decide) (by decide)).mono ?_; rintro e w2 ⟨y, rfl, y0, y1, hc2, hw2⟩
    obtain ⟨n, rfl⟩ := Int.eq_ofNat_of_zero_le y0
    obtain ⟨v, hv, v0, v1⟩ := pick_cell (lo := -1) (hi := 401) hlt hw2 (fun k hk => by
      have hk : k < 4 := hk
      match k, hk with
      | 0, _ => exact ⟨_, rfl, by decide, by decide⟩
      | 1, _ => exact ⟨_, rfl, by decide, by decide⟩
      | 2, _ => exact ⟨_, rfl, by decide, by decide⟩
      | 3, _ => exact ⟨_, rfl, by decide, by decide⟩) n (by show n < 4; omega)
    have n1 : (n : Int) < 4 := by omega
    go_wp2_with fail
    go_ret
    exact ⟨_, rfl, v0, v1, hc2, hw1.trans (((But.refl b w1).alloc _).trans hw2)⟩
def DrewMe (w : World) (e : Ending) (w' : World) : Prop := ∃ (v : Value) (l : List Tk) (bv : Value) (bs : List Bi) (ga : Option Addr) (gn gc : Nat) (gs : List Int) (f : Int), e = .returned (.tuple #[v, bv, .slice ga gn gc, .int .i64 f]) ∧ OT w.heap.size w' v l ∧ l.length ≤ 121 ∧ SmT l ∧ OwI w.heap.size w' bv bs ∧ bs.length ≤ 20 ∧ SmI bs ∧ gs.length = gn ∧ V1 w' ga gc (inL gs) ∧ gn ≤ 4 ∧ I64s gs ∧ -1 ≤ f ∧ f ≤ 401 ∧ Below w.heap.size w w'
set_option maxHeartbeats 4000000 in
set_option maxRecDepth 100000 in
theorem drawMeans_any (w : World) (a : Option Addr) (len cap : Nat) (hb : IsBytes w a len) (hl : len ≤ 4096) : Calls Tryz.prog 8 #[.slice a len cap] w (DrewMe w) := by
  have HB := Lib.hid hb; clear hb
  go_enter Tryz.func8, Tryz.ntmps8
  go_wp2_with fail
  refine (new_any _ a len cap HB.out hl).mono ?_; rintro e w1 ⟨b, rfl, hc1, hw1⟩
  have hbw : w.heap.size ≤ b := hc1.le
  have B1 := Lib.hid hw1
  have HS := Lib.hid (show Cu.St w1 _ b w1 from ⟨But.refl b w1, hc1, hc1.lt⟩); clear hw1 hc1
  have HLT := Lib.hid (show b < w1.heap.size from HS.out.lt)
  go_wp2_with fail
  refine (draw9Any_any _ b _ HS.out.cur).mono ?_; rintro e w2 ⟨v, l, rfl, o2, n2, s2, hc2, hw2⟩
  have HS2 := Lib.hid (HS.out.draws hw2 hc2)
  have HM := Lib.hid s2
  have HO2 := Lib.hid o2; clear o2 s2 hc2 hw2 HS
  go_wp2_with fail
  refine (drawAnyI_any _ b _ HS2.out.cur).mono ?_; rintro e w3 ⟨bv, bs, rfl, o3, n3, s3, hc3, hw3⟩
  have HO3 := Lib.hid (HO2.out.but hw3 HLT.out)
  have HB3 := Lib.hid (o3.mono HS2.out.size)
  have HS3 := Lib.hid (HS2.out.draws hw3 hc3)
  have HMB := Lib.hid s3; clear o3 s3 hc3 hw3 HS2 HO2
  go_wp2_with fail
  refine (drawGiven_any _ b _ HS3.out.cur).mono ?_; rintro e w4 ⟨ga, gn, gc, gs, rfl, hgn, hgo, hg4, hgi, hc4, hw4⟩
  have HO4 := Lib.hid (HO3.out.but hw4 HLT.out)
  have HB4 := Lib.hid (HB3.out.but hw4 HLT.out)
  have HS4 := Lib.hid (HS3.out.draws hw4 hc4)
  have HG := Lib.hid (And.intro hgn (And.intro hgo hgi))
  have HL3 := Lib.hid (show b < w3.heap.size from Nat.lt_of_lt_of_le HLT.out HS3.out.size); clear hc4 hw4 hgn hgo hgi HS3 HO3 HB3
  go_wp2_with fail
  refine (drawFuel_any _ b _ HS4.out.cur).mono ?_; rintro e w5 ⟨f, rfl, f0, f1, hc5, hw5⟩
  have HO5 := Lib.hid ((HO4.out.but hw5 HLT.out).mono B1.out.size)
  have HB5 := Lib.hid ((HB4.out.but hw5 HLT.out).mono B1.out.size)
  have HG5 := Lib.hid (show V1 w5 ga gc (inL gs) by
    obtain ⟨_, _, e2, hv⟩ := (ON.but HG.out.2.1 hw5 HL3.out).form
    cases e2; exact hv)
  have HS5 := Lib.hid (HS4.out.draws hw5 hc5); clear hc5 hw5
  have HF := Lib.hid (B1.out.trans (HS5.out.but.below (B := w.heap.size) hbw B1.out.size))
  go_wp2_with fail
  refine bodyPost_ret (v := .tuple #[v, bv, .slice ga gn gc, .int .i64 f]) (by simp [results, Tryz.results8, go_sem]) rfl ⟨v, l, bv, bs, ga, gn, gc, gs, f, rfl, HO5.out, n2, HM.out, HB5.out, n3, HMB.out, HG.out.1, HG5.out, hg4, HG.out.2.2, f0, f1, HF.out⟩
end Go.Proofs.YtfnnoehpahdgcaaGreatDoor.Cl
namespace Go.Proofs.YtfnnoehpahdgcaaGreatDoor.Cl
set_option linter.unusedVariables false
open Go.RowKit Wd Rp Kp Cu
theorem Tri.but {q b : Nat} {x y z : Value} {w w' : World} (h : Tri q x y z w) (hb : But b w w') (hq : q ≠ b) : Tri q x y z w' := by
  have e := hb.block q h.2.2 hq
  obtain ⟨⟨h0, h1, h2⟩, ⟨f0, f1, f2⟩, hl⟩ := h
  exact ⟨⟨(World.cell?_of_block (w := w) e).trans h0, (World.cell?_of_block (w := w) e).trans h1, (World.cell?_of_block (w := w) e).trans h2⟩, ⟨(World.frozen?_of_block (w := w) e).trans f0, (World.frozen?_of_block (w := w) e).trans f1, (World.frozen?_of_block (w := w) e).trans f2⟩, Nat.lt_of_lt_of_le hl hb.size⟩
theorem Tri.set {q i : Nat} {x y z : Value} {w : World} (h : Tri q x y z w) (hi : i < 3) (u : Value) : Tri q (if i = 0 then u else x) (if i = 1 then u else y) (if i = 2 then u else z) (w.setCell ⟨q, i, none⟩ u) := by
  obtain ⟨⟨h0, h1, h2⟩, ⟨f0, f1, f2⟩, hl⟩ := h
  refine ⟨?_, by simp only [World.frozen?_setCell]; exact ⟨f0, f1, f2⟩, by rw [World.size_setCell]; exact hl⟩
  match i, hi with
  | 0, _ => exact ⟨World.cell?_setCell_same' _ _ _ (by rw [h0]; rfl), (World.cell?_setCell_other _ _ _ _ (ofst (by decide))).trans h1, (World.cell?_setCell_other _ _ _ _ (ofst (by decide))).trans h2⟩
  | 1, _ => exact ⟨(World.cell?_setCell_other _ _ _ _ (ofst (by decide))).trans h0, World.cell?_setCell_same' _ _ _ (by rw [h1]; rfl), (World.cell?_setCell_other _ _ _ _ (ofst (by decide))).trans h2⟩
  | 2, _ => exact ⟨(World.cell?_setCell_other _ _ _ _ (ofst (by decide))).trans h0, (World.cell?_setCell_other _ _ _ _ (ofst (by decide))).trans h1, World.cell?_setCell_same' _ _ _ (by rw [h2]; rfl)⟩
theorem Tri.off {q g i : Nat} {x y z : Value} {w : World} (h : Tri q x y z w) (hg : q ≠ g) (u : Value) : Tri q x y z (w.setCell ⟨g, i, none⟩ u) := by
  have e := Below.heap_setCell w ⟨g, i, none⟩ u q hg
  obtain ⟨⟨h0, h1, h2⟩, ⟨f0, f1, f2⟩, hl⟩ := h
  exact ⟨⟨(World.cell?_of_block (w := w) e).trans h0, (World.cell?_of_block (w := w) e).trans h1, (World.cell?_of_block (w := w) e).trans h2⟩, ⟨(World.frozen?_of_block (w := w) e).trans f0, (World.frozen?_of_block (w := w) e).trans f1, (World.frozen?_of_block (w := w) e).trans f2⟩, by rw [World.size_setCell]; exact hl⟩
theorem OwI.putN {B q : Nat} {w : World} {v : Value} {l : List Bi} {x y z : Value} (h : OwI B w v l) (hq : ∀ k, v.ownBlock = some k → k ≠ q) : OwI B (Cl.put3 w q x y z) v l :=
  row_next h fun g hg _ => put3_block w q g x y z (hq g hg)
theorem Tri.putN {q q2 : Nat} {x y z x' y' z' : Value} {w : World} (h : Tri q x y z w) (hq : q ≠ q2) : Tri q x y z (Cl.put3 w q2 x' y' z') := ((h.off hq _).off hq _).off hq _
theorem isB_next {w w' : World} {a : Option Addr} {len : Nat} (h : IsBytes w a len) (hb : Below w.heap.size w w') : IsBytes w' a len := ⟨h.1, fun hl => by
  obtain ⟨ab, ao, h1, h2, h3⟩ := h.2 hl
  refine ⟨ab, ao, h1, Nat.lt_of_lt_of_le h2 hb.size, fun k hk => ?_⟩
  obtain ⟨z, h4, h5⟩ := h3 k hk
  exact ⟨z, (World.cell?_of_block (w := w) (hb.block ab h2)).trans h4, h5⟩⟩
end Go.Proofs.YtfnnoehpahdgcaaGreatDoor.Cl
namespace Go.Proofs.YtfnnoehpahdgcaaGreatDoor.Cu
set_option linter.unusedVariables false
open Go.RowKit
set_option maxHeartbeats 1000000 in
theorem pick_below (w : World) (a : Option Addr) (len cap : Nat) (seed n : Int) (hb : IsBytes w a len) (hl : len ≤ 4096) (s0 : 0 ≤ seed) (s1 : seed ≤ 100) (n0 : 1 ≤ n) (n1 : n ≤ 9223372036854775807) :
    Calls Tryz.prog 18 #[.slice a len cap, .int .i64 seed, .int .i64 n] w fun e w' => ∃ r : Int, e = .returned (.int .i64 r) ∧ 0 ≤ r ∧ r < n ∧ w = w' := by
  have HB := Lib.hid hb; clear hb
  have d0 : ¬ n = 0 := by omega
  have d1 : (n == 0) = false := by rw [beq_eq_false_iff_ne]; exact d0
  go_enter Tryz.func18, Tryz.ntmps18
  go_wp2
  go_loop [7, 8] (fun h i => ∃ (k : Nat) (g : Int), k ≤ len ∧ i = .int .i64 k ∧ h = .int .i64 g ∧ 0 ≤ g ∧ g ≤ 2000000) (fun _ i => len - (intOf i).toNat)
  case atStart => exact ⟨0, _, Nat.zero_le _, rfl, rfl, by omega, by omega⟩
  case round =>
    obtain ⟨k, g, hk, rfl, rfl, g0, g1⟩ := hrel
    by_cases hlt : k < len
    · obtain ⟨ab, ao, ha, hab, hcell⟩ := HB.out.2 (by omega)
      subst ha
      obtain ⟨z, hz, z0, z1⟩ := hcell k hlt
      clear hcell
      go_wp2
      go_round
      case rel => exact ⟨k + 1, _, by omega, by go_num, rfl, Int.emod_nonneg _ (by decide), by omega⟩
      case measure => simp [intOf]; omega
    · go_wp2
      go_ret
      exact ⟨_, rfl, Int.emod_nonneg _ d0, Int.emod_lt_of_pos _ (by omega), rfl⟩
end Go.Proofs.YtfnnoehpahdgcaaGreatDoor.Cu
namespace Go.Proofs.YtfnnoehpahdgcaaGreatDoor.Cl
set_option linter.unusedVariables false
open Go.RowKit Wd Rp Cu Kp
theorem likeEnd_self (w : World) (c f : Int) (a b : Option Addr) (ca cb : Nat) (l : List Bi) (n : Nat) (hn : l.length = n) (hv : VwI w a ca l) (hu : VwI w b cb l) (hl : n ≤ 4194304) :
    Calls Tryz.prog 12 #[.agg #[.int .i64 c, .slice a n ca, .int .i64 f], .agg #[.int .i64 c, .slice b n cb, .int .i64 f]] w fun e w' => e = .returned (.bool true) ∧ Below w.heap.size w w' := by
  have := likeEnd_any w c f c f a b ca cb l l n n hn hn hv hu hl
  rw [sameE_self] at this
  exact this
theorem likeBins_self (w : World) (a b : Option Addr) (ca cb : Nat) (l : List Bi) (n : Nat) (hn : l.length = n) (hv : VwI w a ca l) (hu : VwI w b cb l) (hl : n ≤ 4194304) :
    Calls Tryz.prog 17 #[.slice a n ca, .slice b n cb] w fun e w' => e = .returned (.bool true) ∧ Below w.heap.size w w' := by
  have := likeBins_val w a b ca cb l l n n hn hn hv hu hl
  rw [sameL_self] at this
  exact this
theorem ok_names {l : List Bi} (h : okI l = true) : ∀ c ∈ l, c.n.size ≤ 9223372036854775806 := fun c hc => by
  have h1 := (okI_iff.1 h).2.2 c hc
  unfold Bi.ok at h1
  rw [Bool.and_eq_true] at h1
  have h2 := nm_len h1.1
  have h3 : c.n.data.toList.length = c.n.data.size := Array.length_toList
  have h4 : c.n.size = c.n.data.size := rfl
  omega
end Go.Proofs.YtfnnoehpahdgcaaGreatDoor.Cl
namespace Go.Proofs.YtfnnoehpahdgcaaGreatDoor.Cl
set_option linter.unusedVariables false
open Go.RowKit Wd Rp Cu Kp
def pfx (s : Tk) : List Tk → Nat
  | [] => 0
  | x :: r => if Op.bytesLess x s then pfx s r + 1 else 0
theorem pfx_is {s : Tk} : ∀ {l : List Tk} {k : Nat}, (∀ (j : Nat) (y : Tk), j < k → l[j]? = some y → Op.bytesLess y s = true) → (k = l.length ∨ ∃ c, l[k]? = some c ∧ Op.bytesLess c s = false) → pfx s l = k
  | [], k, _, h2 => by
    rcases h2 with rfl | ⟨c, hc, -⟩
    · rfl
    · simp at hc
  | x :: r, 0, _, h2 => by
    rcases h2 with h | ⟨c, hc, hb⟩
    · simp at h
    · simp at hc; subst hc; rw [pfx, if_neg (by rw [hb]; simp)]
  | x :: r, k + 1, h1, h2 => by
    rw [pfx, if_pos (h1 0 x (by omega) rfl)]
    congr 1
    refine pfx_is (fun j y hj hy => h1 (j + 1) y (by omega) (by simpa using hy)) ?_
    rcases h2 with h | ⟨c, hc, hb⟩
    · left; simp at h; exact h
    · right; exact ⟨c, by simpa using hc, hb⟩
def ptL (s : Tk) (l : List Tk) : List Tk := if l[pfx s l]? = some s then l else (l.take (pfx s l) ++ [s]) ++ l.drop (pfx s l)
set_option maxHeartbeats 8000000 in
set_option maxRecDepth 100000 in
theorem l9Put_any (w : World) (B : Nat) (hB : B ≤ w.heap.size) (a : Option Addr) (cap : Nat) (l : List Tk) (n : Nat) (s : Tk) (hn : l.length = n) (ho : OT B w (.slice a n cap) l) (hl : n ≤ 4194304) :
    Calls Tryz.prog 58 #[.slice a n cap, .string (tx s)] w fun e w' => ∃ v, e = .returned v ∧ OT B w' v (ptL s l) ∧ Below w.heap.size w w' := by
  have HO := Lib.hid ho
  have HV := Lib.hid (OT.vw ho); clear ho
  have HN := Lib.hid hn
  go_enter Tryz.func58, Tryz.ntmps58
  go_wp2_with fail
  go_loopw [5] (fun i wr => ∃ k : Nat, k ≤ n ∧ i = .int .i64 (k : Int) ∧ (∀ (j : Nat) (y : Tk), j < k → l[j]? = some y → Op.bytesLess y s = true) ∧ wr = w) (fun i _ => n - intV i)
  case atStart => exact ⟨0, Nat.zero_le _, rfl, (fun j y hj => by omega), rfl⟩
  case round =>
    obtain ⟨k, hk, rfl, hlow, rfl⟩ := hrel
    have HLO := Lib.hid hlow; clear hlow
    by_cases hlt : k < n
    · obtain ⟨c, hc⟩ : ∃ c, l[k]? = some c := ⟨l[k]'(by have := HN.out; omega), List.getElem?_eq_getElem _⟩
      obtain ⟨g, o, rfl, hg, c0⟩ := HV.out.tx hc
      have t1 : decide ((k : Int) < (n : Int)) = true := by simpa using hlt
      have t2 : decide (k < n) = true := by simpa using hlt
      have i1 : (k : Int) + 1 ≤ 9223372036854775807 := by omega
      have HC := Lib.hid hc
      clear hc hg
      cases hb : Op.bytesLess c s with
      | true =>
        have q1 : Op.bytesLess (tx c).toList (tx s).toList = true := by rw [Lib.toList_data, tx_data, Lib.toList_data, tx_data]; exact hb
        have HBL := Lib.hid hb; clear hb
        go_wp2_with fail
        go_roundw
        case rel =>
          refine ⟨k + 1, by omega, by go_num, fun j y hj hy => ?_, trivial⟩
          by_cases e : j = k
          · subst e; rw [HC.out] at hy; cases hy; exact HBL.out
          · exact HLO.out j y (by omega) hy
        case measure => simp [intV]; omega
      | false =>
        have q1 : Op.bytesLess (tx c).toList (tx s).toList = false := by rw [Lib.toList_data, tx_data, Lib.toList_data, tx_data]; exact hb
        have HP := Lib.hid (pfx_is (s := s) HLO.out (Or.inr ⟨c, HC.out, hb⟩)); clear hb
        by_cases he : c = s
        · subst he
          have q2 := tx_beq c
          have HR := Lib.hid (show ptL c l = l by unfold ptL; rw [HP.out, if_pos HC.out])
          go_wp2_with fail
          go_ret
          exact ⟨_, rfl, by rw [HR.out]; exact HO.out, Below.refl _ _⟩
        · have q2 := tx_ne he
          have HR := Lib.hid (show ptL s l = (l.take k ++ [s]) ++ l.drop k by unfold ptL; rw [HP.out, if_neg (by rw [HC.out]; intro e; cases e; exact he rfl)])
          have hcp : n ≤ cap := by have := HV.out.1; rw [txL_len, HN.out] at this; exact this
          have hr1 : ∀ w, (Instr.slice 24 (.slice (some ⟨g, o, none⟩) n cap) none (some (.int .i64 (k : Int))) none).run Tryz.prog w = .ok (.slice (some ⟨g, o, none⟩) k cap) w := fun w => cut1_to 24 (by kernel_rfl) (fun w => by exact Tryz.sizeOf9 w) (some ⟨g, o, none⟩) n cap k (by omega) hcp w
          obtain ⟨b2, c2, hr2, hv2⟩ := cut1_from 24 (by kernel_rfl) (fun w => by exact Tryz.sizeOf9 w) (some ⟨g, o, none⟩) n cap k (by omega)
          have HD := Lib.hid (show V1 wr b2 c2 (txL (l.drop k)) by have := hv2 wr (txL l) HV.out (by rw [txL_len]; exact HN.out); unfold txL at this ⊢; rwa [← List.map_drop] at this); clear hv2
          have HK := Lib.hid (show V1 wr (some ⟨g, o, none⟩) cap (txL (l.take k)) by have := HV.out.take k; unfold txL at this ⊢; rwa [← List.map_take] at this)
          have HT1 := Lib.hid (l1Texts_any wr b2 c2 (l.drop k) (n - k) (by rw [List.length_drop, HN.out]) HD.out (by omega))
          go_wp2_with fail
          refine HT1.out.mono ?_; rintro e w1 ⟨v1, rfl, o1, b1⟩
          have HK1 := Lib.hid (HK.out.below b1)
          have B1 := Lib.hid b1; clear b1
          have HO1 := Lib.hid o1; clear o1
          have HT2 := Lib.hid (l1Texts_any w1 (some ⟨g, o, none⟩) cap (l.take k) k (by rw [List.length_take, HN.out]; omega) HK1.out (by omega))
          go_wp2_with fail
          refine HT2.out.mono ?_; rintro e w2 ⟨v2, rfl, o2, b2'⟩
          have HO2 := Lib.hid o2
          have HO1' := Lib.hid (HO1.out.next b2')
          have B2 := Lib.hid (bel_tr B1.out b2' (Nat.le_refl _))
          have hw1 : wr.heap.size ≤ w1.heap.size := B1.out.size
          have hlow1 : ∀ k, v1.ownBlock = some k → k < w1.heap.size := OT.low HO1.out
          have hw2 : w1.heap.size ≤ w2.heap.size := b2'.size
          clear o2 b2'
          obtain ⟨a1, c1, rfl, hv1⟩ := HO1'.out.form
          clear hv1
          have HLV := Lib.hid (litT (B := 0) w2 [s] (by simp))
          have HQ := Lib.hid (HO2.out.next (bel1 w2 (.cells ([s].map tv).toArray 9)))
          have HQ1 := Lib.hid (HO1'.out.next (bel1 w2 (.cells ([s].map tv).toArray 9)))
          have BQ := Lib.hid (bel_tr B2.out (bel1 w2 (.cells ([s].map tv).toArray 9)) (Nat.le_refl _))
          have HLN := Lib.hid (show (l.take k).length = k ∧ (l.drop k).length = n - k from ⟨by rw [List.length_take, HN.out]; omega, by rw [List.length_drop, HN.out]⟩)
          go_wp2_with (first
            | (at_builtin; refine append_tx rfl (.tmp 41) (.tmp 43) rfl (base := w1.heap.size) (l := l.take k) (m := [s]) rfl rfl rfl HQ.out HLV.out (by have := HLN.out.1; simp; omega) (Nat.le_trans hw2 (by simp)) ?_; intro v3 w3 oo gg; have HO3 := Lib.hid oo; have G3 := Lib.hid gg; have HQ3 := Lib.hid (HQ1.out.grown gg (fun k hk e => by have := hlow1 k hk; have := OT.lt HQ.out k e; omega)); clear oo gg)
            | (at_builtin; refine append_tx rfl (.tmp 44) (.tmp 45) rfl (base := w1.heap.size) (l := l.take k ++ [s]) (m := l.drop k) rfl rfl HLN.out.2 HO3.out (OT.vw HQ3.out) (by have := HLN.out.1; have := HLN.out.2; simp; omega) (Nat.le_trans (Nat.le_trans hw2 (by simp)) G3.out.size) ?_; intro v4 w4 oo gg; have HO4 := Lib.hid oo; have G4 := Lib.hid gg; clear oo gg))
          go_ret
          refine ⟨_, rfl, by rw [HR.out]; exact HO4.out.mono (Nat.le_trans hB hw1), ?_⟩
          exact (BQ.out.grown G3.out BQ.out.size (fun k hk => by have := OT.lt HQ.out k hk; omega)).grown G4.out (Nat.le_trans BQ.out.size G3.out.size) (fun k hk => by have := OT.lt HO3.out k hk; omega)
    · obtain rfl : k = n := by omega
      have t1 : decide ((k : Int) < (k : Int)) = false := by simp
      have HP := Lib.hid (pfx_is (s := s) HLO.out (Or.inl HN.out.symm))
      have HR := Lib.hid (show ptL s l = (l.take k ++ [s]) ++ l.drop k by unfold ptL; rw [HP.out, if_neg (by rw [List.getElem?_eq_none (by have := HN.out; omega)]; intro e; cases e)])
      have hcp : k ≤ cap := by have := HV.out.1; rw [txL_len, HN.out] at this; exact this
      have hr1 : ∀ w, (Instr.slice 24 (.slice a k cap) none (some (.int .i64 (k : Int))) none).run Tryz.prog w = .ok (.slice a k cap) w := fun w => cut1_to 24 (by kernel_rfl) (fun w => by exact Tryz.sizeOf9 w) a k cap k (by omega) hcp w
      obtain ⟨b2, c2, hr2, hv2⟩ := cut1_from 24 (by kernel_rfl) (fun w => by exact Tryz.sizeOf9 w) a k cap k (by omega)
      have HD := Lib.hid (show V1 wr b2 c2 (txL (l.drop k)) by have := hv2 wr (txL l) HV.out (by rw [txL_len]; exact HN.out); unfold txL at this ⊢; rwa [← List.map_drop] at this); clear hv2
      have HK := Lib.hid (show V1 wr a cap (txL (l.take k)) by have := HV.out.take k; unfold txL at this ⊢; rwa [← List.map_take] at this)
      have HT1 := Lib.hid (l1Texts_any wr b2 c2 (l.drop k) 0 (by have := HN.out; rw [List.length_drop]; omega) HD.out (by omega))
      go_wp2_with fail
      refine HT1.out.mono ?_; rintro e w1 ⟨v1, rfl, o1, b1⟩
      have HK1 := Lib.hid (HK.out.below b1)
      have B1 := Lib.hid b1; clear b1
      have HO1 := Lib.hid o1; clear o1
      have HT2 := Lib.hid (l1Texts_any w1 a cap (l.take k) k (by rw [List.length_take, HN.out]; omega) HK1.out (by omega))
      go_wp2_with fail
      refine HT2.out.mono ?_; rintro e w2 ⟨v2, rfl, o2, b2'⟩
      have HO2 := Lib.hid o2
      have HO1' := Lib.hid (HO1.out.next b2')
      have B2 := Lib.hid (bel_tr B1.out b2' (Nat.le_refl _))
      have hw1 : wr.heap.size ≤ w1.heap.size := B1.out.size
      have hlow1 : ∀ k, v1.ownBlock = some k → k < w1.heap.size := OT.low HO1.out
      have hw2 : w1.heap.size ≤ w2.heap.size := b2'.size
      clear o2 b2'
      obtain ⟨a1, c1, rfl, hv1⟩ := HO1'.out.form
      clear hv1
      have HLV := Lib.hid (litT (B := 0) w2 [s] (by simp))
      have HQ := Lib.hid (HO2.out.next (bel1 w2 (.cells ([s].map tv).toArray 9)))
      have HQ1 := Lib.hid (HO1'.out.next (bel1 w2 (.cells ([s].map tv).toArray 9)))
      have BQ := Lib.hid (bel_tr B2.out (bel1 w2 (.cells ([s].map tv).toArray 9)) (Nat.le_refl _))
      have HLN := Lib.hid (show (l.take k).length = k ∧ (l.drop k).length = 0 from ⟨by rw [List.length_take, HN.out]; omega, by have := HN.out; rw [List.length_drop]; omega⟩)
      go_wp2_with (first
        | (at_builtin; refine append_tx rfl (.tmp 41) (.tmp 43) rfl (base := w1.heap.size) (l := l.take k) (m := [s]) rfl rfl rfl HQ.out HLV.out (by have := HLN.out.1; simp; omega) (Nat.le_trans hw2 (by simp)) ?_; intro v3 w3 oo gg; have HO3 := Lib.hid oo; have G3 := Lib.hid gg; have HQ3 := Lib.hid (HQ1.out.grown gg (fun k hk e => by have := hlow1 k hk; have := OT.lt HQ.out k e; omega)); clear oo gg)
        | (at_builtin; refine append_tx rfl (.tmp 44) (.tmp 45) rfl (base := w1.heap.size) (l := l.take k ++ [s]) (m := l.drop k) rfl rfl HLN.out.2 HO3.out (OT.vw HQ3.out) (by have := HLN.out.1; have := HLN.out.2; simp; omega) (Nat.le_trans (Nat.le_trans hw2 (by simp)) G3.out.size) ?_; intro v4 w4 oo gg; have HO4 := Lib.hid oo; have G4 := Lib.hid gg; clear oo gg))
      go_ret
      refine ⟨_, rfl, by rw [HR.out]; exact HO4.out.mono (Nat.le_trans hB hw1), ?_⟩
      exact (BQ.out.grown G3.out BQ.out.size (fun k hk => by have := OT.lt HQ.out k hk; omega)).grown G4.out (Nat.le_trans BQ.out.size G3.out.size) (fun k hk => by have := OT.lt HO3.out k hk; omega)
end Go.Proofs.YtfnnoehpahdgcaaGreatDoor.Cl
namespace Go.Proofs.YtfnnoehpahdgcaaGreatDoor.Cl
set_option linter.unusedVariables false
open Go.RowKit Wd Rp Cu Kp
def nmF (l : List Tk) : Nat → Nat → List Tk → List Tk
  | 0, _, o => o
  | c + 1, k, o => nmF l c (k + 1) (match l[k]? with | some t => if nmB t then ptL t o else o | none => o)
def cnN (l : List Tk) : Nat → Int → List Tk → List Tk
  | 0, _, o => o
  | n + 1, i, o => match tkA l i with
    | none => o
    | some s => if s = setT then cnN l n (edV l (i + 2)) (nmF l (edV l (i + 2) - (i + 2)).toNat (i + 2).toNat (ptL ((tkA l (i + 1)).getD []) o)) else if s = cutT then cnN l n (i + 2) (ptL ((tkA l (i + 1)).getD []) o) else if s = stopT then cnN l n (i + 1) o
      else if s = ifT ∨ s = whT then cnN l n (edV l (i + 1)) (nmF l (edV l (i + 1) - (i + 1)).toNat (i + 1).toNat o) else cnN l n (i + 1) o
def nnR (l : List Tk) : List Tk := if rcB l then cnN l (l.length + 1) 0 [] else []
theorem ptL_len (s : Tk) (l : List Tk) : (ptL s l).length ≤ l.length + 1 := by
  unfold ptL
  split
  · omega
  · simp; omega
theorem nmF_step {l : List Tk} {c k : Nat} {o : List Tk} {t : Tk} (h : l[k]? = some t) : nmF l (c + 1) k o = nmF l c (k + 1) (if nmB t then ptL t o else o) := by rw [nmF, h]
set_option maxHeartbeats 16000000 in
set_option maxRecDepth 100000 in
theorem specNamesIn_any (w : World) (a : Option Addr) (cap : Nat) (l : List Tk) (n : Nat) (hn : l.length = n) (hv : V1 w a cap (txL l)) (hl : n ≤ 1000000) (hm : ∀ s ∈ l, s.length ≤ 4194304) :
    Calls Tryz.prog 22 #[.slice a n cap] w fun e w' => ∃ v, e = .returned v ∧ OT w.heap.size w' v (nnR l) ∧ Below w.heap.size w w' := by
  have HO0 := Lib.hid (show OT w.heap.size (w.alloc (.cells #[] 9)) (.slice (some ⟨w.heap.size, 0, none⟩) 0 0) [] from O1.start (Nat.le_refl _))
  have HB0 := Lib.hid (bel1 w (.cells #[] 9))
  have HR := Lib.hid (specRecipeOk_any _ a cap l n hn (hv.below HB0.out) (by omega) hm)
  have HE := Lib.hid (fun w i hi h => l8End_any w a cap l n i hi hn h (by omega) hm)
  have HM := Lib.hid hm
  have HV := Lib.hid hv; clear hv hm
  have HX := Lib.hid (show nnR l = if rcB l then cnN l (l.length + 1) 0 [] else [] from rfl)
  have HQ := Lib.hid (fun h => rcB_scn (l := l) h)
  generalize nnR l = r at *
  generalize rcB l = q at *
  go_enter Tryz.func22, Tryz.ntmps22
  go_wp2_with fail
  refine HR.out.mono ?_; rintro e w1 ⟨rfl, b1⟩
  have HO1 := Lib.hid (HO0.out.next b1)
  have B1 := Lib.hid (bel_tr HB0.out b1 (Nat.le_refl _)); clear b1
  cases q
  · go_wp2_with fail
    go_ret
    exact ⟨_, rfl, by rw [HX.out]; exact HO1.out, B1.out⟩
  have HS := Lib.hid (HQ.out rfl)
  have HC := Lib.hid (show r = cnN l (l.length + 1) 0 [] from HX.out)
  clear HX HQ HR
  go_wp2_with fail
  go_loopg [3, 4, 5, 6] (l.length + 1) (fun j ov q _ _ wr => ∃ (z : Int) (y : List Tk), q = .int .i64 z ∧ OT w.heap.size wr ov y ∧ r = cnN l j z y ∧ Scn l z ∧ 0 ≤ z ∧ z ≤ n ∧ (y.length : Int) ≤ z ∧ n - z < j ∧ Below w.heap.size w wr)
  case atStart => exact ⟨0, [], rfl, HO1.out, HC.out, HS.out, by omega, by omega, by simp, by omega, B1.out⟩
  case round =>
    clear HC HS B1 HO1 HO0 HB0
    obtain ⟨z, y, rfl, ho, hr, hsc, hz0, hzn, hyz, hj, hbel⟩ := hrel
    have HB := Lib.hid hbel
    have HV1 := Lib.hid (HV.out.below hbel)
    have HC := Lib.hid hr
    have HS := Lib.hid hsc
    have HO := Lib.hid ho
    obtain ⟨oa, oc, rfl, hov⟩ := ho.form
    clear hr hsc hbel ho hov
    obtain ⟨k, rfl⟩ : ∃ k : Nat, z = k := ⟨z.toNat, by omega⟩
    by_cases hk : k < n
    · have t1 : decide ((k : Int) < (n : Int)) = true := by simpa using hk
      have t2 : decide (k < n) = true := by simpa using hk
      have i1 : (k : Int) + 1 ≤ 9223372036854775807 := by omega
      obtain ⟨c, hc⟩ : ∃ c, l[k]? = some c := ⟨l[k]'(by omega), List.getElem?_eq_getElem _⟩
      obtain ⟨g, o, rfl, hg, c0⟩ := HV1.out.tx hc
      have ht : tkA l (k : Int) = some c := by rw [tkA_nat]; exact hc
      obtain ⟨j, rfl⟩ : ∃ j', gk = j' + 1 := ⟨gk - 1, by omega⟩
      have HT := Lib.hid ht
      have HI := Lib.hid (HC.out.trans (show cnN l (j + 1) (k : Int) y = (if c = setT then cnN l j (edV l ((k : Int) + 2)) (nmF l (edV l ((k : Int) + 2) - ((k : Int) + 2)).toNat ((k : Int) + 2).toNat (ptL ((tkA l ((k : Int) + 1)).getD []) y)) else if c = cutT then cnN l j ((k : Int) + 2) (ptL ((tkA l ((k : Int) + 1)).getD []) y) else if c = stopT then cnN l j ((k : Int) + 1) y
        else if c = ifT ∨ c = whT then cnN l j (edV l ((k : Int) + 1)) (nmF l (edV l ((k : Int) + 1) - ((k : Int) + 1)).toNat ((k : Int) + 1).toNat y) else cnN l j ((k : Int) + 1) y) by rw [cnN, ht]))
      clear hc hg ht HC
      generalize hyl : y.length = yl at *
      cases HS.out with
      | fin => exact absurd hk (by omega)
      | br h hb hs' =>
          rw [HT.out] at h; cases h
          rcases hb with rfl | rfl
          · have HSX := Lib.hid hs'; clear hs'
            replace HI := Lib.hid (HI.out.trans (by rw [if_neg (by decide), if_neg (by decide), if_neg (by decide), if_neg (by decide)]))
            replace c0 : wr.cell? ⟨g, o + k, none⟩ = some (.string ⟨#[91]⟩) := c0
            go_wp2_with fail
            go_roundg j
            case measure => omega
            case rel => exact ⟨(k : Int) + 1, y, by go_num, HO.out, HI.out, HSX.out, by omega, by omega, by omega, by omega, HB.out⟩
          · have HSX := Lib.hid hs'; clear hs'
            replace HI := Lib.hid (HI.out.trans (by rw [if_neg (by decide), if_neg (by decide), if_neg (by decide), if_neg (by decide)]))
            replace c0 : wr.cell? ⟨g, o + k, none⟩ = some (.string ⟨#[93]⟩) := c0
            go_wp2_with fail
            go_roundg j
            case measure => omega
            case rel => exact ⟨(k : Int) + 1, y, by go_num, HO.out, HI.out, HSX.out, by omega, by omega, by omega, by omega, HB.out⟩
      | stop h hs' =>
          rw [HT.out] at h; cases h
          have HSX := Lib.hid hs'; clear hs'
          replace HI := Lib.hid (HI.out.trans (by rw [if_neg (by decide), if_neg (by decide), if_pos rfl]))
          replace c0 : wr.cell? ⟨g, o + k, none⟩ = some (.string ⟨#[115, 116, 111, 112]⟩) := c0
          go_wp2_with fail
          go_roundg j
          case measure => omega
          case rel => exact ⟨(k : Int) + 1, y, by go_num, HO.out, HI.out, HSX.out, by omega, by omega, by omega, by omega, HB.out⟩
      | cut h hnm hs' =>
          rw [HT.out] at h; cases h
          obtain ⟨t, ht1, ht2, ht3⟩ : ∃ t, tkA l ((k : Int) + 1) = some t ∧ l[k + 1]? = some t ∧ k + 2 ≤ n := by
            unfold nmA at hnm
            cases e : tkA l ((k : Int) + 1) with
            | none => rw [e] at hnm; cases hnm
            | some t =>
              have := tkA_some e
              exact ⟨t, rfl, by rw [← this.2.2, show ((k : Int) + 1).toNat = k + 1 by omega], by omega⟩
          obtain ⟨g', o', e', -, c1⟩ := HV1.out.tx ht2
          cases e'
          clear hnm ht2
          have HP := Lib.hid (l9Put_any wr w.heap.size HB.out.size oa oc y yl t hyl HO.out (by omega))
          rw [ht1, show (some t).getD [] = t from rfl] at HI
          clear ht1
          have HPL := Lib.hid (ptL_len t y)
          have HSX := Lib.hid hs'; clear hs'
          replace HI := Lib.hid (HI.out.trans (by rw [if_neg (by decide), if_pos rfl]))
          replace c0 : wr.cell? ⟨g, o + k, none⟩ = some (.string ⟨#[99, 117, 116]⟩) := c0
          go_wp2_with fail
          refine HP.out.mono ?_; rintro e w2 ⟨v2, rfl, o2, b2⟩
          have HO2 := Lib.hid o2
          have HB2 := Lib.hid (bel_tr HB.out b2 (Nat.le_refl _))
          have HV2 := Lib.hid (HV1.out.below b2)
          clear o2 b2 HP
          generalize hp : ptL t y = y2 at HI HO2 HPL
          clear hp
          go_wp2_with fail
          go_roundg j
          case measure => omega
          case rel => exact ⟨(k : Int) + 2, y2, by go_num, HO2.out, HI.out, HSX.out, by omega, by omega, by have := HPL.out; omega, by omega, HB2.out⟩
      | set h hnm hq hs' =>
          rw [HT.out] at h; cases h
          obtain ⟨t, ht1, ht2, ht3⟩ : ∃ t, tkA l ((k : Int) + 1) = some t ∧ l[k + 1]? = some t ∧ k + 2 ≤ n := by
            unfold nmA at hnm
            cases e : tkA l ((k : Int) + 1) with
            | none => rw [e] at hnm; cases hnm
            | some t =>
              have := tkA_some e
              exact ⟨t, rfl, by rw [← this.2.2, show ((k : Int) + 1).toNat = k + 1 by omega], by omega⟩
          obtain ⟨g', o', e', -, c1⟩ := HV1.out.tx ht2
          cases e'
          clear hnm ht2
          have HP := Lib.hid (l9Put_any wr w.heap.size HB.out.size oa oc y yl t hyl HO.out (by omega))
          rw [ht1, show (some t).getD [] = t from rfl] at HI
          clear ht1
          have HPL := Lib.hid (ptL_len t y)
          replace HI := Lib.hid (HI.out.trans (by rw [if_pos rfl]))
          replace c0 : wr.cell? ⟨g, o + k, none⟩ = some (.string ⟨#[115, 101, 116]⟩) := c0
          go_wp2_with fail
          refine HP.out.mono ?_; rintro e w2 ⟨v2, rfl, o2, b2⟩
          have HO2 := Lib.hid o2
          have HB2 := Lib.hid (bel_tr HB.out b2 (Nat.le_refl _))
          have HV2 := Lib.hid (HV1.out.below b2)
          clear o2 b2 HP
          generalize hp : ptL t y = y2 at HI HO2 HPL
          clear hp
          have HA := Lib.hid (sm_ahd l 1 ((k : Int) + 2))
          have HEE := Lib.hid (HE.out w2 ((k : Int) + 2) ⟨by omega, by omega⟩ HV2.out)
          rw [sm_ed hq] at HEE HI
          generalize smV l 1 ((k : Int) + 2) = x at *
          have hx : (k : Int) + 2 < x ∧ x ≤ n := by have := HA.out; unfold Ahd at this; omega
          have HSX := Lib.hid hs'
          obtain ⟨xn, rfl⟩ : ∃ m : Nat, x = m := ⟨x.toNat, by omega⟩
          rw [show ((xn : Int) - ((k : Int) + 2)).toNat = xn - (k + 2) by omega, show ((k : Int) + 2).toNat = k + 2 by omega] at HI
          clear hs' hq HA
          have hy2 : (y2.length : Int) ≤ (k : Int) + 2 := by have := HPL.out; omega
          go_wp2_with fail
          refine HEE.out.mono ?_; rintro e w3 ⟨rfl, b3⟩
          have HO3 := Lib.hid (HO2.out.next b3)
          have HB3 := Lib.hid (bel_tr HB2.out b3 (Nat.le_refl _)); clear b3
          go_wp2_with fail
          go_loopw [3, 4] (fun ov q wr => ∃ (m : Nat) (y' : List Tk), q = .int .i64 (m : Int) ∧ OT w.heap.size wr ov y' ∧ k + 2 ≤ m ∧ m ≤ xn ∧ nmF l (xn - (k + 2)) (k + 2) y2 = nmF l (xn - m) m y' ∧ y'.length ≤ m ∧ Below w.heap.size w wr) (fun _ q _ => xn - intV q)
          case atStart => exact ⟨k + 2, y2, by go_num, HO3.out, Nat.le_refl _, by omega, rfl, by omega, HB3.out⟩
          case round =>
            obtain ⟨m, y', rfl, ho, hm1, hm2, hnf, hyl2, hbel⟩ := hrel
            have HBm := Lib.hid hbel
            have HVm := Lib.hid (HV.out.below hbel)
            have HOm := Lib.hid ho
            have HNF := Lib.hid hnf
            obtain ⟨oa2, oc2, rfl, hov2⟩ := ho.form
            clear ho hbel hnf hov2 c0
            generalize hyl2' : y'.length = yl2 at *
            by_cases hmx : m < xn
            · have z1 : decide ((m : Int) < (xn : Int)) = true := by simpa using hmx
              have z2 : decide (m < xn) = true := by simpa using hmx
              have z3 : (m : Int) + 1 ≤ 9223372036854775807 := by omega
              obtain ⟨t2, hc2⟩ : ∃ c, l[m]? = some c := ⟨l[m]'(by omega), List.getElem?_eq_getElem _⟩
              have hmn : m < n := by omega
              have z4 : decide ((n : Int) ≤ (m : Int)) = false := by simpa using hmn
              obtain ⟨g2, p2, e2, -, c2⟩ := HVm.out.tx hc2
              cases e2
              have HN2 := Lib.hid (nmS_any t2 wr (by have := HM.out t2 (List.mem_of_getElem? hc2); omega))
              have HF := Lib.hid (HNF.out.trans (show nmF l (xn - m) m y' = nmF l (xn - (m + 1)) (m + 1) (if nmB t2 then ptL t2 y' else y') by rw [show xn - m = (xn - (m + 1)) + 1 by omega]; exact nmF_step hc2))
              have HP2 := Lib.hid (l9Put_any wr w.heap.size HBm.out.size oa2 oc2 y' yl2 t2 hyl2' HOm.out (by omega))
              have HPL2 := Lib.hid (ptL_len t2 y')
              clear hc2 HNF
              generalize nmB t2 = b at *
              go_wp2_with fail
              refine HN2.out.mono ?_; rintro e wn ⟨rfl, rfl⟩
              cases b
              · go_wp2_with fail
                go_roundw
                case rel => exact ⟨m + 1, y', by go_num, HOm.out, by omega, by omega, HF.out, by omega, HBm.out⟩
                case measure => simp [intV]; omega
              · go_wp2_with fail
                refine HP2.out.mono ?_; rintro e w5 ⟨v5, rfl, o5, b5⟩
                have HO5 := Lib.hid o5
                have HB5 := Lib.hid (bel_tr HBm.out b5 (Nat.le_refl _))
                clear o5 b5
                go_wp2_with fail
                go_roundw
                case rel => exact ⟨m + 1, ptL t2 y', by go_num, HO5.out, by omega, by omega, HF.out, by have := HPL2.out; omega, HB5.out⟩
                case measure => simp [intV]; omega
            · obtain rfl : m = xn := by omega
              have z1 : decide ((m : Int) < (m : Int)) = false := by simp
              have HI2 := Lib.hid (HI.out.trans (by rw [HNF.out, Nat.sub_self]; rfl : _ = cnN l j (m : Int) y'))
              go_wp2_with fail
              go_roundg j
              case measure => omega
              case rel => exact ⟨(m : Int), y', rfl, HOm.out, HI2.out, HSX.out, by omega, by omega, by omega, by omega, HBm.out⟩
      | iw h hb hq hs' =>
          rw [HT.out] at h; cases h
          rcases hb with rfl | rfl
          · skip
            replace HI := Lib.hid (HI.out.trans (by rw [if_neg (by decide), if_neg (by decide), if_neg (by decide), if_pos (Or.inl rfl)]))
            replace c0 : wr.cell? ⟨g, o + k, none⟩ = some (.string ⟨#[105, 102]⟩) := c0
            have HA := Lib.hid (sm_ahd l 2 ((k : Int) + 1))
            have HEE := Lib.hid (HE.out wr ((k : Int) + 1) ⟨by omega, by omega⟩ HV1.out)
            rw [sm_ed hq] at HEE HI
            generalize smV l 2 ((k : Int) + 1) = x at *
            have hx : (k : Int) + 1 < x ∧ x ≤ n := by have := HA.out; unfold Ahd at this; omega
            have HSX := Lib.hid hs'
            obtain ⟨xn, rfl⟩ : ∃ m : Nat, x = m := ⟨x.toNat, by omega⟩
            rw [show ((xn : Int) - ((k : Int) + 1)).toNat = xn - (k + 1) by omega, show ((k : Int) + 1).toNat = k + 1 by omega] at HI
            clear hs' hq HA
            have hy2 : (y.length : Int) ≤ (k : Int) + 1 := by omega
            go_wp2_with fail
            refine HEE.out.mono ?_; rintro e w3 ⟨rfl, b3⟩
            have HO3 := Lib.hid (HO.out.next b3)
            have HB3 := Lib.hid (bel_tr HB.out b3 (Nat.le_refl _)); clear b3
            go_wp2_with fail
            go_loopw [3, 4] (fun ov q wr => ∃ (m : Nat) (y' : List Tk), q = .int .i64 (m : Int) ∧ OT w.heap.size wr ov y' ∧ k + 1 ≤ m ∧ m ≤ xn ∧ nmF l (xn - (k + 1)) (k + 1) y = nmF l (xn - m) m y' ∧ y'.length ≤ m ∧ Below w.heap.size w wr) (fun _ q _ => xn - intV q)
            case atStart => exact ⟨k + 1, y, by go_num, HO3.out, Nat.le_refl _, by omega, rfl, by omega, HB3.out⟩
            case round =>
              obtain ⟨m, y', rfl, ho, hm1, hm2, hnf, hyl2, hbel⟩ := hrel
              have HBm := Lib.hid hbel
              have HVm := Lib.hid (HV.out.below hbel)
              have HOm := Lib.hid ho
              have HNF := Lib.hid hnf
              obtain ⟨oa2, oc2, rfl, hov2⟩ := ho.form
              clear ho hbel hnf hov2 c0
              generalize hyl2' : y'.length = yl2 at *
              by_cases hmx : m < xn
              · have z1 : decide ((m : Int) < (xn : Int)) = true := by simpa using hmx
                have z2 : decide (m < xn) = true := by simpa using hmx
                have z3 : (m : Int) + 1 ≤ 9223372036854775807 := by omega
                obtain ⟨t2, hc2⟩ : ∃ c, l[m]? = some c := ⟨l[m]'(by omega), List.getElem?_eq_getElem _⟩
                have hmn : m < n := by omega
                have z4 : decide ((n : Int) ≤ (m : Int)) = false := by simpa using hmn
                obtain ⟨g2, p2, e2, -, c2⟩ := HVm.out.tx hc2
                cases e2
                have HN2 := Lib.hid (nmS_any t2 wr (by have := HM.out t2 (List.mem_of_getElem? hc2); omega))
                have HF := Lib.hid (HNF.out.trans (show nmF l (xn - m) m y' = nmF l (xn - (m + 1)) (m + 1) (if nmB t2 then ptL t2 y' else y') by rw [show xn - m = (xn - (m + 1)) + 1 by omega]; exact nmF_step hc2))
                have HP2 := Lib.hid (l9Put_any wr w.heap.size HBm.out.size oa2 oc2 y' yl2 t2 hyl2' HOm.out (by omega))
                have HPL2 := Lib.hid (ptL_len t2 y')
                clear hc2 HNF
                generalize nmB t2 = b at *
                go_wp2_with fail
                refine HN2.out.mono ?_; rintro e wn ⟨rfl, rfl⟩
                cases b
                · go_wp2_with fail
                  go_roundw
                  case rel => exact ⟨m + 1, y', by go_num, HOm.out, by omega, by omega, HF.out, by omega, HBm.out⟩
                  case measure => simp [intV]; omega
                · go_wp2_with fail
                  refine HP2.out.mono ?_; rintro e w5 ⟨v5, rfl, o5, b5⟩
                  have HO5 := Lib.hid o5
                  have HB5 := Lib.hid (bel_tr HBm.out b5 (Nat.le_refl _))
                  clear o5 b5
                  go_wp2_with fail
                  go_roundw
                  case rel => exact ⟨m + 1, ptL t2 y', by go_num, HO5.out, by omega, by omega, HF.out, by have := HPL2.out; omega, HB5.out⟩
                  case measure => simp [intV]; omega
              · obtain rfl : m = xn := by omega
                have z1 : decide ((m : Int) < (m : Int)) = false := by simp
                have HI2 := Lib.hid (HI.out.trans (by rw [HNF.out, Nat.sub_self]; rfl : _ = cnN l j (m : Int) y'))
                go_wp2_with fail
                go_roundg j
                case measure => omega
                case rel => exact ⟨(m : Int), y', rfl, HOm.out, HI2.out, HSX.out, by omega, by omega, by omega, by omega, HBm.out⟩
          · skip
            replace HI := Lib.hid (HI.out.trans (by rw [if_neg (by decide), if_neg (by decide), if_neg (by decide), if_pos (Or.inr rfl)]))
            replace c0 : wr.cell? ⟨g, o + k, none⟩ = some (.string ⟨#[119, 104, 105, 108, 101]⟩) := c0
            have HA := Lib.hid (sm_ahd l 2 ((k : Int) + 1))
            have HEE := Lib.hid (HE.out wr ((k : Int) + 1) ⟨by omega, by omega⟩ HV1.out)
            rw [sm_ed hq] at HEE HI
            generalize smV l 2 ((k : Int) + 1) = x at *
            have hx : (k : Int) + 1 < x ∧ x ≤ n := by have := HA.out; unfold Ahd at this; omega
            have HSX := Lib.hid hs'
            obtain ⟨xn, rfl⟩ : ∃ m : Nat, x = m := ⟨x.toNat, by omega⟩
            rw [show ((xn : Int) - ((k : Int) + 1)).toNat = xn - (k + 1) by omega, show ((k : Int) + 1).toNat = k + 1 by omega] at HI
            clear hs' hq HA
            have hy2 : (y.length : Int) ≤ (k : Int) + 1 := by omega
            go_wp2_with fail
            refine HEE.out.mono ?_; rintro e w3 ⟨rfl, b3⟩
            have HO3 := Lib.hid (HO.out.next b3)
            have HB3 := Lib.hid (bel_tr HB.out b3 (Nat.le_refl _)); clear b3
            go_wp2_with fail
            go_loopw [3, 4] (fun ov q wr => ∃ (m : Nat) (y' : List Tk), q = .int .i64 (m : Int) ∧ OT w.heap.size wr ov y' ∧ k + 1 ≤ m ∧ m ≤ xn ∧ nmF l (xn - (k + 1)) (k + 1) y = nmF l (xn - m) m y' ∧ y'.length ≤ m ∧ Below w.heap.size w wr) (fun _ q _ => xn - intV q)
            case atStart => exact ⟨k + 1, y, by go_num, HO3.out, Nat.le_refl _, by omega, rfl, by omega, HB3.out⟩
            case round =>
              obtain ⟨m, y', rfl, ho, hm1, hm2, hnf, hyl2, hbel⟩ := hrel
              have HBm := Lib.hid hbel
              have HVm := Lib.hid (HV.out.below hbel)
              have HOm := Lib.hid ho
              have HNF := Lib.hid hnf
              obtain ⟨oa2, oc2, rfl, hov2⟩ := ho.form
              clear ho hbel hnf hov2 c0
              generalize hyl2' : y'.length = yl2 at *
              by_cases hmx : m < xn
              · have z1 : decide ((m : Int) < (xn : Int)) = true := by simpa using hmx
                have z2 : decide (m < xn) = true := by simpa using hmx
                have z3 : (m : Int) + 1 ≤ 9223372036854775807 := by omega
                obtain ⟨t2, hc2⟩ : ∃ c, l[m]? = some c := ⟨l[m]'(by omega), List.getElem?_eq_getElem _⟩
                have hmn : m < n := by omega
                have z4 : decide ((n : Int) ≤ (m : Int)) = false := by simpa using hmn
                obtain ⟨g2, p2, e2, -, c2⟩ := HVm.out.tx hc2
                cases e2
                have HN2 := Lib.hid (nmS_any t2 wr (by have := HM.out t2 (List.mem_of_getElem? hc2); omega))
                have HF := Lib.hid (HNF.out.trans (show nmF l (xn - m) m y' = nmF l (xn - (m + 1)) (m + 1) (if nmB t2 then ptL t2 y' else y') by rw [show xn - m = (xn - (m + 1)) + 1 by omega]; exact nmF_step hc2))
                have HP2 := Lib.hid (l9Put_any wr w.heap.size HBm.out.size oa2 oc2 y' yl2 t2 hyl2' HOm.out (by omega))
                have HPL2 := Lib.hid (ptL_len t2 y')
                clear hc2 HNF
                generalize nmB t2 = b at *
                go_wp2_with fail
                refine HN2.out.mono ?_; rintro e wn ⟨rfl, rfl⟩
                cases b
                · go_wp2_with fail
                  go_roundw
                  case rel => exact ⟨m + 1, y', by go_num, HOm.out, by omega, by omega, HF.out, by omega, HBm.out⟩
                  case measure => simp [intV]; omega
                · go_wp2_with fail
                  refine HP2.out.mono ?_; rintro e w5 ⟨v5, rfl, o5, b5⟩
                  have HO5 := Lib.hid o5
                  have HB5 := Lib.hid (bel_tr HBm.out b5 (Nat.le_refl _))
                  clear o5 b5
                  go_wp2_with fail
                  go_roundw
                  case rel => exact ⟨m + 1, ptL t2 y', by go_num, HO5.out, by omega, by omega, HF.out, by have := HPL2.out; omega, HB5.out⟩
                  case measure => simp [intV]; omega
              · obtain rfl : m = xn := by omega
                have z1 : decide ((m : Int) < (m : Int)) = false := by simp
                have HI2 := Lib.hid (HI.out.trans (by rw [HNF.out, Nat.sub_self]; rfl : _ = cnN l j (m : Int) y'))
                go_wp2_with fail
                go_roundg j
                case measure => omega
                case rel => exact ⟨(m : Int), y', rfl, HOm.out, HI2.out, HSX.out, by omega, by omega, by omega, by omega, HBm.out⟩
    · obtain rfl : k = n := by omega
      have t1 : decide ((k : Int) < (k : Int)) = false := by simp
      have HZ := Lib.hid (HC.out.trans (show cnN l gk (k : Int) y = y from (by cases gk with | zero => rfl | succ j => rw [cnN, tkA_out (by omega)])))
      go_wp2_with fail
      go_ret
      exact ⟨_, rfl, by rw [HZ.out]; exact HO.out, HB.out⟩
end Go.Proofs.YtfnnoehpahdgcaaGreatDoor.Cl
namespace Go.Proofs.YtfnnoehpahdgcaaGreatDoor.Cl
set_option linter.unusedVariables false
open Go.RowKit Wd Rp Kp
theorem tk_irr (a : Tk) : ¬ a < a := List.lt_irrefl a
theorem tk_tr {a b c : Tk} (h : a < b) (k : b < c) : a < c := List.lt_trans h k
theorem tk_tri {a b : Tk} (h : ¬ a < b) (k : ¬ b < a) : a = b := List.le_antisymm k h
def AscT (l : List Tk) : Prop := l.Pairwise (· < ·)
theorem bl_lt {a b : Tk} : Op.bytesLess a b = true ↔ a < b := by rw [bytesLess_eq]; simp
theorem pfx_cons {s x : Tk} {r : List Tk} : pfx s (x :: r) = if Op.bytesLess x s then pfx s r + 1 else 0 := rfl
theorem ptL_nil (s : Tk) : ptL s [] = [s] := rfl
theorem ptL_cons (s x : Tk) (r : List Tk) : ptL s (x :: r) = if x < s then x :: ptL s r else if x = s then x :: r else s :: x :: r := by
  unfold ptL
  rw [pfx_cons]
  by_cases h : x < s
  · rw [if_pos (bl_lt.2 h), if_pos h]
    simp only [List.getElem?_cons_succ, List.take_succ_cons, List.drop_succ_cons]
    split <;> rfl
  · rw [if_neg (fun e => h (bl_lt.1 e)), if_neg h]
    simp only [List.getElem?_cons_zero, List.take_zero, List.drop_zero, List.nil_append, Option.some.injEq]
    split <;> rfl
theorem ptL_mem {s t : Tk} : ∀ {l : List Tk}, t ∈ ptL s l ↔ t = s ∨ t ∈ l
  | [] => by rw [ptL_nil]; simp
  | x :: r => by
    rw [ptL_cons]
    split
    · rw [List.mem_cons, List.mem_cons, ptL_mem]
      constructor <;> rintro (h | h | h) <;> simp [h]
    · split
      · rename_i e; subst e
        rw [List.mem_cons]; constructor
        · rintro (h | h) <;> simp [h]
        · rintro (h | h | h) <;> simp [h]
      · rw [List.mem_cons, List.mem_cons]
theorem ptL_asc {s : Tk} : ∀ {l : List Tk}, AscT l → AscT (ptL s l)
  | [], _ => by rw [ptL_nil]; exact List.pairwise_singleton _ _
  | x :: r, h => by
    obtain ⟨h1, h2⟩ := List.pairwise_cons.1 h
    rw [ptL_cons]
    split
    · rename_i hx
      refine List.pairwise_cons.2 ⟨fun t ht => ?_, ptL_asc h2⟩
      rcases ptL_mem.1 ht with e | e
      · subst e; exact hx
      · exact h1 t e
    · rename_i hx
      split
      · exact h
      · rename_i he
        have hs : s < x := Decidable.byContradiction fun e => he (tk_tri hx e)
        refine List.pairwise_cons.2 ⟨fun t ht => ?_, h⟩
        rcases List.mem_cons.1 ht with e | e
        · subst e; exact hs
        · exact tk_tr hs (h1 t e)
def ptA (xs o : List Tk) : List Tk := xs.foldl (fun o t => ptL t o) o
theorem ptA_cons (x : Tk) (xs o : List Tk) : ptA (x :: xs) o = ptA xs (ptL x o) := rfl
theorem ptA_app (xs ys o : List Tk) : ptA (xs ++ ys) o = ptA ys (ptA xs o) := List.foldl_append
theorem ptA_mem {t : Tk} : ∀ {xs o : List Tk}, t ∈ ptA xs o ↔ t ∈ xs ∨ t ∈ o
  | [], o => by simp [ptA]
  | x :: xs, o => by
    rw [ptA_cons, ptA_mem, ptL_mem, List.mem_cons]
    constructor
    · rintro (h | h | h) <;> simp [h]
    · rintro ((h | h) | h) <;> simp [h]
theorem ptA_asc : ∀ {xs o : List Tk}, AscT o → AscT (ptA xs o)
  | [], o, h => h
  | x :: xs, o, h => ptA_asc (xs := xs) (ptL_asc h)
end Go.Proofs.YtfnnoehpahdgcaaGreatDoor.Cl
namespace Go.Proofs.YtfnnoehpahdgcaaGreatDoor.Cl
set_option linter.unusedVariables false
open Go.RowKit Wd Rp Kp
def rcN (r : Rc) : List Tk := [r.1].filter nmB ++ r.2.filter nmB
def nms (F : List Rc) : List Tk := F.flatMap rcN
theorem nmF_put (l : List Tk) : ∀ (c k : Nat) (o : List Tk), k + c ≤ l.length → nmF l c k o = ptA (((l.drop k).take c).filter nmB) o
  | 0, k, o, _ => by simp [nmF, ptA]
  | c + 1, k, o, h => by
    have hk : k < l.length := by omega
    rw [nmF, List.getElem?_eq_getElem hk]
    dsimp only
    rw [nmF_put l c (k + 1) _ (by omega), List.drop_eq_getElem_cons hk, List.take_succ_cons]
    by_cases hb : nmB l[k] = true
    · rw [if_pos hb, List.filter_cons_of_pos hb, ptA_cons]
    · rw [if_neg hb, List.filter_cons_of_neg hb]
theorem nmF_sm {l : List Tk} {kind i : Int} (h0 : 0 ≤ i) (h : smV l kind i ≠ -1) (o : List Tk) : nmF l (edV l i - i).toNat i.toNat o = ptA ((smT l i).filter nmB) o := by
  obtain ⟨h1, h2⟩ := sm_ahead h
  have ha := sm_ahd l kind i
  unfold Ahd at ha
  unfold smT
  cases e : enA l i with
  | none => rw [edV_none e] at h2; omega
  | some m =>
    have e2 := edV_some e
    dsimp only
    rw [show (edV l i - i).toNat = m by omega]
    exact nmF_put l m i.toNat o (by omega)
theorem scr_nm {l : List Tk} {i : Int} {F : List Rc} (h : ScR l i F) : ∀ (n : Nat) (o : List Tk), (l.length : Int) - i < n → cnN l n i o = ptA (nms F) o := by
  induction h with
  | fin =>
    intro n o _
    cases n with
    | zero => simp [cnN, nms, ptA]
    | succ n => rw [cnN, tkA_out (by omega)]; simp [nms, ptA]
  | @br i s F h hs hr ih =>
    intro n o hn
    have := tkA_some h
    obtain ⟨n, rfl⟩ : ∃ k, n = k + 1 := ⟨n - 1, by omega⟩
    rw [cnN, h]
    dsimp only
    rw [← ih n o (by omega)]
    rcases hs with rfl | rfl <;> simp [setT, cutT, stopT, ifT, whT]
  | @set i F h hm hn2 hr ih =>
    intro n o hn
    have := tkA_some h
    obtain ⟨n, rfl⟩ : ∃ k, n = k + 1 := ⟨n - 1, by omega⟩
    obtain ⟨h1, h2⟩ := sm_ahead hn2
    have hk : nmB (tkN l (i + 1)) = true := by
      unfold nmA at hm
      unfold tkN
      cases e : tkA l (i + 1) with
      | none => rw [e] at hm; cases hm
      | some t => rw [e] at hm; exact hm
    rw [cnN, h]
    dsimp only
    rw [if_pos rfl, nmF_sm (by omega) hn2, h2, ih n _ (by omega)]
    show _ = ptA (rcN (tkN l (i + 1), smT l (i + 2)) ++ nms F) o
    rw [ptA_app]
    unfold rcN
    dsimp only
    rw [List.filter_cons_of_pos hk, ptA_app]; rfl
  | @cut i F h hm hr ih =>
    intro n o hn
    have := tkA_some h
    obtain ⟨n, rfl⟩ : ∃ k, n = k + 1 := ⟨n - 1, by omega⟩
    have hk : nmB (tkN l (i + 1)) = true := by
      unfold nmA at hm
      unfold tkN
      cases e : tkA l (i + 1) with
      | none => rw [e] at hm; cases hm
      | some t => rw [e] at hm; exact hm
    rw [cnN, h]
    dsimp only
    rw [if_neg (by decide), if_pos rfl, ih n _ (by omega)]
    show _ = ptA (rcN (tkN l (i + 1), []) ++ nms F) o
    rw [ptA_app]
    unfold rcN
    dsimp only
    rw [List.filter_cons_of_pos hk]; rfl
  | @stop i F h hr ih =>
    intro n o hn
    have := tkA_some h
    obtain ⟨n, rfl⟩ : ∃ k, n = k + 1 := ⟨n - 1, by omega⟩
    rw [cnN, h]
    dsimp only
    rw [if_neg (by decide), if_neg (by decide), if_pos rfl, ih n _ (by omega)]
    show _ = ptA (rcN ([], []) ++ nms F) o
    rw [ptA_app]
    unfold rcN
    rw [List.filter_cons_of_neg (by rw [nmB_nil]; simp)]; rfl
  | @iw i s F h hs hn2 hr ih =>
    intro n o hn
    have := tkA_some h
    obtain ⟨n, rfl⟩ : ∃ k, n = k + 1 := ⟨n - 1, by omega⟩
    obtain ⟨h1, h2⟩ := sm_ahead hn2
    rw [cnN, h]
    dsimp only
    rw [if_neg (by rcases hs with rfl | rfl <;> decide), if_neg (by rcases hs with rfl | rfl <;> decide), if_neg (by rcases hs with rfl | rfl <;> decide), if_pos hs, nmF_sm (by omega) hn2, h2, ih n _ (by omega)]
    show _ = ptA (rcN ([], smT l (i + 1)) ++ nms F) o
    rw [ptA_app]
    unfold rcN
    dsimp only
    rw [List.filter_cons_of_neg (by rw [nmB_nil]; simp)]; rfl
theorem nn_is (l : List Tk) : nnR l = if rcB l then ptA (nms (rcR l)) [] else [] := by
  unfold nnR
  split
  · rename_i h
    exact scr_nm (rcB_scr h) _ [] (by omega)
  · rfl
theorem sm_mem {l : List Tk} {i : Int} {t : Tk} (h : t ∈ smT l i) : t ∈ l := by
  unfold smT at h
  split at h
  · exact List.mem_of_mem_drop (List.mem_of_mem_take h)
  · cases h
theorem tkN_mem {l : List Tk} {i : Int} (h : nmA l i = true) : tkN l i ∈ l := by
  unfold nmA at h
  unfold tkN
  cases e : tkA l i with
  | none => rw [e] at h; cases h
  | some s => exact List.mem_of_getElem? (tkA_some e).2.2
theorem nms_mem {l : List Tk} {i : Int} {F : List Rc} (h : ScR l i F) : ∀ t, t ∈ nms F → t ∈ l ∧ nmB t = true := by
  have key : ∀ (r : Rc) (F : List Rc), (∀ t, t ∈ nms F → t ∈ l ∧ nmB t = true) → (∀ t, t ∈ rcN r → t ∈ l) → ∀ t, t ∈ nms (r :: F) → t ∈ l ∧ nmB t = true := fun r F h1 h2 t ht => by
    unfold nms at ht
    rw [List.flatMap_cons] at ht
    rcases List.mem_append.1 ht with e | e
    · refine ⟨h2 t e, ?_⟩
      unfold rcN at e
      rcases List.mem_append.1 e with e | e
      · exact (List.mem_filter.1 e).2
      · exact (List.mem_filter.1 e).2
    · exact h1 t e
  have one : ∀ (a : Tk) (i : Int), (nmB a = true → a ∈ l) → ∀ t, t ∈ rcN (a, smT l i) → t ∈ l := fun a i ha t ht => by
    unfold rcN at ht
    rcases List.mem_append.1 ht with e | e
    · obtain ⟨e1, e2⟩ := List.mem_filter.1 e
      have : t = a := by simpa using e1
      subst this; exact ha e2
    · exact sm_mem (List.mem_filter.1 e).1
  have two : ∀ (a : Tk), (nmB a = true → a ∈ l) → ∀ t, t ∈ rcN (a, []) → t ∈ l := fun a ha t ht => by
    unfold rcN at ht
    rcases List.mem_append.1 ht with e | e
    · obtain ⟨e1, e2⟩ := List.mem_filter.1 e
      have : t = a := by simpa using e1
      subst this; exact ha e2
    · simp at e
  induction h with
  | fin => intro t ht; simp [nms] at ht
  | br h hs hr ih => exact ih
  | set h hm hn hr ih => exact key _ _ ih (one _ _ fun _ => tkN_mem hm)
  | cut h hm hr ih => exact key _ _ ih (two _ fun _ => tkN_mem hm)
  | stop h hr ih => exact key _ _ ih (two _ fun e => by rw [nmB_nil] at e; cases e)
  | iw h hs hn hr ih => exact key _ _ ih (one _ _ fun e => by rw [nmB_nil] at e; cases e)
theorem nn_asc (l : List Tk) : AscT (nnR l) := by
  rw [nn_is]
  split
  · exact ptA_asc List.Pairwise.nil
  · exact List.Pairwise.nil
theorem nn_mem {l : List Tk} {t : Tk} (h : t ∈ nnR l) : t ∈ l ∧ nmB t = true := by
  rw [nn_is] at h
  split at h
  · rename_i hr
    rw [ptA_mem] at h
    rcases h with h | h
    · exact nms_mem (rcB_scr hr) t h
    · cases h
  · cases h
end Go.Proofs.YtfnnoehpahdgcaaGreatDoor.Cl
namespace Go.Proofs.YtfnnoehpahdgcaaGreatDoor.Cl
set_option linter.unusedVariables false
open Go.RowKit Wd Rp Cu Kp
set_option maxHeartbeats 1000000 in
set_option maxRecDepth 100000 in
theorem specNames_big (w : World) (a : Option Addr) (cap : Nat) (l : List Tk) (n : Nat) (hn : l.length = n) (hv : V1 w a cap (txL l)) (hl : n ≤ 4194304) (hm : ∀ s ∈ l, s.length ≤ 4194304) (hbig : 120 < n) :
    Calls Tryz.prog 22 #[.slice a n cap] w fun e w' => ∃ v, e = .returned v ∧ OT w.heap.size w' v (nnR l) ∧ Below w.heap.size w w' := by
  have HO0 := Lib.hid (show OT w.heap.size (w.alloc (.cells #[] 9)) (.slice (some ⟨w.heap.size, 0, none⟩) 0 0) [] from O1.start (Nat.le_refl _))
  have HB0 := Lib.hid (bel1 w (.cells #[] 9))
  have hno : rcB l = false := by unfold rcB; rw [if_neg (by omega)]
  have HR := Lib.hid (specRecipeOk_any _ a cap l n hn (hv.below HB0.out) hl hm)
  have HX := Lib.hid (show nnR l = [] by unfold nnR; rw [hno]; rfl)
  rw [hno] at HR
  clear hv hm hno
  generalize nnR l = r at *
  go_enter Tryz.func22, Tryz.ntmps22
  go_wp2_with fail
  refine HR.out.mono ?_; rintro e w1 ⟨rfl, b1⟩
  have HO1 := Lib.hid (HO0.out.next b1)
  have B1 := Lib.hid (bel_tr HB0.out b1 (Nat.le_refl _)); clear b1
  go_wp2_with fail
  go_ret
  exact ⟨_, rfl, by rw [HX.out]; exact HO1.out, B1.out⟩
theorem specNames_all (w : World) (a : Option Addr) (cap : Nat) (l : List Tk) (n : Nat) (hn : l.length = n) (hv : V1 w a cap (txL l)) (hl : n ≤ 4194304) (hm : ∀ s ∈ l, s.length ≤ 4194304) :
    Calls Tryz.prog 22 #[.slice a n cap] w fun e w' => ∃ v, e = .returned v ∧ OT w.heap.size w' v (nnR l) ∧ Below w.heap.size w w' := by
  by_cases hb : 120 < n
  · exact specNames_big w a cap l n hn hv hl hm hb
  · exact specNamesIn_any w a cap l n hn hv (by omega) hm
end Go.Proofs.YtfnnoehpahdgcaaGreatDoor.Cl
namespace Go.Proofs.YtfnnoehpahdgcaaGreatDoor.Cl
set_option linter.unusedVariables false
open Go.RowKit Wd Rp Cu Kp
theorem tx_self (n : ByteArray) : tx n.data.toList = n := by
  cases n; simp [tx]
theorem tl_inj {a b : ByteArray} (h : a.toList = b.toList) : a.data.toList = b.data.toList := by rw [← Lib.toList_data, ← Lib.toList_data, h]
theorem off_of {t : Sl} (hw : t.wf 5) {l : List Tk} (hl : l = t.fl) (hr : rcB l = true) {z : Tk} (hz : nmB z = true) (hn : z ∉ nnR l) : t.off (tx z) := by
  have h1 : ∀ p ∈ t.rd, z ∉ rcN p := fun p hp hm => hn (by
    rw [nn_is, if_pos hr, ptA_mem]
    refine Or.inl ?_
    unfold nms
    rw [hl, rd_tree hw]
    exact List.mem_flatMap.2 ⟨p, hp, hm⟩)
  have h2 : ∀ p ∈ t.rd, p.1 ≠ z ∧ ∀ s ∈ p.2, s ≠ z := fun p hp => by
    refine ⟨fun e => h1 p hp ?_, fun s hs e => h1 p hp ?_⟩
    · unfold rcN
      rw [e]
      exact List.mem_append.2 (Or.inl (List.mem_filter.2 ⟨by simp, hz⟩))
    · unfold rcN
      rw [← e] at hz ⊢
      exact List.mem_append.2 (Or.inr (List.mem_filter.2 ⟨hs, hz⟩))
  have h3 := Sl.all_rd (Q := fun p => p.1 ≠ z ∧ ∀ s ∈ p.2, s ≠ z) t h2
  have key : ∀ s : Tk, s ≠ z → (tx s).toList ≠ (tx z).toList := fun s h e => h (by
    have := tl_inj e
    rwa [tx_data, tx_data] at this)
  exact Sl.all_mono (fun n e h => ⟨key _ h.1, fun s hs _ => key s (h.2 s hs)⟩) (fun n h => key _ h.1) (fun e h => fun s hs _ => key s (h.2 s hs)) t h3
theorem off_free {t : Sl} {z : ByteArray} (h : t.off z) : t.free z := Sl.all_mono (fun n e h => h.1) (fun n h => h) (fun e h => trivial) t h
theorem bi_nm {l : List Bi} (h : okI l = true) {c : Bi} (hc : c ∈ l) : nmB c.n.data.toList = true := by
  have h1 := (okI_iff.1 h).2.2 c hc
  unfold Bi.ok at h1
  rw [Bool.and_eq_true] at h1
  exact h1.1
theorem meV_same {l : List Tk} {bs : List Bi} {gs : List Int} {f : Int} (h : (meV l bs gs f).c = 0) {z : Tk} (hz : nmB z = true) (hn : z ∉ nnR l) :
    ∀ c : Bi, c.n.data.toList = z → (c ∈ (meV l bs gs f).b ↔ c ∈ bs) := by
  have hm := meV_good (l := l) (bs := bs) (gs := gs) (f := f) (by rw [h]; decide)
  obtain ⟨g1, g2, g3, g4, g5⟩ := meB_parts hm
  obtain ⟨t, hw, ht, e⟩ := meB_tree hm
  have ho := off_of hw ht g1 hz hn
  rw [e] at h ⊢
  rw [end_c] at h
  rw [end_0 h]
  intro c hc
  refine (Sl.run_keep gs t ⟨0, bs, f⟩ (off_free ho) (okI_iff.1 g2).2.1).2 c ?_
  rw [← hc, tx_self]
theorem meV_kept {l : List Tk} {bs : List Bi} {gs : List Int} {f : Int} (h : (meV l bs gs f).c = 0) {c : Bi} (hc : c ∈ bs) (hn : c.n.data.toList ∉ nnR l) : valL c.n (meV l bs gs f).b = (c.v, true) := by
  have hm := meV_good (l := l) (bs := bs) (gs := gs) (f := f) (by rw [h]; decide)
  obtain ⟨g1, g2, g3, g4, g5⟩ := meB_parts hm
  exact valL_mem (okI_iff.1 (meV_okB hm)).2.1 ((meV_same h (bi_nm g2 hc) hn c rfl).2 hc) rfl
theorem meV_none {l : List Tk} {bs : List Bi} {gs : List Int} {f : Int} (h : (meV l bs gs f).c = 0) {c : Bi} (hc : c ∈ (meV l bs gs f).b) (hn : c.n.data.toList ∉ nnR l) : (valL c.n bs).2 = true := by
  have hm := meV_good (l := l) (bs := bs) (gs := gs) (f := f) (by rw [h]; decide)
  obtain ⟨g1, g2, g3, g4, g5⟩ := meB_parts hm
  rw [valL_mem (okI_iff.1 g2).2.1 ((meV_same h (bi_nm (meV_okB hm) hc) hn c rfl).1 hc) rfl]
theorem meV_zs {l : List Tk} {bs : List Bi} {gs : List Int} {f : Int} (h : (meV l bs gs f).c = 0) (h12 : bs.length < 12) {z : Tk} (hz : nmB z = true) {x : Int} (hx : isW x = true) :
    sbP bs (tx z) x = (stI bs (tx z) x, true) ∧ okI (stI bs (tx z) x) = true := by
  have hm := meV_good (l := l) (bs := bs) (gs := gs) (f := f) (by rw [h]; decide)
  obtain ⟨g1, g2, g3, g4, g5⟩ := meB_parts hm
  have hlen : (stI bs (tx z) x).length ≤ 12 := by rw [stI_len]; split <;> omega
  have hzx : (nmB (tx z).data.toList && isW x) = true := by rw [tx_data, hz, hx]; rfl
  exact ⟨sbP_yes g2 hzx hlen, set_ok g2 hzx hlen⟩
theorem meV_z {l : List Tk} {bs : List Bi} {gs : List Int} {f : Int} (h : (meV l bs gs f).c = 0) (h12 : bs.length < 12) {z : Tk} (hz : nmB z = true) (hn : z ∉ nnR l) {x : Int} (hx : isW x = true) :
    (meV l (stI bs (tx z) x) gs f).c = 4 ∨ ((meV l (stI bs (tx z) x) gs f).c = 0 ∧ (meV l (stI bs (tx z) x) gs f).f = (meV l bs gs f).f ∧ cbP (meV l (stI bs (tx z) x) gs f).b (tx z) = cbP (meV l bs gs f).b (tx z)) := by
  have hm := meV_good (l := l) (bs := bs) (gs := gs) (f := f) (by rw [h]; decide)
  obtain ⟨g1, g2, g3, g4, g5⟩ := meB_parts hm
  obtain ⟨t, hw, ht, e⟩ := meB_tree hm
  have hlen : (stI bs (tx z) x).length ≤ 12 := by rw [stI_len]; split <;> omega
  have hzx : (nmB (tx z).data.toList && isW x) = true := by rw [tx_data, hz, hx]; rfl
  have ho := off_of hw ht g1 hz hn
  have hok2 := set_ok g2 hzx hlen
  have hm2 := meB_of (l := l) (bs := stI bs (tx z) x) (gs := gs) (f := f) g1 hok2 g3 ⟨g4, g5⟩
  have hokr := meV_okB hm
  have hokr2 := meV_okB hm2
  obtain ⟨t2, hw2, ht2, e2⟩ := meB_tree hm2
  have et : t2 = t := by rw [← T.rc_det hw2, ← ht2, ht, T.rc_det hw]
  subst et
  have hr : meV l bs gs f = t2.run gs ⟨0, bs, f⟩ := by
    rw [e] at h ⊢
    rw [end_c] at h
    exact end_0 h
  have hz1 := Sl.run_z gs (tx z) x t2 ⟨0, bs, f⟩ ho (okI_iff.1 g2).2.1 hlen
  have hst : St0.wz ⟨0, bs, f⟩ (tx z) x = ⟨0, stI bs (tx z) x, f⟩ := rfl
  rw [hst, ← hr] at hz1
  rcases hz1 with h1 | ⟨h1, h2, h3⟩
  · left
    rw [e2, end_c]; exact h1
  · right
    have hc : (t2.run gs ⟨0, stI bs (tx z) x, f⟩).c = 0 := by rw [h1]; exact h
    have hr2 : meV l (stI bs (tx z) x) gs f = t2.run gs ⟨0, stI bs (tx z) x, f⟩ := by rw [e2, end_0 hc]
    refine ⟨by rw [hr2]; exact hc, by rw [hr2, h1]; rfl, ?_⟩
    rw [cbP_yes hokr2, cbP_yes hokr, hr2, h1]
    exact ct_self h2 (tx z) x
theorem cb_len (l : List Bi) (n : ByteArray) : (cbP l n).length ≤ l.length := by
  unfold cbP
  split
  · rw [ctI_len]; split <;> omega
  · exact Nat.zero_le _
theorem asc_sub : ∀ {m l : List Tk}, AscT m → (∀ t ∈ m, t ∈ l) → m.length ≤ l.length
  | [], _, _, _ => Nat.zero_le _
  | x :: r, l, h, hs => by
    obtain ⟨h1, h2⟩ := List.pairwise_cons.1 h
    have hx := hs x (by simp)
    have h3 := asc_sub (l := l.erase x) h2 fun t ht => (List.mem_erase_of_ne (fun e => by
      have := h1 t ht
      rw [e] at this
      exact tk_irr x this)).2 (hs t (by simp [ht]))
    rw [List.length_erase_of_mem hx] at h3
    have := List.length_pos_of_mem hx
    simp only [List.length_cons]; omega
theorem nn_len (l : List Tk) : (nnR l).length ≤ l.length := asc_sub (nn_asc l) fun t ht => (nn_mem ht).1
end Go.Proofs.YtfnnoehpahdgcaaGreatDoor.Cl
