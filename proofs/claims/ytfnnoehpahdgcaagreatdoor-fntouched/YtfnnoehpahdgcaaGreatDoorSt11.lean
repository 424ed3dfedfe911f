/-
  Texts of mine, joined (part 11 of 11): what the law at hand reaches of them; each text's own words stand in the verifier's repo.
-/
import Derived.Test.YtfnnoehpahdgcaaGreatDoorSt10
import Derived.Test.YtfnnoehpahdgcaaGreatDoorRows
import Derived.WalkKit
import Derived.IntWalk
import Derived.Laws.Bits128
import Derived.Lib.Hide
import Derived.Lib.ParseIntBTie
import Derived.Lib.ParseIntBCases
import Derived.Lib.ItoaMem
import Derived.Lib.IndexMore
import Derived.Lib.Repeat
import Derived.WalkSpells
import Derived.Below
import Derived.Carry
import Derived.WalkSmall
import Derived.Laws.Closers25b
import Derived.Lib.Strings
import Derived.Lib.SmallJoins
import Derived.Lib.AppendIntMem
import Derived.Maps.AppendAt
import Derived.OwnWalk
import Derived.WalkLawsBesides
import Derived.Deep.QuietTactic
import Derived.BigQuiet
import Derived.Deep.RegionHeld3
import Derived.Laws.OwnMore
import Derived.Laws.StructEq
import Derived.BigFrame
import Derived.Deep.Upon
import Derived.Laws.CopyRow
import Derived.Laws.BytesArg
import Derived.RowKit3
import Derived.Shelf.Strconv.Itoa4
import Derived.Shelf.Strconv.ParseIntPublic10
import Derived.Shelf.Strconv.ErrVarParseInt
import Derived.Test.YtfnnoehpahdgcaaGreatDoorProg
import Derived.LaidMore
import Derived.Stop.LaidErr
import Derived.Lib.LaidTab
import Derived.RangeFuncWrites
import Derived.RangeFuncCalls
import Derived.RangeFuncBox
import Derived.RangeFuncNested
import Derived.RangeFuncLeaves
import Derived.Shelf.Abstract
import Derived.Shelf.RegionOpen
import Derived.OwnWalkIn
import Derived.TacticsInMore
import Derived.LoopNIn
import Derived.LoopIn
import Derived.Lib.Bytealg
import Derived.Deep.LoopGhost
import Derived.Lib.AtoiErrMem
import Derived.OpenShut
import Derived.Lib.ConvBytes
import Derived.Deep.RegionLaw
import Derived.Deep.AppendLies
import Derived.Lib.AppendZeros
import Derived.Defers
import Derived.Recover
import Derived.Lib.ItoaLen
import Derived.Sort.Walk0
import Derived.Lib.SlicesCompact
import Derived.ProofKit
import Derived.Handed
import Derived.SizedLaws
import Derived.ShutString
import Derived.Deep.Slices
import Derived.Deep.Fields
import Derived.ChangeSame
namespace Go.Proofs.YtfnnoehpahdgcaaGreatDoor.Cl
set_option linter.unusedVariables false
open Go.RowKit Wd Rp Cu Kp
set_option maxHeartbeats 1000000 in
set_option maxRecDepth 100000 in
theorem hasTx_any (w : World) (a : Option Addr) (cap : Nat) (l : List Tk) (n : Nat) (s : Tk) (hn : l.length = n) (hv : V1 w a cap (txL l)) (hl : n ≤ 4194304) :
    Calls Tryz.prog 24 #[.slice a n cap, .string (tx s)] w fun e w' => e = .returned (.bool (decide (s ∈ l))) ∧ Below w.heap.size w w' := by
  have HV := Lib.hid hv
  have HN := Lib.hid hn
  clear hv hn
  go_enter Tryz.func24, Tryz.ntmps24
  go_wp2_with fail
  go_loopw [5] (fun q wr => ∃ k : Nat, k ≤ n ∧ q = .int .i64 (k : Int) ∧ (∀ (j : Nat) (d : Tk), j < k → l[j]? = some d → d ≠ s) ∧ Below w.heap.size w wr) (fun q _ => n - intV q)
  case atStart => exact ⟨0, Nat.zero_le _, rfl, (fun j d hj => by omega), Below.refl _ _⟩
  case round =>
    obtain ⟨k, hk, rfl, hlo, hb⟩ := hrel
    have HB := Lib.hid hb
    have HLO := Lib.hid hlo
    clear hb hlo
    by_cases hkn : k < n
    · obtain ⟨c, hc⟩ : ∃ c, l[k]? = some c := ⟨l[k]'(by have := HN.out; omega), List.getElem?_eq_getElem _⟩
      obtain ⟨g, o, rfl, hg, c0⟩ := (HV.out.below HB.out).tx hc
      have t1 : (k : Int) < (n : Int) := by omega
      have t1d : decide ((k : Int) < (n : Int)) = true := by simp; omega
      have i1 : (k : Int) + 1 ≤ 9223372036854775807 := by omega
      by_cases hcs : c = s
      · have q0 : ((tx c).toList == (tx s).toList) = true := by rw [hcs]; exact tx_beq _
        have HM := Lib.hid (show decide (s ∈ l) = true from decide_eq_true (by rw [← hcs]; exact List.mem_of_getElem? hc))
        clear hcs hc hg
        go_wp2_with fail
        go_ret
        exact ⟨by have := HM.out; rw [this]; first | done | rfl, HB.out⟩
      · have q0 := tx_ne hcs
        have HL2 := Lib.hid (show ∀ (j : Nat) (d : Tk), j < k + 1 → l[j]? = some d → d ≠ s from fun j d hj hd => by
          rcases Nat.lt_or_ge j k with h | h
          · exact HLO.out j d h hd
          · obtain rfl : j = k := by omega
            rw [hc] at hd; cases hd; exact hcs)
        clear hcs hc hg
        go_wp2_with fail
        go_roundw
        case rel => exact ⟨k + 1, by omega, by go_num, HL2.out, HB.out⟩
        case measure => simp [intV]; omega
    · obtain rfl : k = n := by omega
      have HM := Lib.hid (show decide (s ∈ l) = false from decide_eq_false fun h => by
        obtain ⟨j, hj, e⟩ := List.mem_iff_getElem.1 h
        exact HLO.out j s (by have := HN.out; omega) (by rw [List.getElem?_eq_getElem hj, e]) rfl)
      have t1 : ¬ (k : Int) < (k : Int) := by omega
      clear hkn
      go_wp2_with fail
      go_ret
      exact ⟨by have := HM.out; rw [this]; first | done | rfl, HB.out⟩
theorem hasTb_any (w : World) (a : Option Addr) (cap : Nat) (l : List Tk) (n : Nat) (s : ByteArray) (hn : l.length = n) (hv : V1 w a cap (txL l)) (hl : n ≤ 4194304) :
    Calls Tryz.prog 24 #[.slice a n cap, .string s] w fun e w' => e = .returned (.bool (decide (s.data.toList ∈ l))) ∧ Below w.heap.size w w' := by
  have h := hasTx_any w a cap l n s.data.toList hn hv hl
  rw [tx_self] at h
  exact h
set_option maxHeartbeats 1000000 in
set_option maxRecDepth 100000 in
theorem drawSteps_any (w : World) (a : Option Addr) (len cap : Nat) (hb : IsBytes w a len) (hl : len ≤ 4096) : Calls Tryz.prog 21 #[.slice a len cap] w (DrewMe w) := by
  have HB := Lib.hid hb; clear hb
  go_enter Tryz.func21, Tryz.ntmps21
  go_wp2_with fail
  refine (drawMeans_any _ a len cap HB.out hl).mono ?_; rintro e w1 ⟨vl, l, bv, bs, ga, gn, gc, gs, f, rfl, hd⟩
  have HD := Lib.hid hd; clear hd
  go_wp2_with fail
  refine bodyPost_ret (v := .tuple #[vl, bv, .slice ga gn gc, .int .i64 f]) (by simp [results, Tryz.results21, go_sem]) rfl ⟨vl, l, bv, bs, ga, gn, gc, gs, f, rfl, HD.out⟩
def zT : Tk := [122, 122, 122]
theorem otV {B : Nat} {w : World} {a : Option Addr} {n cap : Nat} {l : List Tk} (h : OT B w (.slice a n cap) l) : V1 w a cap (txL l) := by
  obtain ⟨a', c', e, hv⟩ := O1.view h
  cases e; exact hv
set_option maxHeartbeats 64000000 in
set_option maxRecDepth 100000 in
theorem touched_small (w : World) (a0 : Option Addr) (len0 cap0 : Nat) (hb : IsBytes w a0 len0) (hl : len0 ≤ 4096) (hL : Lib3 w) :
    Calls Tryz.prog 4 #[.slice a0 len0 cap0] w fun e w' => e = .returned (.bool true) ∧ Below w.heap.size w w' := by
  have HB := Lib.hid hb; clear hb
  have HL := Lib.hid hL; clear hL
  go_enter Tryz.func4, Tryz.ntmps4
  go_wp2_with fail
  refine (big_no _ _ _ _ hl).mono ?_; rintro e w0 ⟨rfl, rfl⟩
  go_wp2_with fail
  refine (drawSteps_any _ a0 len0 cap0 HB.out hl).mono ?_; rintro e w1 ⟨vl, l, bv, bs, ga, gn, gc, gs, f, rfl, o1, n1, s1, o2, n2, s2, hgn, hgv, hg4, hgi, f0, f1, b1⟩
  obtain ⟨la, lc, rfl, hv1⟩ := O1.view o1
  obtain ⟨ba, bc, rfl, hv2⟩ := o2.view
  rw [txL_len]
  have HF := Lib.hid b1
  have HVL := Lib.hid hv1
  have HVB := Lib.hid hv2
  have HVG := Lib.hid hgv
  have HB1 := Lib.hid (isB_next HB.out b1)
  have HL1 := Lib.hid (lib3_below HL.out b1)
  have HML := Lib.hid (show ∀ s ∈ l, s.length ≤ 4194304 from fun s hs => by have := s1 s hs; omega)
  have HBM := Lib.hid (show ∀ c ∈ bs, c.n.size ≤ 9223372036854775806 from fun c hc => by have := s2 c hc; omega)
  clear o1 o2 b1 hv1 hv2 hgv s1 s2 hgi
  generalize hn : l.length = n at *
  generalize hbn : bs.length = bn at *
  have HN := Lib.hid hn
  have HBN := Lib.hid hbn
  have HIR := Lib.hid (fun z (hz : Below w1.heap.size w1 z) a' c' n' m' hn' hv' hl' => implMeans_any z la lc l n hn (by omega) HML.out (HVL.out.below hz) a' c' n' m' hn' hv' hl' ga gc gn gs hgn (by omega) (HVG.out.below hz) f (lib3_below HL1.out hz))
  have HI0 := Lib.hid (fun z (hz : Below w1.heap.size w1 z) => HIR.out z hz ba bc bn bs hbn (HVB.out.below hz) (by omega))
  have HS := Lib.hid (fun z (hz : Below w1.heap.size w1 z) => specMeans_any z la lc l n hn (by omega) HML.out (HVL.out.below hz) ba bc bn bs hbn (HVB.out.below hz) (by omega) ga gc gn gs hgn (by omega) (HVG.out.below hz) f HBM.out)
  have HNM := Lib.hid (fun z (hz : Below w1.heap.size w1 z) => specNames_all z la lc l n hn (HVL.out.below hz) (by omega) HML.out)
  have HLEN := Lib.hid (meV_len (l := l) (gs := gs) (f := f) (n := 20) (show bs.length ≤ 20 by omega) (by decide))
  have HOK := Lib.hid (fun h => meV_okB (meV_good (l := l) (bs := bs) (gs := gs) (f := f) h))
  have HKE := Lib.hid (fun h c hc hx => meV_kept (l := l) (bs := bs) (gs := gs) (f := f) h (c := c) hc hx)
  have HNO := Lib.hid (fun h c hc hx => meV_none (l := l) (bs := bs) (gs := gs) (f := f) h (c := c) hc hx)
  have HZS := Lib.hid (fun h h12 x hx => meV_zs (l := l) (bs := bs) (gs := gs) (f := f) h h12 (z := zT) (by decide) (x := x) hx)
  have HZZ := Lib.hid (fun h h12 hx x hw => meV_z (l := l) (bs := bs) (gs := gs) (f := f) h h12 (z := zT) (by decide) hx (x := x) hw)
  have HNL := Lib.hid (show (nnR l).length ≤ 4194304 by have := nn_len l; omega)
  generalize nnR l = nn at *
  generalize hnq : nn.length = nq at *
  have HNQ := Lib.hid hnq
  generalize hrr : meV l bs gs f = r at *
  obtain ⟨p, hpn⟩ : ∃ p, r.b.length = p := ⟨_, rfl⟩
  have HPN := Lib.hid hpn
  have hp20 : p ≤ 20 := by have := HLEN.out; omega
  clear hpn hrr hnq hn hbn
  have B1 := Lib.hid (Below.refl w1.heap.size w1)
  have Z1 := Lib.hid B1.out.size
  go_wp2_with fail
  refine (HI0.out w1 B1.out).mono ?_; rintro e w2 ⟨v9, rfl, o, b2⟩
  obtain ⟨vea, vec, rfl, -⟩ := o.view
  rw [HPN.out] at o ⊢
  have TE := Lib.hid (show ∀ k, (.slice vea p vec : Value).ownBlock = some k → w1.heap.size ≤ k from OwI.lt o)
  have UE := Lib.hid (show ∀ k, (.slice vea p vec : Value).ownBlock = some k → w2.heap.size > k from OwI.low o)
  have B2 := Lib.hid (bel_tr B1.out b2 (Nat.le_refl _))
  have Z2 := Lib.hid b2.size
  have OE := Lib.hid o; clear o b2
  have b3 := bel1 w2 (.cells #[.int .i64 r.c, .slice vea p vec, .int .i64 r.f] 30)
  have B3 := Lib.hid (bel_tr B2.out b3 (Nat.le_refl _))
  have Z3 := Lib.hid b3.size
  have OE := Lib.hid (OE.out.next b3)
  clear b3
  have KE := Lib.hid (Tri.made (.int .i64 r.c) (.slice vea p vec) (.int .i64 r.f) w2 30)
  have Y3 := Lib.hid KE.out.2.2
  obtain ⟨⟨mE0, mE1, mE2⟩, ⟨mE3, mE4, mE5⟩, -⟩ := id KE.out
  go_wp2_with fail
  clear mE0 mE1 mE2 mE3 mE4 mE5
  generalize w2.alloc (.cells #[.int .i64 r.c, .slice vea p vec, .int .i64 r.f] 30) = w3 at B3 Z3 Y3 OE KE ⊢
  obtain ⟨⟨hE0, hE1, hE2⟩, -, hEq⟩ := id KE.out
  have SOF := Lib.hid (show ∀ z, Below w3.heap.size w3 z → (z.cell? ⟨w2.heap.size, 0, none⟩ = some (.int .i64 r.c) ∧ z.cell? ⟨w2.heap.size, 1, none⟩ = some (.slice vea p vec) ∧ z.cell? ⟨w2.heap.size, 2, none⟩ = some (.int .i64 r.f) ∧ Below w3.heap.size w3 z) from fun z hz => ⟨coc hz hEq hE0, coc hz hEq hE1, coc hz hEq hE2,  hz⟩)
  clear hE0 hE1 hE2
  refine wp_region_held_drew (S := fun z => z.cell? ⟨w2.heap.size, 0, none⟩ = some (.int .i64 r.c) ∧ z.cell? ⟨w2.heap.size, 1, none⟩ = some (.slice vea p vec) ∧ z.cell? ⟨w2.heap.size, 2, none⟩ = some (.int .i64 r.f) ∧ Below w3.heap.size w3 z) (by kernel_rfl) (SOF.out _ (Below.refl _ _).drew) (fun hHeld => ?_)
  refine tkI (i := 0) (v := ?v0d) rfl (Or.inl ⟨by rfl, ?hy0d⟩) ?rest0d
  case hy0d => (intro zz hSw; (try dsimp only at hSw); go_simp; (try with_reducible rfl))
  change wpAnyH _ _ _ _ _ _ _ (Act.put _ (some 32) _) _
  simp only [Act.put, List.setIfInBounds_toArray, List.set_cons_zero, List.set_cons_succ]
  refine tkI (i := 1) (v := ?v1d) rfl (Or.inl ⟨by rfl, ?hy1d⟩) ?rest1d
  case hy1d => (intro zz hSw; (try dsimp only at hSw); go_simp; (try with_reducible rfl))
  change wpAnyH _ _ _ _ _ _ _ (Act.put _ (some 33) _) _
  simp only [Act.put, List.setIfInBounds_toArray, List.set_cons_zero, List.set_cons_succ]
  refine tkI (i := 2) (v := ?v2d) rfl (Or.inl ⟨by rfl, ?hy2d⟩) ?rest2d
  case hy2d => (intro zz hSw; (try dsimp only at hSw); go_simp; (try with_reducible rfl))
  change wpAnyH _ _ _ _ _ _ _ (Act.put _ (some 34) _) _
  simp only [Act.put, List.setIfInBounds_toArray, List.set_cons_zero, List.set_cons_succ]
  refine tkI (i := 3) (v := ?v3d) rfl (Or.inl ⟨by rfl, ?hy3d⟩) ?rest3d
  case hy3d => (intro zz hSw; (try dsimp only at hSw); go_simp; (try with_reducible rfl))
  change wpAnyH _ _ _ _ _ _ _ (Act.put _ (some 35) _) _
  simp only [Act.put, List.setIfInBounds_toArray, List.set_cons_zero, List.set_cons_succ]
  refine tkI (i := 4) (v := ?v4d) rfl (Or.inl ⟨by rfl, ?hy4d⟩) ?rest4d
  case hy4d => (intro zz hSw; (try dsimp only at hSw); go_simp; (try with_reducible rfl))
  change wpAnyH _ _ _ _ _ _ _ (Act.put _ (some 36) _) _
  simp only [Act.put, List.setIfInBounds_toArray, List.set_cons_zero, List.set_cons_succ]
  refine wpAnyH_ready (rs := [5]) (by kernel_rfl) (by simp) (AllReadyH.cons rfl (fun K hK => ?_) (AllReadyH.nil))
  go_simp
  refine (HS.out _ (bel_tr B3.out hHeld.2.2.2 (Nat.le_refl _))).mono ?_; rintro e w4 ⟨v9, rfl, o, bel⟩
  obtain ⟨wa, wc, rfl, -⟩ := o.view
  rw [HPN.out] at o ⊢
  have OS := Lib.hid o; clear o
  have OE2 := Lib.hid (OE.out.next (bel_tr hHeld.2.2.2 bel (Nat.le_refl _)))
  refine hK.out _ _ (SOF.out _ (bel_tr hHeld.2.2.2 bel (Nat.le_refl _))) (fun hHeld => ?_)
  clear hK K bel
  refine wpAnyH_ready (rs := [6]) (by kernel_rfl) (by simp) (AllReadyH.cons rfl (fun K hK => ?_) (AllReadyH.nil))
  go_simp
  refine (likeEnd_self _ r.c r.f _ _ _ _ r.b p HPN.out OE2.out.vw OS.out.vw (by omega)).mono ?_; rintro e w5 ⟨rfl, bel⟩
  clear OE2 OS
  refine hK.out _ _ (SOF.out _ (bel_tr hHeld.2.2.2 bel (Nat.le_refl _))) (fun hHeld => ?_)
  clear hK K bel
  refine tkI (i := 7) (v := ?v7d) rfl (Or.inl ⟨by rfl, ?hy7d⟩) ?rest7d
  case hy7d => (intro zz hSw; (try dsimp only at hSw); go_simp; (try with_reducible rfl))
  change wpAnyH _ _ _ _ _ _ _ (Act.put _ (some 39) _) _
  simp only [Act.put, List.setIfInBounds_toArray, List.set_cons_zero, List.set_cons_succ]
  refine wpAnyH_done (by kernel_rfl) ?_ _
  have bx := hHeld.2.2.2; clear hHeld SOF
  clear hEq
  have B5 := Lib.hid (bel_tr B3.out bx (Nat.le_refl _))
  have Z5 := Lib.hid bx.size
  have OE := Lib.hid (OE.out.next bx)
  have KE := Lib.hid (KE.out.below bx KE.out.2.2)
  clear bx
  by_cases h0 : r.c = 0
  · skip
    have c0 : (r.c != 0) = false := by simpa using h0
    have H0 := Lib.hid h0
    clear h0
    by_cases h12 : bn < 12
    · skip
      have t1 : decide ((12 : Int) ≤ (bn : Int)) = false := by simp; omega
      have t2 : ¬ (12 : Int) ≤ (bn : Int) := by omega
      have HR12 := Lib.hid h12
      clear h12
      obtain ⟨⟨kE0, kE1, kE2⟩, ⟨kE3, kE4, kE5⟩, -⟩ := id KE.out
      go_wp2_with fail
      clear kE0 kE1 kE2 kE3 kE4 kE5
      refine (HNM.out w5 B5.out).mono ?_; rintro e w6 ⟨v9, rfl, o, b6⟩
      obtain ⟨na, nc, rfl, -⟩ := O1.view o
      rw [txL_len] at o ⊢
      rw [HNQ.out] at o ⊢
      replace o : OT _ _ (.slice na nq nc) nn := o
      have TN := Lib.hid (show ∀ k, (.slice na nq nc : Value).ownBlock = some k → w5.heap.size ≤ k from OT.lt o)
      have UN := Lib.hid (show ∀ k, (.slice na nq nc : Value).ownBlock = some k → w6.heap.size > k from OT.low o)
      have B6 := Lib.hid (bel_tr B5.out b6 (Nat.le_refl _))
      have Z6 := Lib.hid b6.size
      have OE := Lib.hid (OE.out.next b6)
      have KE := Lib.hid (KE.out.below b6 KE.out.2.2)
      have ON := Lib.hid o; clear o b6
      clear t1 t2 c0
      obtain ⟨⟨kE0, kE1, kE2⟩, ⟨kE3, kE4, kE5⟩, -⟩ := id KE.out
      go_wp2_with fail
      clear kE0 kE1 kE2 kE3 kE4 kE5
      go_loopw [9] (fun i wr => ∃ k : Nat, k ≤ bn ∧ i = .int .i64 (k : Int) ∧ Below w6.heap.size w6 wr) (fun i _ => bn - intV i)
      case atStart => exact ⟨0, Nat.zero_le _, rfl, Below.refl _ _⟩
      case round =>
        obtain ⟨k, hk, rfl, hbel⟩ := hrel
        generalize hwe : wr = w7 at *
        clear hwe
        have HR := Lib.hid hbel
        have B7 := Lib.hid (bel_tr B6.out hbel (Nat.le_refl _))
        have Z7 := Lib.hid hbel.size
        have OE := Lib.hid (OE.out.next hbel)
        have ON := Lib.hid (ON.out.next hbel)
        have KE := Lib.hid (KE.out.below hbel KE.out.2.2)
        clear hbel
        by_cases hlt : k < bn
        · skip
          obtain ⟨c, hcq⟩ : ∃ c, bs[k]? = some c := ⟨bs[k]'(by have := HBN.out; omega), List.getElem?_eq_getElem _⟩
          obtain ⟨g, o, rfl, hg, h2⟩ := (HVB.out.below B7.out).2.2.2 k c hcq
          obtain ⟨c0, c1⟩ : At2 w7 g (o + k * 2) c := h2
          have HC0 := Lib.hid (And.intro hg (And.intro c0 c1))
          have HCM := Lib.hid (List.mem_of_getElem? hcq)
          have i1 : (k : Int) < (bn : Int) := by omega
          have i1d : decide ((k : Int) < (bn : Int)) = true := by simpa using hlt
          have i2 : (k : Int) + 1 ≤ 9223372036854775807 := by omega
          have v1 : (c.v != c.v) = false := by simp
          have hvn := fun z (hz : Below w7.heap.size w7 z) => specValue_any z vea vec r.b p c.n HPN.out (OE.out.next hz).vw (by omega)
          clear hcq c1 hlt
          by_cases hm : c.n.data.toList ∈ nn
          · skip
            have HM := Lib.hid (decide_eq_true hm)
            generalize valL c.n r.b = vv at hvn
            have HVN := Lib.hid hvn
            clear hvn hm
            obtain ⟨⟨kE0, kE1, kE2⟩, ⟨kE3, kE4, kE5⟩, -⟩ := id KE.out
            go_wp2_with fail
            clear kE0 kE1 kE2 kE3 kE4 kE5
            obtain ⟨⟨hE0, hE1, hE2⟩, -, hEq⟩ := id KE.out
            have SOF := Lib.hid (show ∀ z, Below w7.heap.size w7 z → (z.cell? ⟨w2.heap.size, 0, none⟩ = some (.int .i64 r.c) ∧ z.cell? ⟨w2.heap.size, 1, none⟩ = some (.slice vea p vec) ∧ z.cell? ⟨w2.heap.size, 2, none⟩ = some (.int .i64 r.f) ∧ z.cell? ⟨g, o + k * 2, none⟩ = some (.string c.n) ∧ Below w7.heap.size w7 z) from fun z hz => ⟨coc hz hEq hE0, coc hz hEq hE1, coc hz hEq hE2, coc hz hg c0,  hz⟩)
            clear hE0 hE1 hE2 c0
            refine wp_region_held_drew (S := fun z => z.cell? ⟨w2.heap.size, 0, none⟩ = some (.int .i64 r.c) ∧ z.cell? ⟨w2.heap.size, 1, none⟩ = some (.slice vea p vec) ∧ z.cell? ⟨w2.heap.size, 2, none⟩ = some (.int .i64 r.f) ∧ z.cell? ⟨g, o + k * 2, none⟩ = some (.string c.n) ∧ Below w7.heap.size w7 z) (by kernel_rfl) (SOF.out _ (Below.refl _ _).drew) (fun hHeld => ?_)
            refine tkI (i := 0) (v := ?v0e1) rfl (Or.inl ⟨by rfl, ?hy0e1⟩) ?rest0e1
            case hy0e1 => (intro zz hSw; (try dsimp only at hSw); go_simp; (try with_reducible rfl))
            change wpAnyH _ _ _ _ _ _ _ (Act.put _ (some 57) _) _
            simp only [Act.put, List.setIfInBounds_toArray, List.set_cons_zero, List.set_cons_succ]
            refine tkI (i := 1) (v := ?v1e1) rfl (Or.inl ⟨by rfl, ?hy1e1⟩) ?rest1e1
            case hy1e1 => (intro zz hSw; (try dsimp only at hSw); go_simp; (try with_reducible rfl))
            change wpAnyH _ _ _ _ _ _ _ (Act.put _ (some 58) _) _
            simp only [Act.put, List.setIfInBounds_toArray, List.set_cons_zero, List.set_cons_succ]
            refine tkI (i := 2) (v := ?v2e1) rfl (Or.inl ⟨by rfl, ?hy2e1⟩) ?rest2e1
            case hy2e1 => (intro zz hSw; (try dsimp only at hSw); go_simp; (try with_reducible rfl))
            change wpAnyH _ _ _ _ _ _ _ (Act.put _ (some 59) _) _
            simp only [Act.put, List.setIfInBounds_toArray, List.set_cons_zero, List.set_cons_succ]
            refine tkI (i := 3) (v := ?v3e1) rfl (Or.inl ⟨by rfl, ?hy3e1⟩) ?rest3e1
            case hy3e1 => (intro zz hSw; (try dsimp only at hSw); go_simp; (try with_reducible rfl))
            change wpAnyH _ _ _ _ _ _ _ (Act.put _ (some 60) _) _
            simp only [Act.put, List.setIfInBounds_toArray, List.set_cons_zero, List.set_cons_succ]
            refine tkI (i := 4) (v := ?v4e1) rfl (Or.inl ⟨by rfl, ?hy4e1⟩) ?rest4e1
            case hy4e1 => (intro zz hSw; (try dsimp only at hSw); go_simp; (try with_reducible rfl))
            change wpAnyH _ _ _ _ _ _ _ (Act.put _ (some 61) _) _
            simp only [Act.put, List.setIfInBounds_toArray, List.set_cons_zero, List.set_cons_succ]
            refine tkI (i := 5) (v := ?v5e1) rfl (Or.inl ⟨by rfl, ?hy5e1⟩) ?rest5e1
            case hy5e1 => (intro zz hSw; (try dsimp only at hSw); go_simp; (try with_reducible rfl))
            change wpAnyH _ _ _ _ _ _ _ (Act.put _ (some 62) _) _
            simp only [Act.put, List.setIfInBounds_toArray, List.set_cons_zero, List.set_cons_succ]
            refine tkI (i := 6) (v := ?v6e1) rfl (Or.inl ⟨by rfl, ?hy6e1⟩) ?rest6e1
            case hy6e1 => (intro zz hSw; (try dsimp only at hSw); go_simp; (try with_reducible rfl))
            change wpAnyH _ _ _ _ _ _ _ (Act.put _ (some 63) _) _
            simp only [Act.put, List.setIfInBounds_toArray, List.set_cons_zero, List.set_cons_succ]
            refine wpAnyH_ready (rs := [7]) (by kernel_rfl) (by simp) (AllReadyH.cons rfl (fun K hK => ?_) (AllReadyH.nil))
            go_simp
            refine (HVN.out _ hHeld.2.2.2.2).mono ?_; rintro e w8 ⟨rfl, bel⟩
            refine hK.out _ _ (SOF.out _ (bel_tr hHeld.2.2.2.2 bel (Nat.le_refl _))) (fun hHeld => ?_)
            clear hK K bel
            refine tkI (i := 8) (v := ?v8e1) rfl (Or.inl ⟨by rfl, ?hy8e1⟩) ?rest8e1
            case hy8e1 => (intro zz hSw; (try dsimp only at hSw); go_simp; (try with_reducible rfl))
            change wpAnyH _ _ _ _ _ _ _ (Act.put _ (some 56) _) _
            simp only [Act.put, List.setIfInBounds_toArray, List.set_cons_zero, List.set_cons_succ]
            refine tkI (i := 9) (v := ?v9e1) rfl (Or.inl ⟨by rfl, ?hy9e1⟩) ?rest9e1
            case hy9e1 => (intro zz hSw; (try dsimp only at hSw); go_simp; (try with_reducible rfl))
            change wpAnyH _ _ _ _ _ _ _ (Act.put _ (some 65) _) _
            simp only [Act.put, List.setIfInBounds_toArray, List.set_cons_zero, List.set_cons_succ]
            refine tkI (i := 10) (v := ?v10e1) rfl (Or.inl ⟨by rfl, ?hy10e1⟩) ?rest10e1
            case hy10e1 => (intro zz hSw; (try dsimp only at hSw); go_simp; (try with_reducible rfl))
            change wpAnyH _ _ _ _ _ _ _ (Act.put _ (some 66) _) _
            simp only [Act.put, List.setIfInBounds_toArray, List.set_cons_zero, List.set_cons_succ]
            refine tkI (i := 11) (v := ?v11e1) rfl (Or.inl ⟨by rfl, ?hy11e1⟩) ?rest11e1
            case hy11e1 => (intro zz hSw; (try dsimp only at hSw); go_simp; (try with_reducible rfl))
            change wpAnyH _ _ _ _ _ _ _ (Act.put _ (some 10) _) _
            simp only [Act.put, List.setIfInBounds_toArray, List.set_cons_zero, List.set_cons_succ]
            refine tkI (i := 12) (v := ?v12e1) rfl (Or.inl ⟨by rfl, ?hy12e1⟩) ?rest12e1
            case hy12e1 => (intro zz hSw; (try dsimp only at hSw); go_simp; (try with_reducible rfl))
            change wpAnyH _ _ _ _ _ _ _ (Act.put _ (some 11) _) _
            simp only [Act.put, List.setIfInBounds_toArray, List.set_cons_zero, List.set_cons_succ]
            refine wpAnyH_done (by kernel_rfl) ?_ _
            have bx := hHeld.2.2.2.2; clear hHeld SOF
            clear hEq
            have B8 := Lib.hid (bel_tr B7.out bx (Nat.le_refl _))
            have Z8 := Lib.hid bx.size
            have OE := Lib.hid (OE.out.next bx)
            have ON := Lib.hid (ON.out.next bx)
            have KE := Lib.hid (KE.out.below bx KE.out.2.2)
            have HR := Lib.hid (bel_tr HR.out bx (Nat.le_refl _))
            obtain ⟨hg2, e0, e1⟩ := id HC0.out
            have c0 := coc bx hg2 e0
            have c1 := coc bx hg2 e1
            have hg3 := Nat.lt_of_lt_of_le hg2 bx.size
            clear hg2 e0 e1
            clear bx
            obtain ⟨⟨kE0, kE1, kE2⟩, ⟨kE3, kE4, kE5⟩, -⟩ := id KE.out
            go_wp2_with fail
            clear kE0 kE1 kE2 kE3 kE4 kE5
            refine (hasTb_any w8 na nc nn nq c.n HNQ.out (otV ON.out) (by have := HNL.out; omega)).mono ?_; rintro e w9 ⟨rfl, bv⟩
            rw [HM.out]
            have B9 := Lib.hid (bel_tr B8.out bv (Nat.le_refl _))
            have Z9 := Lib.hid bv.size
            have OE := Lib.hid (OE.out.next bv)
            have ON := Lib.hid (ON.out.next bv)
            have KE := Lib.hid (KE.out.below bv KE.out.2.2)
            have HR := Lib.hid (bel_tr HR.out bv (Nat.le_refl _))
            have d0 := coc bv hg3 c0
            have d1 := coc bv hg3 c1
            clear bv c0 c1
            obtain ⟨⟨kE0, kE1, kE2⟩, ⟨kE3, kE4, kE5⟩, -⟩ := id KE.out
            go_wp2_with fail
            clear kE0 kE1 kE2 kE3 kE4 kE5
            go_roundw
            case rel => exact ⟨k + 1, by omega, by go_num, HR.out⟩
            case measure => simp [intV]; omega
          · skip
            have HM := Lib.hid (decide_eq_false hm)
            rw [HKE.out H0.out c HCM.out hm] at hvn
            have HVN := Lib.hid hvn
            clear hvn hm
            obtain ⟨⟨kE0, kE1, kE2⟩, ⟨kE3, kE4, kE5⟩, -⟩ := id KE.out
            go_wp2_with fail
            clear kE0 kE1 kE2 kE3 kE4 kE5
            obtain ⟨⟨hE0, hE1, hE2⟩, -, hEq⟩ := id KE.out
            have SOF := Lib.hid (show ∀ z, Below w7.heap.size w7 z → (z.cell? ⟨w2.heap.size, 0, none⟩ = some (.int .i64 r.c) ∧ z.cell? ⟨w2.heap.size, 1, none⟩ = some (.slice vea p vec) ∧ z.cell? ⟨w2.heap.size, 2, none⟩ = some (.int .i64 r.f) ∧ z.cell? ⟨g, o + k * 2, none⟩ = some (.string c.n) ∧ Below w7.heap.size w7 z) from fun z hz => ⟨coc hz hEq hE0, coc hz hEq hE1, coc hz hEq hE2, coc hz hg c0,  hz⟩)
            clear hE0 hE1 hE2 c0
            refine wp_region_held_drew (S := fun z => z.cell? ⟨w2.heap.size, 0, none⟩ = some (.int .i64 r.c) ∧ z.cell? ⟨w2.heap.size, 1, none⟩ = some (.slice vea p vec) ∧ z.cell? ⟨w2.heap.size, 2, none⟩ = some (.int .i64 r.f) ∧ z.cell? ⟨g, o + k * 2, none⟩ = some (.string c.n) ∧ Below w7.heap.size w7 z) (by kernel_rfl) (SOF.out _ (Below.refl _ _).drew) (fun hHeld => ?_)
            refine tkI (i := 0) (v := ?v0e0) rfl (Or.inl ⟨by rfl, ?hy0e0⟩) ?rest0e0
            case hy0e0 => (intro zz hSw; (try dsimp only at hSw); go_simp; (try with_reducible rfl))
            change wpAnyH _ _ _ _ _ _ _ (Act.put _ (some 57) _) _
            simp only [Act.put, List.setIfInBounds_toArray, List.set_cons_zero, List.set_cons_succ]
            refine tkI (i := 1) (v := ?v1e0) rfl (Or.inl ⟨by rfl, ?hy1e0⟩) ?rest1e0
            case hy1e0 => (intro zz hSw; (try dsimp only at hSw); go_simp; (try with_reducible rfl))
            change wpAnyH _ _ _ _ _ _ _ (Act.put _ (some 58) _) _
            simp only [Act.put, List.setIfInBounds_toArray, List.set_cons_zero, List.set_cons_succ]
            refine tkI (i := 2) (v := ?v2e0) rfl (Or.inl ⟨by rfl, ?hy2e0⟩) ?rest2e0
            case hy2e0 => (intro zz hSw; (try dsimp only at hSw); go_simp; (try with_reducible rfl))
            change wpAnyH _ _ _ _ _ _ _ (Act.put _ (some 59) _) _
            simp only [Act.put, List.setIfInBounds_toArray, List.set_cons_zero, List.set_cons_succ]
            refine tkI (i := 3) (v := ?v3e0) rfl (Or.inl ⟨by rfl, ?hy3e0⟩) ?rest3e0
            case hy3e0 => (intro zz hSw; (try dsimp only at hSw); go_simp; (try with_reducible rfl))
            change wpAnyH _ _ _ _ _ _ _ (Act.put _ (some 60) _) _
            simp only [Act.put, List.setIfInBounds_toArray, List.set_cons_zero, List.set_cons_succ]
            refine tkI (i := 4) (v := ?v4e0) rfl (Or.inl ⟨by rfl, ?hy4e0⟩) ?rest4e0
            case hy4e0 => (intro zz hSw; (try dsimp only at hSw); go_simp; (try with_reducible rfl))
            change wpAnyH _ _ _ _ _ _ _ (Act.put _ (some 61) _) _
            simp only [Act.put, List.setIfInBounds_toArray, List.set_cons_zero, List.set_cons_succ]
            refine tkI (i := 5) (v := ?v5e0) rfl (Or.inl ⟨by rfl, ?hy5e0⟩) ?rest5e0
            case hy5e0 => (intro zz hSw; (try dsimp only at hSw); go_simp; (try with_reducible rfl))
            change wpAnyH _ _ _ _ _ _ _ (Act.put _ (some 62) _) _
            simp only [Act.put, List.setIfInBounds_toArray, List.set_cons_zero, List.set_cons_succ]
            refine tkI (i := 6) (v := ?v6e0) rfl (Or.inl ⟨by rfl, ?hy6e0⟩) ?rest6e0
            case hy6e0 => (intro zz hSw; (try dsimp only at hSw); go_simp; (try with_reducible rfl))
            change wpAnyH _ _ _ _ _ _ _ (Act.put _ (some 63) _) _
            simp only [Act.put, List.setIfInBounds_toArray, List.set_cons_zero, List.set_cons_succ]
            refine wpAnyH_ready (rs := [7]) (by kernel_rfl) (by simp) (AllReadyH.cons rfl (fun K hK => ?_) (AllReadyH.nil))
            go_simp
            refine (HVN.out _ hHeld.2.2.2.2).mono ?_; rintro e w8 ⟨rfl, bel⟩
            refine hK.out _ _ (SOF.out _ (bel_tr hHeld.2.2.2.2 bel (Nat.le_refl _))) (fun hHeld => ?_)
            clear hK K bel
            refine tkI (i := 8) (v := ?v8e0) rfl (Or.inl ⟨by rfl, ?hy8e0⟩) ?rest8e0
            case hy8e0 => (intro zz hSw; (try dsimp only at hSw); go_simp; (try with_reducible rfl))
            change wpAnyH _ _ _ _ _ _ _ (Act.put _ (some 56) _) _
            simp only [Act.put, List.setIfInBounds_toArray, List.set_cons_zero, List.set_cons_succ]
            refine tkI (i := 9) (v := ?v9e0) rfl (Or.inl ⟨by rfl, ?hy9e0⟩) ?rest9e0
            case hy9e0 => (intro zz hSw; (try dsimp only at hSw); go_simp; (try with_reducible rfl))
            change wpAnyH _ _ _ _ _ _ _ (Act.put _ (some 65) _) _
            simp only [Act.put, List.setIfInBounds_toArray, List.set_cons_zero, List.set_cons_succ]
            refine tkI (i := 10) (v := ?v10e0) rfl (Or.inl ⟨by rfl, ?hy10e0⟩) ?rest10e0
            case hy10e0 => (intro zz hSw; (try dsimp only at hSw); go_simp; (try with_reducible rfl))
            change wpAnyH _ _ _ _ _ _ _ (Act.put _ (some 66) _) _
            simp only [Act.put, List.setIfInBounds_toArray, List.set_cons_zero, List.set_cons_succ]
            refine tkI (i := 11) (v := ?v11e0) rfl (Or.inl ⟨by rfl, ?hy11e0⟩) ?rest11e0
            case hy11e0 => (intro zz hSw; (try dsimp only at hSw); go_simp; (try with_reducible rfl))
            change wpAnyH _ _ _ _ _ _ _ (Act.put _ (some 10) _) _
            simp only [Act.put, List.setIfInBounds_toArray, List.set_cons_zero, List.set_cons_succ]
            refine tkI (i := 12) (v := ?v12e0) rfl (Or.inl ⟨by rfl, ?hy12e0⟩) ?rest12e0
            case hy12e0 => (intro zz hSw; (try dsimp only at hSw); go_simp; (try with_reducible rfl))
            change wpAnyH _ _ _ _ _ _ _ (Act.put _ (some 11) _) _
            simp only [Act.put, List.setIfInBounds_toArray, List.set_cons_zero, List.set_cons_succ]
            refine wpAnyH_done (by kernel_rfl) ?_ _
            have bx := hHeld.2.2.2.2; clear hHeld SOF
            clear hEq
            have B8 := Lib.hid (bel_tr B7.out bx (Nat.le_refl _))
            have Z8 := Lib.hid bx.size
            have OE := Lib.hid (OE.out.next bx)
            have ON := Lib.hid (ON.out.next bx)
            have KE := Lib.hid (KE.out.below bx KE.out.2.2)
            have HR := Lib.hid (bel_tr HR.out bx (Nat.le_refl _))
            obtain ⟨hg2, e0, e1⟩ := id HC0.out
            have c0 := coc bx hg2 e0
            have c1 := coc bx hg2 e1
            have hg3 := Nat.lt_of_lt_of_le hg2 bx.size
            clear hg2 e0 e1
            clear bx
            obtain ⟨⟨kE0, kE1, kE2⟩, ⟨kE3, kE4, kE5⟩, -⟩ := id KE.out
            go_wp2_with fail
            clear kE0 kE1 kE2 kE3 kE4 kE5
            refine (hasTb_any w8 na nc nn nq c.n HNQ.out (otV ON.out) (by have := HNL.out; omega)).mono ?_; rintro e w9 ⟨rfl, bv⟩
            rw [HM.out]
            have B9 := Lib.hid (bel_tr B8.out bv (Nat.le_refl _))
            have Z9 := Lib.hid bv.size
            have OE := Lib.hid (OE.out.next bv)
            have ON := Lib.hid (ON.out.next bv)
            have KE := Lib.hid (KE.out.below bv KE.out.2.2)
            have HR := Lib.hid (bel_tr HR.out bv (Nat.le_refl _))
            have d0 := coc bv hg3 c0
            have d1 := coc bv hg3 c1
            clear bv c0 c1
            obtain ⟨⟨kE0, kE1, kE2⟩, ⟨kE3, kE4, kE5⟩, -⟩ := id KE.out
            go_wp2_with fail
            clear kE0 kE1 kE2 kE3 kE4 kE5
            go_roundw
            case rel => exact ⟨k + 1, by omega, by go_num, HR.out⟩
            case measure => simp [intV]; omega
        · skip
          have i1 : ¬ (k : Int) < (bn : Int) := by omega
          have i1d : decide ((k : Int) < (bn : Int)) = false := by simpa using hlt
          clear hlt
          clear HR
          obtain ⟨⟨kE0, kE1, kE2⟩, ⟨kE3, kE4, kE5⟩, -⟩ := id KE.out
          go_wp2_with fail
          clear kE0 kE1 kE2 kE3 kE4 kE5
          clear i1 i1d
          go_loopw [12] (fun i wr => ∃ j : Nat, j ≤ p ∧ i = .int .i64 (j : Int) ∧ Below w7.heap.size w7 wr) (fun i _ => p - intV i)
          case atStart => exact ⟨0, Nat.zero_le _, rfl, Below.refl _ _⟩
          case round =>
            obtain ⟨j, hj, rfl, hbel⟩ := hrel
            generalize hwe : wr = w8 at *
            clear hwe
            have HR := Lib.hid hbel
            have B8 := Lib.hid (bel_tr B7.out hbel (Nat.le_refl _))
            have Z8 := Lib.hid hbel.size
            have OE := Lib.hid (OE.out.next hbel)
            have ON := Lib.hid (ON.out.next hbel)
            have KE := Lib.hid (KE.out.below hbel KE.out.2.2)
            clear hbel
            by_cases hlt : j < p
            · skip
              obtain ⟨c, hcq⟩ : ∃ c, r.b[j]? = some c := ⟨r.b[j]'(by have := HPN.out; omega), List.getElem?_eq_getElem _⟩
              obtain ⟨g, o, rfl, hg, h2⟩ := OE.out.vw.2.2.2 j c hcq
              obtain ⟨c0, c1⟩ : At2 w8 g (o + j * 2) c := h2
              have HCM := Lib.hid (List.mem_of_getElem? hcq)
              have i1 : (j : Int) < (p : Int) := by omega
              have i1d : decide ((j : Int) < (p : Int)) = true := by simpa using hlt
              have i2 : (j : Int) + 1 ≤ 9223372036854775807 := by omega
              clear hcq c1 hlt
              cases hb : (valL c.n bs).2
              · skip
                have HM := Lib.hid (show decide (c.n.data.toList ∈ nn) = true from decide_eq_true (Decidable.byContradiction fun e => by
                  have := HNO.out H0.out c HCM.out e
                  rw [hb] at this; cases this))
                have HVV := Lib.hid hb
                clear hb
                obtain ⟨⟨kE0, kE1, kE2⟩, ⟨kE3, kE4, kE5⟩, -⟩ := id KE.out
                go_wp2_with fail
                clear kE0 kE1 kE2 kE3 kE4 kE5
                refine (specValue_any w8 ba bc bs bn c.n HBN.out (HVB.out.below B8.out) (by omega)).mono ?_; rintro e w9 ⟨rfl, bv⟩
                rw [HVV.out]
                have B9 := Lib.hid (bel_tr B8.out bv (Nat.le_refl _))
                have Z9 := Lib.hid bv.size
                have OE := Lib.hid (OE.out.next bv)
                have ON := Lib.hid (ON.out.next bv)
                have KE := Lib.hid (KE.out.below bv KE.out.2.2)
                have HR := Lib.hid (bel_tr HR.out bv (Nat.le_refl _))
                have d0 := coc bv hg c0
                have hg2 := Nat.lt_of_lt_of_le hg bv.size
                clear bv c0
                obtain ⟨⟨kE0, kE1, kE2⟩, ⟨kE3, kE4, kE5⟩, -⟩ := id KE.out
                go_wp2_with fail
                clear kE0 kE1 kE2 kE3 kE4 kE5
                refine (hasTb_any w9 na nc nn nq c.n HNQ.out (otV ON.out) (by have := HNL.out; omega)).mono ?_; rintro e w10 ⟨rfl, bv⟩
                rw [HM.out]
                have B10 := Lib.hid (bel_tr B9.out bv (Nat.le_refl _))
                have Z10 := Lib.hid bv.size
                have OE := Lib.hid (OE.out.next bv)
                have ON := Lib.hid (ON.out.next bv)
                have KE := Lib.hid (KE.out.below bv KE.out.2.2)
                have HR := Lib.hid (bel_tr HR.out bv (Nat.le_refl _))
                have f0 := coc bv hg2 d0
                clear bv d0
                obtain ⟨⟨kE0, kE1, kE2⟩, ⟨kE3, kE4, kE5⟩, -⟩ := id KE.out
                go_wp2_with fail
                clear kE0 kE1 kE2 kE3 kE4 kE5
                go_roundw
                case rel => exact ⟨j + 1, by omega, by go_num, HR.out⟩
                case measure => simp [intV]; omega
              · skip
                have HVV := Lib.hid hb
                clear hb
                obtain ⟨⟨kE0, kE1, kE2⟩, ⟨kE3, kE4, kE5⟩, -⟩ := id KE.out
                go_wp2_with fail
                clear kE0 kE1 kE2 kE3 kE4 kE5
                refine (specValue_any w8 ba bc bs bn c.n HBN.out (HVB.out.below B8.out) (by omega)).mono ?_; rintro e w9 ⟨rfl, bv⟩
                rw [HVV.out]
                have B9 := Lib.hid (bel_tr B8.out bv (Nat.le_refl _))
                have Z9 := Lib.hid bv.size
                have OE := Lib.hid (OE.out.next bv)
                have ON := Lib.hid (ON.out.next bv)
                have KE := Lib.hid (KE.out.below bv KE.out.2.2)
                have HR := Lib.hid (bel_tr HR.out bv (Nat.le_refl _))
                have d0 := coc bv hg c0
                have hg2 := Nat.lt_of_lt_of_le hg bv.size
                clear bv c0
                obtain ⟨⟨kE0, kE1, kE2⟩, ⟨kE3, kE4, kE5⟩, -⟩ := id KE.out
                go_wp2_with fail
                clear kE0 kE1 kE2 kE3 kE4 kE5
                go_roundw
                case rel => exact ⟨j + 1, by omega, by go_num, HR.out⟩
                case measure => simp [intV]; omega
            · skip
              have i3 : ¬ (j : Int) < (p : Int) := by omega
              have i3d : decide ((j : Int) < (p : Int)) = false := by simpa using hlt
              clear hlt
              clear HR
              obtain ⟨⟨kE0, kE1, kE2⟩, ⟨kE3, kE4, kE5⟩, -⟩ := id KE.out
              go_wp2_with fail
              clear kE0 kE1 kE2 kE3 kE4 kE5
              clear i3 i3d
              refine (pick_below w8 a0 len0 cap0 1 1000 (isB_next HB1.out B8.out) hl (by decide) (by decide) (by decide) (by decide)).mono ?_; rintro e z ⟨q, rfl, q0, q1, rfl⟩
              have hw : isW q = true := by unfold isW; simp; omega
              have hb12 : bs.length < 12 := by have := HBN.out; have := HR12.out; omega
              obtain ⟨hs1, hs2⟩ := HZS.out H0.out hb12 q hw
              have hz := fun hx => HZZ.out H0.out hb12 hx q hw
              clear hb12
              generalize stI bs (tx zT) q = m at *
              have HM12 := Lib.hid (okI_iff.1 hs2).1
              obtain ⟨mn, hmn⟩ : ∃ mn, m.length = mn := ⟨_, rfl⟩
              have HMN := Lib.hid hmn
              have HSB := Lib.hid (fun z (hz : Below w1.heap.size w1 z) => (show Calls Tryz.prog 25 #[.slice ba bn bc, .string ⟨#[122, 122, 122]⟩, .int .i64 q] z fun e w' => ∃ v, e = .returned (.tuple #[v, .bool true]) ∧ OwI z.heap.size w' v m ∧ Below z.heap.size z w' from by
                have h := specSet_any z ba bc bs bn ⟨#[122, 122, 122]⟩ q HBN.out (HVB.out.below hz) HBM.out (by decide) (by omega)
                rw [show sbP bs ⟨#[122, 122, 122]⟩ q = (m, true) from hs1] at h
                exact h))
              have hx := fun z (hz : Below w1.heap.size w1 z) a c hv => HIR.out z hz a c mn m hmn hv (by have := HM12.out; omega)
              have hxl := meV_len (l := l) (bs := m) (gs := gs) (f := f) (n := 20) (by have := HM12.out; omega) (by decide)
              have hxo := fun h => meV_okB (meV_good (l := l) (bs := m) (gs := gs) (f := f) h)
              clear hs1 hs2 hmn hw
              generalize meV l m gs f = rx at *
              have HX := Lib.hid hx
              have HXL := Lib.hid hxl
              have HXO := Lib.hid hxo
              have HZ := Lib.hid hz
              clear hx hxl hxo hz
              obtain ⟨px, hpx⟩ : ∃ px, rx.b.length = px := ⟨_, rfl⟩
              have HPX := Lib.hid hpx
              have hpx20 : px ≤ 20 := by have := HXL.out; omega
              clear hpx
              go_wp2_with fail
              refine (HSB.out w8 B8.out).mono ?_; rintro e w9 ⟨v9, rfl, o, b9⟩
              obtain ⟨ma, mc, rfl, -⟩ := o.view
              rw [HMN.out] at o ⊢
              have TM := Lib.hid (show ∀ k, (.slice ma mn mc : Value).ownBlock = some k → w8.heap.size ≤ k from OwI.lt o)
              have UM := Lib.hid (show ∀ k, (.slice ma mn mc : Value).ownBlock = some k → w9.heap.size > k from OwI.low o)
              have B9 := Lib.hid (bel_tr B8.out b9 (Nat.le_refl _))
              have Z9 := Lib.hid b9.size
              have OE := Lib.hid (OE.out.next b9)
              have ON := Lib.hid (ON.out.next b9)
              have KE := Lib.hid (KE.out.below b9 KE.out.2.2)
              have OM := Lib.hid o; clear o b9
              go_wp2_with fail
              refine (HX.out w9 B9.out ma mc OM.out.vw).mono ?_; rintro e w10 ⟨v9, rfl, o, b10⟩
              obtain ⟨vxa, vxc, rfl, -⟩ := o.view
              rw [HPX.out] at o ⊢
              have TX := Lib.hid (show ∀ k, (.slice vxa px vxc : Value).ownBlock = some k → w9.heap.size ≤ k from OwI.lt o)
              have UX := Lib.hid (show ∀ k, (.slice vxa px vxc : Value).ownBlock = some k → w10.heap.size > k from OwI.low o)
              have B10 := Lib.hid (bel_tr B9.out b10 (Nat.le_refl _))
              have Z10 := Lib.hid b10.size
              have OE := Lib.hid (OE.out.next b10)
              have ON := Lib.hid (ON.out.next b10)
              have OM := Lib.hid (OM.out.next b10)
              have KE := Lib.hid (KE.out.below b10 KE.out.2.2)
              have OX := Lib.hid o; clear o b10
              clear OM
              obtain ⟨⟨kE0, kE1, kE2⟩, ⟨kE3, kE4, kE5⟩, -⟩ := id KE.out
              have b11 := bel1 w10 (.cells #[.int .i64 rx.c, .slice vxa px vxc, .int .i64 rx.f] 30)
              have B11 := Lib.hid (bel_tr B10.out b11 (Nat.le_refl _))
              have Z11 := Lib.hid b11.size
              have OE := Lib.hid (OE.out.next b11)
              have ON := Lib.hid (ON.out.next b11)
              have OX := Lib.hid (OX.out.next b11)
              have KE := Lib.hid (KE.out.below b11 KE.out.2.2)
              clear b11
              have KX := Lib.hid (Tri.made (.int .i64 rx.c) (.slice vxa px vxc) (.int .i64 rx.f) w10 30)
              have Y11 := Lib.hid KX.out.2.2
              obtain ⟨⟨mE0, mE1, mE2⟩, ⟨mE3, mE4, mE5⟩, -⟩ := id KE.out
              obtain ⟨⟨mX0, mX1, mX2⟩, ⟨mX3, mX4, mX5⟩, -⟩ := id KX.out
              go_wp2_with fail
              clear kE0 kE1 kE2 kE3 kE4 kE5 mE0 mE1 mE2 mE3 mE4 mE5 mX0 mX1 mX2 mX3 mX4 mX5
              generalize w10.alloc (.cells #[.int .i64 rx.c, .slice vxa px vxc, .int .i64 rx.f] 30) = w11 at B11 Z11 Y11 OE ON OX KE KX ⊢
              have hzt := fun z (hz : Below w11.heap.size w11 z) => (show Calls Tryz.prog 24 #[.slice na nq nc, .string ⟨#[122, 122, 122]⟩] z fun e w' => e = .returned (.bool (decide (zT ∈ nn))) ∧ Below z.heap.size z w' from hasTx_any z na nc nn nq zT HNQ.out (otV (ON.out.next hz)) (by have := HNL.out; omega))
              by_cases hmz : zT ∈ nn
              · skip
                rw [decide_eq_true hmz] at hzt
                have HZT := Lib.hid hzt
                clear hzt hmz
                obtain ⟨⟨hE0, hE1, hE2⟩, -, hEq⟩ := id KE.out
                obtain ⟨⟨hX0, hX1, hX2⟩, -, hXq⟩ := id KX.out
                have SOF := Lib.hid (show ∀ z, Below w11.heap.size w11 z → (z.cell? ⟨w2.heap.size, 0, none⟩ = some (.int .i64 r.c) ∧ z.cell? ⟨w2.heap.size, 1, none⟩ = some (.slice vea p vec) ∧ z.cell? ⟨w2.heap.size, 2, none⟩ = some (.int .i64 r.f) ∧ z.cell? ⟨w10.heap.size, 0, none⟩ = some (.int .i64 rx.c) ∧ z.cell? ⟨w10.heap.size, 1, none⟩ = some (.slice vxa px vxc) ∧ z.cell? ⟨w10.heap.size, 2, none⟩ = some (.int .i64 rx.f) ∧ Below w11.heap.size w11 z) from fun z hz => ⟨coc hz hEq hE0, coc hz hEq hE1, coc hz hEq hE2, coc hz hXq hX0, coc hz hXq hX1, coc hz hXq hX2,  hz⟩)
                clear hE0 hE1 hE2 hX0 hX1 hX2
                refine wp_region_held_drew (S := fun z => z.cell? ⟨w2.heap.size, 0, none⟩ = some (.int .i64 r.c) ∧ z.cell? ⟨w2.heap.size, 1, none⟩ = some (.slice vea p vec) ∧ z.cell? ⟨w2.heap.size, 2, none⟩ = some (.int .i64 r.f) ∧ z.cell? ⟨w10.heap.size, 0, none⟩ = some (.int .i64 rx.c) ∧ z.cell? ⟨w10.heap.size, 1, none⟩ = some (.slice vxa px vxc) ∧ z.cell? ⟨w10.heap.size, 2, none⟩ = some (.int .i64 rx.f) ∧ Below w11.heap.size w11 z) (by kernel_rfl) (SOF.out _ (Below.refl _ _).drew) (fun hHeld => ?_)
                refine tkI (i := 0) (v := ?v0f0) rfl (Or.inl ⟨by rfl, ?hy0f0⟩) ?rest0f0
                case hy0f0 => (intro zz hSw; (try dsimp only at hSw); go_simp; (try with_reducible rfl))
                change wpAnyH _ _ _ _ _ _ _ (Act.put _ (some 131) _) _
                simp only [Act.put, List.setIfInBounds_toArray, List.set_cons_zero, List.set_cons_succ]
                refine wpAnyH_ready (rs := [1]) (by kernel_rfl) (by simp) (AllReadyH.cons rfl (fun K hK => ?_) (AllReadyH.nil))
                go_simp
                refine (HZT.out _ hHeld.2.2.2.2.2.2).mono ?_; rintro e w12 ⟨rfl, bel⟩
                refine hK.out _ _ (SOF.out _ (bel_tr hHeld.2.2.2.2.2.2 bel (Nat.le_refl _))) (fun hHeld => ?_)
                clear hK K bel
                refine tkI (i := 2) (v := ?v2f0) rfl (Or.inl ⟨by rfl, ?hy2f0⟩) ?rest2f0
                case hy2f0 => (intro zz hSw; (try dsimp only at hSw); go_simp; (try with_reducible rfl))
                change wpAnyH _ _ _ _ _ _ _ (Act.put _ (some 133) _) _
                simp only [Act.put, List.setIfInBounds_toArray, List.set_cons_zero, List.set_cons_succ]
                refine tkI (i := 3) (v := undef) rfl (Or.inr ⟨by rfl, rfl⟩) ?_
                change wpAnyH _ _ _ _ _ _ _ (Act.put _ (some 134) _) _
                simp only [Act.put, List.setIfInBounds_toArray, List.set_cons_zero, List.set_cons_succ]
                refine tkI (i := 4) (v := undef) rfl (Or.inr ⟨by rfl, rfl⟩) ?_
                change wpAnyH _ _ _ _ _ _ _ (Act.put _ (some 135) _) _
                simp only [Act.put, List.setIfInBounds_toArray, List.set_cons_zero, List.set_cons_succ]
                refine tkI (i := 5) (v := undef) rfl (Or.inr ⟨by rfl, rfl⟩) ?_
                change wpAnyH _ _ _ _ _ _ _ (Act.put _ (some 136) _) _
                simp only [Act.put, List.setIfInBounds_toArray, List.set_cons_zero, List.set_cons_succ]
                refine tkI (i := 6) (v := undef) rfl (Or.inr ⟨by rfl, rfl⟩) ?_
                change wpAnyH _ _ _ _ _ _ _ (Act.put _ (some 137) _) _
                simp only [Act.put, List.setIfInBounds_toArray, List.set_cons_zero, List.set_cons_succ]
                refine tkI (i := 7) (v := undef) rfl (Or.inr ⟨by rfl, rfl⟩) ?_
                change wpAnyH _ _ _ _ _ _ _ (Act.put _ (some 138) _) _
                simp only [Act.put, List.setIfInBounds_toArray, List.set_cons_zero, List.set_cons_succ]
                refine tkI (i := 8) (v := undef) rfl (Or.inr ⟨by rfl, rfl⟩) ?_
                change wpAnyH _ _ _ _ _ _ _ (Act.put _ (some 139) _) _
                simp only [Act.put, List.setIfInBounds_toArray, List.set_cons_zero, List.set_cons_succ]
                refine tkI (i := 9) (v := undef) rfl (Or.inr ⟨by rfl, rfl⟩) ?_
                change wpAnyH _ _ _ _ _ _ _ (Act.put _ (some 140) _) _
                simp only [Act.put, List.setIfInBounds_toArray, List.set_cons_zero, List.set_cons_succ]
                refine tkI (i := 10) (v := undef) rfl (Or.inr ⟨by rfl, rfl⟩) ?_
                change wpAnyH _ _ _ _ _ _ _ (Act.put _ (some 141) _) _
                simp only [Act.put, List.setIfInBounds_toArray, List.set_cons_zero, List.set_cons_succ]
                refine tkI (i := 11) (v := undef) rfl (Or.inr ⟨by rfl, rfl⟩) ?_
                change wpAnyH _ _ _ _ _ _ _ (Act.put _ (some 142) _) _
                simp only [Act.put, List.setIfInBounds_toArray, List.set_cons_zero, List.set_cons_succ]
                refine tkI (i := 12) (v := ?v12f0) rfl (Or.inl ⟨by rfl, ?hy12f0⟩) ?rest12f0
                case hy12f0 => (intro zz hSw; (try dsimp only at hSw); go_simp; (try with_reducible rfl))
                change wpAnyH _ _ _ _ _ _ _ (Act.put _ (some 143) _) _
                simp only [Act.put, List.setIfInBounds_toArray, List.set_cons_zero, List.set_cons_succ]
                refine tkI (i := 13) (v := ?v13f0) rfl (Or.inl ⟨by rfl, ?hy13f0⟩) ?rest13f0
                case hy13f0 => (intro zz hSw; (try dsimp only at hSw); go_simp; (try with_reducible rfl))
                change wpAnyH _ _ _ _ _ _ _ (Act.put _ (some 144) _) _
                simp only [Act.put, List.setIfInBounds_toArray, List.set_cons_zero, List.set_cons_succ]
                refine tkI (i := 14) (v := undef) rfl (Or.inr ⟨by rfl, rfl⟩) ?_
                change wpAnyH _ _ _ _ _ _ _ (Act.put _ (some 145) _) _
                simp only [Act.put, List.setIfInBounds_toArray, List.set_cons_zero, List.set_cons_succ]
                refine tkI (i := 15) (v := undef) rfl (Or.inr ⟨by rfl, rfl⟩) ?_
                change wpAnyH _ _ _ _ _ _ _ (Act.put _ (some 146) _) _
                simp only [Act.put, List.setIfInBounds_toArray, List.set_cons_zero, List.set_cons_succ]
                refine tkI (i := 16) (v := undef) rfl (Or.inr ⟨by rfl, rfl⟩) ?_
                change wpAnyH _ _ _ _ _ _ _ (Act.put _ (some 147) _) _
                simp only [Act.put, List.setIfInBounds_toArray, List.set_cons_zero, List.set_cons_succ]
                refine tkI (i := 17) (v := ?v17f0) rfl (Or.inl ⟨by rfl, ?hy17f0⟩) ?rest17f0
                case hy17f0 => (intro zz hSw; (try dsimp only at hSw); go_simp; (try with_reducible rfl))
                change wpAnyH _ _ _ _ _ _ _ (Act.put _ (some 148) _) _
                simp only [Act.put, List.setIfInBounds_toArray, List.set_cons_zero, List.set_cons_succ]
                refine tkI (i := 18) (v := ?v18f0) rfl (Or.inl ⟨by rfl, ?hy18f0⟩) ?rest18f0
                case hy18f0 => (intro zz hSw; (try dsimp only at hSw); go_simp; (try with_reducible rfl))
                change wpAnyH _ _ _ _ _ _ _ (Act.put _ (some 149) _) _
                simp only [Act.put, List.setIfInBounds_toArray, List.set_cons_zero, List.set_cons_succ]
                refine tkI (i := 19) (v := undef) rfl (Or.inr ⟨by rfl, rfl⟩) ?_
                change wpAnyH _ _ _ _ _ _ _ (Act.put _ (some 150) _) _
                simp only [Act.put, List.setIfInBounds_toArray, List.set_cons_zero, List.set_cons_succ]
                refine tkI (i := 20) (v := undef) rfl (Or.inr ⟨by rfl, rfl⟩) ?_
                change wpAnyH _ _ _ _ _ _ _ (Act.put _ (some 151) _) _
                simp only [Act.put, List.setIfInBounds_toArray, List.set_cons_zero, List.set_cons_succ]
                refine tkI (i := 21) (v := undef) rfl (Or.inr ⟨by rfl, rfl⟩) ?_
                change wpAnyH _ _ _ _ _ _ _ (Act.put _ (some 152) _) _
                simp only [Act.put, List.setIfInBounds_toArray, List.set_cons_zero, List.set_cons_succ]
                refine tkI (i := 22) (v := undef) rfl (Or.inr ⟨by rfl, rfl⟩) ?_
                change wpAnyH _ _ _ _ _ _ _ (Act.put _ (some 153) _) _
                simp only [Act.put, List.setIfInBounds_toArray, List.set_cons_zero, List.set_cons_succ]
                refine tkI (i := 23) (v := undef) rfl (Or.inr ⟨by rfl, rfl⟩) ?_
                change wpAnyH _ _ _ _ _ _ _ (Act.put _ (some 154) _) _
                simp only [Act.put, List.setIfInBounds_toArray, List.set_cons_zero, List.set_cons_succ]
                refine tkI (i := 24) (v := undef) rfl (Or.inr ⟨by rfl, rfl⟩) ?_
                change wpAnyH _ _ _ _ _ _ _ (Act.put _ (some 155) _) _
                simp only [Act.put, List.setIfInBounds_toArray, List.set_cons_zero, List.set_cons_succ]
                refine tkI (i := 25) (v := undef) rfl (Or.inr ⟨by rfl, rfl⟩) ?_
                change wpAnyH _ _ _ _ _ _ _ (Act.put _ (some 156) _) _
                simp only [Act.put, List.setIfInBounds_toArray, List.set_cons_zero, List.set_cons_succ]
                refine tkI (i := 26) (v := undef) rfl (Or.inr ⟨by rfl, rfl⟩) ?_
                change wpAnyH _ _ _ _ _ _ _ (Act.put _ (some 157) _) _
                simp only [Act.put, List.setIfInBounds_toArray, List.set_cons_zero, List.set_cons_succ]
                refine tkI (i := 27) (v := undef) rfl (Or.inr ⟨by rfl, rfl⟩) ?_
                change wpAnyH _ _ _ _ _ _ _ (Act.put _ (some 158) _) _
                simp only [Act.put, List.setIfInBounds_toArray, List.set_cons_zero, List.set_cons_succ]
                refine tkI (i := 28) (v := undef) rfl (Or.inr ⟨by rfl, rfl⟩) ?_
                change wpAnyH _ _ _ _ _ _ _ (Act.put _ (some 159) _) _
                simp only [Act.put, List.setIfInBounds_toArray, List.set_cons_zero, List.set_cons_succ]
                refine tkI (i := 29) (v := undef) rfl (Or.inr ⟨by rfl, rfl⟩) ?_
                change wpAnyH _ _ _ _ _ _ _ (Act.put _ (some 160) _) _
                simp only [Act.put, List.setIfInBounds_toArray, List.set_cons_zero, List.set_cons_succ]
                refine tkI (i := 30) (v := undef) rfl (Or.inr ⟨by rfl, rfl⟩) ?_
                change wpAnyH _ _ _ _ _ _ _ (Act.put _ (some 161) _) _
                simp only [Act.put, List.setIfInBounds_toArray, List.set_cons_zero, List.set_cons_succ]
                refine tkI (i := 31) (v := undef) rfl (Or.inr ⟨by rfl, rfl⟩) ?_
                change wpAnyH _ _ _ _ _ _ _ (Act.put _ (some 162) _) _
                simp only [Act.put, List.setIfInBounds_toArray, List.set_cons_zero, List.set_cons_succ]
                refine tkI (i := 32) (v := undef) rfl (Or.inr ⟨by rfl, rfl⟩) ?_
                change wpAnyH _ _ _ _ _ _ _ (Act.put _ (some 163) _) _
                simp only [Act.put, List.setIfInBounds_toArray, List.set_cons_zero, List.set_cons_succ]
                refine tkI (i := 33) (v := undef) rfl (Or.inr ⟨by rfl, rfl⟩) ?_
                change wpAnyH _ _ _ _ _ _ _ (Act.put _ (some 164) _) _
                simp only [Act.put, List.setIfInBounds_toArray, List.set_cons_zero, List.set_cons_succ]
                refine tkI (i := 34) (v := undef) rfl (Or.inr ⟨by rfl, rfl⟩) ?_
                change wpAnyH _ _ _ _ _ _ _ (Act.put _ (some 165) _) _
                simp only [Act.put, List.setIfInBounds_toArray, List.set_cons_zero, List.set_cons_succ]
                refine tkI (i := 35) (v := undef) rfl (Or.inr ⟨by rfl, rfl⟩) ?_
                change wpAnyH _ _ _ _ _ _ _ (Act.put _ (some 166) _) _
                simp only [Act.put, List.setIfInBounds_toArray, List.set_cons_zero, List.set_cons_succ]
                refine tkI (i := 36) (v := undef) rfl (Or.inr ⟨by rfl, rfl⟩) ?_
                change wpAnyH _ _ _ _ _ _ _ (Act.put _ (some 167) _) _
                simp only [Act.put, List.setIfInBounds_toArray, List.set_cons_zero, List.set_cons_succ]
                refine tkI (i := 37) (v := undef) rfl (Or.inr ⟨by rfl, rfl⟩) ?_
                change wpAnyH _ _ _ _ _ _ _ (Act.put _ (some 168) _) _
                simp only [Act.put, List.setIfInBounds_toArray, List.set_cons_zero, List.set_cons_succ]
                refine tkI (i := 38) (v := ?v38f0) rfl (Or.inl ⟨by rfl, ?hy38f0⟩) ?rest38f0
                case hy38f0 => (intro zz hSw; (try dsimp only at hSw); go_simp; (try with_reducible rfl))
                change wpAnyH _ _ _ _ _ _ _ (Act.put _ (some 169) _) _
                simp only [Act.put, List.setIfInBounds_toArray, List.set_cons_zero, List.set_cons_succ]
                refine tkI (i := 39) (v := ?v39f0) rfl (Or.inl ⟨by rfl, ?hy39f0⟩) ?rest39f0
                case hy39f0 => (intro zz hSw; (try dsimp only at hSw); go_simp; (try with_reducible rfl))
                change wpAnyH _ _ _ _ _ _ _ (Act.put _ (some 2) _) _
                simp only [Act.put, List.setIfInBounds_toArray, List.set_cons_zero, List.set_cons_succ]
                refine wpAnyH_done (by kernel_rfl) ?_ _
                have bx := hHeld.2.2.2.2.2.2; clear hHeld SOF
                clear hEq hXq
                have B12 := Lib.hid (bel_tr B11.out bx (Nat.le_refl _))
                have Z12 := Lib.hid bx.size
                have OE := Lib.hid (OE.out.next bx)
                have ON := Lib.hid (ON.out.next bx)
                have OX := Lib.hid (OX.out.next bx)
                have KE := Lib.hid (KE.out.below bx KE.out.2.2)
                have KX := Lib.hid (KX.out.below bx KX.out.2.2)
                clear bx
                go_wp2_with fail
                go_ret
                exact ⟨rfl, bel_tr HF.out B12.out (Nat.le_refl _)⟩
              · skip
                have hzz := HZ.out hmz
                rw [decide_eq_false hmz] at hzt
                have HZT := Lib.hid hzt
                clear hzt hmz
                rcases hzz with x4 | ⟨x0, xf, xb⟩
                · skip
                  have n0 : (rx.c != 0) = true := by rw [x4]; rfl
                  have n4 : (rx.c == 4) = true := by rw [x4]; rfl
                  clear x4
                  by_cases h12 : p = 12
                  · skip
                    have e12 : ((p : Int) == 12) = true := by rw [h12]; rfl
                    clear h12
                    obtain ⟨⟨hE0, hE1, hE2⟩, -, hEq⟩ := id KE.out
                    obtain ⟨⟨hX0, hX1, hX2⟩, -, hXq⟩ := id KX.out
                    have SOF := Lib.hid (show ∀ z, Below w11.heap.size w11 z → (z.cell? ⟨w2.heap.size, 0, none⟩ = some (.int .i64 r.c) ∧ z.cell? ⟨w2.heap.size, 1, none⟩ = some (.slice vea p vec) ∧ z.cell? ⟨w2.heap.size, 2, none⟩ = some (.int .i64 r.f) ∧ z.cell? ⟨w10.heap.size, 0, none⟩ = some (.int .i64 rx.c) ∧ z.cell? ⟨w10.heap.size, 1, none⟩ = some (.slice vxa px vxc) ∧ z.cell? ⟨w10.heap.size, 2, none⟩ = some (.int .i64 rx.f) ∧ Below w11.heap.size w11 z) from fun z hz => ⟨coc hz hEq hE0, coc hz hEq hE1, coc hz hEq hE2, coc hz hXq hX0, coc hz hXq hX1, coc hz hXq hX2,  hz⟩)
                    clear hE0 hE1 hE2 hX0 hX1 hX2
                    refine wp_region_held_drew (S := fun z => z.cell? ⟨w2.heap.size, 0, none⟩ = some (.int .i64 r.c) ∧ z.cell? ⟨w2.heap.size, 1, none⟩ = some (.slice vea p vec) ∧ z.cell? ⟨w2.heap.size, 2, none⟩ = some (.int .i64 r.f) ∧ z.cell? ⟨w10.heap.size, 0, none⟩ = some (.int .i64 rx.c) ∧ z.cell? ⟨w10.heap.size, 1, none⟩ = some (.slice vxa px vxc) ∧ z.cell? ⟨w10.heap.size, 2, none⟩ = some (.int .i64 rx.f) ∧ Below w11.heap.size w11 z) (by kernel_rfl) (SOF.out _ (Below.refl _ _).drew) (fun hHeld => ?_)
                    refine tkI (i := 0) (v := ?v0f1) rfl (Or.inl ⟨by rfl, ?hy0f1⟩) ?rest0f1
                    case hy0f1 => (intro zz hSw; (try dsimp only at hSw); go_simp; (try with_reducible rfl))
                    change wpAnyH _ _ _ _ _ _ _ (Act.put _ (some 131) _) _
                    simp only [Act.put, List.setIfInBounds_toArray, List.set_cons_zero, List.set_cons_succ]
                    refine wpAnyH_ready (rs := [1]) (by kernel_rfl) (by simp) (AllReadyH.cons rfl (fun K hK => ?_) (AllReadyH.nil))
                    go_simp
                    refine (HZT.out _ hHeld.2.2.2.2.2.2).mono ?_; rintro e w12 ⟨rfl, bel⟩
                    refine hK.out _ _ (SOF.out _ (bel_tr hHeld.2.2.2.2.2.2 bel (Nat.le_refl _))) (fun hHeld => ?_)
                    clear hK K bel
                    refine tkI (i := 2) (v := ?v2f1) rfl (Or.inl ⟨by rfl, ?hy2f1⟩) ?rest2f1
                    case hy2f1 => (intro zz hSw; (try dsimp only at hSw); go_simp; (try with_reducible rfl))
                    change wpAnyH _ _ _ _ _ _ _ (Act.put _ (some 133) _) _
                    simp only [Act.put, List.setIfInBounds_toArray, List.set_cons_zero, List.set_cons_succ]
                    refine tkI (i := 3) (v := ?v3f1) rfl (Or.inl ⟨by rfl, ?hy3f1⟩) ?rest3f1
                    case hy3f1 => (intro zz hSw; (try dsimp only at hSw); go_simp; (try with_reducible rfl))
                    change wpAnyH _ _ _ _ _ _ _ (Act.put _ (some 134) _) _
                    simp only [Act.put, List.setIfInBounds_toArray, List.set_cons_zero, List.set_cons_succ]
                    refine tkI (i := 4) (v := ?v4f1) rfl (Or.inl ⟨by rfl, ?hy4f1⟩) ?rest4f1
                    case hy4f1 => (intro zz hSw; (try dsimp only at hSw); go_simp; (try with_reducible rfl))
                    change wpAnyH _ _ _ _ _ _ _ (Act.put _ (some 135) _) _
                    simp only [Act.put, List.setIfInBounds_toArray, List.set_cons_zero, List.set_cons_succ]
                    refine tkI (i := 5) (v := ?v5f1) rfl (Or.inl ⟨by rfl, ?hy5f1⟩) ?rest5f1
                    case hy5f1 => (intro zz hSw; (try dsimp only at hSw); go_simp; (try with_reducible rfl))
                    change wpAnyH _ _ _ _ _ _ _ (Act.put _ (some 136) _) _
                    simp only [Act.put, List.setIfInBounds_toArray, List.set_cons_zero, List.set_cons_succ]
                    refine tkI (i := 6) (v := ?v6f1) rfl (Or.inl ⟨by rfl, ?hy6f1⟩) ?rest6f1
                    case hy6f1 => (intro zz hSw; (try dsimp only at hSw); go_simp; (try with_reducible rfl))
                    change wpAnyH _ _ _ _ _ _ _ (Act.put _ (some 137) _) _
                    simp only [Act.put, List.setIfInBounds_toArray, List.set_cons_zero, List.set_cons_succ]
                    refine tkI (i := 7) (v := ?v7f1) rfl (Or.inl ⟨by rfl, ?hy7f1⟩) ?rest7f1
                    case hy7f1 => (intro zz hSw; (try dsimp only at hSw); go_simp; (try with_reducible rfl))
                    change wpAnyH _ _ _ _ _ _ _ (Act.put _ (some 138) _) _
                    simp only [Act.put, List.setIfInBounds_toArray, List.set_cons_zero, List.set_cons_succ]
                    refine tkI (i := 8) (v := ?v8f1) rfl (Or.inl ⟨by rfl, ?hy8f1⟩) ?rest8f1
                    case hy8f1 => (intro zz hSw; (try dsimp only at hSw); go_simp; (try with_reducible rfl))
                    change wpAnyH _ _ _ _ _ _ _ (Act.put _ (some 139) _) _
                    simp only [Act.put, List.setIfInBounds_toArray, List.set_cons_zero, List.set_cons_succ]
                    refine tkI (i := 9) (v := ?v9f1) rfl (Or.inl ⟨by rfl, ?hy9f1⟩) ?rest9f1
                    case hy9f1 => (intro zz hSw; (try dsimp only at hSw); go_simp; (try with_reducible rfl))
                    change wpAnyH _ _ _ _ _ _ _ (Act.put _ (some 140) _) _
                    simp only [Act.put, List.setIfInBounds_toArray, List.set_cons_zero, List.set_cons_succ]
                    refine tkI (i := 10) (v := ?v10f1) rfl (Or.inl ⟨by rfl, ?hy10f1⟩) ?rest10f1
                    case hy10f1 => (intro zz hSw; (try dsimp only at hSw); go_simp; (try with_reducible rfl))
                    change wpAnyH _ _ _ _ _ _ _ (Act.put _ (some 141) _) _
                    simp only [Act.put, List.setIfInBounds_toArray, List.set_cons_zero, List.set_cons_succ]
                    refine tkI (i := 11) (v := ?v11f1) rfl (Or.inl ⟨by rfl, ?hy11f1⟩) ?rest11f1
                    case hy11f1 => (intro zz hSw; (try dsimp only at hSw); go_simp; (try with_reducible rfl))
                    change wpAnyH _ _ _ _ _ _ _ (Act.put _ (some 142) _) _
                    simp only [Act.put, List.setIfInBounds_toArray, List.set_cons_zero, List.set_cons_succ]
                    refine tkI (i := 12) (v := ?v12f1) rfl (Or.inl ⟨by rfl, ?hy12f1⟩) ?rest12f1
                    case hy12f1 => (intro zz hSw; (try dsimp only at hSw); go_simp; (try with_reducible rfl))
                    change wpAnyH _ _ _ _ _ _ _ (Act.put _ (some 143) _) _
                    simp only [Act.put, List.setIfInBounds_toArray, List.set_cons_zero, List.set_cons_succ]
                    refine tkI (i := 13) (v := ?v13f1) rfl (Or.inl ⟨by rfl, ?hy13f1⟩) ?rest13f1
                    case hy13f1 => (intro zz hSw; (try dsimp only at hSw); go_simp; (try with_reducible rfl))
                    change wpAnyH _ _ _ _ _ _ _ (Act.put _ (some 144) _) _
                    simp only [Act.put, List.setIfInBounds_toArray, List.set_cons_zero, List.set_cons_succ]
                    refine tkI (i := 14) (v := undef) rfl (Or.inr ⟨by rfl, rfl⟩) ?_
                    change wpAnyH _ _ _ _ _ _ _ (Act.put _ (some 145) _) _
                    simp only [Act.put, List.setIfInBounds_toArray, List.set_cons_zero, List.set_cons_succ]
                    refine tkI (i := 15) (v := undef) rfl (Or.inr ⟨by rfl, rfl⟩) ?_
                    change wpAnyH _ _ _ _ _ _ _ (Act.put _ (some 146) _) _
                    simp only [Act.put, List.setIfInBounds_toArray, List.set_cons_zero, List.set_cons_succ]
                    refine tkI (i := 16) (v := undef) rfl (Or.inr ⟨by rfl, rfl⟩) ?_
                    change wpAnyH _ _ _ _ _ _ _ (Act.put _ (some 147) _) _
                    simp only [Act.put, List.setIfInBounds_toArray, List.set_cons_zero, List.set_cons_succ]
                    refine tkI (i := 17) (v := ?v17f1) rfl (Or.inl ⟨by rfl, ?hy17f1⟩) ?rest17f1
                    case hy17f1 => (intro zz hSw; (try dsimp only at hSw); go_simp; (try with_reducible rfl))
                    change wpAnyH _ _ _ _ _ _ _ (Act.put _ (some 148) _) _
                    simp only [Act.put, List.setIfInBounds_toArray, List.set_cons_zero, List.set_cons_succ]
                    refine tkI (i := 18) (v := ?v18f1) rfl (Or.inl ⟨by rfl, ?hy18f1⟩) ?rest18f1
                    case hy18f1 => (intro zz hSw; (try dsimp only at hSw); go_simp; (try with_reducible rfl))
                    change wpAnyH _ _ _ _ _ _ _ (Act.put _ (some 149) _) _
                    simp only [Act.put, List.setIfInBounds_toArray, List.set_cons_zero, List.set_cons_succ]
                    refine tkI (i := 19) (v := undef) rfl (Or.inr ⟨by rfl, rfl⟩) ?_
                    change wpAnyH _ _ _ _ _ _ _ (Act.put _ (some 150) _) _
                    simp only [Act.put, List.setIfInBounds_toArray, List.set_cons_zero, List.set_cons_succ]
                    refine tkI (i := 20) (v := undef) rfl (Or.inr ⟨by rfl, rfl⟩) ?_
                    change wpAnyH _ _ _ _ _ _ _ (Act.put _ (some 151) _) _
                    simp only [Act.put, List.setIfInBounds_toArray, List.set_cons_zero, List.set_cons_succ]
                    refine tkI (i := 21) (v := undef) rfl (Or.inr ⟨by rfl, rfl⟩) ?_
                    change wpAnyH _ _ _ _ _ _ _ (Act.put _ (some 152) _) _
                    simp only [Act.put, List.setIfInBounds_toArray, List.set_cons_zero, List.set_cons_succ]
                    refine tkI (i := 22) (v := undef) rfl (Or.inr ⟨by rfl, rfl⟩) ?_
                    change wpAnyH _ _ _ _ _ _ _ (Act.put _ (some 153) _) _
                    simp only [Act.put, List.setIfInBounds_toArray, List.set_cons_zero, List.set_cons_succ]
                    refine tkI (i := 23) (v := undef) rfl (Or.inr ⟨by rfl, rfl⟩) ?_
                    change wpAnyH _ _ _ _ _ _ _ (Act.put _ (some 154) _) _
                    simp only [Act.put, List.setIfInBounds_toArray, List.set_cons_zero, List.set_cons_succ]
                    refine tkI (i := 24) (v := undef) rfl (Or.inr ⟨by rfl, rfl⟩) ?_
                    change wpAnyH _ _ _ _ _ _ _ (Act.put _ (some 155) _) _
                    simp only [Act.put, List.setIfInBounds_toArray, List.set_cons_zero, List.set_cons_succ]
                    refine tkI (i := 25) (v := undef) rfl (Or.inr ⟨by rfl, rfl⟩) ?_
                    change wpAnyH _ _ _ _ _ _ _ (Act.put _ (some 156) _) _
                    simp only [Act.put, List.setIfInBounds_toArray, List.set_cons_zero, List.set_cons_succ]
                    refine tkI (i := 26) (v := undef) rfl (Or.inr ⟨by rfl, rfl⟩) ?_
                    change wpAnyH _ _ _ _ _ _ _ (Act.put _ (some 157) _) _
                    simp only [Act.put, List.setIfInBounds_toArray, List.set_cons_zero, List.set_cons_succ]
                    refine tkI (i := 27) (v := undef) rfl (Or.inr ⟨by rfl, rfl⟩) ?_
                    change wpAnyH _ _ _ _ _ _ _ (Act.put _ (some 158) _) _
                    simp only [Act.put, List.setIfInBounds_toArray, List.set_cons_zero, List.set_cons_succ]
                    refine tkI (i := 28) (v := undef) rfl (Or.inr ⟨by rfl, rfl⟩) ?_
                    change wpAnyH _ _ _ _ _ _ _ (Act.put _ (some 159) _) _
                    simp only [Act.put, List.setIfInBounds_toArray, List.set_cons_zero, List.set_cons_succ]
                    refine tkI (i := 29) (v := undef) rfl (Or.inr ⟨by rfl, rfl⟩) ?_
                    change wpAnyH _ _ _ _ _ _ _ (Act.put _ (some 160) _) _
                    simp only [Act.put, List.setIfInBounds_toArray, List.set_cons_zero, List.set_cons_succ]
                    refine tkI (i := 30) (v := undef) rfl (Or.inr ⟨by rfl, rfl⟩) ?_
                    change wpAnyH _ _ _ _ _ _ _ (Act.put _ (some 161) _) _
                    simp only [Act.put, List.setIfInBounds_toArray, List.set_cons_zero, List.set_cons_succ]
                    refine tkI (i := 31) (v := undef) rfl (Or.inr ⟨by rfl, rfl⟩) ?_
                    change wpAnyH _ _ _ _ _ _ _ (Act.put _ (some 162) _) _
                    simp only [Act.put, List.setIfInBounds_toArray, List.set_cons_zero, List.set_cons_succ]
                    refine tkI (i := 32) (v := undef) rfl (Or.inr ⟨by rfl, rfl⟩) ?_
                    change wpAnyH _ _ _ _ _ _ _ (Act.put _ (some 163) _) _
                    simp only [Act.put, List.setIfInBounds_toArray, List.set_cons_zero, List.set_cons_succ]
                    refine tkI (i := 33) (v := undef) rfl (Or.inr ⟨by rfl, rfl⟩) ?_
                    change wpAnyH _ _ _ _ _ _ _ (Act.put _ (some 164) _) _
                    simp only [Act.put, List.setIfInBounds_toArray, List.set_cons_zero, List.set_cons_succ]
                    refine tkI (i := 34) (v := undef) rfl (Or.inr ⟨by rfl, rfl⟩) ?_
                    change wpAnyH _ _ _ _ _ _ _ (Act.put _ (some 165) _) _
                    simp only [Act.put, List.setIfInBounds_toArray, List.set_cons_zero, List.set_cons_succ]
                    refine tkI (i := 35) (v := undef) rfl (Or.inr ⟨by rfl, rfl⟩) ?_
                    change wpAnyH _ _ _ _ _ _ _ (Act.put _ (some 166) _) _
                    simp only [Act.put, List.setIfInBounds_toArray, List.set_cons_zero, List.set_cons_succ]
                    refine tkI (i := 36) (v := undef) rfl (Or.inr ⟨by rfl, rfl⟩) ?_
                    change wpAnyH _ _ _ _ _ _ _ (Act.put _ (some 167) _) _
                    simp only [Act.put, List.setIfInBounds_toArray, List.set_cons_zero, List.set_cons_succ]
                    refine tkI (i := 37) (v := undef) rfl (Or.inr ⟨by rfl, rfl⟩) ?_
                    change wpAnyH _ _ _ _ _ _ _ (Act.put _ (some 168) _) _
                    simp only [Act.put, List.setIfInBounds_toArray, List.set_cons_zero, List.set_cons_succ]
                    refine tkI (i := 38) (v := ?v38f1) rfl (Or.inl ⟨by rfl, ?hy38f1⟩) ?rest38f1
                    case hy38f1 => (intro zz hSw; (try dsimp only at hSw); go_simp; (try with_reducible rfl))
                    change wpAnyH _ _ _ _ _ _ _ (Act.put _ (some 169) _) _
                    simp only [Act.put, List.setIfInBounds_toArray, List.set_cons_zero, List.set_cons_succ]
                    refine tkI (i := 39) (v := ?v39f1) rfl (Or.inl ⟨by rfl, ?hy39f1⟩) ?rest39f1
                    case hy39f1 => (intro zz hSw; (try dsimp only at hSw); go_simp; (try with_reducible rfl))
                    change wpAnyH _ _ _ _ _ _ _ (Act.put _ (some 2) _) _
                    simp only [Act.put, List.setIfInBounds_toArray, List.set_cons_zero, List.set_cons_succ]
                    refine wpAnyH_done (by kernel_rfl) ?_ _
                    have bx := hHeld.2.2.2.2.2.2; clear hHeld SOF
                    clear hEq hXq
                    have B12 := Lib.hid (bel_tr B11.out bx (Nat.le_refl _))
                    have Z12 := Lib.hid bx.size
                    have OE := Lib.hid (OE.out.next bx)
                    have ON := Lib.hid (ON.out.next bx)
                    have OX := Lib.hid (OX.out.next bx)
                    have KE := Lib.hid (KE.out.below bx KE.out.2.2)
                    have KX := Lib.hid (KX.out.below bx KX.out.2.2)
                    clear bx
                    go_wp2_with fail
                    go_ret
                    exact ⟨rfl, bel_tr HF.out B12.out (Nat.le_refl _)⟩
                  · skip
                    have e12 : ((p : Int) == 12) = false := beq_eq_false_iff_ne.2 (by omega)
                    clear h12
                    obtain ⟨⟨hE0, hE1, hE2⟩, -, hEq⟩ := id KE.out
                    obtain ⟨⟨hX0, hX1, hX2⟩, -, hXq⟩ := id KX.out
                    have SOF := Lib.hid (show ∀ z, Below w11.heap.size w11 z → (z.cell? ⟨w2.heap.size, 0, none⟩ = some (.int .i64 r.c) ∧ z.cell? ⟨w2.heap.size, 1, none⟩ = some (.slice vea p vec) ∧ z.cell? ⟨w2.heap.size, 2, none⟩ = some (.int .i64 r.f) ∧ z.cell? ⟨w10.heap.size, 0, none⟩ = some (.int .i64 rx.c) ∧ z.cell? ⟨w10.heap.size, 1, none⟩ = some (.slice vxa px vxc) ∧ z.cell? ⟨w10.heap.size, 2, none⟩ = some (.int .i64 rx.f) ∧ Below w11.heap.size w11 z) from fun z hz => ⟨coc hz hEq hE0, coc hz hEq hE1, coc hz hEq hE2, coc hz hXq hX0, coc hz hXq hX1, coc hz hXq hX2,  hz⟩)
                    clear hE0 hE1 hE2 hX0 hX1 hX2
                    refine wp_region_held_drew (S := fun z => z.cell? ⟨w2.heap.size, 0, none⟩ = some (.int .i64 r.c) ∧ z.cell? ⟨w2.heap.size, 1, none⟩ = some (.slice vea p vec) ∧ z.cell? ⟨w2.heap.size, 2, none⟩ = some (.int .i64 r.f) ∧ z.cell? ⟨w10.heap.size, 0, none⟩ = some (.int .i64 rx.c) ∧ z.cell? ⟨w10.heap.size, 1, none⟩ = some (.slice vxa px vxc) ∧ z.cell? ⟨w10.heap.size, 2, none⟩ = some (.int .i64 rx.f) ∧ Below w11.heap.size w11 z) (by kernel_rfl) (SOF.out _ (Below.refl _ _).drew) (fun hHeld => ?_)
                    refine tkI (i := 0) (v := ?v0f2) rfl (Or.inl ⟨by rfl, ?hy0f2⟩) ?rest0f2
                    case hy0f2 => (intro zz hSw; (try dsimp only at hSw); go_simp; (try with_reducible rfl))
                    change wpAnyH _ _ _ _ _ _ _ (Act.put _ (some 131) _) _
                    simp only [Act.put, List.setIfInBounds_toArray, List.set_cons_zero, List.set_cons_succ]
                    refine wpAnyH_ready (rs := [1]) (by kernel_rfl) (by simp) (AllReadyH.cons rfl (fun K hK => ?_) (AllReadyH.nil))
                    go_simp
                    refine (HZT.out _ hHeld.2.2.2.2.2.2).mono ?_; rintro e w12 ⟨rfl, bel⟩
                    refine hK.out _ _ (SOF.out _ (bel_tr hHeld.2.2.2.2.2.2 bel (Nat.le_refl _))) (fun hHeld => ?_)
                    clear hK K bel
                    refine tkI (i := 2) (v := ?v2f2) rfl (Or.inl ⟨by rfl, ?hy2f2⟩) ?rest2f2
                    case hy2f2 => (intro zz hSw; (try dsimp only at hSw); go_simp; (try with_reducible rfl))
                    change wpAnyH _ _ _ _ _ _ _ (Act.put _ (some 133) _) _
                    simp only [Act.put, List.setIfInBounds_toArray, List.set_cons_zero, List.set_cons_succ]
                    refine tkI (i := 3) (v := ?v3f2) rfl (Or.inl ⟨by rfl, ?hy3f2⟩) ?rest3f2
                    case hy3f2 => (intro zz hSw; (try dsimp only at hSw); go_simp; (try with_reducible rfl))
                    change wpAnyH _ _ _ _ _ _ _ (Act.put _ (some 134) _) _
                    simp only [Act.put, List.setIfInBounds_toArray, List.set_cons_zero, List.set_cons_succ]
                    refine tkI (i := 4) (v := ?v4f2) rfl (Or.inl ⟨by rfl, ?hy4f2⟩) ?rest4f2
                    case hy4f2 => (intro zz hSw; (try dsimp only at hSw); go_simp; (try with_reducible rfl))
                    change wpAnyH _ _ _ _ _ _ _ (Act.put _ (some 135) _) _
                    simp only [Act.put, List.setIfInBounds_toArray, List.set_cons_zero, List.set_cons_succ]
                    refine tkI (i := 5) (v := ?v5f2) rfl (Or.inl ⟨by rfl, ?hy5f2⟩) ?rest5f2
                    case hy5f2 => (intro zz hSw; (try dsimp only at hSw); go_simp; (try with_reducible rfl))
                    change wpAnyH _ _ _ _ _ _ _ (Act.put _ (some 136) _) _
                    simp only [Act.put, List.setIfInBounds_toArray, List.set_cons_zero, List.set_cons_succ]
                    refine tkI (i := 6) (v := ?v6f2) rfl (Or.inl ⟨by rfl, ?hy6f2⟩) ?rest6f2
                    case hy6f2 => (intro zz hSw; (try dsimp only at hSw); go_simp; (try with_reducible rfl))
                    change wpAnyH _ _ _ _ _ _ _ (Act.put _ (some 137) _) _
                    simp only [Act.put, List.setIfInBounds_toArray, List.set_cons_zero, List.set_cons_succ]
                    refine tkI (i := 7) (v := ?v7f2) rfl (Or.inl ⟨by rfl, ?hy7f2⟩) ?rest7f2
                    case hy7f2 => (intro zz hSw; (try dsimp only at hSw); go_simp; (try with_reducible rfl))
                    change wpAnyH _ _ _ _ _ _ _ (Act.put _ (some 138) _) _
                    simp only [Act.put, List.setIfInBounds_toArray, List.set_cons_zero, List.set_cons_succ]
                    refine tkI (i := 8) (v := ?v8f2) rfl (Or.inl ⟨by rfl, ?hy8f2⟩) ?rest8f2
                    case hy8f2 => (intro zz hSw; (try dsimp only at hSw); go_simp; (try with_reducible rfl))
                    change wpAnyH _ _ _ _ _ _ _ (Act.put _ (some 139) _) _
                    simp only [Act.put, List.setIfInBounds_toArray, List.set_cons_zero, List.set_cons_succ]
                    refine tkI (i := 9) (v := ?v9f2) rfl (Or.inl ⟨by rfl, ?hy9f2⟩) ?rest9f2
                    case hy9f2 => (intro zz hSw; (try dsimp only at hSw); go_simp; (try with_reducible rfl))
                    change wpAnyH _ _ _ _ _ _ _ (Act.put _ (some 140) _) _
                    simp only [Act.put, List.setIfInBounds_toArray, List.set_cons_zero, List.set_cons_succ]
                    refine tkI (i := 10) (v := ?v10f2) rfl (Or.inl ⟨by rfl, ?hy10f2⟩) ?rest10f2
                    case hy10f2 => (intro zz hSw; (try dsimp only at hSw); go_simp; (try with_reducible rfl))
                    change wpAnyH _ _ _ _ _ _ _ (Act.put _ (some 141) _) _
                    simp only [Act.put, List.setIfInBounds_toArray, List.set_cons_zero, List.set_cons_succ]
                    refine tkI (i := 11) (v := ?v11f2) rfl (Or.inl ⟨by rfl, ?hy11f2⟩) ?rest11f2
                    case hy11f2 => (intro zz hSw; (try dsimp only at hSw); go_simp; (try with_reducible rfl))
                    change wpAnyH _ _ _ _ _ _ _ (Act.put _ (some 142) _) _
                    simp only [Act.put, List.setIfInBounds_toArray, List.set_cons_zero, List.set_cons_succ]
                    refine tkI (i := 12) (v := ?v12f2) rfl (Or.inl ⟨by rfl, ?hy12f2⟩) ?rest12f2
                    case hy12f2 => (intro zz hSw; (try dsimp only at hSw); go_simp; (try with_reducible rfl))
                    change wpAnyH _ _ _ _ _ _ _ (Act.put _ (some 143) _) _
                    simp only [Act.put, List.setIfInBounds_toArray, List.set_cons_zero, List.set_cons_succ]
                    refine tkI (i := 13) (v := ?v13f2) rfl (Or.inl ⟨by rfl, ?hy13f2⟩) ?rest13f2
                    case hy13f2 => (intro zz hSw; (try dsimp only at hSw); go_simp; (try with_reducible rfl))
                    change wpAnyH _ _ _ _ _ _ _ (Act.put _ (some 144) _) _
                    simp only [Act.put, List.setIfInBounds_toArray, List.set_cons_zero, List.set_cons_succ]
                    refine tkI (i := 14) (v := ?v14f2) rfl (Or.inl ⟨by rfl, ?hy14f2⟩) ?rest14f2
                    case hy14f2 => (intro zz hSw; (try dsimp only at hSw); go_simp; (try with_reducible rfl))
                    change wpAnyH _ _ _ _ _ _ _ (Act.put _ (some 145) _) _
                    simp only [Act.put, List.setIfInBounds_toArray, List.set_cons_zero, List.set_cons_succ]
                    refine tkI (i := 15) (v := ?v15f2) rfl (Or.inl ⟨by rfl, ?hy15f2⟩) ?rest15f2
                    case hy15f2 => (intro zz hSw; (try dsimp only at hSw); go_simp; (try with_reducible rfl))
                    change wpAnyH _ _ _ _ _ _ _ (Act.put _ (some 146) _) _
                    simp only [Act.put, List.setIfInBounds_toArray, List.set_cons_zero, List.set_cons_succ]
                    refine tkI (i := 16) (v := ?v16f2) rfl (Or.inl ⟨by rfl, ?hy16f2⟩) ?rest16f2
                    case hy16f2 => (intro zz hSw; (try dsimp only at hSw); go_simp; (try with_reducible rfl))
                    change wpAnyH _ _ _ _ _ _ _ (Act.put _ (some 147) _) _
                    simp only [Act.put, List.setIfInBounds_toArray, List.set_cons_zero, List.set_cons_succ]
                    refine tkI (i := 17) (v := ?v17f2) rfl (Or.inl ⟨by rfl, ?hy17f2⟩) ?rest17f2
                    case hy17f2 => (intro zz hSw; (try dsimp only at hSw); go_simp; (try with_reducible rfl))
                    change wpAnyH _ _ _ _ _ _ _ (Act.put _ (some 148) _) _
                    simp only [Act.put, List.setIfInBounds_toArray, List.set_cons_zero, List.set_cons_succ]
                    refine tkI (i := 18) (v := ?v18f2) rfl (Or.inl ⟨by rfl, ?hy18f2⟩) ?rest18f2
                    case hy18f2 => (intro zz hSw; (try dsimp only at hSw); go_simp; (try with_reducible rfl))
                    change wpAnyH _ _ _ _ _ _ _ (Act.put _ (some 149) _) _
                    simp only [Act.put, List.setIfInBounds_toArray, List.set_cons_zero, List.set_cons_succ]
                    refine tkI (i := 19) (v := undef) rfl (Or.inr ⟨by rfl, rfl⟩) ?_
                    change wpAnyH _ _ _ _ _ _ _ (Act.put _ (some 150) _) _
                    simp only [Act.put, List.setIfInBounds_toArray, List.set_cons_zero, List.set_cons_succ]
                    refine tkI (i := 20) (v := undef) rfl (Or.inr ⟨by rfl, rfl⟩) ?_
                    change wpAnyH _ _ _ _ _ _ _ (Act.put _ (some 151) _) _
                    simp only [Act.put, List.setIfInBounds_toArray, List.set_cons_zero, List.set_cons_succ]
                    refine tkI (i := 21) (v := undef) rfl (Or.inr ⟨by rfl, rfl⟩) ?_
                    change wpAnyH _ _ _ _ _ _ _ (Act.put _ (some 152) _) _
                    simp only [Act.put, List.setIfInBounds_toArray, List.set_cons_zero, List.set_cons_succ]
                    refine tkI (i := 22) (v := undef) rfl (Or.inr ⟨by rfl, rfl⟩) ?_
                    change wpAnyH _ _ _ _ _ _ _ (Act.put _ (some 153) _) _
                    simp only [Act.put, List.setIfInBounds_toArray, List.set_cons_zero, List.set_cons_succ]
                    refine tkI (i := 23) (v := undef) rfl (Or.inr ⟨by rfl, rfl⟩) ?_
                    change wpAnyH _ _ _ _ _ _ _ (Act.put _ (some 154) _) _
                    simp only [Act.put, List.setIfInBounds_toArray, List.set_cons_zero, List.set_cons_succ]
                    refine tkI (i := 24) (v := undef) rfl (Or.inr ⟨by rfl, rfl⟩) ?_
                    change wpAnyH _ _ _ _ _ _ _ (Act.put _ (some 155) _) _
                    simp only [Act.put, List.setIfInBounds_toArray, List.set_cons_zero, List.set_cons_succ]
                    refine tkI (i := 25) (v := undef) rfl (Or.inr ⟨by rfl, rfl⟩) ?_
                    change wpAnyH _ _ _ _ _ _ _ (Act.put _ (some 156) _) _
                    simp only [Act.put, List.setIfInBounds_toArray, List.set_cons_zero, List.set_cons_succ]
                    refine tkI (i := 26) (v := undef) rfl (Or.inr ⟨by rfl, rfl⟩) ?_
                    change wpAnyH _ _ _ _ _ _ _ (Act.put _ (some 157) _) _
                    simp only [Act.put, List.setIfInBounds_toArray, List.set_cons_zero, List.set_cons_succ]
                    refine tkI (i := 27) (v := undef) rfl (Or.inr ⟨by rfl, rfl⟩) ?_
                    change wpAnyH _ _ _ _ _ _ _ (Act.put _ (some 158) _) _
                    simp only [Act.put, List.setIfInBounds_toArray, List.set_cons_zero, List.set_cons_succ]
                    refine tkI (i := 28) (v := undef) rfl (Or.inr ⟨by rfl, rfl⟩) ?_
                    change wpAnyH _ _ _ _ _ _ _ (Act.put _ (some 159) _) _
                    simp only [Act.put, List.setIfInBounds_toArray, List.set_cons_zero, List.set_cons_succ]
                    refine tkI (i := 29) (v := undef) rfl (Or.inr ⟨by rfl, rfl⟩) ?_
                    change wpAnyH _ _ _ _ _ _ _ (Act.put _ (some 160) _) _
                    simp only [Act.put, List.setIfInBounds_toArray, List.set_cons_zero, List.set_cons_succ]
                    refine tkI (i := 30) (v := undef) rfl (Or.inr ⟨by rfl, rfl⟩) ?_
                    change wpAnyH _ _ _ _ _ _ _ (Act.put _ (some 161) _) _
                    simp only [Act.put, List.setIfInBounds_toArray, List.set_cons_zero, List.set_cons_succ]
                    refine tkI (i := 31) (v := undef) rfl (Or.inr ⟨by rfl, rfl⟩) ?_
                    change wpAnyH _ _ _ _ _ _ _ (Act.put _ (some 162) _) _
                    simp only [Act.put, List.setIfInBounds_toArray, List.set_cons_zero, List.set_cons_succ]
                    refine tkI (i := 32) (v := undef) rfl (Or.inr ⟨by rfl, rfl⟩) ?_
                    change wpAnyH _ _ _ _ _ _ _ (Act.put _ (some 163) _) _
                    simp only [Act.put, List.setIfInBounds_toArray, List.set_cons_zero, List.set_cons_succ]
                    refine tkI (i := 33) (v := undef) rfl (Or.inr ⟨by rfl, rfl⟩) ?_
                    change wpAnyH _ _ _ _ _ _ _ (Act.put _ (some 164) _) _
                    simp only [Act.put, List.setIfInBounds_toArray, List.set_cons_zero, List.set_cons_succ]
                    refine tkI (i := 34) (v := undef) rfl (Or.inr ⟨by rfl, rfl⟩) ?_
                    change wpAnyH _ _ _ _ _ _ _ (Act.put _ (some 165) _) _
                    simp only [Act.put, List.setIfInBounds_toArray, List.set_cons_zero, List.set_cons_succ]
                    refine tkI (i := 35) (v := undef) rfl (Or.inr ⟨by rfl, rfl⟩) ?_
                    change wpAnyH _ _ _ _ _ _ _ (Act.put _ (some 166) _) _
                    simp only [Act.put, List.setIfInBounds_toArray, List.set_cons_zero, List.set_cons_succ]
                    refine tkI (i := 36) (v := undef) rfl (Or.inr ⟨by rfl, rfl⟩) ?_
                    change wpAnyH _ _ _ _ _ _ _ (Act.put _ (some 167) _) _
                    simp only [Act.put, List.setIfInBounds_toArray, List.set_cons_zero, List.set_cons_succ]
                    refine tkI (i := 37) (v := undef) rfl (Or.inr ⟨by rfl, rfl⟩) ?_
                    change wpAnyH _ _ _ _ _ _ _ (Act.put _ (some 168) _) _
                    simp only [Act.put, List.setIfInBounds_toArray, List.set_cons_zero, List.set_cons_succ]
                    refine tkI (i := 38) (v := ?v38f2) rfl (Or.inl ⟨by rfl, ?hy38f2⟩) ?rest38f2
                    case hy38f2 => (intro zz hSw; (try dsimp only at hSw); go_simp; (try with_reducible rfl))
                    change wpAnyH _ _ _ _ _ _ _ (Act.put _ (some 169) _) _
                    simp only [Act.put, List.setIfInBounds_toArray, List.set_cons_zero, List.set_cons_succ]
                    refine tkI (i := 39) (v := ?v39f2) rfl (Or.inl ⟨by rfl, ?hy39f2⟩) ?rest39f2
                    case hy39f2 => (intro zz hSw; (try dsimp only at hSw); go_simp; (try with_reducible rfl))
                    change wpAnyH _ _ _ _ _ _ _ (Act.put _ (some 2) _) _
                    simp only [Act.put, List.setIfInBounds_toArray, List.set_cons_zero, List.set_cons_succ]
                    refine wpAnyH_done (by kernel_rfl) ?_ _
                    have bx := hHeld.2.2.2.2.2.2; clear hHeld SOF
                    clear hEq hXq
                    have B12 := Lib.hid (bel_tr B11.out bx (Nat.le_refl _))
                    have Z12 := Lib.hid bx.size
                    have OE := Lib.hid (OE.out.next bx)
                    have ON := Lib.hid (ON.out.next bx)
                    have OX := Lib.hid (OX.out.next bx)
                    have KE := Lib.hid (KE.out.below bx KE.out.2.2)
                    have KX := Lib.hid (KX.out.below bx KX.out.2.2)
                    clear bx
                    go_wp2_with fail
                    go_ret
                    exact ⟨rfl, bel_tr HF.out B12.out (Nat.le_refl _)⟩
                · skip
                  have n0 : (rx.c != 0) = false := by rw [x0]; rfl
                  have n4 : (rx.c == 4) = false := by rw [x0]; rfl
                  have nz : (rx.c == 0) = true := by rw [x0]; rfl
                  have nf : (rx.f == r.f) = true := by rw [xf]; simp
                  have hok1 := ok_names (HXO.out (by rw [x0]; decide))
                  have hok2 := ok_names (HOK.out (by rw [H0.out]; decide))
                  obtain ⟨u, hu⟩ : ∃ u, cbP r.b (tx zT) = u := ⟨_, rfl⟩
                  obtain ⟨un, hun⟩ : ∃ un, u.length = un := ⟨_, rfl⟩
                  have HUN := Lib.hid hun
                  have hul : un ≤ 20 := by
                    have h1 := cb_len r.b (tx zT)
                    rw [hu, hun, HPN.out] at h1; omega
                  have HCX := Lib.hid (fun z (hz : Below w11.heap.size w11 z) => (show Calls Tryz.prog 26 #[.slice vxa px vxc, .string ⟨#[122, 122, 122]⟩] z fun e w' => ∃ v, e = .returned v ∧ OwI z.heap.size w' v u ∧ Below z.heap.size z w' from by
                    have h := specCut_any z vxa vxc rx.b px ⟨#[122, 122, 122]⟩ HPX.out (OX.out.next hz).vw hok1 (by omega)
                    rw [show cbP rx.b ⟨#[122, 122, 122]⟩ = u from xb.trans hu] at h
                    exact h))
                  have HCE := Lib.hid (fun z (hz : Below w11.heap.size w11 z) => (show Calls Tryz.prog 26 #[.slice vea p vec, .string ⟨#[122, 122, 122]⟩] z fun e w' => ∃ v, e = .returned v ∧ OwI z.heap.size w' v u ∧ Below z.heap.size z w' from by
                    have h := specCut_any z vea vec r.b p ⟨#[122, 122, 122]⟩ HPN.out (OE.out.next hz).vw hok2 (by omega)
                    rw [show cbP r.b ⟨#[122, 122, 122]⟩ = u from hu] at h
                    exact h))
                  clear x0 xf xb hok1 hok2 hu hun
                  obtain ⟨⟨hE0, hE1, hE2⟩, -, hEq⟩ := id KE.out
                  obtain ⟨⟨hX0, hX1, hX2⟩, -, hXq⟩ := id KX.out
                  have SOF := Lib.hid (show ∀ z, Below w11.heap.size w11 z → (z.cell? ⟨w2.heap.size, 0, none⟩ = some (.int .i64 r.c) ∧ z.cell? ⟨w2.heap.size, 1, none⟩ = some (.slice vea p vec) ∧ z.cell? ⟨w2.heap.size, 2, none⟩ = some (.int .i64 r.f) ∧ z.cell? ⟨w10.heap.size, 0, none⟩ = some (.int .i64 rx.c) ∧ z.cell? ⟨w10.heap.size, 1, none⟩ = some (.slice vxa px vxc) ∧ z.cell? ⟨w10.heap.size, 2, none⟩ = some (.int .i64 rx.f) ∧ Below w11.heap.size w11 z) from fun z hz => ⟨coc hz hEq hE0, coc hz hEq hE1, coc hz hEq hE2, coc hz hXq hX0, coc hz hXq hX1, coc hz hXq hX2,  hz⟩)
                  clear hE0 hE1 hE2 hX0 hX1 hX2
                  refine wp_region_held_drew (S := fun z => z.cell? ⟨w2.heap.size, 0, none⟩ = some (.int .i64 r.c) ∧ z.cell? ⟨w2.heap.size, 1, none⟩ = some (.slice vea p vec) ∧ z.cell? ⟨w2.heap.size, 2, none⟩ = some (.int .i64 r.f) ∧ z.cell? ⟨w10.heap.size, 0, none⟩ = some (.int .i64 rx.c) ∧ z.cell? ⟨w10.heap.size, 1, none⟩ = some (.slice vxa px vxc) ∧ z.cell? ⟨w10.heap.size, 2, none⟩ = some (.int .i64 rx.f) ∧ Below w11.heap.size w11 z) (by kernel_rfl) (SOF.out _ (Below.refl _ _).drew) (fun hHeld => ?_)
                  refine tkI (i := 0) (v := ?v0f3) rfl (Or.inl ⟨by rfl, ?hy0f3⟩) ?rest0f3
                  case hy0f3 => (intro zz hSw; (try dsimp only at hSw); go_simp; (try with_reducible rfl))
                  change wpAnyH _ _ _ _ _ _ _ (Act.put _ (some 131) _) _
                  simp only [Act.put, List.setIfInBounds_toArray, List.set_cons_zero, List.set_cons_succ]
                  refine wpAnyH_ready (rs := [1]) (by kernel_rfl) (by simp) (AllReadyH.cons rfl (fun K hK => ?_) (AllReadyH.nil))
                  go_simp
                  refine (HZT.out _ hHeld.2.2.2.2.2.2).mono ?_; rintro e w12 ⟨rfl, bel⟩
                  refine hK.out _ _ (SOF.out _ (bel_tr hHeld.2.2.2.2.2.2 bel (Nat.le_refl _))) (fun hHeld => ?_)
                  clear hK K bel
                  refine tkI (i := 2) (v := ?v2f3) rfl (Or.inl ⟨by rfl, ?hy2f3⟩) ?rest2f3
                  case hy2f3 => (intro zz hSw; (try dsimp only at hSw); go_simp; (try with_reducible rfl))
                  change wpAnyH _ _ _ _ _ _ _ (Act.put _ (some 133) _) _
                  simp only [Act.put, List.setIfInBounds_toArray, List.set_cons_zero, List.set_cons_succ]
                  refine tkI (i := 3) (v := ?v3f3) rfl (Or.inl ⟨by rfl, ?hy3f3⟩) ?rest3f3
                  case hy3f3 => (intro zz hSw; (try dsimp only at hSw); go_simp; (try with_reducible rfl))
                  change wpAnyH _ _ _ _ _ _ _ (Act.put _ (some 134) _) _
                  simp only [Act.put, List.setIfInBounds_toArray, List.set_cons_zero, List.set_cons_succ]
                  refine tkI (i := 4) (v := ?v4f3) rfl (Or.inl ⟨by rfl, ?hy4f3⟩) ?rest4f3
                  case hy4f3 => (intro zz hSw; (try dsimp only at hSw); go_simp; (try with_reducible rfl))
                  change wpAnyH _ _ _ _ _ _ _ (Act.put _ (some 135) _) _
                  simp only [Act.put, List.setIfInBounds_toArray, List.set_cons_zero, List.set_cons_succ]
                  refine tkI (i := 5) (v := ?v5f3) rfl (Or.inl ⟨by rfl, ?hy5f3⟩) ?rest5f3
                  case hy5f3 => (intro zz hSw; (try dsimp only at hSw); go_simp; (try with_reducible rfl))
                  change wpAnyH _ _ _ _ _ _ _ (Act.put _ (some 136) _) _
                  simp only [Act.put, List.setIfInBounds_toArray, List.set_cons_zero, List.set_cons_succ]
                  refine tkI (i := 6) (v := ?v6f3) rfl (Or.inl ⟨by rfl, ?hy6f3⟩) ?rest6f3
                  case hy6f3 => (intro zz hSw; (try dsimp only at hSw); go_simp; (try with_reducible rfl))
                  change wpAnyH _ _ _ _ _ _ _ (Act.put _ (some 137) _) _
                  simp only [Act.put, List.setIfInBounds_toArray, List.set_cons_zero, List.set_cons_succ]
                  refine tkI (i := 7) (v := undef) rfl (Or.inr ⟨by rfl, rfl⟩) ?_
                  change wpAnyH _ _ _ _ _ _ _ (Act.put _ (some 138) _) _
                  simp only [Act.put, List.setIfInBounds_toArray, List.set_cons_zero, List.set_cons_succ]
                  refine tkI (i := 8) (v := undef) rfl (Or.inr ⟨by rfl, rfl⟩) ?_
                  change wpAnyH _ _ _ _ _ _ _ (Act.put _ (some 139) _) _
                  simp only [Act.put, List.setIfInBounds_toArray, List.set_cons_zero, List.set_cons_succ]
                  refine tkI (i := 9) (v := undef) rfl (Or.inr ⟨by rfl, rfl⟩) ?_
                  change wpAnyH _ _ _ _ _ _ _ (Act.put _ (some 140) _) _
                  simp only [Act.put, List.setIfInBounds_toArray, List.set_cons_zero, List.set_cons_succ]
                  refine tkI (i := 10) (v := undef) rfl (Or.inr ⟨by rfl, rfl⟩) ?_
                  change wpAnyH _ _ _ _ _ _ _ (Act.put _ (some 141) _) _
                  simp only [Act.put, List.setIfInBounds_toArray, List.set_cons_zero, List.set_cons_succ]
                  refine tkI (i := 11) (v := ?v11f3) rfl (Or.inl ⟨by rfl, ?hy11f3⟩) ?rest11f3
                  case hy11f3 => (intro zz hSw; (try dsimp only at hSw); go_simp; (try with_reducible rfl))
                  change wpAnyH _ _ _ _ _ _ _ (Act.put _ (some 142) _) _
                  simp only [Act.put, List.setIfInBounds_toArray, List.set_cons_zero, List.set_cons_succ]
                  refine tkI (i := 12) (v := ?v12f3) rfl (Or.inl ⟨by rfl, ?hy12f3⟩) ?rest12f3
                  case hy12f3 => (intro zz hSw; (try dsimp only at hSw); go_simp; (try with_reducible rfl))
                  change wpAnyH _ _ _ _ _ _ _ (Act.put _ (some 143) _) _
                  simp only [Act.put, List.setIfInBounds_toArray, List.set_cons_zero, List.set_cons_succ]
                  refine tkI (i := 13) (v := ?v13f3) rfl (Or.inl ⟨by rfl, ?hy13f3⟩) ?rest13f3
                  case hy13f3 => (intro zz hSw; (try dsimp only at hSw); go_simp; (try with_reducible rfl))
                  change wpAnyH _ _ _ _ _ _ _ (Act.put _ (some 144) _) _
                  simp only [Act.put, List.setIfInBounds_toArray, List.set_cons_zero, List.set_cons_succ]
                  refine tkI (i := 14) (v := ?v14f3) rfl (Or.inl ⟨by rfl, ?hy14f3⟩) ?rest14f3
                  case hy14f3 => (intro zz hSw; (try dsimp only at hSw); go_simp; (try with_reducible rfl))
                  change wpAnyH _ _ _ _ _ _ _ (Act.put _ (some 145) _) _
                  simp only [Act.put, List.setIfInBounds_toArray, List.set_cons_zero, List.set_cons_succ]
                  refine tkI (i := 15) (v := ?v15f3) rfl (Or.inl ⟨by rfl, ?hy15f3⟩) ?rest15f3
                  case hy15f3 => (intro zz hSw; (try dsimp only at hSw); go_simp; (try with_reducible rfl))
                  change wpAnyH _ _ _ _ _ _ _ (Act.put _ (some 146) _) _
                  simp only [Act.put, List.setIfInBounds_toArray, List.set_cons_zero, List.set_cons_succ]
                  refine tkI (i := 16) (v := ?v16f3) rfl (Or.inl ⟨by rfl, ?hy16f3⟩) ?rest16f3
                  case hy16f3 => (intro zz hSw; (try dsimp only at hSw); go_simp; (try with_reducible rfl))
                  change wpAnyH _ _ _ _ _ _ _ (Act.put _ (some 147) _) _
                  simp only [Act.put, List.setIfInBounds_toArray, List.set_cons_zero, List.set_cons_succ]
                  refine tkI (i := 17) (v := ?v17f3) rfl (Or.inl ⟨by rfl, ?hy17f3⟩) ?rest17f3
                  case hy17f3 => (intro zz hSw; (try dsimp only at hSw); go_simp; (try with_reducible rfl))
                  change wpAnyH _ _ _ _ _ _ _ (Act.put _ (some 148) _) _
                  simp only [Act.put, List.setIfInBounds_toArray, List.set_cons_zero, List.set_cons_succ]
                  refine tkI (i := 18) (v := ?v18f3) rfl (Or.inl ⟨by rfl, ?hy18f3⟩) ?rest18f3
                  case hy18f3 => (intro zz hSw; (try dsimp only at hSw); go_simp; (try with_reducible rfl))
                  change wpAnyH _ _ _ _ _ _ _ (Act.put _ (some 149) _) _
                  simp only [Act.put, List.setIfInBounds_toArray, List.set_cons_zero, List.set_cons_succ]
                  refine tkI (i := 19) (v := ?v19f3) rfl (Or.inl ⟨by rfl, ?hy19f3⟩) ?rest19f3
                  case hy19f3 => (intro zz hSw; (try dsimp only at hSw); go_simp; (try with_reducible rfl))
                  change wpAnyH _ _ _ _ _ _ _ (Act.put _ (some 150) _) _
                  simp only [Act.put, List.setIfInBounds_toArray, List.set_cons_zero, List.set_cons_succ]
                  refine tkI (i := 20) (v := ?v20f3) rfl (Or.inl ⟨by rfl, ?hy20f3⟩) ?rest20f3
                  case hy20f3 => (intro zz hSw; (try dsimp only at hSw); go_simp; (try with_reducible rfl))
                  change wpAnyH _ _ _ _ _ _ _ (Act.put _ (some 151) _) _
                  simp only [Act.put, List.setIfInBounds_toArray, List.set_cons_zero, List.set_cons_succ]
                  refine tkI (i := 21) (v := ?v21f3) rfl (Or.inl ⟨by rfl, ?hy21f3⟩) ?rest21f3
                  case hy21f3 => (intro zz hSw; (try dsimp only at hSw); go_simp; (try with_reducible rfl))
                  change wpAnyH _ _ _ _ _ _ _ (Act.put _ (some 152) _) _
                  simp only [Act.put, List.setIfInBounds_toArray, List.set_cons_zero, List.set_cons_succ]
                  refine tkI (i := 22) (v := ?v22f3) rfl (Or.inl ⟨by rfl, ?hy22f3⟩) ?rest22f3
                  case hy22f3 => (intro zz hSw; (try dsimp only at hSw); go_simp; (try with_reducible rfl))
                  change wpAnyH _ _ _ _ _ _ _ (Act.put _ (some 153) _) _
                  simp only [Act.put, List.setIfInBounds_toArray, List.set_cons_zero, List.set_cons_succ]
                  refine tkI (i := 23) (v := ?v23f3) rfl (Or.inl ⟨by rfl, ?hy23f3⟩) ?rest23f3
                  case hy23f3 => (intro zz hSw; (try dsimp only at hSw); go_simp; (try with_reducible rfl))
                  change wpAnyH _ _ _ _ _ _ _ (Act.put _ (some 154) _) _
                  simp only [Act.put, List.setIfInBounds_toArray, List.set_cons_zero, List.set_cons_succ]
                  refine tkI (i := 24) (v := ?v24f3) rfl (Or.inl ⟨by rfl, ?hy24f3⟩) ?rest24f3
                  case hy24f3 => (intro zz hSw; (try dsimp only at hSw); go_simp; (try with_reducible rfl))
                  change wpAnyH _ _ _ _ _ _ _ (Act.put _ (some 155) _) _
                  simp only [Act.put, List.setIfInBounds_toArray, List.set_cons_zero, List.set_cons_succ]
                  refine tkI (i := 25) (v := ?v25f3) rfl (Or.inl ⟨by rfl, ?hy25f3⟩) ?rest25f3
                  case hy25f3 => (intro zz hSw; (try dsimp only at hSw); go_simp; (try with_reducible rfl))
                  change wpAnyH _ _ _ _ _ _ _ (Act.put _ (some 156) _) _
                  simp only [Act.put, List.setIfInBounds_toArray, List.set_cons_zero, List.set_cons_succ]
                  refine tkI (i := 26) (v := ?v26f3) rfl (Or.inl ⟨by rfl, ?hy26f3⟩) ?rest26f3
                  case hy26f3 => (intro zz hSw; (try dsimp only at hSw); go_simp; (try with_reducible rfl))
                  change wpAnyH _ _ _ _ _ _ _ (Act.put _ (some 157) _) _
                  simp only [Act.put, List.setIfInBounds_toArray, List.set_cons_zero, List.set_cons_succ]
                  refine tkI (i := 27) (v := ?v27f3) rfl (Or.inl ⟨by rfl, ?hy27f3⟩) ?rest27f3
                  case hy27f3 => (intro zz hSw; (try dsimp only at hSw); go_simp; (try with_reducible rfl))
                  change wpAnyH _ _ _ _ _ _ _ (Act.put _ (some 158) _) _
                  simp only [Act.put, List.setIfInBounds_toArray, List.set_cons_zero, List.set_cons_succ]
                  refine tkI (i := 28) (v := ?v28f3) rfl (Or.inl ⟨by rfl, ?hy28f3⟩) ?rest28f3
                  case hy28f3 => (intro zz hSw; (try dsimp only at hSw); go_simp; (try with_reducible rfl))
                  change wpAnyH _ _ _ _ _ _ _ (Act.put _ (some 159) _) _
                  simp only [Act.put, List.setIfInBounds_toArray, List.set_cons_zero, List.set_cons_succ]
                  refine tkI (i := 29) (v := ?v29f3) rfl (Or.inl ⟨by rfl, ?hy29f3⟩) ?rest29f3
                  case hy29f3 => (intro zz hSw; (try dsimp only at hSw); go_simp; (try with_reducible rfl))
                  change wpAnyH _ _ _ _ _ _ _ (Act.put _ (some 160) _) _
                  simp only [Act.put, List.setIfInBounds_toArray, List.set_cons_zero, List.set_cons_succ]
                  refine tkI (i := 30) (v := ?v30f3) rfl (Or.inl ⟨by rfl, ?hy30f3⟩) ?rest30f3
                  case hy30f3 => (intro zz hSw; (try dsimp only at hSw); go_simp; (try with_reducible rfl))
                  change wpAnyH _ _ _ _ _ _ _ (Act.put _ (some 161) _) _
                  simp only [Act.put, List.setIfInBounds_toArray, List.set_cons_zero, List.set_cons_succ]
                  refine tkI (i := 31) (v := ?v31f3) rfl (Or.inl ⟨by rfl, ?hy31f3⟩) ?rest31f3
                  case hy31f3 => (intro zz hSw; (try dsimp only at hSw); go_simp; (try with_reducible rfl))
                  change wpAnyH _ _ _ _ _ _ _ (Act.put _ (some 162) _) _
                  simp only [Act.put, List.setIfInBounds_toArray, List.set_cons_zero, List.set_cons_succ]
                  refine tkI (i := 33) (v := ?v33f3) rfl (Or.inl ⟨by rfl, ?hy33f3⟩) ?rest33f3
                  case hy33f3 => (intro zz hSw; (try dsimp only at hSw); go_simp; (try with_reducible rfl))
                  change wpAnyH _ _ _ _ _ _ _ (Act.put _ (some 164) _) _
                  simp only [Act.put, List.setIfInBounds_toArray, List.set_cons_zero, List.set_cons_succ]
                  refine tkI (i := 34) (v := ?v34f3) rfl (Or.inl ⟨by rfl, ?hy34f3⟩) ?rest34f3
                  case hy34f3 => (intro zz hSw; (try dsimp only at hSw); go_simp; (try with_reducible rfl))
                  change wpAnyH _ _ _ _ _ _ _ (Act.put _ (some 165) _) _
                  simp only [Act.put, List.setIfInBounds_toArray, List.set_cons_zero, List.set_cons_succ]
                  refine wpAnyH_ready (rs := [32]) (by kernel_rfl) (by simp) (AllReadyH.cons rfl (fun K hK => ?_) (AllReadyH.nil))
                  go_simp
                  refine (HCX.out _ hHeld.2.2.2.2.2.2).mono ?_; rintro e w13 ⟨v9, rfl, o, bel⟩
                  obtain ⟨ua, uc, rfl, -⟩ := o.view
                  rw [HUN.out] at o ⊢
                  have O32 := Lib.hid o; clear o
                  refine hK.out _ _ (SOF.out _ (bel_tr hHeld.2.2.2.2.2.2 bel (Nat.le_refl _))) (fun hHeld => ?_)
                  clear hK K bel
                  refine wpAnyH_ready (rs := [35]) (by kernel_rfl) (by simp) (AllReadyH.cons rfl (fun K hK => ?_) (AllReadyH.nil))
                  go_simp
                  refine (HCE.out _ hHeld.2.2.2.2.2.2).mono ?_; rintro e w14 ⟨v9, rfl, o, bel⟩
                  obtain ⟨ya, yc, rfl, -⟩ := o.view
                  rw [HUN.out] at o ⊢
                  have O35 := Lib.hid o; clear o
                  have O32 := Lib.hid (O32.out.next bel)
                  refine hK.out _ _ (SOF.out _ (bel_tr hHeld.2.2.2.2.2.2 bel (Nat.le_refl _))) (fun hHeld => ?_)
                  clear hK K bel
                  refine wpAnyH_ready (rs := [36]) (by kernel_rfl) (by simp) (AllReadyH.cons rfl (fun K hK => ?_) (AllReadyH.nil))
                  go_simp
                  refine (likeBins_self _ _ _ _ _ u un HUN.out O32.out.vw O35.out.vw (by omega)).mono ?_; rintro e w15 ⟨rfl, bel⟩
                  clear O32 O35
                  refine hK.out _ _ (SOF.out _ (bel_tr hHeld.2.2.2.2.2.2 bel (Nat.le_refl _))) (fun hHeld => ?_)
                  clear hK K bel
                  refine tkI (i := 37) (v := ?v37f3) rfl (Or.inl ⟨by rfl, ?hy37f3⟩) ?rest37f3
                  case hy37f3 => (intro zz hSw; (try dsimp only at hSw); go_simp; (try with_reducible rfl))
                  change wpAnyH _ _ _ _ _ _ _ (Act.put _ (some 168) _) _
                  simp only [Act.put, List.setIfInBounds_toArray, List.set_cons_zero, List.set_cons_succ]
                  refine tkI (i := 38) (v := ?v38f3) rfl (Or.inl ⟨by rfl, ?hy38f3⟩) ?rest38f3
                  case hy38f3 => (intro zz hSw; (try dsimp only at hSw); go_simp; (try with_reducible rfl))
                  change wpAnyH _ _ _ _ _ _ _ (Act.put _ (some 169) _) _
                  simp only [Act.put, List.setIfInBounds_toArray, List.set_cons_zero, List.set_cons_succ]
                  refine tkI (i := 39) (v := ?v39f3) rfl (Or.inl ⟨by rfl, ?hy39f3⟩) ?rest39f3
                  case hy39f3 => (intro zz hSw; (try dsimp only at hSw); go_simp; (try with_reducible rfl))
                  change wpAnyH _ _ _ _ _ _ _ (Act.put _ (some 2) _) _
                  simp only [Act.put, List.setIfInBounds_toArray, List.set_cons_zero, List.set_cons_succ]
                  refine wpAnyH_done (by kernel_rfl) ?_ _
                  have bx := hHeld.2.2.2.2.2.2; clear hHeld SOF
                  clear hEq hXq
                  have B15 := Lib.hid (bel_tr B11.out bx (Nat.le_refl _))
                  have Z15 := Lib.hid bx.size
                  have OE := Lib.hid (OE.out.next bx)
                  have ON := Lib.hid (ON.out.next bx)
                  have OX := Lib.hid (OX.out.next bx)
                  have KE := Lib.hid (KE.out.below bx KE.out.2.2)
                  have KX := Lib.hid (KX.out.below bx KX.out.2.2)
                  clear bx
                  go_wp2_with fail
                  go_ret
                  exact ⟨rfl, bel_tr HF.out B15.out (Nat.le_refl _)⟩
    · skip
      have t1 : decide ((12 : Int) ≤ (bn : Int)) = true := by simp; omega
      have t2 : (12 : Int) ≤ (bn : Int) := by omega
      clear h12
      obtain ⟨⟨kE0, kE1, kE2⟩, ⟨kE3, kE4, kE5⟩, -⟩ := id KE.out
      go_wp2_with fail
      clear kE0 kE1 kE2 kE3 kE4 kE5
      go_ret
      exact ⟨rfl, bel_tr HF.out B5.out (Nat.le_refl _)⟩
  · skip
    have c0 : (r.c != 0) = true := by simpa using h0
    clear h0
    obtain ⟨⟨kE0, kE1, kE2⟩, ⟨kE3, kE4, kE5⟩, -⟩ := id KE.out
    go_wp2_with fail
    clear kE0 kE1 kE2 kE3 kE4 kE5
    go_ret
    exact ⟨rfl, bel_tr HF.out B5.out (Nat.le_refl _)⟩
end Go.Proofs.YtfnnoehpahdgcaaGreatDoor.Cl
namespace Go.Proofs.YtfnnoehpahdgcaaGreatDoor.Fr
set_option linter.unusedVariables false
open Go.ChangeShapes Go.WideShapes Go.ChangeAt Go.RowKit Go.Joins
set_option maxRecDepth 100000 in
theorem openBytes {H : Type} {enc : TypeId × Value → H} {W : World} {base : Nat} {v : Value} {d : DataW H} {p : List MemPlace} (hv : Value.okWide Tryz.prog W .any base 22 v)
    (h : DataW.Trod enc Tryz.prog W 0 (fun _ => true) true 22 v d p) :
    ∃ (a : Option Addr) (len cap : Nat), v = .slice a len cap ∧ (len ≤ 4096 → Cu.IsBytes W a len) := by
  obtain ⟨a0, len0, cap0, rfl⟩ := okWide_slice Tryz.underlying22 hv
  refine ⟨a0, len0, cap0, rfl, fun hl => ?_⟩
  obtain ⟨fuel, hf⟩ := h
  rcases open_ints Tryz.underlying22 Tryz.underlying5 (by kernel_rfl) hf with ⟨hcs, _⟩ | ⟨x, l, c, zs, hcs, _, hle, hm, hz, _, hcell, hwz⟩
  · simp [Value.cells] at hcs
    obtain ⟨rfl, rfl, rfl⟩ := hcs
    exact Cu.isBytes_of_row (cap := 0) (zs := []) hl (.inl ⟨rfl, rfl, rfl, rfl⟩)
  · simp [Value.cells] at hcs
    obtain ⟨rfl, rfl, rfl⟩ := hcs
    exact Cu.isBytes_of_row (cap := cap0) (zs := zs) hl (.inr ⟨_, rfl, hle, hm, by simpa using hz, hcell, hwz⟩)
end Go.Proofs.YtfnnoehpahdgcaaGreatDoor.Fr
