/-
  Texts of mine, joined (part 8 of 11): what the law at hand reaches of them; each text's own words stand in the verifier's repo.
-/
import Derived.Test.YtfnnoehpahdgcaaGreatDoorSt7
import Derived.Test.YtfnnoehpahdgcaaGreatDoorRows
import Derived.WalkKit
import Derived.IntWalk
import Derived.Laws.Bits128
import Derived.Lib.Hide
import Derived.Lib.ParseIntBTie
import Derived.Lib.ParseIntBCases
import Derived.Lib.ItoaMem
import Derived.Lib.IndexMore
import Derived.Lib.Repeat
import Derived.WalkSpells
import Derived.Below
import Derived.Carry
import Derived.WalkSmall
import Derived.Laws.Closers25b
import Derived.Lib.Strings
import Derived.Lib.SmallJoins
import Derived.Lib.AppendIntMem
import Derived.Maps.AppendAt
import Derived.OwnWalk
import Derived.WalkLawsBesides
import Derived.Deep.QuietTactic
import Derived.BigQuiet
import Derived.Deep.RegionHeld3
import Derived.Laws.OwnMore
import Derived.Laws.StructEq
import Derived.BigFrame
import Derived.Deep.Upon
import Derived.Laws.CopyRow
import Derived.Laws.BytesArg
import Derived.RowKit3
import Derived.Shelf.Strconv.Itoa4
import Derived.Shelf.Strconv.ParseIntPublic10
import Derived.Shelf.Strconv.ErrVarParseInt
import Derived.Test.YtfnnoehpahdgcaaGreatDoorProg
import Derived.LaidMore
import Derived.Stop.LaidErr
import Derived.Lib.LaidTab
import Derived.RangeFuncWrites
import Derived.RangeFuncCalls
import Derived.RangeFuncBox
import Derived.RangeFuncNested
import Derived.RangeFuncLeaves
import Derived.Shelf.Abstract
import Derived.Shelf.RegionOpen
import Derived.OwnWalkIn
import Derived.TacticsInMore
import Derived.LoopNIn
import Derived.LoopIn
import Derived.Lib.Bytealg
import Derived.Deep.LoopGhost
import Derived.Lib.AtoiErrMem
import Derived.OpenShut
import Derived.Lib.ConvBytes
import Derived.Deep.RegionLaw
import Derived.Deep.AppendLies
import Derived.Lib.AppendZeros
import Derived.Defers
import Derived.Recover
import Derived.Lib.ItoaLen
import Derived.Sort.Walk0
import Derived.Lib.SlicesCompact
import Derived.ProofKit
import Derived.Handed
import Derived.SizedLaws
import Derived.ShutString
import Derived.Deep.Slices
import Derived.Deep.Fields
import Derived.ChangeSame
namespace Go.Proofs.YtfnnoehpahdgcaaGreatDoor.Cl
set_option linter.unusedVariables false
open Go.RowKit Wd Rp Kp
set_option maxHeartbeats 8000000 in
set_option maxRecDepth 100000 in
theorem deed_set (w0 : World) (p : Nat) (a : Option Addr) (cap : Nat) (l : List Tk) (n : Nat) (ga : Option Addr) (gc : Nat) (gs : List Int) (C : Rcx w0 a n cap l ga gc gs) (m : Tk) (ex : List Tk) (hw : Sm.wf 5 (.set m ex)) : DeedR w0 p a n cap l ga gc gs (.set m ex) := by
  intro k r st w hd hc hR
  have hd0 : l.drop k = setT :: (m :: (ex ++ r)) := by rw [hd]; rfl
  obtain ⟨hk1, hk2, hd1⟩ := drop_head hd0
  obtain ⟨hk3, hk4, hd2⟩ := drop_head hd1
  have hkn : k + 1 < n := by have := C.hn; omega
  have HB := Lib.hid (deedS_all a cap l n C.hn C.hl C.hm 5 (by decide) w (k : Int) ⟨by omega, by have := C.hl; omega⟩ (C.hv.below hR.bw))
  rw [(Sm.det l (.set m ex) 5 k r hw hd).1] at HB
  have he : eOk ex := by rw [Sm.wf] at hw; exact hw.2.ok
  have HSUM := Lib.hid (fun w h => l10Sum_any w0 p a cap l n C.hn C.hl C.hm C.hv ga gc gs C.hg C.hg3 he (k + 1 + 1) r hd2 st w h)
  have hE : Sm.run gs (.set m ex) st = (if (evE gs st.b ex).2 = false then ⟨2, st.b, st.f⟩ else ⟨(if (st7 st.b (tx m) (evE gs st.b ex).1).2 then st.c else 4), (st7 st.b (tx m) (evE gs st.b ex).1).1, st.f⟩) := by rw [Sm.run]
  rw [hE]; clear hE
  rw [show ((k + 1 + 1 : Nat) : Int) = (k : Int) + 2 by omega] at HSUM
  generalize ((k + (Sm.fl (.set m ex)).length : Nat) : Int) = y at *
  generalize ((k + 1 + 1 + ex.length : Nat) : Int) = y2 at *
  generalize evE gs st.b ex = xx at *
  obtain ⟨x, is⟩ := xx
  generalize hfin : (if (x, is).2 = false then (⟨2, st.b, st.f⟩ : St0) else ⟨(if (st7 st.b (tx m) (x, is).1).2 then st.c else 4), (st7 st.b (tx m) (x, is).1).1, st.f⟩) = fin
  have HFIN := Lib.hid hfin; clear hfin
  have HR := Lib.hid hR; clear hR
  have HV := Lib.hid (C.hv.below HR.out.bw)
  have hl4 := C.hl
  clear hd hd0 hd1 hd2 he hw
  go_enter Tryz.func83, Tryz.ntmps83
  go_wp2_with fail
  refine HB.out.mono ?_; rintro e w1 ⟨rfl, b1⟩
  have HR1 := Lib.hid (HR.out.next b1)
  have HV1 := Lib.hid (HV.out.below b1); clear b1
  obtain ⟨g', o', rfl, hg, c0⟩ := HV1.out.tx hk1
  replace c0 : w1.cell? ⟨g', o' + k, none⟩ = some (.string ⟨#[115, 101, 116]⟩) := c0
  have TOK := Lib.hid (show ∀ z, Below w0.heap.size w0 z → z.cell? ⟨g', o' + (k + 1), none⟩ = some (.string (tx m)) from fun z hz => by
    obtain ⟨g4, o4, e4, -, c4⟩ := (C.hv.below hz).tx hk3
    cases e4; exact c4)
  have i1 : (k : Int) + 1 ≤ 9223372036854775807 := by omega
  have i2 : (k : Int) + 2 ≤ 9223372036854775807 := by omega
  have i7 : IntKind.i64.wrap ((k : Int) + 1) = ((k + 1 : Nat) : Int) := by rw [IntKind.wrap_i64]; omega
  have i8 : (0 : Int) ≤ (k : Int) + 1 := by omega
  have i9 : (k : Int) + 1 < (n : Int) := by omega
  have HS1 := Lib.hid (HSUM.out w1 HR1.out)
  clear hk1 hk3 hg
  cases is
  · have HX := Lib.hid (show (⟨2, st.b, st.f⟩ : St0) = fin from HFIN.out)
    go_wp2_with fail
    refine HS1.out.mono ?_; rintro e w2 ⟨rfl, hR2⟩
    have HR2 := Lib.hid (show Rn w0 p ⟨2, st.b, st.f⟩ w2 from hR2); clear hR2
    have c2 : w2.cell? ⟨p, 0, none⟩ = some (.int .i64 2) := HR2.out.c
    go_wp2_with fail
    go_ret
    exact ⟨rfl, by rw [← HX.out]; exact HR2.out⟩
  · have HX := Lib.hid (show (⟨(if (st7 st.b (tx m) x).2 then st.c else 4), (st7 st.b (tx m) x).1, st.f⟩ : St0) = fin from HFIN.out)
    clear HFIN
    have HLEN := Lib.hid (st7_len (n := tx m) (x := x) HR.out.bl)
    generalize hq : st7 st.b (tx m) x = q at *
    obtain ⟨l7, fg⟩ := q
    go_wp2_with fail
    refine HS1.out.mono ?_; rintro e w2 ⟨rfl, hR2⟩
    have HR2 := Lib.hid (show Rn w0 p st w2 from hR2)
    have c2 : w2.cell? ⟨p, 0, none⟩ = some (.int .i64 0) := by rw [← hc]; exact HR2.out.c
    obtain ⟨v, cv, hO, hne⟩ := HR2.out.b
    clear hR2
    have HR3 := Lib.hid (HR2.out.next (Below.refl _ _).drew)
    have O2 := Lib.hid (hO.next (Below.refl _ _).drew)
    have HL := Lib.hid (l7Set_own w2.drew v st.b (tx m) x O2.out HR3.out.bw.size (by have := HR3.out.bl; omega))
    rw [hq] at HL
    have NE := Lib.hid hne
    have CV := Lib.hid (show w2.drew.cell? ⟨p, 1, none⟩ = some v from cv)
    clear hO hne hq
    go_wp2_with fail
    refine wp_region_held_drew (S := fun z => z.cell? ⟨g', o' + (k + 1), none⟩ = some (.string (tx m)) ∧ Below w0.heap.size w0 z) (by kernel_rfl) ⟨TOK.out _ HR3.out.bw, HR3.out.bw⟩ (fun hHeld => ?_)
    refine tkI (i := 0) (v := ?v0s) rfl (Or.inl ⟨by rfl, ?hy0s⟩) ?rest0s
    case hy0s => (intro zz hSw; (try dsimp only at hSw); go_simp; (try with_reducible rfl))
    change wpAnyH _ _ _ _ _ _ _ (Act.put _ (some 42) _) _
    simp only [Act.put, List.setIfInBounds_toArray, List.set_cons_zero, List.set_cons_succ]
    refine tkI (i := 1) (v := ?v1s) rfl (Or.inl ⟨by rfl, ?hy1s⟩) ?rest1s
    case hy1s => (intro zz hSw; (try dsimp only at hSw); go_simp; (try with_reducible rfl))
    change wpAnyH _ _ _ _ _ _ _ (Act.put _ (some 43) _) _
    simp only [Act.put, List.setIfInBounds_toArray, List.set_cons_zero, List.set_cons_succ]
    refine tkI (i := 2) (v := ?v2s) rfl (Or.inl ⟨by rfl, ?hy2s⟩) ?rest2s
    case hy2s => (intro zz hSw; (try dsimp only at hSw); go_simp; (try with_reducible rfl))
    change wpAnyH _ _ _ _ _ _ _ (Act.put _ (some 44) _) _
    simp only [Act.put, List.setIfInBounds_toArray, List.set_cons_zero, List.set_cons_succ]
    refine tkI (i := 4) (v := ?v4s) rfl (Or.inl ⟨by rfl, ?hy4s⟩) ?rest4s
    case hy4s => (intro zz hSw; (try dsimp only at hSw); go_simp; (try with_reducible rfl))
    change wpAnyH _ _ _ _ _ _ _ (Act.put _ (some 46) _) _
    simp only [Act.put, List.setIfInBounds_toArray, List.set_cons_zero, List.set_cons_succ]
    refine tkI (i := 5) (v := ?v5s) rfl (Or.inl ⟨by rfl, ?hy5s⟩) ?rest5s
    case hy5s => (intro zz hSw; (try dsimp only at hSw); go_simp; (try with_reducible rfl))
    change wpAnyH _ _ _ _ _ _ _ (Act.put _ (some 47) _) _
    simp only [Act.put, List.setIfInBounds_toArray, List.set_cons_zero, List.set_cons_succ]
    refine tkI (i := 6) (v := ?v6s) rfl (Or.inl ⟨by rfl, ?hy6s⟩) ?rest6s
    case hy6s => (intro zz hSw; (try dsimp only at hSw); go_simp; (try with_reducible rfl))
    change wpAnyH _ _ _ _ _ _ _ (Act.put _ (some 48) _) _
    simp only [Act.put, List.setIfInBounds_toArray, List.set_cons_zero, List.set_cons_succ]
    refine tkI (i := 7) (v := ?v7s) rfl (Or.inl ⟨by rfl, ?hy7s⟩) ?rest7s
    case hy7s => (intro zz hSw; (try dsimp only at hSw); go_simp; (try with_reducible rfl))
    change wpAnyH _ _ _ _ _ _ _ (Act.put _ (some 49) _) _
    simp only [Act.put, List.setIfInBounds_toArray, List.set_cons_zero, List.set_cons_succ]
    refine tkI (i := 8) (v := ?v8s) rfl (Or.inl ⟨by rfl, ?hy8s⟩) ?rest8s
    case hy8s => (intro zz hSw; (try dsimp only at hSw); go_simp; (try with_reducible rfl))
    change wpAnyH _ _ _ _ _ _ _ (Act.put _ (some 50) _) _
    simp only [Act.put, List.setIfInBounds_toArray, List.set_cons_zero, List.set_cons_succ]
    refine tkI (i := 9) (v := ?v9s) rfl (Or.inl ⟨by rfl, ?hy9s⟩) ?rest9s
    case hy9s => (intro zz hSw; (try dsimp only at hSw); go_simp; (try with_reducible rfl))
    change wpAnyH _ _ _ _ _ _ _ (Act.put _ (some 51) _) _
    simp only [Act.put, List.setIfInBounds_toArray, List.set_cons_zero, List.set_cons_succ]
    refine wpAnyH_ready (rs := [3]) (by kernel_rfl) (by simp) (AllReadyH.cons rfl (fun K hK => ?_) (AllReadyH.nil))
    go_simp
    refine hK.out _ _ hHeld (fun hHeld => ?_)
    clear hK K
    refine wpAnyH_ready (rs := [10]) (by kernel_rfl) (by simp) (AllReadyH.cons rfl (fun K hK => ?_) (AllReadyH.nil))
    go_simp
    refine HL.out.mono ?_; rintro e w3 ⟨v3, rfl, o3, b3, k3⟩
    obtain ⟨va3, vc3, rfl, -⟩ := o3.view
    have HR4 := Lib.hid (HR3.out.putB CV.out k3 o3 b3 HLEN.out)
    have f3 : w3.frozen? ⟨p, 1, none⟩ = false := by have := HR4.out.fz.2.1; simpa only [World.frozen?_setCell] using this
    have f30 : w3.frozen? ⟨p, 0, none⟩ = false := by have := HR4.out.fz.1; simpa only [World.frozen?_setCell] using this
    have K3 := k3.blk p HR3.out.hp NE.out
    have c3 := (World.cell?_of_block (w := w2.drew) (a := ⟨p, 1, none⟩) K3).trans CV.out
    have c30 : w3.cell? ⟨p, 0, none⟩ = some (.int .i64 0) := (World.cell?_of_block (w := w2.drew) (a := ⟨p, 0, none⟩) K3).trans c2
    have p3 := Nat.lt_of_lt_of_le HR3.out.hp k3.size
    refine hK.out _ _ ⟨TOK.out _ (hHeld.2.trans b3), hHeld.2.trans b3⟩ (fun hHeld => ?_)
    clear hK K o3 b3 k3 K3
    refine tkI (i := 11) (v := ?v11s) rfl (Or.inl ⟨by rfl, ?hy11s⟩) ?rest11s
    case hy11s => (intro zz hSw; (try dsimp only at hSw); go_simp; (try with_reducible rfl))
    change wpAnyH _ _ _ _ _ _ _ (Act.put _ (some 41) _) _
    simp only [Act.put, List.setIfInBounds_toArray, List.set_cons_zero, List.set_cons_succ]
    refine tkI (i := 12) (v := ?v12s) rfl (Or.inl ⟨by rfl, ?hy12s⟩) ?rest12s
    case hy12s => (intro zz hSw; (try dsimp only at hSw); go_simp; (try with_reducible rfl))
    change wpAnyH _ _ _ _ _ _ _ (Act.put _ (some 53) _) _
    simp only [Act.put, List.setIfInBounds_toArray, List.set_cons_zero, List.set_cons_succ]
    refine tkI (i := 13) (v := ?v13s) rfl (Or.inl ⟨by rfl, ?hy13s⟩) ?rest13s
    case hy13s => (intro zz hSw; (try dsimp only at hSw); go_simp; (try with_reducible rfl))
    change wpAnyH _ _ _ _ _ _ _ (Act.put _ (some 54) _) _
    simp only [Act.put, List.setIfInBounds_toArray, List.set_cons_zero, List.set_cons_succ]
    refine tkI (i := 14) (v := ?v14s) rfl (Or.inl ⟨by rfl, ?hy14s⟩) ?rest14s
    case hy14s => (intro zz hSw; (try dsimp only at hSw); go_simp; (try with_reducible rfl))
    change wpAnyH _ _ _ _ _ _ _ (Act.put _ (some 12) _) _
    simp only [Act.put, List.setIfInBounds_toArray, List.set_cons_zero, List.set_cons_succ]
    refine tkI (i := 15) (v := ?v15s) rfl (Or.inl ⟨by rfl, ?hy15s⟩) ?rest15s
    case hy15s => (intro zz hSw; (try dsimp only at hSw); go_simp; (try with_reducible rfl))
    change wpAnyH _ _ _ _ _ _ _ (Act.put _ (some 13) _) _
    simp only [Act.put, List.setIfInBounds_toArray, List.set_cons_zero, List.set_cons_succ]
    refine wpAnyH_done (by kernel_rfl) ?_ _
    clear hHeld
    cases fg
    · go_wp2_with fail
      go_ret
      exact ⟨rfl, by rw [← HX.out]; exact HR4.out.putC 4⟩
    · go_wp2_with fail
      go_ret
      exact ⟨rfl, by rw [← HX.out]; exact HR4.out⟩
end Go.Proofs.YtfnnoehpahdgcaaGreatDoor.Cl
namespace Go.Proofs.YtfnnoehpahdgcaaGreatDoor.Cl
set_option linter.unusedVariables false
open Go.RowKit Wd Rp Kp
def BlkR (w0 : World) (p : Nat) (a : Option Addr) (n cap : Nat) (l : List Tk) (ga : Option Addr) (gc : Nat) (gs : List Int) (b : Sl) (x y : Int) : Prop :=
  (∀ (st : St0) (w : World), Rn w0 p st w → Calls Tryz.prog 99 #[.pointer (some ⟨p, 0, none⟩), .slice a n cap, .int .i64 x, .slice ga (3 : Nat) gc, .bool false] w (RunP w0 p y st)) ∧
  (∀ (st : St0) (w : World), st.c ≠ 0 → Rn w0 p st w → Calls Tryz.prog 99 #[.pointer (some ⟨p, 0, none⟩), .slice a n cap, .int .i64 x, .slice ga (3 : Nat) gc, .bool true] w (RunP w0 p y st)) ∧
  (∀ (st : St0) (w : World), st.c = 0 → Rn w0 p st w → Calls Tryz.prog 99 #[.pointer (some ⟨p, 0, none⟩), .slice a n cap, .int .i64 x, .slice ga (3 : Nat) gc, .bool true] w (RunP w0 p y (b.run gs st)))
theorem blkR {w0 : World} {p : Nat} {a : Option Addr} {cap : Nat} {l : List Tk} {n : Nat} {ga : Option Addr} {gc : Nat} {gs : List Int} (C : Rcx w0 a n cap l ga gc gs) {b : Sl} (hw : b.wf 4) (ih : b.each (DeedR w0 p a n cap l ga gc gs)) {k : Nat} {r : List Tk} (hd : l.drop k = [91] :: (b.fl ++ ([93] :: r))) :
    BlkR w0 p a n cap l ga gc gs b (k : Int) ((k + b.fl.length + 2 : Nat) : Int) := by
  refine ⟨fun st w h => ?_, fun st w hc h => ?_, fun st w hc h => ?_⟩
  · have := l10Block_any w0 p a cap l n C.hn C.hl C.hm C.hv ga gc gs b hw ih k r st w false hd h
    rw [if_neg (fun e => by cases e.1)] at this; exact this
  · have := l10Block_any w0 p a cap l n C.hn C.hl C.hm C.hv ga gc gs b hw ih k r st w true hd h
    rw [if_neg (fun e => hc e.2)] at this; exact this
  · have := l10Block_any w0 p a cap l n C.hn C.hl C.hm C.hv ga gc gs b hw ih k r st w true hd h
    rw [if_pos ⟨rfl, hc⟩] at this; exact this
set_option maxHeartbeats 8000000 in
set_option maxRecDepth 100000 in
theorem deed_if (w0 : World) (p : Nat) (a : Option Addr) (cap : Nat) (l : List Tk) (n : Nat) (ga : Option Addr) (gc : Nat) (gs : List Int) (C : Rcx w0 a n cap l ga gc gs) (ex : List Tk) (b1 b2 : Sl) (hw : Sm.wf 5 (.ifs ex b1 b2)) (ih1 : b1.each (DeedR w0 p a n cap l ga gc gs)) (ih2 : b2.each (DeedR w0 p a n cap l ga gc gs)) : DeedR w0 p a n cap l ga gc gs (.ifs ex b1 b2) := by
  intro k r st w hd hc hR
  have hd0 : l.drop k = ifT :: (ex ++ ([91] :: (b1.fl ++ ([93] :: ([91] :: (b2.fl ++ ([93] :: r))))))) := by rw [hd]; simp [Sm.fl]
  obtain ⟨hk1, hk2, hd1⟩ := drop_head hd0
  have hd3 := drop_more hd1
  have hd4 : l.drop (k + 1 + ex.length + b1.fl.length + 2) = [91] :: (b2.fl ++ ([93] :: r)) := by
    have := (drop_head (drop_more (drop_head hd3).2.2)).2.2
    rw [show k + 1 + ex.length + b1.fl.length + 2 = k + 1 + ex.length + 1 + b1.fl.length + 1 by omega]; exact this
  have hkn : k < n := by have := C.hn; omega
  have HB := Lib.hid (deedS_all a cap l n C.hn C.hl C.hm 5 (by decide) w (k : Int) ⟨by omega, by have := C.hl; omega⟩ (C.hv.below hR.bw))
  rw [(Sm.det l (.ifs ex b1 b2) 5 k r hw hd).1] at HB
  rw [Sm.wf] at hw
  have HSUM := Lib.hid (fun w h => l10Sum_any w0 p a cap l n C.hn C.hl C.hm C.hv ga gc gs C.hg C.hg3 hw.1.ok (k + 1) _ hd1 st w h)
  have HK1 := Lib.hid (blkR C hw.2.1 ih1 hd3)
  have HK2 := Lib.hid (blkR C hw.2.2 ih2 hd4)
  have hE : Sm.run gs (.ifs ex b1 b2) st = (if (evE gs st.b ex).2 = false then ⟨2, st.b, st.f⟩ else if (evE gs st.b ex).1 = 0 then Sl.run gs b2 st else Sl.run gs b1 st) := by rw [Sm.run]
  rw [hE]; clear hE
  rw [show ((k + 1 : Nat) : Int) = (k : Int) + 1 by omega] at HSUM
  generalize ((k + (Sm.fl (.ifs ex b1 b2)).length : Nat) : Int) = y at *
  generalize ((k + 1 + ex.length + b1.fl.length + 2 + b2.fl.length + 2 : Nat) : Int) = y5 at *
  generalize ((k + 1 + ex.length + b1.fl.length + 2 : Nat) : Int) = y3 at *
  generalize ((k + 1 + ex.length : Nat) : Int) = y2 at *
  generalize evE gs st.b ex = xx at *
  obtain ⟨x, is⟩ := xx
  generalize hfin : (if (x, is).2 = false then (⟨2, st.b, st.f⟩ : St0) else if (x, is).1 = 0 then Sl.run gs b2 st else Sl.run gs b1 st) = fin
  have HFIN := Lib.hid hfin; clear hfin
  have HR := Lib.hid hR; clear hR
  have HV := Lib.hid (C.hv.below HR.out.bw)
  have hl4 := C.hl
  clear hd hd0 hd1 hd3 hd4 hw ih1 ih2
  go_enter Tryz.func83, Tryz.ntmps83
  go_wp2_with fail
  refine HB.out.mono ?_; rintro e w1 ⟨rfl, b1'⟩
  have HR1 := Lib.hid (HR.out.next b1')
  have HV1 := Lib.hid (HV.out.below b1'); clear b1'
  obtain ⟨g', o', rfl, hg, c0⟩ := HV1.out.tx hk1
  replace c0 : w1.cell? ⟨g', o' + k, none⟩ = some (.string ⟨#[105, 102]⟩) := c0
  have i1 : (k : Int) + 1 ≤ 9223372036854775807 := by omega
  have HS1 := Lib.hid (HSUM.out w1 HR1.out)
  clear hk1 hg
  go_wp2_with fail
  refine HS1.out.mono ?_; rintro e w2 ⟨rfl, hR2⟩
  by_cases hx : x = 0
  · subst hx
    cases is
    · have HX := Lib.hid (show (⟨2, st.b, st.f⟩ : St0) = fin from HFIN.out)
      have HR2 := Lib.hid (show Rn w0 p ⟨2, st.b, st.f⟩ w2 from hR2); clear hR2 HFIN
      go_wp2_with fail
      refine (HK1.out.1 _ _ HR2.out).mono ?_; rintro e w3 ⟨rfl, hR3⟩
      have HR3 := Lib.hid hR3; clear hR3
      go_wp2_with fail
      refine (HK2.out.2.1 _ _ (show (2 : Int) ≠ 0 by decide) HR3.out).mono ?_; rintro e w4 ⟨rfl, hR4⟩
      have HR4 := Lib.hid hR4; clear hR4
      go_wp2_with fail
      go_ret
      exact ⟨rfl, by rw [← HX.out]; exact HR4.out⟩
    · have HX := Lib.hid (show Sl.run gs b2 st = fin from HFIN.out)
      have HR2 := Lib.hid (show Rn w0 p st w2 from hR2); clear hR2 HFIN
      go_wp2_with fail
      refine (HK1.out.1 _ _ HR2.out).mono ?_; rintro e w3 ⟨rfl, hR3⟩
      have HR3 := Lib.hid hR3; clear hR3
      go_wp2_with fail
      refine (HK2.out.2.2 _ _ hc HR3.out).mono ?_; rintro e w4 ⟨rfl, hR4⟩
      have HR4 := Lib.hid hR4; clear hR4
      go_wp2_with fail
      go_ret
      exact ⟨rfl, by rw [← HX.out]; exact HR4.out⟩
  · have t1 : (x != 0) = true := by simpa using hx
    have t2 : (x == 0) = false := beq_eq_false_iff_ne.2 hx
    cases is
    · have HX := Lib.hid (show (⟨2, st.b, st.f⟩ : St0) = fin from HFIN.out)
      have HR2 := Lib.hid (show Rn w0 p ⟨2, st.b, st.f⟩ w2 from hR2); clear hR2 HFIN
      go_wp2_with fail
      refine (HK1.out.2.1 _ _ (show (2 : Int) ≠ 0 by decide) HR2.out).mono ?_; rintro e w3 ⟨rfl, hR3⟩
      have HR3 := Lib.hid hR3; clear hR3
      go_wp2_with fail
      refine (HK2.out.1 _ _ HR3.out).mono ?_; rintro e w4 ⟨rfl, hR4⟩
      have HR4 := Lib.hid hR4; clear hR4
      go_wp2_with fail
      go_ret
      exact ⟨rfl, by rw [← HX.out]; exact HR4.out⟩
    · have HX := Lib.hid (show Sl.run gs b1 st = fin from HFIN.out.symm ▸ (if_neg hx).symm)
      have HR2 := Lib.hid (show Rn w0 p st w2 from hR2); clear hR2 HFIN
      go_wp2_with fail
      refine (HK1.out.2.2 _ _ hc HR2.out).mono ?_; rintro e w3 ⟨rfl, hR3⟩
      have HR3 := Lib.hid hR3; clear hR3
      go_wp2_with fail
      refine (HK2.out.1 _ _ HR3.out).mono ?_; rintro e w4 ⟨rfl, hR4⟩
      have HR4 := Lib.hid hR4; clear hR4
      go_wp2_with fail
      go_ret
      exact ⟨rfl, by rw [← HX.out]; exact HR4.out⟩
end Go.Proofs.YtfnnoehpahdgcaaGreatDoor.Cl
namespace Go.Proofs.YtfnnoehpahdgcaaGreatDoor.Cl
set_option linter.unusedVariables false
open Go.RowKit Wd Rp Kp
set_option maxHeartbeats 8000000 in
set_option maxRecDepth 100000 in
theorem deed_whl (w0 : World) (p : Nat) (a : Option Addr) (cap : Nat) (l : List Tk) (n : Nat) (ga : Option Addr) (gc : Nat) (gs : List Int) (C : Rcx w0 a n cap l ga gc gs) (ex : List Tk) (b1 : Sl) (hw : Sm.wf 5 (.whl ex b1)) (ih1 : b1.each (DeedR w0 p a n cap l ga gc gs)) : DeedR w0 p a n cap l ga gc gs (.whl ex b1) := by
  intro k r st w hd hc hR
  have hd0 : l.drop k = whT :: (ex ++ ([91] :: (b1.fl ++ ([93] :: r)))) := by rw [hd]; simp [Sm.fl]
  obtain ⟨hk1, hk2, hd1⟩ := drop_head hd0
  have hd3 := drop_more hd1
  have hkn : k < n := by have := C.hn; omega
  have HB := Lib.hid (deedS_all a cap l n C.hn C.hl C.hm 5 (by decide) w (k : Int) ⟨by omega, by have := C.hl; omega⟩ (C.hv.below hR.bw))
  rw [(Sm.det l (.whl ex b1) 5 k r hw hd).1] at HB
  rw [Sm.wf] at hw
  have HSUM := Lib.hid (fun st w h => l10Sum_any w0 p a cap l n C.hn C.hl C.hm C.hv ga gc gs C.hg C.hg3 hw.1.ok (k + 1) _ hd1 st w h)
  have HK1 := Lib.hid (blkR C hw.2 ih1 hd3)
  have HFU := Lib.hid (fun st h => Sl.run_fuel gs b1 st h)
  have hE : Sm.run gs (.whl ex b1) st = whR gs ex (fun s => Sl.run gs b1 s) (st.f.toNat + 1) st := by rw [Sm.run]
  rw [hE]; clear hE
  rw [show ((k + 1 : Nat) : Int) = (k : Int) + 1 by omega] at HSUM
  generalize ((k + (Sm.fl (.whl ex b1)).length : Nat) : Int) = y at *
  generalize ((k + 1 + ex.length + b1.fl.length + 2 : Nat) : Int) = y3 at *
  generalize ((k + 1 + ex.length : Nat) : Int) = y2 at *
  generalize hfin : whR gs ex (fun s => Sl.run gs b1 s) (st.f.toNat + 1) st = fin
  have HFIN := Lib.hid hfin; clear hfin
  have HR := Lib.hid hR; clear hR
  have HV := Lib.hid (C.hv.below HR.out.bw)
  have hl4 := C.hl
  clear hd hd0 hd1 hd3 hw ih1
  go_enter Tryz.func83, Tryz.ntmps83
  go_wp2_with fail
  refine HB.out.mono ?_; rintro e w1 ⟨rfl, b1'⟩
  have HR1 := Lib.hid (HR.out.next b1')
  have HV1 := Lib.hid (HV.out.below b1'); clear b1'
  obtain ⟨g', o', rfl, hg, c0⟩ := HV1.out.tx hk1
  replace c0 : w1.cell? ⟨g', o' + k, none⟩ = some (.string ⟨#[119, 104, 105, 108, 101]⟩) := c0
  have i1 : (k : Int) + 1 ≤ 9223372036854775807 := by omega
  clear hk1 hg
  go_wp2_with fail
  go_loopg [] (st.f.toNat + 1) (fun j wr => ∃ s1 : St0, Rn w0 p s1 wr ∧ (if s1.c = 0 then whR gs ex (fun s => Sl.run gs b1 s) j s1 else s1) = fin ∧ (s1.c = 0 → s1.f < j))
  case atStart => exact ⟨st, HR1.out, by rw [if_pos hc]; exact HFIN.out, fun _ => by have := HR.out.f0; omega⟩
  case round =>
    clear HFIN c0
    obtain ⟨s1, hR1, hfin, hlt⟩ := hrel
    have HR2 := Lib.hid hR1
    have c1 := hR1.c
    by_cases hc1 : s1.c = 0
    · have hf0 := hR1.f0
      have hltj := hlt hc1
      obtain ⟨j, rfl⟩ : ∃ j', gk = j' + 1 := ⟨gk - 1, by omega⟩
      rw [if_pos hc1, whR] at hfin
      rw [hc1] at c1
      have z1 := hR1.fz.1
      have z2 := hR1.fz.2.2
      have c2 := hR1.f
      by_cases hf : s1.f = 0
      · rw [if_pos hf] at hfin
        have HX := Lib.hid hfin
        rw [hf] at c2
        clear hfin hlt hR1
        go_wp2_with fail
        go_ret
        exact ⟨rfl, by rw [← HX.out]; exact HR2.out.putC 3⟩
      · rw [if_neg hf] at hfin
        have t1 : (s1.f == 0) = false := beq_eq_false_iff_ne.2 hf
        have w1' : IntKind.i64.wrap (s1.f - 1) = s1.f - 1 := by rw [IntKind.wrap_i64]; omega
        have HR3 := Lib.hid (HR2.out.putF (s1.f - 1) (by omega))
        have HS1 := Lib.hid (HSUM.out _ _ HR3.out)
        have hHX := Lib.hid hfin
        have hff : 0 ≤ s1.f - 1 := by omega
        have hjj : s1.f - 1 < j := by omega
        dsimp only at HS1
        generalize evE gs s1.b ex = xx at *
        obtain ⟨x, is⟩ := xx
        clear hfin hlt hR1
        go_wp2_with fail
        refine HS1.out.mono ?_; rintro e w2 ⟨rfl, hR4⟩
        by_cases hx : x = 0
        · subst hx
          cases is
          · have HX := Lib.hid (show (⟨2, s1.b, s1.f - 1⟩ : St0) = fin from hHX.out)
            have HR4 := Lib.hid (show Rn w0 p ⟨2, s1.b, s1.f - 1⟩ w2 from hR4); clear hR4 hHX
            go_wp2_with fail
            go_ret
            exact ⟨rfl, by rw [← HX.out]; exact HR4.out⟩
          · have HX := Lib.hid (show (⟨s1.c, s1.b, s1.f - 1⟩ : St0) = fin from hHX.out)
            have HR4 := Lib.hid (show Rn w0 p ⟨s1.c, s1.b, s1.f - 1⟩ w2 from hR4); clear hR4 hHX
            go_wp2_with fail
            go_ret
            exact ⟨rfl, by rw [← HX.out]; exact HR4.out⟩
        · have t2 : (x == 0) = false := beq_eq_false_iff_ne.2 hx
          cases is
          · have HX := Lib.hid (show (⟨2, s1.b, s1.f - 1⟩ : St0) = fin from hHX.out)
            have HR4 := Lib.hid (show Rn w0 p ⟨2, s1.b, s1.f - 1⟩ w2 from hR4); clear hR4 hHX
            go_wp2_with fail
            refine (HK1.out.2.1 _ _ (show (2 : Int) ≠ 0 by decide) HR4.out).mono ?_; rintro e w3 ⟨rfl, hR5⟩
            have HR5 := Lib.hid hR5; clear hR5
            go_wp2_with fail
            go_roundg j
            case measure => omega
            case rel => exact ⟨_, HR5.out, by rw [if_neg (show ¬ (2 : Int) = 0 by decide)]; exact HX.out, fun h => absurd (show (2 : Int) = 0 from h) (by decide)⟩
          · have HX := Lib.hid (show (if (Sl.run gs b1 ⟨s1.c, s1.b, s1.f - 1⟩).c = 0 then whR gs ex (fun s => Sl.run gs b1 s) j (Sl.run gs b1 ⟨s1.c, s1.b, s1.f - 1⟩) else Sl.run gs b1 ⟨s1.c, s1.b, s1.f - 1⟩) = fin from by
              have := hHX.out
              rw [if_neg (by decide), if_neg hx] at this; exact this)
            have HR4 := Lib.hid (show Rn w0 p ⟨s1.c, s1.b, s1.f - 1⟩ w2 from hR4); clear hR4 hHX
            have hfu : (Sl.run gs b1 ⟨s1.c, s1.b, s1.f - 1⟩).f ≤ s1.f - 1 := (HFU.out ⟨s1.c, s1.b, s1.f - 1⟩ hff).2
            have HK := Lib.hid (HK1.out.2.2 ⟨s1.c, s1.b, s1.f - 1⟩ w2 hc1 HR4.out)
            generalize Sl.run gs b1 ⟨s1.c, s1.b, s1.f - 1⟩ = s3 at *
            go_wp2_with fail
            refine HK.out.mono ?_; rintro e w3 ⟨rfl, hR5⟩
            have HR5 := Lib.hid hR5; clear hR5
            go_wp2_with fail
            go_roundg j
            case measure => omega
            case rel => exact ⟨s3, HR5.out, HX.out, fun _ => by omega⟩
    · rw [if_neg hc1] at hfin
      have t0 : (s1.c == 0) = false := beq_eq_false_iff_ne.2 hc1
      have HX := Lib.hid hfin
      clear hfin hlt hR1
      go_wp2_with fail
      go_ret
      exact ⟨rfl, by rw [← HX.out]; exact HR2.out⟩
mutual
theorem Sm.runC (w0 : World) (p : Nat) (a : Option Addr) (cap : Nat) (l : List Tk) (n : Nat) (ga : Option Addr) (gc : Nat) (gs : List Int) (C : Rcx w0 a n cap l ga gc gs) : ∀ s : Sm, s.wf 5 → DeedR w0 p a n cap l ga gc gs s
  | .set m e, h => deed_set w0 p a cap l n ga gc gs C m e h
  | .cut m, h => deed_cut w0 p a cap l n ga gc gs C m (by rw [Sm.wf] at h; exact h)
  | .stop, h => deed_stop w0 p a cap l n ga gc gs C
  | .ifs e b1 b2, h => deed_if w0 p a cap l n ga gc gs C e b1 b2 h (Sl.runC w0 p a cap l n ga gc gs C b1 (by rw [Sm.wf] at h; exact Sl.wf_up b1 (by decide) h.2.1)) (Sl.runC w0 p a cap l n ga gc gs C b2 (by rw [Sm.wf] at h; exact Sl.wf_up b2 (by decide) h.2.2))
  | .whl e b1, h => deed_whl w0 p a cap l n ga gc gs C e b1 h (Sl.runC w0 p a cap l n ga gc gs C b1 (by rw [Sm.wf] at h; exact Sl.wf_up b1 (by decide) h.2))
theorem Sl.runC (w0 : World) (p : Nat) (a : Option Addr) (cap : Nat) (l : List Tk) (n : Nat) (ga : Option Addr) (gc : Nat) (gs : List Int) (C : Rcx w0 a n cap l ga gc gs) : ∀ s : Sl, s.wf 5 → s.each (DeedR w0 p a n cap l ga gc gs)
  | .nil, h => by rw [Sl.each]; trivial
  | .cons s r, h => by
    rw [Sl.wf] at h
    rw [Sl.each]
    exact ⟨Sm.runC w0 p a cap l n ga gc gs C s h.1, Sl.runC w0 p a cap l n ga gc gs C r h.2⟩
end
end Go.Proofs.YtfnnoehpahdgcaaGreatDoor.Cl
namespace Go.Proofs.YtfnnoehpahdgcaaGreatDoor.Cl
set_option linter.unusedVariables false
open Go.RowKit Wd Rp Kp
def Sl.end_ (t : Sl) (gs : List Int) (bs : List Bi) (f : Int) : St0 := if (t.run gs ⟨0, bs, f⟩).c = 0 then t.run gs ⟨0, bs, f⟩ else ⟨(t.run gs ⟨0, bs, f⟩).c, bs, 0⟩
def EndP (B : Nat) (r : St0) (w : World) (e : Ending) (w' : World) : Prop := ∃ v, e = .returned (.agg #[.int .i64 r.c, v, .int .i64 r.f]) ∧ OwI B w' v r.b ∧ Below B w w'
theorem Rn.start {w0 w1 : World} {v : Value} {bs : List Bi} {f : Int} (T : Nat) (ho : OwI w0.heap.size w1 v bs) (hb : Below w0.heap.size w0 w1) (hl : bs.length ≤ 12) (hf : 0 ≤ f ∧ f ≤ 400) : Rn w0 w1.heap.size ⟨0, bs, f⟩ (w1.alloc (.cells #[.int .i64 0, v, .int .i64 f] T)) := by
  obtain ⟨⟨h0, h1, h2⟩, hf3, hl3⟩ := Tri.made (.int .i64 0) v (.int .i64 f) w1 T
  exact ⟨hb.size, hl3, hf3, h0, h2, ⟨v, h1, ho.next (bel1 _ _), fun e => by have := OwI.low ho _ e; omega⟩, hb.trans ((bel1 w1 _).mono hb.size), hl, hf⟩
set_option maxHeartbeats 8000000 in
set_option maxRecDepth 100000 in
theorem l10Means_any (w : World) (a : Option Addr) (cap : Nat) (l : List Tk) (n : Nat) (hn : l.length = n) (hl : n ≤ 4194304) (hm : ∀ s ∈ l, s.length ≤ 4194304) (hv : V1 w a cap (txL l)) (ba : Option Addr) (bc bn : Nat) (bs : List Bi) (hbn : bs.length = bn) (hb : VwI w ba bc bs) (hb12 : bn ≤ 12) (ga : Option Addr) (gc : Nat) (gs : List Int) (hg : V1 w ga gc (inL gs)) (hg3 : gs.length = 3) (f : Int) (hf : 0 ≤ f ∧ f ≤ 400) (t : Sl) (hw : t.wf 5) (ht : l = t.fl) :
    Calls Tryz.prog 53 #[.slice a n cap, .slice ba bn bc, .slice ga (3 : Nat) gc, .int .i64 f] w (EndP w.heap.size (t.end_ gs bs f) w) := by
  have HV := Lib.hid hv; clear hv
  have HVB := Lib.hid hb; clear hb
  have HG := Lib.hid hg; clear hg
  generalize hend : t.end_ gs bs f = fe
  have HEND := Lib.hid hend; clear hend
  go_enter Tryz.func53, Tryz.ntmps53
  go_wp2_with (first
    | (refine (l7Copy_any _ ba bc bs bn hbn (HVB.out.below (bel1 _ _)) (by omega)).mono ?_; rintro e w1 ⟨v1, rfl, o1, b1⟩; obtain ⟨va1, vc1, rfl, -⟩ := o1.view; rw [hbn] at o1 ⊢))
  have HT := Lib.hid (Tri.made (.int .i64 0) (.slice none 0 0) (.int .i64 0) w 30)
  generalize hw0 : w.alloc (.cells #[.int .i64 0, .slice none 0 0, .int .i64 0] 30) = w0 at *
  have HW0 := Lib.hid (show Below w.heap.size w w0 by rw [← hw0]; exact bel1 _ _)
  have HR1 := Lib.hid (Rn.start 99 o1 b1 (by omega) hf)
  have HZ := Lib.hid (show t.end_ gs bs f = (if (if (⟨0, bs, f⟩ : St0).c = 0 then t.run gs ⟨0, bs, f⟩ else ⟨0, bs, f⟩).c = 0 then (if (⟨0, bs, f⟩ : St0).c = 0 then t.run gs ⟨0, bs, f⟩ else ⟨0, bs, f⟩) else ⟨(if (⟨0, bs, f⟩ : St0).c = 0 then t.run gs ⟨0, bs, f⟩ else ⟨0, bs, f⟩).c, bs, 0⟩) by rw [if_pos rfl]; rfl)
  generalize hfin : (if (⟨0, bs, f⟩ : St0).c = 0 then t.run gs ⟨0, bs, f⟩ else ⟨0, bs, f⟩) = fin at HZ
  have HFIN := Lib.hid hfin
  have C := Lib.hid (show Rcx w0 a n cap l ga gc gs from ⟨hn, hl, hm, HV.out.below (by rw [← hw0]; exact bel1 _ _), HG.out.below (by rw [← hw0]; exact bel1 _ _), hg3⟩)
  have IH := Lib.hid (Sl.runC w0 w1.heap.size a cap l n ga gc gs C.out t hw)
  have D0 := Lib.hid (show l.drop 0 = t.fl from ht)
  clear o1 b1 hfin hw ht hm hg3
  go_loopg [10] (t.count + 1) (fun j q wr => ∃ (t' : Sl) (z : Nat) (s1 : St0), q = .int .i64 (z : Int) ∧ l.drop z = t'.fl ∧ t'.each (DeedR w0 w1.heap.size a n cap l ga gc gs) ∧ Rn w0 w1.heap.size s1 wr ∧ t'.count + 1 ≤ j ∧ z ≤ n ∧ (if s1.c = 0 then t'.run gs s1 else s1) = fin)
  case atStart => exact ⟨t, 0, ⟨0, bs, f⟩, by go_num, D0.out, IH.out, HR1.out, Nat.le_refl _, Nat.zero_le _, HFIN.out⟩
  case round =>
    clear HFIN IH D0 HR1
    obtain ⟨t', z, s1, rfl, hd2, ih2, hR2, hj, hzn, hfin⟩ := hrel
    have HFIN := Lib.hid hfin
    have HR2 := Lib.hid hR2
    have c2 := hR2.c
    clear hfin hR2
    by_cases hc : s1.c = 0
    · cases t' with
      | nil =>
        have hz : n ≤ z := by have := List.drop_eq_nil_iff.1 (show l.drop z = [] from hd2); omega
        obtain rfl : z = n := by omega
        have t5 : decide ((z : Int) < (z : Int)) = false := by simp
        have HX := Lib.hid (show s1 = fin by have := HFIN.out; rw [if_pos hc] at this; exact this)
        clear hd2 ih2
        rw [hc] at c2
        have HF : fe = s1 := by
          have e1 := HEND.out; have e2 := HZ.out
          rw [← HX.out, if_pos hc] at e2
          exact e1.symm.trans e2
        obtain ⟨v, cv, hO, -⟩ := HR2.out.b
        obtain ⟨va, vc, rfl, -⟩ := hO.view
        have HO := Lib.hid hO; clear hO
        have cf := HR2.out.f
        have hqp : w1.heap.size ≠ w.heap.size := by have := HR2.out.hB; have := HT.out.2.2; omega
        have HQ := Lib.hid (HT.out.below HR2.out.bw HT.out.2.2)
        have HQD := Lib.hid (HQ.out.below (B := wr.heap.size) (Below.refl _ _).drew HQ.out.2.2)
        obtain ⟨⟨q0, q1, q2⟩, ⟨r0, r1, r2⟩, r3⟩ := HQ.out
        have HW := Lib.hid (HW0.out.trans (HR2.out.bw.mono HW0.out.size))
        have HP := Lib.hid (HQD.out.put3 (x' := .int .i64 0) (y' := .slice va s1.b.length vc) (z' := .int .i64 s1.f))
        go_wp2_with fail
        refine wp_region_held_drew (S := fun z => z.cell? ⟨w1.heap.size, 1, none⟩ = some (.slice va s1.b.length vc) ∧ z.cell? ⟨w1.heap.size, 2, none⟩ = some (.int .i64 s1.f)) (by kernel_rfl) ⟨cv, cf⟩ (fun hHeld => ?_)
        refine tkI (i := 0) (v := ?v0g) rfl (Or.inl ⟨by rfl, ?hy0g⟩) ?rest0g
        case hy0g => (intro zz hSw; (try dsimp only at hSw); go_simp; (try with_reducible rfl))
        change wpAnyH _ _ _ _ _ _ _ (Act.put _ (some 44) _) _
        simp only [Act.put, List.setIfInBounds_toArray, List.set_cons_zero, List.set_cons_succ]
        refine tkI (i := 1) (v := ?v1g) rfl (Or.inl ⟨by rfl, ?hy1g⟩) ?rest1g
        case hy1g => (intro zz hSw; (try dsimp only at hSw); go_simp; (try with_reducible rfl))
        change wpAnyH _ _ _ _ _ _ _ (Act.put _ (some 45) _) _
        simp only [Act.put, List.setIfInBounds_toArray, List.set_cons_zero, List.set_cons_succ]
        refine tkI (i := 2) (v := ?v2g) rfl (Or.inl ⟨by rfl, ?hy2g⟩) ?rest2g
        case hy2g => (intro zz hSw; (try dsimp only at hSw); go_simp; (try with_reducible rfl))
        change wpAnyH _ _ _ _ _ _ _ (Act.put _ (some 46) _) _
        simp only [Act.put, List.setIfInBounds_toArray, List.set_cons_zero, List.set_cons_succ]
        refine tkI (i := 3) (v := ?v3g) rfl (Or.inl ⟨by rfl, ?hy3g⟩) ?rest3g
        case hy3g => (intro zz hSw; (try dsimp only at hSw); go_simp; (try with_reducible rfl))
        change wpAnyH _ _ _ _ _ _ _ (Act.put _ (some 47) _) _
        simp only [Act.put, List.setIfInBounds_toArray, List.set_cons_zero, List.set_cons_succ]
        refine tkI (i := 4) (v := ?v4g) rfl (Or.inl ⟨by rfl, ?hy4g⟩) ?rest4g
        case hy4g => (intro zz hSw; (try dsimp only at hSw); go_simp; (try with_reducible rfl))
        change wpAnyH _ _ _ _ _ _ _ (Act.put _ (some 48) _) _
        simp only [Act.put, List.setIfInBounds_toArray, List.set_cons_zero, List.set_cons_succ]
        refine tkI (i := 5) (v := ?v5g) rfl (Or.inl ⟨by rfl, ?hy5g⟩) ?rest5g
        case hy5g => (intro zz hSw; (try dsimp only at hSw); go_simp; (try with_reducible rfl))
        change wpAnyH _ _ _ _ _ _ _ (Act.put _ (some 49) _) _
        simp only [Act.put, List.setIfInBounds_toArray, List.set_cons_zero, List.set_cons_succ]
        refine tkI (i := 6) (v := ?v6g) rfl (Or.inl ⟨by rfl, ?hy6g⟩) ?rest6g
        case hy6g => (intro zz hSw; (try dsimp only at hSw); go_simp; (try with_reducible rfl))
        change wpAnyH _ _ _ _ _ _ _ (Act.put _ (some 50) _) _
        simp only [Act.put, List.setIfInBounds_toArray, List.set_cons_zero, List.set_cons_succ]
        refine tkI (i := 7) (v := ?v7g) rfl (Or.inl ⟨by rfl, ?hy7g⟩) ?rest7g
        case hy7g => (intro zz hSw; (try dsimp only at hSw); go_simp; (try with_reducible rfl))
        change wpAnyH _ _ _ _ _ _ _ (Act.put _ (some 51) _) _
        simp only [Act.put, List.setIfInBounds_toArray, List.set_cons_zero, List.set_cons_succ]
        refine tkI (i := 8) (v := ?v8g) rfl (Or.inl ⟨by rfl, ?hy8g⟩) ?rest8g
        case hy8g => (intro zz hSw; (try dsimp only at hSw); go_simp; (try with_reducible rfl))
        change wpAnyH _ _ _ _ _ _ _ (Act.put _ (some 52) _) _
        simp only [Act.put, List.setIfInBounds_toArray, List.set_cons_zero, List.set_cons_succ]
        refine wpAnyH_ready (rs := [9]) (by kernel_rfl) (by simp) (AllReadyH.cons rfl (fun K hK => ?_) (AllReadyH.nil))
        go_simp
        refine hK.out _ (put3 wr.drew w.heap.size (.int .i64 0) (.slice va s1.b.length vc) (.int .i64 s1.f)) ⟨put3_cell hqp cv, put3_cell hqp cf⟩ (fun hHeld => ?_)
        clear hK K
        refine wpAnyH_done (by kernel_rfl) ?_ _
        clear hHeld
        obtain ⟨⟨q0', q1', q2'⟩, -, -⟩ := HP.out
        go_wp2_with fail
        refine bodyPost_ret (v := .agg #[.int .i64 0, .slice va s1.b.length vc, .int .i64 s1.f]) (by simp [results, Tryz.results53, go_sem, q0', q1', q2']) rfl ?_
        rw [HF]
        refine ⟨.slice va s1.b.length vc, by rw [hc], (OwI.put3 (HO.out.next (Below.refl _ _).drew) HT.out.2.2).mono HW0.out.size, put3_below (HW.out.drew) (Nat.le_refl _)⟩
      | cons s t' =>
        obtain ⟨j, rfl⟩ : ∃ j', gk = j' + 1 := ⟨gk - 1, by omega⟩
        have hd3 : l.drop z = s.fl ++ t'.fl := by rw [hd2, Sl.fl]
        rw [Sl.each] at ih2
        have HD := Lib.hid (ih2.1 z _ s1 wr hd3 hc HR2.out)
        have HI2 := Lib.hid ih2.2
        have HD4 := Lib.hid (drop_more hd3)
        have hjj : t'.count + 1 ≤ j := by rw [Sl.count] at hj; omega
        have hsp := s.pos
        have hlz : z + s.fl.length ≤ n ∧ z < n := by have := congrArg List.length hd3; rw [List.length_drop, List.length_append] at this; omega
        have HX := Lib.hid (show (if (s.run gs s1).c = 0 then t'.run gs (s.run gs s1) else s.run gs s1) = fin by have := HFIN.out; rw [if_pos hc, Sl.run] at this; exact this)
        have t5 : (z : Int) < (n : Int) := by omega
        have t6 : decide (z < n) = true := by simpa using hlz.2
        have hl2 := hlz.1
        clear hd2 hd3 ih2 HFIN hj hsp hlz
        generalize s.run gs s1 = s2 at *
        generalize z + s.fl.length = z2 at *
        rw [hc] at c2
        go_wp2_with fail
        refine HD.out.mono ?_; rintro e w2 ⟨rfl, hR3⟩
        have HR3 := Lib.hid hR3; clear hR3
        go_wp2_with fail
        go_roundg j
        case measure => omega
        case rel => exact ⟨t', z2, s2, rfl, HD4.out, HI2.out, HR3.out, hjj, hl2, HX.out⟩
    · have HX := Lib.hid (show s1 = fin by have := HFIN.out; rw [if_neg hc] at this; exact this)
      have t0 : (s1.c == 0) = false := beq_eq_false_iff_ne.2 hc
      have t1 : (s1.c != 0) = true := by simpa using hc
      clear hd2 ih2
      have HF : fe = ⟨s1.c, bs, 0⟩ := by
        have e1 := HEND.out; have e2 := HZ.out
        rw [← HX.out, if_neg hc] at e2
        exact e1.symm.trans e2
      have hqp : w1.heap.size ≠ w.heap.size := by have := HR2.out.hB; have := HT.out.2.2; omega
      have HQ := Lib.hid (HT.out.below HR2.out.bw HT.out.2.2)
      have HW := Lib.hid (HW0.out.trans (HR2.out.bw.mono HW0.out.size))
      have HCP := Lib.hid (l7Copy_any wr.drew ba bc bs bn hbn (HVB.out.below HW.out.drew) (by omega))
      go_wp2_with fail
      refine wp_region_held_drew (S := fun z => z.cell? ⟨w1.heap.size, 0, none⟩ = some (.int .i64 s1.c)) (by kernel_rfl) c2 (fun hHeld => ?_)
      refine tkI (i := 0) (v := ?v0h) rfl (Or.inl ⟨by rfl, ?hy0h⟩) ?rest0h
      case hy0h => (intro zz hSw; (try dsimp only at hSw); go_simp; (try with_reducible rfl))
      change wpAnyH _ _ _ _ _ _ _ (Act.put _ (some 37) _) _
      simp only [Act.put, List.setIfInBounds_toArray, List.set_cons_zero, List.set_cons_succ]
      refine tkI (i := 1) (v := ?v1h) rfl (Or.inl ⟨by rfl, ?hy1h⟩) ?rest1h
      case hy1h => (intro zz hSw; (try dsimp only at hSw); go_simp; (try with_reducible rfl))
      change wpAnyH _ _ _ _ _ _ _ (Act.put _ (some 38) _) _
      simp only [Act.put, List.setIfInBounds_toArray, List.set_cons_zero, List.set_cons_succ]
      refine tkI (i := 2) (v := ?v2h) rfl (Or.inl ⟨by rfl, ?hy2h⟩) ?rest2h
      case hy2h => (intro zz hSw; (try dsimp only at hSw); go_simp; (try with_reducible rfl))
      change wpAnyH _ _ _ _ _ _ _ (Act.put _ (some 39) _) _
      simp only [Act.put, List.setIfInBounds_toArray, List.set_cons_zero, List.set_cons_succ]
      refine tkI (i := 3) (v := ?v3h) rfl (Or.inl ⟨by rfl, ?hy3h⟩) ?rest3h
      case hy3h => (intro zz hSw; (try dsimp only at hSw); go_simp; (try with_reducible rfl))
      change wpAnyH _ _ _ _ _ _ _ (Act.put _ (some 40) _) _
      simp only [Act.put, List.setIfInBounds_toArray, List.set_cons_zero, List.set_cons_succ]
      refine tkI (i := 4) (v := ?v4h) rfl (Or.inl ⟨by rfl, ?hy4h⟩) ?rest4h
      case hy4h => (intro zz hSw; (try dsimp only at hSw); go_simp; (try with_reducible rfl))
      change wpAnyH _ _ _ _ _ _ _ (Act.put _ (some 41) _) _
      simp only [Act.put, List.setIfInBounds_toArray, List.set_cons_zero, List.set_cons_succ]
      refine wpAnyH_ready (rs := [5]) (by kernel_rfl) (by simp) (AllReadyH.cons rfl (fun K hK => ?_) (AllReadyH.nil))
      go_simp
      refine HCP.out.mono ?_; rintro e w3 ⟨v3, rfl, o3, b3⟩
      obtain ⟨va3, vc3, rfl, -⟩ := o3.view
      rw [hbn] at o3 ⊢
      have O3 := Lib.hid o3
      have HW3 := Lib.hid (bel_tr HW.out.drew b3 (Nat.le_refl _))
      have C3 := Lib.hid ((b3.cell (p := ⟨w1.heap.size, 0, none⟩) HR2.out.hp).trans c2)
      have HQ3 := Lib.hid ((HQ.out.below (B := wr.heap.size) (Below.refl _ _).drew HQ.out.2.2).below b3 HQ.out.2.2)
      have HP := Lib.hid (HQ3.out.put3 (x' := .int .i64 s1.c) (y' := .slice va3 bn vc3) (z' := .int .i64 0))
      refine hK.out _ _ C3.out (fun hHeld => ?_)
      clear hK K o3 b3
      obtain ⟨⟨q0, q1, q2⟩, ⟨r0, r1, r2⟩, r3⟩ := HQ3.out
      refine tkI (i := 6) (v := ?v6h) rfl (Or.inl ⟨by rfl, ?hy6h⟩) ?rest6h
      case hy6h => (intro zz hSw; (try dsimp only at hSw); go_simp; (try with_reducible rfl))
      change wpAnyH _ _ _ _ _ _ _ (Act.put _ (some 43) _) _
      simp only [Act.put, List.setIfInBounds_toArray, List.set_cons_zero, List.set_cons_succ]
      refine wpAnyH_ready (rs := [7]) (by kernel_rfl) (by simp) (AllReadyH.cons rfl (fun K hK => ?_) (AllReadyH.nil))
      go_simp
      refine hK.out _ (put3 w3 w.heap.size (.int .i64 s1.c) (.slice va3 bn vc3) (.int .i64 0)) (put3_cell hqp C3.out) (fun hHeld => ?_)
      clear hK K
      refine wpAnyH_done (by kernel_rfl) ?_ _
      clear hHeld
      obtain ⟨⟨q0', q1', q2'⟩, -, -⟩ := HP.out
      go_wp2_with fail
      refine bodyPost_ret (v := .agg #[.int .i64 s1.c, .slice va3 bn vc3, .int .i64 0]) (by simp [results, Tryz.results53, go_sem, q0', q1', q2']) rfl ?_
      rw [HF]
      refine ⟨.slice va3 bn vc3, rfl, (OwI.put3 O3.out (Nat.lt_of_lt_of_le HT.out.2.2 HR2.out.bw.size)).mono HW.out.size, put3_below HW3.out (Nat.le_refl _)⟩
end Go.Proofs.YtfnnoehpahdgcaaGreatDoor.Cl
namespace Go.Proofs.YtfnnoehpahdgcaaGreatDoor.Cl
set_option linter.unusedVariables false
open Go.RowKit Wd Rp Kp
theorem l10Fuel_any (f : Int) (w : World) : Calls Tryz.prog 52 #[.int .i64 f] w fun e w' => e = .returned (.bool (inB f 0 400)) ∧ w = w' := by
  have HI := Lib.hid (l1In_any f 0 400 w)
  generalize inB f 0 400 = x at *
  go_enter Tryz.func52, Tryz.ntmps52
  go_wp2_with fail
  refine HI.out.mono ?_; rintro e w1 ⟨rfl, rfl⟩
  go_wp2_with fail
  go_ret
  exact ⟨rfl, rfl⟩
def meB (l : List Tk) (bs : List Bi) (gs : List Int) (f : Int) : Bool := rcB l && (okI bs && (thB gs && inB f 0 400))
set_option maxHeartbeats 8000000 in
set_option maxRecDepth 100000 in
theorem specMeans_bad (w : World) (a : Option Addr) (cap : Nat) (l : List Tk) (n : Nat) (hn : l.length = n) (hl : n ≤ 4194304) (hm : ∀ s ∈ l, s.length ≤ 4194304) (hv : V1 w a cap (txL l)) (ba : Option Addr) (bc bn : Nat) (bs : List Bi) (hbn : bs.length = bn) (hb : VwI w ba bc bs) (hbl : bn ≤ 4194304) (hbm : ∀ c ∈ bs, c.n.size ≤ 9223372036854775806) (ga : Option Addr) (gc gn : Nat) (gs : List Int) (hgn : gs.length = gn) (hgl : gn ≤ 4194304) (hg : V1 w ga gc (inL gs)) (f : Int) (h : meB l bs gs f = false) :
    Calls Tryz.prog 13 #[.slice a n cap, .slice ba bn bc, .slice ga gn gc, .int .i64 f] w (EndP w.heap.size ⟨5, bs, 0⟩ w) := by
  have HV := Lib.hid hv; clear hv
  have HVB := Lib.hid hb; clear hb
  have HG := Lib.hid hg; clear hg
  have HT := Lib.hid (Tri.made (.int .i64 0) (.slice none 0 0) (.int .i64 0) w 30)
  have HW0 := Lib.hid (bel1 w (.cells #[.int .i64 0, .slice none 0 0, .int .i64 0] 30))
  have H1 := Lib.hid (fun w h => specRecipeOk_any w a cap l n hn h hl hm)
  have H2 := Lib.hid (fun w h => specBins2_any w ba bc bs bn hbn h hbm hbl)
  have H3 := Lib.hid (fun w h => l8Three_any w ga gc gs gn hgn h hgl)
  have H4 := Lib.hid (fun w => l10Fuel_any f w)
  have HCP := Lib.hid (fun w h => l7Copy_any w ba bc bs bn hbn h hbl)
  have HEND := Lib.hid (show ∀ (w1 w2 : World) (v : Value), Below w.heap.size w w1 → OwI w1.heap.size w2 v bs → Below w1.heap.size w1 w2 → w.heap.size < w1.heap.size → OwI w.heap.size (put3 w2 w.heap.size (.int .i64 5) v (.int .i64 0)) v bs ∧ Below w.heap.size w (put3 w2 w.heap.size (.int .i64 5) v (.int .i64 0)) from
    fun w1 w2 v b1 o2 b2 hlt => ⟨(OwI.put3 o2 hlt).mono b1.size, put3_below (bel_tr b1 b2 (Nat.le_refl _)) (Nat.le_refl _)⟩)
  unfold meB at h
  generalize rcB l = x1 at *
  generalize okI bs = x2 at *
  generalize thB gs = x3 at *
  generalize inB f 0 400 = x4 at *
  go_enter Tryz.func13, Tryz.ntmps13
  go_wp2_with fail
  generalize w.alloc (.cells #[.int .i64 0, .slice none 0 0, .int .i64 0] 30) = w0 at *
  refine (H1.out w0 (HV.out.below HW0.out)).mono ?_; rintro e w1 ⟨rfl, b1⟩
  have T1 := Lib.hid (HT.out.below b1 HT.out.2.2)
  have W1 := Lib.hid (bel_tr HW0.out b1 (Nat.le_refl _)); clear b1
  cases x1
  · have HC := Lib.hid (HCP.out w1 (HVB.out.below W1.out))
    go_wp2_with fail
    refine HC.out.mono ?_; rintro e wz ⟨v2, rfl, o2, b2⟩
    obtain ⟨va2, vc2, rfl, -⟩ := o2.view
    rw [hbn] at o2 ⊢
    have T9 := Lib.hid (T1.out.below b2 T1.out.2.2)
    have HZ := Lib.hid (HEND.out w1 wz _ W1.out o2 b2 T1.out.2.2)
    obtain ⟨⟨q0, q1, q2⟩, ⟨r0, r1, r2⟩, r3⟩ := T9.out
    obtain ⟨⟨p0, p1, p2⟩, -, -⟩ := T9.out.put3 (x' := .int .i64 5) (y' := .slice va2 bn vc2) (z' := .int .i64 0)
    clear o2 b2
    go_wp2_with fail
    refine bodyPost_ret (v := .agg #[.int .i64 5, .slice va2 bn vc2, .int .i64 0]) (by simp only [put3] at p0 p1 p2; simp [results, Tryz.results13, go_sem, p0, p1, p2]) rfl ⟨.slice va2 bn vc2, rfl, HZ.out.1, HZ.out.2⟩
  · go_wp2_with fail
    refine (H2.out w1 (HVB.out.below W1.out)).mono ?_; rintro e w2 ⟨rfl, b2⟩
    have T2 := Lib.hid (T1.out.below b2 T1.out.2.2)
    have W2 := Lib.hid (bel_tr W1.out b2 (Nat.le_refl _)); clear b2
    cases x2
    · have HC := Lib.hid (HCP.out w2 (HVB.out.below W2.out))
      go_wp2_with fail
      refine HC.out.mono ?_; rintro e wz ⟨v2, rfl, o2, b2⟩
      obtain ⟨va2, vc2, rfl, -⟩ := o2.view
      rw [hbn] at o2 ⊢
      have T9 := Lib.hid (T2.out.below b2 T2.out.2.2)
      have HZ := Lib.hid (HEND.out w2 wz _ W2.out o2 b2 T2.out.2.2)
      obtain ⟨⟨q0, q1, q2⟩, ⟨r0, r1, r2⟩, r3⟩ := T9.out
      obtain ⟨⟨p0, p1, p2⟩, -, -⟩ := T9.out.put3 (x' := .int .i64 5) (y' := .slice va2 bn vc2) (z' := .int .i64 0)
      clear o2 b2
      go_wp2_with fail
      refine bodyPost_ret (v := .agg #[.int .i64 5, .slice va2 bn vc2, .int .i64 0]) (by simp only [put3] at p0 p1 p2; simp [results, Tryz.results13, go_sem, p0, p1, p2]) rfl ⟨.slice va2 bn vc2, rfl, HZ.out.1, HZ.out.2⟩
    · go_wp2_with fail
      refine (H3.out w2 (HG.out.below W2.out)).mono ?_; rintro e w3 ⟨rfl, rfl⟩
      cases x3
      · have HC := Lib.hid (HCP.out w2 (HVB.out.below W2.out))
        go_wp2_with fail
        refine HC.out.mono ?_; rintro e wz ⟨v2, rfl, o2, b2⟩
        obtain ⟨va2, vc2, rfl, -⟩ := o2.view
        rw [hbn] at o2 ⊢
        have T9 := Lib.hid (T2.out.below b2 T2.out.2.2)
        have HZ := Lib.hid (HEND.out w2 wz _ W2.out o2 b2 T2.out.2.2)
        obtain ⟨⟨q0, q1, q2⟩, ⟨r0, r1, r2⟩, r3⟩ := T9.out
        obtain ⟨⟨p0, p1, p2⟩, -, -⟩ := T9.out.put3 (x' := .int .i64 5) (y' := .slice va2 bn vc2) (z' := .int .i64 0)
        clear o2 b2
        go_wp2_with fail
        refine bodyPost_ret (v := .agg #[.int .i64 5, .slice va2 bn vc2, .int .i64 0]) (by simp only [put3] at p0 p1 p2; simp [results, Tryz.results13, go_sem, p0, p1, p2]) rfl ⟨.slice va2 bn vc2, rfl, HZ.out.1, HZ.out.2⟩
      · go_wp2_with fail
        refine (H4.out w2).mono ?_; rintro e w3 ⟨rfl, rfl⟩
        cases x4
        · have HC := Lib.hid (HCP.out w2 (HVB.out.below W2.out))
          go_wp2_with fail
          refine HC.out.mono ?_; rintro e wz ⟨v2, rfl, o2, b2⟩
          obtain ⟨va2, vc2, rfl, -⟩ := o2.view
          rw [hbn] at o2 ⊢
          have T9 := Lib.hid (T2.out.below b2 T2.out.2.2)
          have HZ := Lib.hid (HEND.out w2 wz _ W2.out o2 b2 T2.out.2.2)
          obtain ⟨⟨q0, q1, q2⟩, ⟨r0, r1, r2⟩, r3⟩ := T9.out
          obtain ⟨⟨p0, p1, p2⟩, -, -⟩ := T9.out.put3 (x' := .int .i64 5) (y' := .slice va2 bn vc2) (z' := .int .i64 0)
          clear o2 b2
          go_wp2_with fail
          refine bodyPost_ret (v := .agg #[.int .i64 5, .slice va2 bn vc2, .int .i64 0]) (by simp only [put3] at p0 p1 p2; simp [results, Tryz.results13, go_sem, p0, p1, p2]) rfl ⟨.slice va2 bn vc2, rfl, HZ.out.1, HZ.out.2⟩
        · cases h
set_option maxHeartbeats 8000000 in
set_option maxRecDepth 100000 in
theorem specMeans_ok (w : World) (a : Option Addr) (cap : Nat) (l : List Tk) (n : Nat) (hn : l.length = n) (hl : n ≤ 4194304) (hm : ∀ s ∈ l, s.length ≤ 4194304) (hv : V1 w a cap (txL l)) (ba : Option Addr) (bc bn : Nat) (bs : List Bi) (hbn : bs.length = bn) (hb : VwI w ba bc bs) (hbm : ∀ c ∈ bs, c.n.size ≤ 9223372036854775806) (ga : Option Addr) (gc : Nat) (gs : List Int) (hg : V1 w ga gc (inL gs)) (f : Int) (h : meB l bs gs f = true) (t : Sl) (hw : t.wf 5) (ht : l = t.fl) :
    Calls Tryz.prog 13 #[.slice a n cap, .slice ba bn bc, .slice ga (3 : Nat) gc, .int .i64 f] w (EndP w.heap.size (t.end_ gs bs f) w) := by
  unfold meB at h
  rw [Bool.and_eq_true, Bool.and_eq_true, Bool.and_eq_true] at h
  obtain ⟨h1, h2, h3, h4⟩ := h
  have hb12 : bn ≤ 12 := by have := (okI_iff.1 h2).1; omega
  have hg3 := thB_len h3
  have hf : 0 ≤ f ∧ f ≤ 400 := by
    unfold inB at h4
    simpa using h4
  have HV := Lib.hid hv; clear hv
  have HVB := Lib.hid hb; clear hb
  have HG := Lib.hid hg; clear hg
  have HT := Lib.hid (Tri.made (.int .i64 0) (.slice none 0 0) (.int .i64 0) w 30)
  have HW0 := Lib.hid (bel1 w (.cells #[.int .i64 0, .slice none 0 0, .int .i64 0] 30))
  have H1 := Lib.hid (fun w h => specRecipeOk_any w a cap l n hn h hl hm)
  have H2 := Lib.hid (fun w h => specBins2_any w ba bc bs bn hbn h hbm (by omega))
  have H3 := Lib.hid (fun w h => l8Three_any w ga gc gs 3 hg3 h (by decide))
  have H4 := Lib.hid (fun w => l10Fuel_any f w)
  have HM := Lib.hid (fun w hv hb hg => l10Means_any w a cap l n hn hl hm hv ba bc bn bs hbn hb hb12 ga gc gs hg hg3 f hf t hw ht)
  rw [h1] at H1; rw [h2] at H2; rw [h3] at H3; rw [h4] at H4
  generalize t.end_ gs bs f = r at *
  clear h1 h2 h3 h4 hw ht hf hg3
  go_enter Tryz.func13, Tryz.ntmps13
  go_wp2_with fail
  generalize w.alloc (.cells #[.int .i64 0, .slice none 0 0, .int .i64 0] 30) = w0 at *
  refine (H1.out w0 (HV.out.below HW0.out)).mono ?_; rintro e w1 ⟨rfl, b1⟩
  have T1 := Lib.hid (HT.out.below b1 HT.out.2.2)
  have W1 := Lib.hid (bel_tr HW0.out b1 (Nat.le_refl _)); clear b1
  go_wp2_with fail
  refine (H2.out w1 (HVB.out.below W1.out)).mono ?_; rintro e w2 ⟨rfl, b2⟩
  have T2 := Lib.hid (T1.out.below b2 T1.out.2.2)
  have W2 := Lib.hid (bel_tr W1.out b2 (Nat.le_refl _)); clear b2
  go_wp2_with fail
  refine (H3.out w2 (HG.out.below W2.out)).mono ?_; rintro e w3 ⟨rfl, rfl⟩
  go_wp2_with fail
  refine (H4.out w2).mono ?_; rintro e w3 ⟨rfl, rfl⟩
  go_wp2_with fail
  refine (HM.out w2 (HV.out.below W2.out) (HVB.out.below W2.out) (HG.out.below W2.out)).mono ?_; rintro e w3 ⟨v3, rfl, o3, b3⟩
  obtain ⟨va3, vc3, rfl, -⟩ := o3.view
  have T9 := Lib.hid (T2.out.below b3 T2.out.2.2)
  have O9 := Lib.hid ((OwI.put3 o3 T2.out.2.2 (x := .int .i64 r.c) (y := .slice va3 r.b.length vc3) (z := .int .i64 r.f)).mono W2.out.size)
  have B9 := Lib.hid (put3_below (q := w.heap.size) (x := .int .i64 r.c) (y := .slice va3 r.b.length vc3) (z := .int .i64 r.f) (bel_tr W2.out b3 (Nat.le_refl _)) (Nat.le_refl _))
  obtain ⟨⟨q0, q1, q2⟩, ⟨r0, r1, r2⟩, r3⟩ := T9.out
  obtain ⟨⟨p0, p1, p2⟩, -, -⟩ := T9.out.put3 (x' := .int .i64 r.c) (y' := .slice va3 r.b.length vc3) (z' := .int .i64 r.f)
  clear o3 b3
  go_wp2_with fail
  refine bodyPost_ret (v := .agg #[.int .i64 r.c, .slice va3 r.b.length vc3, .int .i64 r.f]) (by simp only [put3] at p0 p1 p2; simp [results, Tryz.results13, go_sem, p0, p1, p2]) rfl ⟨_, rfl, O9.out, B9.out⟩
end Go.Proofs.YtfnnoehpahdgcaaGreatDoor.Cl
namespace Go.Proofs.YtfnnoehpahdgcaaGreatDoor.Cl
set_option linter.unusedVariables false
open Go.RowKit Wd Rp Cu Kp
theorem ta_end (v : Value) (w : World) : (Instr.typeAssert (.iface 89 v) 20 89 true).run Tryz.prog w = .ok (.tuple #[v, .bool true]) w := by kernel_rfl
theorem ta_nil (w : World) : (Instr.typeAssert .nilIface 20 89 true).run Tryz.prog w = .ok (.tuple #[.int .i64 0, .bool false]) w := by kernel_rfl
set_option maxHeartbeats 4000000 in
set_option maxRecDepth 100000 in
theorem catch_panic (pc : Nat) (c x : Int) (w : World) (hc : w.cell? ⟨pc, 0, none⟩ = some (.int .i64 x)) (hz : w.frozen? ⟨pc, 0, none⟩ = false) :
    CallsD Tryz.prog 73 #[.pointer (some ⟨pc, 0, none⟩)] (.panicking [endg c]) w fun e u' w' => e = .returned (.tuple #[]) ∧ u' = .panicking [{ v := .iface 89 (.int .i64 c), recovered := true }] ∧ w' = w.setCell ⟨pc, 0, none⟩ (.int .i64 c) := by
  refine callsD_of_wpS Tryz.func73 rfl fun c₀ cs hu => ?_
  have ta := ta_end (.int .i64 c)
  unfold endg at hu
  apply wpS_seq
  apply wpS_region
  simp [wpOpsS, go_sem, recoverD, hu, Tryz.ntmps73, Exit.thenS, ta]
  apply wpS_seq
  apply wpS_region
  simp [wpOpsS, go_sem, Exit.thenS]
  refine wpS_cond (t := true) (by simp [Act.eval]) ?_
  simp only [if_true]
  apply wpS_region
  simp [wpOpsS, go_sem, hc, hz, bodyPostS, results, Tryz.results73]
set_option maxHeartbeats 4000000 in
set_option maxRecDepth 100000 in
theorem catch_idle (pc : Nat) (w : World) :
    CallsD Tryz.prog 73 #[.pointer (some ⟨pc, 0, none⟩)] .returning w fun e u' w' => e = .returned (.tuple #[]) ∧ u' = .returning ∧ w' = w := by
  refine callsD_of_wpS Tryz.func73 rfl fun c₀ cs hu => ?_
  have ta := ta_nil
  apply wpS_seq
  apply wpS_region
  simp [wpOpsS, go_sem, recoverD, hu, Tryz.ntmps73, Exit.thenS, ta]
  apply wpS_seq
  apply wpS_region
  simp [wpOpsS, go_sem, Exit.thenS]
  refine wpS_cond (t := false) (by simp [Act.eval]) ?_
  simp only [Bool.false_eq_true, if_false]
  refine wpS_of_wp (wp_skip ?_)
  cases c₀
  simp_all [bodyPostS, results, Tryz.results73]
theorem VwX.off {p : Nat} {w : World} {a : Option Addr} {cap : Nat} {l : List Bi} (h : VwX p w a cap l) {g : Nat} {x : Int} (hc : w.cell? ⟨g, 0, none⟩ = some (.int .i64 x)) (u : Value) : VwX p (w.setCell ⟨g, 0, none⟩ u) a cap l := by
  obtain ⟨⟨h1, h2, h3, h4⟩, h5⟩ := h
  refine ⟨⟨h1, h2, h3, fun k c hk => ?_⟩, h5⟩
  obtain ⟨g', o, e, hg, hat⟩ := h4 k c hk
  refine ⟨g', o, e, by rw [World.size_setCell]; exact hg, ?_, ?_⟩
  · refine (World.cell?_setCell_other _ _ _ _ (fun e => ?_)).trans hat.1
    have e2 := hat.1
    first
      | rw [e, hc] at e2; cases e2
      | rw [← e, hc] at e2; cases e2
  · refine (World.cell?_setCell_other _ _ _ _ (fun e => ?_)).trans hat.2
    have := congrArg Addr.off e
    simp at this
theorem Xm.off {w0 w : World} {p : Nat} {ga : Option Addr} {gc : Nat} {gs : List Int} {st : St0} (h : Xm w0 p ga gc gs st w) {g : Nat} (hg : g ≠ p) (hlo : w0.heap.size ≤ g) {x : Int} (hc : w.cell? ⟨g, 0, none⟩ = some (.int .i64 x)) (u : Value) : Xm w0 p ga gc gs st (w.setCell ⟨g, 0, none⟩ u) := by
  have e : (w.setCell ⟨g, 0, none⟩ u).heap[p]? = w.heap[p]? := Below.heap_setCell w ⟨g, 0, none⟩ u p (fun e => hg e.symm)
  obtain ⟨a, n, c, h1, h2, h3⟩ := h.b
  exact ⟨h.hB, by rw [World.size_setCell]; exact h.hp, by simp only [World.frozen?_setCell]; exact h.fz,
    ⟨a, n, c, (World.cell?_of_block (w := w) e).trans h1, h2, h3.off hc u⟩, (World.cell?_of_block (w := w) e).trans h.g, (World.cell?_of_block (w := w) e).trans h.f,
    h.bw.setCell (p := ⟨g, 0, none⟩) hlo _, h.hg, h.g3, h.L, h.ok, h.th, h.f0⟩
set_option maxHeartbeats 8000000 in
set_option maxRecDepth 100000 in
theorem run_bad (w0 w : World) (p : Nat) (hB : w0.heap.size ≤ p) (hp : p < w.heap.size) (hw0 : Below w0.heap.size w0 w) (hfz : w.frozen? ⟨p, 0, none⟩ = false ∧ w.frozen? ⟨p, 1, none⟩ = false ∧ w.frozen? ⟨p, 2, none⟩ = false) (ba : Option Addr) (bn bc : Nat) (bs : List Bi) (hbn : bs.length = bn) (hbl : bn ≤ 4194304) (c0 : w.cell? ⟨p, 0, none⟩ = some (.slice ba bn bc)) (hb : VwX p w ba bc bs) (ga : Option Addr) (gc gn : Nat) (gs : List Int) (hgn : gs.length = gn) (hgl : gn ≤ 4194304) (c1 : w.cell? ⟨p, 1, none⟩ = some (.slice ga gn gc)) (hg : V1 w0 ga gc (inL gs)) (f : Int) (c2 : w.cell? ⟨p, 2, none⟩ = some (.int .i64 f))
    (a : Option Addr) (cap n : Nat) (l : List Tk) (hn : l.length = n) (hv : V1 w0 a cap (txL l)) (hl : n ≤ 4194304) (hm : ∀ s ∈ l, s.length ≤ 4194304) (hL : Lib3 w0) (h : meB l bs gs f = false) :
    Calls Tryz.prog 46 #[.pointer (some ⟨p, 0, none⟩), .slice a n cap] w fun e w' => e = .returned (.int .i64 5) ∧ But p w w' := by
  have hmf : ∀ (fn : Fn) (first cap : Array Value) (w : World), (Instr.makeFunc fn first cap).run Tryz.prog w = .ok (.func fn first cap) w := fun _ _ _ _ => rfl
  have N1 := new_of w (.cells #[.int .i64 5] 2)
  have hpc : w.heap.size ≠ p := by omega
  obtain ⟨w1, hw1⟩ : ∃ w1, w1 = w.alloc (.cells #[.int .i64 5] 2) := ⟨_, rfl⟩
  rw [← hw1] at N1
  have B1 := Lib.hid (show Below w.heap.size w w1 by rw [hw1]; exact bel1 w _)
  have PC1 := Lib.hid (show w1.cell? ⟨w.heap.size, 0, none⟩ = some (.int .i64 5) ∧ w1.frozen? ⟨w.heap.size, 0, none⟩ = false ∧ w.heap.size < w1.heap.size from
    ⟨by simp only [World.cell?, N1]; rfl, by simp only [World.frozen?, N1]; rfl, by rw [hw1, World.size_alloc]; omega⟩)
  have HW1 := Lib.hid hw1
  have hb01 : Below w0.heap.size w0 w1 := hw0.trans (B1.out.mono hw0.size)
  have HDO := Lib.hid (T.deedsOf_any w0 w1 hb01 a cap l n hn hv hl hm hL)
  have e1 := B1.out.block p hp
  have X1 := Lib.hid (show w1.cell? ⟨p, 0, none⟩ = some (.slice ba bn bc) ∧ w1.cell? ⟨p, 1, none⟩ = some (.slice ga gn gc) ∧ w1.cell? ⟨p, 2, none⟩ = some (.int .i64 f) from ⟨(World.cell?_of_block (w := w) e1).trans c0, (World.cell?_of_block (w := w) e1).trans c1, (World.cell?_of_block (w := w) e1).trans c2⟩)
  have Z1 := Lib.hid (show w1.frozen? ⟨p, 0, none⟩ = false ∧ w1.frozen? ⟨p, 1, none⟩ = false ∧ w1.frozen? ⟨p, 2, none⟩ = false from ⟨(World.frozen?_of_block (w := w) e1).trans hfz.1, (World.frozen?_of_block (w := w) e1).trans hfz.2.1, (World.frozen?_of_block (w := w) e1).trans hfz.2.2⟩)
  have V1b := Lib.hid (hb.but (But.of B1.out))
  have V1g := Lib.hid (hg.below hb01)
  have hp1 : p < w1.heap.size := Nat.lt_of_lt_of_le hp B1.out.size
  clear N1 e1 c0 c1 c2 hb hfz
  have HF := Lib.hid (fun w => fuelOk_any f w)
  have HBU := Lib.hid (fun (z : World) (hz : Below w.heap.size w z) => (But.of hz : But p w z))
  have BUW := Lib.hid (fun (z : World) (hz : Below w.heap.size w z) => (((But.of hz : But p w z).setNew (p := ⟨w.heap.size, 0, none⟩) (Nat.le_refl _) (.int .i64 5)) : But p w (z.setCell ⟨w.heap.size, 0, none⟩ (.int .i64 5))))
  unfold meB at h
  generalize T.rcR l = tr at *
  generalize rcB l = y1 at *
  have HBO := Lib.hid (fun z (hz : VwI z ba bc bs) => implBins_any z ba bc bs bn hbn hz hbl)
  have HGO := Lib.hid (fun z (hz : V1 z ga gc (inL gs)) => givenOk_any z ga gc gs gn hgn hz hgl)
  generalize okI bs = y2 at *
  generalize thB gs = y3 at *
  generalize inB f 0 400 = y4 at *
  go_enter_defers Tryz.func46, Tryz.ntmps46
  go_wp2_with fail
  rw [← HW1.out]
  clear hmf HW1
  generalize w.heap.size = pc at *
  refine HDO.out.mono ?_; rintro e w2 ⟨b, m, c, rfl, b2, -⟩
  have B2 := Lib.hid (B1.out.trans (b2.mono (Nat.le_of_lt PC1.out.2.2)))
  have PC2 := Lib.hid (show w2.cell? ⟨pc, 0, none⟩ = some (.int .i64 5) ∧ w2.frozen? ⟨pc, 0, none⟩ = false ∧ pc < w2.heap.size from ⟨(World.cell?_of_block (w := w1) (b2.block pc PC1.out.2.2)).trans PC1.out.1, (World.frozen?_of_block (w := w1) (b2.block pc PC1.out.2.2)).trans PC1.out.2.1, Nat.lt_of_lt_of_le PC1.out.2.2 b2.size⟩)
  have X2 := Lib.hid (show w2.cell? ⟨p, 0, none⟩ = some (.slice ba bn bc) ∧ w2.cell? ⟨p, 1, none⟩ = some (.slice ga gn gc) ∧ w2.cell? ⟨p, 2, none⟩ = some (.int .i64 f) from ⟨(World.cell?_of_block (w := w1) (b2.block p hp1)).trans X1.out.1, (World.cell?_of_block (w := w1) (b2.block p hp1)).trans X1.out.2.1, (World.cell?_of_block (w := w1) (b2.block p hp1)).trans X1.out.2.2⟩)
  have Z2 := Lib.hid (show w2.frozen? ⟨p, 0, none⟩ = false ∧ w2.frozen? ⟨p, 1, none⟩ = false ∧ w2.frozen? ⟨p, 2, none⟩ = false from ⟨(World.frozen?_of_block (w := w1) (b2.block p hp1)).trans Z1.out.1, (World.frozen?_of_block (w := w1) (b2.block p hp1)).trans Z1.out.2.1, (World.frozen?_of_block (w := w1) (b2.block p hp1)).trans Z1.out.2.2⟩)
  have V2b := Lib.hid (V1b.out.but (But.of b2))
  have V2g := Lib.hid (V1g.out.below b2)
  have hp2 : p < w2.heap.size := Nat.lt_of_lt_of_le hp1 b2.size
  clear b2
  cases y1
  · go_wp2_with fail
    refine (req_no _ 5).mono ?_; rintro e z ⟨rfl, rfl⟩
    refine leaves_cons (f := 73) (args := #[.pointer (some ⟨pc, 0, none⟩)]) (by simp) (by simp [go_sem]) ?_
    refine (catch_panic pc 5 _ _ PC2.out.1 PC2.out.2.1).mono ?_; rintro e u' w9 ⟨rfl, rfl, rfl⟩
    refine ⟨.int .i64 5, ?_, ?_⟩
    · have hcc := World.cell?_setCell_same' (w := w2) (a := ⟨pc, 0, none⟩) (v := .int .i64 5) (by rw [PC2.out.1]; rfl)
      simp [results, Tryz.results46, go_sem, PC2.out.1]
    · exact ⟨rfl, BUW.out _ B2.out⟩
  · have x2 := X2.out.1
    have x2' := X2.out.2.1
    have x2'' := X2.out.2.2
    go_wp2_with fail
    refine (HBO.out _ V2b.out.1).mono ?_; rintro e w3 ⟨rfl, b3⟩
    have B3 := Lib.hid (B2.out.trans (b3.mono (Nat.le_of_lt PC2.out.2.2)))
    have PC3 := Lib.hid (show w3.cell? ⟨pc, 0, none⟩ = some (.int .i64 5) ∧ w3.frozen? ⟨pc, 0, none⟩ = false ∧ pc < w3.heap.size from ⟨(World.cell?_of_block (w := w2) (b3.block pc PC2.out.2.2)).trans PC2.out.1, (World.frozen?_of_block (w := w2) (b3.block pc PC2.out.2.2)).trans PC2.out.2.1, Nat.lt_of_lt_of_le PC2.out.2.2 b3.size⟩)
    have X3 := Lib.hid (show w3.cell? ⟨p, 0, none⟩ = some (.slice ba bn bc) ∧ w3.cell? ⟨p, 1, none⟩ = some (.slice ga gn gc) ∧ w3.cell? ⟨p, 2, none⟩ = some (.int .i64 f) from ⟨(World.cell?_of_block (w := w2) (b3.block p hp2)).trans X2.out.1, (World.cell?_of_block (w := w2) (b3.block p hp2)).trans X2.out.2.1, (World.cell?_of_block (w := w2) (b3.block p hp2)).trans X2.out.2.2⟩)
    have Z3 := Lib.hid (show w3.frozen? ⟨p, 0, none⟩ = false ∧ w3.frozen? ⟨p, 1, none⟩ = false ∧ w3.frozen? ⟨p, 2, none⟩ = false from ⟨(World.frozen?_of_block (w := w2) (b3.block p hp2)).trans Z2.out.1, (World.frozen?_of_block (w := w2) (b3.block p hp2)).trans Z2.out.2.1, (World.frozen?_of_block (w := w2) (b3.block p hp2)).trans Z2.out.2.2⟩)
    have V3b := Lib.hid (V2b.out.but (But.of b3))
    have V3g := Lib.hid (V2g.out.below b3)
    have hp3 : p < w3.heap.size := Nat.lt_of_lt_of_le hp2 b3.size
    clear b3 x2 x2' x2''
    have x3' := X3.out.2.1
    have x3'' := X3.out.2.2
    cases y2
    · go_wp2_with fail
      refine (req_no _ 5).mono ?_; rintro e z ⟨rfl, rfl⟩
      refine leaves_cons (f := 73) (args := #[.pointer (some ⟨pc, 0, none⟩)]) (by simp) (by simp [go_sem]) ?_
      refine (catch_panic pc 5 _ _ PC3.out.1 PC3.out.2.1).mono ?_; rintro e u' w9 ⟨rfl, rfl, rfl⟩
      refine ⟨.int .i64 5, ?_, ?_⟩
      · have hcc := World.cell?_setCell_same' (w := w3) (a := ⟨pc, 0, none⟩) (v := .int .i64 5) (by rw [PC3.out.1]; rfl)
        simp [results, Tryz.results46, go_sem, PC3.out.1]
      · exact ⟨rfl, BUW.out _ B3.out⟩
    · go_wp2_with fail
      refine (HGO.out _ V3g.out).mono ?_; rintro e w4 ⟨rfl, rfl⟩
      cases y3
      · go_wp2_with fail
        refine (req_no _ 5).mono ?_; rintro e z ⟨rfl, rfl⟩
        refine leaves_cons (f := 73) (args := #[.pointer (some ⟨pc, 0, none⟩)]) (by simp) (by simp [go_sem]) ?_
        refine (catch_panic pc 5 _ _ PC3.out.1 PC3.out.2.1).mono ?_; rintro e u' w9 ⟨rfl, rfl, rfl⟩
        refine ⟨.int .i64 5, ?_, ?_⟩
        · have hcc := World.cell?_setCell_same' (w := w3) (a := ⟨pc, 0, none⟩) (v := .int .i64 5) (by rw [PC3.out.1]; rfl)
          simp [results, Tryz.results46, go_sem, PC3.out.1]
        · exact ⟨rfl, BUW.out _ B3.out⟩
      · go_wp2_with fail
        refine (HF.out _).mono ?_; rintro e w4 ⟨rfl, rfl⟩
        have hy : y4 = false := h
        subst hy
        go_wp2_with fail
        refine (req_no _ 5).mono ?_; rintro e z ⟨rfl, rfl⟩
        refine leaves_cons (f := 73) (args := #[.pointer (some ⟨pc, 0, none⟩)]) (by simp) (by simp [go_sem]) ?_
        refine (catch_panic pc 5 _ _ PC3.out.1 PC3.out.2.1).mono ?_; rintro e u' w9 ⟨rfl, rfl, rfl⟩
        refine ⟨.int .i64 5, ?_, ?_⟩
        · have hcc := World.cell?_setCell_same' (w := w3) (a := ⟨pc, 0, none⟩) (v := .int .i64 5) (by rw [PC3.out.1]; rfl)
          simp [results, Tryz.results46, go_sem, PC3.out.1]
        · exact ⟨rfl, BUW.out _ B3.out⟩
set_option maxHeartbeats 8000000 in
set_option maxRecDepth 100000 in
theorem run_ok (w0 w : World) (p : Nat) (hB : w0.heap.size ≤ p) (hp : p < w.heap.size) (hw0 : Below w0.heap.size w0 w) (hfz : w.frozen? ⟨p, 0, none⟩ = false ∧ w.frozen? ⟨p, 1, none⟩ = false ∧ w.frozen? ⟨p, 2, none⟩ = false) (ba : Option Addr) (bn bc : Nat) (bs : List Bi) (hbn : bs.length = bn) (hbl : bn ≤ 4194304) (c0 : w.cell? ⟨p, 0, none⟩ = some (.slice ba bn bc)) (hb : VwX p w ba bc bs) (ga : Option Addr) (gc gn : Nat) (gs : List Int) (hgn : gs.length = gn) (hgl : gn ≤ 4194304) (c1 : w.cell? ⟨p, 1, none⟩ = some (.slice ga gn gc)) (hg : V1 w0 ga gc (inL gs)) (f : Int) (c2 : w.cell? ⟨p, 2, none⟩ = some (.int .i64 f))
    (a : Option Addr) (cap n : Nat) (l : List Tk) (hn : l.length = n) (hv : V1 w0 a cap (txL l)) (hl : n ≤ 4194304) (hm : ∀ s ∈ l, s.length ≤ 4194304) (hL : Lib3 w0) (h : meB l bs gs f = true) (t : Sl) (hw : t.wf 5) (ht : l = t.fl) :
    Calls Tryz.prog 46 #[.pointer (some ⟨p, 0, none⟩), .slice a n cap] w fun e w' => e = .returned (.int .i64 (t.run gs ⟨0, bs, f⟩).c) ∧ But p w w' ∧ ((t.run gs ⟨0, bs, f⟩).c = 0 → Xm w0 p ga gc gs (t.run gs ⟨0, bs, f⟩) w') := by
  have hmf : ∀ (fn : Fn) (first cap : Array Value) (w : World), (Instr.makeFunc fn first cap).run Tryz.prog w = .ok (.func fn first cap) w := fun _ _ _ _ => rfl
  have N1 := new_of w (.cells #[.int .i64 5] 2)
  have hpc : w.heap.size ≠ p := by omega
  obtain ⟨w1, hw1⟩ : ∃ w1, w1 = w.alloc (.cells #[.int .i64 5] 2) := ⟨_, rfl⟩
  rw [← hw1] at N1
  have B1 := Lib.hid (show Below w.heap.size w w1 by rw [hw1]; exact bel1 w _)
  have PC1 := Lib.hid (show w1.cell? ⟨w.heap.size, 0, none⟩ = some (.int .i64 5) ∧ w1.frozen? ⟨w.heap.size, 0, none⟩ = false ∧ w.heap.size < w1.heap.size from
    ⟨by simp only [World.cell?, N1]; rfl, by simp only [World.frozen?, N1]; rfl, by rw [hw1, World.size_alloc]; omega⟩)
  have HW1 := Lib.hid hw1
  have hb01 : Below w0.heap.size w0 w1 := hw0.trans (B1.out.mono hw0.size)
  have HDO := Lib.hid (T.deedsOf_any w0 w1 hb01 a cap l n hn hv hl hm hL)
  have e1 := B1.out.block p hp
  have X1 := Lib.hid (show w1.cell? ⟨p, 0, none⟩ = some (.slice ba bn bc) ∧ w1.cell? ⟨p, 1, none⟩ = some (.slice ga gn gc) ∧ w1.cell? ⟨p, 2, none⟩ = some (.int .i64 f) from ⟨(World.cell?_of_block (w := w) e1).trans c0, (World.cell?_of_block (w := w) e1).trans c1, (World.cell?_of_block (w := w) e1).trans c2⟩)
  have Z1 := Lib.hid (show w1.frozen? ⟨p, 0, none⟩ = false ∧ w1.frozen? ⟨p, 1, none⟩ = false ∧ w1.frozen? ⟨p, 2, none⟩ = false from ⟨(World.frozen?_of_block (w := w) e1).trans hfz.1, (World.frozen?_of_block (w := w) e1).trans hfz.2.1, (World.frozen?_of_block (w := w) e1).trans hfz.2.2⟩)
  have V1b := Lib.hid (hb.but (But.of B1.out))
  have V1g := Lib.hid (hg.below hb01)
  have hp1 : p < w1.heap.size := Nat.lt_of_lt_of_le hp B1.out.size
  clear N1 e1 c0 c1 c2 hb hfz
  have HF := Lib.hid (fun w => fuelOk_any f w)
  have HBU := Lib.hid (fun (z : World) (hz : Below w.heap.size w z) => (But.of hz : But p w z))
  have hlo : w0.heap.size ≤ w.heap.size := hw0.size
  have BUW := Lib.hid (fun (z : World) (x : Int) (hz : But p w z) => ((hz.setNew (p := ⟨w.heap.size, 0, none⟩) (Nat.le_refl _) (.int .i64 x)) : But p w (z.setCell ⟨w.heap.size, 0, none⟩ (.int .i64 x))))
  have hbd : Bd t.fl := by rw [← ht]; exact ⟨by omega, hm⟩
  have hrc : T.rcR l = t := by rw [ht]; exact T.rc_det hw
  rw [hrc] at HDO
  unfold meB at h
  rw [Bool.and_eq_true, Bool.and_eq_true, Bool.and_eq_true] at h
  obtain ⟨h1, h2, h3, h4⟩ := h
  have HBO := Lib.hid (fun z (hz : VwI z ba bc bs) => implBins_any z ba bc bs bn hbn hz hbl)
  have HGO := Lib.hid (fun z (hz : V1 z ga gc (inL gs)) => givenOk_any z ga gc gs gn hgn hz hgl)
  have hg3 : gs.length = 3 := by unfold thB at h3; rw [Bool.and_eq_true, decide_eq_true_eq] at h3; exact h3.2
  have hf04 : 0 ≤ f ∧ f ≤ 400 := by unfold inB at h4; rw [Bool.and_eq_true, decide_eq_true_eq, decide_eq_true_eq] at h4; exact h4
  obtain rfl : gn = 3 := by omega
  have HXM := Lib.hid (fun (z : World) (hz : w1.heap.size ≤ z.heap.size) (hb : Below w1.heap.size w1 z) (vb : VwX p z ba bc bs) (cc : z.cell? ⟨p, 0, none⟩ = some (.slice ba bn bc) ∧ z.cell? ⟨p, 1, none⟩ = some (.slice ga (3 : Nat) gc) ∧ z.cell? ⟨p, 2, none⟩ = some (.int .i64 f)) (zz : z.frozen? ⟨p, 0, none⟩ = false ∧ z.frozen? ⟨p, 1, none⟩ = false ∧ z.frozen? ⟨p, 2, none⟩ = false) =>
    (⟨hB, Nat.lt_of_lt_of_le hp1 hz, zz, ⟨ba, bn, bc, cc.1, hbn, vb⟩, cc.2.1, cc.2.2, hb01.trans (hb.mono hb01.size), hg, hg3, hL, h2, h3, hf04⟩ : Xm w0 p ga gc gs ⟨0, bs, f⟩ z))
  have HDS := Lib.hid (deedsX_of w0 p ga gc gs w1.heap.size t (Sl.runX w0 p ga gc gs w1.heap.size t hw hbd))
  rw [h1] at HDO
  rw [h2] at HBO
  rw [h3] at HGO
  rw [h4] at HF
  clear hm hv hrc ht hw hbd h1 h2 h3 h4 hf04 hg hg3 hgl hbl hw0 hb01 hL hl hB
  obtain ⟨fin, hfin⟩ : ∃ r, t.run gs ⟨0, bs, f⟩ = r := ⟨_, rfl⟩
  rw [hfin]
  have HFIN := Lib.hid hfin; clear hfin
  go_enter_defers Tryz.func46, Tryz.ntmps46
  go_wp2_with fail
  rw [← HW1.out]
  clear hmf HW1
  generalize w.heap.size = pc at *
  refine HDO.out.mono ?_; rintro e w2 ⟨b, m, c, rfl, b2, hdm⟩
  have DM2 := Lib.hid (hdm (by first | exact trivial | rfl))
  have C2 := Lib.hid b2
  have B2 := Lib.hid (B1.out.trans (b2.mono (Nat.le_of_lt PC1.out.2.2)))
  have PC2 := Lib.hid (show w2.cell? ⟨pc, 0, none⟩ = some (.int .i64 5) ∧ w2.frozen? ⟨pc, 0, none⟩ = false ∧ pc < w2.heap.size from ⟨(World.cell?_of_block (w := w1) (b2.block pc PC1.out.2.2)).trans PC1.out.1, (World.frozen?_of_block (w := w1) (b2.block pc PC1.out.2.2)).trans PC1.out.2.1, Nat.lt_of_lt_of_le PC1.out.2.2 b2.size⟩)
  have X2 := Lib.hid (show w2.cell? ⟨p, 0, none⟩ = some (.slice ba bn bc) ∧ w2.cell? ⟨p, 1, none⟩ = some (.slice ga (3 : Nat) gc) ∧ w2.cell? ⟨p, 2, none⟩ = some (.int .i64 f) from ⟨(World.cell?_of_block (w := w1) (b2.block p hp1)).trans X1.out.1, (World.cell?_of_block (w := w1) (b2.block p hp1)).trans X1.out.2.1, (World.cell?_of_block (w := w1) (b2.block p hp1)).trans X1.out.2.2⟩)
  have Z2 := Lib.hid (show w2.frozen? ⟨p, 0, none⟩ = false ∧ w2.frozen? ⟨p, 1, none⟩ = false ∧ w2.frozen? ⟨p, 2, none⟩ = false from ⟨(World.frozen?_of_block (w := w1) (b2.block p hp1)).trans Z1.out.1, (World.frozen?_of_block (w := w1) (b2.block p hp1)).trans Z1.out.2.1, (World.frozen?_of_block (w := w1) (b2.block p hp1)).trans Z1.out.2.2⟩)
  have V2b := Lib.hid (V1b.out.but (But.of b2))
  have V2g := Lib.hid (V1g.out.below b2)
  have hp2 : p < w2.heap.size := Nat.lt_of_lt_of_le hp1 b2.size
  clear b2 hdm
  have x2 := X2.out.1
  have x2' := X2.out.2.1
  have x2'' := X2.out.2.2
  go_wp2_with fail
  refine (HBO.out _ V2b.out.1).mono ?_; rintro e w3 ⟨rfl, b3⟩
  have C3 := Lib.hid (C2.out.trans (b3.mono C2.out.size))
  have DM3 := Lib.hid (T.DM.but hp1 (But.of b3) DM2.out)
  have B3 := Lib.hid (B2.out.trans (b3.mono (Nat.le_of_lt PC2.out.2.2)))
  have PC3 := Lib.hid (show w3.cell? ⟨pc, 0, none⟩ = some (.int .i64 5) ∧ w3.frozen? ⟨pc, 0, none⟩ = false ∧ pc < w3.heap.size from ⟨(World.cell?_of_block (w := w2) (b3.block pc PC2.out.2.2)).trans PC2.out.1, (World.frozen?_of_block (w := w2) (b3.block pc PC2.out.2.2)).trans PC2.out.2.1, Nat.lt_of_lt_of_le PC2.out.2.2 b3.size⟩)
  have X3 := Lib.hid (show w3.cell? ⟨p, 0, none⟩ = some (.slice ba bn bc) ∧ w3.cell? ⟨p, 1, none⟩ = some (.slice ga (3 : Nat) gc) ∧ w3.cell? ⟨p, 2, none⟩ = some (.int .i64 f) from ⟨(World.cell?_of_block (w := w2) (b3.block p hp2)).trans X2.out.1, (World.cell?_of_block (w := w2) (b3.block p hp2)).trans X2.out.2.1, (World.cell?_of_block (w := w2) (b3.block p hp2)).trans X2.out.2.2⟩)
  have Z3 := Lib.hid (show w3.frozen? ⟨p, 0, none⟩ = false ∧ w3.frozen? ⟨p, 1, none⟩ = false ∧ w3.frozen? ⟨p, 2, none⟩ = false from ⟨(World.frozen?_of_block (w := w2) (b3.block p hp2)).trans Z2.out.1, (World.frozen?_of_block (w := w2) (b3.block p hp2)).trans Z2.out.2.1, (World.frozen?_of_block (w := w2) (b3.block p hp2)).trans Z2.out.2.2⟩)
  have V3b := Lib.hid (V2b.out.but (But.of b3))
  have V3g := Lib.hid (V2g.out.below b3)
  have hp3 : p < w3.heap.size := Nat.lt_of_lt_of_le hp2 b3.size
  clear b3 x2 x2' x2''
  have x3' := X3.out.2.1
  have x3'' := X3.out.2.2
  go_wp2_with fail
  refine (HGO.out _ V3g.out).mono ?_; rintro e w4 ⟨rfl, rfl⟩
  go_wp2_with fail
  refine (HF.out _).mono ?_; rintro e w4 ⟨rfl, rfl⟩
  go_wp2_with fail
  refine (req_yes _ 5).mono ?_; rintro e w4 ⟨rfl, rfl⟩
  have HXX := Lib.hid (HXM.out w3 C3.out.size C3.out V3b.out X3.out Z3.out)
  have HRUN := Lib.hid (HDS.out 6 _ ⟨0, bs, f⟩ w3 rfl hp1 HXX.out DM3.out)
  rw [HFIN.out] at HRUN
  clear x3' x3''
  go_wp2_with fail
  refine HRUN.out.mono ?_; rintro e w4 ⟨b4, h4, k4⟩
  have PC4 := Lib.hid (show w4.cell? ⟨pc, 0, none⟩ = some (.int .i64 5) ∧ w4.frozen? ⟨pc, 0, none⟩ = false ∧ pc < w4.heap.size from ⟨(b4.cell (p := ⟨pc, 0, none⟩) PC3.out.2.2 hpc).trans PC3.out.1, (b4.frozen (p := ⟨pc, 0, none⟩) PC3.out.2.2 hpc).trans PC3.out.2.1, Nat.lt_of_lt_of_le PC3.out.2.2 b4.size⟩)
  have BU4 := Lib.hid ((HBU.out _ B3.out).trans b4)
  by_cases hz : fin.c = 0
  · obtain ⟨rfl, x4⟩ := h4 hz
    have X4 := Lib.hid x4
    have XN := Lib.hid (fun x => X4.out.off (g := pc) hpc hlo PC4.out.1 (.int .i64 x))
    have pc4 := PC4.out.1
    have pf4 := PC4.out.2.1
    clear b4 h4 k4 x4
    go_wp2_with fail
    refine leaves_cons (f := 73) (args := #[.pointer (some ⟨pc, 0, none⟩)]) (by simp) (by simp [go_sem]) ?_
    refine (catch_idle pc _).mono ?_; rintro e u' w9 ⟨rfl, rfl, rfl⟩
    refine ⟨.int .i64 fin.c, ?_, ?_⟩
    · rw [hz]; simp [results, Tryz.results46, go_sem, PC4.out.1]
    · exact ⟨rfl, BUW.out _ _ BU4.out, fun _ => XN.out 0⟩
  · obtain rfl := k4 hz
    refine leaves_cons (f := 73) (args := #[.pointer (some ⟨pc, 0, none⟩)]) (by simp) (by simp [go_sem]) ?_
    refine (catch_panic pc fin.c _ _ PC4.out.1 PC4.out.2.1).mono ?_; rintro e u' w9 ⟨rfl, rfl, rfl⟩
    refine ⟨.int .i64 fin.c, ?_, ?_⟩
    · have hcc := World.cell?_setCell_same' (w := w4) (a := ⟨pc, 0, none⟩) (v := .int .i64 fin.c) (by rw [PC4.out.1]; rfl)
      simp [results, Tryz.results46, go_sem, PC4.out.1]
    · exact ⟨rfl, BUW.out _ _ BU4.out, fun e => absurd e hz⟩
set_option maxHeartbeats 2000000 in
set_option maxRecDepth 100000 in
theorem cloneB_any (w : World) (a : Option Addr) (cap : Nat) (l : List Bi) (n : Nat) (hn : l.length = n) (hv : VwI w a cap l) (hl : n ≤ 4194304) :
    Calls Tryz.prog 47 #[.slice a n cap] w fun e w' => ∃ v, e = .returned v ∧ OwI w.heap.size w' v l ∧ Below w.heap.size w w' := by
  subst hn
  have hT : Tryz.prog.underlying 25 = some (.slice 44) := Tryz.underlying25
  have hq : ∀ w, (binOp .eql 25 (.slice a l.length cap) (.slice none 0 0)).run Tryz.prog w = .ok (.bool a.isNone) w := fun w => Lib.run_eql_slice_nil w _ _ a l.length cap 0 0 hT
  cases a with
  | none =>
    have hc := hv.2.2.1 rfl
    have hm : l = [] := List.length_eq_zero_iff.1 (by have := hv.1; omega)
    subst hm hc
    replace hq : ∀ w, (binOp .eql 25 (.slice none 0 0) (.slice none 0 0)).run Tryz.prog w = .ok (.bool true) w := hq
    go_enter Tryz.func47, Tryz.ntmps47
    go_wp2_with fail
    go_ret
    exact ⟨_, rfl, OwI.nothing _ _, Below.refl _ _⟩
  | some ad =>
    have HV := Lib.hid hv; clear hv
    replace hq : ∀ w, (binOp .eql 25 (.slice (some ad) l.length cap) (.slice none 0 0)).run Tryz.prog w = .ok (.bool false) w := hq
    go_enter Tryz.func47, Tryz.ntmps47
    go_wp2_with (first
      | (at_builtin; refine append_binsT rfl (.tmp 5) (.tmp 6) 25 hT rfl (base := w.heap.size) (l := []) (m := l) rfl rfl rfl (OwI.start (Nat.le_refl _)) (HV.out.below (bel1 _ _)) (by simp; omega) (by simp) ?_; intro v1 w1 hown1 hgrow1))
    go_ret
    exact ⟨_, rfl, hown1, (bel1 w _).grown hgrow1 (by simp) (fun j hj => OwI.lt (OwI.start (Nat.le_refl _)) j hj)⟩
end Go.Proofs.YtfnnoehpahdgcaaGreatDoor.Cl
namespace Go.Proofs.YtfnnoehpahdgcaaGreatDoor.Cl
set_option linter.unusedVariables false
open Go.RowKit Wd Rp Cu Kp
def meV (l : List Tk) (bs : List Bi) (gs : List Int) (f : Int) : St0 := if meB l bs gs f = true then (T.rcR l).end_ gs bs f else ⟨5, bs, 0⟩
theorem meV_no {l : List Tk} {bs : List Bi} {gs : List Int} {f : Int} (h : meB l bs gs f = false) : meV l bs gs f = ⟨5, bs, 0⟩ := by unfold meV; rw [h]; rfl
theorem meB_tree {l : List Tk} {bs : List Bi} {gs : List Int} {f : Int} (h : meB l bs gs f = true) : ∃ t : Sl, t.wf 5 ∧ l = t.fl ∧ meV l bs gs f = t.end_ gs bs f := by
  have h1 : rcB l = true := by unfold meB at h; rw [Bool.and_eq_true] at h; exact h.1
  obtain ⟨t, hw, ht⟩ := rc_tree h1
  refine ⟨t, hw, ht, ?_⟩
  unfold meV
  rw [if_pos h, ht, T.rc_det hw]
theorem meB_gn {l : List Tk} {bs : List Bi} {gs : List Int} {f : Int} (h : meB l bs gs f = true) : gs.length = 3 := by
  unfold meB at h
  rw [Bool.and_eq_true, Bool.and_eq_true, Bool.and_eq_true] at h
  exact thB_len h.2.2.1
theorem specMeans_any (w : World) (a : Option Addr) (cap : Nat) (l : List Tk) (n : Nat) (hn : l.length = n) (hl : n ≤ 4194304) (hm : ∀ s ∈ l, s.length ≤ 4194304) (hv : V1 w a cap (txL l)) (ba : Option Addr) (bc bn : Nat) (bs : List Bi) (hbn : bs.length = bn) (hb : VwI w ba bc bs) (hbl : bn ≤ 4194304) (ga : Option Addr) (gc gn : Nat) (gs : List Int) (hgn : gs.length = gn) (hgl : gn ≤ 4194304) (hg : V1 w ga gc (inL gs)) (f : Int) (hbm : ∀ c ∈ bs, c.n.size ≤ 9223372036854775806) :
    Calls Tryz.prog 13 #[.slice a n cap, .slice ba bn bc, .slice ga gn gc, .int .i64 f] w (EndP w.heap.size (meV l bs gs f) w) := by
  cases h : meB l bs gs f with
  | false => rw [meV_no h]; exact specMeans_bad w a cap l n hn hl hm hv ba bc bn bs hbn hb hbl hbm ga gc gn gs hgn hgl hg f h
  | true =>
    obtain ⟨t, hw, ht, e⟩ := meB_tree h
    have hg3 := meB_gn h
    obtain rfl : gn = 3 := by omega
    rw [e]
    exact specMeans_ok w a cap l n hn hl hm hv ba bc bn bs hbn hb hbm ga gc gs hg f h t hw ht
set_option maxHeartbeats 8000000 in
set_option maxRecDepth 100000 in
theorem implMeans_bad (w : World) (a : Option Addr) (cap : Nat) (l : List Tk) (n : Nat) (hn : l.length = n) (hl : n ≤ 4194304) (hm : ∀ s ∈ l, s.length ≤ 4194304) (hv : V1 w a cap (txL l)) (ba : Option Addr) (bc bn : Nat) (bs : List Bi) (hbn : bs.length = bn) (hb : VwI w ba bc bs) (hbl : bn ≤ 4194304) (ga : Option Addr) (gc gn : Nat) (gs : List Int) (hgn : gs.length = gn) (hgl : gn ≤ 4194304) (hg : V1 w ga gc (inL gs)) (f : Int) (hL : Lib3 w) (h : meB l bs gs f = false) :
    Calls Tryz.prog 9 #[.slice a n cap, .slice ba bn bc, .slice ga gn gc, .int .i64 f] w (EndP w.heap.size ⟨5, bs, 0⟩ w) := by
  have hb1 := bel1 w (.cells #[.int .i64 0, .slice none 0 0, .int .i64 0] 30)
  have hb2 := bel1 (w.alloc (.cells #[.int .i64 0, .slice none 0 0, .int .i64 0] 30)) (.cells #[.slice ba bn bc, .slice ga gn gc, .int .i64 f] 67)
  have hbb := hb1.trans (hb2.mono hb1.size)
  have N1 := Tri.made (.int .i64 0) (.slice none 0 0) (.int .i64 0) w 30
  have N2 := Tri.made (.slice ba bn bc) (.slice ga gn gc) (.int .i64 f) (w.alloc (.cells #[.int .i64 0, .slice none 0 0, .int .i64 0] 30)) 67
  have hz1 : (w.alloc (.cells #[.int .i64 0, .slice none 0 0, .int .i64 0] 30)).heap.size = w.heap.size + 1 := World.size_alloc _ _
  have T1 := Lib.hid (N1.below hb2 N1.2.2)
  rw [hz1] at N2
  have VX := hb.below hbb
  have hvx : VwX (w.heap.size + 1) ((w.alloc (.cells #[.int .i64 0, .slice none 0 0, .int .i64 0] 30)).alloc (.cells #[.slice ba bn bc, .slice ga gn gc, .int .i64 f] 67)) ba bc bs := ⟨VX, fun k c hk g o e => by
    obtain ⟨g', o', e', hg', -⟩ := hb.2.2.2 k c hk
    rw [e] at e'; cases e'; omega⟩
  have HR := Lib.hid (run_bad w _ (w.heap.size + 1) (Nat.le_succ _) N2.2.2 hbb N2.2.1 ba bn bc bs hbn hbl N2.1.1 hvx ga gc gn gs hgn hgl N2.1.2.1 hg f N2.1.2.2 a cap n l hn hv hl hm hL h)
  have HBW := Lib.hid (fun (z : World) (h : But (w.heap.size + 1) ((w.alloc (.cells #[.int .i64 0, .slice none 0 0, .int .i64 0] 30)).alloc (.cells #[.slice ba bn bc, .slice ga gn gc, .int .i64 f] 67)) z) => (show Below w.heap.size w z from hbb.trans (h.below (Nat.le_succ _) (by rw [World.size_alloc, hz1]; omega))))
  have HVX := Lib.hid hvx
  have HN2 := Lib.hid N2
  have heb : w.heap.size ≠ w.heap.size + 1 := by omega
  obtain ⟨pp, hpp⟩ : ∃ pp, w.heap.size + 1 = pp := ⟨_, rfl⟩
  rw [hpp] at HR HBW HVX HN2 heb
  clear hb1 hb2 hbb N1 N2 VX hvx hb hv hg hm
  go_enter Tryz.func9, Tryz.ntmps9
  go_wp2_with fail
  try rw [hz1, hpp]
  clear hz1 hpp
  generalize w.heap.size = eb at *
  generalize (w.alloc (.cells #[.int .i64 0, .slice none 0 0, .int .i64 0] 30)).alloc (.cells #[.slice ba bn bc, .slice ga gn gc, .int .i64 f] 67) = w2 at *
  refine HR.out.mono ?_; rintro e w3 ⟨rfl, bu3⟩
  have B3 := Lib.hid (HBW.out _ bu3)
  have T3 := Lib.hid (show Tri eb (.int .i64 0) (.slice none 0 0) (.int .i64 0) w3 from by
    have e := bu3.block eb T1.out.2.2 heb
    obtain ⟨⟨h0, h1, h2⟩, ⟨f0, f1, f2⟩, hl⟩ := T1.out
    exact ⟨⟨(World.cell?_of_block (w := w2) e).trans h0, (World.cell?_of_block (w := w2) e).trans h1, (World.cell?_of_block (w := w2) e).trans h2⟩, ⟨(World.frozen?_of_block (w := w2) e).trans f0, (World.frozen?_of_block (w := w2) e).trans f1, (World.frozen?_of_block (w := w2) e).trans f2⟩, Nat.lt_of_lt_of_le hl bu3.size⟩)
  have VB3 := Lib.hid (show VwI w3 ba bc bs from (HVX.out.but bu3).1)
  clear bu3
  go_wp2_with fail
  refine (cloneB_any w3 ba bc bs bn hbn VB3.out hbl).mono ?_; rintro e w4 ⟨v4, rfl, o4, b4⟩
  obtain ⟨va4, vc4, rfl, -⟩ := o4.view
  rw [hbn] at o4 ⊢
  have T4 := Lib.hid (T3.out.below b4 T3.out.2.2)
  have O9 := Lib.hid ((OwI.put3 o4 T3.out.2.2 (x := .int .i64 5) (y := .slice va4 bn vc4) (z := .int .i64 0)).mono (Nat.le_of_lt T3.out.2.2))
  have B9 := Lib.hid (put3_below (q := eb) (x := .int .i64 5) (y := .slice va4 bn vc4) (z := .int .i64 0) (B3.out.trans (b4.mono (Nat.le_of_lt T3.out.2.2))) (Nat.le_refl _))
  obtain ⟨⟨q0, q1, q2⟩, ⟨r0, r1, r2⟩, r3⟩ := T4.out
  obtain ⟨⟨p0, p1, p2⟩, -, -⟩ := T4.out.put3 (x' := .int .i64 5) (y' := .slice va4 bn vc4) (z' := .int .i64 0)
  clear o4 b4
  go_wp2_with fail
  refine bodyPost_ret (v := .agg #[.int .i64 5, .slice va4 bn vc4, .int .i64 0]) (by simp only [put3] at p0 p1 p2; simp [results, Tryz.results9, go_sem, p0, p1, p2]) rfl ⟨_, rfl, O9.out, B9.out⟩
set_option maxHeartbeats 8000000 in
set_option maxRecDepth 100000 in
theorem implMeans_ok (w : World) (a : Option Addr) (cap : Nat) (l : List Tk) (n : Nat) (hn : l.length = n) (hl : n ≤ 4194304) (hm : ∀ s ∈ l, s.length ≤ 4194304) (hv : V1 w a cap (txL l)) (ba : Option Addr) (bc bn : Nat) (bs : List Bi) (hbn : bs.length = bn) (hb : VwI w ba bc bs) (hbl : bn ≤ 4194304) (ga : Option Addr) (gc gn : Nat) (gs : List Int) (hgn : gs.length = gn) (hgl : gn ≤ 4194304) (hg : V1 w ga gc (inL gs)) (f : Int) (hL : Lib3 w) (h : meB l bs gs f = true) (t : Sl) (hw : t.wf 5) (ht : l = t.fl) :
    Calls Tryz.prog 9 #[.slice a n cap, .slice ba bn bc, .slice ga gn gc, .int .i64 f] w (EndP w.heap.size (t.end_ gs bs f) w) := by
  have hb1 := bel1 w (.cells #[.int .i64 0, .slice none 0 0, .int .i64 0] 30)
  have hb2 := bel1 (w.alloc (.cells #[.int .i64 0, .slice none 0 0, .int .i64 0] 30)) (.cells #[.slice ba bn bc, .slice ga gn gc, .int .i64 f] 67)
  have hbb := hb1.trans (hb2.mono hb1.size)
  have N1 := Tri.made (.int .i64 0) (.slice none 0 0) (.int .i64 0) w 30
  have N2 := Tri.made (.slice ba bn bc) (.slice ga gn gc) (.int .i64 f) (w.alloc (.cells #[.int .i64 0, .slice none 0 0, .int .i64 0] 30)) 67
  have hz1 : (w.alloc (.cells #[.int .i64 0, .slice none 0 0, .int .i64 0] 30)).heap.size = w.heap.size + 1 := World.size_alloc _ _
  have T1 := Lib.hid (N1.below hb2 N1.2.2)
  rw [hz1] at N2
  have VX := hb.below hbb
  have hvx : VwX (w.heap.size + 1) ((w.alloc (.cells #[.int .i64 0, .slice none 0 0, .int .i64 0] 30)).alloc (.cells #[.slice ba bn bc, .slice ga gn gc, .int .i64 f] 67)) ba bc bs := ⟨VX, fun k c hk g o e => by
    obtain ⟨g', o', e', hg', -⟩ := hb.2.2.2 k c hk
    rw [e] at e'; cases e'; omega⟩
  have HR := Lib.hid (run_ok w _ (w.heap.size + 1) (Nat.le_succ _) N2.2.2 hbb N2.2.1 ba bn bc bs hbn hbl N2.1.1 hvx ga gc gn gs hgn hgl N2.1.2.1 hg f N2.1.2.2 a cap n l hn hv hl hm hL h t hw ht)
  have HBW := Lib.hid (fun (z : World) (h : But (w.heap.size + 1) ((w.alloc (.cells #[.int .i64 0, .slice none 0 0, .int .i64 0] 30)).alloc (.cells #[.slice ba bn bc, .slice ga gn gc, .int .i64 f] 67)) z) => (show Below w.heap.size w z from hbb.trans (h.below (Nat.le_succ _) (by rw [World.size_alloc, hz1]; omega))))
  have HVX := Lib.hid hvx
  have HN2 := Lib.hid N2
  have heb : w.heap.size ≠ w.heap.size + 1 := by omega
  obtain ⟨pp, hpp⟩ : ∃ pp, w.heap.size + 1 = pp := ⟨_, rfl⟩
  rw [hpp] at HR HBW HVX HN2 heb
  clear hb1 hb2 hbb N1 N2 VX hvx hb hv hg hm
  obtain ⟨r, hr⟩ : ∃ r, t.end_ gs bs f = r := ⟨_, rfl⟩
  rw [hr]
  unfold Sl.end_ at hr
  obtain ⟨fin, hfin⟩ : ∃ r, t.run gs ⟨0, bs, f⟩ = r := ⟨_, rfl⟩
  rw [hfin] at hr HR
  have HRR := Lib.hid hr
  clear hr hfin hw ht h
  go_enter Tryz.func9, Tryz.ntmps9
  go_wp2_with fail
  try rw [hz1, hpp]
  clear hz1 hpp
  generalize w.heap.size = eb at *
  generalize (w.alloc (.cells #[.int .i64 0, .slice none 0 0, .int .i64 0] 30)).alloc (.cells #[.slice ba bn bc, .slice ga gn gc, .int .i64 f] 67) = w2 at *
  refine HR.out.mono ?_; rintro e w3 ⟨rfl, bu3, hx3⟩
  have B3 := Lib.hid (HBW.out _ bu3)
  have T3 := Lib.hid (show Tri eb (.int .i64 0) (.slice none 0 0) (.int .i64 0) w3 from by
    have e := bu3.block eb T1.out.2.2 heb
    obtain ⟨⟨h0, h1, h2⟩, ⟨f0, f1, f2⟩, hl⟩ := T1.out
    exact ⟨⟨(World.cell?_of_block (w := w2) e).trans h0, (World.cell?_of_block (w := w2) e).trans h1, (World.cell?_of_block (w := w2) e).trans h2⟩, ⟨(World.frozen?_of_block (w := w2) e).trans f0, (World.frozen?_of_block (w := w2) e).trans f1, (World.frozen?_of_block (w := w2) e).trans f2⟩, Nat.lt_of_lt_of_le hl bu3.size⟩)
  have VB3 := Lib.hid (show VwI w3 ba bc bs from (HVX.out.but bu3).1)
  clear bu3
  by_cases hz : fin.c = 0
  · have X3 := Lib.hid (hx3 hz)
    have er : r = ⟨0, fin.b, fin.f⟩ := by
      have := HRR.out
      rw [if_pos hz] at this
      rw [← this, ← hz]
    subst er
    rw [hz]
    obtain ⟨xa, xn, xc, x0, hxn, hxv⟩ := X3.out.b
    have x2 := X3.out.f
    have xv := Lib.hid (hxv.1.below (Below.refl _ w3).drew)
    clear hxv hx3 hz
    go_wp2_with fail
    refine wp_region_held_drew (S := fun z => z.cell? ⟨pp, 0, none⟩ = some (.slice xa xn xc) ∧ z.cell? ⟨pp, 2, none⟩ = some (.int .i64 fin.f)) (by kernel_rfl) ⟨x0, x2⟩ (fun hHeld => ?_)
    refine tkI (i := 0) (v := ?v0m) rfl (Or.inl ⟨by rfl, ?hy0m⟩) ?rest0m
    case hy0m => (intro zz hSw; (try dsimp only at hSw); go_simp; (try with_reducible rfl))
    change wpAnyH _ _ _ _ _ _ _ (Act.put _ (some 23) _) _
    simp only [Act.put, List.setIfInBounds_toArray, List.set_cons_zero, List.set_cons_succ]
    refine tkI (i := 1) (v := ?v1m) rfl (Or.inl ⟨by rfl, ?hy1m⟩) ?rest1m
    case hy1m => (intro zz hSw; (try dsimp only at hSw); go_simp; (try with_reducible rfl))
    change wpAnyH _ _ _ _ _ _ _ (Act.put _ (some 24) _) _
    simp only [Act.put, List.setIfInBounds_toArray, List.set_cons_zero, List.set_cons_succ]
    refine tkI (i := 3) (v := ?v3m) rfl (Or.inl ⟨by rfl, ?hy3m⟩) ?rest3m
    case hy3m => (intro zz hSw; (try dsimp only at hSw); go_simp; (try with_reducible rfl))
    change wpAnyH _ _ _ _ _ _ _ (Act.put _ (some 26) _) _
    simp only [Act.put, List.setIfInBounds_toArray, List.set_cons_zero, List.set_cons_succ]
    refine tkI (i := 4) (v := ?v4m) rfl (Or.inl ⟨by rfl, ?hy4m⟩) ?rest4m
    case hy4m => (intro zz hSw; (try dsimp only at hSw); go_simp; (try with_reducible rfl))
    change wpAnyH _ _ _ _ _ _ _ (Act.put _ (some 27) _) _
    simp only [Act.put, List.setIfInBounds_toArray, List.set_cons_zero, List.set_cons_succ]
    refine wpAnyH_ready (rs := [2]) (by kernel_rfl) (by simp) (AllReadyH.cons rfl (fun K hK => ?_) (AllReadyH.nil))
    go_simp
    refine (cloneB_any w3.drew xa xc fin.b xn hxn xv.out (by have := X3.out.len; omega)).mono ?_; rintro e w4 ⟨v4, rfl, o4, b4'⟩
    have b4 : Below w3.heap.size w3 w4 := (Below.refl _ w3).drew.trans b4'
    obtain ⟨va4, vc4, rfl, -⟩ := o4.view
    rw [hxn] at o4 ⊢
    have T4 := Lib.hid (T3.out.below b4 T3.out.2.2)
    have O9 := Lib.hid ((OwI.put3 o4 T3.out.2.2 (x := .int .i64 0) (y := .slice va4 xn vc4) (z := .int .i64 fin.f)).mono (Nat.le_of_lt T3.out.2.2))
    have B9 := Lib.hid (put3_below (q := eb) (x := .int .i64 0) (y := .slice va4 xn vc4) (z := .int .i64 fin.f) (B3.out.trans (b4.mono (Nat.le_of_lt T3.out.2.2))) (Nat.le_refl _))
    have P0 := (World.cell?_of_block (w := w3) (a := ⟨pp, 0, none⟩) (b4.block pp X3.out.hp)).trans hHeld.1
    have P2 := (World.cell?_of_block (w := w3) (a := ⟨pp, 2, none⟩) (b4.block pp X3.out.hp)).trans hHeld.2
    obtain ⟨⟨q0, q1, q2⟩, ⟨r0, r1, r2⟩, r3⟩ := T4.out
    refine hK.out _ _ ⟨P0, P2⟩ (fun hHeld => ?_)
    clear hK K o4 b4 b4'
    refine tkI (i := 5) (v := ?v5m) rfl (Or.inl ⟨by rfl, ?hy5m⟩) ?rest5m
    case hy5m => (intro zz hSw; (try dsimp only at hSw); go_simp; (try with_reducible rfl))
    change wpAnyH _ _ _ _ _ _ _ (Act.put _ (some 28) _) _
    simp only [Act.put, List.setIfInBounds_toArray, List.set_cons_zero, List.set_cons_succ]
    refine wpAnyH_ready (rs := [6]) (by kernel_rfl) (by simp) (AllReadyH.cons rfl (fun K hK => ?_) (AllReadyH.nil))
    go_simp
    refine hK.out _ _ ⟨put3_cell (q := eb) (fun e => heb e.symm) P0, put3_cell (q := eb) (fun e => heb e.symm) P2⟩ (fun hHeld => ?_)
    clear hK K
    refine wpAnyH_done (by kernel_rfl) ?_ _
    obtain ⟨⟨p0, p1, p2⟩, -, -⟩ := T4.out.put3 (x' := .int .i64 0) (y' := .slice va4 xn vc4) (z' := .int .i64 fin.f)
    clear hHeld
    go_wp2_with fail
    refine bodyPost_ret (v := .agg #[.int .i64 0, .slice va4 xn vc4, .int .i64 fin.f]) (by simp only [put3] at p0 p1 p2; simp [results, Tryz.results9, go_sem, p0, p1, p2]) rfl ⟨_, rfl, O9.out, B9.out⟩
  · have er : r = ⟨fin.c, bs, 0⟩ := by
      have := HRR.out
      rw [if_neg hz] at this
      exact this.symm
    subst er
    have t1 : (fin.c != 0) = true := by simpa using hz
    clear hx3
    go_wp2_with fail
    refine (cloneB_any w3 ba bc bs bn hbn VB3.out hbl).mono ?_; rintro e w4 ⟨v4, rfl, o4, b4⟩
    obtain ⟨va4, vc4, rfl, -⟩ := o4.view
    rw [hbn] at o4 ⊢
    have T4 := Lib.hid (T3.out.below b4 T3.out.2.2)
    have O9 := Lib.hid ((OwI.put3 o4 T3.out.2.2 (x := .int .i64 fin.c) (y := .slice va4 bn vc4) (z := .int .i64 0)).mono (Nat.le_of_lt T3.out.2.2))
    have B9 := Lib.hid (put3_below (q := eb) (x := .int .i64 fin.c) (y := .slice va4 bn vc4) (z := .int .i64 0) (B3.out.trans (b4.mono (Nat.le_of_lt T3.out.2.2))) (Nat.le_refl _))
    obtain ⟨⟨q0, q1, q2⟩, ⟨r0, r1, r2⟩, r3⟩ := T4.out
    obtain ⟨⟨p0, p1, p2⟩, -, -⟩ := T4.out.put3 (x' := .int .i64 fin.c) (y' := .slice va4 bn vc4) (z' := .int .i64 0)
    clear o4 b4
    go_wp2_with fail
    refine bodyPost_ret (v := .agg #[.int .i64 fin.c, .slice va4 bn vc4, .int .i64 0]) (by simp only [put3] at p0 p1 p2; simp [results, Tryz.results9, go_sem, p0, p1, p2]) rfl ⟨_, rfl, O9.out, B9.out⟩
theorem implMeans_any (w : World) (a : Option Addr) (cap : Nat) (l : List Tk) (n : Nat) (hn : l.length = n) (hl : n ≤ 4194304) (hm : ∀ s ∈ l, s.length ≤ 4194304) (hv : V1 w a cap (txL l)) (ba : Option Addr) (bc bn : Nat) (bs : List Bi) (hbn : bs.length = bn) (hb : VwI w ba bc bs) (hbl : bn ≤ 4194304) (ga : Option Addr) (gc gn : Nat) (gs : List Int) (hgn : gs.length = gn) (hgl : gn ≤ 4194304) (hg : V1 w ga gc (inL gs)) (f : Int) (hL : Lib3 w) :
    Calls Tryz.prog 9 #[.slice a n cap, .slice ba bn bc, .slice ga gn gc, .int .i64 f] w (EndP w.heap.size (meV l bs gs f) w) := by
  cases h : meB l bs gs f with
  | false => rw [meV_no h]; exact implMeans_bad w a cap l n hn hl hm hv ba bc bn bs hbn hb hbl ga gc gn gs hgn hgl hg f hL h
  | true =>
    obtain ⟨t, hw, ht, e⟩ := meB_tree h
    rw [e]
    exact implMeans_ok w a cap l n hn hl hm hv ba bc bn bs hbn hb hbl ga gc gn gs hgn hgl hg f hL h t hw ht
end Go.Proofs.YtfnnoehpahdgcaaGreatDoor.Cl
namespace Go.Proofs.YtfnnoehpahdgcaaGreatDoor.Cl
set_option linter.unusedVariables false
open Go.RowKit Wd Rp Cu Kp
theorem meB_parts {l : List Tk} {bs : List Bi} {gs : List Int} {f : Int} (h : meB l bs gs f = true) : rcB l = true ∧ okI bs = true ∧ thB gs = true ∧ 0 ≤ f ∧ f ≤ 400 := by
  unfold meB at h
  rw [Bool.and_eq_true, Bool.and_eq_true, Bool.and_eq_true] at h
  obtain ⟨h1, h2, h3, h4⟩ := h
  unfold inB at h4
  rw [Bool.and_eq_true, decide_eq_true_eq, decide_eq_true_eq] at h4
  exact ⟨h1, h2, h3, h4.1, h4.2⟩
theorem meB_of {l : List Tk} {bs : List Bi} {gs : List Int} {f : Int} (h1 : rcB l = true) (h2 : okI bs = true) (h3 : thB gs = true) (h4 : 0 ≤ f ∧ f ≤ 400) : meB l bs gs f = true := by
  unfold meB inB
  rw [h1, h2, h3, decide_eq_true h4.1, decide_eq_true h4.2]; rfl
theorem wf_ok {t : Sl} (hw : t.wf 5) : t.ok := Sl.wf_all t hw
theorem end_c {t : Sl} {gs : List Int} {bs : List Bi} {f : Int} : (t.end_ gs bs f).c = (t.run gs ⟨0, bs, f⟩).c := by
  unfold Sl.end_
  split <;> rfl
theorem end_0 {t : Sl} {gs : List Int} {bs : List Bi} {f : Int} (h : (t.run gs ⟨0, bs, f⟩).c = 0) : t.end_ gs bs f = t.run gs ⟨0, bs, f⟩ := if_pos h
theorem end_1 {t : Sl} {gs : List Int} {bs : List Bi} {f : Int} (h : (t.run gs ⟨0, bs, f⟩).c ≠ 0) : t.end_ gs bs f = ⟨(t.run gs ⟨0, bs, f⟩).c, bs, 0⟩ := if_neg h
theorem meV_okB {l : List Tk} {bs : List Bi} {gs : List Int} {f : Int} (h : meB l bs gs f = true) : okI (meV l bs gs f).b = true := by
  obtain ⟨h1, h2, h3, h4⟩ := meB_parts h
  obtain ⟨t, hw, ht, e⟩ := meB_tree h
  rw [e]
  by_cases h0 : (t.run gs ⟨0, bs, f⟩).c = 0
  · rw [end_0 h0]; exact Sl.run_ok h3 t ⟨0, bs, f⟩ (wf_ok hw) h2
  · rw [end_1 h0]; exact h2
theorem meV_len {l : List Tk} {bs : List Bi} {gs : List Int} {f : Int} {n : Nat} (hb : bs.length ≤ n) (h12 : 12 ≤ n) : (meV l bs gs f).b.length ≤ n := by
  cases hm : meB l bs gs f with
  | false => rw [meV_no hm]; exact hb
  | true => have := (okI_iff.1 (meV_okB hm)).1; omega
theorem meV_good {l : List Tk} {bs : List Bi} {gs : List Int} {f : Int} (h : (meV l bs gs f).c ≠ 5) : meB l bs gs f = true := by
  cases hm : meB l bs gs f with
  | false => rw [meV_no hm] at h; exact absurd rfl h
  | true => rfl
end Go.Proofs.YtfnnoehpahdgcaaGreatDoor.Cl
namespace Go.Proofs.YtfnnoehpahdgcaaGreatDoor.Cl
set_option linter.unusedVariables false
open Go.RowKit Wd Rp Cu Kp
def Zb (n : Nat) (w : World) : Prop := w.cell? ⟨n, 0, none⟩ = some (.string ⟨#[]⟩) ∧ w.cell? ⟨n, 1, none⟩ = some (.string ⟨#[]⟩) ∧ w.cell? ⟨n, 2, none⟩ = some (.int .i64 0) ∧ w.frozen? ⟨n, 0, none⟩ = false ∧ w.frozen? ⟨n, 1, none⟩ = false ∧ w.frozen? ⟨n, 2, none⟩ = false ∧ n < w.heap.size
theorem Zb.made (w : World) (T : Nat) : Zb w.heap.size (w.alloc (.cells #[.string ⟨#[]⟩, .string ⟨#[]⟩, .int .i64 0] T)) := by
  have hp : (w.alloc (.cells #[.string ⟨#[]⟩, .string ⟨#[]⟩, .int .i64 0] T)).heap[w.heap.size]? = some (.cells #[.string ⟨#[]⟩, .string ⟨#[]⟩, .int .i64 0] T) := by show (w.heap.push _)[w.heap.size]? = _; simp
  refine ⟨?_, ?_, ?_, ?_, ?_, ?_, by simp⟩ <;> (first | (simp only [World.cell?, hp]; rfl) | (simp only [World.frozen?, hp]; rfl))
theorem Zb.next {n : Nat} {w w' : World} (h : Zb n w) (hb : Below w.heap.size w w') : Zb n w' := by
  obtain ⟨h0, h1, h2, f0, f1, f2, h3⟩ := h
  have e : w'.heap[n]? = w.heap[n]? := hb.block n h3
  exact ⟨(World.cell?_of_block (w := w) e).trans h0, (World.cell?_of_block (w := w) e).trans h1, (World.cell?_of_block (w := w) e).trans h2, (World.frozen?_of_block (w := w) e).trans f0, (World.frozen?_of_block (w := w) e).trans f1, (World.frozen?_of_block (w := w) e).trans f2, Nat.lt_of_lt_of_le h3 hb.size⟩
def DrawsT (B b : Nat) (w : World) (n : Nat) (e : Ending) (w' : World) : Prop := ∃ t : ByteArray, e = .returned (.string t) ∧ t.size ≤ n ∧ Cur B b w' ∧ But b w w'
theorem pick_any {w w1 : World} {b T : Nat} {vs : Array Value} (hb : b < w.heap.size) (h : But b (w.alloc (.cells vs T)) w1) (k : Nat) : w1.cell? ⟨w.heap.size, k, none⟩ = vs[k]? := by
  have hp : (w.alloc (.cells vs T)).heap[w.heap.size]? = some (.cells vs T) := by show (w.heap.push _)[w.heap.size]? = _; simp
  have hc : (w.alloc (.cells vs T)).cell? ⟨w.heap.size, k, none⟩ = vs[k]? := by simp only [World.cell?, hp]; rfl
  exact (h.cell (p := ⟨w.heap.size, k, none⟩) (by simp) (by show w.heap.size ≠ b; omega)).trans hc
def DrawsN (B b : Nat) (w : World) (e : Ending) (w' : World) : Prop := ∃ s : ByteArray, e = .returned (.string s) ∧ nmB s.data.toList = true ∧ Cur B b w' ∧ But b w w'
set_option maxRecDepth 100000 in
set_option maxHeartbeats 1000000 in
theorem drawName_any (B b : Nat) (w : World) (hc : Cur B b w) : Calls Tryz.prog 81 #[.pointer (some ⟨b, 0, none⟩)] w (DrawsN B b w) := by
  have hlt := hc.lt
  have HC := Lib.hid hc; clear hc
  go_enter Tryz.func81, Tryz.ntmps81
  go_wp2_with fail
  refine (below_any B b _ _ (HC.out.alloc _) (by decide) (by decide)).mono ?_; rintro e w2 ⟨y, rfl, y0, y1, hc2, hw2⟩
  obtain ⟨n, rfl⟩ := Int.eq_ofNat_of_zero_le y0
  have hp := pick_any hlt hw2 n
  obtain ⟨s, hs, hnm⟩ : ∃ s : ByteArray, w2.cell? ⟨w.heap.size, n, none⟩ = some (.string s) ∧ nmB s.data.toList = true := by
    have hn : n < 6 := by omega
    match n, hn, hp with
    | 0, _, hp => exact ⟨_, hp, by decide⟩
    | 1, _, hp => exact ⟨_, hp, by decide⟩
    | 2, _, hp => exact ⟨_, hp, by decide⟩
    | 3, _, hp => exact ⟨_, hp, by decide⟩
    | 4, _, hp => exact ⟨_, hp, by decide⟩
    | 5, _, hp => exact ⟨_, hp, by decide⟩
  clear hp
  have n1 : (n : Int) < 6 := by omega
  have HP := Lib.hid (And.intro hnm (And.intro hc2 (((But.refl b w).alloc _).trans hw2))); clear hnm hc2 hw2
  go_wp2_with fail
  go_ret
  exact ⟨s, rfl, HP.out⟩
set_option maxRecDepth 100000 in
set_option maxHeartbeats 1000000 in
theorem drawNameAny_any (B b : Nat) (w : World) (hc : Cur B b w) : Calls Tryz.prog 70 #[.pointer (some ⟨b, 0, none⟩)] w (DrawsT B b w 9) := by
  have HC := Lib.hid hc; clear hc
  go_enter Tryz.func70, Tryz.ntmps70
  go_wp2_with fail
  refine (once_any B b _ _ HC.out (by decide) (by decide)).mono ?_; rintro e w1 ⟨t, rfl, hc1, hw1⟩
  cases t
  · go_wp2_with fail
    refine (drawName_any B b _ hc1).mono ?_; rintro e w2 ⟨s, rfl, hs, hc2, hw2⟩
    have hl := nm_len hs
    rw [llen] at hl
    go_wp2_with fail
    go_ret
    exact ⟨s, rfl, by omega, hc2, hw1.trans hw2⟩
  · have hlt := hc1.lt
    have HC1 := Lib.hid hc1; clear hc1
    go_wp2_with fail
    refine (below_any B b _ _ (HC1.out.alloc _) (by decide) (by decide)).mono ?_; rintro e w2 ⟨y, rfl, y0, y1, hc2, hw2⟩
    obtain ⟨n, rfl⟩ := Int.eq_ofNat_of_zero_le y0
    have hp := pick_any hlt hw2 n
    obtain ⟨s, hs, hnm⟩ : ∃ s : ByteArray, w2.cell? ⟨w1.heap.size, n, none⟩ = some (.string s) ∧ s.size ≤ 9 := by
      have hn : n < 5 := by omega
      match n, hn, hp with
      | 0, _, hp => exact ⟨_, hp, by decide⟩
      | 1, _, hp => exact ⟨_, hp, by decide⟩
      | 2, _, hp => exact ⟨_, hp, by decide⟩
      | 3, _, hp => exact ⟨_, hp, by decide⟩
      | 4, _, hp => exact ⟨_, hp, by decide⟩
    clear hp
    have n1 : (n : Int) < 5 := by omega
    have HP := Lib.hid (And.intro hnm (And.intro hc2 (hw1.trans (((But.refl b w1).alloc _).trans hw2)))); clear hnm hc2 hw2
    go_wp2_with fail
    go_ret
    exact ⟨s, rfl, HP.out⟩
theorem Zb.but {n b : Nat} {w w' : World} (h : Zb n w) (hb : But b w w') (hn : n ≠ b) : Zb n w' := by
  obtain ⟨h0, h1, h2, f0, f1, f2, h3⟩ := h
  have e : w'.heap[n]? = w.heap[n]? := hb.block n h3 hn
  exact ⟨(World.cell?_of_block (w := w) e).trans h0, (World.cell?_of_block (w := w) e).trans h1, (World.cell?_of_block (w := w) e).trans h2, (World.frozen?_of_block (w := w) e).trans f0, (World.frozen?_of_block (w := w) e).trans f1, (World.frozen?_of_block (w := w) e).trans f2, Nat.lt_of_lt_of_le h3 hb.size⟩
theorem But.set3 {b n : Nat} {x w : World} (h : But b x w) (hn : x.heap.size ≤ n) (u v z : Value) : But b x (((w.setCell ⟨n, 0, none⟩ u).setCell ⟨n, 1, none⟩ v).setCell ⟨n, 2, none⟩ z) :=
  ((h.setNew (p := ⟨n, 0, none⟩) hn u).setNew (p := ⟨n, 1, none⟩) hn v).setNew (p := ⟨n, 2, none⟩) hn z
theorem Cur.set3 {B b n : Nat} {w : World} (h : Cur B b w) (hn : b < n) (u v z : Value) : Cur B b (((w.setCell ⟨n, 0, none⟩ u).setCell ⟨n, 1, none⟩ v).setCell ⟨n, 2, none⟩ z) := by
  have hk : ∀ k, k ≠ n → (((w.setCell ⟨n, 0, none⟩ u).setCell ⟨n, 1, none⟩ v).setCell ⟨n, 2, none⟩ z).heap[k]? = w.heap[k]? := fun k hk => by
    rw [Below.heap_setCell _ _ _ _ (by simpa using hk), Below.heap_setCell _ _ _ _ (by simpa using hk), Below.heap_setCell _ _ _ _ (by simpa using hk)]
  exact h.carry (fun k hB => hk k (by have := h.le; omega)) (hk b (by omega))
def Kx (n : Nat) (r s : ByteArray) (t : Int) (w : World) : Prop := w.cell? ⟨n, 0, none⟩ = some (.string r) ∧ w.cell? ⟨n, 1, none⟩ = some (.string s) ∧ w.cell? ⟨n, 2, none⟩ = some (.int .i64 t) ∧ w.frozen? ⟨n, 0, none⟩ = false ∧ w.frozen? ⟨n, 1, none⟩ = false ∧ w.frozen? ⟨n, 2, none⟩ = false ∧ n < w.heap.size
theorem Kx.made (r s : ByteArray) (t : Int) (w : World) (T : Nat) : Kx w.heap.size r s t (w.alloc (.cells #[.string r, .string s, .int .i64 t] T)) := by
  have hp : (w.alloc (.cells #[.string r, .string s, .int .i64 t] T)).heap[w.heap.size]? = some (.cells #[.string r, .string s, .int .i64 t] T) := by show (w.heap.push _)[w.heap.size]? = _; simp
  refine ⟨?_, ?_, ?_, ?_, ?_, ?_, by simp⟩ <;> (first | (simp only [World.cell?, hp]; rfl) | (simp only [World.frozen?, hp]; rfl))
theorem Kx.same {n : Nat} {r s : ByteArray} {t : Int} {w w' : World} (h : Kx n r s t w) (e : w'.heap[n]? = w.heap[n]?) (hs : w.heap.size ≤ w'.heap.size) : Kx n r s t w' := by
  obtain ⟨h0, h1, h2, f0, f1, f2, h3⟩ := h
  exact ⟨(World.cell?_of_block (w := w) e).trans h0, (World.cell?_of_block (w := w) e).trans h1, (World.cell?_of_block (w := w) e).trans h2, (World.frozen?_of_block (w := w) e).trans f0, (World.frozen?_of_block (w := w) e).trans f1, (World.frozen?_of_block (w := w) e).trans f2, Nat.lt_of_lt_of_le h3 hs⟩
theorem Kx.but {n b : Nat} {r s : ByteArray} {t : Int} {w w' : World} (h : Kx n r s t w) (hb : But b w w') (hn : n ≠ b) : Kx n r s t w' := h.same (hb.block n h.2.2.2.2.2.2 hn) hb.size
theorem Kx.next {n : Nat} {r s : ByteArray} {t : Int} {w w' : World} (h : Kx n r s t w) (hb : Below w.heap.size w w') : Kx n r s t w' := h.same (hb.block n h.2.2.2.2.2.2) hb.size
theorem St.set3 {w0 w : World} {B b n : Nat} (h : St w0 B b w) (hn : w0.heap.size ≤ n) (u v z : Value) : St w0 B b (((w.setCell ⟨n, 0, none⟩ u).setCell ⟨n, 1, none⟩ v).setCell ⟨n, 2, none⟩ z) :=
  ((h.setNew (p := ⟨n, 0, none⟩) hn u).setNew (p := ⟨n, 1, none⟩) hn v).setNew (p := ⟨n, 2, none⟩) hn z
end Go.Proofs.YtfnnoehpahdgcaaGreatDoor.Cl
namespace Go.Proofs.YtfnnoehpahdgcaaGreatDoor.Cl
set_option linter.unusedVariables false
open Go.RowKit Wd Rp Cu Kp
theorem Zc.but {q b : Nat} {w w' : World} (h : Zc q w) (hb : But b w w') (hn : q ≠ b) : Zc q w' := by
  obtain ⟨⟨h0, h1, h2, h3, h4⟩, ⟨f0, f1, f2, f3, f4⟩, hl⟩ := h
  have e : w'.heap[q]? = w.heap[q]? := hb.block q hl hn
  exact ⟨⟨(World.cell?_of_block (w := w) e).trans h0, (World.cell?_of_block (w := w) e).trans h1, (World.cell?_of_block (w := w) e).trans h2, (World.cell?_of_block (w := w) e).trans h3, (World.cell?_of_block (w := w) e).trans h4⟩,
    ⟨(World.frozen?_of_block (w := w) e).trans f0, (World.frozen?_of_block (w := w) e).trans f1, (World.frozen?_of_block (w := w) e).trans f2, (World.frozen?_of_block (w := w) e).trans f3, (World.frozen?_of_block (w := w) e).trans f4⟩, Nat.lt_of_lt_of_le hl hb.size⟩
def Yc (q : Nat) (r s : ByteArray) (t v : Int) (g : Bool) (w : World) : Prop := (w.cell? ⟨q, 0, none⟩ = some (.string r) ∧ w.cell? ⟨q, 1, none⟩ = some (.string s) ∧ w.cell? ⟨q, 2, none⟩ = some (.int .i64 t) ∧ w.cell? ⟨q, 3, none⟩ = some (.int .i64 v) ∧ w.cell? ⟨q, 4, none⟩ = some (.bool g)) ∧
    (w.frozen? ⟨q, 0, none⟩ = false ∧ w.frozen? ⟨q, 1, none⟩ = false ∧ w.frozen? ⟨q, 2, none⟩ = false ∧ w.frozen? ⟨q, 3, none⟩ = false ∧ w.frozen? ⟨q, 4, none⟩ = false) ∧ q < w.heap.size
theorem Yc.made (r s : ByteArray) (t v : Int) (g : Bool) (w : World) (T : Nat) : Yc w.heap.size r s t v g (w.alloc (.cells #[.string r, .string s, .int .i64 t, .int .i64 v, .bool g] T)) := by
  have hp : (w.alloc (.cells #[.string r, .string s, .int .i64 t, .int .i64 v, .bool g] T)).heap[w.heap.size]? = some (.cells #[.string r, .string s, .int .i64 t, .int .i64 v, .bool g] T (0, 0)) := by show (w.heap.push _)[w.heap.size]? = _; simp
  obtain ⟨h0, h1, h2, h3, h4, f0, f1, f2, f3, f4⟩ := five_of hp
  exact ⟨⟨h0, h1, h2, h3, h4⟩, ⟨f0, f1, f2, f3, f4⟩, by simp⟩
theorem Yc.same {q : Nat} {r s : ByteArray} {t v : Int} {g : Bool} {w w' : World} (h : Yc q r s t v g w) (e : w'.heap[q]? = w.heap[q]?) (hs : w.heap.size ≤ w'.heap.size) : Yc q r s t v g w' := by
  obtain ⟨⟨h0, h1, h2, h3, h4⟩, ⟨f0, f1, f2, f3, f4⟩, hl⟩ := h
  exact ⟨⟨(World.cell?_of_block (w := w) e).trans h0, (World.cell?_of_block (w := w) e).trans h1, (World.cell?_of_block (w := w) e).trans h2, (World.cell?_of_block (w := w) e).trans h3, (World.cell?_of_block (w := w) e).trans h4⟩,
    ⟨(World.frozen?_of_block (w := w) e).trans f0, (World.frozen?_of_block (w := w) e).trans f1, (World.frozen?_of_block (w := w) e).trans f2, (World.frozen?_of_block (w := w) e).trans f3, (World.frozen?_of_block (w := w) e).trans f4⟩, Nat.lt_of_lt_of_le hl hs⟩
theorem Yc.but {q b : Nat} {r s : ByteArray} {t v : Int} {g : Bool} {w w' : World} (h : Yc q r s t v g w) (hb : But b w w') (hn : q ≠ b) : Yc q r s t v g w' := h.same (hb.block q h.2.2 hn) hb.size
theorem Yc.next {q : Nat} {r s : ByteArray} {t v : Int} {g : Bool} {w w' : World} (h : Yc q r s t v g w) (hb : Below w.heap.size w w') : Yc q r s t v g w' := h.same (hb.block q h.2.2) hb.size
end Go.Proofs.YtfnnoehpahdgcaaGreatDoor.Cl
namespace Go.Proofs.YtfnnoehpahdgcaaGreatDoor.Cl
set_option linter.unusedVariables false
open Go.RowKit Wd Rp Cu Kp
theorem OT.but {B b : Nat} {w w' : World} {v : Value} {l : List Tk} (h : OT B w v l) (hb : But b w w') (hB : b < B) : OT B w' v l :=
  row_next h fun g hg hlt => hb.block g hlt (by have := OT.lt h g hg; omega)
theorem OT.mono {B C : Nat} {w : World} {v : Value} {l : List Tk} (h : OT B w v l) (hC : C ≤ B) : OT C w v l := O1.mono h hC
theorem OT.grown {B : Nat} {w w' : World} {v : Value} {l : List Tk} {row : Option Nat} (h : OT B w v l) (hg : w.grownBy w' row) (hne : ∀ k, v.ownBlock = some k → row ≠ some k) : OT B w' v l := O1.grown h hg hne
theorem OT.form {B : Nat} {w : World} {v : Value} {l : List Tk} (h : OT B w v l) : ∃ a cap, v = .slice a l.length cap ∧ V1 w a cap (txL l) := by
  obtain ⟨a, cap, e, hv⟩ := O1.view h
  rw [txL_len] at e
  exact ⟨a, cap, e, hv⟩
theorem txL_app (l m : List Tk) : txL (l ++ m) = txL l ++ txL m := List.map_append
theorem txL_one : ∀ l : List Tk, ∀ u ∈ txL l, u.oneCell' = true := fun l u hu => by
  unfold txL at hu
  rw [List.mem_map] at hu
  obtain ⟨s, -, rfl⟩ := hu; rfl
theorem v1_cells {w : World} {ad : Addr} {cap : Nat} {m : List Value} (h : V1 w (some ad) cap m) : ∀ j u, m[j]? = some u → w.cell? (ad.add j) = some u := fun j u hj => by
  obtain ⟨g, o, e, -, hc⟩ := h.2.2.2 j u hj
  cases e
  have hadd : (⟨g, o, none⟩ : Addr).add j = ⟨g, o + j, none⟩ := by cases j <;> simp [Addr.add]
  rw [hadd]; exact hc
theorem run_append_tx {w : World} {base : Nat} {v : Value} {a : Option Addr} {cap : Nat} {l m : List Tk} (ty : TypeId) (hown : OT base w v l) (hy : V1 w a cap (txL m)) (hlen : l.length + m.length ≤ 10000000) (hbase : base ≤ w.heap.size) :
    ∃ v' w', (Builtin.append_ #[24, 24] ty #[v, .slice a m.length cap]).run Tryz.prog w = .ok v' w' ∧ OT base w' v' (l ++ m) ∧ w.grownBy w' v.ownBlock := by
  obtain ⟨i0, hi, hz0, hz1, hz2⟩ := info_parts info1T
  unfold OT O1 at hown
  rw [txL_len] at hown
  cases a with
  | none =>
    have hc := hy.2.2.1 rfl
    have hm : m = [] := List.length_eq_zero_iff.1 (by have := hy.1; rw [txL_len] at this; omega)
    subst hm hc
    rw [List.append_nil]
    exact ⟨v, w, run_append_owned_none w base 24 ty 9 i0 1 Tryz.underlying24 hi v _ _ hown, (by unfold OT O1; rw [txL_len]; exact hown), World.grownBy.refl _ _⟩
  | some ad =>
    obtain ⟨v', w', hr, h2, h3, h4, h5⟩ := run_append_own_at (P := Tryz.prog) w base 24 ty 9 i0 _ 1 16 Tryz.underlying24 hi hz0 hz1 hz2 rfl (by decide) v l.length (txL l) hown
      ad m.length cap (txL m) (by rw [txL_len, Nat.mul_one]) (v1_cells hy) (txL_one m) (by unfold maxLen; omega) (by omega) hbase
    refine ⟨v', w', hr, ?_, h3⟩
    unfold OT O1
    rw [txL_len, List.length_append, txL_app]; exact h2
theorem append_tx {ops : Array Oper} {rest : List Oper} {o : Oper} {a : Act} {Q : Exit → Act → World → Prop} {w : World} (hw : Region.wanted o (yielded ops a.tmps) = true) (s x : Operand)
    (ho : o.op = .call { callee := .builtin .append, args := #[s, x], argTypes := #[24, 24] })
    {base : Nat} {v : Value} {ad : Option Addr} {cap n : Nat} {l m : List Tk} (hs : a.eval s = v) (hx : a.eval x = .slice ad n cap) (hmn : m.length = n) (hown : OT base w v l) (hy : V1 w ad cap (txL m)) (hlen : l.length + m.length ≤ 10000000) (hbase : base ≤ w.heap.size)
    (h : ∀ v' w', OT base w' v' (l ++ m) → w.grownBy w' v.ownBlock → wpList Tryz.prog ops Q rest (a.put o.dst v') w') : wpList Tryz.prog ops Q (o :: rest) a w := by
  refine BigFrame.wpList_want hw fun K hK => ?_
  subst hmn
  obtain ⟨v', w', hr, h2, h3⟩ := run_append_tx o.type hown hy hlen hbase
  unfold Oper.wp execOp
  simp only [ho, resolve, invoke, builtin, Sem.run_bind, Sem.run_pure, Result.andThen_ok, List.map_toArray, List.map_cons, List.map_nil, hs, hx, hr]
  exact hK _ _ (h v' w' h2 h3)
theorem lit1 {B : Nat} (w : World) (s : Tk) (h : B ≤ w.heap.size) : OT B (w.alloc (.cells #[.string (tx s)] 9)) (.slice (some ⟨w.heap.size, 0, none⟩) 1 1) [s] :=
  O1.lit (T := 9) h #[.string (tx s)] (by unfold maxLen; simp)
def SmT (l : List Tk) : Prop := ∀ s ∈ l, s.length ≤ 40
theorem SmT.app {l m : List Tk} (h : SmT l) (h' : SmT m) : SmT (l ++ m) := fun c hc => by
  rcases List.mem_append.1 hc with e | e
  · exact h c e
  · exact h' c e
theorem SmT.one {s : Tk} (h : s.length ≤ 40) : SmT [s] := fun d hd => by
  rcases List.mem_cons.1 hd with e | e
  · subst e; exact h
  · cases e
theorem SmT.take {l : List Tk} (h : SmT l) (k : Nat) : SmT (l.take k) := fun c hc => h c (List.mem_of_mem_take hc)
theorem SmT.drop {l : List Tk} (h : SmT l) (k : Nat) : SmT (l.drop k) := fun c hc => h c (List.mem_of_mem_drop hc)
theorem SmT.set {l : List Tk} (h : SmT l) (k : Nat) {s : Tk} (hs : s.length ≤ 40) : SmT (l.set k s) := fun c hc => by
  rcases List.mem_or_eq_of_mem_set hc with e | e
  · exact h c e
  · subst e; exact hs
theorem st_belowT {w0 w w' : World} {B b : Nat} (h : St w0 B b w) (hb : Below w.heap.size w w') : St w0 B b w' :=
  ⟨h.but.below' hb, h.cur.carry (fun k hk => hb.block k (by have := h.cur.le; have := h.cur.lt; omega)) (hb.block b h.cur.lt), h.lt⟩
def DrawsX (n : Nat) (B b : Nat) (w : World) (e : Ending) (w' : World) : Prop := ∃ (v : Value) (l : List Tk), e = .returned v ∧ OT w.heap.size w' v l ∧ l.length ≤ n ∧ SmT l ∧ Cur B b w' ∧ But b w w'
theorem nm_len {t : Tk} (h : nmB t = true) : t.length ≤ 8 := by
  unfold nmB at h
  simp only [Bool.and_eq_true, decide_eq_true_eq] at h
  exact h.2.2
theorem tx_itoa (n : Int) : (⟨(Lib.itoa n).toArray⟩ : ByteArray) = tx (Lib.itoa n) := rfl
set_option maxHeartbeats 4000000 in
set_option maxRecDepth 100000 in
theorem l1Texts_any (w : World) (a : Option Addr) (cap : Nat) (l : List Tk) (n : Nat) (hn : l.length = n) (hv : V1 w a cap (txL l)) (hl : n ≤ 4194304) :
    Calls Tryz.prog 87 #[.slice a n cap] w fun e w' => ∃ v, e = .returned v ∧ OT w.heap.size w' v l ∧ Below w.heap.size w w' := by
  have HO := Lib.hid (show OT w.heap.size (w.alloc (.cells #[] 9)) (.slice (some ⟨w.heap.size, 0, none⟩) 0 0) [] from O1.start (Nat.le_refl _))
  have HB := Lib.hid (bel1 w (.cells #[] 9))
  have HV := Lib.hid (hv.below HB.out); clear hv
  go_enter Tryz.func87, Tryz.ntmps87
  go_wp2_with (first
    | (at_builtin; refine append_tx rfl (.tmp 3) (.tmp 4) rfl (base := w.heap.size) (l := []) (m := l) rfl rfl hn HO.out HV.out (by simp; omega) (by simp) ?_; intro v5 w5 o5 g5; have O5 := Lib.hid (And.intro o5 g5); clear o5 g5))
  go_ret
  exact ⟨_, rfl, O5.out.1, HB.out.grown O5.out.2 (by simp) (fun k hk => OT.lt HO.out k hk)⟩
theorem pick_tx {b : Nat} {w w1 : World} {T : Nat} {ts : List Tk} (hb : b < w.heap.size) (h : But b (w.alloc (.cells (ts.map tv).toArray T)) w1) {k : Nat} (hk : k < ts.length) : ∃ s, ts[k]? = some s ∧ w1.cell? ⟨w.heap.size, k, none⟩ = some (.string (tx s)) := by
  refine ⟨ts[k], List.getElem?_eq_getElem hk, ?_⟩
  rw [pick_any hb h k]
  simp [tv, hk]
theorem mem_short {ts : List Tk} {k : Nat} {s : Tk} (h : ts[k]? = some s) (hs : ∀ s ∈ ts, s.length ≤ 40) : s.length ≤ 40 := hs s (List.mem_of_getElem? h)
theorem at_app (t : ByteArray) : ((⟨#[64]⟩ : ByteArray) ++ t) = tx (64 :: t.data.toList) := by
  apply ByteArray.ext
  apply Array.toList_inj.1
  rw [Joins.data_append, tx_data]; rfl
end Go.Proofs.YtfnnoehpahdgcaaGreatDoor.Cl
namespace Go.Proofs.YtfnnoehpahdgcaaGreatDoor.Cl
set_option linter.unusedVariables false
open Go.RowKit Wd Rp Cu Kp
theorem txL_set (l : List Tk) (k : Nat) (s : Tk) : (txL l).set k (tv s) = txL (l.set k s) := by unfold txL; rw [List.map_set]
theorem OT.set {B : Nat} {w : World} {g n cap : Nat} {l : List Tk} (h : OT B w (.slice (some ⟨g, 0, none⟩) n cap) l) (hn : l.length = n) (k : Nat) (s : Tk) : OT B (w.setCell ⟨g, k, none⟩ (.string (tx s))) (.slice (some ⟨g, 0, none⟩) n cap) (l.set k s) := by
  have := O1.set h (by rw [txL_len, hn]) k (tv s)
  unfold OT
  rw [← txL_set]; exact this
theorem OT.cut {B : Nat} {w : World} {g n cap : Nat} {l : List Tk} (h : OT B w (.slice (some ⟨g, 0, none⟩) n cap) l) (hn : l.length = n) {k : Nat} (hk : k ≤ n) : OT B w (.slice (some ⟨g, 0, none⟩) k cap) (l.take k) := by
  unfold OT O1 at h ⊢
  rw [txL_len, hn] at h
  have := row_cut h hk
  rw [txL_len, List.length_take, Nat.min_eq_left (by omega)]
  unfold txL at this ⊢
  rwa [Nat.mul_one, ← List.map_take] at this
theorem OT.own {B : Nat} {w : World} {v : Value} {l : List Tk} {n : Nat} (h : OT B w v l) (hn : l.length = n + 1) : ∃ g cap, v = .slice (some ⟨g, 0, none⟩) (n + 1) cap ∧ B ≤ g ∧ g < w.heap.size := by
  unfold OT O1 at h
  rw [txL_len, hn] at h
  exact row_own h
theorem OT.nil {B : Nat} {w : World} {v : Value} (h : OT B w v []) : ∃ a cap, v = .slice a 0 cap := by
  obtain ⟨a, cap, e, -⟩ := h.form
  exact ⟨a, cap, e⟩
theorem step_append_tx {ops : Array Oper} {o : Oper} {a : Act} {Q : Exit → Act → World → Prop} {K : Act → World → Prop} {w : World} (hw : Region.wanted o (yielded ops a.tmps) = true) (s x : Operand)
    (ho : o.op = .call { callee := .builtin .append, args := #[s, x], argTypes := #[24, 24] })
    {base : Nat} {v : Value} {ad : Option Addr} {cap n : Nat} {l m : List Tk} (hs : a.eval s = v) (hx : a.eval x = .slice ad n cap) (hmn : m.length = n) (hown : OT base w v l) (hy : V1 w ad cap (txL m)) (hlen : l.length + m.length ≤ 10000000) (hbase : base ≤ w.heap.size)
    (h : ∀ v' w', OT base w' v' (l ++ m) → w.grownBy w' v.ownBlock → K (a.put o.dst v') w') :
    if Region.wanted o (yielded ops a.tmps) = true then Oper.wp Tryz.prog o a w K Q else K (a.put o.dst undef) w := by
  rw [if_pos hw]
  subst hmn
  obtain ⟨v', w', hr, h2, h3⟩ := run_append_tx o.type hown hy hlen hbase
  unfold Oper.wp execOp
  simp only [ho, resolve, invoke, builtin, Sem.run_bind, Sem.run_pure, Result.andThen_ok, List.map_toArray, List.map_cons, List.map_nil, hs, hx, hr]
  exact h v' w' h2 h3
set_option maxRecDepth 100000 in
theorem cut1_from (T : TypeId) (hu : Tryz.prog.underlying T = some (.slice (Tryz.prog.elem T))) (hs : ∀ w, (sizeOf (Tryz.prog.elem T)).run Tryz.prog w = .ok 1 w) (a : Option Addr) (n cap i : Nat) (hi : i ≤ n) : ∃ b cb, (∀ w, (Instr.slice T (.slice a n cap) (some (.int .i64 (i : Int))) none none).run Tryz.prog w = .ok (.slice b (n - i) cb) w) ∧
    ∀ w l, V1 w a cap l → l.length = n → V1 w b cb (l.drop i) := by
  refine ⟨_, _, fun w => ?_, fun w l h hl => h.drop (k := i) (by omega)⟩
  rw [run_slice_l w T a n cap hu .i64 (i : Int) (by omega) (by omega), hs]
  rfl
def bendL : List Tk := [[43], [60], [38], [91], [93], [115, 101, 116], [105, 102], [65], [64, 51], [53], [104, 97, 121], []]
set_option maxHeartbeats 16000000 in
set_option maxRecDepth 100000 in
theorem bend_any (B b : Nat) (w : World) (hc : Cur B b w) (a : Option Addr) (cap : Nat) (l : List Tk) (n : Nat) (hn : l.length = n) (hv : V1 w a cap (txL l)) (hl : n ≤ 1000) (hs : SmT l) :
    Calls Tryz.prog 69 #[.pointer (some ⟨b, 0, none⟩), .slice a n cap] w (DrawsX n B b w) := by
  have hlt := hc.lt
  have HS0 := Lib.hid (⟨But.refl b w, hc, hlt⟩ : St w B b w); clear hc
  have HT := Lib.hid (l1Texts_any w a cap l n hn hv (by omega)); clear hv
  have HM := Lib.hid hs; clear hs
  go_enter Tryz.func69, Tryz.ntmps69
  go_wp2_with fail
  refine HT.out.mono ?_; rintro e w1 ⟨v, rfl, o1, b1⟩
  have HS1 := Lib.hid (st_belowT HS0.out b1); clear b1 HS0 HT
  cases n with
  | zero =>
    obtain rfl : l = [] := List.length_eq_zero_iff.1 hn
    obtain ⟨va, vc, rfl⟩ := o1.nil
    have HO1 := Lib.hid o1; clear o1
    go_wp2_with fail
    go_ret
    exact ⟨_, [], rfl, HO1.out, Nat.le_refl _, (fun s h => by cases h), HS1.out.cur, HS1.out.but⟩
  | succ n =>
    obtain ⟨g, vc, rfl, hg, hgs⟩ := o1.own hn
    have HO1 := Lib.hid o1; clear o1
    have HN := Lib.hid hn
    have p0 : (0 : Int) < ((n + 1 : Nat) : Int) := by omega
    go_wp2_with fail
    refine (below_any B b _ _ HS1.out.cur (by omega) (by omega)).mono ?_; rintro e w2 ⟨k, rfl, k0, k1, hc2, hw2⟩
    obtain ⟨k, rfl⟩ := Int.eq_ofNat_of_zero_le k0
    have HO2 := Lib.hid (HO1.out.but hw2 hlt)
    have HS2 := Lib.hid (HS1.out.draws hw2 hc2); clear hw2 hc2 HO1 HS1
    have hkn : k < n + 1 := by omega
    clear k0 k1
    go_wp2_with fail
    refine (below_any B b _ _ HS2.out.cur (by decide) (by decide)).mono ?_; rintro e w3 ⟨y, rfl, y0, y1, hc3, hw3⟩
    have HO3 := Lib.hid (HO2.out.but hw3 hlt)
    have HS3 := Lib.hid (HS2.out.draws hw3 hc3); clear hw3 hc3 HO2 HS2
    by_cases e0 : y = 0
    · subst e0
      have HLB := Lib.hid (fun o => HS3.out.alloc o)
      have HOB := Lib.hid (fun o => HO3.out.next (bel1 w3 o))
      have hgs3 : g < w3.heap.size := HO3.out.low g rfl
      go_wp2_with fail
      refine (below_any B b _ _ (HLB.out _).cur (by decide) (by decide)).mono ?_; rintro e w4 ⟨z, rfl, z0, z1, hc4, hw4⟩
      obtain ⟨m, rfl⟩ := Int.eq_ofNat_of_zero_le z0
      obtain ⟨s, hs, c0⟩ := pick_tx (ts := bendL) HS3.out.cur.lt hw4 (k := m) (by simp [bendL]; omega)
      have hsl := mem_short hs (by decide)
      have HO4 := Lib.hid ((HOB.out _).but hw4 hlt)
      have HS4 := Lib.hid ((HLB.out _).draws hw4 hc4); clear hw4 hc4 hs HLB HOB HO3 HS3
      have hm4 : m < 12 := by omega
      obtain ⟨d, hd⟩ : ∃ d, l[k]? = some d := ⟨l[k]'(by have := HN.out; omega), List.getElem?_eq_getElem _⟩
      obtain ⟨g2, o2, e2, -, d0⟩ := HO4.out.vw.tx hd
      cases e2
      rw [Nat.zero_add] at d0
      have f0 := O1.frozen HO4.out (by rw [txL_len]; exact HN.out.symm) k
      have HO5 := Lib.hid (HO4.out.set HN.out k s)
      have HS5 := Lib.hid (HS4.out.setNew (p := ⟨g, k, none⟩) hg (.string (tx s)))
      clear hd
      generalize tx s = x at *
      go_wp2_with fail
      go_ret
      exact ⟨_, l.set k s, rfl, HO5.out, by rw [List.length_set, HN.out]; exact Nat.le_refl _, HM.out.set k hsl, HS5.out.cur, HS5.out.but⟩
    have q0 : (y == 0) = false := by rw [beq_eq_false_iff_ne]; exact e0
    by_cases e1 : y = 1
    · subst e1
      have HCT := Lib.hid (HO3.out.cut HN.out (k := k) (by omega))
      have hcap : n + 1 ≤ vc := by have := HO3.out.vw.1; rw [txL_len] at this; have := HN.out; omega
      have hr1 : ∀ w, (Instr.slice 24 (.slice (some ⟨g, 0, none⟩) (n + 1) vc) none (some (.int .i64 (k : Int))) none).run Tryz.prog w = .ok (.slice (some ⟨g, 0, none⟩) k vc) w := fun w => cut1_to 24 (by kernel_rfl) (fun w => by exact Tryz.sizeOf9 w) (some ⟨g, 0, none⟩) (n + 1) vc k (by omega) hcap w
      obtain ⟨b2, c2, hr2, hv2⟩ := cut1_from 24 (by kernel_rfl) (fun w => by exact Tryz.sizeOf9 w) (some ⟨g, 0, none⟩) (n + 1) vc (k + 1) (by omega)
      have hr3 : ∀ w, (Instr.slice 24 (.slice (some ⟨g, 0, none⟩) (n + 1) vc) (some (.int .i64 ((k : Int) + 1))) none none).run Tryz.prog w = .ok (.slice b2 (n + 1 - (k + 1)) c2) w := hr2
      have HV2 := Lib.hid (show V1 w3 b2 c2 (txL (l.drop (k + 1))) from by
        have := hv2 w3 (txL l) HO3.out.vw (by rw [txL_len]; exact HN.out)
        unfold txL at this ⊢
        rwa [← List.map_drop] at this)
      have HLT := Lib.hid (show (l.take k).length = k by rw [List.length_take]; have := HN.out; omega)
      have HLD := Lib.hid (show (l.drop (k + 1)).length = n - k by rw [List.length_drop]; have := HN.out; omega)
      have HT3 := Lib.hid (l1Texts_any w3.drew (some ⟨g, 0, none⟩) vc (l.take k) k HLT.out (HCT.out.vw) (by omega))
      have hwk : IntKind.i64.wrap ((k : Int) + 1) = (k : Int) + 1 := by rw [IntKind.wrap_i64]; omega
      clear hr2 hv2
      have i1 : (k : Int) + 1 ≤ 9223372036854775807 := by omega
      go_wp2_with fail
      refine wp_region_held_drew (S := fun z => True) (by kernel_rfl) trivial (fun hHeld => ?_)
      refine tkI (i := 0) (v := ?v0t) rfl (Or.inl ⟨by rfl, ?hy0t⟩) ?rest0t
      case hy0t => (intro zz hSw; (try dsimp only at hSw); go_simp; (try with_reducible rfl))
      change wpAnyH _ _ _ _ _ _ _ (Act.put _ (some 31) _) _
      simp only [Act.put, List.setIfInBounds_toArray, List.set_cons_zero, List.set_cons_succ]
      refine tkI (i := 1) (v := ?v1t) rfl (Or.inl ⟨by rfl, ?hy1t⟩) ?rest1t
      case hy1t => (intro zz hSw; (try dsimp only at hSw); go_simp; (try with_reducible rfl))
      change wpAnyH _ _ _ _ _ _ _ (Act.put _ (some 32) _) _
      simp only [Act.put, List.setIfInBounds_toArray, List.set_cons_zero, List.set_cons_succ]
      refine tkI (i := 2) (v := ?v2t) rfl (Or.inl ⟨by rfl, ?hy2t⟩) ?rest2t
      case hy2t => (intro zz hSw; (try dsimp only at hSw); go_simp; (try with_reducible rfl))
      change wpAnyH _ _ _ _ _ _ _ (Act.put _ (some 33) _) _
      simp only [Act.put, List.setIfInBounds_toArray, List.set_cons_zero, List.set_cons_succ]
      refine tkI (i := 4) (v := ?v4t) rfl (Or.inl ⟨by rfl, ?hy4t⟩) ?rest4t
      case hy4t => (intro zz hSw; (try dsimp only at hSw); go_simp; (try with_reducible rfl))
      change wpAnyH _ _ _ _ _ _ _ (Act.put _ (some 35) _) _
      simp only [Act.put, List.setIfInBounds_toArray, List.set_cons_zero, List.set_cons_succ]
      refine tkI (i := 5) (v := ?v5t) rfl (Or.inl ⟨by rfl, ?hy5t⟩) ?rest5t
      case hy5t => (intro zz hSw; (try dsimp only at hSw); go_simp; (try with_reducible rfl))
      change wpAnyH _ _ _ _ _ _ _ (Act.put _ (some 36) _) _
      simp only [Act.put, List.setIfInBounds_toArray, List.set_cons_zero, List.set_cons_succ]
      refine tkI (i := 6) (v := ?v6t) rfl (Or.inl ⟨by rfl, ?hy6t⟩) ?rest6t
      case hy6t => (intro zz hSw; (try dsimp only at hSw); go_simp; (try with_reducible rfl))
      change wpAnyH _ _ _ _ _ _ _ (Act.put _ (some 37) _) _
      simp only [Act.put, List.setIfInBounds_toArray, List.set_cons_zero, List.set_cons_succ]
      refine tkI (i := 7) (v := ?v7t) rfl (Or.inl ⟨by rfl, ?hy7t⟩) ?rest7t
      case hy7t => (intro zz hSw; (try dsimp only at hSw); go_simp; (try with_reducible rfl))
      change wpAnyH _ _ _ _ _ _ _ (Act.put _ (some 38) _) _
      simp only [Act.put, List.setIfInBounds_toArray, List.set_cons_zero, List.set_cons_succ]
      refine wpAnyH_ready (rs := [3]) (by kernel_rfl) (by simp) (AllReadyH.cons rfl (fun K hK => ?_) (AllReadyH.nil))
      go_simp
      refine HT3.out.mono ?_; rintro e w4 ⟨v4, rfl, o4, b4⟩
      have B4 := Lib.hid b4
      have HO4 := Lib.hid (OT.mono o4 HS3.out.size)
      have HV4 := Lib.hid ((show V1 w3.drew b2 c2 (txL (l.drop (k + 1))) from HV2.out).below b4)
      have HS4 := Lib.hid (st_belowT (HS3.out.drewN 1) b4)
      clear o4 b4
      refine hK.out _ _ trivial (fun hHeld => ?_)
      clear hK K
      refine wpAnyH_ready (rs := [8]) (by kernel_rfl) (by simp) (AllReadyH.cons rfl (fun K hK => ?_) (AllReadyH.nil))
      refine step_append_tx rfl (.tmp 34) (.tmp 38) rfl (base := w.heap.size) (l := l.take k) (m := l.drop (k + 1)) rfl rfl HLD.out HO4.out HV4.out (by have := HLT.out; have := HLD.out; omega) HS4.out.size ?_
      intro v5 w5 o5 g5
      have O5 := Lib.hid (And.intro o5 g5); clear o5 g5
      refine hK.out _ _ trivial (fun hHeld => ?_)
      clear hK K
      change wpAnyH _ _ _ _ _ _ _ (Act.put _ (some 39) _) _
      simp only [Act.put, List.setIfInBounds_toArray, List.set_cons_zero, List.set_cons_succ]
      refine tkI (i := 9) (v := ?v9t) rfl (Or.inl ⟨by rfl, ?hy9t⟩) ?rest9t
      case hy9t => (intro zz hSw; (try dsimp only at hSw); go_simp; (try with_reducible rfl))
      change wpAnyH _ _ _ _ _ _ _ (Act.put _ (some 5) _) _
      simp only [Act.put, List.setIfInBounds_toArray, List.set_cons_zero, List.set_cons_succ]
      refine wpAnyH_done (by kernel_rfl) ?_ _
      have HS5 := Lib.hid (HS4.out.grown O5.out.2 (fun k hk => OT.lt HO4.out k hk))
      go_wp2_with fail
      go_ret
      exact ⟨_, l.take k ++ l.drop (k + 1), rfl, O5.out.1, by rw [List.length_append, HLT.out, HLD.out]; omega, (HM.out.take k).app (HM.out.drop (k + 1)), HS5.out.cur, HS5.out.but⟩
    have q1 : (y == 1) = false := by rw [beq_eq_false_iff_ne]; exact e1
    obtain rfl : y = 2 := by omega
    have HCT := Lib.hid (HO3.out.cut HN.out (k := k) (by omega))
    have hcap : n + 1 ≤ vc := by have := HO3.out.vw.1; rw [txL_len] at this; have := HN.out; omega
    have hr1 : ∀ w, (Instr.slice 24 (.slice (some ⟨g, 0, none⟩) (n + 1) vc) none (some (.int .i64 (k : Int))) none).run Tryz.prog w = .ok (.slice (some ⟨g, 0, none⟩) k vc) w := fun w => cut1_to 24 (by kernel_rfl) (fun w => by exact Tryz.sizeOf9 w) (some ⟨g, 0, none⟩) (n + 1) vc k (by omega) hcap w
    go_wp2_with fail
    go_ret
    exact ⟨_, l.take k, rfl, HCT.out, by rw [List.length_take]; have := HN.out; omega, HM.out.take k, HS3.out.cur, HS3.out.but⟩
end Go.Proofs.YtfnnoehpahdgcaaGreatDoor.Cl
namespace Go.Proofs.YtfnnoehpahdgcaaGreatDoor.Cl
set_option linter.unusedVariables false
open Go.RowKit Wd Rp Cu Kp
theorem OwI.but {B b : Nat} {w w' : World} {v : Value} {l : List Bi} (h : OwI B w v l) (hb : But b w w') (hB : b < B) : OwI B w' v l :=
  row_next h fun g hg hlt => hb.block g hlt (by have := OwI.lt h g hg; omega)
def SmI (l : List Bi) : Prop := ∀ c ∈ l, c.n.size ≤ 9
theorem SmI.app {l m : List Bi} (h : SmI l) (h' : SmI m) : SmI (l ++ m) := fun c hc => by
  rcases List.mem_append.1 hc with e | e
  · exact h c e
  · exact h' c e
theorem SmI.one {c : Bi} (h : c.n.size ≤ 9) : SmI [c] := fun d hd => by
  rcases List.mem_cons.1 hd with e | e
  · subst e; exact h
  · cases e
theorem st7_le (l : List Bi) (n : ByteArray) (x : Int) : (st7 l n x).1.length ≤ l.length + 1 := by
  have := stI_len l n x
  unfold st7
  split
  · show (stI l n x).length ≤ _; rw [this]; split <;> omega
  · split
    · show l.length ≤ _; omega
    · show (stI l n x).length ≤ _; rw [this]; split <;> omega
theorem st7_sm {l : List Bi} {n : ByteArray} {x : Int} (h : SmI l) (hn : n.size ≤ 9) : SmI (st7 l n x).1 := by
  have hs : SmI (stI l n x) := by
    unfold stI behI
    refine SmI.app (fun c hc => h c (List.mem_of_mem_take hc)) (SmI.app (SmI.one hn) (fun c hc => h c (List.mem_of_mem_drop hc)))
  unfold st7
  split
  · exact hs
  · split
    · exact h
    · exact hs
theorem nm_small {s : ByteArray} (h : nmB s.data.toList = true) : s.size ≤ 9 := by
  unfold nmB at h
  simp only [Bool.and_eq_true, decide_eq_true_eq] at h
  have h1 := h.1
  have h2 := h.2
  have h3 := llen s
  simp only [llen] at *
  omega
theorem st_nextI {w0 w w' : World} {B b : Nat} (h : St w0 B b w) (hb : Below w.heap.size w w') : St w0 B b w' :=
  ⟨h.but.below' hb, h.cur.carry (fun k hk => hb.block k (by have := h.cur.le; have := h.cur.lt; omega)) (hb.block b h.cur.lt), h.lt⟩
theorem st_low {w0 w w' : World} {B b : Nat} (h : St w0 B b w) (hb : Below w0.heap.size w w') : St w0 B b w' :=
  ⟨⟨hb.os.trans h.but.os, hb.tape.trans h.but.tape, hb.output.trans h.but.output, Nat.le_trans h.but.size hb.size, fun k hk hne => (hb.block k hk).trans (h.but.block k hk hne)⟩,
   h.cur.carry (fun k hk => hb.block k (by have := h.cur.le; have := h.lt; omega)) (hb.block b h.lt), h.lt⟩
def DrawsI (n : Nat) (B b : Nat) (w : World) (e : Ending) (w' : World) : Prop := ∃ (v : Value) (l : List Bi), e = .returned v ∧ OwI w.heap.size w' v l ∧ l.length ≤ n ∧ SmI l ∧ Cur B b w' ∧ But b w w'
set_option maxRecDepth 100000 in
set_option maxHeartbeats 4000000 in
theorem drawI_any (B b : Nat) (w : World) (hc : Cur B b w) : Calls Tryz.prog 49 #[.pointer (some ⟨b, 0, none⟩)] w (DrawsI 5 B b w) := by
  have hlt := hc.lt
  have HS := Lib.hid (St.alloc ⟨But.refl b w, hc, hlt⟩ : ∀ o, St w B b (w.alloc o)); clear hc
  have HO := Lib.hid (OwI.start (B := w.heap.size) (w := w) (Nat.le_refl _))
  go_enter Tryz.func49, Tryz.ntmps49
  go_wp2_with fail
  refine (below_any B b _ _ (HS.out _).cur (by decide) (by decide)).mono ?_; rintro e w1 ⟨y, rfl, y0, y1, hc1, hw1⟩
  have HO1 := Lib.hid (HO.out.but hw1 hlt)
  have HS1 := Lib.hid ((HS.out _).draws hw1 hc1); clear hw1 hc1 HO HS
  obtain ⟨m, rfl⟩ := Int.eq_ofNat_of_zero_le y0
  go_wp2_with fail
  go_loopw [3, 4] (fun x i wr => ∃ (k : Nat) (l : List Bi), i = .int .i64 (k : Int) ∧ l.length + k ≤ 5 ∧ OwI w.heap.size wr x l ∧ SmI l ∧ St w B b wr) (fun _ i _ => intV i)
  case atStart => exact ⟨m, [], rfl, by simp; omega, HO1.out, (fun c hc => by cases hc), HS1.out⟩
  case round =>
    clear HO1 HS1
    obtain ⟨k, l, rfl, hk, ho, hs, hst⟩ := hrel
    have HO := Lib.hid ho; clear ho
    have HM := Lib.hid hs; clear hs
    have HS := Lib.hid hst; clear hst
    by_cases hp : 0 < k
    · have i1 : (0 : Int) < (k : Int) := by omega
      go_wp2_with fail
      refine (drawName_any B b _ HS.out.cur).mono ?_; rintro e w2 ⟨s, rfl, hnm, hc2, hw2⟩
      have HO2 := Lib.hid (HO.out.but hw2 hlt)
      have HS2 := Lib.hid (HS.out.draws hw2 hc2); clear hw2 hc2
      have HN := Lib.hid (nm_small hnm); clear hnm
      go_wp2_with fail
      refine (drawWord_any B b _ HS2.out.cur).mono ?_; rintro e w3 ⟨v, rfl, v0, v1, hc3, hw3⟩
      have HO3 := Lib.hid (HO2.out.but hw3 hlt)
      have HS3 := Lib.hid (HS2.out.draws hw3 hc3); clear hw3 hc3
      have HL := Lib.hid (l7Set_any w3 _ l s v HO3.out HS3.out.size (by omega))
      have HLE := Lib.hid (st7_le l s v)
      have HSM := Lib.hid (st7_sm (x := v) HM.out HN.out)
      generalize st7 l s v = p at *
      obtain ⟨pl, pb⟩ := p
      go_wp2_with fail
      refine HL.out.mono ?_; rintro e w4 ⟨v4, rfl, o4, b4⟩
      have HO4 := Lib.hid o4
      have HS4 := Lib.hid (st_low HS3.out b4); clear o4 b4
      have i2 : (k : Int) - 1 = ((k - 1 : Nat) : Int) := by omega
      go_wp2_with fail
      go_roundw
      case rel => exact ⟨k - 1, _, by go_num, by have : pl.length ≤ l.length + 1 := HLE.out; omega, HO4.out, HSM.out, HS4.out⟩
      case measure => simp [intV]; omega
    · obtain rfl : k = 0 := by omega
      go_wp2_with fail
      go_ret
      exact ⟨_, l, rfl, HO.out, by omega, HM.out, HS.out.cur, HS.out.but⟩
theorem one_size (x : Int) : (one x).size = 1 := rfl
set_option maxRecDepth 100000 in
set_option maxHeartbeats 8000000 in
theorem drawAnyI_any (B b : Nat) (w : World) (hc : Cur B b w) : Calls Tryz.prog 43 #[.pointer (some ⟨b, 0, none⟩)] w (DrawsI 20 B b w) := by
  have hlt := hc.lt
  have hT : Tryz.prog.underlying 25 = some (.slice 44) := Tryz.underlying25
  have HS := Lib.hid (⟨But.refl b w, hc, hlt⟩ : St w B b w); clear hc
  go_enter Tryz.func43, Tryz.ntmps43
  go_wp2_with fail
  refine (drawI_any B b _ HS.out.cur).mono ?_; rintro e w1 ⟨v1, l1, rfl, o1, n1, s1, hc1, hw1⟩
  have HO1 := Lib.hid o1
  have HM1 := Lib.hid s1
  have HS1 := Lib.hid (HS.out.draws hw1 hc1); clear o1 s1 hc1 hw1 HS
  go_wp2_with fail
  refine (once_any B b _ _ HS1.out.cur (by decide) (by decide)).mono ?_; rintro e w2 ⟨q, rfl, hc2, hw2⟩
  have HO2 := Lib.hid (HO1.out.but hw2 hlt)
  have HS2 := Lib.hid (HS1.out.draws hw2 hc2); clear hc2 hw2 HO1 HS1
  cases q
  · go_wp2_with fail
    go_ret
    exact ⟨_, l1, rfl, HO2.out, by omega, HM1.out, HS2.out.cur, HS2.out.but⟩
  go_wp2_with fail
  refine (below_any B b _ _ HS2.out.cur (by decide) (by decide)).mono ?_; rintro e w3 ⟨y, rfl, y0, y1, hc3, hw3⟩
  have HO3 := Lib.hid (HO2.out.but hw3 hlt)
  have HS3 := Lib.hid (HS2.out.draws hw3 hc3); clear hc3 hw3 HO2 HS2
  have hy : y = 0 ∨ y = 1 ∨ y = 2 := by omega
  rcases hy with rfl | rfl | rfl
  · go_wp2_with fail
    refine (drawNameAny_any B b _ HS3.out.cur).mono ?_; rintro e w4 ⟨s, rfl, hs, hc4, hw4⟩
    have HO4 := Lib.hid (HO3.out.but hw4 hlt)
    have HS4 := Lib.hid (HS3.out.draws hw4 hc4); clear hc4 hw4 HO3 HS3
    go_wp2_with fail
    refine (drawAny_any B b _ HS4.out.cur).mono ?_; rintro e w5 ⟨v, rfl, v0, v1', hc5, hw5⟩
    have HO5 := Lib.hid (HO4.out.but hw5 hlt)
    have HS5 := Lib.hid (HS4.out.draws hw5 hc5); clear hc5 hw5 HO4 HS4
    have hsz := HS5.out.size
    go_wp2_with (first
      | (at_builtin; refine append_binsT rfl (.tmp 13) (.tmp 19) 25 hT rfl (base := w.heap.size) (l := l1) (m := [(⟨s, v⟩ : Bi)]) rfl rfl rfl (HO5.out.next (bel1 _ _)) (VwI.lit w5 ⟨s, v⟩) (by simp; omega) (by simp; omega) ?_; intro v9 w9 o9 g9; have O9 := Lib.hid (And.intro o9 g9); clear o9 g9))
    go_ret
    exact ⟨_, _, rfl, O9.out.1, by simp; omega, HM1.out.app (SmI.one hs), ((HS5.out.alloc _).grown O9.out.2 (fun j hj => OwI.lt HO5.out j hj)).cur, ((HS5.out.alloc _).grown O9.out.2 (fun j hj => OwI.lt HO5.out j hj)).but⟩
  · have hsz := HS3.out.size
    obtain ⟨va, vc, ev, hvw⟩ := HO3.out.view
    subst ev
    go_wp2_with (first
      | (at_builtin; refine append_binsT rfl (.tmp 23) (.tmp 24) 25 hT rfl (base := w.heap.size) (l := l1) (m := l1) rfl rfl rfl HO3.out hvw (by omega) (by omega) ?_; intro v9 w9 o9 g9; have O9 := Lib.hid (And.intro o9 g9); clear o9 g9))
    go_ret
    exact ⟨_, _, rfl, O9.out.1, by simp; omega, HM1.out.app HM1.out, (HS3.out.grown O9.out.2 (fun j hj => OwI.lt HO3.out j hj)).cur, (HS3.out.grown O9.out.2 (fun j hj => OwI.lt HO3.out j hj)).but⟩
  · clear HO3 HM1
    have KC := conv_one
    go_wp2_with fail
    go_loopw [3, 4] (fun x i wr => ∃ (k : Nat) (l : List Bi), i = .int .i64 (k : Int) ∧ k ≤ 13 ∧ l.length = k ∧ OwI w.heap.size wr x l ∧ SmI l ∧ St w B b wr) (fun _ i _ => 13 - intV i)
    case atStart => exact ⟨0, [], rfl, by decide, rfl, OwI.start HS3.out.size, (fun c hc => by cases hc), HS3.out.alloc _⟩
    case round =>
      clear HS3
      obtain ⟨k, l, rfl, hk, hlk, ho, hs, hst⟩ := hrel
      have HO := Lib.hid ho; clear ho
      have HM := Lib.hid hs; clear hs
      have HS := Lib.hid hst; clear hst
      go_wp2_with fail
      refine (below_any B b _ _ HS.out.cur (by decide) (by decide)).mono ?_; rintro e w6 ⟨x, rfl, x0, x1, hc6, hw6⟩
      have HO6 := Lib.hid (HO.out.but hw6 hlt)
      have HS6 := Lib.hid (HS.out.draws hw6 hc6); clear hc6 hw6 HO HS
      have hsz := HS6.out.size
      by_cases hlt2 : (k : Int) < 12 + x
      · have u1 : IntKind.u8.wrap (k : Int) = (k : Int) := by rw [IntKind.wrap_u8]; omega
        have u2 : IntKind.u8.wrap (100 + (k : Int)) = 100 + (k : Int) := by rw [IntKind.wrap_u8]; omega
        have HA := Lib.hid (bel1 w6 (.cells #[.int .u8 (100 + (k : Int))] 5))
        have HB2 := Lib.hid (bel_tr HA.out (bel1 (w6.alloc (.cells #[.int .u8 (100 + (k : Int))] 5)) (.cells #[.string (one (100 + (k : Int))), .int .i64 (k : Int)] 44)) (Nat.le_refl _))
        have HV := Lib.hid (VwI.lit (w6.alloc (.cells #[.int .u8 (100 + (k : Int))] 5)) ⟨one (100 + (k : Int)), (k : Int)⟩)
        have zz : (w6.alloc (.cells #[.int .u8 (100 + (k : Int))] 5)).heap.size = w6.heap.size + 1 := by simp
        rw [zz] at HV
        have HO7 := Lib.hid (HO6.out.next HB2.out)
        have T1 : l.length + [(⟨one (100 + (k : Int)), (k : Int)⟩ : Bi)].length ≤ 10000000 := by simp; omega
        have T2 := Nat.le_trans hsz HB2.out.size
        have HS7 := Lib.hid (st_nextI HS6.out HB2.out)
        go_wp2_with (first
          | (at_builtin; refine append_binsT rfl (.tmp 36) (.tmp 44) 25 hT rfl (base := w.heap.size) (l := l) (m := [(⟨one (100 + (k : Int)), (k : Int)⟩ : Bi)]) rfl rfl rfl HO7.out HV.out T1 T2 ?_; intro v9 w9 o9 g9; have O9 := Lib.hid (And.intro o9 g9); clear o9 g9))
        go_roundw
        case rel => exact ⟨k + 1, _, by go_num, by omega, by rw [List.length_append, hlk]; rfl, O9.out.1, HM.out.app (SmI.one (by show (one (100 + (k : Int))).size ≤ 9; rw [one_size]; decide)), HS7.out.grown O9.out.2 (fun j hj => OwI.lt HO7.out j hj)⟩
        case measure => simp [intV]; omega
      · go_wp2_with fail
        go_ret
        exact ⟨_, l, rfl, HO6.out, by omega, HM.out, HS6.out.cur, HS6.out.but⟩
end Go.Proofs.YtfnnoehpahdgcaaGreatDoor.Cl
