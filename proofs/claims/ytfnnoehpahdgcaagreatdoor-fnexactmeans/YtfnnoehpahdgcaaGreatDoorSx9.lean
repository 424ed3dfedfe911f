/-
  Texts of mine, joined (part 9 of 9): what the law at hand reaches of them; each text's own words stand in the verifier's repo.
-/
import Derived.Test.YtfnnoehpahdgcaaGreatDoorSx8
import Derived.Test.YtfnnoehpahdgcaaGreatDoorRows
import Derived.WalkKit
import Derived.IntWalk
import Derived.Laws.Bits128
import Derived.Lib.Hide
import Derived.Lib.ParseIntBTie
import Derived.Lib.ParseIntBCases
import Derived.Lib.ItoaMem
import Derived.Lib.IndexMore
import Derived.Lib.Repeat
import Derived.WalkSpells
import Derived.Below
import Derived.Carry
import Derived.WalkSmall
import Derived.Laws.Closers25b
import Derived.Lib.Strings
import Derived.Lib.SmallJoins
import Derived.Lib.AppendIntMem
import Derived.Maps.AppendAt
import Derived.OwnWalk
import Derived.WalkLawsBesides
import Derived.Deep.QuietTactic
import Derived.BigQuiet
import Derived.Deep.RegionHeld3
import Derived.Laws.OwnMore
import Derived.Laws.StructEq
import Derived.BigFrame
import Derived.Deep.Upon
import Derived.Laws.CopyRow
import Derived.Laws.BytesArg
import Derived.RowKit3
import Derived.Shelf.Strconv.Itoa4
import Derived.Shelf.Strconv.ParseIntPublic10
import Derived.Shelf.Strconv.ErrVarParseInt
import Derived.Test.YtfnnoehpahdgcaaGreatDoorProg
import Derived.LaidMore
import Derived.Stop.LaidErr
import Derived.Lib.LaidTab
import Derived.RangeFuncWrites
import Derived.RangeFuncCalls
import Derived.RangeFuncBox
import Derived.RangeFuncNested
import Derived.RangeFuncLeaves
import Derived.Shelf.Abstract
import Derived.Shelf.RegionOpen
import Derived.OwnWalkIn
import Derived.TacticsInMore
import Derived.LoopNIn
import Derived.LoopIn
import Derived.Lib.Bytealg
import Derived.Deep.LoopGhost
import Derived.Lib.AtoiErrMem
import Derived.OpenShut
import Derived.Lib.ConvBytes
import Derived.Deep.RegionLaw
import Derived.Deep.AppendLies
import Derived.Lib.AppendZeros
import Derived.Defers
import Derived.Recover
import Derived.ProofKit
import Derived.Handed
import Derived.SizedLaws
import Derived.ShutString
import Derived.Deep.Slices
import Derived.Deep.Fields
import Derived.ChangeSame
namespace Go.Proofs.YtfnnoehpahdgcaaGreatDoor.Cl
set_option linter.unusedVariables false
open Go.RowKit Wd Rp Kp
set_option maxHeartbeats 8000000 in
set_option maxRecDepth 100000 in
theorem deed_set (w0 : World) (p : Nat) (a : Option Addr) (cap : Nat) (l : List Tk) (n : Nat) (ga : Option Addr) (gc : Nat) (gs : List Int) (C : Rcx w0 a n cap l ga gc gs) (m : Tk) (ex : List Tk) (hw : Sm.wf 5 (.set m ex)) : DeedR w0 p a n cap l ga gc gs (.set m ex) := by
  intro k r st w hd hc hR
  have hd0 : l.drop k = setT :: (m :: (ex ++ r)) := by rw [hd]; rfl
  obtain ⟨hk1, hk2, hd1⟩ := drop_head hd0
  obtain ⟨hk3, hk4, hd2⟩ := drop_head hd1
  have hkn : k + 1 < n := by have := C.hn; omega
  have HB := Lib.hid (deedS_all a cap l n C.hn C.hl C.hm 5 (by decide) w (k : Int) ⟨by omega, by have := C.hl; omega⟩ (C.hv.below hR.bw))
  rw [(Sm.det l (.set m ex) 5 k r hw hd).1] at HB
  have he : eOk ex := by rw [Sm.wf] at hw; exact hw.2.ok
  have HSUM := Lib.hid (fun w h => l10Sum_any w0 p a cap l n C.hn C.hl C.hm C.hv ga gc gs C.hg C.hg3 he (k + 1 + 1) r hd2 st w h)
  have hE : Sm.run gs (.set m ex) st = (if (evE gs st.b ex).2 = false then ⟨2, st.b, st.f⟩ else ⟨(if (st7 st.b (tx m) (evE gs st.b ex).1).2 then st.c else 4), (st7 st.b (tx m) (evE gs st.b ex).1).1, st.f⟩) := by rw [Sm.run]
  rw [hE]; clear hE
  rw [show ((k + 1 + 1 : Nat) : Int) = (k : Int) + 2 by omega] at HSUM
  generalize ((k + (Sm.fl (.set m ex)).length : Nat) : Int) = y at *
  generalize ((k + 1 + 1 + ex.length : Nat) : Int) = y2 at *
  generalize evE gs st.b ex = xx at *
  obtain ⟨x, is⟩ := xx
  generalize hfin : (if (x, is).2 = false then (⟨2, st.b, st.f⟩ : St0) else ⟨(if (st7 st.b (tx m) (x, is).1).2 then st.c else 4), (st7 st.b (tx m) (x, is).1).1, st.f⟩) = fin
  have HFIN := Lib.hid hfin; clear hfin
  have HR := Lib.hid hR; clear hR
  have HV := Lib.hid (C.hv.below HR.out.bw)
  have hl4 := C.hl
  clear hd hd0 hd1 hd2 he hw
  go_enter Tryz.func83, Tryz.ntmps83
  go_wp2_with fail
  refine HB.out.mono ?_; rintro e w1 ⟨rfl, b1⟩
  have HR1 := Lib.hid (HR.out.next b1)
  have HV1 := Lib.hid (HV.out.below b1); clear b1
  obtain ⟨g', o', rfl, hg, c0⟩ := HV1.out.tx hk1
  replace c0 : w1.cell? ⟨g', o' + k, none⟩ = some (.string ⟨#[115, 101, 116]⟩) := c0
  have TOK := Lib.hid (show ∀ z, Below w0.heap.size w0 z → z.cell? ⟨g', o' + (k + 1), none⟩ = some (.string (tx m)) from fun z hz => by
    obtain ⟨g4, o4, e4, -, c4⟩ := (C.hv.below hz).tx hk3
    cases e4; exact c4)
  have i1 : (k : Int) + 1 ≤ 9223372036854775807 := by omega
  have i2 : (k : Int) + 2 ≤ 9223372036854775807 := by omega
  have i7 : IntKind.i64.wrap ((k : Int) + 1) = ((k + 1 : Nat) : Int) := by rw [IntKind.wrap_i64]; omega
  have i8 : (0 : Int) ≤ (k : Int) + 1 := by omega
  have i9 : (k : Int) + 1 < (n : Int) := by omega
  have HS1 := Lib.hid (HSUM.out w1 HR1.out)
  clear hk1 hk3 hg
  cases is
  · have HX := Lib.hid (show (⟨2, st.b, st.f⟩ : St0) = fin from HFIN.out)
    go_wp2_with fail
    refine HS1.out.mono ?_; rintro e w2 ⟨rfl, hR2⟩
    have HR2 := Lib.hid (show Rn w0 p ⟨2, st.b, st.f⟩ w2 from hR2); clear hR2
    have c2 : w2.cell? ⟨p, 0, none⟩ = some (.int .i64 2) := HR2.out.c
    go_wp2_with fail
    go_ret
    exact ⟨rfl, by rw [← HX.out]; exact HR2.out⟩
  · have HX := Lib.hid (show (⟨(if (st7 st.b (tx m) x).2 then st.c else 4), (st7 st.b (tx m) x).1, st.f⟩ : St0) = fin from HFIN.out)
    clear HFIN
    have HLEN := Lib.hid (st7_len (n := tx m) (x := x) HR.out.bl)
    generalize hq : st7 st.b (tx m) x = q at *
    obtain ⟨l7, fg⟩ := q
    go_wp2_with fail
    refine HS1.out.mono ?_; rintro e w2 ⟨rfl, hR2⟩
    have HR2 := Lib.hid (show Rn w0 p st w2 from hR2)
    have c2 : w2.cell? ⟨p, 0, none⟩ = some (.int .i64 0) := by rw [← hc]; exact HR2.out.c
    obtain ⟨v, cv, hO, hne⟩ := HR2.out.b
    clear hR2
    have HR3 := Lib.hid (HR2.out.next (Below.refl _ _).drew)
    have O2 := Lib.hid (hO.next (Below.refl _ _).drew)
    have HL := Lib.hid (l7Set_own w2.drew v st.b (tx m) x O2.out HR3.out.bw.size (by have := HR3.out.bl; omega))
    rw [hq] at HL
    have NE := Lib.hid hne
    have CV := Lib.hid (show w2.drew.cell? ⟨p, 1, none⟩ = some v from cv)
    clear hO hne hq
    go_wp2_with fail
    refine wp_region_held_drew (S := fun z => z.cell? ⟨g', o' + (k + 1), none⟩ = some (.string (tx m)) ∧ Below w0.heap.size w0 z) (by kernel_rfl) ⟨TOK.out _ HR3.out.bw, HR3.out.bw⟩ (fun hHeld => ?_)
    refine wpAnyH_take (i := 0) (v := ?v0s) rfl (by kernel_rfl) (by kernel_rfl) (by kernel_rfl) (fun _ _ _ h => h) (Or.inl ⟨by rfl, ?hy0s⟩) (by assumption) ?rest0s
    case hy0s => (intro zz hSw; (try dsimp only at hSw); go_simp; (try with_reducible rfl))
    change wpAnyH _ _ _ _ _ _ _ (Act.put _ (some 42) _) _
    simp only [Act.put, List.setIfInBounds_toArray, List.set_cons_zero, List.set_cons_succ]
    refine wpAnyH_take (i := 1) (v := ?v1s) rfl (by kernel_rfl) (by kernel_rfl) (by kernel_rfl) (fun _ _ _ h => h) (Or.inl ⟨by rfl, ?hy1s⟩) (by assumption) ?rest1s
    case hy1s => (intro zz hSw; (try dsimp only at hSw); go_simp; (try with_reducible rfl))
    change wpAnyH _ _ _ _ _ _ _ (Act.put _ (some 43) _) _
    simp only [Act.put, List.setIfInBounds_toArray, List.set_cons_zero, List.set_cons_succ]
    refine wpAnyH_take (i := 2) (v := ?v2s) rfl (by kernel_rfl) (by kernel_rfl) (by kernel_rfl) (fun _ _ _ h => h) (Or.inl ⟨by rfl, ?hy2s⟩) (by assumption) ?rest2s
    case hy2s => (intro zz hSw; (try dsimp only at hSw); go_simp; (try with_reducible rfl))
    change wpAnyH _ _ _ _ _ _ _ (Act.put _ (some 44) _) _
    simp only [Act.put, List.setIfInBounds_toArray, List.set_cons_zero, List.set_cons_succ]
    refine wpAnyH_take (i := 4) (v := ?v4s) rfl (by kernel_rfl) (by kernel_rfl) (by kernel_rfl) (fun _ _ _ h => h) (Or.inl ⟨by rfl, ?hy4s⟩) (by assumption) ?rest4s
    case hy4s => (intro zz hSw; (try dsimp only at hSw); go_simp; (try with_reducible rfl))
    change wpAnyH _ _ _ _ _ _ _ (Act.put _ (some 46) _) _
    simp only [Act.put, List.setIfInBounds_toArray, List.set_cons_zero, List.set_cons_succ]
    refine wpAnyH_take (i := 5) (v := ?v5s) rfl (by kernel_rfl) (by kernel_rfl) (by kernel_rfl) (fun _ _ _ h => h) (Or.inl ⟨by rfl, ?hy5s⟩) (by assumption) ?rest5s
    case hy5s => (intro zz hSw; (try dsimp only at hSw); go_simp; (try with_reducible rfl))
    change wpAnyH _ _ _ _ _ _ _ (Act.put _ (some 47) _) _
    simp only [Act.put, List.setIfInBounds_toArray, List.set_cons_zero, List.set_cons_succ]
    refine wpAnyH_take (i := 6) (v := ?v6s) rfl (by kernel_rfl) (by kernel_rfl) (by kernel_rfl) (fun _ _ _ h => h) (Or.inl ⟨by rfl, ?hy6s⟩) (by assumption) ?rest6s
    case hy6s => (intro zz hSw; (try dsimp only at hSw); go_simp; (try with_reducible rfl))
    change wpAnyH _ _ _ _ _ _ _ (Act.put _ (some 48) _) _
    simp only [Act.put, List.setIfInBounds_toArray, List.set_cons_zero, List.set_cons_succ]
    refine wpAnyH_take (i := 7) (v := ?v7s) rfl (by kernel_rfl) (by kernel_rfl) (by kernel_rfl) (fun _ _ _ h => h) (Or.inl ⟨by rfl, ?hy7s⟩) (by assumption) ?rest7s
    case hy7s => (intro zz hSw; (try dsimp only at hSw); go_simp; (try with_reducible rfl))
    change wpAnyH _ _ _ _ _ _ _ (Act.put _ (some 49) _) _
    simp only [Act.put, List.setIfInBounds_toArray, List.set_cons_zero, List.set_cons_succ]
    refine wpAnyH_take (i := 8) (v := ?v8s) rfl (by kernel_rfl) (by kernel_rfl) (by kernel_rfl) (fun _ _ _ h => h) (Or.inl ⟨by rfl, ?hy8s⟩) (by assumption) ?rest8s
    case hy8s => (intro zz hSw; (try dsimp only at hSw); go_simp; (try with_reducible rfl))
    change wpAnyH _ _ _ _ _ _ _ (Act.put _ (some 50) _) _
    simp only [Act.put, List.setIfInBounds_toArray, List.set_cons_zero, List.set_cons_succ]
    refine wpAnyH_take (i := 9) (v := ?v9s) rfl (by kernel_rfl) (by kernel_rfl) (by kernel_rfl) (fun _ _ _ h => h) (Or.inl ⟨by rfl, ?hy9s⟩) (by assumption) ?rest9s
    case hy9s => (intro zz hSw; (try dsimp only at hSw); go_simp; (try with_reducible rfl))
    change wpAnyH _ _ _ _ _ _ _ (Act.put _ (some 51) _) _
    simp only [Act.put, List.setIfInBounds_toArray, List.set_cons_zero, List.set_cons_succ]
    refine wpAnyH_ready (rs := [3]) (by kernel_rfl) (by simp) (AllReadyH.cons rfl (fun K hK => ?_) (AllReadyH.nil))
    go_simp
    refine hK.out _ _ hHeld (fun hHeld => ?_)
    clear hK K
    refine wpAnyH_ready (rs := [10]) (by kernel_rfl) (by simp) (AllReadyH.cons rfl (fun K hK => ?_) (AllReadyH.nil))
    go_simp
    refine HL.out.mono ?_; rintro e w3 ⟨v3, rfl, o3, b3, k3⟩
    obtain ⟨va3, vc3, rfl, -⟩ := o3.view
    have HR4 := Lib.hid (HR3.out.putB CV.out k3 o3 b3 HLEN.out)
    have f3 : w3.frozen? ⟨p, 1, none⟩ = false := by have := HR4.out.fz.2.1; simpa only [World.frozen?_setCell] using this
    have f30 : w3.frozen? ⟨p, 0, none⟩ = false := by have := HR4.out.fz.1; simpa only [World.frozen?_setCell] using this
    have K3 := k3.blk p HR3.out.hp NE.out
    have c3 := (World.cell?_of_block (w := w2.drew) (a := ⟨p, 1, none⟩) K3).trans CV.out
    have c30 : w3.cell? ⟨p, 0, none⟩ = some (.int .i64 0) := (World.cell?_of_block (w := w2.drew) (a := ⟨p, 0, none⟩) K3).trans c2
    have p3 := Nat.lt_of_lt_of_le HR3.out.hp k3.size
    refine hK.out _ _ ⟨TOK.out _ (hHeld.2.trans b3), hHeld.2.trans b3⟩ (fun hHeld => ?_)
    clear hK K o3 b3 k3 K3
    refine wpAnyH_take (i := 11) (v := ?v11s) rfl (by kernel_rfl) (by kernel_rfl) (by kernel_rfl) (fun _ _ _ h => h) (Or.inl ⟨by rfl, ?hy11s⟩) (by assumption) ?rest11s
    case hy11s => (intro zz hSw; (try dsimp only at hSw); go_simp; (try with_reducible rfl))
    change wpAnyH _ _ _ _ _ _ _ (Act.put _ (some 41) _) _
    simp only [Act.put, List.setIfInBounds_toArray, List.set_cons_zero, List.set_cons_succ]
    refine wpAnyH_take (i := 12) (v := ?v12s) rfl (by kernel_rfl) (by kernel_rfl) (by kernel_rfl) (fun _ _ _ h => h) (Or.inl ⟨by rfl, ?hy12s⟩) (by assumption) ?rest12s
    case hy12s => (intro zz hSw; (try dsimp only at hSw); go_simp; (try with_reducible rfl))
    change wpAnyH _ _ _ _ _ _ _ (Act.put _ (some 53) _) _
    simp only [Act.put, List.setIfInBounds_toArray, List.set_cons_zero, List.set_cons_succ]
    refine wpAnyH_take (i := 13) (v := ?v13s) rfl (by kernel_rfl) (by kernel_rfl) (by kernel_rfl) (fun _ _ _ h => h) (Or.inl ⟨by rfl, ?hy13s⟩) (by assumption) ?rest13s
    case hy13s => (intro zz hSw; (try dsimp only at hSw); go_simp; (try with_reducible rfl))
    change wpAnyH _ _ _ _ _ _ _ (Act.put _ (some 54) _) _
    simp only [Act.put, List.setIfInBounds_toArray, List.set_cons_zero, List.set_cons_succ]
    refine wpAnyH_take (i := 14) (v := ?v14s) rfl (by kernel_rfl) (by kernel_rfl) (by kernel_rfl) (fun _ _ _ h => h) (Or.inl ⟨by rfl, ?hy14s⟩) (by assumption) ?rest14s
    case hy14s => (intro zz hSw; (try dsimp only at hSw); go_simp; (try with_reducible rfl))
    change wpAnyH _ _ _ _ _ _ _ (Act.put _ (some 12) _) _
    simp only [Act.put, List.setIfInBounds_toArray, List.set_cons_zero, List.set_cons_succ]
    refine wpAnyH_take (i := 15) (v := ?v15s) rfl (by kernel_rfl) (by kernel_rfl) (by kernel_rfl) (fun _ _ _ h => h) (Or.inl ⟨by rfl, ?hy15s⟩) (by assumption) ?rest15s
    case hy15s => (intro zz hSw; (try dsimp only at hSw); go_simp; (try with_reducible rfl))
    change wpAnyH _ _ _ _ _ _ _ (Act.put _ (some 13) _) _
    simp only [Act.put, List.setIfInBounds_toArray, List.set_cons_zero, List.set_cons_succ]
    refine wpAnyH_done (by kernel_rfl) ?_ _
    clear hHeld
    cases fg
    · go_wp2_with fail
      go_ret
      exact ⟨rfl, by rw [← HX.out]; exact HR4.out.putC 4⟩
    · go_wp2_with fail
      go_ret
      exact ⟨rfl, by rw [← HX.out]; exact HR4.out⟩
end Go.Proofs.YtfnnoehpahdgcaaGreatDoor.Cl
namespace Go.Proofs.YtfnnoehpahdgcaaGreatDoor.Cl
set_option linter.unusedVariables false
open Go.RowKit Wd Rp Kp
def BlkR (w0 : World) (p : Nat) (a : Option Addr) (n cap : Nat) (l : List Tk) (ga : Option Addr) (gc : Nat) (gs : List Int) (b : Sl) (x y : Int) : Prop :=
  (∀ (st : St0) (w : World), Rn w0 p st w → Calls Tryz.prog 99 #[.pointer (some ⟨p, 0, none⟩), .slice a n cap, .int .i64 x, .slice ga (3 : Nat) gc, .bool false] w (RunP w0 p y st)) ∧
  (∀ (st : St0) (w : World), st.c ≠ 0 → Rn w0 p st w → Calls Tryz.prog 99 #[.pointer (some ⟨p, 0, none⟩), .slice a n cap, .int .i64 x, .slice ga (3 : Nat) gc, .bool true] w (RunP w0 p y st)) ∧
  (∀ (st : St0) (w : World), st.c = 0 → Rn w0 p st w → Calls Tryz.prog 99 #[.pointer (some ⟨p, 0, none⟩), .slice a n cap, .int .i64 x, .slice ga (3 : Nat) gc, .bool true] w (RunP w0 p y (b.run gs st)))
theorem blkR {w0 : World} {p : Nat} {a : Option Addr} {cap : Nat} {l : List Tk} {n : Nat} {ga : Option Addr} {gc : Nat} {gs : List Int} (C : Rcx w0 a n cap l ga gc gs) {b : Sl} (hw : b.wf 4) (ih : b.each (DeedR w0 p a n cap l ga gc gs)) {k : Nat} {r : List Tk} (hd : l.drop k = [91] :: (b.fl ++ ([93] :: r))) :
    BlkR w0 p a n cap l ga gc gs b (k : Int) ((k + b.fl.length + 2 : Nat) : Int) := by
  refine ⟨fun st w h => ?_, fun st w hc h => ?_, fun st w hc h => ?_⟩
  · have := l10Block_any w0 p a cap l n C.hn C.hl C.hm C.hv ga gc gs b hw ih k r st w false hd h
    rw [if_neg (fun e => by cases e.1)] at this; exact this
  · have := l10Block_any w0 p a cap l n C.hn C.hl C.hm C.hv ga gc gs b hw ih k r st w true hd h
    rw [if_neg (fun e => hc e.2)] at this; exact this
  · have := l10Block_any w0 p a cap l n C.hn C.hl C.hm C.hv ga gc gs b hw ih k r st w true hd h
    rw [if_pos ⟨rfl, hc⟩] at this; exact this
set_option maxHeartbeats 8000000 in
set_option maxRecDepth 100000 in
theorem deed_if (w0 : World) (p : Nat) (a : Option Addr) (cap : Nat) (l : List Tk) (n : Nat) (ga : Option Addr) (gc : Nat) (gs : List Int) (C : Rcx w0 a n cap l ga gc gs) (ex : List Tk) (b1 b2 : Sl) (hw : Sm.wf 5 (.ifs ex b1 b2)) (ih1 : b1.each (DeedR w0 p a n cap l ga gc gs)) (ih2 : b2.each (DeedR w0 p a n cap l ga gc gs)) : DeedR w0 p a n cap l ga gc gs (.ifs ex b1 b2) := by
  intro k r st w hd hc hR
  have hd0 : l.drop k = ifT :: (ex ++ ([91] :: (b1.fl ++ ([93] :: ([91] :: (b2.fl ++ ([93] :: r))))))) := by rw [hd]; simp [Sm.fl]
  obtain ⟨hk1, hk2, hd1⟩ := drop_head hd0
  have hd3 := drop_more hd1
  have hd4 : l.drop (k + 1 + ex.length + b1.fl.length + 2) = [91] :: (b2.fl ++ ([93] :: r)) := by
    have := (drop_head (drop_more (drop_head hd3).2.2)).2.2
    rw [show k + 1 + ex.length + b1.fl.length + 2 = k + 1 + ex.length + 1 + b1.fl.length + 1 by omega]; exact this
  have hkn : k < n := by have := C.hn; omega
  have HB := Lib.hid (deedS_all a cap l n C.hn C.hl C.hm 5 (by decide) w (k : Int) ⟨by omega, by have := C.hl; omega⟩ (C.hv.below hR.bw))
  rw [(Sm.det l (.ifs ex b1 b2) 5 k r hw hd).1] at HB
  rw [Sm.wf] at hw
  have HSUM := Lib.hid (fun w h => l10Sum_any w0 p a cap l n C.hn C.hl C.hm C.hv ga gc gs C.hg C.hg3 hw.1.ok (k + 1) _ hd1 st w h)
  have HK1 := Lib.hid (blkR C hw.2.1 ih1 hd3)
  have HK2 := Lib.hid (blkR C hw.2.2 ih2 hd4)
  have hE : Sm.run gs (.ifs ex b1 b2) st = (if (evE gs st.b ex).2 = false then ⟨2, st.b, st.f⟩ else if (evE gs st.b ex).1 = 0 then Sl.run gs b2 st else Sl.run gs b1 st) := by rw [Sm.run]
  rw [hE]; clear hE
  rw [show ((k + 1 : Nat) : Int) = (k : Int) + 1 by omega] at HSUM
  generalize ((k + (Sm.fl (.ifs ex b1 b2)).length : Nat) : Int) = y at *
  generalize ((k + 1 + ex.length + b1.fl.length + 2 + b2.fl.length + 2 : Nat) : Int) = y5 at *
  generalize ((k + 1 + ex.length + b1.fl.length + 2 : Nat) : Int) = y3 at *
  generalize ((k + 1 + ex.length : Nat) : Int) = y2 at *
  generalize evE gs st.b ex = xx at *
  obtain ⟨x, is⟩ := xx
  generalize hfin : (if (x, is).2 = false then (⟨2, st.b, st.f⟩ : St0) else if (x, is).1 = 0 then Sl.run gs b2 st else Sl.run gs b1 st) = fin
  have HFIN := Lib.hid hfin; clear hfin
  have HR := Lib.hid hR; clear hR
  have HV := Lib.hid (C.hv.below HR.out.bw)
  have hl4 := C.hl
  clear hd hd0 hd1 hd3 hd4 hw ih1 ih2
  go_enter Tryz.func83, Tryz.ntmps83
  go_wp2_with fail
  refine HB.out.mono ?_; rintro e w1 ⟨rfl, b1'⟩
  have HR1 := Lib.hid (HR.out.next b1')
  have HV1 := Lib.hid (HV.out.below b1'); clear b1'
  obtain ⟨g', o', rfl, hg, c0⟩ := HV1.out.tx hk1
  replace c0 : w1.cell? ⟨g', o' + k, none⟩ = some (.string ⟨#[105, 102]⟩) := c0
  have i1 : (k : Int) + 1 ≤ 9223372036854775807 := by omega
  have HS1 := Lib.hid (HSUM.out w1 HR1.out)
  clear hk1 hg
  go_wp2_with fail
  refine HS1.out.mono ?_; rintro e w2 ⟨rfl, hR2⟩
  by_cases hx : x = 0
  · subst hx
    cases is
    · have HX := Lib.hid (show (⟨2, st.b, st.f⟩ : St0) = fin from HFIN.out)
      have HR2 := Lib.hid (show Rn w0 p ⟨2, st.b, st.f⟩ w2 from hR2); clear hR2 HFIN
      go_wp2_with fail
      refine (HK1.out.1 _ _ HR2.out).mono ?_; rintro e w3 ⟨rfl, hR3⟩
      have HR3 := Lib.hid hR3; clear hR3
      go_wp2_with fail
      refine (HK2.out.2.1 _ _ (show (2 : Int) ≠ 0 by decide) HR3.out).mono ?_; rintro e w4 ⟨rfl, hR4⟩
      have HR4 := Lib.hid hR4; clear hR4
      go_wp2_with fail
      go_ret
      exact ⟨rfl, by rw [← HX.out]; exact HR4.out⟩
    · have HX := Lib.hid (show Sl.run gs b2 st = fin from HFIN.out)
      have HR2 := Lib.hid (show Rn w0 p st w2 from hR2); clear hR2 HFIN
      go_wp2_with fail
      refine (HK1.out.1 _ _ HR2.out).mono ?_; rintro e w3 ⟨rfl, hR3⟩
      have HR3 := Lib.hid hR3; clear hR3
      go_wp2_with fail
      refine (HK2.out.2.2 _ _ hc HR3.out).mono ?_; rintro e w4 ⟨rfl, hR4⟩
      have HR4 := Lib.hid hR4; clear hR4
      go_wp2_with fail
      go_ret
      exact ⟨rfl, by rw [← HX.out]; exact HR4.out⟩
  · have t1 : (x != 0) = true := by simpa using hx
    have t2 : (x == 0) = false := beq_eq_false_iff_ne.2 hx
    cases is
    · have HX := Lib.hid (show (⟨2, st.b, st.f⟩ : St0) = fin from HFIN.out)
      have HR2 := Lib.hid (show Rn w0 p ⟨2, st.b, st.f⟩ w2 from hR2); clear hR2 HFIN
      go_wp2_with fail
      refine (HK1.out.2.1 _ _ (show (2 : Int) ≠ 0 by decide) HR2.out).mono ?_; rintro e w3 ⟨rfl, hR3⟩
      have HR3 := Lib.hid hR3; clear hR3
      go_wp2_with fail
      refine (HK2.out.1 _ _ HR3.out).mono ?_; rintro e w4 ⟨rfl, hR4⟩
      have HR4 := Lib.hid hR4; clear hR4
      go_wp2_with fail
      go_ret
      exact ⟨rfl, by rw [← HX.out]; exact HR4.out⟩
    · have HX := Lib.hid (show Sl.run gs b1 st = fin from HFIN.out.symm ▸ (if_neg hx).symm)
      have HR2 := Lib.hid (show Rn w0 p st w2 from hR2); clear hR2 HFIN
      go_wp2_with fail
      refine (HK1.out.2.2 _ _ hc HR2.out).mono ?_; rintro e w3 ⟨rfl, hR3⟩
      have HR3 := Lib.hid hR3; clear hR3
      go_wp2_with fail
      refine (HK2.out.1 _ _ HR3.out).mono ?_; rintro e w4 ⟨rfl, hR4⟩
      have HR4 := Lib.hid hR4; clear hR4
      go_wp2_with fail
      go_ret
      exact ⟨rfl, by rw [← HX.out]; exact HR4.out⟩
end Go.Proofs.YtfnnoehpahdgcaaGreatDoor.Cl
namespace Go.Proofs.YtfnnoehpahdgcaaGreatDoor.Cl
set_option linter.unusedVariables false
open Go.RowKit Wd Rp Kp
set_option maxHeartbeats 8000000 in
set_option maxRecDepth 100000 in
theorem deed_whl (w0 : World) (p : Nat) (a : Option Addr) (cap : Nat) (l : List Tk) (n : Nat) (ga : Option Addr) (gc : Nat) (gs : List Int) (C : Rcx w0 a n cap l ga gc gs) (ex : List Tk) (b1 : Sl) (hw : Sm.wf 5 (.whl ex b1)) (ih1 : b1.each (DeedR w0 p a n cap l ga gc gs)) : DeedR w0 p a n cap l ga gc gs (.whl ex b1) := by
  intro k r st w hd hc hR
  have hd0 : l.drop k = whT :: (ex ++ ([91] :: (b1.fl ++ ([93] :: r)))) := by rw [hd]; simp [Sm.fl]
  obtain ⟨hk1, hk2, hd1⟩ := drop_head hd0
  have hd3 := drop_more hd1
  have hkn : k < n := by have := C.hn; omega
  have HB := Lib.hid (deedS_all a cap l n C.hn C.hl C.hm 5 (by decide) w (k : Int) ⟨by omega, by have := C.hl; omega⟩ (C.hv.below hR.bw))
  rw [(Sm.det l (.whl ex b1) 5 k r hw hd).1] at HB
  rw [Sm.wf] at hw
  have HSUM := Lib.hid (fun st w h => l10Sum_any w0 p a cap l n C.hn C.hl C.hm C.hv ga gc gs C.hg C.hg3 hw.1.ok (k + 1) _ hd1 st w h)
  have HK1 := Lib.hid (blkR C hw.2 ih1 hd3)
  have HFU := Lib.hid (fun st h => Sl.run_fuel gs b1 st h)
  have hE : Sm.run gs (.whl ex b1) st = whR gs ex (fun s => Sl.run gs b1 s) (st.f.toNat + 1) st := by rw [Sm.run]
  rw [hE]; clear hE
  rw [show ((k + 1 : Nat) : Int) = (k : Int) + 1 by omega] at HSUM
  generalize ((k + (Sm.fl (.whl ex b1)).length : Nat) : Int) = y at *
  generalize ((k + 1 + ex.length + b1.fl.length + 2 : Nat) : Int) = y3 at *
  generalize ((k + 1 + ex.length : Nat) : Int) = y2 at *
  generalize hfin : whR gs ex (fun s => Sl.run gs b1 s) (st.f.toNat + 1) st = fin
  have HFIN := Lib.hid hfin; clear hfin
  have HR := Lib.hid hR; clear hR
  have HV := Lib.hid (C.hv.below HR.out.bw)
  have hl4 := C.hl
  clear hd hd0 hd1 hd3 hw ih1
  go_enter Tryz.func83, Tryz.ntmps83
  go_wp2_with fail
  refine HB.out.mono ?_; rintro e w1 ⟨rfl, b1'⟩
  have HR1 := Lib.hid (HR.out.next b1')
  have HV1 := Lib.hid (HV.out.below b1'); clear b1'
  obtain ⟨g', o', rfl, hg, c0⟩ := HV1.out.tx hk1
  replace c0 : w1.cell? ⟨g', o' + k, none⟩ = some (.string ⟨#[119, 104, 105, 108, 101]⟩) := c0
  have i1 : (k : Int) + 1 ≤ 9223372036854775807 := by omega
  clear hk1 hg
  go_wp2_with fail
  go_loopg [] (st.f.toNat + 1) (fun j wr => ∃ s1 : St0, Rn w0 p s1 wr ∧ (if s1.c = 0 then whR gs ex (fun s => Sl.run gs b1 s) j s1 else s1) = fin ∧ (s1.c = 0 → s1.f < j))
  case atStart => exact ⟨st, HR1.out, by rw [if_pos hc]; exact HFIN.out, fun _ => by have := HR.out.f0; omega⟩
  case round =>
    clear HFIN c0
    obtain ⟨s1, hR1, hfin, hlt⟩ := hrel
    have HR2 := Lib.hid hR1
    have c1 := hR1.c
    by_cases hc1 : s1.c = 0
    · have hf0 := hR1.f0
      have hltj := hlt hc1
      obtain ⟨j, rfl⟩ : ∃ j', gk = j' + 1 := ⟨gk - 1, by omega⟩
      rw [if_pos hc1, whR] at hfin
      rw [hc1] at c1
      have z1 := hR1.fz.1
      have z2 := hR1.fz.2.2
      have c2 := hR1.f
      by_cases hf : s1.f = 0
      · rw [if_pos hf] at hfin
        have HX := Lib.hid hfin
        rw [hf] at c2
        clear hfin hlt hR1
        go_wp2_with fail
        go_ret
        exact ⟨rfl, by rw [← HX.out]; exact HR2.out.putC 3⟩
      · rw [if_neg hf] at hfin
        have t1 : (s1.f == 0) = false := beq_eq_false_iff_ne.2 hf
        have w1' : IntKind.i64.wrap (s1.f - 1) = s1.f - 1 := by rw [IntKind.wrap_i64]; omega
        have HR3 := Lib.hid (HR2.out.putF (s1.f - 1) (by omega))
        have HS1 := Lib.hid (HSUM.out _ _ HR3.out)
        have hHX := Lib.hid hfin
        have hff : 0 ≤ s1.f - 1 := by omega
        have hjj : s1.f - 1 < j := by omega
        dsimp only at HS1
        generalize evE gs s1.b ex = xx at *
        obtain ⟨x, is⟩ := xx
        clear hfin hlt hR1
        go_wp2_with fail
        refine HS1.out.mono ?_; rintro e w2 ⟨rfl, hR4⟩
        by_cases hx : x = 0
        · subst hx
          cases is
          · have HX := Lib.hid (show (⟨2, s1.b, s1.f - 1⟩ : St0) = fin from hHX.out)
            have HR4 := Lib.hid (show Rn w0 p ⟨2, s1.b, s1.f - 1⟩ w2 from hR4); clear hR4 hHX
            go_wp2_with fail
            go_ret
            exact ⟨rfl, by rw [← HX.out]; exact HR4.out⟩
          · have HX := Lib.hid (show (⟨s1.c, s1.b, s1.f - 1⟩ : St0) = fin from hHX.out)
            have HR4 := Lib.hid (show Rn w0 p ⟨s1.c, s1.b, s1.f - 1⟩ w2 from hR4); clear hR4 hHX
            go_wp2_with fail
            go_ret
            exact ⟨rfl, by rw [← HX.out]; exact HR4.out⟩
        · have t2 : (x == 0) = false := beq_eq_false_iff_ne.2 hx
          cases is
          · have HX := Lib.hid (show (⟨2, s1.b, s1.f - 1⟩ : St0) = fin from hHX.out)
            have HR4 := Lib.hid (show Rn w0 p ⟨2, s1.b, s1.f - 1⟩ w2 from hR4); clear hR4 hHX
            go_wp2_with fail
            refine (HK1.out.2.1 _ _ (show (2 : Int) ≠ 0 by decide) HR4.out).mono ?_; rintro e w3 ⟨rfl, hR5⟩
            have HR5 := Lib.hid hR5; clear hR5
            go_wp2_with fail
            go_roundg j
            case measure => omega
            case rel => exact ⟨_, HR5.out, by rw [if_neg (show ¬ (2 : Int) = 0 by decide)]; exact HX.out, fun h => absurd (show (2 : Int) = 0 from h) (by decide)⟩
          · have HX := Lib.hid (show (if (Sl.run gs b1 ⟨s1.c, s1.b, s1.f - 1⟩).c = 0 then whR gs ex (fun s => Sl.run gs b1 s) j (Sl.run gs b1 ⟨s1.c, s1.b, s1.f - 1⟩) else Sl.run gs b1 ⟨s1.c, s1.b, s1.f - 1⟩) = fin from by
              have := hHX.out
              rw [if_neg (by decide), if_neg hx] at this; exact this)
            have HR4 := Lib.hid (show Rn w0 p ⟨s1.c, s1.b, s1.f - 1⟩ w2 from hR4); clear hR4 hHX
            have hfu : (Sl.run gs b1 ⟨s1.c, s1.b, s1.f - 1⟩).f ≤ s1.f - 1 := (HFU.out ⟨s1.c, s1.b, s1.f - 1⟩ hff).2
            have HK := Lib.hid (HK1.out.2.2 ⟨s1.c, s1.b, s1.f - 1⟩ w2 hc1 HR4.out)
            generalize Sl.run gs b1 ⟨s1.c, s1.b, s1.f - 1⟩ = s3 at *
            go_wp2_with fail
            refine HK.out.mono ?_; rintro e w3 ⟨rfl, hR5⟩
            have HR5 := Lib.hid hR5; clear hR5
            go_wp2_with fail
            go_roundg j
            case measure => omega
            case rel => exact ⟨s3, HR5.out, HX.out, fun _ => by omega⟩
    · rw [if_neg hc1] at hfin
      have t0 : (s1.c == 0) = false := beq_eq_false_iff_ne.2 hc1
      have HX := Lib.hid hfin
      clear hfin hlt hR1
      go_wp2_with fail
      go_ret
      exact ⟨rfl, by rw [← HX.out]; exact HR2.out⟩
mutual
theorem Sm.runC (w0 : World) (p : Nat) (a : Option Addr) (cap : Nat) (l : List Tk) (n : Nat) (ga : Option Addr) (gc : Nat) (gs : List Int) (C : Rcx w0 a n cap l ga gc gs) : ∀ s : Sm, s.wf 5 → DeedR w0 p a n cap l ga gc gs s
  | .set m e, h => deed_set w0 p a cap l n ga gc gs C m e h
  | .cut m, h => deed_cut w0 p a cap l n ga gc gs C m (by rw [Sm.wf] at h; exact h)
  | .stop, h => deed_stop w0 p a cap l n ga gc gs C
  | .ifs e b1 b2, h => deed_if w0 p a cap l n ga gc gs C e b1 b2 h (Sl.runC w0 p a cap l n ga gc gs C b1 (by rw [Sm.wf] at h; exact Sl.wf_up b1 (by decide) h.2.1)) (Sl.runC w0 p a cap l n ga gc gs C b2 (by rw [Sm.wf] at h; exact Sl.wf_up b2 (by decide) h.2.2))
  | .whl e b1, h => deed_whl w0 p a cap l n ga gc gs C e b1 h (Sl.runC w0 p a cap l n ga gc gs C b1 (by rw [Sm.wf] at h; exact Sl.wf_up b1 (by decide) h.2))
theorem Sl.runC (w0 : World) (p : Nat) (a : Option Addr) (cap : Nat) (l : List Tk) (n : Nat) (ga : Option Addr) (gc : Nat) (gs : List Int) (C : Rcx w0 a n cap l ga gc gs) : ∀ s : Sl, s.wf 5 → s.each (DeedR w0 p a n cap l ga gc gs)
  | .nil, h => by rw [Sl.each]; trivial
  | .cons s r, h => by
    rw [Sl.wf] at h
    rw [Sl.each]
    exact ⟨Sm.runC w0 p a cap l n ga gc gs C s h.1, Sl.runC w0 p a cap l n ga gc gs C r h.2⟩
end
end Go.Proofs.YtfnnoehpahdgcaaGreatDoor.Cl
namespace Go.Proofs.YtfnnoehpahdgcaaGreatDoor.Cl
set_option linter.unusedVariables false
open Go.RowKit Wd Rp Kp
def Sl.end_ (t : Sl) (gs : List Int) (bs : List Bi) (f : Int) : St0 := if (t.run gs ⟨0, bs, f⟩).c = 0 then t.run gs ⟨0, bs, f⟩ else ⟨(t.run gs ⟨0, bs, f⟩).c, bs, 0⟩
def EndP (B : Nat) (r : St0) (w : World) (e : Ending) (w' : World) : Prop := ∃ v, e = .returned (.agg #[.int .i64 r.c, v, .int .i64 r.f]) ∧ OwI B w' v r.b ∧ Below B w w'
theorem Rn.start {w0 w1 : World} {v : Value} {bs : List Bi} {f : Int} (T : Nat) (ho : OwI w0.heap.size w1 v bs) (hb : Below w0.heap.size w0 w1) (hl : bs.length ≤ 12) (hf : 0 ≤ f ∧ f ≤ 400) : Rn w0 w1.heap.size ⟨0, bs, f⟩ (w1.alloc (.cells #[.int .i64 0, v, .int .i64 f] T)) := by
  obtain ⟨⟨h0, h1, h2⟩, hf3, hl3⟩ := Tri.made (.int .i64 0) v (.int .i64 f) w1 T
  exact ⟨hb.size, hl3, hf3, h0, h2, ⟨v, h1, ho.next (bel1 _ _), fun e => by have := OwI.low ho _ e; omega⟩, hb.trans ((bel1 w1 _).mono hb.size), hl, hf⟩
set_option maxHeartbeats 8000000 in
set_option maxRecDepth 100000 in
theorem l10Means_any (w : World) (a : Option Addr) (cap : Nat) (l : List Tk) (n : Nat) (hn : l.length = n) (hl : n ≤ 4194304) (hm : ∀ s ∈ l, s.length ≤ 4194304) (hv : V1 w a cap (txL l)) (ba : Option Addr) (bc bn : Nat) (bs : List Bi) (hbn : bs.length = bn) (hb : VwI w ba bc bs) (hb12 : bn ≤ 12) (ga : Option Addr) (gc : Nat) (gs : List Int) (hg : V1 w ga gc (inL gs)) (hg3 : gs.length = 3) (f : Int) (hf : 0 ≤ f ∧ f ≤ 400) (t : Sl) (hw : t.wf 5) (ht : l = t.fl) :
    Calls Tryz.prog 53 #[.slice a n cap, .slice ba bn bc, .slice ga (3 : Nat) gc, .int .i64 f] w (EndP w.heap.size (t.end_ gs bs f) w) := by
  have HV := Lib.hid hv; clear hv
  have HVB := Lib.hid hb; clear hb
  have HG := Lib.hid hg; clear hg
  generalize hend : t.end_ gs bs f = fe
  have HEND := Lib.hid hend; clear hend
  go_enter Tryz.func53, Tryz.ntmps53
  go_wp2_with (first
    | (refine (l7Copy_any _ ba bc bs bn hbn (HVB.out.below (bel1 _ _)) (by omega)).mono ?_; rintro e w1 ⟨v1, rfl, o1, b1⟩; obtain ⟨va1, vc1, rfl, -⟩ := o1.view; rw [hbn] at o1 ⊢))
  have HT := Lib.hid (Tri.made (.int .i64 0) (.slice none 0 0) (.int .i64 0) w 30)
  generalize hw0 : w.alloc (.cells #[.int .i64 0, .slice none 0 0, .int .i64 0] 30) = w0 at *
  have HW0 := Lib.hid (show Below w.heap.size w w0 by rw [← hw0]; exact bel1 _ _)
  have HR1 := Lib.hid (Rn.start 99 o1 b1 (by omega) hf)
  have HZ := Lib.hid (show t.end_ gs bs f = (if (if (⟨0, bs, f⟩ : St0).c = 0 then t.run gs ⟨0, bs, f⟩ else ⟨0, bs, f⟩).c = 0 then (if (⟨0, bs, f⟩ : St0).c = 0 then t.run gs ⟨0, bs, f⟩ else ⟨0, bs, f⟩) else ⟨(if (⟨0, bs, f⟩ : St0).c = 0 then t.run gs ⟨0, bs, f⟩ else ⟨0, bs, f⟩).c, bs, 0⟩) by rw [if_pos rfl]; rfl)
  generalize hfin : (if (⟨0, bs, f⟩ : St0).c = 0 then t.run gs ⟨0, bs, f⟩ else ⟨0, bs, f⟩) = fin at HZ
  have HFIN := Lib.hid hfin
  have C := Lib.hid (show Rcx w0 a n cap l ga gc gs from ⟨hn, hl, hm, HV.out.below (by rw [← hw0]; exact bel1 _ _), HG.out.below (by rw [← hw0]; exact bel1 _ _), hg3⟩)
  have IH := Lib.hid (Sl.runC w0 w1.heap.size a cap l n ga gc gs C.out t hw)
  have D0 := Lib.hid (show l.drop 0 = t.fl from ht)
  clear o1 b1 hfin hw ht hm hg3
  go_loopg [10] (t.count + 1) (fun j q wr => ∃ (t' : Sl) (z : Nat) (s1 : St0), q = .int .i64 (z : Int) ∧ l.drop z = t'.fl ∧ t'.each (DeedR w0 w1.heap.size a n cap l ga gc gs) ∧ Rn w0 w1.heap.size s1 wr ∧ t'.count + 1 ≤ j ∧ z ≤ n ∧ (if s1.c = 0 then t'.run gs s1 else s1) = fin)
  case atStart => exact ⟨t, 0, ⟨0, bs, f⟩, by go_num, D0.out, IH.out, HR1.out, Nat.le_refl _, Nat.zero_le _, HFIN.out⟩
  case round =>
    clear HFIN IH D0 HR1
    obtain ⟨t', z, s1, rfl, hd2, ih2, hR2, hj, hzn, hfin⟩ := hrel
    have HFIN := Lib.hid hfin
    have HR2 := Lib.hid hR2
    have c2 := hR2.c
    clear hfin hR2
    by_cases hc : s1.c = 0
    · cases t' with
      | nil =>
        have hz : n ≤ z := by have := List.drop_eq_nil_iff.1 (show l.drop z = [] from hd2); omega
        obtain rfl : z = n := by omega
        have t5 : decide ((z : Int) < (z : Int)) = false := by simp
        have HX := Lib.hid (show s1 = fin by have := HFIN.out; rw [if_pos hc] at this; exact this)
        clear hd2 ih2
        rw [hc] at c2
        have HF : fe = s1 := by
          have e1 := HEND.out; have e2 := HZ.out
          rw [← HX.out, if_pos hc] at e2
          exact e1.symm.trans e2
        obtain ⟨v, cv, hO, -⟩ := HR2.out.b
        obtain ⟨va, vc, rfl, -⟩ := hO.view
        have HO := Lib.hid hO; clear hO
        have cf := HR2.out.f
        have hqp : w1.heap.size ≠ w.heap.size := by have := HR2.out.hB; have := HT.out.2.2; omega
        have HQ := Lib.hid (HT.out.below HR2.out.bw HT.out.2.2)
        have HQD := Lib.hid (HQ.out.below (B := wr.heap.size) (Below.refl _ _).drew HQ.out.2.2)
        obtain ⟨⟨q0, q1, q2⟩, ⟨r0, r1, r2⟩, r3⟩ := HQ.out
        have HW := Lib.hid (HW0.out.trans (HR2.out.bw.mono HW0.out.size))
        have HP := Lib.hid (HQD.out.put3 (x' := .int .i64 0) (y' := .slice va s1.b.length vc) (z' := .int .i64 s1.f))
        go_wp2_with fail
        refine wp_region_held_drew (S := fun z => z.cell? ⟨w1.heap.size, 1, none⟩ = some (.slice va s1.b.length vc) ∧ z.cell? ⟨w1.heap.size, 2, none⟩ = some (.int .i64 s1.f)) (by kernel_rfl) ⟨cv, cf⟩ (fun hHeld => ?_)
        refine wpAnyH_take (i := 0) (v := ?v0g) rfl (by kernel_rfl) (by kernel_rfl) (by kernel_rfl) (fun _ _ _ h => h) (Or.inl ⟨by rfl, ?hy0g⟩) (by assumption) ?rest0g
        case hy0g => (intro zz hSw; (try dsimp only at hSw); go_simp; (try with_reducible rfl))
        change wpAnyH _ _ _ _ _ _ _ (Act.put _ (some 44) _) _
        simp only [Act.put, List.setIfInBounds_toArray, List.set_cons_zero, List.set_cons_succ]
        refine wpAnyH_take (i := 1) (v := ?v1g) rfl (by kernel_rfl) (by kernel_rfl) (by kernel_rfl) (fun _ _ _ h => h) (Or.inl ⟨by rfl, ?hy1g⟩) (by assumption) ?rest1g
        case hy1g => (intro zz hSw; (try dsimp only at hSw); go_simp; (try with_reducible rfl))
        change wpAnyH _ _ _ _ _ _ _ (Act.put _ (some 45) _) _
        simp only [Act.put, List.setIfInBounds_toArray, List.set_cons_zero, List.set_cons_succ]
        refine wpAnyH_take (i := 2) (v := ?v2g) rfl (by kernel_rfl) (by kernel_rfl) (by kernel_rfl) (fun _ _ _ h => h) (Or.inl ⟨by rfl, ?hy2g⟩) (by assumption) ?rest2g
        case hy2g => (intro zz hSw; (try dsimp only at hSw); go_simp; (try with_reducible rfl))
        change wpAnyH _ _ _ _ _ _ _ (Act.put _ (some 46) _) _
        simp only [Act.put, List.setIfInBounds_toArray, List.set_cons_zero, List.set_cons_succ]
        refine wpAnyH_take (i := 3) (v := ?v3g) rfl (by kernel_rfl) (by kernel_rfl) (by kernel_rfl) (fun _ _ _ h => h) (Or.inl ⟨by rfl, ?hy3g⟩) (by assumption) ?rest3g
        case hy3g => (intro zz hSw; (try dsimp only at hSw); go_simp; (try with_reducible rfl))
        change wpAnyH _ _ _ _ _ _ _ (Act.put _ (some 47) _) _
        simp only [Act.put, List.setIfInBounds_toArray, List.set_cons_zero, List.set_cons_succ]
        refine wpAnyH_take (i := 4) (v := ?v4g) rfl (by kernel_rfl) (by kernel_rfl) (by kernel_rfl) (fun _ _ _ h => h) (Or.inl ⟨by rfl, ?hy4g⟩) (by assumption) ?rest4g
        case hy4g => (intro zz hSw; (try dsimp only at hSw); go_simp; (try with_reducible rfl))
        change wpAnyH _ _ _ _ _ _ _ (Act.put _ (some 48) _) _
        simp only [Act.put, List.setIfInBounds_toArray, List.set_cons_zero, List.set_cons_succ]
        refine wpAnyH_take (i := 5) (v := ?v5g) rfl (by kernel_rfl) (by kernel_rfl) (by kernel_rfl) (fun _ _ _ h => h) (Or.inl ⟨by rfl, ?hy5g⟩) (by assumption) ?rest5g
        case hy5g => (intro zz hSw; (try dsimp only at hSw); go_simp; (try with_reducible rfl))
        change wpAnyH _ _ _ _ _ _ _ (Act.put _ (some 49) _) _
        simp only [Act.put, List.setIfInBounds_toArray, List.set_cons_zero, List.set_cons_succ]
        refine wpAnyH_take (i := 6) (v := ?v6g) rfl (by kernel_rfl) (by kernel_rfl) (by kernel_rfl) (fun _ _ _ h => h) (Or.inl ⟨by rfl, ?hy6g⟩) (by assumption) ?rest6g
        case hy6g => (intro zz hSw; (try dsimp only at hSw); go_simp; (try with_reducible rfl))
        change wpAnyH _ _ _ _ _ _ _ (Act.put _ (some 50) _) _
        simp only [Act.put, List.setIfInBounds_toArray, List.set_cons_zero, List.set_cons_succ]
        refine wpAnyH_take (i := 7) (v := ?v7g) rfl (by kernel_rfl) (by kernel_rfl) (by kernel_rfl) (fun _ _ _ h => h) (Or.inl ⟨by rfl, ?hy7g⟩) (by assumption) ?rest7g
        case hy7g => (intro zz hSw; (try dsimp only at hSw); go_simp; (try with_reducible rfl))
        change wpAnyH _ _ _ _ _ _ _ (Act.put _ (some 51) _) _
        simp only [Act.put, List.setIfInBounds_toArray, List.set_cons_zero, List.set_cons_succ]
        refine wpAnyH_take (i := 8) (v := ?v8g) rfl (by kernel_rfl) (by kernel_rfl) (by kernel_rfl) (fun _ _ _ h => h) (Or.inl ⟨by rfl, ?hy8g⟩) (by assumption) ?rest8g
        case hy8g => (intro zz hSw; (try dsimp only at hSw); go_simp; (try with_reducible rfl))
        change wpAnyH _ _ _ _ _ _ _ (Act.put _ (some 52) _) _
        simp only [Act.put, List.setIfInBounds_toArray, List.set_cons_zero, List.set_cons_succ]
        refine wpAnyH_ready (rs := [9]) (by kernel_rfl) (by simp) (AllReadyH.cons rfl (fun K hK => ?_) (AllReadyH.nil))
        go_simp
        refine hK.out _ (put3 wr.drew w.heap.size (.int .i64 0) (.slice va s1.b.length vc) (.int .i64 s1.f)) ⟨put3_cell hqp cv, put3_cell hqp cf⟩ (fun hHeld => ?_)
        clear hK K
        refine wpAnyH_done (by kernel_rfl) ?_ _
        clear hHeld
        obtain ⟨⟨q0', q1', q2'⟩, -, -⟩ := HP.out
        go_wp2_with fail
        refine bodyPost_ret (v := .agg #[.int .i64 0, .slice va s1.b.length vc, .int .i64 s1.f]) (by simp [results, Tryz.results53, go_sem, q0', q1', q2']) rfl ?_
        rw [HF]
        refine ⟨.slice va s1.b.length vc, by rw [hc], (OwI.put3 (HO.out.next (Below.refl _ _).drew) HT.out.2.2).mono HW0.out.size, put3_below (HW.out.drew) (Nat.le_refl _)⟩
      | cons s t' =>
        obtain ⟨j, rfl⟩ : ∃ j', gk = j' + 1 := ⟨gk - 1, by omega⟩
        have hd3 : l.drop z = s.fl ++ t'.fl := by rw [hd2, Sl.fl]
        rw [Sl.each] at ih2
        have HD := Lib.hid (ih2.1 z _ s1 wr hd3 hc HR2.out)
        have HI2 := Lib.hid ih2.2
        have HD4 := Lib.hid (drop_more hd3)
        have hjj : t'.count + 1 ≤ j := by rw [Sl.count] at hj; omega
        have hsp := s.pos
        have hlz : z + s.fl.length ≤ n ∧ z < n := by have := congrArg List.length hd3; rw [List.length_drop, List.length_append] at this; omega
        have HX := Lib.hid (show (if (s.run gs s1).c = 0 then t'.run gs (s.run gs s1) else s.run gs s1) = fin by have := HFIN.out; rw [if_pos hc, Sl.run] at this; exact this)
        have t5 : (z : Int) < (n : Int) := by omega
        have t6 : decide (z < n) = true := by simpa using hlz.2
        have hl2 := hlz.1
        clear hd2 hd3 ih2 HFIN hj hsp hlz
        generalize s.run gs s1 = s2 at *
        generalize z + s.fl.length = z2 at *
        rw [hc] at c2
        go_wp2_with fail
        refine HD.out.mono ?_; rintro e w2 ⟨rfl, hR3⟩
        have HR3 := Lib.hid hR3; clear hR3
        go_wp2_with fail
        go_roundg j
        case measure => omega
        case rel => exact ⟨t', z2, s2, rfl, HD4.out, HI2.out, HR3.out, hjj, hl2, HX.out⟩
    · have HX := Lib.hid (show s1 = fin by have := HFIN.out; rw [if_neg hc] at this; exact this)
      have t0 : (s1.c == 0) = false := beq_eq_false_iff_ne.2 hc
      have t1 : (s1.c != 0) = true := by simpa using hc
      clear hd2 ih2
      have HF : fe = ⟨s1.c, bs, 0⟩ := by
        have e1 := HEND.out; have e2 := HZ.out
        rw [← HX.out, if_neg hc] at e2
        exact e1.symm.trans e2
      have hqp : w1.heap.size ≠ w.heap.size := by have := HR2.out.hB; have := HT.out.2.2; omega
      have HQ := Lib.hid (HT.out.below HR2.out.bw HT.out.2.2)
      have HW := Lib.hid (HW0.out.trans (HR2.out.bw.mono HW0.out.size))
      have HCP := Lib.hid (l7Copy_any wr.drew ba bc bs bn hbn (HVB.out.below HW.out.drew) (by omega))
      go_wp2_with fail
      refine wp_region_held_drew (S := fun z => z.cell? ⟨w1.heap.size, 0, none⟩ = some (.int .i64 s1.c)) (by kernel_rfl) c2 (fun hHeld => ?_)
      refine wpAnyH_take (i := 0) (v := ?v0h) rfl (by kernel_rfl) (by kernel_rfl) (by kernel_rfl) (fun _ _ _ h => h) (Or.inl ⟨by rfl, ?hy0h⟩) (by assumption) ?rest0h
      case hy0h => (intro zz hSw; (try dsimp only at hSw); go_simp; (try with_reducible rfl))
      change wpAnyH _ _ _ _ _ _ _ (Act.put _ (some 37) _) _
      simp only [Act.put, List.setIfInBounds_toArray, List.set_cons_zero, List.set_cons_succ]
      refine wpAnyH_take (i := 1) (v := ?v1h) rfl (by kernel_rfl) (by kernel_rfl) (by kernel_rfl) (fun _ _ _ h => h) (Or.inl ⟨by rfl, ?hy1h⟩) (by assumption) ?rest1h
      case hy1h => (intro zz hSw; (try dsimp only at hSw); go_simp; (try with_reducible rfl))
      change wpAnyH _ _ _ _ _ _ _ (Act.put _ (some 38) _) _
      simp only [Act.put, List.setIfInBounds_toArray, List.set_cons_zero, List.set_cons_succ]
      refine wpAnyH_take (i := 2) (v := ?v2h) rfl (by kernel_rfl) (by kernel_rfl) (by kernel_rfl) (fun _ _ _ h => h) (Or.inl ⟨by rfl, ?hy2h⟩) (by assumption) ?rest2h
      case hy2h => (intro zz hSw; (try dsimp only at hSw); go_simp; (try with_reducible rfl))
      change wpAnyH _ _ _ _ _ _ _ (Act.put _ (some 39) _) _
      simp only [Act.put, List.setIfInBounds_toArray, List.set_cons_zero, List.set_cons_succ]
      refine wpAnyH_take (i := 3) (v := ?v3h) rfl (by kernel_rfl) (by kernel_rfl) (by kernel_rfl) (fun _ _ _ h => h) (Or.inl ⟨by rfl, ?hy3h⟩) (by assumption) ?rest3h
      case hy3h => (intro zz hSw; (try dsimp only at hSw); go_simp; (try with_reducible rfl))
      change wpAnyH _ _ _ _ _ _ _ (Act.put _ (some 40) _) _
      simp only [Act.put, List.setIfInBounds_toArray, List.set_cons_zero, List.set_cons_succ]
      refine wpAnyH_take (i := 4) (v := ?v4h) rfl (by kernel_rfl) (by kernel_rfl) (by kernel_rfl) (fun _ _ _ h => h) (Or.inl ⟨by rfl, ?hy4h⟩) (by assumption) ?rest4h
      case hy4h => (intro zz hSw; (try dsimp only at hSw); go_simp; (try with_reducible rfl))
      change wpAnyH _ _ _ _ _ _ _ (Act.put _ (some 41) _) _
      simp only [Act.put, List.setIfInBounds_toArray, List.set_cons_zero, List.set_cons_succ]
      refine wpAnyH_ready (rs := [5]) (by kernel_rfl) (by simp) (AllReadyH.cons rfl (fun K hK => ?_) (AllReadyH.nil))
      go_simp
      refine HCP.out.mono ?_; rintro e w3 ⟨v3, rfl, o3, b3⟩
      obtain ⟨va3, vc3, rfl, -⟩ := o3.view
      rw [hbn] at o3 ⊢
      have O3 := Lib.hid o3
      have HW3 := Lib.hid (bel_tr HW.out.drew b3 (Nat.le_refl _))
      have C3 := Lib.hid ((b3.cell (p := ⟨w1.heap.size, 0, none⟩) HR2.out.hp).trans c2)
      have HQ3 := Lib.hid ((HQ.out.below (B := wr.heap.size) (Below.refl _ _).drew HQ.out.2.2).below b3 HQ.out.2.2)
      have HP := Lib.hid (HQ3.out.put3 (x' := .int .i64 s1.c) (y' := .slice va3 bn vc3) (z' := .int .i64 0))
      refine hK.out _ _ C3.out (fun hHeld => ?_)
      clear hK K o3 b3
      obtain ⟨⟨q0, q1, q2⟩, ⟨r0, r1, r2⟩, r3⟩ := HQ3.out
      refine wpAnyH_take (i := 6) (v := ?v6h) rfl (by kernel_rfl) (by kernel_rfl) (by kernel_rfl) (fun _ _ _ h => h) (Or.inl ⟨by rfl, ?hy6h⟩) (by assumption) ?rest6h
      case hy6h => (intro zz hSw; (try dsimp only at hSw); go_simp; (try with_reducible rfl))
      change wpAnyH _ _ _ _ _ _ _ (Act.put _ (some 43) _) _
      simp only [Act.put, List.setIfInBounds_toArray, List.set_cons_zero, List.set_cons_succ]
      refine wpAnyH_ready (rs := [7]) (by kernel_rfl) (by simp) (AllReadyH.cons rfl (fun K hK => ?_) (AllReadyH.nil))
      go_simp
      refine hK.out _ (put3 w3 w.heap.size (.int .i64 s1.c) (.slice va3 bn vc3) (.int .i64 0)) (put3_cell hqp C3.out) (fun hHeld => ?_)
      clear hK K
      refine wpAnyH_done (by kernel_rfl) ?_ _
      clear hHeld
      obtain ⟨⟨q0', q1', q2'⟩, -, -⟩ := HP.out
      go_wp2_with fail
      refine bodyPost_ret (v := .agg #[.int .i64 s1.c, .slice va3 bn vc3, .int .i64 0]) (by simp [results, Tryz.results53, go_sem, q0', q1', q2']) rfl ?_
      rw [HF]
      refine ⟨.slice va3 bn vc3, rfl, (OwI.put3 O3.out (Nat.lt_of_lt_of_le HT.out.2.2 HR2.out.bw.size)).mono HW.out.size, put3_below HW3.out (Nat.le_refl _)⟩
end Go.Proofs.YtfnnoehpahdgcaaGreatDoor.Cl
namespace Go.Proofs.YtfnnoehpahdgcaaGreatDoor.Cl
set_option linter.unusedVariables false
open Go.RowKit Wd Rp Kp
theorem l10Fuel_any (f : Int) (w : World) : Calls Tryz.prog 52 #[.int .i64 f] w fun e w' => e = .returned (.bool (inB f 0 400)) ∧ w = w' := by
  have HI := Lib.hid (l1In_any f 0 400 w)
  generalize inB f 0 400 = x at *
  go_enter Tryz.func52, Tryz.ntmps52
  go_wp2_with fail
  refine HI.out.mono ?_; rintro e w1 ⟨rfl, rfl⟩
  go_wp2_with fail
  go_ret
  exact ⟨rfl, rfl⟩
def meB (l : List Tk) (bs : List Bi) (gs : List Int) (f : Int) : Bool := rcB l && (okI bs && (thB gs && inB f 0 400))
set_option maxHeartbeats 8000000 in
set_option maxRecDepth 100000 in
theorem specMeans_bad (w : World) (a : Option Addr) (cap : Nat) (l : List Tk) (n : Nat) (hn : l.length = n) (hl : n ≤ 4194304) (hm : ∀ s ∈ l, s.length ≤ 4194304) (hv : V1 w a cap (txL l)) (ba : Option Addr) (bc bn : Nat) (bs : List Bi) (hbn : bs.length = bn) (hb : VwI w ba bc bs) (hbl : bn ≤ 4194304) (hbm : ∀ c ∈ bs, c.n.size ≤ 9223372036854775806) (ga : Option Addr) (gc gn : Nat) (gs : List Int) (hgn : gs.length = gn) (hgl : gn ≤ 4194304) (hg : V1 w ga gc (inL gs)) (f : Int) (h : meB l bs gs f = false) :
    Calls Tryz.prog 13 #[.slice a n cap, .slice ba bn bc, .slice ga gn gc, .int .i64 f] w (EndP w.heap.size ⟨5, bs, 0⟩ w) := by
  have HV := Lib.hid hv; clear hv
  have HVB := Lib.hid hb; clear hb
  have HG := Lib.hid hg; clear hg
  have HT := Lib.hid (Tri.made (.int .i64 0) (.slice none 0 0) (.int .i64 0) w 30)
  have HW0 := Lib.hid (bel1 w (.cells #[.int .i64 0, .slice none 0 0, .int .i64 0] 30))
  have H1 := Lib.hid (fun w h => specRecipeOk_any w a cap l n hn h hl hm)
  have H2 := Lib.hid (fun w h => specBins2_any w ba bc bs bn hbn h hbm hbl)
  have H3 := Lib.hid (fun w h => l8Three_any w ga gc gs gn hgn h hgl)
  have H4 := Lib.hid (fun w => l10Fuel_any f w)
  have HCP := Lib.hid (fun w h => l7Copy_any w ba bc bs bn hbn h hbl)
  have HEND := Lib.hid (show ∀ (w1 w2 : World) (v : Value), Below w.heap.size w w1 → OwI w1.heap.size w2 v bs → Below w1.heap.size w1 w2 → w.heap.size < w1.heap.size → OwI w.heap.size (put3 w2 w.heap.size (.int .i64 5) v (.int .i64 0)) v bs ∧ Below w.heap.size w (put3 w2 w.heap.size (.int .i64 5) v (.int .i64 0)) from
    fun w1 w2 v b1 o2 b2 hlt => ⟨(OwI.put3 o2 hlt).mono b1.size, put3_below (bel_tr b1 b2 (Nat.le_refl _)) (Nat.le_refl _)⟩)
  unfold meB at h
  generalize rcB l = x1 at *
  generalize okI bs = x2 at *
  generalize thB gs = x3 at *
  generalize inB f 0 400 = x4 at *
  go_enter Tryz.func13, Tryz.ntmps13
  go_wp2_with fail
  generalize w.alloc (.cells #[.int .i64 0, .slice none 0 0, .int .i64 0] 30) = w0 at *
  refine (H1.out w0 (HV.out.below HW0.out)).mono ?_; rintro e w1 ⟨rfl, b1⟩
  have T1 := Lib.hid (HT.out.below b1 HT.out.2.2)
  have W1 := Lib.hid (bel_tr HW0.out b1 (Nat.le_refl _)); clear b1
  cases x1
  · have HC := Lib.hid (HCP.out w1 (HVB.out.below W1.out))
    go_wp2_with fail
    refine HC.out.mono ?_; rintro e wz ⟨v2, rfl, o2, b2⟩
    obtain ⟨va2, vc2, rfl, -⟩ := o2.view
    rw [hbn] at o2 ⊢
    have T9 := Lib.hid (T1.out.below b2 T1.out.2.2)
    have HZ := Lib.hid (HEND.out w1 wz _ W1.out o2 b2 T1.out.2.2)
    obtain ⟨⟨q0, q1, q2⟩, ⟨r0, r1, r2⟩, r3⟩ := T9.out
    obtain ⟨⟨p0, p1, p2⟩, -, -⟩ := T9.out.put3 (x' := .int .i64 5) (y' := .slice va2 bn vc2) (z' := .int .i64 0)
    clear o2 b2
    go_wp2_with fail
    refine bodyPost_ret (v := .agg #[.int .i64 5, .slice va2 bn vc2, .int .i64 0]) (by simp only [put3] at p0 p1 p2; simp [results, Tryz.results13, go_sem, p0, p1, p2]) rfl ⟨.slice va2 bn vc2, rfl, HZ.out.1, HZ.out.2⟩
  · go_wp2_with fail
    refine (H2.out w1 (HVB.out.below W1.out)).mono ?_; rintro e w2 ⟨rfl, b2⟩
    have T2 := Lib.hid (T1.out.below b2 T1.out.2.2)
    have W2 := Lib.hid (bel_tr W1.out b2 (Nat.le_refl _)); clear b2
    cases x2
    · have HC := Lib.hid (HCP.out w2 (HVB.out.below W2.out))
      go_wp2_with fail
      refine HC.out.mono ?_; rintro e wz ⟨v2, rfl, o2, b2⟩
      obtain ⟨va2, vc2, rfl, -⟩ := o2.view
      rw [hbn] at o2 ⊢
      have T9 := Lib.hid (T2.out.below b2 T2.out.2.2)
      have HZ := Lib.hid (HEND.out w2 wz _ W2.out o2 b2 T2.out.2.2)
      obtain ⟨⟨q0, q1, q2⟩, ⟨r0, r1, r2⟩, r3⟩ := T9.out
      obtain ⟨⟨p0, p1, p2⟩, -, -⟩ := T9.out.put3 (x' := .int .i64 5) (y' := .slice va2 bn vc2) (z' := .int .i64 0)
      clear o2 b2
      go_wp2_with fail
      refine bodyPost_ret (v := .agg #[.int .i64 5, .slice va2 bn vc2, .int .i64 0]) (by simp only [put3] at p0 p1 p2; simp [results, Tryz.results13, go_sem, p0, p1, p2]) rfl ⟨.slice va2 bn vc2, rfl, HZ.out.1, HZ.out.2⟩
    · go_wp2_with fail
      refine (H3.out w2 (HG.out.below W2.out)).mono ?_; rintro e w3 ⟨rfl, rfl⟩
      cases x3
      · have HC := Lib.hid (HCP.out w2 (HVB.out.below W2.out))
        go_wp2_with fail
        refine HC.out.mono ?_; rintro e wz ⟨v2, rfl, o2, b2⟩
        obtain ⟨va2, vc2, rfl, -⟩ := o2.view
        rw [hbn] at o2 ⊢
        have T9 := Lib.hid (T2.out.below b2 T2.out.2.2)
        have HZ := Lib.hid (HEND.out w2 wz _ W2.out o2 b2 T2.out.2.2)
        obtain ⟨⟨q0, q1, q2⟩, ⟨r0, r1, r2⟩, r3⟩ := T9.out
        obtain ⟨⟨p0, p1, p2⟩, -, -⟩ := T9.out.put3 (x' := .int .i64 5) (y' := .slice va2 bn vc2) (z' := .int .i64 0)
        clear o2 b2
        go_wp2_with fail
        refine bodyPost_ret (v := .agg #[.int .i64 5, .slice va2 bn vc2, .int .i64 0]) (by simp only [put3] at p0 p1 p2; simp [results, Tryz.results13, go_sem, p0, p1, p2]) rfl ⟨.slice va2 bn vc2, rfl, HZ.out.1, HZ.out.2⟩
      · go_wp2_with fail
        refine (H4.out w2).mono ?_; rintro e w3 ⟨rfl, rfl⟩
        cases x4
        · have HC := Lib.hid (HCP.out w2 (HVB.out.below W2.out))
          go_wp2_with fail
          refine HC.out.mono ?_; rintro e wz ⟨v2, rfl, o2, b2⟩
          obtain ⟨va2, vc2, rfl, -⟩ := o2.view
          rw [hbn] at o2 ⊢
          have T9 := Lib.hid (T2.out.below b2 T2.out.2.2)
          have HZ := Lib.hid (HEND.out w2 wz _ W2.out o2 b2 T2.out.2.2)
          obtain ⟨⟨q0, q1, q2⟩, ⟨r0, r1, r2⟩, r3⟩ := T9.out
          obtain ⟨⟨p0, p1, p2⟩, -, -⟩ := T9.out.put3 (x' := .int .i64 5) (y' := .slice va2 bn vc2) (z' := .int .i64 0)
          clear o2 b2
          go_wp2_with fail
          refine bodyPost_ret (v := .agg #[.int .i64 5, .slice va2 bn vc2, .int .i64 0]) (by simp only [put3] at p0 p1 p2; simp [results, Tryz.results13, go_sem, p0, p1, p2]) rfl ⟨.slice va2 bn vc2, rfl, HZ.out.1, HZ.out.2⟩
        · cases h
set_option maxHeartbeats 8000000 in
set_option maxRecDepth 100000 in
theorem specMeans_ok (w : World) (a : Option Addr) (cap : Nat) (l : List Tk) (n : Nat) (hn : l.length = n) (hl : n ≤ 4194304) (hm : ∀ s ∈ l, s.length ≤ 4194304) (hv : V1 w a cap (txL l)) (ba : Option Addr) (bc bn : Nat) (bs : List Bi) (hbn : bs.length = bn) (hb : VwI w ba bc bs) (hbm : ∀ c ∈ bs, c.n.size ≤ 9223372036854775806) (ga : Option Addr) (gc : Nat) (gs : List Int) (hg : V1 w ga gc (inL gs)) (f : Int) (h : meB l bs gs f = true) (t : Sl) (hw : t.wf 5) (ht : l = t.fl) :
    Calls Tryz.prog 13 #[.slice a n cap, .slice ba bn bc, .slice ga (3 : Nat) gc, .int .i64 f] w (EndP w.heap.size (t.end_ gs bs f) w) := by
  unfold meB at h
  rw [Bool.and_eq_true, Bool.and_eq_true, Bool.and_eq_true] at h
  obtain ⟨h1, h2, h3, h4⟩ := h
  have hb12 : bn ≤ 12 := by have := (okI_iff.1 h2).1; omega
  have hg3 := thB_len h3
  have hf : 0 ≤ f ∧ f ≤ 400 := by
    unfold inB at h4
    simpa using h4
  have HV := Lib.hid hv; clear hv
  have HVB := Lib.hid hb; clear hb
  have HG := Lib.hid hg; clear hg
  have HT := Lib.hid (Tri.made (.int .i64 0) (.slice none 0 0) (.int .i64 0) w 30)
  have HW0 := Lib.hid (bel1 w (.cells #[.int .i64 0, .slice none 0 0, .int .i64 0] 30))
  have H1 := Lib.hid (fun w h => specRecipeOk_any w a cap l n hn h hl hm)
  have H2 := Lib.hid (fun w h => specBins2_any w ba bc bs bn hbn h hbm (by omega))
  have H3 := Lib.hid (fun w h => l8Three_any w ga gc gs 3 hg3 h (by decide))
  have H4 := Lib.hid (fun w => l10Fuel_any f w)
  have HM := Lib.hid (fun w hv hb hg => l10Means_any w a cap l n hn hl hm hv ba bc bn bs hbn hb hb12 ga gc gs hg hg3 f hf t hw ht)
  rw [h1] at H1; rw [h2] at H2; rw [h3] at H3; rw [h4] at H4
  generalize t.end_ gs bs f = r at *
  clear h1 h2 h3 h4 hw ht hf hg3
  go_enter Tryz.func13, Tryz.ntmps13
  go_wp2_with fail
  generalize w.alloc (.cells #[.int .i64 0, .slice none 0 0, .int .i64 0] 30) = w0 at *
  refine (H1.out w0 (HV.out.below HW0.out)).mono ?_; rintro e w1 ⟨rfl, b1⟩
  have T1 := Lib.hid (HT.out.below b1 HT.out.2.2)
  have W1 := Lib.hid (bel_tr HW0.out b1 (Nat.le_refl _)); clear b1
  go_wp2_with fail
  refine (H2.out w1 (HVB.out.below W1.out)).mono ?_; rintro e w2 ⟨rfl, b2⟩
  have T2 := Lib.hid (T1.out.below b2 T1.out.2.2)
  have W2 := Lib.hid (bel_tr W1.out b2 (Nat.le_refl _)); clear b2
  go_wp2_with fail
  refine (H3.out w2 (HG.out.below W2.out)).mono ?_; rintro e w3 ⟨rfl, rfl⟩
  go_wp2_with fail
  refine (H4.out w2).mono ?_; rintro e w3 ⟨rfl, rfl⟩
  go_wp2_with fail
  refine (HM.out w2 (HV.out.below W2.out) (HVB.out.below W2.out) (HG.out.below W2.out)).mono ?_; rintro e w3 ⟨v3, rfl, o3, b3⟩
  obtain ⟨va3, vc3, rfl, -⟩ := o3.view
  have T9 := Lib.hid (T2.out.below b3 T2.out.2.2)
  have O9 := Lib.hid ((OwI.put3 o3 T2.out.2.2 (x := .int .i64 r.c) (y := .slice va3 r.b.length vc3) (z := .int .i64 r.f)).mono W2.out.size)
  have B9 := Lib.hid (put3_below (q := w.heap.size) (x := .int .i64 r.c) (y := .slice va3 r.b.length vc3) (z := .int .i64 r.f) (bel_tr W2.out b3 (Nat.le_refl _)) (Nat.le_refl _))
  obtain ⟨⟨q0, q1, q2⟩, ⟨r0, r1, r2⟩, r3⟩ := T9.out
  obtain ⟨⟨p0, p1, p2⟩, -, -⟩ := T9.out.put3 (x' := .int .i64 r.c) (y' := .slice va3 r.b.length vc3) (z' := .int .i64 r.f)
  clear o3 b3
  go_wp2_with fail
  refine bodyPost_ret (v := .agg #[.int .i64 r.c, .slice va3 r.b.length vc3, .int .i64 r.f]) (by simp only [put3] at p0 p1 p2; simp [results, Tryz.results13, go_sem, p0, p1, p2]) rfl ⟨_, rfl, O9.out, B9.out⟩
end Go.Proofs.YtfnnoehpahdgcaaGreatDoor.Cl
namespace Go.Proofs.YtfnnoehpahdgcaaGreatDoor.Cl
set_option linter.unusedVariables false
open Go.RowKit Wd Rp Cu Kp
theorem ta_end (v : Value) (w : World) : (Instr.typeAssert (.iface 89 v) 20 89 true).run Tryz.prog w = .ok (.tuple #[v, .bool true]) w := by kernel_rfl
theorem ta_nil (w : World) : (Instr.typeAssert .nilIface 20 89 true).run Tryz.prog w = .ok (.tuple #[.int .i64 0, .bool false]) w := by kernel_rfl
set_option maxHeartbeats 4000000 in
set_option maxRecDepth 100000 in
theorem catch_panic (pc : Nat) (c x : Int) (w : World) (hc : w.cell? ⟨pc, 0, none⟩ = some (.int .i64 x)) (hz : w.frozen? ⟨pc, 0, none⟩ = false) :
    CallsD Tryz.prog 73 #[.pointer (some ⟨pc, 0, none⟩)] (.panicking [endg c]) w fun e u' w' => e = .returned (.tuple #[]) ∧ u' = .panicking [{ v := .iface 89 (.int .i64 c), recovered := true }] ∧ w' = w.setCell ⟨pc, 0, none⟩ (.int .i64 c) := by
  refine callsD_of_wpS Tryz.func73 rfl fun c₀ cs hu => ?_
  have ta := ta_end (.int .i64 c)
  unfold endg at hu
  apply wpS_seq
  apply wpS_region
  simp [wpOpsS, go_sem, recoverD, hu, Tryz.ntmps73, Exit.thenS, ta]
  apply wpS_seq
  apply wpS_region
  simp [wpOpsS, go_sem, Exit.thenS]
  refine wpS_cond (t := true) (by simp [Act.eval]) ?_
  simp only [if_true]
  apply wpS_region
  simp [wpOpsS, go_sem, hc, hz, bodyPostS, results, Tryz.results73]
set_option maxHeartbeats 4000000 in
set_option maxRecDepth 100000 in
theorem catch_idle (pc : Nat) (w : World) :
    CallsD Tryz.prog 73 #[.pointer (some ⟨pc, 0, none⟩)] .returning w fun e u' w' => e = .returned (.tuple #[]) ∧ u' = .returning ∧ w' = w := by
  refine callsD_of_wpS Tryz.func73 rfl fun c₀ cs hu => ?_
  have ta := ta_nil
  apply wpS_seq
  apply wpS_region
  simp [wpOpsS, go_sem, recoverD, hu, Tryz.ntmps73, Exit.thenS, ta]
  apply wpS_seq
  apply wpS_region
  simp [wpOpsS, go_sem, Exit.thenS]
  refine wpS_cond (t := false) (by simp [Act.eval]) ?_
  simp only [Bool.false_eq_true, if_false]
  refine wpS_of_wp (wp_skip ?_)
  cases c₀
  simp_all [bodyPostS, results, Tryz.results73]
theorem VwX.off {p : Nat} {w : World} {a : Option Addr} {cap : Nat} {l : List Bi} (h : VwX p w a cap l) {g : Nat} {x : Int} (hc : w.cell? ⟨g, 0, none⟩ = some (.int .i64 x)) (u : Value) : VwX p (w.setCell ⟨g, 0, none⟩ u) a cap l := by
  obtain ⟨⟨h1, h2, h3, h4⟩, h5⟩ := h
  refine ⟨⟨h1, h2, h3, fun k c hk => ?_⟩, h5⟩
  obtain ⟨g', o, e, hg, hat⟩ := h4 k c hk
  refine ⟨g', o, e, by rw [World.size_setCell]; exact hg, ?_, ?_⟩
  · refine (World.cell?_setCell_other _ _ _ _ (fun e => ?_)).trans hat.1
    have e2 := hat.1
    first
      | rw [e, hc] at e2; cases e2
      | rw [← e, hc] at e2; cases e2
  · refine (World.cell?_setCell_other _ _ _ _ (fun e => ?_)).trans hat.2
    have := congrArg Addr.off e
    simp at this
theorem Xm.off {w0 w : World} {p : Nat} {ga : Option Addr} {gc : Nat} {gs : List Int} {st : St0} (h : Xm w0 p ga gc gs st w) {g : Nat} (hg : g ≠ p) (hlo : w0.heap.size ≤ g) {x : Int} (hc : w.cell? ⟨g, 0, none⟩ = some (.int .i64 x)) (u : Value) : Xm w0 p ga gc gs st (w.setCell ⟨g, 0, none⟩ u) := by
  have e : (w.setCell ⟨g, 0, none⟩ u).heap[p]? = w.heap[p]? := Below.heap_setCell w ⟨g, 0, none⟩ u p (fun e => hg e.symm)
  obtain ⟨a, n, c, h1, h2, h3⟩ := h.b
  exact ⟨h.hB, by rw [World.size_setCell]; exact h.hp, by simp only [World.frozen?_setCell]; exact h.fz,
    ⟨a, n, c, (World.cell?_of_block (w := w) e).trans h1, h2, h3.off hc u⟩, (World.cell?_of_block (w := w) e).trans h.g, (World.cell?_of_block (w := w) e).trans h.f,
    h.bw.setCell (p := ⟨g, 0, none⟩) hlo _, h.hg, h.g3, h.L, h.ok, h.th, h.f0⟩
set_option maxHeartbeats 8000000 in
set_option maxRecDepth 100000 in
theorem run_bad (w0 w : World) (p : Nat) (hB : w0.heap.size ≤ p) (hp : p < w.heap.size) (hw0 : Below w0.heap.size w0 w) (hfz : w.frozen? ⟨p, 0, none⟩ = false ∧ w.frozen? ⟨p, 1, none⟩ = false ∧ w.frozen? ⟨p, 2, none⟩ = false) (ba : Option Addr) (bn bc : Nat) (bs : List Bi) (hbn : bs.length = bn) (hbl : bn ≤ 4194304) (c0 : w.cell? ⟨p, 0, none⟩ = some (.slice ba bn bc)) (hb : VwX p w ba bc bs) (ga : Option Addr) (gc gn : Nat) (gs : List Int) (hgn : gs.length = gn) (hgl : gn ≤ 4194304) (c1 : w.cell? ⟨p, 1, none⟩ = some (.slice ga gn gc)) (hg : V1 w0 ga gc (inL gs)) (f : Int) (c2 : w.cell? ⟨p, 2, none⟩ = some (.int .i64 f))
    (a : Option Addr) (cap n : Nat) (l : List Tk) (hn : l.length = n) (hv : V1 w0 a cap (txL l)) (hl : n ≤ 4194304) (hm : ∀ s ∈ l, s.length ≤ 4194304) (hL : Lib3 w0) (h : meB l bs gs f = false) :
    Calls Tryz.prog 46 #[.pointer (some ⟨p, 0, none⟩), .slice a n cap] w fun e w' => e = .returned (.int .i64 5) ∧ But p w w' := by
  have hmf : ∀ (fn : Fn) (first cap : Array Value) (w : World), (Instr.makeFunc fn first cap).run Tryz.prog w = .ok (.func fn first cap) w := fun _ _ _ _ => rfl
  have N1 := new_of w (.cells #[.int .i64 5] 2)
  have hpc : w.heap.size ≠ p := by omega
  obtain ⟨w1, hw1⟩ : ∃ w1, w1 = w.alloc (.cells #[.int .i64 5] 2) := ⟨_, rfl⟩
  rw [← hw1] at N1
  have B1 := Lib.hid (show Below w.heap.size w w1 by rw [hw1]; exact bel1 w _)
  have PC1 := Lib.hid (show w1.cell? ⟨w.heap.size, 0, none⟩ = some (.int .i64 5) ∧ w1.frozen? ⟨w.heap.size, 0, none⟩ = false ∧ w.heap.size < w1.heap.size from
    ⟨by simp only [World.cell?, N1]; rfl, by simp only [World.frozen?, N1]; rfl, by rw [hw1, World.size_alloc]; omega⟩)
  have HW1 := Lib.hid hw1
  have hb01 : Below w0.heap.size w0 w1 := hw0.trans (B1.out.mono hw0.size)
  have HDO := Lib.hid (T.deedsOf_any w0 w1 hb01 a cap l n hn hv hl hm hL)
  have e1 := B1.out.block p hp
  have X1 := Lib.hid (show w1.cell? ⟨p, 0, none⟩ = some (.slice ba bn bc) ∧ w1.cell? ⟨p, 1, none⟩ = some (.slice ga gn gc) ∧ w1.cell? ⟨p, 2, none⟩ = some (.int .i64 f) from ⟨(World.cell?_of_block (w := w) e1).trans c0, (World.cell?_of_block (w := w) e1).trans c1, (World.cell?_of_block (w := w) e1).trans c2⟩)
  have Z1 := Lib.hid (show w1.frozen? ⟨p, 0, none⟩ = false ∧ w1.frozen? ⟨p, 1, none⟩ = false ∧ w1.frozen? ⟨p, 2, none⟩ = false from ⟨(World.frozen?_of_block (w := w) e1).trans hfz.1, (World.frozen?_of_block (w := w) e1).trans hfz.2.1, (World.frozen?_of_block (w := w) e1).trans hfz.2.2⟩)
  have V1b := Lib.hid (hb.but (But.of B1.out))
  have V1g := Lib.hid (hg.below hb01)
  have hp1 : p < w1.heap.size := Nat.lt_of_lt_of_le hp B1.out.size
  clear N1 e1 c0 c1 c2 hb hfz
  have HF := Lib.hid (fun w => fuelOk_any f w)
  have HBU := Lib.hid (fun (z : World) (hz : Below w.heap.size w z) => (But.of hz : But p w z))
  have BUW := Lib.hid (fun (z : World) (hz : Below w.heap.size w z) => (((But.of hz : But p w z).setNew (p := ⟨w.heap.size, 0, none⟩) (Nat.le_refl _) (.int .i64 5)) : But p w (z.setCell ⟨w.heap.size, 0, none⟩ (.int .i64 5))))
  unfold meB at h
  generalize T.rcR l = tr at *
  generalize rcB l = y1 at *
  have HBO := Lib.hid (fun z (hz : VwI z ba bc bs) => implBins_any z ba bc bs bn hbn hz hbl)
  have HGO := Lib.hid (fun z (hz : V1 z ga gc (inL gs)) => givenOk_any z ga gc gs gn hgn hz hgl)
  generalize okI bs = y2 at *
  generalize thB gs = y3 at *
  generalize inB f 0 400 = y4 at *
  go_enter_defers Tryz.func46, Tryz.ntmps46
  go_wp2_with fail
  rw [← HW1.out]
  clear hmf HW1
  generalize w.heap.size = pc at *
  refine HDO.out.mono ?_; rintro e w2 ⟨b, m, c, rfl, b2, -⟩
  have B2 := Lib.hid (B1.out.trans (b2.mono (Nat.le_of_lt PC1.out.2.2)))
  have PC2 := Lib.hid (show w2.cell? ⟨pc, 0, none⟩ = some (.int .i64 5) ∧ w2.frozen? ⟨pc, 0, none⟩ = false ∧ pc < w2.heap.size from ⟨(World.cell?_of_block (w := w1) (b2.block pc PC1.out.2.2)).trans PC1.out.1, (World.frozen?_of_block (w := w1) (b2.block pc PC1.out.2.2)).trans PC1.out.2.1, Nat.lt_of_lt_of_le PC1.out.2.2 b2.size⟩)
  have X2 := Lib.hid (show w2.cell? ⟨p, 0, none⟩ = some (.slice ba bn bc) ∧ w2.cell? ⟨p, 1, none⟩ = some (.slice ga gn gc) ∧ w2.cell? ⟨p, 2, none⟩ = some (.int .i64 f) from ⟨(World.cell?_of_block (w := w1) (b2.block p hp1)).trans X1.out.1, (World.cell?_of_block (w := w1) (b2.block p hp1)).trans X1.out.2.1, (World.cell?_of_block (w := w1) (b2.block p hp1)).trans X1.out.2.2⟩)
  have Z2 := Lib.hid (show w2.frozen? ⟨p, 0, none⟩ = false ∧ w2.frozen? ⟨p, 1, none⟩ = false ∧ w2.frozen? ⟨p, 2, none⟩ = false from ⟨(World.frozen?_of_block (w := w1) (b2.block p hp1)).trans Z1.out.1, (World.frozen?_of_block (w := w1) (b2.block p hp1)).trans Z1.out.2.1, (World.frozen?_of_block (w := w1) (b2.block p hp1)).trans Z1.out.2.2⟩)
  have V2b := Lib.hid (V1b.out.but (But.of b2))
  have V2g := Lib.hid (V1g.out.below b2)
  have hp2 : p < w2.heap.size := Nat.lt_of_lt_of_le hp1 b2.size
  clear b2
  cases y1
  · go_wp2_with fail
    refine (req_no _ 5).mono ?_; rintro e z ⟨rfl, rfl⟩
    refine leaves_cons (f := 73) (args := #[.pointer (some ⟨pc, 0, none⟩)]) (by simp) (by simp [go_sem]) ?_
    refine (catch_panic pc 5 _ _ PC2.out.1 PC2.out.2.1).mono ?_; rintro e u' w9 ⟨rfl, rfl, rfl⟩
    refine ⟨.int .i64 5, ?_, ?_⟩
    · have hcc := World.cell?_setCell_same' (w := w2) (a := ⟨pc, 0, none⟩) (v := .int .i64 5) (by rw [PC2.out.1]; rfl)
      simp [results, Tryz.results46, go_sem, PC2.out.1]
    · exact ⟨rfl, BUW.out _ B2.out⟩
  · have x2 := X2.out.1
    have x2' := X2.out.2.1
    have x2'' := X2.out.2.2
    go_wp2_with fail
    refine (HBO.out _ V2b.out.1).mono ?_; rintro e w3 ⟨rfl, b3⟩
    have B3 := Lib.hid (B2.out.trans (b3.mono (Nat.le_of_lt PC2.out.2.2)))
    have PC3 := Lib.hid (show w3.cell? ⟨pc, 0, none⟩ = some (.int .i64 5) ∧ w3.frozen? ⟨pc, 0, none⟩ = false ∧ pc < w3.heap.size from ⟨(World.cell?_of_block (w := w2) (b3.block pc PC2.out.2.2)).trans PC2.out.1, (World.frozen?_of_block (w := w2) (b3.block pc PC2.out.2.2)).trans PC2.out.2.1, Nat.lt_of_lt_of_le PC2.out.2.2 b3.size⟩)
    have X3 := Lib.hid (show w3.cell? ⟨p, 0, none⟩ = some (.slice ba bn bc) ∧ w3.cell? ⟨p, 1, none⟩ = some (.slice ga gn gc) ∧ w3.cell? ⟨p, 2, none⟩ = some (.int .i64 f) from ⟨(World.cell?_of_block (w := w2) (b3.block p hp2)).trans X2.out.1, (World.cell?_of_block (w := w2) (b3.block p hp2)).trans X2.out.2.1, (World.cell?_of_block (w := w2) (b3.block p hp2)).trans X2.out.2.2⟩)
    have Z3 := Lib.hid (show w3.frozen? ⟨p, 0, none⟩ = false ∧ w3.frozen? ⟨p, 1, none⟩ = false ∧ w3.frozen? ⟨p, 2, none⟩ = false from ⟨(World.frozen?_of_block (w := w2) (b3.block p hp2)).trans Z2.out.1, (World.frozen?_of_block (w := w2) (b3.block p hp2)).trans Z2.out.2.1, (World.frozen?_of_block (w := w2) (b3.block p hp2)).trans Z2.out.2.2⟩)
    have V3b := Lib.hid (V2b.out.but (But.of b3))
    have V3g := Lib.hid (V2g.out.below b3)
    have hp3 : p < w3.heap.size := Nat.lt_of_lt_of_le hp2 b3.size
    clear b3 x2 x2' x2''
    have x3' := X3.out.2.1
    have x3'' := X3.out.2.2
    cases y2
    · go_wp2_with fail
      refine (req_no _ 5).mono ?_; rintro e z ⟨rfl, rfl⟩
      refine leaves_cons (f := 73) (args := #[.pointer (some ⟨pc, 0, none⟩)]) (by simp) (by simp [go_sem]) ?_
      refine (catch_panic pc 5 _ _ PC3.out.1 PC3.out.2.1).mono ?_; rintro e u' w9 ⟨rfl, rfl, rfl⟩
      refine ⟨.int .i64 5, ?_, ?_⟩
      · have hcc := World.cell?_setCell_same' (w := w3) (a := ⟨pc, 0, none⟩) (v := .int .i64 5) (by rw [PC3.out.1]; rfl)
        simp [results, Tryz.results46, go_sem, PC3.out.1]
      · exact ⟨rfl, BUW.out _ B3.out⟩
    · go_wp2_with fail
      refine (HGO.out _ V3g.out).mono ?_; rintro e w4 ⟨rfl, rfl⟩
      cases y3
      · go_wp2_with fail
        refine (req_no _ 5).mono ?_; rintro e z ⟨rfl, rfl⟩
        refine leaves_cons (f := 73) (args := #[.pointer (some ⟨pc, 0, none⟩)]) (by simp) (by simp [go_sem]) ?_
        refine (catch_panic pc 5 _ _ PC3.out.1 PC3.out.2.1).mono ?_; rintro e u' w9 ⟨rfl, rfl, rfl⟩
        refine ⟨.int .i64 5, ?_, ?_⟩
        · have hcc := World.cell?_setCell_same' (w := w3) (a := ⟨pc, 0, none⟩) (v := .int .i64 5) (by rw [PC3.out.1]; rfl)
          simp [results, Tryz.results46, go_sem, PC3.out.1]
        · exact ⟨rfl, BUW.out _ B3.out⟩
      · go_wp2_with fail
        refine (HF.out _).mono ?_; rintro e w4 ⟨rfl, rfl⟩
        have hy : y4 = false := h
        subst hy
        go_wp2_with fail
        refine (req_no _ 5).mono ?_; rintro e z ⟨rfl, rfl⟩
        refine leaves_cons (f := 73) (args := #[.pointer (some ⟨pc, 0, none⟩)]) (by simp) (by simp [go_sem]) ?_
        refine (catch_panic pc 5 _ _ PC3.out.1 PC3.out.2.1).mono ?_; rintro e u' w9 ⟨rfl, rfl, rfl⟩
        refine ⟨.int .i64 5, ?_, ?_⟩
        · have hcc := World.cell?_setCell_same' (w := w3) (a := ⟨pc, 0, none⟩) (v := .int .i64 5) (by rw [PC3.out.1]; rfl)
          simp [results, Tryz.results46, go_sem, PC3.out.1]
        · exact ⟨rfl, BUW.out _ B3.out⟩
set_option maxHeartbeats 8000000 in
set_option maxRecDepth 100000 in
theorem run_ok (w0 w : World) (p : Nat) (hB : w0.heap.size ≤ p) (hp : p < w.heap.size) (hw0 : Below w0.heap.size w0 w) (hfz : w.frozen? ⟨p, 0, none⟩ = false ∧ w.frozen? ⟨p, 1, none⟩ = false ∧ w.frozen? ⟨p, 2, none⟩ = false) (ba : Option Addr) (bn bc : Nat) (bs : List Bi) (hbn : bs.length = bn) (hbl : bn ≤ 4194304) (c0 : w.cell? ⟨p, 0, none⟩ = some (.slice ba bn bc)) (hb : VwX p w ba bc bs) (ga : Option Addr) (gc gn : Nat) (gs : List Int) (hgn : gs.length = gn) (hgl : gn ≤ 4194304) (c1 : w.cell? ⟨p, 1, none⟩ = some (.slice ga gn gc)) (hg : V1 w0 ga gc (inL gs)) (f : Int) (c2 : w.cell? ⟨p, 2, none⟩ = some (.int .i64 f))
    (a : Option Addr) (cap n : Nat) (l : List Tk) (hn : l.length = n) (hv : V1 w0 a cap (txL l)) (hl : n ≤ 4194304) (hm : ∀ s ∈ l, s.length ≤ 4194304) (hL : Lib3 w0) (h : meB l bs gs f = true) (t : Sl) (hw : t.wf 5) (ht : l = t.fl) :
    Calls Tryz.prog 46 #[.pointer (some ⟨p, 0, none⟩), .slice a n cap] w fun e w' => e = .returned (.int .i64 (t.run gs ⟨0, bs, f⟩).c) ∧ But p w w' ∧ ((t.run gs ⟨0, bs, f⟩).c = 0 → Xm w0 p ga gc gs (t.run gs ⟨0, bs, f⟩) w') := by
  have hmf : ∀ (fn : Fn) (first cap : Array Value) (w : World), (Instr.makeFunc fn first cap).run Tryz.prog w = .ok (.func fn first cap) w := fun _ _ _ _ => rfl
  have N1 := new_of w (.cells #[.int .i64 5] 2)
  have hpc : w.heap.size ≠ p := by omega
  obtain ⟨w1, hw1⟩ : ∃ w1, w1 = w.alloc (.cells #[.int .i64 5] 2) := ⟨_, rfl⟩
  rw [← hw1] at N1
  have B1 := Lib.hid (show Below w.heap.size w w1 by rw [hw1]; exact bel1 w _)
  have PC1 := Lib.hid (show w1.cell? ⟨w.heap.size, 0, none⟩ = some (.int .i64 5) ∧ w1.frozen? ⟨w.heap.size, 0, none⟩ = false ∧ w.heap.size < w1.heap.size from
    ⟨by simp only [World.cell?, N1]; rfl, by simp only [World.frozen?, N1]; rfl, by rw [hw1, World.size_alloc]; omega⟩)
  have HW1 := Lib.hid hw1
  have hb01 : Below w0.heap.size w0 w1 := hw0.trans (B1.out.mono hw0.size)
  have HDO := Lib.hid (T.deedsOf_any w0 w1 hb01 a cap l n hn hv hl hm hL)
  have e1 := B1.out.block p hp
  have X1 := Lib.hid (show w1.cell? ⟨p, 0, none⟩ = some (.slice ba bn bc) ∧ w1.cell? ⟨p, 1, none⟩ = some (.slice ga gn gc) ∧ w1.cell? ⟨p, 2, none⟩ = some (.int .i64 f) from ⟨(World.cell?_of_block (w := w) e1).trans c0, (World.cell?_of_block (w := w) e1).trans c1, (World.cell?_of_block (w := w) e1).trans c2⟩)
  have Z1 := Lib.hid (show w1.frozen? ⟨p, 0, none⟩ = false ∧ w1.frozen? ⟨p, 1, none⟩ = false ∧ w1.frozen? ⟨p, 2, none⟩ = false from ⟨(World.frozen?_of_block (w := w) e1).trans hfz.1, (World.frozen?_of_block (w := w) e1).trans hfz.2.1, (World.frozen?_of_block (w := w) e1).trans hfz.2.2⟩)
  have V1b := Lib.hid (hb.but (But.of B1.out))
  have V1g := Lib.hid (hg.below hb01)
  have hp1 : p < w1.heap.size := Nat.lt_of_lt_of_le hp B1.out.size
  clear N1 e1 c0 c1 c2 hb hfz
  have HF := Lib.hid (fun w => fuelOk_any f w)
  have HBU := Lib.hid (fun (z : World) (hz : Below w.heap.size w z) => (But.of hz : But p w z))
  have hlo : w0.heap.size ≤ w.heap.size := hw0.size
  have BUW := Lib.hid (fun (z : World) (x : Int) (hz : But p w z) => ((hz.setNew (p := ⟨w.heap.size, 0, none⟩) (Nat.le_refl _) (.int .i64 x)) : But p w (z.setCell ⟨w.heap.size, 0, none⟩ (.int .i64 x))))
  have hbd : Bd t.fl := by rw [← ht]; exact ⟨by omega, hm⟩
  have hrc : T.rcR l = t := by rw [ht]; exact T.rc_det hw
  rw [hrc] at HDO
  unfold meB at h
  rw [Bool.and_eq_true, Bool.and_eq_true, Bool.and_eq_true] at h
  obtain ⟨h1, h2, h3, h4⟩ := h
  have HBO := Lib.hid (fun z (hz : VwI z ba bc bs) => implBins_any z ba bc bs bn hbn hz hbl)
  have HGO := Lib.hid (fun z (hz : V1 z ga gc (inL gs)) => givenOk_any z ga gc gs gn hgn hz hgl)
  have hg3 : gs.length = 3 := by unfold thB at h3; rw [Bool.and_eq_true, decide_eq_true_eq] at h3; exact h3.2
  have hf04 : 0 ≤ f ∧ f ≤ 400 := by unfold inB at h4; rw [Bool.and_eq_true, decide_eq_true_eq, decide_eq_true_eq] at h4; exact h4
  obtain rfl : gn = 3 := by omega
  have HXM := Lib.hid (fun (z : World) (hz : w1.heap.size ≤ z.heap.size) (hb : Below w1.heap.size w1 z) (vb : VwX p z ba bc bs) (cc : z.cell? ⟨p, 0, none⟩ = some (.slice ba bn bc) ∧ z.cell? ⟨p, 1, none⟩ = some (.slice ga (3 : Nat) gc) ∧ z.cell? ⟨p, 2, none⟩ = some (.int .i64 f)) (zz : z.frozen? ⟨p, 0, none⟩ = false ∧ z.frozen? ⟨p, 1, none⟩ = false ∧ z.frozen? ⟨p, 2, none⟩ = false) =>
    (⟨hB, Nat.lt_of_lt_of_le hp1 hz, zz, ⟨ba, bn, bc, cc.1, hbn, vb⟩, cc.2.1, cc.2.2, hb01.trans (hb.mono hb01.size), hg, hg3, hL, h2, h3, hf04⟩ : Xm w0 p ga gc gs ⟨0, bs, f⟩ z))
  have HDS := Lib.hid (deedsX_of w0 p ga gc gs w1.heap.size t (Sl.runX w0 p ga gc gs w1.heap.size t hw hbd))
  rw [h1] at HDO
  rw [h2] at HBO
  rw [h3] at HGO
  rw [h4] at HF
  clear hm hv hrc ht hw hbd h1 h2 h3 h4 hf04 hg hg3 hgl hbl hw0 hb01 hL hl hB
  obtain ⟨fin, hfin⟩ : ∃ r, t.run gs ⟨0, bs, f⟩ = r := ⟨_, rfl⟩
  rw [hfin]
  have HFIN := Lib.hid hfin; clear hfin
  go_enter_defers Tryz.func46, Tryz.ntmps46
  go_wp2_with fail
  rw [← HW1.out]
  clear hmf HW1
  generalize w.heap.size = pc at *
  refine HDO.out.mono ?_; rintro e w2 ⟨b, m, c, rfl, b2, hdm⟩
  have DM2 := Lib.hid (hdm (by first | exact trivial | rfl))
  have C2 := Lib.hid b2
  have B2 := Lib.hid (B1.out.trans (b2.mono (Nat.le_of_lt PC1.out.2.2)))
  have PC2 := Lib.hid (show w2.cell? ⟨pc, 0, none⟩ = some (.int .i64 5) ∧ w2.frozen? ⟨pc, 0, none⟩ = false ∧ pc < w2.heap.size from ⟨(World.cell?_of_block (w := w1) (b2.block pc PC1.out.2.2)).trans PC1.out.1, (World.frozen?_of_block (w := w1) (b2.block pc PC1.out.2.2)).trans PC1.out.2.1, Nat.lt_of_lt_of_le PC1.out.2.2 b2.size⟩)
  have X2 := Lib.hid (show w2.cell? ⟨p, 0, none⟩ = some (.slice ba bn bc) ∧ w2.cell? ⟨p, 1, none⟩ = some (.slice ga (3 : Nat) gc) ∧ w2.cell? ⟨p, 2, none⟩ = some (.int .i64 f) from ⟨(World.cell?_of_block (w := w1) (b2.block p hp1)).trans X1.out.1, (World.cell?_of_block (w := w1) (b2.block p hp1)).trans X1.out.2.1, (World.cell?_of_block (w := w1) (b2.block p hp1)).trans X1.out.2.2⟩)
  have Z2 := Lib.hid (show w2.frozen? ⟨p, 0, none⟩ = false ∧ w2.frozen? ⟨p, 1, none⟩ = false ∧ w2.frozen? ⟨p, 2, none⟩ = false from ⟨(World.frozen?_of_block (w := w1) (b2.block p hp1)).trans Z1.out.1, (World.frozen?_of_block (w := w1) (b2.block p hp1)).trans Z1.out.2.1, (World.frozen?_of_block (w := w1) (b2.block p hp1)).trans Z1.out.2.2⟩)
  have V2b := Lib.hid (V1b.out.but (But.of b2))
  have V2g := Lib.hid (V1g.out.below b2)
  have hp2 : p < w2.heap.size := Nat.lt_of_lt_of_le hp1 b2.size
  clear b2 hdm
  have x2 := X2.out.1
  have x2' := X2.out.2.1
  have x2'' := X2.out.2.2
  go_wp2_with fail
  refine (HBO.out _ V2b.out.1).mono ?_; rintro e w3 ⟨rfl, b3⟩
  have C3 := Lib.hid (C2.out.trans (b3.mono C2.out.size))
  have DM3 := Lib.hid (T.DM.but hp1 (But.of b3) DM2.out)
  have B3 := Lib.hid (B2.out.trans (b3.mono (Nat.le_of_lt PC2.out.2.2)))
  have PC3 := Lib.hid (show w3.cell? ⟨pc, 0, none⟩ = some (.int .i64 5) ∧ w3.frozen? ⟨pc, 0, none⟩ = false ∧ pc < w3.heap.size from ⟨(World.cell?_of_block (w := w2) (b3.block pc PC2.out.2.2)).trans PC2.out.1, (World.frozen?_of_block (w := w2) (b3.block pc PC2.out.2.2)).trans PC2.out.2.1, Nat.lt_of_lt_of_le PC2.out.2.2 b3.size⟩)
  have X3 := Lib.hid (show w3.cell? ⟨p, 0, none⟩ = some (.slice ba bn bc) ∧ w3.cell? ⟨p, 1, none⟩ = some (.slice ga (3 : Nat) gc) ∧ w3.cell? ⟨p, 2, none⟩ = some (.int .i64 f) from ⟨(World.cell?_of_block (w := w2) (b3.block p hp2)).trans X2.out.1, (World.cell?_of_block (w := w2) (b3.block p hp2)).trans X2.out.2.1, (World.cell?_of_block (w := w2) (b3.block p hp2)).trans X2.out.2.2⟩)
  have Z3 := Lib.hid (show w3.frozen? ⟨p, 0, none⟩ = false ∧ w3.frozen? ⟨p, 1, none⟩ = false ∧ w3.frozen? ⟨p, 2, none⟩ = false from ⟨(World.frozen?_of_block (w := w2) (b3.block p hp2)).trans Z2.out.1, (World.frozen?_of_block (w := w2) (b3.block p hp2)).trans Z2.out.2.1, (World.frozen?_of_block (w := w2) (b3.block p hp2)).trans Z2.out.2.2⟩)
  have V3b := Lib.hid (V2b.out.but (But.of b3))
  have V3g := Lib.hid (V2g.out.below b3)
  have hp3 : p < w3.heap.size := Nat.lt_of_lt_of_le hp2 b3.size
  clear b3 x2 x2' x2''
  have x3' := X3.out.2.1
  have x3'' := X3.out.2.2
  go_wp2_with fail
  refine (HGO.out _ V3g.out).mono ?_; rintro e w4 ⟨rfl, rfl⟩
  go_wp2_with fail
  refine (HF.out _).mono ?_; rintro e w4 ⟨rfl, rfl⟩
  go_wp2_with fail
  refine (req_yes _ 5).mono ?_; rintro e w4 ⟨rfl, rfl⟩
  have HXX := Lib.hid (HXM.out w3 C3.out.size C3.out V3b.out X3.out Z3.out)
  have HRUN := Lib.hid (HDS.out 6 _ ⟨0, bs, f⟩ w3 rfl hp1 HXX.out DM3.out)
  rw [HFIN.out] at HRUN
  clear x3' x3''
  go_wp2_with fail
  refine HRUN.out.mono ?_; rintro e w4 ⟨b4, h4, k4⟩
  have PC4 := Lib.hid (show w4.cell? ⟨pc, 0, none⟩ = some (.int .i64 5) ∧ w4.frozen? ⟨pc, 0, none⟩ = false ∧ pc < w4.heap.size from ⟨(b4.cell (p := ⟨pc, 0, none⟩) PC3.out.2.2 hpc).trans PC3.out.1, (b4.frozen (p := ⟨pc, 0, none⟩) PC3.out.2.2 hpc).trans PC3.out.2.1, Nat.lt_of_lt_of_le PC3.out.2.2 b4.size⟩)
  have BU4 := Lib.hid ((HBU.out _ B3.out).trans b4)
  by_cases hz : fin.c = 0
  · obtain ⟨rfl, x4⟩ := h4 hz
    have X4 := Lib.hid x4
    have XN := Lib.hid (fun x => X4.out.off (g := pc) hpc hlo PC4.out.1 (.int .i64 x))
    have pc4 := PC4.out.1
    have pf4 := PC4.out.2.1
    clear b4 h4 k4 x4
    go_wp2_with fail
    refine leaves_cons (f := 73) (args := #[.pointer (some ⟨pc, 0, none⟩)]) (by simp) (by simp [go_sem]) ?_
    refine (catch_idle pc _).mono ?_; rintro e u' w9 ⟨rfl, rfl, rfl⟩
    refine ⟨.int .i64 fin.c, ?_, ?_⟩
    · rw [hz]; simp [results, Tryz.results46, go_sem, PC4.out.1]
    · exact ⟨rfl, BUW.out _ _ BU4.out, fun _ => XN.out 0⟩
  · obtain rfl := k4 hz
    refine leaves_cons (f := 73) (args := #[.pointer (some ⟨pc, 0, none⟩)]) (by simp) (by simp [go_sem]) ?_
    refine (catch_panic pc fin.c _ _ PC4.out.1 PC4.out.2.1).mono ?_; rintro e u' w9 ⟨rfl, rfl, rfl⟩
    refine ⟨.int .i64 fin.c, ?_, ?_⟩
    · have hcc := World.cell?_setCell_same' (w := w4) (a := ⟨pc, 0, none⟩) (v := .int .i64 fin.c) (by rw [PC4.out.1]; rfl)
      simp [results, Tryz.results46, go_sem, PC4.out.1]
    · exact ⟨rfl, BUW.out _ _ BU4.out, fun e => absurd e hz⟩
set_option maxHeartbeats 2000000 in
set_option maxRecDepth 100000 in
theorem cloneB_any (w : World) (a : Option Addr) (cap : Nat) (l : List Bi) (n : Nat) (hn : l.length = n) (hv : VwI w a cap l) (hl : n ≤ 4194304) :
    Calls Tryz.prog 47 #[.slice a n cap] w fun e w' => ∃ v, e = .returned v ∧ OwI w.heap.size w' v l ∧ Below w.heap.size w w' := by
  subst hn
  have hT : Tryz.prog.underlying 25 = some (.slice 44) := Tryz.underlying25
  have hq : ∀ w, (binOp .eql 25 (.slice a l.length cap) (.slice none 0 0)).run Tryz.prog w = .ok (.bool a.isNone) w := fun w => Lib.run_eql_slice_nil w _ _ a l.length cap 0 0 hT
  cases a with
  | none =>
    have hc := hv.2.2.1 rfl
    have hm : l = [] := List.length_eq_zero_iff.1 (by have := hv.1; omega)
    subst hm hc
    replace hq : ∀ w, (binOp .eql 25 (.slice none 0 0) (.slice none 0 0)).run Tryz.prog w = .ok (.bool true) w := hq
    go_enter Tryz.func47, Tryz.ntmps47
    go_wp2_with fail
    go_ret
    exact ⟨_, rfl, OwI.nothing _ _, Below.refl _ _⟩
  | some ad =>
    have HV := Lib.hid hv; clear hv
    replace hq : ∀ w, (binOp .eql 25 (.slice (some ad) l.length cap) (.slice none 0 0)).run Tryz.prog w = .ok (.bool false) w := hq
    go_enter Tryz.func47, Tryz.ntmps47
    go_wp2_with (first
      | (at_builtin; refine append_binsT rfl (.tmp 5) (.tmp 6) 25 hT rfl (base := w.heap.size) (l := []) (m := l) rfl rfl rfl (OwI.start (Nat.le_refl _)) (HV.out.below (bel1 _ _)) (by simp; omega) (by simp) ?_; intro v1 w1 hown1 hgrow1))
    go_ret
    exact ⟨_, rfl, hown1, (bel1 w _).grown hgrow1 (by simp) (fun j hj => OwI.lt (OwI.start (Nat.le_refl _)) j hj)⟩
end Go.Proofs.YtfnnoehpahdgcaaGreatDoor.Cl
namespace Go.Proofs.YtfnnoehpahdgcaaGreatDoor.Cl
set_option linter.unusedVariables false
open Go.RowKit Wd Rp Cu Kp
def meV (l : List Tk) (bs : List Bi) (gs : List Int) (f : Int) : St0 := if meB l bs gs f = true then (T.rcR l).end_ gs bs f else ⟨5, bs, 0⟩
theorem meV_no {l : List Tk} {bs : List Bi} {gs : List Int} {f : Int} (h : meB l bs gs f = false) : meV l bs gs f = ⟨5, bs, 0⟩ := by unfold meV; rw [h]; rfl
theorem meB_tree {l : List Tk} {bs : List Bi} {gs : List Int} {f : Int} (h : meB l bs gs f = true) : ∃ t : Sl, t.wf 5 ∧ l = t.fl ∧ meV l bs gs f = t.end_ gs bs f := by
  have h1 : rcB l = true := by unfold meB at h; rw [Bool.and_eq_true] at h; exact h.1
  obtain ⟨t, hw, ht⟩ := rc_tree h1
  refine ⟨t, hw, ht, ?_⟩
  unfold meV
  rw [if_pos h, ht, T.rc_det hw]
theorem meB_gn {l : List Tk} {bs : List Bi} {gs : List Int} {f : Int} (h : meB l bs gs f = true) : gs.length = 3 := by
  unfold meB at h
  rw [Bool.and_eq_true, Bool.and_eq_true, Bool.and_eq_true] at h
  exact thB_len h.2.2.1
theorem specMeans_any (w : World) (a : Option Addr) (cap : Nat) (l : List Tk) (n : Nat) (hn : l.length = n) (hl : n ≤ 4194304) (hm : ∀ s ∈ l, s.length ≤ 4194304) (hv : V1 w a cap (txL l)) (ba : Option Addr) (bc bn : Nat) (bs : List Bi) (hbn : bs.length = bn) (hb : VwI w ba bc bs) (hbl : bn ≤ 4194304) (ga : Option Addr) (gc gn : Nat) (gs : List Int) (hgn : gs.length = gn) (hgl : gn ≤ 4194304) (hg : V1 w ga gc (inL gs)) (f : Int) (hbm : ∀ c ∈ bs, c.n.size ≤ 9223372036854775806) :
    Calls Tryz.prog 13 #[.slice a n cap, .slice ba bn bc, .slice ga gn gc, .int .i64 f] w (EndP w.heap.size (meV l bs gs f) w) := by
  cases h : meB l bs gs f with
  | false => rw [meV_no h]; exact specMeans_bad w a cap l n hn hl hm hv ba bc bn bs hbn hb hbl hbm ga gc gn gs hgn hgl hg f h
  | true =>
    obtain ⟨t, hw, ht, e⟩ := meB_tree h
    have hg3 := meB_gn h
    obtain rfl : gn = 3 := by omega
    rw [e]
    exact specMeans_ok w a cap l n hn hl hm hv ba bc bn bs hbn hb hbm ga gc gs hg f h t hw ht
set_option maxHeartbeats 8000000 in
set_option maxRecDepth 100000 in
theorem implMeans_bad (w : World) (a : Option Addr) (cap : Nat) (l : List Tk) (n : Nat) (hn : l.length = n) (hl : n ≤ 4194304) (hm : ∀ s ∈ l, s.length ≤ 4194304) (hv : V1 w a cap (txL l)) (ba : Option Addr) (bc bn : Nat) (bs : List Bi) (hbn : bs.length = bn) (hb : VwI w ba bc bs) (hbl : bn ≤ 4194304) (ga : Option Addr) (gc gn : Nat) (gs : List Int) (hgn : gs.length = gn) (hgl : gn ≤ 4194304) (hg : V1 w ga gc (inL gs)) (f : Int) (hL : Lib3 w) (h : meB l bs gs f = false) :
    Calls Tryz.prog 9 #[.slice a n cap, .slice ba bn bc, .slice ga gn gc, .int .i64 f] w (EndP w.heap.size ⟨5, bs, 0⟩ w) := by
  have hb1 := bel1 w (.cells #[.int .i64 0, .slice none 0 0, .int .i64 0] 30)
  have hb2 := bel1 (w.alloc (.cells #[.int .i64 0, .slice none 0 0, .int .i64 0] 30)) (.cells #[.slice ba bn bc, .slice ga gn gc, .int .i64 f] 67)
  have hbb := hb1.trans (hb2.mono hb1.size)
  have N1 := Tri.made (.int .i64 0) (.slice none 0 0) (.int .i64 0) w 30
  have N2 := Tri.made (.slice ba bn bc) (.slice ga gn gc) (.int .i64 f) (w.alloc (.cells #[.int .i64 0, .slice none 0 0, .int .i64 0] 30)) 67
  have hz1 : (w.alloc (.cells #[.int .i64 0, .slice none 0 0, .int .i64 0] 30)).heap.size = w.heap.size + 1 := World.size_alloc _ _
  have T1 := Lib.hid (N1.below hb2 N1.2.2)
  rw [hz1] at N2
  have VX := hb.below hbb
  have hvx : VwX (w.heap.size + 1) ((w.alloc (.cells #[.int .i64 0, .slice none 0 0, .int .i64 0] 30)).alloc (.cells #[.slice ba bn bc, .slice ga gn gc, .int .i64 f] 67)) ba bc bs := ⟨VX, fun k c hk g o e => by
    obtain ⟨g', o', e', hg', -⟩ := hb.2.2.2 k c hk
    rw [e] at e'; cases e'; omega⟩
  have HR := Lib.hid (run_bad w _ (w.heap.size + 1) (Nat.le_succ _) N2.2.2 hbb N2.2.1 ba bn bc bs hbn hbl N2.1.1 hvx ga gc gn gs hgn hgl N2.1.2.1 hg f N2.1.2.2 a cap n l hn hv hl hm hL h)
  have HBW := Lib.hid (fun (z : World) (h : But (w.heap.size + 1) ((w.alloc (.cells #[.int .i64 0, .slice none 0 0, .int .i64 0] 30)).alloc (.cells #[.slice ba bn bc, .slice ga gn gc, .int .i64 f] 67)) z) => (show Below w.heap.size w z from hbb.trans (h.below (Nat.le_succ _) (by rw [World.size_alloc, hz1]; omega))))
  have HVX := Lib.hid hvx
  have HN2 := Lib.hid N2
  have heb : w.heap.size ≠ w.heap.size + 1 := by omega
  obtain ⟨pp, hpp⟩ : ∃ pp, w.heap.size + 1 = pp := ⟨_, rfl⟩
  rw [hpp] at HR HBW HVX HN2 heb
  clear hb1 hb2 hbb N1 N2 VX hvx hb hv hg hm
  go_enter Tryz.func9, Tryz.ntmps9
  go_wp2_with fail
  try rw [hz1, hpp]
  clear hz1 hpp
  generalize w.heap.size = eb at *
  generalize (w.alloc (.cells #[.int .i64 0, .slice none 0 0, .int .i64 0] 30)).alloc (.cells #[.slice ba bn bc, .slice ga gn gc, .int .i64 f] 67) = w2 at *
  refine HR.out.mono ?_; rintro e w3 ⟨rfl, bu3⟩
  have B3 := Lib.hid (HBW.out _ bu3)
  have T3 := Lib.hid (show Tri eb (.int .i64 0) (.slice none 0 0) (.int .i64 0) w3 from by
    have e := bu3.block eb T1.out.2.2 heb
    obtain ⟨⟨h0, h1, h2⟩, ⟨f0, f1, f2⟩, hl⟩ := T1.out
    exact ⟨⟨(World.cell?_of_block (w := w2) e).trans h0, (World.cell?_of_block (w := w2) e).trans h1, (World.cell?_of_block (w := w2) e).trans h2⟩, ⟨(World.frozen?_of_block (w := w2) e).trans f0, (World.frozen?_of_block (w := w2) e).trans f1, (World.frozen?_of_block (w := w2) e).trans f2⟩, Nat.lt_of_lt_of_le hl bu3.size⟩)
  have VB3 := Lib.hid (show VwI w3 ba bc bs from (HVX.out.but bu3).1)
  clear bu3
  go_wp2_with fail
  refine (cloneB_any w3 ba bc bs bn hbn VB3.out hbl).mono ?_; rintro e w4 ⟨v4, rfl, o4, b4⟩
  obtain ⟨va4, vc4, rfl, -⟩ := o4.view
  rw [hbn] at o4 ⊢
  have T4 := Lib.hid (T3.out.below b4 T3.out.2.2)
  have O9 := Lib.hid ((OwI.put3 o4 T3.out.2.2 (x := .int .i64 5) (y := .slice va4 bn vc4) (z := .int .i64 0)).mono (Nat.le_of_lt T3.out.2.2))
  have B9 := Lib.hid (put3_below (q := eb) (x := .int .i64 5) (y := .slice va4 bn vc4) (z := .int .i64 0) (B3.out.trans (b4.mono (Nat.le_of_lt T3.out.2.2))) (Nat.le_refl _))
  obtain ⟨⟨q0, q1, q2⟩, ⟨r0, r1, r2⟩, r3⟩ := T4.out
  obtain ⟨⟨p0, p1, p2⟩, -, -⟩ := T4.out.put3 (x' := .int .i64 5) (y' := .slice va4 bn vc4) (z' := .int .i64 0)
  clear o4 b4
  go_wp2_with fail
  refine bodyPost_ret (v := .agg #[.int .i64 5, .slice va4 bn vc4, .int .i64 0]) (by simp only [put3] at p0 p1 p2; simp [results, Tryz.results9, go_sem, p0, p1, p2]) rfl ⟨_, rfl, O9.out, B9.out⟩
set_option maxHeartbeats 8000000 in
set_option maxRecDepth 100000 in
theorem implMeans_ok (w : World) (a : Option Addr) (cap : Nat) (l : List Tk) (n : Nat) (hn : l.length = n) (hl : n ≤ 4194304) (hm : ∀ s ∈ l, s.length ≤ 4194304) (hv : V1 w a cap (txL l)) (ba : Option Addr) (bc bn : Nat) (bs : List Bi) (hbn : bs.length = bn) (hb : VwI w ba bc bs) (hbl : bn ≤ 4194304) (ga : Option Addr) (gc gn : Nat) (gs : List Int) (hgn : gs.length = gn) (hgl : gn ≤ 4194304) (hg : V1 w ga gc (inL gs)) (f : Int) (hL : Lib3 w) (h : meB l bs gs f = true) (t : Sl) (hw : t.wf 5) (ht : l = t.fl) :
    Calls Tryz.prog 9 #[.slice a n cap, .slice ba bn bc, .slice ga gn gc, .int .i64 f] w (EndP w.heap.size (t.end_ gs bs f) w) := by
  have hb1 := bel1 w (.cells #[.int .i64 0, .slice none 0 0, .int .i64 0] 30)
  have hb2 := bel1 (w.alloc (.cells #[.int .i64 0, .slice none 0 0, .int .i64 0] 30)) (.cells #[.slice ba bn bc, .slice ga gn gc, .int .i64 f] 67)
  have hbb := hb1.trans (hb2.mono hb1.size)
  have N1 := Tri.made (.int .i64 0) (.slice none 0 0) (.int .i64 0) w 30
  have N2 := Tri.made (.slice ba bn bc) (.slice ga gn gc) (.int .i64 f) (w.alloc (.cells #[.int .i64 0, .slice none 0 0, .int .i64 0] 30)) 67
  have hz1 : (w.alloc (.cells #[.int .i64 0, .slice none 0 0, .int .i64 0] 30)).heap.size = w.heap.size + 1 := World.size_alloc _ _
  have T1 := Lib.hid (N1.below hb2 N1.2.2)
  rw [hz1] at N2
  have VX := hb.below hbb
  have hvx : VwX (w.heap.size + 1) ((w.alloc (.cells #[.int .i64 0, .slice none 0 0, .int .i64 0] 30)).alloc (.cells #[.slice ba bn bc, .slice ga gn gc, .int .i64 f] 67)) ba bc bs := ⟨VX, fun k c hk g o e => by
    obtain ⟨g', o', e', hg', -⟩ := hb.2.2.2 k c hk
    rw [e] at e'; cases e'; omega⟩
  have HR := Lib.hid (run_ok w _ (w.heap.size + 1) (Nat.le_succ _) N2.2.2 hbb N2.2.1 ba bn bc bs hbn hbl N2.1.1 hvx ga gc gn gs hgn hgl N2.1.2.1 hg f N2.1.2.2 a cap n l hn hv hl hm hL h t hw ht)
  have HBW := Lib.hid (fun (z : World) (h : But (w.heap.size + 1) ((w.alloc (.cells #[.int .i64 0, .slice none 0 0, .int .i64 0] 30)).alloc (.cells #[.slice ba bn bc, .slice ga gn gc, .int .i64 f] 67)) z) => (show Below w.heap.size w z from hbb.trans (h.below (Nat.le_succ _) (by rw [World.size_alloc, hz1]; omega))))
  have HVX := Lib.hid hvx
  have HN2 := Lib.hid N2
  have heb : w.heap.size ≠ w.heap.size + 1 := by omega
  obtain ⟨pp, hpp⟩ : ∃ pp, w.heap.size + 1 = pp := ⟨_, rfl⟩
  rw [hpp] at HR HBW HVX HN2 heb
  clear hb1 hb2 hbb N1 N2 VX hvx hb hv hg hm
  obtain ⟨r, hr⟩ : ∃ r, t.end_ gs bs f = r := ⟨_, rfl⟩
  rw [hr]
  unfold Sl.end_ at hr
  obtain ⟨fin, hfin⟩ : ∃ r, t.run gs ⟨0, bs, f⟩ = r := ⟨_, rfl⟩
  rw [hfin] at hr HR
  have HRR := Lib.hid hr
  clear hr hfin hw ht h
  go_enter Tryz.func9, Tryz.ntmps9
  go_wp2_with fail
  try rw [hz1, hpp]
  clear hz1 hpp
  generalize w.heap.size = eb at *
  generalize (w.alloc (.cells #[.int .i64 0, .slice none 0 0, .int .i64 0] 30)).alloc (.cells #[.slice ba bn bc, .slice ga gn gc, .int .i64 f] 67) = w2 at *
  refine HR.out.mono ?_; rintro e w3 ⟨rfl, bu3, hx3⟩
  have B3 := Lib.hid (HBW.out _ bu3)
  have T3 := Lib.hid (show Tri eb (.int .i64 0) (.slice none 0 0) (.int .i64 0) w3 from by
    have e := bu3.block eb T1.out.2.2 heb
    obtain ⟨⟨h0, h1, h2⟩, ⟨f0, f1, f2⟩, hl⟩ := T1.out
    exact ⟨⟨(World.cell?_of_block (w := w2) e).trans h0, (World.cell?_of_block (w := w2) e).trans h1, (World.cell?_of_block (w := w2) e).trans h2⟩, ⟨(World.frozen?_of_block (w := w2) e).trans f0, (World.frozen?_of_block (w := w2) e).trans f1, (World.frozen?_of_block (w := w2) e).trans f2⟩, Nat.lt_of_lt_of_le hl bu3.size⟩)
  have VB3 := Lib.hid (show VwI w3 ba bc bs from (HVX.out.but bu3).1)
  clear bu3
  by_cases hz : fin.c = 0
  · have X3 := Lib.hid (hx3 hz)
    have er : r = ⟨0, fin.b, fin.f⟩ := by
      have := HRR.out
      rw [if_pos hz] at this
      rw [← this, ← hz]
    subst er
    rw [hz]
    obtain ⟨xa, xn, xc, x0, hxn, hxv⟩ := X3.out.b
    have x2 := X3.out.f
    have xv := Lib.hid (hxv.1.below (Below.refl _ w3).drew)
    clear hxv hx3 hz
    go_wp2_with fail
    refine wp_region_held_drew (S := fun z => z.cell? ⟨pp, 0, none⟩ = some (.slice xa xn xc) ∧ z.cell? ⟨pp, 2, none⟩ = some (.int .i64 fin.f)) (by kernel_rfl) ⟨x0, x2⟩ (fun hHeld => ?_)
    refine wpAnyH_take (i := 0) (v := ?v0m) rfl (by kernel_rfl) (by kernel_rfl) (by kernel_rfl) (fun _ _ _ h => h) (Or.inl ⟨by rfl, ?hy0m⟩) (by assumption) ?rest0m
    case hy0m => (intro zz hSw; (try dsimp only at hSw); go_simp; (try with_reducible rfl))
    change wpAnyH _ _ _ _ _ _ _ (Act.put _ (some 23) _) _
    simp only [Act.put, List.setIfInBounds_toArray, List.set_cons_zero, List.set_cons_succ]
    refine wpAnyH_take (i := 1) (v := ?v1m) rfl (by kernel_rfl) (by kernel_rfl) (by kernel_rfl) (fun _ _ _ h => h) (Or.inl ⟨by rfl, ?hy1m⟩) (by assumption) ?rest1m
    case hy1m => (intro zz hSw; (try dsimp only at hSw); go_simp; (try with_reducible rfl))
    change wpAnyH _ _ _ _ _ _ _ (Act.put _ (some 24) _) _
    simp only [Act.put, List.setIfInBounds_toArray, List.set_cons_zero, List.set_cons_succ]
    refine wpAnyH_take (i := 3) (v := ?v3m) rfl (by kernel_rfl) (by kernel_rfl) (by kernel_rfl) (fun _ _ _ h => h) (Or.inl ⟨by rfl, ?hy3m⟩) (by assumption) ?rest3m
    case hy3m => (intro zz hSw; (try dsimp only at hSw); go_simp; (try with_reducible rfl))
    change wpAnyH _ _ _ _ _ _ _ (Act.put _ (some 26) _) _
    simp only [Act.put, List.setIfInBounds_toArray, List.set_cons_zero, List.set_cons_succ]
    refine wpAnyH_take (i := 4) (v := ?v4m) rfl (by kernel_rfl) (by kernel_rfl) (by kernel_rfl) (fun _ _ _ h => h) (Or.inl ⟨by rfl, ?hy4m⟩) (by assumption) ?rest4m
    case hy4m => (intro zz hSw; (try dsimp only at hSw); go_simp; (try with_reducible rfl))
    change wpAnyH _ _ _ _ _ _ _ (Act.put _ (some 27) _) _
    simp only [Act.put, List.setIfInBounds_toArray, List.set_cons_zero, List.set_cons_succ]
    refine wpAnyH_ready (rs := [2]) (by kernel_rfl) (by simp) (AllReadyH.cons rfl (fun K hK => ?_) (AllReadyH.nil))
    go_simp
    refine (cloneB_any w3.drew xa xc fin.b xn hxn xv.out (by have := X3.out.len; omega)).mono ?_; rintro e w4 ⟨v4, rfl, o4, b4'⟩
    have b4 : Below w3.heap.size w3 w4 := (Below.refl _ w3).drew.trans b4'
    obtain ⟨va4, vc4, rfl, -⟩ := o4.view
    rw [hxn] at o4 ⊢
    have T4 := Lib.hid (T3.out.below b4 T3.out.2.2)
    have O9 := Lib.hid ((OwI.put3 o4 T3.out.2.2 (x := .int .i64 0) (y := .slice va4 xn vc4) (z := .int .i64 fin.f)).mono (Nat.le_of_lt T3.out.2.2))
    have B9 := Lib.hid (put3_below (q := eb) (x := .int .i64 0) (y := .slice va4 xn vc4) (z := .int .i64 fin.f) (B3.out.trans (b4.mono (Nat.le_of_lt T3.out.2.2))) (Nat.le_refl _))
    have P0 := (World.cell?_of_block (w := w3) (a := ⟨pp, 0, none⟩) (b4.block pp X3.out.hp)).trans hHeld.1
    have P2 := (World.cell?_of_block (w := w3) (a := ⟨pp, 2, none⟩) (b4.block pp X3.out.hp)).trans hHeld.2
    obtain ⟨⟨q0, q1, q2⟩, ⟨r0, r1, r2⟩, r3⟩ := T4.out
    refine hK.out _ _ ⟨P0, P2⟩ (fun hHeld => ?_)
    clear hK K o4 b4 b4'
    refine wpAnyH_take (i := 5) (v := ?v5m) rfl (by kernel_rfl) (by kernel_rfl) (by kernel_rfl) (fun _ _ _ h => h) (Or.inl ⟨by rfl, ?hy5m⟩) (by assumption) ?rest5m
    case hy5m => (intro zz hSw; (try dsimp only at hSw); go_simp; (try with_reducible rfl))
    change wpAnyH _ _ _ _ _ _ _ (Act.put _ (some 28) _) _
    simp only [Act.put, List.setIfInBounds_toArray, List.set_cons_zero, List.set_cons_succ]
    refine wpAnyH_ready (rs := [6]) (by kernel_rfl) (by simp) (AllReadyH.cons rfl (fun K hK => ?_) (AllReadyH.nil))
    go_simp
    refine hK.out _ _ ⟨put3_cell (q := eb) (fun e => heb e.symm) P0, put3_cell (q := eb) (fun e => heb e.symm) P2⟩ (fun hHeld => ?_)
    clear hK K
    refine wpAnyH_done (by kernel_rfl) ?_ _
    obtain ⟨⟨p0, p1, p2⟩, -, -⟩ := T4.out.put3 (x' := .int .i64 0) (y' := .slice va4 xn vc4) (z' := .int .i64 fin.f)
    clear hHeld
    go_wp2_with fail
    refine bodyPost_ret (v := .agg #[.int .i64 0, .slice va4 xn vc4, .int .i64 fin.f]) (by simp only [put3] at p0 p1 p2; simp [results, Tryz.results9, go_sem, p0, p1, p2]) rfl ⟨_, rfl, O9.out, B9.out⟩
  · have er : r = ⟨fin.c, bs, 0⟩ := by
      have := HRR.out
      rw [if_neg hz] at this
      exact this.symm
    subst er
    have t1 : (fin.c != 0) = true := by simpa using hz
    clear hx3
    go_wp2_with fail
    refine (cloneB_any w3 ba bc bs bn hbn VB3.out hbl).mono ?_; rintro e w4 ⟨v4, rfl, o4, b4⟩
    obtain ⟨va4, vc4, rfl, -⟩ := o4.view
    rw [hbn] at o4 ⊢
    have T4 := Lib.hid (T3.out.below b4 T3.out.2.2)
    have O9 := Lib.hid ((OwI.put3 o4 T3.out.2.2 (x := .int .i64 fin.c) (y := .slice va4 bn vc4) (z := .int .i64 0)).mono (Nat.le_of_lt T3.out.2.2))
    have B9 := Lib.hid (put3_below (q := eb) (x := .int .i64 fin.c) (y := .slice va4 bn vc4) (z := .int .i64 0) (B3.out.trans (b4.mono (Nat.le_of_lt T3.out.2.2))) (Nat.le_refl _))
    obtain ⟨⟨q0, q1, q2⟩, ⟨r0, r1, r2⟩, r3⟩ := T4.out
    obtain ⟨⟨p0, p1, p2⟩, -, -⟩ := T4.out.put3 (x' := .int .i64 fin.c) (y' := .slice va4 bn vc4) (z' := .int .i64 0)
    clear o4 b4
    go_wp2_with fail
    refine bodyPost_ret (v := .agg #[.int .i64 fin.c, .slice va4 bn vc4, .int .i64 0]) (by simp only [put3] at p0 p1 p2; simp [results, Tryz.results9, go_sem, p0, p1, p2]) rfl ⟨_, rfl, O9.out, B9.out⟩
theorem implMeans_any (w : World) (a : Option Addr) (cap : Nat) (l : List Tk) (n : Nat) (hn : l.length = n) (hl : n ≤ 4194304) (hm : ∀ s ∈ l, s.length ≤ 4194304) (hv : V1 w a cap (txL l)) (ba : Option Addr) (bc bn : Nat) (bs : List Bi) (hbn : bs.length = bn) (hb : VwI w ba bc bs) (hbl : bn ≤ 4194304) (ga : Option Addr) (gc gn : Nat) (gs : List Int) (hgn : gs.length = gn) (hgl : gn ≤ 4194304) (hg : V1 w ga gc (inL gs)) (f : Int) (hL : Lib3 w) :
    Calls Tryz.prog 9 #[.slice a n cap, .slice ba bn bc, .slice ga gn gc, .int .i64 f] w (EndP w.heap.size (meV l bs gs f) w) := by
  cases h : meB l bs gs f with
  | false => rw [meV_no h]; exact implMeans_bad w a cap l n hn hl hm hv ba bc bn bs hbn hb hbl ga gc gn gs hgn hgl hg f hL h
  | true =>
    obtain ⟨t, hw, ht, e⟩ := meB_tree h
    rw [e]
    exact implMeans_ok w a cap l n hn hl hm hv ba bc bn bs hbn hb hbl ga gc gn gs hgn hgl hg f hL h t hw ht
end Go.Proofs.YtfnnoehpahdgcaaGreatDoor.Cl
namespace Go.Proofs.YtfnnoehpahdgcaaGreatDoor.Cl
set_option linter.unusedVariables false
open Go.RowKit Wd Rp Cu Kp
theorem meB_parts {l : List Tk} {bs : List Bi} {gs : List Int} {f : Int} (h : meB l bs gs f = true) : rcB l = true ∧ okI bs = true ∧ thB gs = true ∧ 0 ≤ f ∧ f ≤ 400 := by
  unfold meB at h
  rw [Bool.and_eq_true, Bool.and_eq_true, Bool.and_eq_true] at h
  obtain ⟨h1, h2, h3, h4⟩ := h
  unfold inB at h4
  rw [Bool.and_eq_true, decide_eq_true_eq, decide_eq_true_eq] at h4
  exact ⟨h1, h2, h3, h4.1, h4.2⟩
theorem wf_ok {t : Sl} (hw : t.wf 5) : t.ok := Sl.wf_all t hw
theorem end_0 {t : Sl} {gs : List Int} {bs : List Bi} {f : Int} (h : (t.run gs ⟨0, bs, f⟩).c = 0) : t.end_ gs bs f = t.run gs ⟨0, bs, f⟩ := if_pos h
theorem end_1 {t : Sl} {gs : List Int} {bs : List Bi} {f : Int} (h : (t.run gs ⟨0, bs, f⟩).c ≠ 0) : t.end_ gs bs f = ⟨(t.run gs ⟨0, bs, f⟩).c, bs, 0⟩ := if_neg h
theorem meV_okB {l : List Tk} {bs : List Bi} {gs : List Int} {f : Int} (h : meB l bs gs f = true) : okI (meV l bs gs f).b = true := by
  obtain ⟨h1, h2, h3, h4⟩ := meB_parts h
  obtain ⟨t, hw, ht, e⟩ := meB_tree h
  rw [e]
  by_cases h0 : (t.run gs ⟨0, bs, f⟩).c = 0
  · rw [end_0 h0]; exact Sl.run_ok h3 t ⟨0, bs, f⟩ (wf_ok hw) h2
  · rw [end_1 h0]; exact h2
theorem meV_len {l : List Tk} {bs : List Bi} {gs : List Int} {f : Int} {n : Nat} (hb : bs.length ≤ n) (h12 : 12 ≤ n) : (meV l bs gs f).b.length ≤ n := by
  cases hm : meB l bs gs f with
  | false => rw [meV_no hm]; exact hb
  | true => have := (okI_iff.1 (meV_okB hm)).1; omega
end Go.Proofs.YtfnnoehpahdgcaaGreatDoor.Cl
namespace Go.Proofs.YtfnnoehpahdgcaaGreatDoor.Cl
set_option linter.unusedVariables false
open Go.RowKit Wd Rp Kp
theorem grown_ofE {w w' : World} {row : Option Nat} (h : Below w.heap.size w w') : w.grownBy w' row := ⟨h.os, h.tape, h.output, h.size, fun k hk _ => h.block k hk⟩
theorem grown_transE {w x y : World} {r : Option Nat} (h : w.grownBy x r) (k : x.grownBy y r) : w.grownBy y r := ⟨k.os.trans h.os, k.tape.trans h.tape, k.output.trans h.output, Nat.le_trans h.size k.size, fun i hi hne => (k.block i (Nat.lt_of_lt_of_le hi h.size) hne).trans (h.block i hi hne)⟩
theorem Tri.grown {q : Nat} {x y z : Value} {w w' : World} {row : Option Nat} (h : Tri q x y z w) (hg : w.grownBy w' row) (hne : row ≠ some q) : Tri q x y z w' := by
  have e := hg.block q h.2.2 (fun e => hne e.symm)
  obtain ⟨⟨h0, h1, h2⟩, ⟨f0, f1, f2⟩, hl⟩ := h
  exact ⟨⟨(World.cell?_of_block (w := w) e).trans h0, (World.cell?_of_block (w := w) e).trans h1, (World.cell?_of_block (w := w) e).trans h2⟩, ⟨(World.frozen?_of_block (w := w) e).trans f0, (World.frozen?_of_block (w := w) e).trans f1, (World.frozen?_of_block (w := w) e).trans f2⟩, Nat.lt_of_lt_of_le hl hg.size⟩
set_option maxHeartbeats 1000000 in
set_option maxRecDepth 100000 in
theorem eqEnd_same (w : World) (c f : Int) (a b : Option Addr) (ca cb : Nat) (l : List Bi) (n : Nat) (hn : l.length = n) (hv : VwI w a ca l) (hu : VwI w b cb l) (hl : n ≤ 4194304) :
    Calls Tryz.prog 32 #[.agg #[.int .i64 c, .slice a n ca, .int .i64 f], .agg #[.int .i64 c, .slice b n cb, .int .i64 f]] w fun e w' => e = .returned (.bool true) ∧ Below w.heap.size w w' := by
  have hbl := bel2 w (.cells #[.int .i64 c, .slice a n ca, .int .i64 f] 30) (.cells #[.int .i64 c, .slice b n cb, .int .i64 f] 30)
  have N1 := Tri.made (.int .i64 c) (.slice a n ca) (.int .i64 f) w 30
  have N2 := Tri.made (.int .i64 c) (.slice b n cb) (.int .i64 f) (w.alloc (.cells #[.int .i64 c, .slice a n ca, .int .i64 f] 30)) 30
  have HQ := Lib.hid (N1.below (bel1 _ (.cells #[.int .i64 c, .slice b n cb, .int .i64 f] 30)) N1.2.2)
  have hz1 : (w.alloc (.cells #[.int .i64 c, .slice a n ca, .int .i64 f] 30)).heap.size = w.heap.size + 1 := World.size_alloc _ _
  rw [hz1] at N2
  have HQ1 := Lib.hid N2
  have HE := Lib.hid (eqBinS_same _ a b ca cb l n hn (hv.below hbl) (hu.below hbl) hl)
  have BB := Lib.hid hbl
  have q1 : (c != c) = false := by simp
  have q2 : (f != f) = false := by simp
  clear hbl hv hu N1 N2
  go_enter Tryz.func32, Tryz.ntmps32
  go_wp2_with fail
  refine HE.out.mono ?_; rintro e w3 ⟨rfl, b3⟩
  have B3 := Lib.hid (bel_tr BB.out b3 (Nat.le_refl _))
  have T1 := HQ.out.below b3 HQ.out.2.2
  have T2 := HQ1.out.below b3 HQ1.out.2.2
  have l1 := T1.1.2.2
  have l2 := T2.1.2.2
  clear b3 T1 T2
  go_wp2_with fail
  go_ret
  exact ⟨rfl, B3.out⟩
theorem eqEnd_own {B C : Nat} {v u : Value} {l : List Bi} (w : World) (c f : Int) (hv : OwI B w v l) (hu : OwI C w u l) (hl : l.length ≤ 4194304) :
    Calls Tryz.prog 32 #[.agg #[.int .i64 c, v, .int .i64 f], .agg #[.int .i64 c, u, .int .i64 f]] w fun e w' => e = .returned (.bool true) ∧ Below w.heap.size w w' := by
  obtain ⟨a, ca, rfl, h1⟩ := hv.view
  obtain ⟨b, cb, rfl, h2⟩ := hu.view
  exact eqEnd_same w c f a b ca cb l _ rfl h1 h2 hl
set_option maxHeartbeats 1000000 in
set_option maxRecDepth 100000 in
theorem markEnd_from {B : Nat} {v : Value} {l : List Bi} {n s : Nat} (w : World) (c f : Int) (hv : OwI B w v l) (hn : l.length = n) (hl : n ≤ 4194304) (hs1 : 1 ≤ s) (hs2 : s ≤ 9000000) :
    Calls Tryz.prog 39 #[.agg #[.int .i64 c, v, .int .i64 f], .int .i64 (s : Int)] w fun e w' => e = .returned (.int .i64 ((s + 2 * n : Nat) : Int)) ∧ w.grownBy w' v.ownBlock ∧ ∃ m, m.length = n ∧ MkdI s m ∧ OwI B w' v m := by
  obtain ⟨a, ca, rfl, -⟩ := hv.view
  rw [hn] at hv ⊢
  have hbl := bel1 w (.cells #[.int .i64 c, .slice a n ca, .int .i64 f] 30)
  have HM := Lib.hid (markI_from (s := s) _ (hv.next hbl) hn hl hs1 hs2)
  have G0 := Lib.hid (grown_ofE (row := (Value.slice a n ca).ownBlock) hbl)
  clear hbl hv
  go_enter Tryz.func39, Tryz.ntmps39
  go_wp2_with fail
  refine HM.out.mono ?_; rintro e w3 ⟨rfl, g3, h3⟩
  have G3 := Lib.hid (grown_transE G0.out g3)
  have H3 := Lib.hid h3
  clear g3 h3
  go_wp2_with fail
  go_ret
  exact ⟨rfl, G3.out, H3.out⟩
set_option maxHeartbeats 1000000 in
set_option maxRecDepth 100000 in
theorem heldEnd_from {B : Nat} {v : Value} {l : List Bi} {n s : Nat} (w : World) (c f : Int) (hv : OwI B w v l) (hn : l.length = n) (hm : MkdI s l) (hl : n ≤ 4194304) (hs1 : 1 ≤ s) (hs2 : s ≤ 9000000) :
    Calls Tryz.prog 40 #[.agg #[.int .i64 c, v, .int .i64 f], .int .i64 (s : Int)] w fun e w' => e = .returned (.int .i64 ((s + 2 * n : Nat) : Int)) ∧ Below w.heap.size w w' := by
  obtain ⟨a, ca, rfl, -⟩ := hv.view
  rw [hn] at hv ⊢
  have hbl := bel1 w (.cells #[.int .i64 c, .slice a n ca, .int .i64 f] 30)
  have HM := Lib.hid (heldI_from (s := s) _ (hv.next hbl) hn hm hl hs1 hs2)
  have BB := Lib.hid hbl
  have k0 : ¬ ((s + 2 * n : Nat) : Int) < 0 := by omega
  clear hbl hv
  generalize ((s + 2 * n : Nat) : Int) = kk at *
  go_enter Tryz.func40, Tryz.ntmps40
  go_wp2_with fail
  refine HM.out.mono ?_; rintro e w3 ⟨rfl, b3⟩
  have B3 := Lib.hid (bel_tr BB.out b3 (Nat.le_refl _)); clear b3
  go_wp2_with fail
  go_ret
  exact ⟨rfl, B3.out⟩
end Go.Proofs.YtfnnoehpahdgcaaGreatDoor.Cl
namespace Go.Proofs.YtfnnoehpahdgcaaGreatDoor.Cl
set_option linter.unusedVariables false
open Go.RowKit Wd Rp Kp
theorem O1.own {T : TypeId} {B : Nat} {w : World} {v : Value} {l : List Value} (h : O1 T B w v l) : ∃ a cap, v = .slice a l.length cap ∧ (∀ k, k < l.length → ∃ g, a = some ⟨g, 0, none⟩ ∧ g < w.heap.size) := by
  rcases h.2 with ⟨rfl, hn⟩ | ⟨g, cap, cur, rfl, hB, hg, hn, hc, -⟩
  · exact ⟨none, 0, by rw [hn], fun k hk => by omega⟩
  · exact ⟨_, cap, rfl, fun k _ => ⟨g, rfl, (Array.getElem?_eq_some_iff.1 hg).1⟩⟩
set_option maxRecDepth 100000 in
set_option maxHeartbeats 4000000 in
theorem markInts_own {B : Nat} {v : Value} {l : List Int} {n s : Nat} (w : World) (hv : ON B w v l) (hn : l.length = n) (hl : n ≤ 4194304) (hs1 : 1 ≤ s) (hs2 : s ≤ 20000000) :
    Calls Tryz.prog 38 #[v, .int .i64 (s : Int)] w fun e w' => e = .returned (.int .i64 ((s + n : Nat) : Int)) ∧ w.grownBy w' v.ownBlock := by
  have ho : O1 2 B w v (inL l) := hv
  obtain ⟨a, ca, rfl, ha⟩ := ho.own
  rw [inL_len, hn] at ha ho ⊢
  have hil : (inL l).length = n := by rw [inL_len, hn]
  have HA := Lib.hid ha; clear ha
  have HO := Lib.hid ho; clear ho hv
  go_enter Tryz.func38, Tryz.ntmps38
  go_wp2
  go_loopw [1, 5] (fun q i wr => ∃ (k : Nat) (m : List Value), k ≤ n ∧ i = .int .i64 k ∧ q = .int .i64 ((s + k : Nat) : Int) ∧ w.grownBy wr (Value.slice a n ca).ownBlock ∧ m.length = n ∧ O1 2 B wr (.slice a n ca) m) (fun _ i _ => n - intV i)
  case atStart => exact ⟨0, inL l, Nat.zero_le _, rfl, rfl, World.grownBy.refl _ _, hil, HO.out⟩
  case round =>
    obtain ⟨k, m, hk, rfl, rfl, hgr, hm, hown⟩ := hrel
    have HG := Lib.hid hgr; clear hgr
    have HW := Lib.hid hown; clear hown HO
    by_cases hlt : k < n
    · obtain ⟨g, rfl, -⟩ := HA.out k (by omega)
      obtain ⟨d, hd⟩ : ∃ d, m[k]? = some d := ⟨m[k], List.getElem?_eq_getElem (by omega)⟩
      obtain ⟨g', o', e', hg', hc⟩ := (HW.out.vw).cell hd
      cases e'
      rw [Nat.zero_add] at hc
      have hf := HW.out.frozen hm.symm k
      have hw9 : IntKind.i64.wrap ((s + k : Nat) : Int) = ((s + k : Nat) : Int) := by rw [IntKind.wrap_i64]; omega
      have hw8 : IntKind.i64.wrap (((s + k : Nat) : Int) + 1) = ((s + (k + 1) : Nat) : Int) := by rw [IntKind.wrap_i64]; omega
      have HS := Lib.hid (HW.out.set hm.symm k (.int .i64 ((s + k : Nat) : Int)))
      have q1 : ((s + k : Nat) : Int) + 1 = ((s + (k + 1) : Nat) : Int) := by omega
      have hi8 : ((s + k : Nat) : Int) ≤ 9223372036854775806 := by omega
      clear hd hg'
      go_wp2_with fail
      go_roundw
      case rel => exact ⟨k + 1, m.set k (.int .i64 ((s + k : Nat) : Int)), by omega, by go_num, by first | go_num | (rw [q1]), HG.out.trans ⟨rfl, rfl, rfl, by rw [World.size_setCell]; exact Nat.le_refl _, fun j hj hne => Below.heap_setCell _ _ _ j (fun e => hne (by rw [e]; rfl))⟩, by rw [List.length_set]; exact hm, HS.out⟩
      case measure => simp [intV]; omega
    · obtain rfl : k = n := by omega
      go_wp2_with fail
      go_ret
      exact ⟨rfl, HG.out⟩
end Go.Proofs.YtfnnoehpahdgcaaGreatDoor.Cl
namespace Go.Proofs.YtfnnoehpahdgcaaGreatDoor.Nx
set_option linter.unusedVariables false
open Go.RowKit Wd Rp Kp
def OwT (B : Nat) (w : World) (v : Value) (l : List (List UInt8)) : Prop := w.ownsRow B 9 1 v l.length (l.map fun p => .string (tx p))
theorem row_below {B : Nat} {e : TypeId} {k : Nat} {v : Value} {n : Nat} {xs : List Value} {w w' : World} (h : w.ownsRow B e k v n xs) (hb : Below w.heap.size w w') : w'.ownsRow B e k v n xs := by
  obtain ⟨h1, h2⟩ := h
  refine ⟨h1, ?_⟩
  rcases h2 with h2 | ⟨g, cap, cur, hv, hB, hg, h3⟩
  · exact .inl h2
  · exact .inr ⟨g, cap, cur, hv, hB, (hb.block g (Array.getElem?_eq_some_iff.1 hg).1).trans hg, h3⟩
theorem OwT.next {B : Nat} {w w' : World} {v : Value} {l : List (List UInt8)} (h : OwT B w v l) (hb : Below w.heap.size w w') : OwT B w' v l := row_below h hb
theorem OwT.mono {B C : Nat} {w : World} {v : Value} {l : List (List UInt8)} (h : OwT B w v l) (hC : C ≤ B) : OwT C w v l := by
  obtain ⟨h1, h2⟩ := h
  refine ⟨h1, ?_⟩
  rcases h2 with h2 | ⟨g, cap, cur, hv, hB, h3⟩
  · exact .inl h2
  · exact .inr ⟨g, cap, cur, hv, Nat.le_trans hC hB, h3⟩
theorem OwT.form {B : Nat} {w : World} {v : Value} {l : List (List UInt8)} (h : OwT B w v l) : ∃ a cap, v = .slice a l.length cap ∧
    ∀ k, k < l.length → ∃ g x, a = some ⟨g, 0, none⟩ ∧ B ≤ g ∧ g < w.heap.size ∧ l[k]? = some x ∧ w.cell? ⟨g, k, none⟩ = some (.string (tx x)) ∧ w.frozen? ⟨g, k, none⟩ = false := by
  obtain ⟨h1, h2⟩ := h
  rcases h2 with ⟨rfl, hn⟩ | ⟨g, cap, cur, rfl, hB, hg, hn, hc, hsz, hxs⟩
  · exact ⟨none, 0, by rw [hn], fun k hk => by omega⟩
  · refine ⟨_, cap, rfl, fun k hk => ⟨g, l[k], rfl, hB, (Array.getElem?_eq_some_iff.1 hg).1, List.getElem?_eq_getElem hk, ?_, by simp [World.frozen?, hg]⟩⟩
    have e1 : (l.map fun p => Value.string (tx p))[k]? = some (.string (tx l[k])) := by rw [List.getElem?_map, List.getElem?_eq_getElem hk]; rfl
    rw [← hxs, List.getElem?_take_of_lt (by omega)] at e1
    simpa [World.cell?, hg] using e1
def mtx (k : Nat) : List UInt8 := 109 :: Lib.decDigits k
theorem mtx_app (t : ByteArray) (k : Nat) (h : t = ⟨(Lib.decDigits k).toArray⟩) : ((⟨#[109]⟩ : ByteArray) ++ t) = tx (mtx k) := by
  subst h
  apply ByteArray.ext
  apply Array.toList_inj.1
  rw [Joins.data_append]; rfl
theorem dgr_end {n : Nat} {t : ByteArray} (h : DgR n 0 t) (hn : 1 ≤ n) : t = ⟨(Lib.decDigits n).toArray⟩ :=
  h.done (fun e => by rcases h with ⟨_, h2⟩ | ⟨h1, _⟩; omega; exact h1 e)
set_option maxHeartbeats 1000000 in
theorem markText_any (n : Nat) (w : World) (hn1 : 1 ≤ n) (hn : n ≤ 9223372036854775807) :
    Calls Tryz.prog 65 #[.int .i64 n] w fun e w' => e = .returned (.string (tx (mtx n))) ∧ Below w.heap.size w w' := by
  have KC := conv_one
  have q0 : ¬ (n : Int) ≤ 0 := by omega
  go_enter Tryz.func65, Tryz.ntmps65
  go_wp2
  go_loopw [0, 3] (fun i s wr => ∃ (m : Nat) (t : ByteArray), i = .int .i64 m ∧ s = .string t ∧ m ≤ n ∧ DgR n m t ∧ Below w.heap.size w wr) (fun i _ _ => (intOf i).toNat)
  case atStart => exact ⟨n, ⟨#[]⟩, rfl, rfl, Nat.le_refl _, DgR.start n, Below.refl _ _⟩
  case round =>
    obtain ⟨m, t, rfl, rfl, hm, hd, hb⟩ := hrel
    have hsz := hd.size (by omega)
    have hsum : ¬ 9223372036854775807 < (one (48 + (m : Int) % 10)).size + t.size := by rw [one_size]; omega
    have HB := Lib.hid hb; clear hb
    have HD := Lib.hid hd; clear hd
    have hB : w.heap.size ≤ wr.heap.size := HB.out.size
    by_cases hp : 0 < m
    · go_wp2
      go_roundw
      case rel => exact ⟨m / 10, _, by go_num, rfl, by omega, HD.out.step (Or.inr hp), HB.out.alloc hB _⟩
      case measure => simp only [intOf]; omega
    · obtain rfl : m = 0 := by omega
      have HE := Lib.hid (mtx_app t n (dgr_end HD.out hn1))
      have hs2 : ¬ 9223372036854775807 < (⟨#[109]⟩ : ByteArray).size + t.size := by show ¬ _ < 1 + t.size; omega
      go_wp2
      go_ret
      exact ⟨by rw [← HE.out]; rfl, HB.out⟩
def Mkd (k : Nat) (m : List (List UInt8)) : Prop := ∀ j, j < m.length → m[j]? = some (mtx (k + j))
theorem OwT.set {B : Nat} {w : World} {g n cap : Nat} {m : List (List UInt8)} (h : OwT B w (.slice (some ⟨g, 0, none⟩) n cap) m) (hn : n = m.length) (j : Nat) (x : List UInt8) : OwT B (w.setCell ⟨g, j, none⟩ (.string (tx x))) (.slice (some ⟨g, 0, none⟩) n cap) (m.set j x) := by
  subst hn
  have := World.ownsRow.stored h j (.string (tx x))
  unfold OwT
  rw [List.length_set, List.map_set]; exact this.1
theorem owt_of {B : Nat} {w : World} {v : Value} {l : List Cl.Tk} (h : Cl.OT B w v l) : OwT B w v l := by
  unfold Cl.OT Cl.O1 at h
  rw [Cl.txL_len] at h
  exact h
end Go.Proofs.YtfnnoehpahdgcaaGreatDoor.Nx
namespace Go.Proofs.YtfnnoehpahdgcaaGreatDoor.Nx
set_option linter.unusedVariables false
open Go.RowKit Wd Rp Kp
end Go.Proofs.YtfnnoehpahdgcaaGreatDoor.Nx
namespace Go.Proofs.YtfnnoehpahdgcaaGreatDoor.Nx
set_option linter.unusedVariables false
open Go.RowKit Wd Rp Kp
set_option maxHeartbeats 2000000 in
theorem markS_own {B : Nat} {v : Value} {l : List (List UInt8)} (w : World) (hB : B ≤ w.heap.size) (hv : OwT B w v l) (hl : l.length ≤ 4194304) :
    Calls Tryz.prog 36 #[v, .int .i64 1] w fun e w' => e = .returned (.int .i64 ((l.length + 1 : Nat) : Int)) ∧ w.grownBy w' v.ownBlock ∧ ∃ m, m.length = l.length ∧ Mkd 1 m ∧ OwT B w' v m := by
  obtain ⟨a, ca, rfl, ha⟩ := hv.form
  have HV := Lib.hid ha; clear ha
  have HO := Lib.hid hv; clear hv
  generalize hn : l.length = n at *
  go_enter Tryz.func36, Tryz.ntmps36
  go_wp2
  go_loopw [1, 5] (fun q i wr => ∃ (k : Nat) (m : List (List UInt8)), k ≤ n ∧ i = .int .i64 k ∧ q = .int .i64 ((k + 1 : Nat) : Int) ∧ Below B w wr ∧ (∀ x, x < w.heap.size → (Value.slice a n ca).ownBlock ≠ some x → wr.heap[x]? = w.heap[x]?) ∧ m.length = n ∧ (∀ j, j < k → m[j]? = some (mtx (1 + j))) ∧ OwT B wr (.slice a n ca) m) (fun _ i _ => n - intV i)
  case atStart => exact ⟨0, l, Nat.zero_le _, rfl, rfl, Below.refl _ _, (fun _ _ _ => rfl), hn, fun j hj => by omega, HO.out⟩
  case round =>
    obtain ⟨k, m, hk, rfl, rfl, hbel, hfr, hm, hmk, hown⟩ := hrel
    have HFR := Lib.hid hfr; clear hfr
    have HB := Lib.hid hbel; clear hbel
    have HM := Lib.hid hmk; clear hmk
    have HW := Lib.hid hown; clear hown
    by_cases hlt : k < n
    · obtain ⟨g, -, rfl, hg, gl, -, -, -⟩ := HV.out k (by omega)
      have HT := Lib.hid (fun w => markText_any (k + 1) w (by omega) (by omega))
      have q1 : ((k + 1 : Nat) : Int) + 1 = ((k + 1 + 1 : Nat) : Int) := by omega
      clear gl
      go_wp2_with fail
      refine (HT.out _).mono ?_; rintro e w1 ⟨rfl, b1⟩
      have hsz : wr.heap.size ≤ w1.heap.size := b1.size
      have BB1 := Lib.hid b1
      have B1 := Lib.hid (bel_tr HB.out b1 hB)
      have HW1 := Lib.hid (HW.out.next b1); clear b1
      obtain ⟨a2, ca2, he, hcell⟩ := HW1.out.form
      obtain ⟨g2, x, rfl, hg2, gl2, -, gc, gf⟩ := hcell k (by omega)
      cases he
      clear hcell hg2
      generalize tx x = x at gc
      go_wp2_with fail
      go_roundw
      case rel =>
        refine ⟨k + 1, m.set k (mtx (k + 1)), by omega, by go_num, by go_num, B1.out.setCell (p := ⟨g, k, none⟩) hg _, (fun x hx hne => (Below.heap_setCell _ _ _ _ (fun e => hne (by rw [e]; rfl))).trans ((BB1.out.block x (by have := HB.out.size; omega)).trans (HFR.out x hx hne))), by rw [List.length_set], fun j hj => ?_, HW1.out.set rfl k _⟩
        by_cases hjk : j = k
        · subst hjk; rw [List.getElem?_set_self (by omega), Nat.add_comm]
        · rw [List.getElem?_set_ne (by omega)]; exact HM.out j (by omega)
      case measure => simp [intV]; omega
    · obtain rfl : k = n := by omega
      go_wp2_with fail
      go_ret
      exact ⟨rfl, ⟨HB.out.os, HB.out.tape, HB.out.output, HB.out.size, fun x hx hne => HFR.out x hx (fun e => hne e.symm)⟩, m, hm, fun j hj => HM.out j (by omega), HW.out⟩
end Go.Proofs.YtfnnoehpahdgcaaGreatDoor.Nx
namespace Go.Proofs.YtfnnoehpahdgcaaGreatDoor.Fr
set_option linter.unusedVariables false
open Go.ChangeShapes Go.WideShapes Go.ChangeAt Go.RowKit Go.Joins Go.Deep
open Go.ChangeMaps (open_string shut_string)
theorem cStrT : Tryz.prog.cellsOf 9 = 1 := by kernel_rfl
theorem cIntT : Tryz.prog.cellsOf 2 = 1 := by kernel_rfl
set_option maxRecDepth 100000 in
theorem openTexts {H : Type} {enc : TypeId × Value → H} {W : World} {base : Nat} {v : Value} {d : DataW H} {p : List MemPlace} (hv : Value.okWide Tryz.prog W .any base 24 v)
    (h : DataW.Trod enc Tryz.prog W 0 (fun _ => true) true 24 v d p) :
    ∃ (a : Option Addr) (cap : Nat) (l : List Cl.Tk), v = .slice a l.length cap ∧ Cl.V1 W a cap (Cl.txL l) ∧ ∀ s ∈ l, s.length ≤ maxLen := by
  obtain ⟨a0, len0, cap0, rfl⟩ := okWide_slice Tryz.underlying24 hv
  obtain ⟨fuel, hf⟩ := h
  rcases open_slice Tryz.underlying24 hf with ⟨hcs, _⟩ | ⟨x, len, cap, m, n, D, Pl, hcs, -, hle, hm, hmm, -, hi⟩
  · simp [Value.cells] at hcs
    obtain ⟨rfl, rfl, rfl⟩ := hcs
    exact ⟨none, 0, [], rfl, ⟨Nat.le_refl _, by decide, fun _ => rfl, fun k c hk => by simp [Cl.txL] at hk⟩, fun c hc => by cases hc⟩
  · simp [Value.cells] at hcs
    obtain ⟨rfl, rfl, rfl⟩ := hcs
    rw [if_pos rfl] at hmm
    subst hmm
    rw [cStrT] at hi
    have hone : ∀ i, i < len0 → ∃ c : Cl.Tk, (∃ g o, x = ⟨g, o, none⟩ ∧ g < W.heap.size ∧ W.cell? ⟨g, o + i, none⟩ = some (.string (Kp.tx c))) ∧ c.length ≤ maxLen := by
      intro i hil
      obtain ⟨cs, hc, ht⟩ := hi i (by omega)
      obtain ⟨s, rfl, -, h1⟩ := DataW.trod_string Tryz.underlying9 ht
      obtain ⟨_, hcl, hat⟩ := World.cells?_some hc
      obtain ⟨xb, xo, xs⟩ := x
      have hspot : xs = none := by
        obtain ⟨cs0, hc0, ht0⟩ := hi 0 (by omega)
        obtain ⟨s0, rfl, -⟩ := DataW.trod_string Tryz.underlying9 ht0
        have z0 := (World.cells?_some hc0).2.2 0 (by decide)
        simpa [Addr.add] using World.cell?_spot z0
      subst hspot
      have a0 := hat 0 (by decide)
      have hadd : (Addr.add ⟨xb, xo, none⟩ (i * 1)).add 0 = ⟨xb, xo + i, none⟩ := by cases i <;> simp [Addr.add]
      rw [hadd] at a0
      have hlt := Lib.lt_of_cell a0
      refine ⟨s.data.toList, ⟨xb, xo, rfl, hlt, ?_⟩, by rw [Kp.llen]; exact h1⟩
      rw [Kp.tx_of]; exact a0
    obtain ⟨F, hF⟩ := choose_lt hone
    refine ⟨some x, _, (List.range len0).map F, by rw [List.length_map, List.length_range], ⟨by rw [Cl.txL_len, List.length_map, List.length_range]; exact hle, hm, (fun e => by cases e), fun k c hk => ?_⟩, fun c hc => ?_⟩
    · unfold Cl.txL at hk
      have hkl : k < len0 := by have := (List.getElem?_eq_some_iff.1 hk).1; simpa using this
      rw [List.getElem?_map, List.getElem?_map, List.getElem?_range hkl] at hk
      obtain rfl : Cl.tv (F k) = c := by simpa using hk
      obtain ⟨⟨g, o, rfl, hg, h5⟩, -⟩ := hF k hkl
      exact ⟨g, o, rfl, hg, h5⟩
    · rw [List.mem_map] at hc
      obtain ⟨k, hk, rfl⟩ := hc
      exact (hF k (by simpa using hk)).2
set_option maxRecDepth 100000 in
theorem openInts {H : Type} {enc : TypeId × Value → H} {W : World} {base : Nat} {v : Value} {d : DataW H} {p : List MemPlace} (hv : Value.okWide Tryz.prog W .any base 26 v)
    (h : DataW.Trod enc Tryz.prog W 0 (fun _ => true) true 26 v d p) :
    ∃ (a : Option Addr) (cap : Nat) (l : List Int), v = .slice a l.length cap ∧ Cl.V1 W a cap (Cl.inL l) ∧ ∀ s ∈ l, Wd.I64 s := by
  obtain ⟨a0, len0, cap0, rfl⟩ := okWide_slice Tryz.underlying26 hv
  obtain ⟨fuel, hf⟩ := h
  rcases open_slice Tryz.underlying26 hf with ⟨hcs, _⟩ | ⟨x, len, cap, m, n, D, Pl, hcs, -, hle, hm, hmm, -, hi⟩
  · simp [Value.cells] at hcs
    obtain ⟨rfl, rfl, rfl⟩ := hcs
    exact ⟨none, 0, [], rfl, ⟨Nat.le_refl _, by decide, fun _ => rfl, fun k c hk => by simp [Cl.inL] at hk⟩, fun c hc => by cases hc⟩
  · simp [Value.cells] at hcs
    obtain ⟨rfl, rfl, rfl⟩ := hcs
    rw [if_pos rfl] at hmm
    subst hmm
    rw [cIntT] at hi
    have hone : ∀ i, i < len0 → ∃ c : Int, (∃ g o, x = ⟨g, o, none⟩ ∧ g < W.heap.size ∧ W.cell? ⟨g, o + i, none⟩ = some (.int .i64 c)) ∧ Wd.I64 c := by
      intro i hil
      obtain ⟨cs, hc, ht⟩ := hi i (by omega)
      obtain ⟨s, rfl, -, h1⟩ := DataW.trod_int Tryz.underlying2 ht
      obtain ⟨_, hcl, hat⟩ := World.cells?_some hc
      obtain ⟨xb, xo, xs⟩ := x
      have hspot : xs = none := by
        obtain ⟨cs0, hc0, ht0⟩ := hi 0 (by omega)
        obtain ⟨s0, rfl, -⟩ := DataW.trod_int Tryz.underlying2 ht0
        have z0 := (World.cells?_some hc0).2.2 0 (by decide)
        simpa [Addr.add] using World.cell?_spot z0
      subst hspot
      have a0 := hat 0 (by decide)
      have hadd : (Addr.add ⟨xb, xo, none⟩ (i * 1)).add 0 = ⟨xb, xo + i, none⟩ := by cases i <;> simp [Addr.add]
      rw [hadd] at a0
      have hlt := Lib.lt_of_cell a0
      exact ⟨s, ⟨xb, xo, rfl, hlt, a0⟩, Wd.i64_of_wf h1⟩
    obtain ⟨F, hF⟩ := choose_lt hone
    refine ⟨some x, _, (List.range len0).map F, by rw [List.length_map, List.length_range], ⟨by rw [Cl.inL_len, List.length_map, List.length_range]; exact hle, hm, (fun e => by cases e), fun k c hk => ?_⟩, fun c hc => ?_⟩
    · unfold Cl.inL at hk
      have hkl : k < len0 := by have := (List.getElem?_eq_some_iff.1 hk).1; simpa using this
      rw [List.getElem?_map, List.getElem?_map, List.getElem?_range hkl] at hk
      obtain rfl : Cl.iv (F k) = c := by simpa using hk
      obtain ⟨⟨g, o, rfl, hg, h5⟩, -⟩ := hF k hkl
      exact ⟨g, o, rfl, hg, h5⟩
    · rw [List.mem_map] at hc
      obtain ⟨k, hk, rfl⟩ := hc
      exact (hF k (by simpa using hk)).2
end Go.Proofs.YtfnnoehpahdgcaaGreatDoor.Fr
namespace Go.Proofs.YtfnnoehpahdgcaaGreatDoor.Fr
set_option linter.unusedVariables false
open Go.ChangeShapes Go.WideShapes Go.ChangeAt Go.RowKit Go.Joins Go.Deep
open Go.ChangeMaps (open_string shut_string)
theorem cBin : Tryz.prog.cellsOf 78 = 2 := by kernel_rfl
theorem cStrI : Tryz.prog.cellsOf 9 = 1 := by kernel_rfl
theorem cIntI : Tryz.prog.cellsOf 2 = 1 := by kernel_rfl
set_option maxRecDepth 100000 in
theorem binCells {H : Type} {enc : TypeId × Value → H} {W : World} {fuel : Nat} {cs : List Value} {x : DataW H × List MemPlace}
    (h : DataW.trod enc Tryz.prog W 0 (fun _ => true) true fuel 78 cs = some x) :
    ∃ (s : ByteArray) (v : Int), cs = [.string s, .int .i64 v] ∧ s.size ≤ maxLen ∧ Wd.I64 v := by
  obtain ⟨ys, n', hn', hy, hlen, hyl, hf⟩ := DataW.trod_struct Tryz.underlying78 h
  rw [cBin] at hlen
  match cs, hlen with
  | [c0, c1], _ =>
    match ys, hyl with
    | [y0, y1], _ =>
      have f0 : DataW.trod enc Tryz.prog W 0 (fun _ => true) true n' 9 (List.take (Tryz.prog.cellsOf 9) (List.drop 0 [c0, c1])) = some y0 := hf 0 _ rfl
      have f1 : DataW.trod enc Tryz.prog W 0 (fun _ => true) true n' 2 (List.take (Tryz.prog.cellsOf 2) (List.drop 1 [c0, c1])) = some y1 := hf 1 _ rfl
      rw [cStrI] at f0
      rw [cIntI] at f1
      obtain ⟨s, e0, -, hs⟩ := DataW.trod_string Tryz.underlying9 (x := y0) f0
      obtain ⟨v, e1, -, hv⟩ := DataW.trod_int Tryz.underlying2 (x := y1) f1
      simp at e0 e1
      subst e0 e1
      exact ⟨s, v, rfl, hs, Wd.i64_of_wf hv⟩
set_option maxRecDepth 100000 in
theorem openBins {H : Type} {enc : TypeId × Value → H} {W : World} {base : Nat} {v : Value} {d : DataW H} {p : List MemPlace} (hv : Value.okWide Tryz.prog W .any base 49 v)
    (h : DataW.Trod enc Tryz.prog W 0 (fun _ => true) true 49 v d p) :
    ∃ (a : Option Addr) (cap : Nat) (l : List Cl.Bi), v = .slice a l.length cap ∧ Cl.VwI W a cap l ∧ ∀ c ∈ l, c.n.size ≤ maxLen := by
  obtain ⟨a0, len0, cap0, rfl⟩ := okWide_slice Tryz.underlying49 hv
  obtain ⟨fuel, hf⟩ := h
  rcases open_slice Tryz.underlying49 hf with ⟨hcs, _⟩ | ⟨x, len, cap, m, n, D, Pl, hcs, -, hle, hm, hmm, -, hi⟩
  · simp [Value.cells] at hcs
    obtain ⟨rfl, rfl, rfl⟩ := hcs
    exact ⟨none, 0, [], rfl, ⟨Nat.le_refl _, by decide, fun _ => rfl, fun k c hk => by simp at hk⟩, fun c hc => by cases hc⟩
  · simp [Value.cells] at hcs
    obtain ⟨rfl, rfl, rfl⟩ := hcs
    rw [if_pos rfl] at hmm
    subst hmm
    rw [cBin] at hi
    have hone : ∀ i, i < len0 → ∃ c : Cl.Bi, (∃ g o, x = ⟨g, o, none⟩ ∧ g < W.heap.size ∧ Cl.At2 W g (o + i * 2) c) ∧ c.n.size ≤ maxLen := by
      intro i hil
      obtain ⟨cs, hc, ht⟩ := hi i (by omega)
      obtain ⟨s, u, rfl, h1, -⟩ := binCells ht
      obtain ⟨_, hcl, hat⟩ := World.cells?_some hc
      obtain ⟨xb, xo, xs⟩ := x
      have hspot : xs = none := by
        obtain ⟨cs0, hc0, ht0⟩ := hi 0 (by omega)
        obtain ⟨s0, u0, rfl, -⟩ := binCells ht0
        have z0 := (World.cells?_some hc0).2.2 0 (by decide)
        simpa [Addr.add] using World.cell?_spot z0
      subst hspot
      have a0 := hat 0 (by decide)
      have hadd : ∀ k, (Addr.add ⟨xb, xo, none⟩ (i * 2)).add k = ⟨xb, xo + i * 2 + k, none⟩ := fun k => by rw [Go.Deep.add_add]; simp [Addr.add, Nat.add_assoc]
      have hlt := Lib.lt_of_cell a0
      refine ⟨⟨s, u⟩, ⟨xb, xo, rfl, by rw [hadd] at hlt; exact hlt, ?_⟩, h1⟩
      have a1 := hat 1 (by decide)
      rw [hadd] at a0 a1
      exact ⟨a0, a1⟩
    obtain ⟨F, hF⟩ := choose_lt hone
    refine ⟨some x, _, (List.range len0).map F, by rw [List.length_map, List.length_range], ⟨by simpa using hle, hm, (fun e => by cases e), fun k c hk => ?_⟩, fun c hc => ?_⟩
    · have hkl : k < len0 := by have := (List.getElem?_eq_some_iff.1 hk).1; simpa using this
      rw [List.getElem?_map, List.getElem?_range hkl] at hk
      obtain rfl : F k = c := by simpa using hk
      obtain ⟨⟨g, o, rfl, hg, h5⟩, -⟩ := hF k hkl
      exact ⟨g, o, rfl, hg, h5⟩
    · rw [List.mem_map] at hc
      obtain ⟨k, hk, rfl⟩ := hc
      exact (hF k (by simpa using hk)).2
end Go.Proofs.YtfnnoehpahdgcaaGreatDoor.Fr
