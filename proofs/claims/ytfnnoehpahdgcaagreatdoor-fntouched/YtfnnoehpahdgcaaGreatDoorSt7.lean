/-
  Texts of mine, joined (part 7 of 11): what the law at hand reaches of them; each text's own words stand in the verifier's repo.
-/
import Derived.Test.YtfnnoehpahdgcaaGreatDoorSt6
import Derived.Test.YtfnnoehpahdgcaaGreatDoorRows
import Derived.WalkKit
import Derived.IntWalk
import Derived.Laws.Bits128
import Derived.Lib.Hide
import Derived.Lib.ParseIntBTie
import Derived.Lib.ParseIntBCases
import Derived.Lib.ItoaMem
import Derived.Lib.IndexMore
import Derived.Lib.Repeat
import Derived.WalkSpells
import Derived.Below
import Derived.Carry
import Derived.WalkSmall
import Derived.Laws.Closers25b
import Derived.Lib.Strings
import Derived.Lib.SmallJoins
import Derived.Lib.AppendIntMem
import Derived.Maps.AppendAt
import Derived.OwnWalk
import Derived.WalkLawsBesides
import Derived.Deep.QuietTactic
import Derived.BigQuiet
import Derived.Deep.RegionHeld3
import Derived.Laws.OwnMore
import Derived.Laws.StructEq
import Derived.BigFrame
import Derived.Deep.Upon
import Derived.Laws.CopyRow
import Derived.Laws.BytesArg
import Derived.RowKit3
import Derived.Shelf.Strconv.Itoa4
import Derived.Shelf.Strconv.ParseIntPublic10
import Derived.Shelf.Strconv.ErrVarParseInt
import Derived.Test.YtfnnoehpahdgcaaGreatDoorProg
import Derived.LaidMore
import Derived.Stop.LaidErr
import Derived.Lib.LaidTab
import Derived.RangeFuncWrites
import Derived.RangeFuncCalls
import Derived.RangeFuncBox
import Derived.RangeFuncNested
import Derived.RangeFuncLeaves
import Derived.Shelf.Abstract
import Derived.Shelf.RegionOpen
import Derived.OwnWalkIn
import Derived.TacticsInMore
import Derived.LoopNIn
import Derived.LoopIn
import Derived.Lib.Bytealg
import Derived.Deep.LoopGhost
import Derived.Lib.AtoiErrMem
import Derived.OpenShut
import Derived.Lib.ConvBytes
import Derived.Deep.RegionLaw
import Derived.Deep.AppendLies
import Derived.Lib.AppendZeros
import Derived.Defers
import Derived.Recover
import Derived.Lib.ItoaLen
import Derived.Sort.Walk0
import Derived.Lib.SlicesCompact
import Derived.ProofKit
import Derived.Handed
import Derived.SizedLaws
import Derived.ShutString
import Derived.Deep.Slices
import Derived.Deep.Fields
import Derived.ChangeSame
namespace Go.Proofs.YtfnnoehpahdgcaaGreatDoor.Cl
set_option linter.unusedVariables false
open Go.RowKit Wd Rp Cu Kp
def endg (c : Int) : PanicEntry := { v := .iface 89 (.int .i64 c), recovered := false }
def VwX (p : Nat) (w : World) (a : Option Addr) (cap : Nat) (l : List Bi) : Prop := VwI w a cap l ∧ ∀ (k : Nat) (c : Bi), l[k]? = some c → ∀ g o, a = some ⟨g, o, none⟩ → g ≠ p
theorem VwX.but {p : Nat} {w w' : World} {a : Option Addr} {cap : Nat} {l : List Bi} (h : VwX p w a cap l) (hb : But p w w') : VwX p w' a cap l := by
  obtain ⟨⟨h1, h2, h3, h4⟩, h5⟩ := h
  refine ⟨⟨h1, h2, h3, fun k c hk => ?_⟩, h5⟩
  obtain ⟨g, o, e, hg, hat⟩ := h4 k c hk
  exact ⟨g, o, e, Nat.lt_of_lt_of_le hg hb.size, hat.same (hb.block g hg (h5 k c hk g o e))⟩
structure Xm (w0 : World) (p : Nat) (ga : Option Addr) (gc : Nat) (gs : List Int) (st : St0) (w : World) : Prop where
  hB : w0.heap.size ≤ p
  hp : p < w.heap.size
  fz : w.frozen? ⟨p, 0, none⟩ = false ∧ w.frozen? ⟨p, 1, none⟩ = false ∧ w.frozen? ⟨p, 2, none⟩ = false
  b : ∃ a n c, w.cell? ⟨p, 0, none⟩ = some (.slice a n c) ∧ st.b.length = n ∧ VwX p w a c st.b
  g : w.cell? ⟨p, 1, none⟩ = some (.slice ga (3 : Nat) gc)
  f : w.cell? ⟨p, 2, none⟩ = some (.int .i64 st.f)
  bw : Below w0.heap.size w0 w
  hg : V1 w0 ga gc (inL gs)
  g3 : gs.length = 3
  L : Lib3 w0
  ok : okI st.b = true
  th : thB gs = true
  f0 : 0 ≤ st.f ∧ st.f ≤ 400
theorem ofst' {p i j : Nat} (h : i ≠ j) : (⟨p, i, none⟩ : Addr) ≠ ⟨p, j, none⟩ := fun e => h (congrArg Addr.off e)
theorem Xm.len {w0 w : World} {p : Nat} {ga : Option Addr} {gc : Nat} {gs : List Int} {st : St0} (h : Xm w0 p ga gc gs st w) : st.b.length ≤ 12 := (okI_iff.1 h.ok).1
theorem Xm.next {w0 w w' : World} {p : Nat} {ga : Option Addr} {gc : Nat} {gs : List Int} {st : St0} (h : Xm w0 p ga gc gs st w) (hb : Below w.heap.size w w') : Xm w0 p ga gc gs st w' := by
  have e := hb.block p h.hp
  obtain ⟨a, n, c, h1, h2, h3⟩ := h.b
  exact ⟨h.hB, Nat.lt_of_lt_of_le h.hp hb.size, ⟨(World.frozen?_of_block (w := w) e).trans h.fz.1, (World.frozen?_of_block (w := w) e).trans h.fz.2.1, (World.frozen?_of_block (w := w) e).trans h.fz.2.2⟩,
    ⟨a, n, c, (World.cell?_of_block (w := w) e).trans h1, h2, h3.1.below hb, h3.2⟩, (World.cell?_of_block (w := w) e).trans h.g, (World.cell?_of_block (w := w) e).trans h.f, bel_tr h.bw hb (Nat.le_refl _), h.hg, h.g3, h.L, h.ok, h.th, h.f0⟩
theorem Xm.putF {w0 w : World} {p : Nat} {ga : Option Addr} {gc : Nat} {gs : List Int} {st : St0} (h : Xm w0 p ga gc gs st w) (x : Int) (hx : 0 ≤ x ∧ x ≤ 400) : Xm w0 p ga gc gs ⟨st.c, st.b, x⟩ (w.setCell ⟨p, 2, none⟩ (.int .i64 x)) := by
  obtain ⟨a, n, c, h1, h2, h3⟩ := h.b
  exact ⟨h.hB, by rw [World.size_setCell]; exact h.hp, by simp only [World.frozen?_setCell]; exact h.fz,
    ⟨a, n, c, (World.cell?_setCell_other _ _ _ _ (ofst' (by decide))).trans h1, h2, h3.but (but_set w p 2 _)⟩, (World.cell?_setCell_other _ _ _ _ (ofst' (by decide))).trans h.g, World.cell?_setCell_same' _ _ _ (by rw [h.f]; rfl),
    h.bw.setCell (p := ⟨p, 2, none⟩) h.hB _, h.hg, h.g3, h.L, h.ok, h.th, hx⟩
theorem Xm.putB {w0 w w' : World} {p : Nat} {ga : Option Addr} {gc : Nat} {gs : List Int} {st : St0} {a : Option Addr} {n c : Nat} {l : List Bi} (h : Xm w0 p ga gc gs st w) (hb : Below w.heap.size w w') (hn : l.length = n) (ho : OwI w.heap.size w' (.slice a n c) l) (hok : okI l = true) :
    Xm w0 p ga gc gs ⟨st.c, l, st.f⟩ (w'.setCell ⟨p, 0, none⟩ (.slice a n c)) := by
  have h' := h.next hb
  obtain ⟨a0, n0, c0, h1, h2, h3⟩ := h'.b
  have hv : VwX p w' a c l := ⟨ho.vw, fun k d hk g o e => by
    have := OwI.lt ho g (by rw [e]; obtain ⟨g', o', e', -, -⟩ := ho.vw.2.2.2 k d hk; rw [e] at e'; rcases ho.2 with ⟨e2, -⟩ | ⟨g2, c2, cur, e2, -⟩ <;> cases e2 <;> (try cases e); rfl)
    have := h.hp
    omega⟩
  exact ⟨h.hB, by rw [World.size_setCell]; exact h'.hp, by simp only [World.frozen?_setCell]; exact h'.fz,
    ⟨a, n, c, World.cell?_setCell_same' _ _ _ (by rw [h1]; rfl), hn, hv.but (but_set w' p 0 _)⟩, (World.cell?_setCell_other _ _ _ _ (ofst' (by decide))).trans h'.g, (World.cell?_setCell_other _ _ _ _ (ofst' (by decide))).trans h'.f,
    h'.bw.setCell (p := ⟨p, 0, none⟩) h.hB _, h.hg, h.g3, h.L, hok, h.th, h.f0⟩
def RunX (w0 : World) (p : Nat) (ga : Option Addr) (gc : Nat) (gs : List Int) (r : St0) (w : World) (e : Ending) (w' : World) : Prop :=
  But p w w' ∧ (r.c = 0 → e = .returned (.tuple #[]) ∧ Xm w0 p ga gc gs r w') ∧ (r.c ≠ 0 → e = .panicked [endg r.c])
theorem req_yes (w : World) (c : Int) : Calls Tryz.prog 75 #[.bool true, .int .i64 c] w fun e w' => e = .returned (.tuple #[]) ∧ w = w' := by
  go_enter Tryz.func75, Tryz.ntmps75
  go_wp2_with fail
  exact bodyPost_end (v := .tuple #[]) (by simp [results, Tryz.results75, go_sem]) rfl ⟨rfl, rfl⟩
theorem req_no (w : World) (c : Int) : Calls Tryz.prog 75 #[.bool false, .int .i64 c] w fun e w' => e = .panicked [endg c] ∧ w = w' := by
  go_enter Tryz.func75, Tryz.ntmps75
  go_wp2_with fail
  exact ⟨rfl, rfl, rfl⟩
theorem fuelOk_any (f : Int) (w : World) : Calls Tryz.prog 78 #[.int .i64 f] w fun e w' => e = .returned (.bool (inB f 0 400)) ∧ w = w' := by
  by_cases h0 : 0 ≤ f
  · have t0 : decide (0 ≤ f) = true := by simpa using h0
    have hI : inB f 0 400 = decide (f ≤ 400) := by unfold inB; rw [t0, Bool.true_and]
    rw [hI]
    generalize hx : decide (f ≤ 400) = x
    have HX := Lib.hid hx
    clear hx hI
    go_enter Tryz.func78, Tryz.ntmps78
    have t1 := HX.out
    go_wp2_with fail
    go_ret
    exact ⟨by first | rfl | rw [t1] | simp [t1], rfl⟩
  · have t0 : decide (0 ≤ f) = false := by simpa using h0
    have hI : inB f 0 400 = false := by unfold inB; rw [t0, Bool.false_and]
    rw [hI]
    clear hI
    go_enter Tryz.func78, Tryz.ntmps78
    go_wp2_with fail
    go_ret
    exact ⟨rfl, rfl⟩
theorem sbP_st7 {l : List Bi} {n : ByteArray} {v : Int} (h : okI l = true) (h2 : (nmB n.data.toList && isW v) = true) : sbP l n v = st7 l n v := by
  have hl := (okI_iff.1 h).1
  have e := stI_len l n v
  cases hat : isAt n l with
  | true =>
    rw [hat, if_pos rfl] at e
    rw [st7_at hat, sbP_yes h h2 (by omega)]
  | false =>
    rw [hat, if_neg (by decide)] at e
    by_cases h12 : l.length = 12
    · rw [st7_full hat h12, sbP_long h (by omega)]
    · rw [st7_new hat h12, sbP_yes h h2 (by omega)]
theorem vl_ev {bs : List Bi} {gs : List Int} {kind : Int} {e : List Tk} (hk : kind ≠ 0) (h : eK kind e) (h1 : okI bs = true) (h2 : thB gs = true) : vlV e 0 bs gs = evE gs bs e := by
  obtain ⟨u, hu, rfl, h3, -⟩ := h
  have hd : u.fl.drop 0 = u.fl ++ [] := by simp
  have hk2 : kdV u.fl ((0 : Nat) : Int) ≠ 0 := by unfold kdV; rw [foV_of kdF kdG 0 hu hd, h3]; exact hk
  exact vlV_3 hk2 h1 h2
set_option maxHeartbeats 4000000 in
set_option maxRecDepth 100000 in
theorem value_any {w0 : World} {p : Nat} {ga : Option Addr} {gc : Nat} {gs : List Int} {st : St0} {w : World} (h : Xm w0 p ga gc gs st w) (sa : Option Addr) (sc : Nat) (ex : List Tk) (n : Nat) (hn : ex.length = n) (hv : V1 w0 sa sc (txL ex)) (hbd : Bd ex) {kind : Int} (hk : kind ≠ 0) (he : eK kind ex) :
    Calls Tryz.prog 110 #[.pointer (some ⟨p, 0, none⟩), .slice sa n sc] w fun e w' => Below w.heap.size w w' ∧ ((evE gs st.b ex).2 = true → e = .returned (.int .i64 (evE gs st.b ex).1)) ∧ ((evE gs st.b ex).2 = false → e = .panicked [endg 2]) := by
  obtain ⟨ba, bn, bc, c0, hbn, hbv⟩ := h.b
  have c1 := h.g
  have HS := Lib.hid (implSum_any w.drew sa sc ex n 0 (by unfold I64; omega) hn ((hv.below (show Below w0.heap.size w0 w from h.bw)).below (Below.refl _ _).drew) (by have := hbd.1; omega) hbd.2 (lib3_below h.L (h.bw.trans ((Below.refl _ w).drew.mono h.bw.size))) ba bc bn st.b hbn (hbv.1.below (Below.refl _ _).drew) (by have := h.len; omega) ga gc 3 gs h.g3 ((h.hg.below h.bw).below (Below.refl _ _).drew) (by omega))
  rw [vl_ev hk he h.ok h.th] at HS
  have hp := h.hp
  clear h hv he hbv hbd
  generalize evE gs st.b ex = xx at *
  obtain ⟨x, is⟩ := xx
  cases is
  · go_enter Tryz.func110, Tryz.ntmps110
    go_wp2_with fail
    refine wp_region_held_drew (S := fun z => z.cell? ⟨p, 0, none⟩ = some (.slice ba bn bc) ∧ z.cell? ⟨p, 1, none⟩ = some (.slice ga (3 : Nat) gc)) (by kernel_rfl) ⟨c0, c1⟩ (fun hHeld => ?_)
    refine tkI (i := 0) (v := ?v0v) rfl (Or.inl ⟨by rfl, ?hy0v⟩) ?rest0v
    case hy0v => (intro zz hSw; (try dsimp only at hSw); go_simp; (try with_reducible rfl))
    change wpAnyH _ _ _ _ _ _ _ (Act.put _ (some 8) _) _
    simp only [Act.put, List.setIfInBounds_toArray, List.set_cons_zero, List.set_cons_succ]
    refine tkI (i := 1) (v := ?v1v) rfl (Or.inl ⟨by rfl, ?hy1v⟩) ?rest1v
    case hy1v => (intro zz hSw; (try dsimp only at hSw); go_simp; (try with_reducible rfl))
    change wpAnyH _ _ _ _ _ _ _ (Act.put _ (some 9) _) _
    simp only [Act.put, List.setIfInBounds_toArray, List.set_cons_zero, List.set_cons_succ]
    refine tkI (i := 2) (v := ?v2v) rfl (Or.inl ⟨by rfl, ?hy2v⟩) ?rest2v
    case hy2v => (intro zz hSw; (try dsimp only at hSw); go_simp; (try with_reducible rfl))
    change wpAnyH _ _ _ _ _ _ _ (Act.put _ (some 10) _) _
    simp only [Act.put, List.setIfInBounds_toArray, List.set_cons_zero, List.set_cons_succ]
    refine tkI (i := 3) (v := ?v3v) rfl (Or.inl ⟨by rfl, ?hy3v⟩) ?rest3v
    case hy3v => (intro zz hSw; (try dsimp only at hSw); go_simp; (try with_reducible rfl))
    change wpAnyH _ _ _ _ _ _ _ (Act.put _ (some 11) _) _
    simp only [Act.put, List.setIfInBounds_toArray, List.set_cons_zero, List.set_cons_succ]
    refine tkI (i := 4) (v := ?v4v) rfl (Or.inl ⟨by rfl, ?hy4v⟩) ?rest4v
    case hy4v => (intro zz hSw; (try dsimp only at hSw); go_simp; (try with_reducible rfl))
    change wpAnyH _ _ _ _ _ _ _ (Act.put _ (some 12) _) _
    simp only [Act.put, List.setIfInBounds_toArray, List.set_cons_zero, List.set_cons_succ]
    refine tkI (i := 5) (v := ?v5v) rfl (Or.inl ⟨by rfl, ?hy5v⟩) ?rest5v
    case hy5v => (intro zz hSw; (try dsimp only at hSw); go_simp; (try with_reducible rfl))
    change wpAnyH _ _ _ _ _ _ _ (Act.put _ (some 13) _) _
    simp only [Act.put, List.setIfInBounds_toArray, List.set_cons_zero, List.set_cons_succ]
    refine tkI (i := 6) (v := ?v6v) rfl (Or.inl ⟨by rfl, ?hy6v⟩) ?rest6v
    case hy6v => (intro zz hSw; (try dsimp only at hSw); go_simp; (try with_reducible rfl))
    change wpAnyH _ _ _ _ _ _ _ (Act.put _ (some 14) _) _
    simp only [Act.put, List.setIfInBounds_toArray, List.set_cons_zero, List.set_cons_succ]
    refine tkI (i := 7) (v := ?v7v) rfl (Or.inl ⟨by rfl, ?hy7v⟩) ?rest7v
    case hy7v => (intro zz hSw; (try dsimp only at hSw); go_simp; (try with_reducible rfl))
    change wpAnyH _ _ _ _ _ _ _ (Act.put _ (some 15) _) _
    simp only [Act.put, List.setIfInBounds_toArray, List.set_cons_zero, List.set_cons_succ]
    refine tkI (i := 8) (v := ?v8v) rfl (Or.inl ⟨by rfl, ?hy8v⟩) ?rest8v
    case hy8v => (intro zz hSw; (try dsimp only at hSw); go_simp; (try with_reducible rfl))
    change wpAnyH _ _ _ _ _ _ _ (Act.put _ (some 16) _) _
    simp only [Act.put, List.setIfInBounds_toArray, List.set_cons_zero, List.set_cons_succ]
    refine wpAnyH_ready (rs := [9]) (by kernel_rfl) (by simp) (AllReadyH.cons rfl (fun K hK => ?_) AllReadyH.nil)
    go_simp
    refine HS.out.mono ?_; rintro e w1 ⟨rfl, bel⟩
    have BV := Lib.hid (show Below w.heap.size w w1 from (Below.refl _ w).drew.trans bel)
    refine hK.out _ _ (⟨(World.cell?_of_block (w := w.drew) (bel.block p hp)).trans hHeld.1, (World.cell?_of_block (w := w.drew) (bel.block p hp)).trans hHeld.2⟩) (fun hHeld => ?_)
    clear hK K bel
    refine tkI (i := 10) (v := ?v10v) rfl (Or.inl ⟨by rfl, ?hy10v⟩) ?rest10v
    case hy10v => (intro zz hSw; (try dsimp only at hSw); go_simp; (try with_reducible rfl))
    change wpAnyH _ _ _ _ _ _ _ (Act.put _ (some 7) _) _
    simp only [Act.put, List.setIfInBounds_toArray, List.set_cons_zero, List.set_cons_succ]
    refine tkI (i := 11) (v := ?v11v) rfl (Or.inl ⟨by rfl, ?hy11v⟩) ?rest11v
    case hy11v => (intro zz hSw; (try dsimp only at hSw); go_simp; (try with_reducible rfl))
    change wpAnyH _ _ _ _ _ _ _ (Act.put _ (some 18) _) _
    simp only [Act.put, List.setIfInBounds_toArray, List.set_cons_zero, List.set_cons_succ]
    refine tkI (i := 12) (v := ?v12v) rfl (Or.inl ⟨by rfl, ?hy12v⟩) ?rest12v
    case hy12v => (intro zz hSw; (try dsimp only at hSw); go_simp; (try with_reducible rfl))
    change wpAnyH _ _ _ _ _ _ _ (Act.put _ (some 19) _) _
    simp only [Act.put, List.setIfInBounds_toArray, List.set_cons_zero, List.set_cons_succ]
    refine tkI (i := 13) (v := ?v13v) rfl (Or.inl ⟨by rfl, ?hy13v⟩) ?rest13v
    case hy13v => (intro zz hSw; (try dsimp only at hSw); go_simp; (try with_reducible rfl))
    change wpAnyH _ _ _ _ _ _ _ (Act.put _ (some 5) _) _
    simp only [Act.put, List.setIfInBounds_toArray, List.set_cons_zero, List.set_cons_succ]
    refine tkI (i := 14) (v := ?v14v) rfl (Or.inl ⟨by rfl, ?hy14v⟩) ?rest14v
    case hy14v => (intro zz hSw; (try dsimp only at hSw); go_simp; (try with_reducible rfl))
    change wpAnyH _ _ _ _ _ _ _ (Act.put _ (some 6) _) _
    simp only [Act.put, List.setIfInBounds_toArray, List.set_cons_zero, List.set_cons_succ]
    refine wpAnyH_done (by kernel_rfl) ?_ _
    clear hHeld
    go_wp2_with fail
    refine (req_no _ 2).mono ?_; rintro e w2 ⟨rfl, rfl⟩
    exact ⟨rfl, BV.out, (fun e => by cases e), fun _ => rfl⟩
  · go_enter Tryz.func110, Tryz.ntmps110
    go_wp2_with fail
    refine wp_region_held_drew (S := fun z => z.cell? ⟨p, 0, none⟩ = some (.slice ba bn bc) ∧ z.cell? ⟨p, 1, none⟩ = some (.slice ga (3 : Nat) gc)) (by kernel_rfl) ⟨c0, c1⟩ (fun hHeld => ?_)
    refine tkI (i := 0) (v := ?v0u) rfl (Or.inl ⟨by rfl, ?hy0u⟩) ?rest0u
    case hy0u => (intro zz hSw; (try dsimp only at hSw); go_simp; (try with_reducible rfl))
    change wpAnyH _ _ _ _ _ _ _ (Act.put _ (some 8) _) _
    simp only [Act.put, List.setIfInBounds_toArray, List.set_cons_zero, List.set_cons_succ]
    refine tkI (i := 1) (v := ?v1u) rfl (Or.inl ⟨by rfl, ?hy1u⟩) ?rest1u
    case hy1u => (intro zz hSw; (try dsimp only at hSw); go_simp; (try with_reducible rfl))
    change wpAnyH _ _ _ _ _ _ _ (Act.put _ (some 9) _) _
    simp only [Act.put, List.setIfInBounds_toArray, List.set_cons_zero, List.set_cons_succ]
    refine tkI (i := 2) (v := ?v2u) rfl (Or.inl ⟨by rfl, ?hy2u⟩) ?rest2u
    case hy2u => (intro zz hSw; (try dsimp only at hSw); go_simp; (try with_reducible rfl))
    change wpAnyH _ _ _ _ _ _ _ (Act.put _ (some 10) _) _
    simp only [Act.put, List.setIfInBounds_toArray, List.set_cons_zero, List.set_cons_succ]
    refine tkI (i := 3) (v := ?v3u) rfl (Or.inl ⟨by rfl, ?hy3u⟩) ?rest3u
    case hy3u => (intro zz hSw; (try dsimp only at hSw); go_simp; (try with_reducible rfl))
    change wpAnyH _ _ _ _ _ _ _ (Act.put _ (some 11) _) _
    simp only [Act.put, List.setIfInBounds_toArray, List.set_cons_zero, List.set_cons_succ]
    refine tkI (i := 4) (v := ?v4u) rfl (Or.inl ⟨by rfl, ?hy4u⟩) ?rest4u
    case hy4u => (intro zz hSw; (try dsimp only at hSw); go_simp; (try with_reducible rfl))
    change wpAnyH _ _ _ _ _ _ _ (Act.put _ (some 12) _) _
    simp only [Act.put, List.setIfInBounds_toArray, List.set_cons_zero, List.set_cons_succ]
    refine tkI (i := 5) (v := ?v5u) rfl (Or.inl ⟨by rfl, ?hy5u⟩) ?rest5u
    case hy5u => (intro zz hSw; (try dsimp only at hSw); go_simp; (try with_reducible rfl))
    change wpAnyH _ _ _ _ _ _ _ (Act.put _ (some 13) _) _
    simp only [Act.put, List.setIfInBounds_toArray, List.set_cons_zero, List.set_cons_succ]
    refine tkI (i := 6) (v := ?v6u) rfl (Or.inl ⟨by rfl, ?hy6u⟩) ?rest6u
    case hy6u => (intro zz hSw; (try dsimp only at hSw); go_simp; (try with_reducible rfl))
    change wpAnyH _ _ _ _ _ _ _ (Act.put _ (some 14) _) _
    simp only [Act.put, List.setIfInBounds_toArray, List.set_cons_zero, List.set_cons_succ]
    refine tkI (i := 7) (v := ?v7u) rfl (Or.inl ⟨by rfl, ?hy7u⟩) ?rest7u
    case hy7u => (intro zz hSw; (try dsimp only at hSw); go_simp; (try with_reducible rfl))
    change wpAnyH _ _ _ _ _ _ _ (Act.put _ (some 15) _) _
    simp only [Act.put, List.setIfInBounds_toArray, List.set_cons_zero, List.set_cons_succ]
    refine tkI (i := 8) (v := ?v8u) rfl (Or.inl ⟨by rfl, ?hy8u⟩) ?rest8u
    case hy8u => (intro zz hSw; (try dsimp only at hSw); go_simp; (try with_reducible rfl))
    change wpAnyH _ _ _ _ _ _ _ (Act.put _ (some 16) _) _
    simp only [Act.put, List.setIfInBounds_toArray, List.set_cons_zero, List.set_cons_succ]
    refine wpAnyH_ready (rs := [9]) (by kernel_rfl) (by simp) (AllReadyH.cons rfl (fun K hK => ?_) AllReadyH.nil)
    go_simp
    refine HS.out.mono ?_; rintro e w1 ⟨rfl, bel⟩
    have BV := Lib.hid (show Below w.heap.size w w1 from (Below.refl _ w).drew.trans bel)
    refine hK.out _ _ (⟨(World.cell?_of_block (w := w.drew) (bel.block p hp)).trans hHeld.1, (World.cell?_of_block (w := w.drew) (bel.block p hp)).trans hHeld.2⟩) (fun hHeld => ?_)
    clear hK K bel
    refine tkI (i := 10) (v := ?v10u) rfl (Or.inl ⟨by rfl, ?hy10u⟩) ?rest10u
    case hy10u => (intro zz hSw; (try dsimp only at hSw); go_simp; (try with_reducible rfl))
    change wpAnyH _ _ _ _ _ _ _ (Act.put _ (some 7) _) _
    simp only [Act.put, List.setIfInBounds_toArray, List.set_cons_zero, List.set_cons_succ]
    refine tkI (i := 11) (v := ?v11u) rfl (Or.inl ⟨by rfl, ?hy11u⟩) ?rest11u
    case hy11u => (intro zz hSw; (try dsimp only at hSw); go_simp; (try with_reducible rfl))
    change wpAnyH _ _ _ _ _ _ _ (Act.put _ (some 18) _) _
    simp only [Act.put, List.setIfInBounds_toArray, List.set_cons_zero, List.set_cons_succ]
    refine tkI (i := 12) (v := ?v12u) rfl (Or.inl ⟨by rfl, ?hy12u⟩) ?rest12u
    case hy12u => (intro zz hSw; (try dsimp only at hSw); go_simp; (try with_reducible rfl))
    change wpAnyH _ _ _ _ _ _ _ (Act.put _ (some 19) _) _
    simp only [Act.put, List.setIfInBounds_toArray, List.set_cons_zero, List.set_cons_succ]
    refine tkI (i := 13) (v := ?v13u) rfl (Or.inl ⟨by rfl, ?hy13u⟩) ?rest13u
    case hy13u => (intro zz hSw; (try dsimp only at hSw); go_simp; (try with_reducible rfl))
    change wpAnyH _ _ _ _ _ _ _ (Act.put _ (some 5) _) _
    simp only [Act.put, List.setIfInBounds_toArray, List.set_cons_zero, List.set_cons_succ]
    refine tkI (i := 14) (v := ?v14u) rfl (Or.inl ⟨by rfl, ?hy14u⟩) ?rest14u
    case hy14u => (intro zz hSw; (try dsimp only at hSw); go_simp; (try with_reducible rfl))
    change wpAnyH _ _ _ _ _ _ _ (Act.put _ (some 6) _) _
    simp only [Act.put, List.setIfInBounds_toArray, List.set_cons_zero, List.set_cons_succ]
    refine wpAnyH_done (by kernel_rfl) ?_ _
    clear hHeld
    go_wp2_with fail
    refine (req_yes _ 2).mono ?_; rintro e w2 ⟨rfl, rfl⟩
    go_wp2_with fail
    go_ret
    exact ⟨BV.out, (fun _ => rfl), fun e => by cases e⟩
set_option maxHeartbeats 4000000 in
set_option maxRecDepth 100000 in
theorem holds_any {w0 : World} {p : Nat} {ga : Option Addr} {gc : Nat} {gs : List Int} {st : St0} {w : World} (h : Xm w0 p ga gc gs st w) (sa : Option Addr) (sc : Nat) (ex : List Tk) (n : Nat) (hn : ex.length = n) (hv : V1 w0 sa sc (txL ex)) (hbd : Bd ex) {kind : Int} (hk : kind ≠ 0) (he : eK kind ex) :
    Calls Tryz.prog 125 #[.pointer (some ⟨p, 0, none⟩), .slice sa n sc] w fun e w' => Below w.heap.size w w' ∧ ((evE gs st.b ex).2 = true → e = .returned (.bool ((evE gs st.b ex).1 != 0))) ∧ ((evE gs st.b ex).2 = false → e = .panicked [endg 2]) := by
  have HS := Lib.hid (value_any h sa sc ex n hn hv hbd hk he)
  clear h hv he hbd
  generalize evE gs st.b ex = xx at *
  obtain ⟨x, is⟩ := xx
  cases is
  · go_enter Tryz.func125, Tryz.ntmps125
    go_wp2_with fail
    refine HS.out.mono ?_; rintro e w1 ⟨b1, -, e1⟩
    obtain rfl := e1 (by first | exact trivial | rfl)
    exact ⟨rfl, b1, (fun e => by cases e), fun _ => rfl⟩
  · go_enter Tryz.func125, Tryz.ntmps125
    go_wp2_with fail
    refine HS.out.mono ?_; rintro e w1 ⟨b1, e1, -⟩
    obtain rfl := e1 (by first | exact trivial | rfl)
    have B1 := Lib.hid b1; clear b1
    go_wp2_with fail
    go_ret
    exact ⟨B1.out, (fun _ => rfl), fun e => by cases e⟩
set_option maxHeartbeats 4000000 in
set_option maxRecDepth 100000 in
theorem burn_yes {w0 : World} {p : Nat} {ga : Option Addr} {gc : Nat} {gs : List Int} {st : St0} {w : World} (h : Xm w0 p ga gc gs st w) (hf : st.f ≠ 0) :
    Calls Tryz.prog 126 #[.pointer (some ⟨p, 0, none⟩)] w fun e w' => e = .returned (.tuple #[]) ∧ But p w w' ∧ Xm w0 p ga gc gs ⟨st.c, st.b, st.f - 1⟩ w' := by
  have h0 := h.f0
  have f2 := h.fz.2.2
  have c2 := h.f
  have t0 : decide (0 < st.f) = true := by simp; omega
  have i1 : IntKind.i64.wrap (st.f - 1) = st.f - 1 := by rw [IntKind.wrap_i64]; omega
  have HX := Lib.hid (h.putF (st.f - 1) (by omega))
  have HB := Lib.hid (but_set w p 2 (.int .i64 (st.f - 1)))
  clear h
  go_enter Tryz.func126, Tryz.ntmps126
  go_wp2_with fail
  refine (req_yes _ 3).mono ?_; rintro e w2 ⟨rfl, rfl⟩
  go_wp2_with fail
  exact bodyPost_end (v := .tuple #[]) (by simp [results, Tryz.results126, go_sem]) rfl ⟨rfl, HB.out, HX.out⟩
set_option maxHeartbeats 4000000 in
set_option maxRecDepth 100000 in
theorem burn_no {w0 : World} {p : Nat} {ga : Option Addr} {gc : Nat} {gs : List Int} {st : St0} {w : World} (h : Xm w0 p ga gc gs st w) (hf : st.f = 0) :
    Calls Tryz.prog 126 #[.pointer (some ⟨p, 0, none⟩)] w fun e w' => e = .panicked [endg 3] ∧ w = w' := by
  have c2 := h.f
  rw [hf] at c2
  clear h
  go_enter Tryz.func126, Tryz.ntmps126
  go_wp2_with fail
  refine (req_no _ 3).mono ?_; rintro e w2 ⟨rfl, rfl⟩
  exact ⟨rfl, rfl, rfl⟩
set_option maxHeartbeats 4000000 in
set_option maxRecDepth 100000 in
theorem set_any {w0 : World} {p : Nat} {ga : Option Addr} {gc : Nat} {gs : List Int} {st : St0} {w : World} (h : Xm w0 p ga gc gs st w) (n : Tk) (v : Int) (hn : nmB n = true) (hv : isW v = true) (hc : st.c = 0) :
    Calls Tryz.prog 109 #[.pointer (some ⟨p, 0, none⟩), .string (tx n), .int .i64 v] w (RunX w0 p ga gc gs ⟨(if (st7 st.b (tx n) v).2 then st.c else 4), (st7 st.b (tx n) v).1, st.f⟩ w) := by
  obtain ⟨ba, bn, bc, c0, hbn, hbv⟩ := h.b
  have hnv : (nmB (tx n).data.toList && isW v) = true := by rw [tx_data, hn, hv]; rfl
  have HS := Lib.hid (implSet_any w ba bc st.b bn (tx n) v hbn hbv.1 (by have := h.len; omega))
  have HOK := Lib.hid (st7_ok h.ok hnv)
  rw [sbP_st7 h.ok hnv] at HS
  have HX := Lib.hid h
  have HC := Lib.hid hc
  have f0 := h.fz.1
  clear h hbv hnv hc
  generalize st7 st.b (tx n) v = q at *
  obtain ⟨l, fg⟩ := q
  cases fg
  · go_enter Tryz.func109, Tryz.ntmps109
    go_wp2_with fail
    refine HS.out.mono ?_; rintro e w1 ⟨v1, rfl, o1, b1⟩
    have B1 := Lib.hid b1
    clear b1 o1
    go_wp2_with fail
    refine (req_no _ 4).mono ?_; rintro e w2 ⟨rfl, rfl⟩
    exact ⟨rfl, But.of B1.out, (fun e => absurd (show (4 : Int) = 0 from e) (by decide)), fun _ => rfl⟩
  · go_enter Tryz.func109, Tryz.ntmps109
    go_wp2_with fail
    refine HS.out.mono ?_; rintro e w1 ⟨v1, rfl, o1, b1⟩
    obtain ⟨a1, k1, rfl, -⟩ := o1.view
    have B1 := Lib.hid b1
    have X1 := Lib.hid (HX.out.next b1)
    have f1 := X1.out.fz.1
    obtain ⟨a3, n3, k3, c3, -, -⟩ := X1.out.b
    have XB := Lib.hid (HX.out.putB b1 rfl o1 HOK.out)
    clear b1 o1
    go_wp2_with fail
    refine (req_yes _ 4).mono ?_; rintro e w2 ⟨rfl, rfl⟩
    go_wp2_with fail
    refine bodyPost_end (v := .tuple #[]) (by simp [results, Tryz.results109, go_sem]) rfl ⟨(But.of B1.out).trans (but_set _ p 0 _), fun _ => ⟨rfl, XB.out⟩, fun e => absurd HC.out e⟩
end Go.Proofs.YtfnnoehpahdgcaaGreatDoor.Cl
namespace Go.Proofs.YtfnnoehpahdgcaaGreatDoor.Cl
set_option linter.unusedVariables false
open Go.RowKit Wd Rp Kp
structure KpI (w w' : World) (v v' : Value) : Prop where
  size : w.heap.size ≤ w'.heap.size
  blk : ∀ g, g < w.heap.size → v.ownBlock ≠ some g → w'.heap[g]? = w.heap[g]?
  own : ∀ g, v'.ownBlock = some g → v.ownBlock = some g ∨ w.heap.size ≤ g
theorem KpI.below {w w' : World} (h : Below w.heap.size w w') (v : Value) : KpI w w' v v := ⟨h.size, fun g hg _ => h.block g hg, fun g hg => Or.inl hg⟩
theorem KpI.fresh {w w' : World} {v v' : Value} {l : List Bi} (h : Below w.heap.size w w') (ho : OwI w.heap.size w' v' l) : KpI w w' v v' := ⟨h.size, fun g hg _ => h.block g hg, fun g hg => Or.inr (OwI.lt ho g hg)⟩
theorem KpI.put {w w1 : World} {v : Value} {a : Addr} {u : Value} (h : Below w.heap.size w w1) (hv : v.ownBlock = some a.block) : KpI w (w1.setCell a u) v v :=
  ⟨by have := h.size; simpa [World.setCell] using this, fun g hg hn => (Below.heap_setCell w1 a u g (fun e => hn (by rw [hv, e]))).trans (h.block g hg), fun g hg => Or.inl hg⟩
theorem KpI.trans {w w1 w2 : World} {v v1 v2 : Value} (h : KpI w w1 v v1) (k : KpI w1 w2 v1 v2) : KpI w w2 v v2 :=
  ⟨Nat.le_trans h.size k.size, fun g hg hn => (k.blk g (Nat.lt_of_lt_of_le hg h.size) (fun e => (h.own g e).elim hn (fun e2 => by omega))).trans (h.blk g hg hn), fun g hg => by
    rcases k.own g hg with e | e
    · exact h.own g e
    · right; have := h.size; omega⟩
def SbOwn (B : Nat) (v : Value) (p : List Bi × Bool) (w : World) (e : Ending) (w' : World) : Prop := ∃ v', e = .returned (.tuple #[v', .bool p.2]) ∧ OwI B w' v' p.1 ∧ Below B w w' ∧ KpI w w' v v'
def CbOwn (B : Nat) (v : Value) (p : List Bi) (w : World) (e : Ending) (w' : World) : Prop := ∃ v', e = .returned v' ∧ OwI B w' v' p ∧ Below B w w' ∧ KpI w w' v v'
set_option maxHeartbeats 4000000 in
set_option maxRecDepth 100000 in
theorem l7Set_own {B : Nat} (w : World) (v : Value) (l : List Bi) (s : ByteArray) (x : Int) (ho : OwI B w v l) (hB : B ≤ w.heap.size) (hl : l.length ≤ 4000) :
    Calls Tryz.prog 60 #[v, .string s, .int .i64 x] w (SbOwn B v (st7 l s x) w) := by
  have hT : Tryz.prog.underlying 25 = some (.slice 44) := Tryz.underlying25
  obtain ⟨a, cap, rfl, hv, hf⟩ := ho.own
  have HO := Lib.hid ho; clear ho
  have HV := Lib.hid hv
  have HF := Lib.hid hf; clear hf
  obtain ⟨n, hn⟩ : ∃ n, l.length = n := ⟨_, rfl⟩
  have HN := Lib.hid hn
  rw [hn] at HO HF ⊢
  have HFD := Lib.hid (l7Find_any w a cap l n s hn hv (by omega)); clear hv
  have hcl := cntI_le s l
  rw [hn] at hcl
  have hn4 : n ≤ 4000 := by omega
  cases hat : isAt s l
  · have hk0 := hat
    rw [hat] at HFD
    by_cases h12 : n = 12
    · have HE := Lib.hid (st7_full (x := x) hat (by rw [hn]; exact h12))
      have i1 : ((n : Int) == 12) = true := by simp; omega
      clear h12 hn
      go_enter Tryz.func60, Tryz.ntmps60
      go_wp2_with fail
      refine HFD.out.mono ?_; rintro e w1 ⟨rfl, b1⟩
      have B1 := Lib.hid (b1.mono hB)
      have K1 := Lib.hid (KpI.below b1 (.slice a n cap))
      have O1 := Lib.hid (HO.out.next b1); clear b1
      go_wp2_with fail
      refine bodyPost_ret (v := .tuple #[.slice a n cap, .bool false]) (by simp [results, Tryz.results60, go_sem]) rfl ⟨.slice a n cap, by rw [HE.out], by rw [HE.out]; exact O1.out, B1.out, K1.out⟩
    · have HE := Lib.hid (st7_new (x := x) hat (by rw [hn]; exact h12))
      have HBH := Lib.hid (show behI s l = l.drop (cntI s l) by unfold behI; rw [if_neg (by rw [hat]; decide)])
      have i1 : ((n : Int) == 12) = false := by simp; omega
      obtain ⟨b, cb, hr1, hv1⟩ := cutI_from 25 (by kernel_rfl) (by kernel_rfl) a n cap (cntI s l) hcl
      obtain ⟨hr2, hv2⟩ := cutI_to 25 (by kernel_rfl) (by kernel_rfl) a n cap (cntI s l) hcl (by rw [← hn]; exact HV.out.1) HV.out.2.2.1
      have HV1 := Lib.hid (hv1 w l HV.out hn)
      have HV2 := Lib.hid (hv2 w l HV.out hn); clear hv1 hv2
      have HTL := Lib.hid (takeI_len s l)
      have HDL := Lib.hid (show (l.drop (cntI s l)).length = n - cntI s l by rw [List.length_drop, hn])
      have HST := Lib.hid (show stI l s x = (l.take (cntI s l) ++ [⟨s, x⟩]) ++ l.drop (cntI s l) by unfold stI; rw [HBH.out, List.append_assoc])
      generalize l.drop (cntI s l) = dr at *
      generalize l.take (cntI s l) = tk at *
      generalize cntI s l = k at *
      clear h12 hn
      go_enter Tryz.func60, Tryz.ntmps60
      go_wp2_with fail
      refine HFD.out.mono ?_; rintro e w1 ⟨rfl, b1⟩
      have B1 := Lib.hid b1; clear b1
      go_wp2_with fail
      refine (l7Copy_any w1 b cb dr (n - k) HDL.out (HV1.out.below B1.out) (by omega)).mono ?_; rintro e w2 ⟨v2, rfl, o2, b2⟩
      have B2 := Lib.hid (bel_tr B1.out b2 (Nat.le_refl _))
      obtain ⟨va, vc, rfl, hv2⟩ := o2.view
      have V2 := Lib.hid hv2
      have L2 := Lib.hid (OwI.blk o2); clear hv2 o2 b2
      rw [HDL.out]
      go_wp2_with fail
      refine (l7Copy_any w2 a cap tk k HTL.out (HV2.out.below B2.out) (by omega)).mono ?_; rintro e w3 ⟨v3, rfl, o3, b3⟩
      have B3 := Lib.hid (bel_tr B2.out b3 (Nat.le_refl _))
      have Z2 := Lib.hid B2.out.size
      have O3 := Lib.hid (o3.mono (Nat.le_trans (Nat.le_refl w.heap.size) B2.out.size))
      have V3 := Lib.hid (V2.out.below b3)
      have L3 := Lib.hid (OwI.lt o3); clear b3 o3
      have HLT := Lib.hid (VwI.lit w3 ⟨s, x⟩)
      have HL4 := Lib.hid (bel1 w3 (.cells #[.string s, .int .i64 x] 44))
      have O4 := Lib.hid (O3.out.next HL4.out)
      have Z3 := Lib.hid B3.out.size
      have T1 : tk.length + [(⟨s, x⟩ : Bi)].length ≤ 10000000 := by have := HTL.out; simp; omega
      have T2 : w.heap.size ≤ (w3.alloc (.cells #[.string s, .int .i64 x] 44)).heap.size := by have := Z2.out; have := Z3.out; have := HL4.out.size; omega
      have TC := Lib.hid (show ∀ v5 w5, OwI w.heap.size w5 v5 (tk ++ [⟨s, x⟩]) → (w3.alloc (.cells #[.string s, .int .i64 x] 44)).grownBy w5 v3.ownBlock → OwI w.heap.size w5 v5 (tk ++ [⟨s, x⟩]) ∧ Below w.heap.size w3 w5 ∧ VwI w5 va vc dr ∧ w.heap.size ≤ w5.heap.size from fun v5 w5 o5 g5 => by
        have C5 := (HL4.out.mono (show w.heap.size ≤ w3.heap.size by have := Z2.out; have := Z3.out; omega)).grown g5 T2 (fun j hj => OwI.lt O4.out j hj)
        exact ⟨o5, C5, (V3.out.below HL4.out).grown g5 (fun g o hne e e2 => by have := (L2.out g o hne e).2; have := L3.out g e2; omega), by have := C5.size; have := Z2.out; have := Z3.out; omega⟩)
      have T3 : (tk ++ [(⟨s, x⟩ : Bi)]).length + dr.length ≤ 10000000 := by have := HTL.out; have := HDL.out; simp; omega
      go_wp2_with (first
        | (at_builtin; refine append_binsT rfl (.tmp 35) (.tmp 39) 25 hT rfl (base := w.heap.size) (l := tk) (m := [⟨s, x⟩]) rfl rfl rfl O4.out HLT.out T1 T2 ?_; intro v5 w5 o5 g5; have G5 := Lib.hid (TC.out _ _ o5 g5); clear o5 g5)
        | (at_builtin; refine append_binsT rfl (.tmp 40) (.tmp 41) 25 hT rfl (base := w.heap.size) (l := tk ++ [(⟨s, x⟩ : Bi)]) (m := dr) rfl rfl HDL.out G5.out.1 G5.out.2.2.1 T3 G5.out.2.2.2 ?_; intro v6 w6 o6 g6; have G6 := Lib.hid (And.intro o6 g6); clear o6 g6))
      have O6 := Lib.hid G6.out.1
      obtain ⟨v6a, v6c, e6, -⟩ := G6.out.1.view
      have C6 := Lib.hid (G5.out.2.1.grown G6.out.2 G5.out.2.2.2 (fun j hj => OwI.lt G5.out.1 j hj))
      have CF := Lib.hid ((B3.out.mono (Nat.le_refl w.heap.size)).trans C6.out)
      go_wp2_with fail
      refine bodyPost_ret (v := .tuple #[v6, .bool true]) (by simp [results, Tryz.results60, go_sem]) rfl ⟨v6, by rw [HE.out], by rw [HE.out, HST.out]; exact OwI.mono O6.out hB, CF.out.mono hB, KpI.fresh CF.out O6.out⟩
  · have HE := Lib.hid (st7_at (x := x) hat)
    have hkl := isAt_lt hat
    obtain ⟨d, hd⟩ : ∃ d, l[cntI s l]? = some d := ⟨l[cntI s l], List.getElem?_eq_getElem hkl⟩
    have HST := Lib.hid (stI_at hd hat x)
    rw [hn] at hkl
    obtain ⟨g, rfl, hg, -⟩ := HF.out (cntI s l) hkl
    have HD := Lib.hid hd; clear hd
    rw [hat] at HFD
    generalize cntI s l = k at *
    go_enter Tryz.func60, Tryz.ntmps60
    go_wp2_with fail
    refine HFD.out.mono ?_; rintro e w1 ⟨rfl, b1⟩
    have B1 := Lib.hid (b1.mono hB)
    have KB := Lib.hid b1
    have O1 := Lib.hid (HO.out.next b1); clear b1
    obtain ⟨⟨c0, c1⟩, ⟨f0, f1⟩, -, -⟩ := O1.out.at HD.out
    have O2 := Lib.hid (O1.out.setV hn.symm k d HD.out x)
    have B2 := Lib.hid (B1.out.setCell (p := ⟨g, k * 2 + 1, none⟩) hg (.int .i64 x))
    go_wp2_with fail
    refine bodyPost_ret (v := .tuple #[.slice (some ⟨g, 0, none⟩) n cap, .bool true]) (by simp [results, Tryz.results60, go_sem]) rfl ⟨.slice (some ⟨g, 0, none⟩) n cap, by rw [HE.out], by rw [HE.out, HST.out]; exact O2.out, B2.out, KpI.put KB.out rfl⟩
set_option maxHeartbeats 4000000 in
set_option maxRecDepth 100000 in
theorem l7Cut_own {B : Nat} (w : World) (v : Value) (l : List Bi) (s : ByteArray) (ho : OwI B w v l) (hB : B ≤ w.heap.size) (hl : l.length ≤ 4000) :
    Calls Tryz.prog 61 #[v, .string s] w (CbOwn B v (ctI l s) w) := by
  have hT : Tryz.prog.underlying 25 = some (.slice 44) := Tryz.underlying25
  obtain ⟨a, cap, rfl, hv⟩ := ho.view
  have HO := Lib.hid ho; clear ho
  have HV := Lib.hid hv
  obtain ⟨n, hn⟩ : ∃ n, l.length = n := ⟨_, rfl⟩
  rw [hn] at HO ⊢
  have HFD := Lib.hid (l7Find_any w a cap l n s hn hv (by omega)); clear hv
  have hcl := cntI_le s l
  have hn4 : n ≤ 4000 := by omega
  rw [hn] at hcl
  cases hat : isAt s l
  · have HE := Lib.hid (ctI_no hat)
    rw [hat] at HFD
    go_enter Tryz.func61, Tryz.ntmps61
    go_wp2_with fail
    refine HFD.out.mono ?_; rintro e w1 ⟨rfl, b1⟩
    have B1 := Lib.hid (b1.mono hB)
    have K1 := Lib.hid (KpI.below b1 (.slice a n cap))
    have O1 := Lib.hid (HO.out.next b1); clear b1
    go_wp2_with fail
    go_ret
    exact ⟨_, rfl, by rw [HE.out]; exact O1.out, B1.out, K1.out⟩
  · have hkl := isAt_lt hat
    rw [hn] at hkl
    have HST := Lib.hid (show ctI l s = l.take (cntI s l) ++ l.drop (cntI s l + 1) by unfold ctI behI; rw [if_pos hat])
    rw [hat] at HFD
    obtain ⟨b, cb, hr1, hv1⟩ := cutI_from 25 (by kernel_rfl) (by kernel_rfl) a n cap (cntI s l + 1) (by omega)
    obtain ⟨hr2, hv2⟩ := cutI_to 25 (by kernel_rfl) (by kernel_rfl) a n cap (cntI s l) hcl (by rw [← hn]; exact HV.out.1) HV.out.2.2.1
    rw [show ((cntI s l + 1 : Nat) : Int) = (cntI s l : Int) + 1 by omega] at hr1
    have HV1 := Lib.hid (hv1 w l HV.out hn)
    have HV2 := Lib.hid (hv2 w l HV.out hn); clear hv1 hv2
    have HTL := Lib.hid (takeI_len s l)
    have HDL := Lib.hid (show (l.drop (cntI s l + 1)).length = n - (cntI s l + 1) by rw [List.length_drop, hn])
    generalize l.drop (cntI s l + 1) = dr at *
    generalize l.take (cntI s l) = tk at *
    generalize cntI s l = k at *
    have T1 : tk.length + dr.length ≤ 10000000 := by have := HTL.out; have := HDL.out; omega
    have i5 : (0 : Int) ≤ (k : Int) := by omega
    have i6 : (k : Int) ≤ 4000 := by omega
    have i7 : IntKind.i64.wrap ((k : Int) + 1) = (k : Int) + 1 := by rw [IntKind.wrap_i64]; omega
    go_enter Tryz.func61, Tryz.ntmps61
    go_wp2_with fail
    refine HFD.out.mono ?_; rintro e w1 ⟨rfl, b1⟩
    have HB1 := Lib.hid b1; clear b1
    go_wp2_with fail
    refine wp_region_held_drew (S := fun z => Below w1.heap.size w1 z) (by kernel_rfl) (Below.refl _ _).drew (fun hHeld => ?_)
    refine tkI (i := 0) (v := ?v0k) rfl (Or.inl ⟨by rfl, ?hy0k⟩) ?rest0k
    case hy0k => (intro zz hSw; (try dsimp only at hSw); go_simp; (try with_reducible rfl))
    change wpAnyH _ _ _ _ _ _ _ (Act.put _ (some 16) _) _
    simp only [Act.put, List.setIfInBounds_toArray, List.set_cons_zero, List.set_cons_succ]
    refine tkI (i := 1) (v := ?v1k) rfl (Or.inl ⟨by rfl, ?hy1k⟩) ?rest1k
    case hy1k => (intro zz hSw; (try dsimp only at hSw); go_simp; (try with_reducible rfl))
    change wpAnyH _ _ _ _ _ _ _ (Act.put _ (some 17) _) _
    simp only [Act.put, List.setIfInBounds_toArray, List.set_cons_zero, List.set_cons_succ]
    refine tkI (i := 2) (v := ?v2k) rfl (Or.inl ⟨by rfl, ?hy2k⟩) ?rest2k
    case hy2k => (intro zz hSw; (try dsimp only at hSw); go_simp; (try with_reducible rfl))
    change wpAnyH _ _ _ _ _ _ _ (Act.put _ (some 18) _) _
    simp only [Act.put, List.setIfInBounds_toArray, List.set_cons_zero, List.set_cons_succ]
    refine tkI (i := 4) (v := ?v4k) rfl (Or.inl ⟨by rfl, ?hy4k⟩) ?rest4k
    case hy4k => (intro zz hSw; (try dsimp only at hSw); go_simp; (try with_reducible rfl))
    change wpAnyH _ _ _ _ _ _ _ (Act.put _ (some 20) _) _
    simp only [Act.put, List.setIfInBounds_toArray, List.set_cons_zero, List.set_cons_succ]
    refine tkI (i := 5) (v := ?v5k) rfl (Or.inl ⟨by rfl, ?hy5k⟩) ?rest5k
    case hy5k => (intro zz hSw; (try dsimp only at hSw); go_simp; (try with_reducible rfl))
    change wpAnyH _ _ _ _ _ _ _ (Act.put _ (some 21) _) _
    simp only [Act.put, List.setIfInBounds_toArray, List.set_cons_zero, List.set_cons_succ]
    refine tkI (i := 6) (v := ?v6k) rfl (Or.inl ⟨by rfl, ?hy6k⟩) ?rest6k
    case hy6k => (intro zz hSw; (try dsimp only at hSw); go_simp; (try with_reducible rfl))
    change wpAnyH _ _ _ _ _ _ _ (Act.put _ (some 22) _) _
    simp only [Act.put, List.setIfInBounds_toArray, List.set_cons_zero, List.set_cons_succ]
    refine tkI (i := 7) (v := ?v7k) rfl (Or.inl ⟨by rfl, ?hy7k⟩) ?rest7k
    case hy7k => (intro zz hSw; (try dsimp only at hSw); go_simp; (try with_reducible rfl))
    change wpAnyH _ _ _ _ _ _ _ (Act.put _ (some 23) _) _
    simp only [Act.put, List.setIfInBounds_toArray, List.set_cons_zero, List.set_cons_succ]
    refine wpAnyH_ready (rs := [3]) (by kernel_rfl) (by simp) (AllReadyH.cons rfl (fun K hK => ?_) (AllReadyH.nil))
    go_simp
    refine (l7Copy_any _ a cap tk k HTL.out (HV2.out.below (HB1.out.trans (hHeld.mono HB1.out.size))) (by omega)).mono ?_; rintro e w4 ⟨v4, rfl, o4, bel⟩
    have O4 := Lib.hid (o4.mono hHeld.size); clear o4
    refine hK.out _ _ (bel_tr hHeld bel (Nat.le_refl _)) (fun hHeld => ?_)
    clear hK K bel
    refine wpAnyH_ready (rs := [8]) (by kernel_rfl) (by simp) (AllReadyH.cons rfl (fun K hK => ?_) (AllReadyH.nil))
    refine step_append_binsT rfl (.tmp 19) (.tmp 23) 25 hT rfl (base := w1.heap.size) (l := tk) (m := dr) rfl rfl HDL.out O4.out (HV1.out.below (HB1.out.trans (hHeld.mono HB1.out.size))) T1 hHeld.size ?_
    intro v6 w6 o6 g6 n6
    have O6 := Lib.hid o6
    refine hK.out _ _ (hHeld.grown g6 hHeld.size (fun j hj => OwI.lt O4.out j hj)) (fun hHeld => ?_)
    clear hK K o6 g6 n6
    change wpAnyH _ _ _ _ _ _ _ (Act.put _ (some 24) _) _
    simp only [Act.put, List.setIfInBounds_toArray, List.set_cons_zero, List.set_cons_succ]
    refine tkI (i := 9) (v := ?v9k) rfl (Or.inl ⟨by rfl, ?hy9k⟩) ?rest9k
    case hy9k => (intro zz hSw; (try dsimp only at hSw); go_simp; (try with_reducible rfl))
    change wpAnyH _ _ _ _ _ _ _ (Act.put _ (some 4) _) _
    simp only [Act.put, List.setIfInBounds_toArray, List.set_cons_zero, List.set_cons_succ]
    refine wpAnyH_done (by kernel_rfl) ?_ _
    have CF := Lib.hid (HB1.out.trans (hHeld.mono HB1.out.size)); clear hHeld
    go_wp2_with fail
    go_ret
    exact ⟨_, rfl, by rw [HST.out]; exact O6.out.mono (Nat.le_trans hB HB1.out.size), CF.out.mono hB, KpI.fresh CF.out (O6.out.mono HB1.out.size)⟩
end Go.Proofs.YtfnnoehpahdgcaaGreatDoor.Cl
namespace Go.Proofs.YtfnnoehpahdgcaaGreatDoor.Cl
set_option linter.unusedVariables false
open Go.RowKit Wd Rp Kp
theorem tkA_drop {l : List Tk} {i : Int} {s : Tk} (h : tkA l i = some s) : 0 ≤ i ∧ l.drop i.toNat = s :: l.drop (i + 1).toNat := by
  obtain ⟨h0, h1, h2⟩ := tkA_some h
  obtain ⟨h3, rfl⟩ := List.getElem?_eq_some_iff.1 h2
  refine ⟨h0, ?_⟩
  rw [List.drop_eq_getElem_cons h3, show (i + 1).toNat = i.toNat + 1 by omega]
theorem sm_tree {l : List Tk} {kind i : Int} (hk : kind ≠ 0) (h : smV l kind i ≠ -1) : ∃ e, eK kind e ∧ 0 ≤ i ∧ l.drop i.toNat = e ++ l.drop (smV l kind i).toNat := by
  unfold smV at h ⊢
  split at h
  · exact absurd rfl h
  · rename_i hn
    rw [if_neg hn]
    have h1 : kdV l i = kind := by apply Decidable.byContradiction; intro e; exact hn (Or.inr (Or.inl e))
    have h2 : ¬ 5 < dpV l i := fun e => hn (Or.inr (Or.inr e))
    obtain ⟨m, he⟩ := kdV_some (l := l) (i := i) (by rw [h1]; exact hk)
    obtain ⟨u, hu, h0, hm, hd, hf⟩ := foV_tree kdF kdG 0 he
    obtain ⟨k, rfl⟩ : ∃ k : Nat, i = k := ⟨i.toNat, by omega⟩
    rw [Int.toNat_natCast] at hd
    refine ⟨u.fl, ⟨u, hu, rfl, by rw [← h1]; exact hf.symm, by rw [← foV_of dpF dpG 0 hu hd]; exact h2⟩, h0, ?_⟩
    rw [edV_some he, Int.toNat_natCast, hd, show ((k : Int) + (m : Int)).toNat = k + m by omega]
theorem sm_det {l : List Tk} {kind : Int} {k : Nat} {e r : List Tk} (h : eK kind e) (hd : l.drop k = e ++ r) : smV l kind (k : Int) = ((k + e.length : Nat) : Int) ∧ smT l (k : Int) = e := by
  obtain ⟨u, hu, rfl, h1, h2⟩ := h
  have he := enA_of hu hd
  have h3 : edV l (k : Int) = ((k + u.fl.length : Nat) : Int) := by rw [edV_some he]; omega
  have h4 : kdV l (k : Int) = kind := by rw [← h1]; exact foV_of kdF kdG 0 hu hd
  have h5 : dpV l (k : Int) = u.fo dpF dpG := foV_of dpF dpG 0 hu hd
  constructor
  · rw [sm_yes (by rw [h3]; omega) h4 (by rw [h5]; exact h2), h3]
  · unfold smT
    rw [he]
    show (l.drop k).take u.fl.length = _
    rw [hd, List.take_left]
def Sm.shape (W : Sl → Prop) : Sm → Prop
  | .set n e => nmB n = true ∧ eK 1 e
  | .cut n => nmB n = true
  | .stop => True
  | .ifs e a b => eK 2 e ∧ W a ∧ W b
  | .whl e a => eK 2 e ∧ W a
theorem Sm.wf_shape {d : Nat} {s : Sm} (h : s.shape (Sl.wf d)) : s.wf (d + 1) := by
  cases s <;> rw [Sm.wf] <;> first | exact h | trivial
theorem Sm.wf_shape0 {s : Sm} (h : s.shape (fun _ => False)) : s.wf 0 := by
  cases s with
  | set n e => rw [Sm.wf]; exact h
  | cut n => rw [Sm.wf]; exact h
  | stop => rw [Sm.wf]; trivial
  | ifs e a b => exact h.2.1.elim
  | whl e a => exact h.2.elim
def IsBlok (l : List Tk) (B : Int → Int) (W : Sl → Prop) : Prop := ∀ i, B i ≠ -1 → ∃ a : Sl, W a ∧ l.drop i.toNat = [91] :: (a.fl ++ ([93] :: l.drop (B i).toNat))
def IsDeed (l : List Tk) (f : Int → Int) (W : Sm → Prop) : Prop := ∀ i, f i ≠ -1 → ∃ s : Sm, W s ∧ l.drop i.toNat = s.fl ++ l.drop (f i).toNat
theorem nmA_some {l : List Tk} {i : Int} (h : nmA l i = true) : ∃ n, tkA l i = some n ∧ nmB n = true := by
  unfold nmA at h
  cases e : tkA l i with
  | none => rw [e] at h; cases h
  | some n => rw [e] at h; exact ⟨n, rfl, h⟩
theorem dd_tree {l : List Tk} {B : Int → Int} {W : Sl → Prop} (hA : ∀ i, Ahd l i (B i)) (hB : IsBlok l B W) : IsDeed l (ddG l B) (Sm.shape W) := by
  intro i hn
  cases h : tkA l i with
  | none => unfold ddG at hn; rw [h] at hn; exact absurd rfl hn
  | some s =>
    obtain ⟨h0, hd⟩ := tkA_drop h
    rw [ddG_some h] at hn ⊢
    by_cases h1 : s = setT
    · subst h1
      rw [if_pos rfl] at hn ⊢
      by_cases hm : nmA l (i + 1) = true
      · rw [if_pos hm] at hn ⊢
        obtain ⟨n, hn1, hn2⟩ := nmA_some hm
        obtain ⟨-, hd2⟩ := tkA_drop hn1
        obtain ⟨e, he, -, hd3⟩ := sm_tree (by decide) hn
        rw [show i + 1 + 1 = i + 2 by omega] at hd2
        exact ⟨.set n e, ⟨hn2, he⟩, by rw [hd, hd2, hd3]; simp [Sm.fl]⟩
      · rw [if_neg hm] at hn; exact absurd rfl hn
    · rw [if_neg h1] at hn ⊢
      by_cases h2 : s = cutT
      · subst h2
        rw [if_pos rfl] at hn ⊢
        by_cases hm : nmA l (i + 1) = true
        · rw [if_pos hm] at hn ⊢
          obtain ⟨n, hn1, hn2⟩ := nmA_some hm
          obtain ⟨-, hd2⟩ := tkA_drop hn1
          rw [show i + 1 + 1 = i + 2 by omega] at hd2
          exact ⟨.cut n, hn2, by rw [hd, hd2]; simp [Sm.fl]⟩
        · rw [if_neg hm] at hn; exact absurd rfl hn
      · rw [if_neg h2] at hn ⊢
        by_cases h3 : s = stopT
        · subst h3
          rw [if_pos rfl]
          exact ⟨.stop, trivial, by rw [hd]; simp [Sm.fl]⟩
        · rw [if_neg h3] at hn ⊢
          by_cases h4 : s = ifT
          · subst h4
            rw [if_pos rfl] at hn ⊢
            have k1 : B (smV l 2 (i + 1)) ≠ -1 := fun e => hn (by rw [e]; exact ahd_neg hA)
            have k2 : smV l 2 (i + 1) ≠ -1 := fun e => k1 (by rw [e]; exact ahd_neg hA)
            obtain ⟨e, he, -, hd2⟩ := sm_tree (by decide) k2
            obtain ⟨a, ha, hd3⟩ := hB _ k1
            obtain ⟨b, hb, hd4⟩ := hB _ hn
            exact ⟨.ifs e a b, ⟨he, ha, hb⟩, by rw [hd, hd2, hd3, hd4]; simp [Sm.fl]⟩
          · rw [if_neg h4] at hn ⊢
            by_cases h5 : s = whT
            · subst h5
              rw [if_pos rfl] at hn ⊢
              have k2 : smV l 2 (i + 1) ≠ -1 := fun e => hn (by rw [e]; exact ahd_neg hA)
              obtain ⟨e, he, -, hd2⟩ := sm_tree (by decide) k2
              obtain ⟨a, ha, hd3⟩ := hB _ hn
              exact ⟨.whl e a, ⟨he, ha⟩, by rw [hd, hd2, hd3]; simp [Sm.fl]⟩
            · rw [if_neg h5] at hn; exact absurd rfl hn
theorem ble_tree {l : List Tk} {f : Int → Int} {d : Nat} (hf : IsDeed l f (Sm.wf d)) : ∀ (n : Nat) (i : Int), blE l f n i ≠ -1 → ∃ a : Sl, a.wf d ∧ l.drop i.toNat = a.fl ++ ([93] :: l.drop (blE l f n i).toNat)
  | 0, i, h => absurd rfl h
  | n + 1, i, h => by
    cases e : tkA l i with
    | none => rw [blE, e] at h; exact absurd rfl h
    | some s =>
      by_cases hs : s = [93]
      · subst hs
        have e1 : blE l f (n + 1) i = i + 1 := by rw [blE, e]; exact if_pos rfl
        rw [e1]
        exact ⟨.nil, by rw [Sl.wf]; trivial, by rw [(tkA_drop e).2]; simp [Sl.fl]⟩
      · have e1 : blE l f (n + 1) i = blE l f n (f i) := by rw [blE, e]; exact if_neg hs
        rw [e1] at h ⊢
        have k1 : f i ≠ -1 := fun g => h (by rw [g]; exact ble_neg l f n (by omega))
        obtain ⟨t, ht, hd⟩ := hf i k1
        obtain ⟨a, ha, hd2⟩ := ble_tree hf n _ h
        exact ⟨.cons t a, by rw [Sl.wf]; exact ⟨ht, ha⟩, by rw [hd, hd2]; simp [Sl.fl]⟩
theorem bls_tree {l : List Tk} {f : Int → Int} {d : Nat} (hf : IsDeed l f (Sm.wf d)) : IsBlok l (blS l f) (Sl.wf d) := by
  intro i h
  by_cases hb : tkA l i = some [91]
  · have e : blS l f i = blE l f (l.length + 1) (i + 1) := by unfold blS; rw [if_pos hb]
    rw [e] at h ⊢
    obtain ⟨a, ha, hd⟩ := ble_tree hf _ _ h
    exact ⟨a, ha, by rw [(tkA_drop hb).2, hd]⟩
  · exact absurd (by unfold blS; rw [if_neg hb]) h
theorem ddE_tree (l : List Tk) : ∀ d : Nat, IsDeed l (ddE l d) (Sm.wf d)
  | 0 => fun i h => by
    obtain ⟨s, hs, hd⟩ := dd_tree (l := l) (B := fun _ => -1) (W := fun _ => False) (fun _ => Or.inl rfl) (fun i h => absurd rfl h) i h
    exact ⟨s, Sm.wf_shape0 hs, hd⟩
  | d + 1 => fun i h => by
    obtain ⟨s, hs, hd⟩ := dd_tree (bls_ahd (ddE_ahd l d)) (bls_tree (ddE_tree l d)) i h
    exact ⟨s, Sm.wf_shape hs, hd⟩
theorem dl_tree {l : List Tk} {f : Int → Int} {d : Nat} (hf : IsDeed l f (Sm.wf d)) : ∀ (n : Nat) (i : Int), dlE l f n i = l.length → ∃ a : Sl, a.wf d ∧ l.drop i.toNat = a.fl
  | 0, i, h => ⟨.nil, by rw [Sl.wf]; trivial, by have : i = l.length := h; subst this; simp [Sl.fl]⟩
  | n + 1, i, h => by
    cases e : tkA l i with
    | none => rw [dlE, e] at h; exact ⟨.nil, by rw [Sl.wf]; trivial, by have : i = l.length := h; subst this; simp [Sl.fl]⟩
    | some s =>
      by_cases hs : s = [93]
      · have e1 : dlE l f (n + 1) i = i := by rw [dlE, e]; exact if_pos hs
        have := tkA_some e
        omega
      · have e1 : dlE l f (n + 1) i = dlE l f n (f i) := by rw [dlE, e]; exact if_neg hs
        rw [e1] at h
        have k1 : f i ≠ -1 := fun g => by rw [g, dlE_neg l f n (by omega)] at h; omega
        obtain ⟨t, ht, hd⟩ := hf i k1
        obtain ⟨a, ha, hd2⟩ := dl_tree hf n _ h
        exact ⟨.cons t a, by rw [Sl.wf]; exact ⟨ht, ha⟩, by rw [hd, hd2]; simp [Sl.fl]⟩
theorem rc_tree {l : List Tk} (h : rcB l = true) : ∃ t : Sl, t.wf 5 ∧ l = t.fl := by
  rw [rcB_dl, Bool.and_eq_true, decide_eq_true_eq, decide_eq_true_eq] at h
  obtain ⟨a, ha, hd⟩ := dl_tree (ddE_tree l 5) _ 0 h.2
  exact ⟨a, ha, hd⟩
end Go.Proofs.YtfnnoehpahdgcaaGreatDoor.Cl
namespace Go.Proofs.YtfnnoehpahdgcaaGreatDoor.Cl
set_option linter.unusedVariables false
open Go.RowKit Wd Rp Kp
theorem tkA_of {l : List Tk} {k : Nat} {s : Tk} {r : List Tk} (h : l.drop k = s :: r) : tkA l (k : Int) = some s := by rw [tkA_nat]; exact (drop_head h).1
theorem Sm.head (s : Sm) : ∃ t q, s.fl = t :: q ∧ t ≠ [93] := by
  cases s <;> exact ⟨_, _, rfl, by decide⟩
theorem nmA_of {l : List Tk} {k : Nat} {n : Tk} {r : List Tk} (h : l.drop k = n :: r) (hn : nmB n = true) : nmA l (k : Int) = true := by unfold nmA; rw [tkA_of h]; exact hn
theorem cutT_setT : (cutT = setT) = False := eq_false (by decide)
theorem stopT_setT : (stopT = setT) = False := eq_false (by decide)
theorem stopT_cutT : (stopT = cutT) = False := eq_false (by decide)
theorem ifT_setT : (ifT = setT) = False := eq_false (by decide)
theorem ifT_cutT : (ifT = cutT) = False := eq_false (by decide)
theorem ifT_stopT : (ifT = stopT) = False := eq_false (by decide)
theorem whT_setT : (whT = setT) = False := eq_false (by decide)
theorem whT_cutT : (whT = cutT) = False := eq_false (by decide)
theorem whT_stopT : (whT = stopT) = False := eq_false (by decide)
theorem whT_ifT : (whT = ifT) = False := eq_false (by decide)
theorem ddE_G (l : List Tk) : ∀ d : Nat, ∃ B R, ddE l d = ddG l B ∧ ddR l d = ddQ l B R
  | 0 => ⟨_, _, rfl, rfl⟩
  | d + 1 => ⟨_, _, rfl, rfl⟩
theorem blk_of {l : List Tk} {f : Int → Int} {R : Int → List Rc} (hA : ∀ i, Ahd l i (f i)) {a : List Tk} {rd : List Rc} {k : Nat} {r : List Tk} (hd : l.drop k = [91] :: (a ++ ([93] :: r)))
    (h : ∀ n, a.length < n → dlE l f n ((k + 1 : Nat) : Int) = ((k + 1 + a.length : Nat) : Int) ∧ dlR l f R n ((k + 1 : Nat) : Int) = rd) : blS l f (k : Int) = ((k + a.length + 2 : Nat) : Int) ∧ blR l f R (k : Int) = rd := by
  obtain ⟨h1, h2, h3⟩ := drop_head hd
  have hlen := congrArg List.length h3
  rw [List.length_drop, List.length_append, List.length_cons] at hlen
  obtain ⟨e1, e2⟩ := h (l.length + 1) (by omega)
  constructor
  · unfold blS
    rw [if_pos (tkA_of hd), show (k : Int) + 1 = ((k + 1 : Nat) : Int) by omega, ble_dl hA _ _ (by omega), e1, if_pos (tkA_of (drop_more h3))]
    omega
  · unfold blR
    rw [show (k : Int) + 1 = ((k + 1 : Nat) : Int) by omega]
    exact e2
mutual
theorem Sm.det (l : List Tk) : ∀ (s : Sm) (d k : Nat) (r : List Tk), s.wf d → l.drop k = s.fl ++ r → ddE l d (k : Int) = ((k + s.fl.length : Nat) : Int) ∧ ddR l d (k : Int) = s.rd
  | .set n e, d, k, r, hw, hd => by
    rw [Sm.wf] at hw
    obtain ⟨B, R, hB, hR⟩ := ddE_G l d
    rw [hB, hR]
    have hd1 : l.drop k = setT :: (n :: (e ++ r)) := by rw [hd]; rfl
    have hd2 := (drop_head hd1).2.2
    have hd3 := (drop_head hd2).2.2
    obtain ⟨h1, h2⟩ := sm_det hw.2 hd3
    rw [ddG_some (tkA_of hd1), ddQ_some (tkA_of hd1)]
    simp only [if_true, eq_self]
    rw [show (k : Int) + 1 = ((k + 1 : Nat) : Int) by omega, show (k : Int) + 2 = ((k + 1 + 1 : Nat) : Int) by omega, if_pos (nmA_of hd2 hw.1), h1, h2]
    refine ⟨by rw [Sm.fl]; simp only [List.length_cons]; omega, ?_⟩
    rw [Sm.rd]
    unfold tkN
    rw [tkA_of hd2]; rfl
  | .cut n, d, k, r, hw, hd => by
    rw [Sm.wf] at hw
    obtain ⟨B, R, hB, hR⟩ := ddE_G l d
    rw [hB, hR]
    have hd1 : l.drop k = cutT :: (n :: r) := by rw [hd]; rfl
    have hd2 := (drop_head hd1).2.2
    rw [ddG_some (tkA_of hd1), ddQ_some (tkA_of hd1)]
    simp only [cutT_setT, if_false, if_true, eq_self]
    rw [show (k : Int) + 1 = ((k + 1 : Nat) : Int) by omega, if_pos (nmA_of hd2 hw)]
    refine ⟨by rw [Sm.fl]; simp only [List.length_cons, List.length_nil]; omega, ?_⟩
    rw [Sm.rd]
    unfold tkN
    rw [tkA_of hd2]; rfl
  | .stop, d, k, r, hw, hd => by
    obtain ⟨B, R, hB, hR⟩ := ddE_G l d
    rw [hB, hR]
    have hd1 : l.drop k = stopT :: r := by rw [hd]; rfl
    rw [ddG_some (tkA_of hd1), ddQ_some (tkA_of hd1)]
    simp only [stopT_setT, stopT_cutT, if_false, if_true, eq_self]
    refine ⟨by rw [Sm.fl]; simp only [List.length_cons, List.length_nil]; omega, ?_⟩
    rw [Sm.rd]
  | .ifs e a b, 0, k, r, hw, hd => by rw [Sm.wf] at hw; exact hw.elim
  | .ifs e a b, d + 1, k, r, hw, hd => by
    rw [Sm.wf] at hw
    have hd1 : l.drop k = ifT :: (e ++ ([91] :: (a.fl ++ ([93] :: ([91] :: (b.fl ++ ([93] :: r))))))) := by rw [hd]; simp [Sm.fl]
    have hd2 := (drop_head hd1).2.2
    obtain ⟨h1, h2⟩ := sm_det hw.1 hd2
    have hd3 := drop_more hd2
    obtain ⟨h3, h4⟩ := blk_of (ddE_ahd l d) (R := ddR l d) (rd := a.rd) hd3 (fun n hn => Sl.det l a d _ _ n hw.2.1 (drop_head hd3).2.2 (Or.inr ⟨_, rfl⟩) hn)
    have hd4 : l.drop (k + 1 + e.length + a.fl.length + 2) = [91] :: (b.fl ++ ([93] :: r)) := by
      have := (drop_head (drop_more (drop_head hd3).2.2)).2.2
      rw [show k + 1 + e.length + a.fl.length + 2 = k + 1 + e.length + 1 + a.fl.length + 1 by omega]; exact this
    obtain ⟨h5, h6⟩ := blk_of (ddE_ahd l d) (R := ddR l d) (rd := b.rd) hd4 (fun n hn => Sl.det l b d _ _ n hw.2.2 (drop_head hd4).2.2 (Or.inr ⟨_, rfl⟩) hn)
    have hE : ddE l (d + 1) (k : Int) = ddG l (blS l (ddE l d)) (k : Int) := rfl
    have hR : ddR l (d + 1) (k : Int) = ddQ l (blS l (ddE l d)) (blR l (ddE l d) (ddR l d)) (k : Int) := rfl
    rw [hE, hR, ddG_some (tkA_of hd1), ddQ_some (tkA_of hd1)]
    simp only [ifT_setT, ifT_cutT, ifT_stopT, if_false, if_true, eq_self]
    rw [show (k : Int) + 1 = ((k + 1 : Nat) : Int) by omega, h1, h2, h3, h4, h5, h6]
    refine ⟨by rw [Sm.fl]; simp only [List.length_cons, List.length_nil, List.length_append]; omega, ?_⟩
    rw [Sm.rd]
  | .whl e a, 0, k, r, hw, hd => by rw [Sm.wf] at hw; exact hw.elim
  | .whl e a, d + 1, k, r, hw, hd => by
    rw [Sm.wf] at hw
    have hd1 : l.drop k = whT :: (e ++ ([91] :: (a.fl ++ ([93] :: r)))) := by rw [hd]; simp [Sm.fl]
    have hd2 := (drop_head hd1).2.2
    obtain ⟨h1, h2⟩ := sm_det hw.1 hd2
    have hd3 := drop_more hd2
    obtain ⟨h3, h4⟩ := blk_of (ddE_ahd l d) (R := ddR l d) (rd := a.rd) hd3 (fun n hn => Sl.det l a d _ _ n hw.2 (drop_head hd3).2.2 (Or.inr ⟨_, rfl⟩) hn)
    have hE : ddE l (d + 1) (k : Int) = ddG l (blS l (ddE l d)) (k : Int) := rfl
    have hR : ddR l (d + 1) (k : Int) = ddQ l (blS l (ddE l d)) (blR l (ddE l d) (ddR l d)) (k : Int) := rfl
    rw [hE, hR, ddG_some (tkA_of hd1), ddQ_some (tkA_of hd1)]
    simp only [whT_setT, whT_cutT, whT_stopT, whT_ifT, if_false, if_true, eq_self]
    rw [show (k : Int) + 1 = ((k + 1 : Nat) : Int) by omega, h1, h2, h3, h4]
    refine ⟨by rw [Sm.fl]; simp only [List.length_cons, List.length_nil, List.length_append]; omega, ?_⟩
    rw [Sm.rd]
theorem Sl.det (l : List Tk) : ∀ (a : Sl) (d k : Nat) (r : List Tk) (n : Nat), a.wf d → l.drop k = a.fl ++ r → (r = [] ∨ ∃ q, r = [93] :: q) → a.fl.length < n → dlE l (ddE l d) n (k : Int) = ((k + a.fl.length : Nat) : Int) ∧ dlR l (ddE l d) (ddR l d) n (k : Int) = a.rd
  | .nil, d, k, r, 0, hw, hd, hr, hn => by omega
  | .nil, d, k, r, n + 1, hw, hd, hr, hn => by
    have hd : l.drop k = r := hd
    rw [Sl.rd]
    have e0 : ((k + (Sl.fl .nil).length : Nat) : Int) = (k : Int) := by rw [Sl.fl]; simp
    rw [e0]
    rcases hr with rfl | ⟨q, rfl⟩
    · have hk : l.length ≤ k := List.drop_eq_nil_iff.1 hd
      rw [dlE, dlR, tkA_out (by omega)]
      exact ⟨rfl, rfl⟩
    · rw [dlE, dlR, tkA_of hd]
      exact ⟨if_pos rfl, if_pos rfl⟩
  | .cons s t, d, k, r, 0, hw, hd, hr, hn => by omega
  | .cons s t, d, k, r, n + 1, hw, hd, hr, hn => by
    rw [Sl.wf] at hw
    rw [Sl.fl, List.length_append] at hn
    have hd1 : l.drop k = s.fl ++ (t.fl ++ r) := by rw [hd, Sl.fl, List.append_assoc]
    obtain ⟨h1, h2⟩ := Sm.det l s d k _ hw.1 hd1
    obtain ⟨c, q, hq, hc⟩ := s.head
    have hp := s.pos
    obtain ⟨h3, h4⟩ := Sl.det l t d (k + s.fl.length) r n hw.2 (drop_more hd1) hr (by omega)
    have ht : tkA l (k : Int) = some c := tkA_of (by rw [hd1, hq]; rfl)
    rw [dlE, dlR, ht]
    dsimp only
    rw [if_neg hc, if_neg hc, h1, h2, h3, h4, Sl.fl, Sl.rd, List.length_append]
    exact ⟨by omega, rfl⟩
end
theorem blk_det {l : List Tk} {a : Sl} {d k : Nat} {r : List Tk} (hw : a.wf d) (hd : l.drop k = [91] :: (a.fl ++ ([93] :: r))) : blS l (ddE l d) (k : Int) = ((k + a.fl.length + 2 : Nat) : Int) :=
  (blk_of (ddE_ahd l d) (R := ddR l d) (rd := a.rd) hd (fun n hn => Sl.det l a d _ _ n hw (drop_head hd).2.2 (Or.inr ⟨_, rfl⟩) hn)).1
theorem rd_tree {t : Sl} (hw : t.wf 5) : rcR t.fl = t.rd :=
  (Sl.det t.fl t 5 0 [] (t.fl.length + 1) hw (by simp) (Or.inl rfl) (by omega)).2
end Go.Proofs.YtfnnoehpahdgcaaGreatDoor.Cl
namespace Go.Proofs.YtfnnoehpahdgcaaGreatDoor.Cl
set_option linter.unusedVariables false
open Go.RowKit Wd Rp Kp
theorem ofst {p i j : Nat} (h : i ≠ j) : (⟨p, i, none⟩ : Addr) ≠ ⟨p, j, none⟩ := fun e => h (congrArg Addr.off e)
def Tri (q : Nat) (x y z : Value) (w : World) : Prop := (w.cell? ⟨q, 0, none⟩ = some x ∧ w.cell? ⟨q, 1, none⟩ = some y ∧ w.cell? ⟨q, 2, none⟩ = some z) ∧ (w.frozen? ⟨q, 0, none⟩ = false ∧ w.frozen? ⟨q, 1, none⟩ = false ∧ w.frozen? ⟨q, 2, none⟩ = false) ∧ q < w.heap.size
theorem Tri.of {q T : Nat} {x y z : Value} {w : World} (e : w.heap[q]? = some (.cells #[x, y, z] T (0, 0))) : Tri q x y z w :=
  ⟨⟨by simp only [World.cell?, e]; rfl, by simp only [World.cell?, e]; rfl, by simp only [World.cell?, e]; rfl⟩, ⟨by simp only [World.frozen?, e]; rfl, by simp only [World.frozen?, e]; rfl, by simp only [World.frozen?, e]; rfl⟩, (Array.getElem?_eq_some_iff.1 e).1⟩
theorem Tri.made (x y z : Value) (w : World) (T : Nat) : Tri w.heap.size x y z (w.alloc (.cells #[x, y, z] T)) := Tri.of (T := T) (show (w.heap.push _)[w.heap.size]? = _ by simp)
theorem Tri.below {q B : Nat} {x y z : Value} {w w' : World} (h : Tri q x y z w) (hb : Below B w w') (hq : q < B) : Tri q x y z w' := by
  have e := hb.block q hq
  obtain ⟨⟨h0, h1, h2⟩, ⟨f0, f1, f2⟩, hl⟩ := h
  exact ⟨⟨(World.cell?_of_block (w := w) e).trans h0, (World.cell?_of_block (w := w) e).trans h1, (World.cell?_of_block (w := w) e).trans h2⟩, ⟨(World.frozen?_of_block (w := w) e).trans f0, (World.frozen?_of_block (w := w) e).trans f1, (World.frozen?_of_block (w := w) e).trans f2⟩, Nat.lt_of_lt_of_le hl hb.size⟩
def put3 (w : World) (q : Nat) (x y z : Value) : World := ((w.setCell ⟨q, 0, none⟩ x).setCell ⟨q, 1, none⟩ y).setCell ⟨q, 2, none⟩ z
theorem Tri.put3 {q : Nat} {x y z x' y' z' : Value} {w : World} (h : Tri q x y z w) : Tri q x' y' z' (put3 w q x' y' z') := by
  obtain ⟨⟨h0, h1, h2⟩, ⟨f0, f1, f2⟩, hl⟩ := h
  unfold Cl.put3
  refine ⟨⟨?_, ?_, ?_⟩, by simp only [World.frozen?_setCell]; exact ⟨f0, f1, f2⟩, by rw [World.size_setCell, World.size_setCell, World.size_setCell]; exact hl⟩
  · rw [World.cell?_setCell_other _ _ _ _ (ofst (by decide)), World.cell?_setCell_other _ _ _ _ (ofst (by decide))]
    exact World.cell?_setCell_same' _ _ _ (by rw [h0]; rfl)
  · rw [World.cell?_setCell_other _ _ _ _ (ofst (by decide))]
    exact World.cell?_setCell_same' _ _ _ (by rw [World.cell?_setCell_other _ _ _ _ (ofst (by decide)), h1]; rfl)
  · exact World.cell?_setCell_same' _ _ _ (by rw [World.cell?_setCell_other _ _ _ _ (ofst (by decide)), World.cell?_setCell_other _ _ _ _ (ofst (by decide)), h2]; rfl)
theorem put3_block (w : World) (q k : Nat) (x y z : Value) (h : k ≠ q) : (put3 w q x y z).heap[k]? = w.heap[k]? := by
  unfold put3
  exact ((Below.heap_setCell _ _ _ k h).trans (Below.heap_setCell _ _ _ k h)).trans (Below.heap_setCell _ _ _ k h)
theorem put3_cell {w : World} {q k o : Nat} {x y z v : Value} (h : k ≠ q) (hc : w.cell? ⟨k, o, none⟩ = some v) : (put3 w q x y z).cell? ⟨k, o, none⟩ = some v := (World.cell?_of_block (w := w) (a := ⟨k, o, none⟩) (put3_block w q k x y z h)).trans hc
theorem put3_below {B q : Nat} {a w : World} {x y z : Value} (h : Below B a w) (hq : B ≤ q) : Below B a (put3 w q x y z) := by
  unfold put3
  exact ((h.setCell (p := ⟨q, 0, none⟩) hq _).setCell (p := ⟨q, 1, none⟩) hq _).setCell (p := ⟨q, 2, none⟩) hq _
theorem OwI.put3 {B q : Nat} {w : World} {v : Value} {l : List Bi} {x y z : Value} (h : OwI B w v l) (hq : q < B) : OwI B (put3 w q x y z) v l :=
  row_next h fun g hg _ => put3_block w q g x y z (fun e => by have := OwI.lt h g hg; omega)
def sameL : List Bi → List Bi → Bool
  | [], [] => true
  | c :: l, d :: m => (c.n.toList == d.n.toList && c.v == d.v) && sameL l m
  | [], _ :: _ => false
  | _ :: _, [] => false
theorem sameL_self : ∀ l : List Bi, sameL l l = true
  | [] => rfl
  | c :: l => by rw [sameL, sameL_self l]; simp
theorem sameL_len : ∀ {l m : List Bi}, l.length ≠ m.length → sameL l m = false
  | [], [], h => absurd rfl h
  | [], _ :: _, h => rfl
  | _ :: _, [], h => rfl
  | c :: l, d :: m, h => by
    rw [sameL, sameL_len (l := l) (m := m) (fun e => h (by simp [e])), Bool.and_false]
theorem sameL_at {l m : List Bi} {k : Nat} {c d : Bi} (h : l[k]? = some c) (h2 : m[k]? = some d) : sameL (l.drop k) (m.drop k) = ((c.n.toList == d.n.toList && c.v == d.v) && sameL (l.drop (k + 1)) (m.drop (k + 1))) := by
  obtain ⟨hk, rfl⟩ := List.getElem?_eq_some_iff.1 h
  obtain ⟨hk2, rfl⟩ := List.getElem?_eq_some_iff.1 h2
  rw [List.drop_eq_getElem_cons hk, List.drop_eq_getElem_cons hk2, sameL]
theorem sameL_end {l m : List Bi} {k : Nat} (h : l.length ≤ k) (h2 : m.length ≤ k) : sameL (l.drop k) (m.drop k) = true := by
  rw [List.drop_eq_nil_of_le h, List.drop_eq_nil_of_le h2]; rfl
def sameE (c1 : Int) (l : List Bi) (f1 : Int) (c2 : Int) (m : List Bi) (f2 : Int) : Bool := (c1 == c2) && ((f1 == f2) && sameL l m)
theorem sameE_self (c : Int) (l : List Bi) (f : Int) : sameE c l f c l f = true := by unfold sameE; rw [sameL_self]; simp
theorem strI_eq (d : Nat) (a b : ByteArray) (w : World) : (Op.equalIn (d + 1) 9 (.string a) (.string b)).run Tryz.prog w = .ok (a.toList == b.toList) w := run_equalIn_string w d 9 a b Tryz.underlying9
theorem bin_eq (n m : ByteArray) (v u : Int) (w : World) : (Op.equalIn 10000 44 (.agg #[.string n, .int .i64 v]) (.agg #[.string m, .int .i64 u])).run Tryz.prog w = .ok (n.toList == m.toList && v == u) w := by
  have u2 := Tryz.underlying2
  have a2 := Tryz.isAgg2
  have z2 := Tryz.sizeOf2
  have a9 := Tryz.isAgg9
  have z9 := Tryz.sizeOf9
  have s9 := fun a b w => strI_eq 9998 a b w
  have hS : Tryz.prog.underlying 44 = some (.struct (Tryz.prog.fieldsOf 44)) := by kernel_rfl
  rw [show (10000 : Nat) = 9999 + 1 from rfl, run_equalIn_struct w 9999 44 _ _ hS (by kernel_rfl)]
  simp only [Program.fieldsOf, Tryz.underlying44]
  cases hn : (n.toList == m.toList)
  · go_simp
  · go_simp
    by_cases hv : v = u
    · simp [hv]
    · simp [hv]
set_option maxRecDepth 100000 in
set_option maxHeartbeats 4000000 in
theorem likeBins_val (w : World) (a b : Option Addr) (ca cb : Nat) (l m : List Bi) (n n2 : Nat) (hn : l.length = n) (hn2 : m.length = n2) (hv : VwI w a ca l) (hu : VwI w b cb m) (hl : n ≤ 4194304) :
    Calls Tryz.prog 17 #[.slice a n ca, .slice b n2 cb] w fun e w' => e = .returned (.bool (sameL l m)) ∧ Below w.heap.size w w' := by
  obtain ⟨xx, hxx⟩ : ∃ xx, sameL l m = xx := ⟨_, rfl⟩
  rw [hxx]
  by_cases hne : n = n2
  · subst hne
    have HXX := Lib.hid (show xx = sameL (l.drop 0) (m.drop 0) from hxx.symm); clear hxx
    have HNL := Lib.hid hn
    have HNM := Lib.hid hn2
    have HV := Lib.hid hv; clear hv
    have HU := Lib.hid hu; clear hu
    have BB := Lib.hid (Below.refl w.heap.size w)
    have q0 : ((n : Int) != (n : Int)) = false := by simp
    clear hn hn2
    go_enter Tryz.func17, Tryz.ntmps17
    go_wp2_with fail
    go_loopw [5] (fun i wr => ∃ k : Nat, k ≤ n ∧ i = .int .i64 (k : Int) ∧ xx = sameL (l.drop k) (m.drop k) ∧ Below w.heap.size w wr) (fun i _ => n - intV i)
    case atStart => exact ⟨0, Nat.zero_le _, by first | rfl | go_num, HXX.out, Below.refl _ _⟩
    case round =>
      obtain ⟨k, hk, rfl, hxx, hbel⟩ := hrel
      have HB := Lib.hid hbel; clear hbel
      have HXK := Lib.hid hxx; clear hxx
      by_cases hlt : k < n
      · obtain ⟨c, hc⟩ : ∃ c, l[k]? = some c := ⟨l[k]'(by have := HNL.out; omega), List.getElem?_eq_getElem _⟩
        obtain ⟨d, hd⟩ : ∃ d, m[k]? = some d := ⟨m[k]'(by have := HNM.out; omega), List.getElem?_eq_getElem _⟩
        have HX2 := Lib.hid (HXK.out.trans (sameL_at hc hd))
        obtain ⟨g, o, eg, hg, h5⟩ := HV.out.2.2.2 k c hc
        obtain ⟨h, p, eh, hh, h6⟩ := HU.out.2.2.2 k d hd
        subst eg
        subst eh
        have h5' : At2 wr g (o + k * 2) c := h5.same (HB.out.block g hg)
        have h6' : At2 wr h (p + k * 2) d := h6.same (HB.out.block h hh)
        have hg' : g < wr.heap.size := Nat.lt_of_lt_of_le hg HB.out.size
        have hh' : h < wr.heap.size := Nat.lt_of_lt_of_le hh HB.out.size
        have HS := Lib.hid (show wr.drew.cell? ⟨g, o + k * 2, none⟩ = some (.string c.n) ∧ wr.drew.cell? ⟨g, o + k * 2 + 1, none⟩ = some (.int .i64 c.v) ∧ wr.drew.cell? ⟨h, p + k * 2, none⟩ = some (.string d.n) ∧ wr.drew.cell? ⟨h, p + k * 2 + 1, none⟩ = some (.int .i64 d.v) ∧ Below wr.heap.size wr wr.drew from ⟨h5'.1, h5'.2, h6'.1, h6'.2, (Below.refl _ _).drew⟩)
        have hCE := bin_eq c.n d.n c.v d.v
        clear h5 h6 hg hh hc hd h5' h6'
        obtain ⟨x, hx⟩ : ∃ x, (c.n.toList == d.n.toList && c.v == d.v) = x := ⟨_, rfl⟩
        rw [hx] at HX2 hCE
        clear hx
        cases x
        · have e0 : xx = false := HX2.out.trans (Bool.false_and _)
          go_wp2_with fail
          refine wp_region_held_drew (S := fun z => z.cell? ⟨g, o + k * 2, none⟩ = some (.string c.n) ∧ z.cell? ⟨g, o + k * 2 + 1, none⟩ = some (.int .i64 c.v) ∧ z.cell? ⟨h, p + k * 2, none⟩ = some (.string d.n) ∧ z.cell? ⟨h, p + k * 2 + 1, none⟩ = some (.int .i64 d.v) ∧ Below wr.heap.size wr z) (by kernel_rfl) HS.out (fun hHeld => ?_)
          refine tkI (i := 0) (v := ?v0a) rfl (Or.inl ⟨by rfl, ?hy0a⟩) ?rest0a
          case hy0a => (intro zz hSw; (try dsimp only at hSw); go_simp; (try with_reducible rfl))
          change wpAnyH _ _ _ _ _ _ _ (Act.put _ (some 17) _) _
          simp only [Act.put, List.setIfInBounds_toArray, List.set_cons_zero, List.set_cons_succ]
          refine tkI (i := 1) (v := ?v1a) rfl (Or.inl ⟨by rfl, ?hy1a⟩) ?rest1a
          case hy1a => (intro zz hSw; (try dsimp only at hSw); go_simp; (try with_reducible rfl))
          change wpAnyH _ _ _ _ _ _ _ (Act.put _ (some 18) _) _
          simp only [Act.put, List.setIfInBounds_toArray, List.set_cons_zero, List.set_cons_succ]
          refine tkI (i := 2) (v := ?v2a) rfl (Or.inl ⟨by rfl, ?hy2a⟩) ?rest2a
          case hy2a => (intro zz hSw; (try dsimp only at hSw); go_simp; (try with_reducible rfl))
          change wpAnyH _ _ _ _ _ _ _ (Act.put _ (some 19) _) _
          simp only [Act.put, List.setIfInBounds_toArray, List.set_cons_zero, List.set_cons_succ]
          refine tkI (i := 3) (v := ?v3a) rfl (Or.inl ⟨by rfl, ?hy3a⟩) ?rest3a
          case hy3a => (intro zz hSw; (try dsimp only at hSw); go_simp; (try with_reducible rfl))
          change wpAnyH _ _ _ _ _ _ _ (Act.put _ (some 20) _) _
          simp only [Act.put, List.setIfInBounds_toArray, List.set_cons_zero, List.set_cons_succ]
          refine tkI (i := 4) (v := ?v4a) rfl (Or.inl ⟨by rfl, ?hy4a⟩) ?rest4a
          case hy4a => (intro zz hSw; (try dsimp only at hSw); go_simp; (try with_reducible rfl))
          change wpAnyH _ _ _ _ _ _ _ (Act.put _ (some 21) _) _
          simp only [Act.put, List.setIfInBounds_toArray, List.set_cons_zero, List.set_cons_succ]
          refine tkI (i := 5) (v := ?v5a) rfl (Or.inl ⟨by rfl, ?hy5a⟩) ?rest5a
          case hy5a => (intro zz hSw; (try dsimp only at hSw); go_simp; (try with_reducible rfl))
          change wpAnyH _ _ _ _ _ _ _ (Act.put _ (some 22) _) _
          simp only [Act.put, List.setIfInBounds_toArray, List.set_cons_zero, List.set_cons_succ]
          refine tkI (i := 6) (v := ?v6a) rfl (Or.inl ⟨by rfl, ?hy6a⟩) ?rest6a
          case hy6a => (intro zz hSw; (try dsimp only at hSw); go_simp; (try with_reducible rfl))
          change wpAnyH _ _ _ _ _ _ _ (Act.put _ (some 23) _) _
          simp only [Act.put, List.setIfInBounds_toArray, List.set_cons_zero, List.set_cons_succ]
          refine tkI (i := 7) (v := ?v7a) rfl (Or.inl ⟨by rfl, ?hy7a⟩) ?rest7a
          case hy7a => (intro zz hSw; (try dsimp only at hSw); go_simp; (try with_reducible rfl))
          change wpAnyH _ _ _ _ _ _ _ (Act.put _ (some 24) _) _
          simp only [Act.put, List.setIfInBounds_toArray, List.set_cons_zero, List.set_cons_succ]
          refine tkI (i := 8) (v := ?v8a) rfl (Or.inl ⟨by rfl, ?hy8a⟩) ?rest8a
          case hy8a => (intro zz hSw; (try dsimp only at hSw); go_simp; (try with_reducible rfl))
          change wpAnyH _ _ _ _ _ _ _ (Act.put _ (some 25) _) _
          simp only [Act.put, List.setIfInBounds_toArray, List.set_cons_zero, List.set_cons_succ]
          refine wpAnyH_done (by kernel_rfl) ?_ _
          have HG := Lib.hid (bel_tr HB.out hHeld.2.2.2.2 (Nat.le_refl _)); clear hHeld HS
          go_wp2_with fail
          go_ret
          exact ⟨by first | (rw [e0]; done) | (rw [e0]; rfl), HG.out⟩
        · have HX3 := Lib.hid (show xx = sameL (l.drop (k + 1)) (m.drop (k + 1)) from HX2.out.trans (Bool.true_and _))
          go_wp2_with fail
          refine wp_region_held_drew (S := fun z => z.cell? ⟨g, o + k * 2, none⟩ = some (.string c.n) ∧ z.cell? ⟨g, o + k * 2 + 1, none⟩ = some (.int .i64 c.v) ∧ z.cell? ⟨h, p + k * 2, none⟩ = some (.string d.n) ∧ z.cell? ⟨h, p + k * 2 + 1, none⟩ = some (.int .i64 d.v) ∧ Below wr.heap.size wr z) (by kernel_rfl) HS.out (fun hHeld => ?_)
          refine tkI (i := 0) (v := ?v0b) rfl (Or.inl ⟨by rfl, ?hy0b⟩) ?rest0b
          case hy0b => (intro zz hSw; (try dsimp only at hSw); go_simp; (try with_reducible rfl))
          change wpAnyH _ _ _ _ _ _ _ (Act.put _ (some 17) _) _
          simp only [Act.put, List.setIfInBounds_toArray, List.set_cons_zero, List.set_cons_succ]
          refine tkI (i := 1) (v := ?v1b) rfl (Or.inl ⟨by rfl, ?hy1b⟩) ?rest1b
          case hy1b => (intro zz hSw; (try dsimp only at hSw); go_simp; (try with_reducible rfl))
          change wpAnyH _ _ _ _ _ _ _ (Act.put _ (some 18) _) _
          simp only [Act.put, List.setIfInBounds_toArray, List.set_cons_zero, List.set_cons_succ]
          refine tkI (i := 2) (v := ?v2b) rfl (Or.inl ⟨by rfl, ?hy2b⟩) ?rest2b
          case hy2b => (intro zz hSw; (try dsimp only at hSw); go_simp; (try with_reducible rfl))
          change wpAnyH _ _ _ _ _ _ _ (Act.put _ (some 19) _) _
          simp only [Act.put, List.setIfInBounds_toArray, List.set_cons_zero, List.set_cons_succ]
          refine tkI (i := 3) (v := ?v3b) rfl (Or.inl ⟨by rfl, ?hy3b⟩) ?rest3b
          case hy3b => (intro zz hSw; (try dsimp only at hSw); go_simp; (try with_reducible rfl))
          change wpAnyH _ _ _ _ _ _ _ (Act.put _ (some 20) _) _
          simp only [Act.put, List.setIfInBounds_toArray, List.set_cons_zero, List.set_cons_succ]
          refine tkI (i := 4) (v := ?v4b) rfl (Or.inl ⟨by rfl, ?hy4b⟩) ?rest4b
          case hy4b => (intro zz hSw; (try dsimp only at hSw); go_simp; (try with_reducible rfl))
          change wpAnyH _ _ _ _ _ _ _ (Act.put _ (some 21) _) _
          simp only [Act.put, List.setIfInBounds_toArray, List.set_cons_zero, List.set_cons_succ]
          refine tkI (i := 5) (v := ?v5b) rfl (Or.inl ⟨by rfl, ?hy5b⟩) ?rest5b
          case hy5b => (intro zz hSw; (try dsimp only at hSw); go_simp; (try with_reducible rfl))
          change wpAnyH _ _ _ _ _ _ _ (Act.put _ (some 22) _) _
          simp only [Act.put, List.setIfInBounds_toArray, List.set_cons_zero, List.set_cons_succ]
          refine tkI (i := 6) (v := ?v6b) rfl (Or.inl ⟨by rfl, ?hy6b⟩) ?rest6b
          case hy6b => (intro zz hSw; (try dsimp only at hSw); go_simp; (try with_reducible rfl))
          change wpAnyH _ _ _ _ _ _ _ (Act.put _ (some 23) _) _
          simp only [Act.put, List.setIfInBounds_toArray, List.set_cons_zero, List.set_cons_succ]
          refine tkI (i := 7) (v := ?v7b) rfl (Or.inl ⟨by rfl, ?hy7b⟩) ?rest7b
          case hy7b => (intro zz hSw; (try dsimp only at hSw); go_simp; (try with_reducible rfl))
          change wpAnyH _ _ _ _ _ _ _ (Act.put _ (some 24) _) _
          simp only [Act.put, List.setIfInBounds_toArray, List.set_cons_zero, List.set_cons_succ]
          refine tkI (i := 8) (v := ?v8b) rfl (Or.inl ⟨by rfl, ?hy8b⟩) ?rest8b
          case hy8b => (intro zz hSw; (try dsimp only at hSw); go_simp; (try with_reducible rfl))
          change wpAnyH _ _ _ _ _ _ _ (Act.put _ (some 25) _) _
          simp only [Act.put, List.setIfInBounds_toArray, List.set_cons_zero, List.set_cons_succ]
          refine wpAnyH_done (by kernel_rfl) ?_ _
          have HG := Lib.hid (bel_tr HB.out hHeld.2.2.2.2 (Nat.le_refl _)); clear hHeld HS
          go_wp2_with fail
          go_roundw
          case rel => exact ⟨k + 1, by omega, by go_num, HX3.out, HG.out⟩
          case measure => simp [intV]; omega
      · obtain rfl : k = n := by omega
        have e1 : xx = true := HXK.out.trans (sameL_end (by rw [HNL.out]; omega) (by rw [HNM.out]; omega))
        go_wp2_with fail
        go_ret
        exact ⟨by first | (rw [e1]; done) | (rw [e1]; rfl), HB.out⟩
  · have hx := sameL_len (l := l) (m := m) (by omega)
    rw [hx] at hxx
    subst hxx
    have q0 : ((n : Int) != (n2 : Int)) = true := by simp; omega
    clear hv hu
    go_enter Tryz.func17, Tryz.ntmps17
    go_wp2_with fail
    go_ret
    exact ⟨rfl, Below.refl _ _⟩
set_option maxRecDepth 100000 in
set_option maxHeartbeats 4000000 in
theorem likeEnd_any (w : World) (c1 f1 c2 f2 : Int) (a b : Option Addr) (ca cb : Nat) (l m : List Bi) (n n2 : Nat) (hn : l.length = n) (hn2 : m.length = n2) (hv : VwI w a ca l) (hu : VwI w b cb m) (hl : n ≤ 4194304) :
    Calls Tryz.prog 12 #[.agg #[.int .i64 c1, .slice a n ca, .int .i64 f1], .agg #[.int .i64 c2, .slice b n2 cb, .int .i64 f2]] w fun e w' => e = .returned (.bool (sameE c1 l f1 c2 m f2)) ∧ Below w.heap.size w w' := by
  have hbl := bel2 w (.cells #[.int .i64 c1, .slice a n ca, .int .i64 f1] 30) (.cells #[.int .i64 c2, .slice b n2 cb, .int .i64 f2] 30)
  have N1 := Tri.made (.int .i64 c1) (.slice a n ca) (.int .i64 f1) w 30
  have N2 := Tri.made (.int .i64 c2) (.slice b n2 cb) (.int .i64 f2) (w.alloc (.cells #[.int .i64 c1, .slice a n ca, .int .i64 f1] 30)) 30
  have HQ := Lib.hid (N1.below (bel1 _ (.cells #[.int .i64 c2, .slice b n2 cb, .int .i64 f2] 30)) N1.2.2)
  have hz1 : (w.alloc (.cells #[.int .i64 c1, .slice a n ca, .int .i64 f1] 30)).heap.size = w.heap.size + 1 := World.size_alloc _ _
  rw [hz1] at N2
  have HQ1 := Lib.hid N2
  have BB := Lib.hid hbl
  have HE := Lib.hid (likeBins_val _ a b ca cb l m n n2 hn hn2 (hv.below hbl) (hu.below hbl) hl)
  clear N1 N2 hbl hv hu
  unfold sameE
  generalize sameL l m = xx at *
  cases hc : (c1 == c2)
  · go_enter Tryz.func12, Tryz.ntmps12
    go_wp2_with fail
    go_ret
    exact ⟨rfl, BB.out⟩
  cases hf : (f1 == f2)
  · go_enter Tryz.func12, Tryz.ntmps12
    go_wp2_with fail
    go_ret
    exact ⟨rfl, BB.out⟩
  go_enter Tryz.func12, Tryz.ntmps12
  go_wp2_with fail
  refine HE.out.mono ?_; rintro e w3 ⟨rfl, b3⟩
  have B3 := Lib.hid (bel_tr BB.out b3 (Nat.le_refl _)); clear b3
  cases xx
  · go_wp2_with fail
    go_ret
    exact ⟨rfl, B3.out⟩
  · go_wp2_with fail
    go_ret
    exact ⟨rfl, B3.out⟩
end Go.Proofs.YtfnnoehpahdgcaaGreatDoor.Cl
namespace Go.Proofs.YtfnnoehpahdgcaaGreatDoor.Cl
set_option linter.unusedVariables false
open Go.RowKit Wd Rp Kp
structure Rn (w0 : World) (p : Nat) (st : St0) (w : World) : Prop where
  hB : w0.heap.size ≤ p
  hp : p < w.heap.size
  fz : w.frozen? ⟨p, 0, none⟩ = false ∧ w.frozen? ⟨p, 1, none⟩ = false ∧ w.frozen? ⟨p, 2, none⟩ = false
  c : w.cell? ⟨p, 0, none⟩ = some (.int .i64 st.c)
  f : w.cell? ⟨p, 2, none⟩ = some (.int .i64 st.f)
  b : ∃ v, w.cell? ⟨p, 1, none⟩ = some v ∧ OwI w0.heap.size w v st.b ∧ v.ownBlock ≠ some p
  bw : Below w0.heap.size w0 w
  bl : st.b.length ≤ 12
  f0 : 0 ≤ st.f ∧ st.f ≤ 400
theorem OwI.off {B : Nat} {w : World} {v : Value} {l : List Bi} (h : OwI B w v l) {q : Addr} (hq : v.ownBlock ≠ some q.block) (u : Value) : OwI B (w.setCell q u) v l :=
  row_next h fun g hg _ => Below.heap_setCell w q u g (fun e => hq (by rw [hg, e]))
theorem Rn.next {w0 w w' : World} {p : Nat} {st : St0} (h : Rn w0 p st w) (hb : Below w.heap.size w w') : Rn w0 p st w' := by
  have e := hb.block p h.hp
  obtain ⟨v, h1, h2, h3⟩ := h.b
  exact ⟨h.hB, Nat.lt_of_lt_of_le h.hp hb.size, ⟨(World.frozen?_of_block (w := w) e).trans h.fz.1, (World.frozen?_of_block (w := w) e).trans h.fz.2.1, (World.frozen?_of_block (w := w) e).trans h.fz.2.2⟩,
    (World.cell?_of_block (w := w) e).trans h.c, (World.cell?_of_block (w := w) e).trans h.f, ⟨v, (World.cell?_of_block (w := w) e).trans h1, h2.next hb, h3⟩, bel_tr h.bw hb (Nat.le_refl _), h.bl, h.f0⟩
theorem Rn.putC {w0 w : World} {p : Nat} {st : St0} (h : Rn w0 p st w) (x : Int) : Rn w0 p ⟨x, st.b, st.f⟩ (w.setCell ⟨p, 0, none⟩ (.int .i64 x)) := by
  obtain ⟨v, h1, h2, h3⟩ := h.b
  exact ⟨h.hB, by rw [World.size_setCell]; exact h.hp, by simp only [World.frozen?_setCell]; exact h.fz, World.cell?_setCell_same' _ _ _ (by rw [h.c]; rfl), (World.cell?_setCell_other _ _ _ _ (ofst (by decide))).trans h.f,
    ⟨v, (World.cell?_setCell_other _ _ _ _ (ofst (by decide))).trans h1, h2.off (q := ⟨p, 0, none⟩) h3 _, h3⟩, h.bw.setCell (p := ⟨p, 0, none⟩) h.hB _, h.bl, h.f0⟩
theorem Rn.putF {w0 w : World} {p : Nat} {st : St0} (h : Rn w0 p st w) (x : Int) (hx : 0 ≤ x ∧ x ≤ 400) : Rn w0 p ⟨st.c, st.b, x⟩ (w.setCell ⟨p, 2, none⟩ (.int .i64 x)) := by
  obtain ⟨v, h1, h2, h3⟩ := h.b
  exact ⟨h.hB, by rw [World.size_setCell]; exact h.hp, by simp only [World.frozen?_setCell]; exact h.fz, (World.cell?_setCell_other _ _ _ _ (ofst (by decide))).trans h.c, World.cell?_setCell_same' _ _ _ (by rw [h.f]; rfl),
    ⟨v, (World.cell?_setCell_other _ _ _ _ (ofst (by decide))).trans h1, h2.off (q := ⟨p, 2, none⟩) h3 _, h3⟩, h.bw.setCell (p := ⟨p, 2, none⟩) h.hB _, h.bl, hx⟩
theorem Rn.putB {w0 w w' : World} {p : Nat} {st : St0} {v v' : Value} {l : List Bi} (h : Rn w0 p st w) (hv : w.cell? ⟨p, 1, none⟩ = some v) (hk : KpI w w' v v') (ho : OwI w0.heap.size w' v' l) (hb : Below w0.heap.size w w') (hl : l.length ≤ 12) : Rn w0 p ⟨st.c, l, st.f⟩ (w'.setCell ⟨p, 1, none⟩ v') := by
  obtain ⟨v2, h1, h2, h3⟩ := h.b
  rw [h1] at hv
  cases hv
  have e := hk.blk p h.hp h3
  have h4 : v'.ownBlock ≠ some p := fun e2 => by
    rcases hk.own p e2 with e3 | e3
    · exact h3 e3
    · have := h.hp; omega
  have hC := (World.cell?_of_block (w := w) (a := ⟨p, 0, none⟩) e).trans h.c
  have hF := (World.cell?_of_block (w := w) (a := ⟨p, 2, none⟩) e).trans h.f
  have hV := (World.cell?_of_block (w := w) (a := ⟨p, 1, none⟩) e).trans h1
  exact ⟨h.hB, by rw [World.size_setCell]; exact Nat.lt_of_lt_of_le h.hp hk.size, by simp only [World.frozen?_setCell]; exact ⟨(World.frozen?_of_block (w := w) e).trans h.fz.1, (World.frozen?_of_block (w := w) e).trans h.fz.2.1, (World.frozen?_of_block (w := w) e).trans h.fz.2.2⟩,
    (World.cell?_setCell_other _ _ _ _ (ofst (by decide))).trans hC, (World.cell?_setCell_other _ _ _ _ (ofst (by decide))).trans hF,
    ⟨v', World.cell?_setCell_same' _ _ _ (by rw [hV]; rfl), ho.off (q := ⟨p, 1, none⟩) h4 _, h4⟩, (h.bw.trans hb).setCell (p := ⟨p, 1, none⟩) h.hB _, hl, h.f0⟩
set_option maxHeartbeats 4000000 in
set_option maxRecDepth 100000 in
theorem l10Sum_any (w0 : World) (p : Nat) (a : Option Addr) (cap : Nat) (l : List Tk) (n : Nat) (hn : l.length = n) (hl : n ≤ 4194304) (hm : ∀ s ∈ l, s.length ≤ 4194304) (hv : V1 w0 a cap (txL l)) (ga : Option Addr) (gc : Nat) (gs : List Int) (hg : V1 w0 ga gc (inL gs)) (hg3 : gs.length = 3)
    {e : List Tk} (he : eOk e) (k : Nat) (r : List Tk) (hd : l.drop k = e ++ r) (st : St0) (w : World) (hR : Rn w0 p st w) :
    Calls Tryz.prog 98 #[.pointer (some ⟨p, 0, none⟩), .slice a n cap, .int .i64 (k : Int), .slice ga (3 : Nat) gc] w fun e' w' => e' = .returned (.tuple #[.int .i64 (evE gs st.b e).1, .int .i64 ((k + e.length : Nat) : Int)]) ∧
      Rn w0 p (if (evE gs st.b e).2 = false then ⟨2, st.b, st.f⟩ else st) w' := by
  obtain ⟨u, hu, rfl⟩ := he
  rw [evE_fl gs st.b hu]
  obtain ⟨v, hc1, hO, hne⟩ := hR.b
  obtain ⟨ba, bc, rfl, hV⟩ := hO.view
  obtain ⟨bn, hbn⟩ : ∃ bn, st.b.length = bn := ⟨_, rfl⟩
  have hbl := hR.bl
  have HS := Lib.hid (l8Sum_any a cap l n hn hl hm ba bc bn st.b ga gc gs u hu (k : Int) r w (by omega) (by rw [Int.toNat_natCast]; exact hd) (hv.below hR.bw) ⟨hbn, hV, by omega, hg.below hR.bw, hg3⟩)
  have hlen := congrArg List.length hd
  rw [List.length_drop, List.length_append] at hlen
  rw [hbn] at hc1
  rw [show (k : Int) + (u.fl.length : Int) = ((k + u.fl.length : Nat) : Int) by omega] at HS
  have hf0 := hR.fz.1
  have h0 := hR.c
  have hp := hR.hp
  have HR := Lib.hid hR; clear hR hv hd hV hO hg hne hlen
  generalize u.fo (vlF gs st.b) vlG = x at *
  generalize ((k + u.fl.length : Nat) : Int) = y at *
  obtain ⟨x, is⟩ := x
  go_enter Tryz.func98, Tryz.ntmps98
  go_wp2_with fail
  refine HS.out.mono ?_; rintro e w1 ⟨rfl, b1⟩
  have HR1 := Lib.hid (HR.out.next b1); clear b1
  have f1 := HR1.out.fz.1
  have c1 := HR1.out.c
  cases is
  · go_wp2_with fail
    refine bodyPost_ret (v := .tuple #[.int .i64 x, .int .i64 y]) (by simp [results, Tryz.results98, go_sem]) rfl ⟨rfl, ?_⟩
    exact HR1.out.putC 2
  · go_wp2_with fail
    refine bodyPost_ret (v := .tuple #[.int .i64 x, .int .i64 y]) (by simp [results, Tryz.results98, go_sem]) rfl ⟨rfl, ?_⟩
    exact HR1.out
end Go.Proofs.YtfnnoehpahdgcaaGreatDoor.Cl
namespace Go.Proofs.YtfnnoehpahdgcaaGreatDoor.Cl
set_option linter.unusedVariables false
open Go.RowKit Wd Rp Kp
def RunP (w0 : World) (p : Nat) (x : Int) (st : St0) (e : Ending) (w' : World) : Prop := e = .returned (.int .i64 x) ∧ Rn w0 p st w'
mutual
/-- Of each statement, those in brackets not. -/
def Sl.each (P : Sm → Prop) : Sl → Prop
  | .nil => True
  | .cons s r => P s ∧ Sl.each P r
end
def Sl.count : Sl → Nat
  | .nil => 0
  | .cons _ r => r.count + 1
def DeedR (w0 : World) (p : Nat) (a : Option Addr) (n cap : Nat) (l : List Tk) (ga : Option Addr) (gc : Nat) (gs : List Int) (s : Sm) : Prop := ∀ (k : Nat) (r : List Tk) (st : St0) (w : World), l.drop k = s.fl ++ r → st.c = 0 → Rn w0 p st w →
    Calls Tryz.prog 83 #[.pointer (some ⟨p, 0, none⟩), .slice a n cap, .int .i64 (k : Int), .slice ga (3 : Nat) gc] w (RunP w0 p ((k + s.fl.length : Nat) : Int) (s.run gs st))
set_option maxHeartbeats 8000000 in
set_option maxRecDepth 100000 in
theorem l10Block_any (w0 : World) (p : Nat) (a : Option Addr) (cap : Nat) (l : List Tk) (n : Nat) (hn : l.length = n) (hl : n ≤ 4194304) (hm : ∀ s ∈ l, s.length ≤ 4194304) (hv : V1 w0 a cap (txL l)) (ga : Option Addr) (gc : Nat) (gs : List Int)
    (b : Sl) (hw : b.wf 4) (ih : b.each (DeedR w0 p a n cap l ga gc gs)) (k : Nat) (r : List Tk) (st : St0) (w : World) (does : Bool) (hd : l.drop k = [91] :: (b.fl ++ ([93] :: r))) (hR : Rn w0 p st w) :
    Calls Tryz.prog 99 #[.pointer (some ⟨p, 0, none⟩), .slice a n cap, .int .i64 (k : Int), .slice ga (3 : Nat) gc, .bool does] w (RunP w0 p ((k + b.fl.length + 2 : Nat) : Int) (if does = true ∧ st.c = 0 then b.run gs st else st)) := by
  have HB := Lib.hid (blok1 a cap l n hn hl 5 (by decide) (by decide) _ (ddE_ahd l 4) (deedS_all a cap l n hn hl hm 4 (by decide)) w (k : Int) ⟨by omega, by have := (drop_head hd).2.1; omega⟩ (hv.below hR.bw))
  rw [blk_det hw hd] at HB
  obtain ⟨hk1, hk2, hd1⟩ := drop_head hd
  have hkn : k < n := by omega
  have hc0 := hR.c
  have HV := Lib.hid hv; clear hv
  have HR := Lib.hid hR; clear hR
  generalize ((k + b.fl.length + 2 : Nat) : Int) = y at *
  have i1 : IntKind.i64.wrap ((k : Int) + 1) = ((k + 1 : Nat) : Int) := by rw [IntKind.wrap_i64]; omega
  cases does
  · have HE : (if false = true ∧ st.c = 0 then b.run gs st else st) = st := by simp
    rw [HE]; clear HE
    go_enter Tryz.func99, Tryz.ntmps99
    go_wp2_with fail
    refine HB.out.mono ?_; rintro e w1 ⟨rfl, b1⟩
    have HR1 := Lib.hid (HR.out.next b1); clear b1
    go_wp2_with fail
    go_loopg [2] 1 (fun j q wr => q = .int .i64 ((k + 1 : Nat) : Int) ∧ Rn w0 p st wr)
    case atStart => exact ⟨by go_num, HR1.out⟩
    case round =>
      obtain ⟨rfl, h1⟩ := hrel
      have H1 := Lib.hid h1; clear h1
      go_wp2_with fail
      go_ret
      exact ⟨rfl, H1.out⟩
  · have HE : (if true = true ∧ st.c = 0 then b.run gs st else st) = (if st.c = 0 then b.run gs st else st) := by simp
    rw [HE]; clear HE
    generalize hfin : (if st.c = 0 then b.run gs st else st) = fin
    have HFIN := Lib.hid hfin; clear hfin
    go_enter Tryz.func99, Tryz.ntmps99
    go_wp2_with fail
    refine HB.out.mono ?_; rintro e w1 ⟨rfl, b1⟩
    have HR1 := Lib.hid (HR.out.next b1); clear b1
    go_wp2_with fail
    go_loopg [2] (b.count + 1) (fun j q wr => ∃ (t : Sl) (z : Nat) (s1 : St0), q = .int .i64 (z : Int) ∧ l.drop z = t.fl ++ ([93] :: r) ∧ t.each (DeedR w0 p a n cap l ga gc gs) ∧ Rn w0 p s1 wr ∧ t.count + 1 ≤ j ∧ (if s1.c = 0 then t.run gs s1 else s1) = fin)
    case atStart => exact ⟨b, k + 1, st, by go_num, hd1, ih, HR1.out, Nat.le_refl _, HFIN.out⟩
    case round =>
      clear HFIN ih
      obtain ⟨t, z, s1, rfl, hd2, ih2, hR2, hj, hfin⟩ := hrel
      have HFIN := Lib.hid hfin
      have HR2 := Lib.hid hR2
      have HV2 := Lib.hid (HV.out.below hR2.bw)
      have c2 := hR2.c
      clear hfin hR2
      by_cases hc : s1.c = 0
      · cases t with
        | nil =>
          have hz := drop_head (show l.drop z = [93] :: r from hd2)
          obtain ⟨g', o', rfl, hg, c0⟩ := HV2.out.tx hz.1
          replace c0 : wr.cell? ⟨g', o' + z, none⟩ = some (.string ⟨#[93]⟩) := c0
          have hzn : z < n := by omega
          have HX := Lib.hid (show s1 = fin by have := HFIN.out; rw [if_pos hc] at this; exact this)
          clear hg hd2 hz
          rw [hc] at c2
          go_wp2_with fail
          go_ret
          exact ⟨rfl, by rw [← HX.out]; exact HR2.out⟩
        | cons s t =>
          obtain ⟨j, rfl⟩ : ∃ j', gk = j' + 1 := ⟨gk - 1, by omega⟩
          have hd3 : l.drop z = s.fl ++ (t.fl ++ ([93] :: r)) := by rw [hd2, Sl.fl, List.append_assoc]
          obtain ⟨c, q, hq, hc93⟩ := s.head
          have hz := drop_head (show l.drop z = c :: (q ++ (t.fl ++ ([93] :: r))) by rw [hd3, hq]; rfl)
          obtain ⟨g', o', rfl, hg, c0⟩ := HV2.out.tx hz.1
          have hzn : z < n := by omega
          have q1 := tx_neL hc93
          rw [Sl.each] at ih2
          have HD := Lib.hid (ih2.1 z _ s1 wr hd3 hc HR2.out)
          have HI2 := Lib.hid ih2.2
          have HD4 := Lib.hid (drop_more hd3)
          have hjj : t.count + 1 ≤ j := by rw [Sl.count] at hj; omega
          have hlz : z + s.fl.length ≤ n := by have := congrArg List.length hd3; rw [List.length_drop, List.length_append] at this; omega
          have HX := Lib.hid (show (if (s.run gs s1).c = 0 then t.run gs (s.run gs s1) else s.run gs s1) = fin by have := HFIN.out; rw [if_pos hc, Sl.run] at this; exact this)
          clear hg hd2 hd3 hz ih2 hq HFIN hj
          generalize s.run gs s1 = s2 at *
          generalize z + s.fl.length = z2 at *
          rw [hc] at c2
          go_wp2_with fail
          refine HD.out.mono ?_; rintro e w2 ⟨rfl, hR3⟩
          have HR3 := Lib.hid hR3; clear hR3
          go_wp2_with fail
          go_roundg j
          case measure => omega
          case rel => exact ⟨t, z2, s2, rfl, HD4.out, HI2.out, HR3.out, hjj, HX.out⟩
      · have HX := Lib.hid (show s1 = fin by have := HFIN.out; rw [if_neg hc] at this; exact this)
        have t0 : (s1.c == 0) = false := beq_eq_false_iff_ne.2 hc
        clear hd2 ih2
        go_wp2_with fail
        go_ret
        exact ⟨rfl, by rw [← HX.out]; exact HR2.out⟩
end Go.Proofs.YtfnnoehpahdgcaaGreatDoor.Cl
namespace Go.Proofs.YtfnnoehpahdgcaaGreatDoor.Cl
set_option linter.unusedVariables false
open Go.RowKit Wd Rp Cu Kp
theorem B4.kept {q : Nat} {a b c d : Value} {w w' : World} (h : B4 q a b c d w) {p : Nat} (hb : But p w w') (hq : q ≠ p) : B4 q a b c d w' := h.but hb hq
def DeedX (w0 : World) (p : Nat) (ga : Option Addr) (gc : Nat) (gs : List Int) (q : Nat) (s : Sm) : Prop := ∀ (D : Nat) (d : Dv) (st : St0) (w : World), st.c = 0 → p < q → Xm w0 p ga gc gs st w → T.DdM w0 (q ≤ ·) w (T.DM w0 (q ≤ ·) w D) d s →
  Calls Tryz.prog 97 #[.pointer (some ⟨p, 0, none⟩), d.v] w (RunX w0 p ga gc gs (s.run gs st) w)
set_option maxHeartbeats 8000000 in
set_option maxRecDepth 100000 in
theorem deedX_stop (w0 : World) (p : Nat) (ga : Option Addr) (gc : Nat) (gs : List Int) (q : Nat) : DeedX w0 p ga gc gs q .stop := by
  intro D d st w hc hpq hX hD
  obtain ⟨h, n, sa, sn, sc, ba, bn, bc⟩ := d
  obtain rfl : h = stopT := hD
  have H1 := Lib.hid (bel1 w (.cells #[.string (tx stopT), .string (tx n), .slice sa sn sc, .slice ba bn bc] 115))
  have hE : Sm.run gs .stop st = ⟨1, st.b, st.f⟩ := by rw [Sm.run]
  rw [hE]; clear hE hX
  unfold Dv.v
  have qe : ((tx stopT).toList == [115, 116, 111, 112]) = true := tx_eqL _
  have q0 : ((tx stopT).toList == [115, 101, 116]) = false := by rw [Lib.toList_data, tx_data]; decide
  have q1 : ((tx stopT).toList == [99, 117, 116]) = false := by rw [Lib.toList_data, tx_data]; decide
  go_enter Tryz.func97, Tryz.ntmps97
  go_wp2_with fail
  exact ⟨rfl, But.of H1.out, (fun e => absurd (show (1 : Int) = 0 from e) (by decide)), fun _ => rfl⟩
set_option maxHeartbeats 8000000 in
set_option maxRecDepth 100000 in
theorem deedX_cut (w0 : World) (p : Nat) (ga : Option Addr) (gc : Nat) (gs : List Int) (q : Nat) (m : Tk) : DeedX w0 p ga gc gs q (.cut m) := by
  intro D d st w hc hpq hX hD
  obtain ⟨h, n, sa, sn, sc, ba, bn, bc⟩ := d
  obtain ⟨e1, e2⟩ := hD
  obtain rfl : h = cutT := e1
  obtain rfl : n = m := e2
  have hbl := bel1 w (.cells #[.string (tx cutT), .string (tx n), .slice sa sn sc, .slice ba bn bc] 115)
  have H1 := Lib.hid hbl
  have BU0 := Lib.hid (But.of hbl : But p w _)
  have X1 := Lib.hid (hX.next hbl)
  have Q1 := Lib.hid (B4.of (new_of w (.cells #[.string (tx cutT), .string (tx n), .slice sa sn sc, .slice ba bn bc] 115)))
  have hrp : w.heap.size ≠ p := by have := hX.hp; omega
  clear hbl
  have hE : Sm.run gs (.cut n) st = ⟨st.c, ctI st.b (tx n), st.f⟩ := by rw [Sm.run]
  rw [hE]; clear hE hX
  unfold Dv.v
  have qe : ((tx cutT).toList == [99, 117, 116]) = true := tx_eqL _
  have q0 : ((tx cutT).toList == [115, 101, 116]) = false := by rw [Lib.toList_data, tx_data]; decide
  have d0 := Q1.out.c0; have d1 := Q1.out.c1; have d2 := Q1.out.c2; have d3 := Q1.out.c3
  go_enter Tryz.func97, Tryz.ntmps97
  go_wp2_with fail
  generalize w.heap.size = r at *
  generalize w.alloc (.cells #[.string (tx cutT), .string (tx n), .slice sa sn sc, .slice ba bn bc] 115) = w1 at *
  have X2 := Lib.hid (X1.out.next (Below.refl _ _).drew)
  obtain ⟨xa, xn, xc, x0, hxn, hxv⟩ := X2.out.b
  have HL := Lib.hid (implCut_any w1.drew xa xc st.b xn (tx n) hxn hxv.1 (by have := X2.out.len; omega))
  rw [cbP_yes X2.out.ok] at HL
  clear hxv d0 d2 d3
  refine wp_region_held_drew (S := fun z => z.cell? ⟨r, 1, none⟩ = some (.string (tx n))) (by kernel_rfl) d1 (fun hHeld => ?_)
  refine tkI (i := 0) (v := ?v0c) rfl (Or.inl ⟨by rfl, ?hy0c⟩) ?rest0c
  case hy0c => (intro zz hSw; (try dsimp only at hSw); go_simp; (try with_reducible rfl))
  change wpAnyH _ _ _ _ _ _ _ (Act.put _ (some 18) _) _
  simp only [Act.put, List.setIfInBounds_toArray, List.set_cons_zero, List.set_cons_succ]
  refine tkI (i := 1) (v := ?v1c) rfl (Or.inl ⟨by rfl, ?hy1c⟩) ?rest1c
  case hy1c => (intro zz hSw; (try dsimp only at hSw); go_simp; (try with_reducible rfl))
  change wpAnyH _ _ _ _ _ _ _ (Act.put _ (some 19) _) _
  simp only [Act.put, List.setIfInBounds_toArray, List.set_cons_zero, List.set_cons_succ]
  refine tkI (i := 2) (v := ?v2c) rfl (Or.inl ⟨by rfl, ?hy2c⟩) ?rest2c
  case hy2c => (intro zz hSw; (try dsimp only at hSw); go_simp; (try with_reducible rfl))
  change wpAnyH _ _ _ _ _ _ _ (Act.put _ (some 20) _) _
  simp only [Act.put, List.setIfInBounds_toArray, List.set_cons_zero, List.set_cons_succ]
  refine tkI (i := 3) (v := ?v3c) rfl (Or.inl ⟨by rfl, ?hy3c⟩) ?rest3c
  case hy3c => (intro zz hSw; (try dsimp only at hSw); go_simp; (try with_reducible rfl))
  change wpAnyH _ _ _ _ _ _ _ (Act.put _ (some 21) _) _
  simp only [Act.put, List.setIfInBounds_toArray, List.set_cons_zero, List.set_cons_succ]
  refine tkI (i := 5) (v := ?v5c) rfl (Or.inl ⟨by rfl, ?hy5c⟩) ?rest5c
  case hy5c => (intro zz hSw; (try dsimp only at hSw); go_simp; (try with_reducible rfl))
  change wpAnyH _ _ _ _ _ _ _ (Act.put _ (some 23) _) _
  simp only [Act.put, List.setIfInBounds_toArray, List.set_cons_zero, List.set_cons_succ]
  refine tkI (i := 6) (v := ?v6c) rfl (Or.inl ⟨by rfl, ?hy6c⟩) ?rest6c
  case hy6c => (intro zz hSw; (try dsimp only at hSw); go_simp; (try with_reducible rfl))
  change wpAnyH _ _ _ _ _ _ _ (Act.put _ (some 24) _) _
  simp only [Act.put, List.setIfInBounds_toArray, List.set_cons_zero, List.set_cons_succ]
  refine wpAnyH_ready (rs := [4]) (by kernel_rfl) (by simp) (AllReadyH.cons rfl (fun K hK => ?_) (AllReadyH.nil))
  go_simp
  refine hK.out _ _ hHeld (fun hHeld => ?_)
  clear hK K
  refine wpAnyH_ready (rs := [7]) (by kernel_rfl) (by simp) (AllReadyH.cons rfl (fun K hK => ?_) (AllReadyH.nil))
  go_simp
  refine HL.out.mono ?_; rintro e w3 ⟨v3, rfl, o3, b3⟩
  obtain ⟨va3, vc3, rfl, -⟩ := o3.view
  have X3 := Lib.hid (X2.out.next b3)
  have f3 := X3.out.fz.1
  obtain ⟨ya, yn, yc, y0, -, -⟩ := X3.out.b
  have XB := Lib.hid (X2.out.putB b3 rfl o3 (ctI_ok X2.out.ok))
  have BU := Lib.hid (((But.refl p w1).drew.trans (But.of b3)).trans (but_set w3 p 0 (.slice va3 (ctI st.b (tx n)).length vc3)))
  have r3 := (World.cell?_of_block (w := w1.drew) (a := ⟨r, 1, none⟩) (b3.block r Q1.out.lt)).trans hHeld
  refine hK.out _ _ r3 (fun hHeld => ?_)
  clear hK K o3 b3
  refine tkI (i := 8) (v := ?v8c) rfl (Or.inl ⟨by rfl, ?hy8c⟩) ?rest8c
  case hy8c => (intro zz hSw; (try dsimp only at hSw); go_simp; (try with_reducible rfl))
  change wpAnyH _ _ _ _ _ _ _ (Act.put _ (some 26) _) _
  simp only [Act.put, List.setIfInBounds_toArray, List.set_cons_zero, List.set_cons_succ]
  refine tkI (i := 9) (v := ?v9c) rfl (Or.inl ⟨by rfl, ?hy9c⟩) ?rest9c
  case hy9c => (intro zz hSw; (try dsimp only at hSw); go_simp; (try with_reducible rfl))
  change wpAnyH _ _ _ _ _ _ _ (Act.put _ (some 27) _) _
  simp only [Act.put, List.setIfInBounds_toArray, List.set_cons_zero, List.set_cons_succ]
  refine wpAnyH_ready (rs := [10]) (by kernel_rfl) (by simp) (AllReadyH.cons rfl (fun K hK => ?_) (AllReadyH.nil))
  go_simp
  refine hK.out _ _ ((World.cell?_setCell_other _ _ _ _ (fun e => hrp (congrArg Addr.block e).symm)).trans r3) (fun hHeld => ?_)
  clear hK K
  refine wpAnyH_done (by kernel_rfl) ?_ _
  clear hHeld
  exact bodyPost_end (v := .tuple #[]) (by simp [results, Tryz.results97, go_sem]) rfl ⟨(BU0.out).trans BU.out, fun _ => ⟨rfl, XB.out⟩, fun e => absurd hc e⟩
set_option maxHeartbeats 8000000 in
set_option maxRecDepth 100000 in
theorem deedX_set (w0 : World) (p : Nat) (ga : Option Addr) (gc : Nat) (gs : List Int) (q : Nat) (m : Tk) (ex : List Tk) (hw : Sm.wf 5 (.set m ex)) (hbd : Bd ex) : DeedX w0 p ga gc gs q (.set m ex) := by
  intro D d st w hc hpq hX hD
  obtain ⟨h, n, sa, sn, sc, ba, bn, bc⟩ := d
  obtain ⟨e1, e2, e3, e4⟩ := hD
  obtain rfl : h = setT := e1
  obtain rfl : n = m := e2
  rw [Sm.wf] at hw
  have hbl := bel1 w (.cells #[.string (tx setT), .string (tx n), .slice sa sn sc, .slice ba bn bc] 115)
  have H1 := Lib.hid hbl
  have BU0 := Lib.hid (But.of hbl : But p w _)
  have X1 := Lib.hid (hX.next hbl)
  have Q1 := Lib.hid (B4.of (new_of w (.cells #[.string (tx setT), .string (tx n), .slice sa sn sc, .slice ba bn bc] 115)))
  have hrp : w.heap.size ≠ p := by have := hX.hp; omega
  clear hbl
  have VAL := Lib.hid (fun z (hz : Xm w0 p ga gc gs st z) => value_any hz sa sc ex sn e3.symm e4 hbd (kind := 1) (by decide) hw.2)
  have EW := Lib.hid (evE_w hX.ok hX.th hw.2.ok)
  have SET := Lib.hid (fun z (hz : Xm w0 p ga gc gs st z) v hv => set_any hz n v hw.1 hv hc)
  have hE : Sm.run gs (.set n ex) st = (if (evE gs st.b ex).2 = false then ⟨2, st.b, st.f⟩ else ⟨(if (st7 st.b (tx n) (evE gs st.b ex).1).2 then st.c else 4), (st7 st.b (tx n) (evE gs st.b ex).1).1, st.f⟩) := by rw [Sm.run]
  rw [hE]; clear hE hX e3 e4 hw hbd
  generalize evE gs st.b ex = xx at *
  obtain ⟨x, is⟩ := xx
  generalize hfin : (if (x, is).2 = false then (⟨2, st.b, st.f⟩ : St0) else ⟨(if (st7 st.b (tx n) (x, is).1).2 then st.c else 4), (st7 st.b (tx n) (x, is).1).1, st.f⟩) = fin
  have HFIN := Lib.hid hfin; clear hfin
  unfold Dv.v
  have qe : ((tx setT).toList == [115, 101, 116]) = true := tx_eqL _
  have d0 := Q1.out.c0; have d1 := Q1.out.c1; have d2 := Q1.out.c2; have d3 := Q1.out.c3
  go_enter Tryz.func97, Tryz.ntmps97
  go_wp2_with fail
  have hrl : w.heap.size < (w.alloc (.cells #[.string (tx setT), .string (tx n), .slice sa sn sc, .slice ba bn bc] 115)).heap.size := Q1.out.lt
  generalize w.heap.size = r at *
  generalize w.alloc (.cells #[.string (tx setT), .string (tx n), .slice sa sn sc, .slice ba bn bc] 115) = w1 at *
  have X2 := Lib.hid (X1.out.next (Below.refl _ _).drew)
  have HV := Lib.hid (VAL.out w1.drew X2.out)
  clear d0 d3 VAL
  cases is
  · have HX := Lib.hid (show (⟨2, st.b, st.f⟩ : St0) = fin from HFIN.out)
    clear HFIN
    refine wp_region_held_drew (S := fun z => z.cell? ⟨r, 1, none⟩ = some (.string (tx n)) ∧ z.cell? ⟨r, 2, none⟩ = some (.slice sa sn sc)) (by kernel_rfl) ⟨d1, d2⟩ (fun hHeld => ?_)
    refine tkI (i := 0) (v := ?v0s) rfl (Or.inl ⟨by rfl, ?hy0s⟩) ?rest0s
    case hy0s => (intro zz hSw; (try dsimp only at hSw); go_simp; (try with_reducible rfl))
    change wpAnyH _ _ _ _ _ _ _ (Act.put _ (some 8) _) _
    simp only [Act.put, List.setIfInBounds_toArray, List.set_cons_zero, List.set_cons_succ]
    refine tkI (i := 1) (v := ?v1s) rfl (Or.inl ⟨by rfl, ?hy1s⟩) ?rest1s
    case hy1s => (intro zz hSw; (try dsimp only at hSw); go_simp; (try with_reducible rfl))
    change wpAnyH _ _ _ _ _ _ _ (Act.put _ (some 9) _) _
    simp only [Act.put, List.setIfInBounds_toArray, List.set_cons_zero, List.set_cons_succ]
    refine tkI (i := 2) (v := ?v2s) rfl (Or.inl ⟨by rfl, ?hy2s⟩) ?rest2s
    case hy2s => (intro zz hSw; (try dsimp only at hSw); go_simp; (try with_reducible rfl))
    change wpAnyH _ _ _ _ _ _ _ (Act.put _ (some 10) _) _
    simp only [Act.put, List.setIfInBounds_toArray, List.set_cons_zero, List.set_cons_succ]
    refine tkI (i := 3) (v := ?v3s) rfl (Or.inl ⟨by rfl, ?hy3s⟩) ?rest3s
    case hy3s => (intro zz hSw; (try dsimp only at hSw); go_simp; (try with_reducible rfl))
    change wpAnyH _ _ _ _ _ _ _ (Act.put _ (some 11) _) _
    simp only [Act.put, List.setIfInBounds_toArray, List.set_cons_zero, List.set_cons_succ]
    refine tkI (i := 4) (v := ?v4s) rfl (Or.inl ⟨by rfl, ?hy4s⟩) ?rest4s
    case hy4s => (intro zz hSw; (try dsimp only at hSw); go_simp; (try with_reducible rfl))
    change wpAnyH _ _ _ _ _ _ _ (Act.put _ (some 12) _) _
    simp only [Act.put, List.setIfInBounds_toArray, List.set_cons_zero, List.set_cons_succ]
    refine tkI (i := 5) (v := ?v5s) rfl (Or.inl ⟨by rfl, ?hy5s⟩) ?rest5s
    case hy5s => (intro zz hSw; (try dsimp only at hSw); go_simp; (try with_reducible rfl))
    change wpAnyH _ _ _ _ _ _ _ (Act.put _ (some 13) _) _
    simp only [Act.put, List.setIfInBounds_toArray, List.set_cons_zero, List.set_cons_succ]
    refine wpAnyH_ready (rs := [6]) (by kernel_rfl) (by simp) (AllReadyH.cons rfl (fun K hK => ?_) (AllReadyH.nil))
    go_simp
    refine HV.out.mono ?_; rintro e w3 ⟨b3, -, e3⟩
    obtain rfl := e3 rfl
    exact ⟨rfl, (BU0.out).trans ((But.refl p w1).drew.trans (But.of b3)), (fun e => absurd (show (2 : Int) = 0 from by rw [← HX.out] at e; exact e) (by decide)), (fun _ => by rw [← HX.out])⟩
  · have HX := Lib.hid (show (⟨(if (st7 st.b (tx n) x).2 then st.c else 4), (st7 st.b (tx n) x).1, st.f⟩ : St0) = fin from HFIN.out)
    have EW2 : isW x = true := EW.out
    clear HFIN
    refine wp_region_held_drew (S := fun z => z.cell? ⟨r, 1, none⟩ = some (.string (tx n)) ∧ z.cell? ⟨r, 2, none⟩ = some (.slice sa sn sc)) (by kernel_rfl) ⟨d1, d2⟩ (fun hHeld => ?_)
    refine tkI (i := 0) (v := ?v0t) rfl (Or.inl ⟨by rfl, ?hy0t⟩) ?rest0t
    case hy0t => (intro zz hSw; (try dsimp only at hSw); go_simp; (try with_reducible rfl))
    change wpAnyH _ _ _ _ _ _ _ (Act.put _ (some 8) _) _
    simp only [Act.put, List.setIfInBounds_toArray, List.set_cons_zero, List.set_cons_succ]
    refine tkI (i := 1) (v := ?v1t) rfl (Or.inl ⟨by rfl, ?hy1t⟩) ?rest1t
    case hy1t => (intro zz hSw; (try dsimp only at hSw); go_simp; (try with_reducible rfl))
    change wpAnyH _ _ _ _ _ _ _ (Act.put _ (some 9) _) _
    simp only [Act.put, List.setIfInBounds_toArray, List.set_cons_zero, List.set_cons_succ]
    refine tkI (i := 2) (v := ?v2t) rfl (Or.inl ⟨by rfl, ?hy2t⟩) ?rest2t
    case hy2t => (intro zz hSw; (try dsimp only at hSw); go_simp; (try with_reducible rfl))
    change wpAnyH _ _ _ _ _ _ _ (Act.put _ (some 10) _) _
    simp only [Act.put, List.setIfInBounds_toArray, List.set_cons_zero, List.set_cons_succ]
    refine tkI (i := 3) (v := ?v3t) rfl (Or.inl ⟨by rfl, ?hy3t⟩) ?rest3t
    case hy3t => (intro zz hSw; (try dsimp only at hSw); go_simp; (try with_reducible rfl))
    change wpAnyH _ _ _ _ _ _ _ (Act.put _ (some 11) _) _
    simp only [Act.put, List.setIfInBounds_toArray, List.set_cons_zero, List.set_cons_succ]
    refine tkI (i := 4) (v := ?v4t) rfl (Or.inl ⟨by rfl, ?hy4t⟩) ?rest4t
    case hy4t => (intro zz hSw; (try dsimp only at hSw); go_simp; (try with_reducible rfl))
    change wpAnyH _ _ _ _ _ _ _ (Act.put _ (some 12) _) _
    simp only [Act.put, List.setIfInBounds_toArray, List.set_cons_zero, List.set_cons_succ]
    refine tkI (i := 5) (v := ?v5t) rfl (Or.inl ⟨by rfl, ?hy5t⟩) ?rest5t
    case hy5t => (intro zz hSw; (try dsimp only at hSw); go_simp; (try with_reducible rfl))
    change wpAnyH _ _ _ _ _ _ _ (Act.put _ (some 13) _) _
    simp only [Act.put, List.setIfInBounds_toArray, List.set_cons_zero, List.set_cons_succ]
    refine wpAnyH_ready (rs := [6]) (by kernel_rfl) (by simp) (AllReadyH.cons rfl (fun K hK => ?_) (AllReadyH.nil))
    go_simp
    refine HV.out.mono ?_; rintro e w3 ⟨b3, e3, -⟩
    obtain rfl := e3 rfl
    have X3 := Lib.hid (X2.out.next b3)
    have B3 := Lib.hid ((But.refl p w1).drew.trans (But.of b3) : But p w1 w3)
    have r3 := (World.cell?_of_block (w := w1.drew) (a := ⟨r, 1, none⟩) (b3.block r Q1.out.lt)).trans hHeld.1
    have r4 := (World.cell?_of_block (w := w1.drew) (a := ⟨r, 2, none⟩) (b3.block r Q1.out.lt)).trans hHeld.2
    have l3 : r < w3.heap.size := Nat.lt_of_lt_of_le hrl b3.size
    refine hK.out _ _ ⟨r3, r4⟩ (fun hHeld => ?_)
    clear hK K b3
    refine wpAnyH_ready (rs := [7]) (by kernel_rfl) (by simp) (AllReadyH.cons rfl (fun K hK => ?_) (AllReadyH.nil))
    go_simp
    refine (SET.out _ X3.out x EW2).mono ?_; rintro e w4 ⟨b4, h4, k4⟩
    rw [HX.out] at h4 k4
    by_cases hz : fin.c = 0
    · obtain ⟨rfl, x4⟩ := h4 hz
      have XR := Lib.hid x4
      have ZC := Lib.hid hz
      have BU := Lib.hid (B3.out.trans b4)
      refine hK.out _ _ ⟨(b4.cell (p := ⟨r, 1, none⟩) l3 hrp).trans r3, (b4.cell (p := ⟨r, 2, none⟩) l3 hrp).trans r4⟩ (fun hHeld => ?_)
      clear hK K b4 h4 k4 x4
      refine wpAnyH_done (by kernel_rfl) ?_ _
      clear hHeld
      exact bodyPost_end (v := .tuple #[]) (by simp [results, Tryz.results97, go_sem]) rfl ⟨(BU0.out).trans BU.out, (fun hz => ⟨rfl, XR.out⟩), fun e => absurd ZC.out e⟩
    · obtain rfl := k4 hz
      exact ⟨rfl, (BU0.out).trans (B3.out.trans b4), (fun e => absurd e hz), fun _ => rfl⟩
end Go.Proofs.YtfnnoehpahdgcaaGreatDoor.Cl
namespace Go.Proofs.YtfnnoehpahdgcaaGreatDoor.Cl
set_option linter.unusedVariables false
open Go.RowKit Wd Rp Cu Kp
theorem RunX.pre {w0 w w1 w2 : World} {p : Nat} {ga : Option Addr} {gc : Nat} {gs : List Int} {r : St0} {e : Ending} (h : RunX w0 p ga gc gs r w1 e w2) (hb : But p w w1) : RunX w0 p ga gc gs r w e w2 := ⟨hb.trans h.1, h.2.1, h.2.2⟩
theorem each_preS {P : Sm → Prop} {t : Sl} : ∀ {fs : List Sm}, (T.preS fs t).each P → ∀ f ∈ fs, P f
  | [], h, f, hf => by cases hf
  | g :: fs, h, f, hf => by
    rw [T.preS, Sl.each] at h
    rcases List.mem_cons.1 hf with rfl | hf
    · exact h.1
    · exact each_preS h.2 f hf
theorem T.DM.form {w0 w : World} {K : Nat → Prop} {D : Nat} {v : Value} {F : Sl} (h : T.DM w0 K w D v F) : ∃ a n c, v = .slice a n c := by
  cases D with
  | zero => cases h
  | succ D =>
    obtain ⟨ds, fs, h1, -⟩ := h
    obtain ⟨a, c, e, -⟩ := h1.form
    exact ⟨a, _, c, e⟩
theorem T.DM.but {w0 w w' : World} {p q : Nat} (hpq : p < q) (hb : But p w w') {D : Nat} {v : Value} {F : Sl} (h : T.DM w0 (q ≤ ·) w D v F) : T.DM w0 (q ≤ ·) w' D v F :=
  T.DM.keep hb.size (fun g h1 h2 => hb.block g h2 (by omega)) (fun g h _ => h) D v F h
theorem T.DdM.but {w0 w w' : World} {p q : Nat} (hpq : p < q) (hb : But p w w') {D : Nat} {d : Dv} {F : Sm} (h : T.DdM w0 (q ≤ ·) w (T.DM w0 (q ≤ ·) w D) d F) : T.DdM w0 (q ≤ ·) w' (T.DM w0 (q ≤ ·) w' D) d F :=
  h.keep hb.size (fun g h1 h2 => hb.block g h2 (by omega)) (fun g h _ => h) (fun v f h => h.but hpq hb)
def DeedsX (w0 : World) (p : Nat) (ga : Option Addr) (gc : Nat) (gs : List Int) (q : Nat) (b : Sl) : Prop := ∀ (D : Nat) (v : Value) (st : St0) (w : World), st.c = 0 → p < q → Xm w0 p ga gc gs st w → T.DM w0 (q ≤ ·) w D v b →
  Calls Tryz.prog 79 #[.pointer (some ⟨p, 0, none⟩), v] w (RunX w0 p ga gc gs (b.run gs st) w)
set_option maxHeartbeats 8000000 in
set_option maxRecDepth 100000 in
theorem deedsX_of (w0 : World) (p : Nat) (ga : Option Addr) (gc : Nat) (gs : List Int) (q : Nat) (b : Sl) (ih : b.each (DeedX w0 p ga gc gs q)) : DeedsX w0 p ga gc gs q b := by
  intro D v st w hc hpq hX hD
  cases D with
  | zero => cases hD
  | succ D =>
  obtain ⟨ds, fs, how, hK, hlen, hel, rfl⟩ := hD
  obtain ⟨a, cap, rfl, hlc, hcm⟩ := how.form
  unfold maxLen at hcm
  have IH := Lib.hid (each_preS ih)
  have HOW := Lib.hid how
  have HK := Lib.hid hK
  have HEL := Lib.hid hel
  have HLEN := Lib.hid hlen
  have HX := Lib.hid hX
  clear ih how hel hlen hK hX
  obtain ⟨n, hn⟩ : ∃ n, ds.length = n := ⟨_, rfl⟩
  rw [hn] at hlc HOW HLEN HK ⊢
  have HN := Lib.hid hn
  obtain ⟨fin, hfin⟩ : ∃ r, (T.preS fs .nil).run gs st = r := ⟨_, rfl⟩
  rw [hfin]
  have HFIN := Lib.hid hfin
  clear hn hfin
  go_enter Tryz.func79, Tryz.ntmps79
  go_wp2_with fail
  go_loopw [5, 8] (fun _ i wr => ∃ (k : Nat) (s1 : St0), k ≤ n ∧ i = .int .i64 (k : Int) ∧ s1.c = 0 ∧ Xm w0 p ga gc gs s1 wr ∧ But p w wr ∧ (T.preS (fs.drop k) .nil).run gs s1 = fin) (fun _ i _ => n - intV i)
  case atStart => exact ⟨0, st, Nat.zero_le _, rfl, hc, HX.out, But.refl _ _, HFIN.out⟩
  case round =>
    obtain ⟨k, s1, hk, rfl, hc1, hx1, hb1, hf1⟩ := hrel
    have X1 := Lib.hid hx1
    have B1 := Lib.hid hb1
    have F1 := Lib.hid hf1
    clear hx1 hb1 hf1 HFIN HX
    by_cases hlt : k < n
    · obtain ⟨d, hd⟩ : ∃ d, ds[k]? = some d := ⟨ds[k]'(by have := HN.out; omega), List.getElem?_eq_getElem _⟩
      obtain ⟨f, hf⟩ : ∃ f, fs[k]? = some f := ⟨fs[k]'(by have := HLEN.out; omega), List.getElem?_eq_getElem _⟩
      obtain ⟨aa, ca, e, hvd⟩ := HOW.out.view
      rw [HN.out] at e
      cases e
      have hcell : ∃ g o, a = some ⟨g, o, none⟩ ∧ g < w.heap.size ∧ ∀ j x, d.cells[j]? = some x → wr.cell? ⟨g, o + k * 4 + j, none⟩ = some x := by
        obtain ⟨g, o, e, hg, -⟩ := hvd.2.2.2 _ _ (flatD_get hd (j := 0) (x := .string (tx d.h)) rfl)
        refine ⟨g, o, e, hg, fun j x hj => ?_⟩
        obtain ⟨g', o', e', hg', hc'⟩ := hvd.2.2.2 _ _ (flatD_get hd hj)
        rw [e] at e'; cases e'
        rw [show o + k * 4 + j = o + (k * 4 + j) by omega]
        have := HK.out g (by rw [e]; rfl)
        exact (World.cell?_of_block (w := w) (B1.out.block g hg (by omega))).trans hc'
      obtain ⟨g, o, rfl, hg, hcw⟩ := hcell
      have d0 : wr.cell? ⟨g, o + k * 4, none⟩ = some (.string (tx d.h)) := hcw 0 _ rfl
      have d1 : wr.cell? ⟨g, o + k * 4 + 1, none⟩ = some (.string (tx d.n)) := hcw 1 _ rfl
      have d2 : wr.cell? ⟨g, o + k * 4 + 2, none⟩ = some (.slice d.sa d.sn d.sc) := hcw 2 _ rfl
      have d3 : wr.cell? ⟨g, o + k * 4 + 3, none⟩ = some (.slice d.ba d.bn d.bc) := hcw 3 _ rfl
      have hbl := bel1 wr (.cells #[.string (tx d.h), .string (tx d.n), .slice d.sa d.sn d.sc, .slice d.ba d.bn d.bc] 115)
      have X2 := Lib.hid (X1.out.next hbl)
      have B2 := Lib.hid (B1.out.trans (But.of hbl))
      have HD := Lib.hid ((HEL.out k d f hd hf).but hpq B2.out)
      have HF2 := Lib.hid (show (if (Sm.run gs f s1).c = 0 then (T.preS (fs.drop (k + 1)) .nil).run gs (Sm.run gs f s1) else Sm.run gs f s1) = fin from by
        have e := F1.out
        rw [List.drop_eq_getElem_cons (by have := HLEN.out; omega), T.preS, Sl.run] at e
        have e2 : fs[k]'(by have := HLEN.out; omega) = f := by have := (List.getElem?_eq_some_iff.1 hf).2; exact this
        rw [e2] at e
        exact e)
      have HC := Lib.hid (IH.out f (List.mem_of_getElem? hf) D d s1 _ hc1 hpq X2.out HD.out)
      have t1 : (k : Int) < (n : Int) := by omega
      have t1d : decide ((k : Int) < (n : Int)) = true := by simpa using hlt
      have i1 : (k : Int) + 1 ≤ 9223372036854775807 := by omega
      clear hcw hd hf hg hvd hlc hcm hbl
      go_wp2_with fail
      refine HC.out.mono ?_; rintro e w3 ⟨b3, h3, k3⟩
      generalize Sm.run gs f s1 = s2 at *
      by_cases hz : s2.c = 0
      · obtain ⟨rfl, x3⟩ := h3 hz
        have X3 := Lib.hid x3
        have B3 := Lib.hid (B2.out.trans b3)
        clear b3 h3 k3 x3
        go_wp2_with fail
        go_roundw
        case measure => simp [intV]; omega
        case rel => exact ⟨k + 1, s2, by omega, by go_num, hz, X3.out, B3.out, by have := HF2.out; rw [if_pos hz] at this; exact this⟩
      · obtain rfl := k3 hz
        have e2 : s2 = fin := by have := HF2.out; rw [if_neg hz] at this; exact this
        subst e2
        exact ⟨rfl, B2.out.trans b3, (fun e => absurd e hz), fun _ => rfl⟩
    · have t1 : ¬ (k : Int) < (n : Int) := by omega
      have t1d : decide ((k : Int) < (n : Int)) = false := by simpa using hlt
      have e2 : s1 = fin := by
        have := F1.out
        rw [List.drop_eq_nil_of_le (by have := HLEN.out; omega), T.preS, Sl.run] at this
        exact this
      subst e2
      go_wp2_with fail
      exact bodyPost_end (v := .tuple #[]) (by simp [results, Tryz.results79, go_sem]) rfl ⟨B1.out, (fun _ => ⟨rfl, X1.out⟩), fun e => absurd hc1 e⟩
set_option maxHeartbeats 8000000 in
set_option maxRecDepth 100000 in
theorem choose_any (w0 : World) (p : Nat) (ga : Option Addr) (gc : Nat) (gs : List Int) (q D : Nat) (st : St0) (w : World) (hc : st.c = 0) (hpq : p < q) (hX : Xm w0 p ga gc gs st w) (h n : Tk) (sa : Option Addr) (sn sc : Nat) (ba : Option Addr) (bn bc : Nat) (ex : List Tk) (b1 b2 : Sl) (hw : eK 2 ex) (hbd : Bd ex)
    (hD : T.DdM w0 (q ≤ ·) w (T.DM w0 (q ≤ ·) w D) ⟨h, n, sa, sn, sc, ba, bn, bc⟩ (.ifs ex b1 b2)) (h1 : DeedsX w0 p ga gc gs q b1) (h2 : DeedsX w0 p ga gc gs q b2) :
    Calls Tryz.prog 112 #[.pointer (some ⟨p, 0, none⟩), .agg #[.string (tx h), .string (tx n), .slice sa sn sc, .slice ba bn bc]] w (RunX w0 p ga gc gs (Sm.run gs (.ifs ex b1 b2) st) w) := by
  obtain ⟨-, e3, e4, va, vb, e5, e6, e7, e8, e9⟩ := hD
  obtain ⟨a1, n1, c1, rfl⟩ := e8.form
  obtain ⟨a2, n2, c2, rfl⟩ := e9.form
  obtain rfl : bn = 2 := e5
  have hbl := bel1 w (.cells #[.string (tx h), .string (tx n), .slice sa sn sc, .slice ba 2 bc] 115)
  have X1 := Lib.hid (hX.next hbl)
  have HV := Lib.hid (holds_any X1.out sa sc ex sn e3.symm e4 hbd (kind := 2) (by decide) hw)
  have Q1 := Lib.hid (B4.of (new_of w (.cells #[.string (tx h), .string (tx n), .slice sa sn sc, .slice ba 2 bc] 115)))
  have BU1 := Lib.hid (But.of hbl : But p w _)
  obtain ⟨g, o, eg, hg, c1'⟩ := e6.2.2.2 0 _ rfl
  rw [Nat.add_zero] at c1'
  obtain ⟨g', o', eg', -, c2'⟩ := e6.2.2.2 1 _ rfl
  obtain rfl : ba = some ⟨g, o, none⟩ := eg
  cases eg'
  have hgq : q ≤ g := (e7 g o rfl).1
  have HE1 := Lib.hid e8
  have HE2 := Lib.hid e9
  have hE : Sm.run gs (.ifs ex b1 b2) st = (if (evE gs st.b ex).2 = false then ⟨2, st.b, st.f⟩ else if (evE gs st.b ex).1 = 0 then Sl.run gs b2 st else Sl.run gs b1 st) := by rw [Sm.run]
  rw [hE]; clear hE hX e3 e4 e6 e7 e8 e9 hbd hw
  generalize evE gs st.b ex = xx at *
  obtain ⟨x, is⟩ := xx
  generalize hfin : (if (x, is).2 = false then (⟨2, st.b, st.f⟩ : St0) else if (x, is).1 = 0 then Sl.run gs b2 st else Sl.run gs b1 st) = fin
  have HFIN := Lib.hid hfin; clear hfin
  have HH1 := Lib.hid h1
  have HH2 := Lib.hid h2
  have hgz : g < (w.alloc (.cells #[.string (tx h), .string (tx n), .slice sa sn sc, .slice (some ⟨g, o, none⟩) 2 bc] 115)).heap.size := by rw [World.size_alloc]; omega
  have f1 := (World.cell?_of_block (w := w) (hbl.block g hg)).trans c1'
  have f2 := (World.cell?_of_block (w := w) (hbl.block g hg)).trans c2'
  have hrl := Q1.out.lt
  have d0 := Q1.out.c0; have d1 := Q1.out.c1; have d2 := Q1.out.c2; have d3 := Q1.out.c3
  clear hbl c1' c2' h1 h2
  go_enter Tryz.func112, Tryz.ntmps112
  go_wp2_with fail
  generalize w.heap.size = r at *
  generalize w.alloc (.cells #[.string (tx h), .string (tx n), .slice sa sn sc, .slice (some ⟨g, o, none⟩) 2 bc] 115) = w1 at *
  clear d0 d1 d2
  cases is
  · have HX := Lib.hid (show (⟨2, st.b, st.f⟩ : St0) = fin from HFIN.out)
    refine HV.out.mono ?_; rintro e w3 ⟨b3, -, k3⟩
    obtain rfl := k3 rfl
    exact ⟨rfl, BU1.out.trans (But.of b3), (fun e => absurd (show (2 : Int) = 0 from by rw [← HX.out] at e; exact e) (by decide)), (fun _ => by rw [← HX.out])⟩
  · by_cases hx : x = 0
    · subst hx
      have HX := Lib.hid (show Sl.run gs b2 st = fin from HFIN.out)
      have t2 : ((0 : Int) != 0) = false := by decide
      refine HV.out.mono ?_; rintro e w3 ⟨b3, k3, -⟩
      obtain rfl := k3 rfl
      have B3 := Lib.hid (But.of b3 : But p w1 w3)
      have X3 := Lib.hid (X1.out.next b3)
      have g1 := (World.cell?_of_block (w := w1) (b3.block g hgz)).trans f1
      have g2 := (World.cell?_of_block (w := w1) (b3.block g hgz)).trans f2
      have r3 := (World.cell?_of_block (w := w1) (b3.block r hrl)).trans d3
      clear b3 f1 f2 d3 k3
      go_wp2_with fail
      refine (HH2.out D _ st w3 hc hpq X3.out (HE2.out.but hpq (BU1.out.trans B3.out))).mono ?_; rintro e w4 ⟨b4, h4, k4⟩
      rw [HX.out] at h4 k4
      by_cases hz : fin.c = 0
      · obtain ⟨rfl, x4⟩ := h4 hz
        have X4 := Lib.hid x4
        have B4' := Lib.hid (BU1.out.trans (B3.out.trans b4))
        clear b4 h4 k4 x4
        go_wp2_with fail
        exact bodyPost_end (v := .tuple #[]) (by simp [results, Tryz.results112, go_sem]) rfl ⟨B4'.out, (fun _ => ⟨rfl, X4.out⟩), fun e => absurd hz e⟩
      · obtain rfl := k4 hz
        exact ⟨rfl, BU1.out.trans (B3.out.trans b4), (fun e => absurd e hz), fun _ => rfl⟩
    · have HX := Lib.hid (show Sl.run gs b1 st = fin from by have := HFIN.out; rw [if_neg (by decide), if_neg hx] at this; exact this)
      have t2 : (x != 0) = true := by simpa using hx
      refine HV.out.mono ?_; rintro e w3 ⟨b3, k3, -⟩
      replace k3 := k3 rfl
      rw [show ((x, true).1 != 0) = true from t2] at k3
      obtain rfl := k3
      have B3 := Lib.hid (But.of b3 : But p w1 w3)
      have X3 := Lib.hid (X1.out.next b3)
      have g1 := (World.cell?_of_block (w := w1) (b3.block g hgz)).trans f1
      have g2 := (World.cell?_of_block (w := w1) (b3.block g hgz)).trans f2
      have r3 := (World.cell?_of_block (w := w1) (b3.block r hrl)).trans d3
      clear b3 f1 f2 d3
      go_wp2_with fail
      refine (HH1.out D _ st w3 hc hpq X3.out (HE1.out.but hpq (BU1.out.trans B3.out))).mono ?_; rintro e w4 ⟨b4, h4, k4⟩
      rw [HX.out] at h4 k4
      by_cases hz : fin.c = 0
      · obtain ⟨rfl, x4⟩ := h4 hz
        have X4 := Lib.hid x4
        have B4' := Lib.hid (BU1.out.trans (B3.out.trans b4))
        clear b4 h4 k4 x4
        go_wp2_with fail
        exact bodyPost_end (v := .tuple #[]) (by simp [results, Tryz.results112, go_sem]) rfl ⟨B4'.out, (fun _ => ⟨rfl, X4.out⟩), fun e => absurd hz e⟩
      · obtain rfl := k4 hz
        exact ⟨rfl, BU1.out.trans (B3.out.trans b4), (fun e => absurd e hz), fun _ => rfl⟩
def inR (gs : List Int) (e : List Tk) (body : St0 → St0) (n : Nat) (s : St0) : St0 :=
  if (evE gs s.b e).2 = false then ⟨2, s.b, s.f⟩ else if (evE gs s.b e).1 = 0 then s else if (body s).c = 0 then whR gs e body n (body s) else body s
theorem whR_in {gs : List Int} {e : List Tk} {body : St0 → St0} {n : Nat} {st : St0} (h : st.f ≠ 0) : whR gs e body (n + 1) st = inR gs e body n ⟨st.c, st.b, st.f - 1⟩ := by
  rw [whR, if_neg h]; rfl
theorem whR_no {gs : List Int} {e : List Tk} {body : St0 → St0} {n : Nat} {st : St0} (h : st.f = 0) : whR gs e body (n + 1) st = ⟨3, st.b, st.f⟩ := by
  rw [whR, if_pos h]
set_option maxHeartbeats 8000000 in
set_option maxRecDepth 100000 in
theorem repeat_any (w0 : World) (p : Nat) (ga : Option Addr) (gc : Nat) (gs : List Int) (q D : Nat) (st : St0) (w : World) (hc : st.c = 0) (hpq : p < q) (hX : Xm w0 p ga gc gs st w) (h n : Tk) (sa : Option Addr) (sn sc : Nat) (ba : Option Addr) (bn bc : Nat) (ex : List Tk) (b1 : Sl) (hw : eK 2 ex) (hbd : Bd ex)
    (hD : T.DdM w0 (q ≤ ·) w (T.DM w0 (q ≤ ·) w D) ⟨h, n, sa, sn, sc, ba, bn, bc⟩ (.whl ex b1)) (h1 : DeedsX w0 p ga gc gs q b1) :
    Calls Tryz.prog 113 #[.pointer (some ⟨p, 0, none⟩), .agg #[.string (tx h), .string (tx n), .slice sa sn sc, .slice ba bn bc]] w (RunX w0 p ga gc gs (Sm.run gs (.whl ex b1) st) w) := by
  obtain ⟨-, e3, e4, va, e5, e6, e7, e8⟩ := hD
  obtain ⟨a1, n1, c1, rfl⟩ := e8.form
  obtain rfl : bn = 1 := e5
  have hbl := bel1 w (.cells #[.string (tx h), .string (tx n), .slice sa sn sc, .slice ba 1 bc] 115)
  have X1 := Lib.hid (hX.next hbl)
  have HV := Lib.hid (fun z s (hz : Xm w0 p ga gc gs s z) => holds_any hz sa sc ex sn e3.symm e4 hbd (kind := 2) (by decide) hw)
  have Q1 := Lib.hid (B4.of (new_of w (.cells #[.string (tx h), .string (tx n), .slice sa sn sc, .slice ba 1 bc] 115)))
  have BU1 := Lib.hid (But.of hbl : But p w _)
  obtain ⟨g, o, eg, hg, c1'⟩ := e6.2.2.2 0 _ rfl
  rw [Nat.add_zero] at c1'
  obtain rfl : ba = some ⟨g, o, none⟩ := eg
  have hgq : q ≤ g := (e7 g o rfl).1
  have HE1 := Lib.hid e8
  have HFU := Lib.hid (fun st h => Sl.run_fuel gs b1 st h)
  have hE : Sm.run gs (.whl ex b1) st = whR gs ex (fun s => Sl.run gs b1 s) (st.f.toNat + 1) st := by rw [Sm.run]
  rw [hE]; clear hE e3 e4 e6 e7 e8 hbd hw
  have hfn := hX.f0
  generalize hfin : whR gs ex (fun s => Sl.run gs b1 s) (st.f.toNat + 1) st = fin
  have HFIN := Lib.hid hfin; clear hfin hX
  have HH1 := Lib.hid h1
  have hgz : g < (w.alloc (.cells #[.string (tx h), .string (tx n), .slice sa sn sc, .slice (some ⟨g, o, none⟩) 1 bc] 115)).heap.size := by rw [World.size_alloc]; omega
  have f1 := (World.cell?_of_block (w := w) (hbl.block g hg)).trans c1'
  have hrl := Q1.out.lt
  have hrp : w.heap.size ≠ p := by have := X1.out.hp; have := hbl.size; have := X1.out.hB; intro e; have h9 := hc; omega
  have HC := Lib.hid hc
  clear hbl c1' h1
  by_cases hf : st.f = 0
  · have HX := Lib.hid (show (⟨3, st.b, st.f⟩ : St0) = fin from by rw [← HFIN.out, whR_no hf])
    clear HFIN hc
    go_enter Tryz.func113, Tryz.ntmps113
    go_wp2_with fail
    refine (burn_no X1.out hf).mono ?_; rintro e w3 ⟨rfl, rfl⟩
    exact ⟨rfl, BU1.out, (fun e => absurd (show (3 : Int) = 0 from by rw [← HX.out] at e; exact e) (by decide)), (fun _ => by rw [← HX.out])⟩
  · have HX := Lib.hid (show inR gs ex (fun s => Sl.run gs b1 s) st.f.toNat ⟨st.c, st.b, st.f - 1⟩ = fin from by rw [← HFIN.out, whR_in hf])
    clear HFIN hc
    go_enter Tryz.func113, Tryz.ntmps113
    go_wp2_with fail
    refine (burn_yes X1.out hf).mono ?_; rintro e w3 ⟨rfl, b3, x3⟩
    have R3 := Lib.hid (Q1.out.but b3 hrp)
    generalize w.heap.size = r at *
    generalize w.alloc (.cells #[.string (tx h), .string (tx n), .slice sa sn sc, .slice (some ⟨g, o, none⟩) 1 bc] 115) = w1 at *
    have B3 := Lib.hid b3
    have X3 := Lib.hid x3
    have g3 := (b3.cell (p := ⟨g, o, none⟩) hgz (by show g ≠ p; omega)).trans f1
    have r3 := Nat.lt_of_lt_of_le hrl b3.size
    have z3 := Nat.lt_of_lt_of_le hgz b3.size
    clear b3 x3
    go_wp2_with fail
    go_loopg [] st.f.toNat (fun j wr => ∃ s1 : St0, s1.c = 0 ∧ Xm w0 p ga gc gs s1 wr ∧ But p w3 wr ∧ inR gs ex (fun s => Sl.run gs b1 s) j s1 = fin ∧ s1.f < j)
    case atStart => exact ⟨⟨st.c, st.b, st.f - 1⟩, HC.out, X3.out, But.refl _ _, HX.out, by show st.f - 1 < _; omega⟩
    case round =>
      clear HX
      obtain ⟨s1, hc1, hx1, hb1, hin, hlt⟩ := hrel
      have X4 := Lib.hid hx1
      have B4 := Lib.hid hb1
      have HIN := Lib.hid hin
      have r4 := R3.out.but hb1 hrp
      have d2 := r4.c2
      have d3 := r4.c3
      have hrl4 := r4.lt
      have g4 := (hb1.cell (p := ⟨g, o, none⟩) z3 (by show g ≠ p; omega)).trans g3
      have z4 := Nat.lt_of_lt_of_le z3 hb1.size
      have HV4 := Lib.hid (HV.out wr s1 hx1)
      have HFU4 := Lib.hid (HFU.out s1 hx1.f0.1)
      have BB := Lib.hid (BU1.out.trans (B3.out.trans hb1))
      clear hx1 hb1 hin r4
      unfold inR at HIN
      generalize evE gs s1.b ex = xx at *
      obtain ⟨x, is⟩ := xx
      have HC1 := Lib.hid hc1
      clear hc1
      go_wp2_with fail
      cases is
      · refine HV4.out.mono ?_; rintro e w5 ⟨b5, -, k5⟩
        obtain rfl := k5 rfl
        have e2 : (⟨2, s1.b, s1.f⟩ : St0) = fin := HIN.out
        exact ⟨rfl, BB.out.trans (But.of b5), (fun e => absurd (show (2 : Int) = 0 from by rw [← e2] at e; exact e) (by decide)), (fun _ => by rw [← e2])⟩
      · refine HV4.out.mono ?_; rintro e w5 ⟨b5, k5, -⟩
        replace k5 := k5 rfl
        have X5 := Lib.hid (X4.out.next b5)
        have B5 := Lib.hid (B4.out.trans (But.of b5))
        by_cases hx : x = 0
        · subst hx
          obtain rfl := k5
          have e2 : s1 = fin := HIN.out
          subst e2
          clear b5
          go_wp2_with fail
          exact bodyPost_end (v := .tuple #[]) (by simp [results, Tryz.results113, go_sem]) rfl ⟨BU1.out.trans (B3.out.trans B5.out), (fun _ => ⟨rfl, X5.out⟩), fun e => absurd HC1.out e⟩
        · have t2 : (x != 0) = true := by simpa using hx
          rw [show ((x, true).1 != 0) = true from t2] at k5
          obtain rfl := k5
          have e2 : (if (Sl.run gs b1 s1).c = 0 then whR gs ex (fun s => Sl.run gs b1 s) gk (Sl.run gs b1 s1) else Sl.run gs b1 s1) = fin := by have := HIN.out; rw [if_neg (by decide), if_neg hx] at this; exact this
          have g5 := (World.cell?_of_block (w := wr) (b5.block g z4)).trans g4
          have r5 := (World.cell?_of_block (w := wr) (b5.block r hrl4)).trans d3
          have HK := Lib.hid (HH1.out D _ s1 w5 HC1.out hpq X5.out (HE1.out.but hpq (BU1.out.trans (B3.out.trans B5.out))))
          have E2 := Lib.hid e2
          clear e2 b5 g4 d2 d3
          generalize Sl.run gs b1 s1 = s3 at *
          go_wp2_with fail
          refine HK.out.mono ?_; rintro e w6 ⟨b6, h6, k6⟩
          by_cases hz : s3.c = 0
          · obtain ⟨rfl, x6⟩ := h6 hz
            have X6 := Lib.hid x6
            have B6 := Lib.hid (B5.out.trans b6)
            have HW := Lib.hid (show whR gs ex (fun s => Sl.run gs b1 s) gk s3 = fin from by have := E2.out; rw [if_pos hz] at this; exact this)
            have hfu : s3.f ≤ s1.f := HFU4.out.2
            have hf3 := x6.f0
            obtain ⟨j, rfl⟩ : ∃ j', gk = j' + 1 := ⟨gk - 1, by omega⟩
            clear b6 h6 k6 x6 HIN
            by_cases hf6 : s3.f = 0
            · have HY := Lib.hid (show (⟨3, s3.b, s3.f⟩ : St0) = fin from by rw [← HW.out, whR_no hf6])
              go_wp2_with fail
              refine (burn_no X6.out hf6).mono ?_; rintro e w7 ⟨rfl, rfl⟩
              exact ⟨rfl, BU1.out.trans (B3.out.trans B6.out), (fun e => absurd (show (3 : Int) = 0 from by rw [← HY.out] at e; exact e) (by decide)), (fun _ => by rw [← HY.out])⟩
            · have HY := Lib.hid (show inR gs ex (fun s => Sl.run gs b1 s) j ⟨s3.c, s3.b, s3.f - 1⟩ = fin from by rw [← HW.out, whR_in hf6])
              go_wp2_with fail
              refine (burn_yes X6.out hf6).mono ?_; rintro e w7 ⟨rfl, b7, x7⟩
              have X7 := Lib.hid x7
              have B7 := Lib.hid (B6.out.trans b7)
              clear b7 x7
              go_wp2_with fail
              go_roundg j
              case measure => omega
              case rel => exact ⟨⟨s3.c, s3.b, s3.f - 1⟩, hz, X7.out, B7.out, HY.out, by show s3.f - 1 < _; omega⟩
          · obtain rfl := k6 hz
            have e3 : s3 = fin := by have := E2.out; rw [if_neg hz] at this; exact this
            subst e3
            exact ⟨rfl, BU1.out.trans (B3.out.trans (B5.out.trans b6)), (fun e => absurd e hz), fun _ => rfl⟩
set_option maxHeartbeats 8000000 in
set_option maxRecDepth 100000 in
theorem deedX_if (w0 : World) (p : Nat) (ga : Option Addr) (gc : Nat) (gs : List Int) (q : Nat) (ex : List Tk) (b1 b2 : Sl) (hw : eK 2 ex) (hbd : Bd ex) (h1 : DeedsX w0 p ga gc gs q b1) (h2 : DeedsX w0 p ga gc gs q b2) : DeedX w0 p ga gc gs q (.ifs ex b1 b2) := by
  intro D d st w hc hpq hX hD
  obtain ⟨h, n, sa, sn, sc, ba, bn, bc⟩ := d
  obtain rfl : h = ifT := hD.1
  have hbl := bel1 w (.cells #[.string (tx ifT), .string (tx n), .slice sa sn sc, .slice ba bn bc] 115)
  have BU1 := Lib.hid (But.of hbl : But p w _)
  have Q1 := Lib.hid (B4.of (new_of w (.cells #[.string (tx ifT), .string (tx n), .slice sa sn sc, .slice ba bn bc] 115)))
  have HK := Lib.hid (choose_any w0 p ga gc gs q D st _ hc hpq (hX.next hbl) ifT n sa sn sc ba bn bc ex b1 b2 hw hbd (hD.but hpq BU1.out) h1 h2)
  clear hbl hX hD
  generalize Sm.run gs (.ifs ex b1 b2) st = fin at *
  unfold Dv.v
  have qe : ((tx ifT).toList == [105, 102]) = true := tx_eqL _
  have q0 : ((tx ifT).toList == [115, 101, 116]) = false := by rw [Lib.toList_data, tx_data]; decide
  have q1 : ((tx ifT).toList == [99, 117, 116]) = false := by rw [Lib.toList_data, tx_data]; decide
  have q2 : ((tx ifT).toList == [115, 116, 111, 112]) = false := by rw [Lib.toList_data, tx_data]; decide
  have d0 := Q1.out.c0; have d1 := Q1.out.c1; have d2 := Q1.out.c2; have d3 := Q1.out.c3
  go_enter Tryz.func97, Tryz.ntmps97
  go_wp2_with fail
  refine HK.out.mono ?_; rintro e w4 ⟨b4, h4, k4⟩
  by_cases hz : fin.c = 0
  · obtain ⟨rfl, x4⟩ := h4 hz
    have X4 := Lib.hid x4
    have B4' := Lib.hid (BU1.out.trans b4)
    clear b4 h4 k4 x4
    go_wp2_with fail
    exact bodyPost_end (v := .tuple #[]) (by simp [results, Tryz.results97, go_sem]) rfl ⟨B4'.out, (fun _ => ⟨rfl, X4.out⟩), fun e => absurd hz e⟩
  · obtain rfl := k4 hz
    exact ⟨rfl, BU1.out.trans b4, (fun e => absurd e hz), fun _ => rfl⟩
set_option maxHeartbeats 8000000 in
set_option maxRecDepth 100000 in
theorem deedX_whl (w0 : World) (p : Nat) (ga : Option Addr) (gc : Nat) (gs : List Int) (q : Nat) (ex : List Tk) (b1 : Sl) (hw : eK 2 ex) (hbd : Bd ex) (h1 : DeedsX w0 p ga gc gs q b1) : DeedX w0 p ga gc gs q (.whl ex b1) := by
  intro D d st w hc hpq hX hD
  obtain ⟨h, n, sa, sn, sc, ba, bn, bc⟩ := d
  obtain rfl : h = whT := hD.1
  have hbl := bel1 w (.cells #[.string (tx whT), .string (tx n), .slice sa sn sc, .slice ba bn bc] 115)
  have BU1 := Lib.hid (But.of hbl : But p w _)
  have Q1 := Lib.hid (B4.of (new_of w (.cells #[.string (tx whT), .string (tx n), .slice sa sn sc, .slice ba bn bc] 115)))
  have HK := Lib.hid (repeat_any w0 p ga gc gs q D st _ hc hpq (hX.next hbl) whT n sa sn sc ba bn bc ex b1 hw hbd (hD.but hpq BU1.out) h1)
  clear hbl hX hD
  generalize Sm.run gs (.whl ex b1) st = fin at *
  unfold Dv.v
  have qe : ((tx whT).toList == [119, 104, 105, 108, 101]) = true := tx_eqL _
  have q0 : ((tx whT).toList == [115, 101, 116]) = false := by rw [Lib.toList_data, tx_data]; decide
  have q1 : ((tx whT).toList == [99, 117, 116]) = false := by rw [Lib.toList_data, tx_data]; decide
  have q2 : ((tx whT).toList == [115, 116, 111, 112]) = false := by rw [Lib.toList_data, tx_data]; decide
  have q3 : ((tx whT).toList == [105, 102]) = false := by rw [Lib.toList_data, tx_data]; decide
  have d0 := Q1.out.c0; have d1 := Q1.out.c1; have d2 := Q1.out.c2; have d3 := Q1.out.c3
  go_enter Tryz.func97, Tryz.ntmps97
  go_wp2_with fail
  refine HK.out.mono ?_; rintro e w4 ⟨b4, h4, k4⟩
  by_cases hz : fin.c = 0
  · obtain ⟨rfl, x4⟩ := h4 hz
    have X4 := Lib.hid x4
    have B4' := Lib.hid (BU1.out.trans b4)
    clear b4 h4 k4 x4
    go_wp2_with fail
    exact bodyPost_end (v := .tuple #[]) (by simp [results, Tryz.results97, go_sem]) rfl ⟨B4'.out, (fun _ => ⟨rfl, X4.out⟩), fun e => absurd hz e⟩
  · obtain rfl := k4 hz
    exact ⟨rfl, BU1.out.trans b4, (fun e => absurd e hz), fun _ => rfl⟩
theorem Bd.sub {l m : List Tk} (h : Bd l) (hs : ∀ x ∈ m, x ∈ l) (hl : m.length ≤ l.length) : Bd m := ⟨Nat.le_trans hl h.1, fun s hs' => h.2 s (hs s hs')⟩
mutual
theorem Sm.runX (w0 : World) (p : Nat) (ga : Option Addr) (gc : Nat) (gs : List Int) (q : Nat) : ∀ s : Sm, s.wf 5 → Bd s.fl → DeedX w0 p ga gc gs q s
  | .set m e, h, hb => deedX_set w0 p ga gc gs q m e h (hb.sub (fun x hx => by rw [Sm.fl]; simp [hx]) (by rw [Sm.fl]; simp; omega))
  | .cut m, h, hb => deedX_cut w0 p ga gc gs q m
  | .stop, h, hb => deedX_stop w0 p ga gc gs q
  | .ifs e b1 b2, h, hb => by
    rw [Sm.wf] at h
    exact deedX_if w0 p ga gc gs q e b1 b2 h.1 (hb.sub (fun x hx => by rw [Sm.fl]; simp [hx]) (by rw [Sm.fl]; simp; omega))
      (deedsX_of w0 p ga gc gs q b1 (Sl.runX w0 p ga gc gs q b1 (Sl.wf_up b1 (by decide) h.2.1) (hb.sub (fun x hx => by rw [Sm.fl]; simp [hx]) (by rw [Sm.fl]; simp; omega))))
      (deedsX_of w0 p ga gc gs q b2 (Sl.runX w0 p ga gc gs q b2 (Sl.wf_up b2 (by decide) h.2.2) (hb.sub (fun x hx => by rw [Sm.fl]; simp [hx]) (by rw [Sm.fl]; simp; omega))))
  | .whl e b1, h, hb => by
    rw [Sm.wf] at h
    exact deedX_whl w0 p ga gc gs q e b1 h.1 (hb.sub (fun x hx => by rw [Sm.fl]; simp [hx]) (by rw [Sm.fl]; simp; omega))
      (deedsX_of w0 p ga gc gs q b1 (Sl.runX w0 p ga gc gs q b1 (Sl.wf_up b1 (by decide) h.2) (hb.sub (fun x hx => by rw [Sm.fl]; simp [hx]) (by rw [Sm.fl]; simp; omega))))
theorem Sl.runX (w0 : World) (p : Nat) (ga : Option Addr) (gc : Nat) (gs : List Int) (q : Nat) : ∀ s : Sl, s.wf 5 → Bd s.fl → s.each (DeedX w0 p ga gc gs q)
  | .nil, h, hb => by rw [Sl.each]; trivial
  | .cons s r, h, hb => by
    rw [Sl.wf] at h
    rw [Sl.each]
    exact ⟨Sm.runX w0 p ga gc gs q s h.1 (hb.sub (fun x hx => by rw [Sl.fl]; simp [hx]) (by rw [Sl.fl]; simp)), Sl.runX w0 p ga gc gs q r h.2 (hb.sub (fun x hx => by rw [Sl.fl]; simp [hx]) (by rw [Sl.fl]; simp))⟩
end
end Go.Proofs.YtfnnoehpahdgcaaGreatDoor.Cl
namespace Go.Proofs.YtfnnoehpahdgcaaGreatDoor.Cl.T
set_option linter.unusedVariables false
open Go.RowKit Wd Rp Kp
theorem ddE_G (l : List Tk) : ∀ d : Nat, ∃ B R, ddE l d = ddG l B ∧ ddR l d = ddQ l B R
  | 0 => ⟨_, _, rfl, rfl⟩
  | d + 1 => ⟨_, _, rfl, rfl⟩
theorem blk_of {l : List Tk} {f : Int → Int} {R : Int → Sm} (hA : ∀ i, Ahd l i (f i)) {a : List Tk} {rd : Sl} {k : Nat} {r : List Tk} (hd : l.drop k = [91] :: (a ++ ([93] :: r)))
    (h : ∀ n, a.length < n → dlE l f n ((k + 1 : Nat) : Int) = ((k + 1 + a.length : Nat) : Int) ∧ dlR l f R n ((k + 1 : Nat) : Int) = rd) : blS l f (k : Int) = ((k + a.length + 2 : Nat) : Int) ∧ blR l f R (k : Int) = rd := by
  obtain ⟨h1, h2, h3⟩ := drop_head hd
  have hlen := congrArg List.length h3
  rw [List.length_drop, List.length_append, List.length_cons] at hlen
  obtain ⟨e1, e2⟩ := h (l.length + 1) (by omega)
  constructor
  · unfold blS
    rw [if_pos (tkA_of hd), show (k : Int) + 1 = ((k + 1 : Nat) : Int) by omega, ble_dl hA _ _ (by omega), e1, if_pos (tkA_of (drop_more h3))]
    omega
  · unfold blR
    rw [show (k : Int) + 1 = ((k + 1 : Nat) : Int) by omega]
    exact e2
mutual
theorem Sm.det (l : List Tk) : ∀ (s : Sm) (d k : Nat) (r : List Tk), s.wf d → l.drop k = s.fl ++ r → ddE l d (k : Int) = ((k + s.fl.length : Nat) : Int) ∧ ddR l d (k : Int) = s
  | .set n e, d, k, r, hw, hd => by
    rw [Sm.wf] at hw
    obtain ⟨B, R, hB, hR⟩ := ddE_G l d
    rw [hB, hR]
    have hd1 : l.drop k = setT :: (n :: (e ++ r)) := by rw [hd]; rfl
    have hd2 := (drop_head hd1).2.2
    have hd3 := (drop_head hd2).2.2
    obtain ⟨h1, h2⟩ := sm_det hw.2 hd3
    rw [ddG_some (tkA_of hd1), ddQ_some (tkA_of hd1)]
    simp only [if_true, eq_self]
    rw [show (k : Int) + 1 = ((k + 1 : Nat) : Int) by omega, show (k : Int) + 2 = ((k + 1 + 1 : Nat) : Int) by omega, if_pos (nmA_of hd2 hw.1), h1, h2]
    refine ⟨by rw [Sm.fl]; simp only [List.length_cons]; omega, ?_⟩
    unfold tkN
    rw [tkA_of hd2]; rfl
  | .cut n, d, k, r, hw, hd => by
    rw [Sm.wf] at hw
    obtain ⟨B, R, hB, hR⟩ := ddE_G l d
    rw [hB, hR]
    have hd1 : l.drop k = cutT :: (n :: r) := by rw [hd]; rfl
    have hd2 := (drop_head hd1).2.2
    rw [ddG_some (tkA_of hd1), ddQ_some (tkA_of hd1)]
    simp only [cutT_setT, if_false, if_true, eq_self]
    rw [show (k : Int) + 1 = ((k + 1 : Nat) : Int) by omega, if_pos (nmA_of hd2 hw)]
    refine ⟨by rw [Sm.fl]; simp only [List.length_cons, List.length_nil]; omega, ?_⟩
    unfold tkN
    rw [tkA_of hd2]; rfl
  | .stop, d, k, r, hw, hd => by
    obtain ⟨B, R, hB, hR⟩ := ddE_G l d
    rw [hB, hR]
    have hd1 : l.drop k = stopT :: r := by rw [hd]; rfl
    rw [ddG_some (tkA_of hd1), ddQ_some (tkA_of hd1)]
    simp only [stopT_setT, stopT_cutT, if_false, if_true, eq_self]
    exact ⟨by rw [Sm.fl]; simp only [List.length_cons, List.length_nil]; omega, by first | exact trivial | rfl⟩
  | .ifs e a b, 0, k, r, hw, hd => by rw [Sm.wf] at hw; exact hw.elim
  | .ifs e a b, d + 1, k, r, hw, hd => by
    rw [Sm.wf] at hw
    have hd1 : l.drop k = ifT :: (e ++ ([91] :: (a.fl ++ ([93] :: ([91] :: (b.fl ++ ([93] :: r))))))) := by rw [hd]; simp [Sm.fl]
    have hd2 := (drop_head hd1).2.2
    obtain ⟨h1, h2⟩ := sm_det hw.1 hd2
    have hd3 := drop_more hd2
    obtain ⟨h3, h4⟩ := blk_of (ddE_ahd l d) (R := ddR l d) (rd := a) hd3 (fun n hn => Sl.det l a d _ _ n hw.2.1 (drop_head hd3).2.2 (Or.inr ⟨_, rfl⟩) hn)
    have hd4 : l.drop (k + 1 + e.length + a.fl.length + 2) = [91] :: (b.fl ++ ([93] :: r)) := by
      have := (drop_head (drop_more (drop_head hd3).2.2)).2.2
      rw [show k + 1 + e.length + a.fl.length + 2 = k + 1 + e.length + 1 + a.fl.length + 1 by omega]; exact this
    obtain ⟨h5, h6⟩ := blk_of (ddE_ahd l d) (R := ddR l d) (rd := b) hd4 (fun n hn => Sl.det l b d _ _ n hw.2.2 (drop_head hd4).2.2 (Or.inr ⟨_, rfl⟩) hn)
    have hE : ddE l (d + 1) (k : Int) = ddG l (blS l (ddE l d)) (k : Int) := rfl
    have hR : ddR l (d + 1) (k : Int) = ddQ l (blS l (ddE l d)) (blR l (ddE l d) (ddR l d)) (k : Int) := rfl
    rw [hE, hR, ddG_some (tkA_of hd1), ddQ_some (tkA_of hd1)]
    simp only [ifT_setT, ifT_cutT, ifT_stopT, if_false, if_true, eq_self]
    rw [show (k : Int) + 1 = ((k + 1 : Nat) : Int) by omega, h1, h2, h3, h4, h5, h6]
    refine ⟨by rw [Sm.fl]; simp only [List.length_cons, List.length_nil, List.length_append]; omega, ?_⟩
    rfl
  | .whl e a, 0, k, r, hw, hd => by rw [Sm.wf] at hw; exact hw.elim
  | .whl e a, d + 1, k, r, hw, hd => by
    rw [Sm.wf] at hw
    have hd1 : l.drop k = whT :: (e ++ ([91] :: (a.fl ++ ([93] :: r)))) := by rw [hd]; simp [Sm.fl]
    have hd2 := (drop_head hd1).2.2
    obtain ⟨h1, h2⟩ := sm_det hw.1 hd2
    have hd3 := drop_more hd2
    obtain ⟨h3, h4⟩ := blk_of (ddE_ahd l d) (R := ddR l d) (rd := a) hd3 (fun n hn => Sl.det l a d _ _ n hw.2 (drop_head hd3).2.2 (Or.inr ⟨_, rfl⟩) hn)
    have hE : ddE l (d + 1) (k : Int) = ddG l (blS l (ddE l d)) (k : Int) := rfl
    have hR : ddR l (d + 1) (k : Int) = ddQ l (blS l (ddE l d)) (blR l (ddE l d) (ddR l d)) (k : Int) := rfl
    rw [hE, hR, ddG_some (tkA_of hd1), ddQ_some (tkA_of hd1)]
    simp only [whT_setT, whT_cutT, whT_stopT, whT_ifT, if_false, if_true, eq_self]
    rw [show (k : Int) + 1 = ((k + 1 : Nat) : Int) by omega, h1, h2, h3, h4]
    refine ⟨by rw [Sm.fl]; simp only [List.length_cons, List.length_nil, List.length_append]; omega, ?_⟩
    rfl
theorem Sl.det (l : List Tk) : ∀ (a : Sl) (d k : Nat) (r : List Tk) (n : Nat), a.wf d → l.drop k = a.fl ++ r → (r = [] ∨ ∃ q, r = [93] :: q) → a.fl.length < n → dlE l (ddE l d) n (k : Int) = ((k + a.fl.length : Nat) : Int) ∧ dlR l (ddE l d) (ddR l d) n (k : Int) = a
  | .nil, d, k, r, 0, hw, hd, hr, hn => by omega
  | .nil, d, k, r, n + 1, hw, hd, hr, hn => by
    have hd : l.drop k = r := hd
    have e0 : ((k + (Sl.fl .nil).length : Nat) : Int) = (k : Int) := by rw [Sl.fl]; simp
    rw [e0]
    rcases hr with rfl | ⟨q, rfl⟩
    · have hk : l.length ≤ k := List.drop_eq_nil_iff.1 hd
      rw [dlE, dlR, tkA_out (by omega)]
      exact ⟨rfl, rfl⟩
    · rw [dlE, dlR, tkA_of hd]
      exact ⟨if_pos rfl, if_pos rfl⟩
  | .cons s t, d, k, r, 0, hw, hd, hr, hn => by omega
  | .cons s t, d, k, r, n + 1, hw, hd, hr, hn => by
    rw [Sl.wf] at hw
    rw [Sl.fl, List.length_append] at hn
    have hd1 : l.drop k = s.fl ++ (t.fl ++ r) := by rw [hd, Sl.fl, List.append_assoc]
    obtain ⟨h1, h2⟩ := Sm.det l s d k _ hw.1 hd1
    obtain ⟨c, q, hq, hc⟩ := s.head
    have hp := s.pos
    obtain ⟨h3, h4⟩ := Sl.det l t d (k + s.fl.length) r n hw.2 (drop_more hd1) hr (by omega)
    have ht : tkA l (k : Int) = some c := tkA_of (by rw [hd1, hq]; rfl)
    rw [dlE, dlR, ht]
    dsimp only
    rw [if_neg hc, if_neg hc, h1, h2, h3, h4, Sl.fl, List.length_append]
    exact ⟨by omega, rfl⟩
end
theorem rc_det {t : Sl} (hw : t.wf 5) : rcR t.fl = t :=
  (Sl.det t.fl t 5 0 [] (t.fl.length + 1) hw (by simp) (Or.inl rfl) (by omega)).2
end Go.Proofs.YtfnnoehpahdgcaaGreatDoor.Cl.T
namespace Go.Proofs.YtfnnoehpahdgcaaGreatDoor.Cl
set_option linter.unusedVariables false
open Go.RowKit Wd Rp Kp
structure Rcx (w0 : World) (a : Option Addr) (n cap : Nat) (l : List Tk) (ga : Option Addr) (gc : Nat) (gs : List Int) : Prop where
  hn : l.length = n
  hl : n ≤ 4194304
  hm : ∀ s ∈ l, s.length ≤ 4194304
  hv : V1 w0 a cap (txL l)
  hg : V1 w0 ga gc (inL gs)
  hg3 : gs.length = 3
theorem st7_len {l : List Bi} {n : ByteArray} {x : Int} (h : l.length ≤ 12) : (st7 l n x).1.length ≤ 12 := by
  have h2 := stI_len l n x
  unfold st7
  by_cases ha : isAt n l = true
  · rw [if_pos ha]
    rw [if_pos ha] at h2
    show (stI l n x).length ≤ 12
    omega
  · rw [if_neg ha]
    rw [if_neg ha] at h2
    split
    · exact h
    · show (stI l n x).length ≤ 12
      omega
theorem ctI_le {l : List Bi} {n : ByteArray} (h : l.length ≤ 12) : (ctI l n).length ≤ 12 := by have := ctI_len l n; split at this <;> omega
set_option maxHeartbeats 4000000 in
set_option maxRecDepth 100000 in
theorem deed_stop (w0 : World) (p : Nat) (a : Option Addr) (cap : Nat) (l : List Tk) (n : Nat) (ga : Option Addr) (gc : Nat) (gs : List Int) (C : Rcx w0 a n cap l ga gc gs) : DeedR w0 p a n cap l ga gc gs .stop := by
  intro k r st w hd hc hR
  have hw : Sm.wf 5 .stop := by rw [Sm.wf]; trivial
  have HB := Lib.hid (deedS_all a cap l n C.hn C.hl C.hm 5 (by decide) w (k : Int) ⟨by omega, by have h1 := (drop_head (show l.drop k = stopT :: r from hd)).2.1; have := C.hn; have := C.hl; omega⟩ (C.hv.below hR.bw))
  rw [(Sm.det l .stop 5 k r hw hd).1] at HB
  obtain ⟨hk1, hk2, hd1⟩ := drop_head (show l.drop k = stopT :: r from hd)
  have hkn : k < n := by have := C.hn; omega
  have hE : Sm.run gs .stop st = ⟨1, st.b, st.f⟩ := by rw [Sm.run]
  rw [hE]; clear hE
  generalize ((k + (Sm.fl .stop).length : Nat) : Int) = y at *
  have HR := Lib.hid hR; clear hR
  have HV := Lib.hid (C.hv.below HR.out.bw)
  clear hd hd1
  go_enter Tryz.func83, Tryz.ntmps83
  go_wp2_with fail
  refine HB.out.mono ?_; rintro e w1 ⟨rfl, b1⟩
  have HR1 := Lib.hid (HR.out.next b1)
  obtain ⟨g', o', rfl, hg, c0⟩ := (HV.out.below b1).tx hk1
  replace c0 : w1.cell? ⟨g', o' + k, none⟩ = some (.string ⟨#[115, 116, 111, 112]⟩) := c0
  have f1 := HR1.out.fz.1
  have c1 := HR1.out.c
  clear b1 hg hk1
  go_wp2_with fail
  go_ret
  exact ⟨rfl, HR1.out.putC 1⟩
set_option maxHeartbeats 4000000 in
set_option maxRecDepth 100000 in
theorem deed_cut (w0 : World) (p : Nat) (a : Option Addr) (cap : Nat) (l : List Tk) (n : Nat) (ga : Option Addr) (gc : Nat) (gs : List Int) (C : Rcx w0 a n cap l ga gc gs) (m : Tk) (hm : nmB m = true) : DeedR w0 p a n cap l ga gc gs (.cut m) := by
  intro k r st w hd hc hR
  have hw : Sm.wf 5 (.cut m) := by rw [Sm.wf]; exact hm
  have hd0 : l.drop k = cutT :: (m :: r) := by rw [hd]; rfl
  obtain ⟨hk1, hk2, hd1⟩ := drop_head hd0
  obtain ⟨hk3, hk4, -⟩ := drop_head hd1
  have hkn : k + 1 < n := by have := C.hn; omega
  have HB := Lib.hid (deedS_all a cap l n C.hn C.hl C.hm 5 (by decide) w (k : Int) ⟨by omega, by have := C.hl; omega⟩ (C.hv.below hR.bw))
  rw [(Sm.det l (.cut m) 5 k r hw hd).1] at HB
  have hE : Sm.run gs (.cut m) st = ⟨st.c, ctI st.b (tx m), st.f⟩ := by rw [Sm.run]
  rw [hE]; clear hE
  generalize ((k + (Sm.fl (.cut m)).length : Nat) : Int) = y at *
  have HR := Lib.hid hR; clear hR
  have HV := Lib.hid (C.hv.below HR.out.bw)
  have hl4 := C.hl
  clear hd hd0 hd1
  go_enter Tryz.func83, Tryz.ntmps83
  go_wp2_with fail
  refine HB.out.mono ?_; rintro e w1 ⟨rfl, b1⟩
  have HR1 := Lib.hid (HR.out.next b1)
  have HV1 := Lib.hid (HV.out.below b1); clear b1
  obtain ⟨g', o', rfl, hg, c0⟩ := HV1.out.tx hk1
  obtain ⟨g2, o2, e2, hg2, c2⟩ := HV1.out.tx hk3
  cases e2
  replace c0 : w1.cell? ⟨g', o' + k, none⟩ = some (.string ⟨#[99, 117, 116]⟩) := c0
  have TOK := Lib.hid (show ∀ z, Below w0.heap.size w0 z → z.cell? ⟨g', o' + (k + 1), none⟩ = some (.string (tx m)) from fun z hz => by
    obtain ⟨g4, o4, e4, -, c4⟩ := (C.hv.below hz).tx hk3
    cases e4; exact c4)
  obtain ⟨v, cv, hO, hne⟩ := HR1.out.b
  have HR2 := Lib.hid (HR1.out.next (Below.refl _ _).drew)
  have O2 := Lib.hid (hO.next (Below.refl _ _).drew)
  have HL := Lib.hid (l7Cut_own w1.drew v st.b (tx m) O2.out HR2.out.bw.size (by have := HR2.out.bl; omega))
  have NE := Lib.hid hne
  have CV := Lib.hid (show w1.drew.cell? ⟨p, 1, none⟩ = some v from cv)
  have i1 : (k : Int) + 1 ≤ 9223372036854775807 := by omega
  have i7 : IntKind.i64.wrap ((k : Int) + 1) = ((k + 1 : Nat) : Int) := by rw [IntKind.wrap_i64]; omega
  have i8 : (0 : Int) ≤ (k : Int) + 1 := by omega
  have i9 : (k : Int) + 1 < (n : Int) := by omega
  clear hO hne hk1 hk3 hg hg2
  go_wp2_with fail
  refine wp_region_held_drew (S := fun z => z.cell? ⟨g', o' + (k + 1), none⟩ = some (.string (tx m)) ∧ Below w0.heap.size w0 z) (by kernel_rfl) ⟨TOK.out _ HR2.out.bw, HR2.out.bw⟩ (fun hHeld => ?_)
  refine tkI (i := 0) (v := ?v0c) rfl (Or.inl ⟨by rfl, ?hy0c⟩) ?rest0c
  case hy0c => (intro zz hSw; (try dsimp only at hSw); go_simp; (try with_reducible rfl))
  change wpAnyH _ _ _ _ _ _ _ (Act.put _ (some 66) _) _
  simp only [Act.put, List.setIfInBounds_toArray, List.set_cons_zero, List.set_cons_succ]
  refine tkI (i := 1) (v := ?v1c) rfl (Or.inl ⟨by rfl, ?hy1c⟩) ?rest1c
  case hy1c => (intro zz hSw; (try dsimp only at hSw); go_simp; (try with_reducible rfl))
  change wpAnyH _ _ _ _ _ _ _ (Act.put _ (some 67) _) _
  simp only [Act.put, List.setIfInBounds_toArray, List.set_cons_zero, List.set_cons_succ]
  refine tkI (i := 2) (v := ?v2c) rfl (Or.inl ⟨by rfl, ?hy2c⟩) ?rest2c
  case hy2c => (intro zz hSw; (try dsimp only at hSw); go_simp; (try with_reducible rfl))
  change wpAnyH _ _ _ _ _ _ _ (Act.put _ (some 68) _) _
  simp only [Act.put, List.setIfInBounds_toArray, List.set_cons_zero, List.set_cons_succ]
  refine tkI (i := 3) (v := ?v3c) rfl (Or.inl ⟨by rfl, ?hy3c⟩) ?rest3c
  case hy3c => (intro zz hSw; (try dsimp only at hSw); go_simp; (try with_reducible rfl))
  change wpAnyH _ _ _ _ _ _ _ (Act.put _ (some 69) _) _
  simp only [Act.put, List.setIfInBounds_toArray, List.set_cons_zero, List.set_cons_succ]
  refine tkI (i := 5) (v := ?v5c) rfl (Or.inl ⟨by rfl, ?hy5c⟩) ?rest5c
  case hy5c => (intro zz hSw; (try dsimp only at hSw); go_simp; (try with_reducible rfl))
  change wpAnyH _ _ _ _ _ _ _ (Act.put _ (some 71) _) _
  simp only [Act.put, List.setIfInBounds_toArray, List.set_cons_zero, List.set_cons_succ]
  refine tkI (i := 6) (v := ?v6c) rfl (Or.inl ⟨by rfl, ?hy6c⟩) ?rest6c
  case hy6c => (intro zz hSw; (try dsimp only at hSw); go_simp; (try with_reducible rfl))
  change wpAnyH _ _ _ _ _ _ _ (Act.put _ (some 72) _) _
  simp only [Act.put, List.setIfInBounds_toArray, List.set_cons_zero, List.set_cons_succ]
  refine tkI (i := 7) (v := ?v7c) rfl (Or.inl ⟨by rfl, ?hy7c⟩) ?rest7c
  case hy7c => (intro zz hSw; (try dsimp only at hSw); go_simp; (try with_reducible rfl))
  change wpAnyH _ _ _ _ _ _ _ (Act.put _ (some 73) _) _
  simp only [Act.put, List.setIfInBounds_toArray, List.set_cons_zero, List.set_cons_succ]
  refine tkI (i := 8) (v := ?v8c) rfl (Or.inl ⟨by rfl, ?hy8c⟩) ?rest8c
  case hy8c => (intro zz hSw; (try dsimp only at hSw); go_simp; (try with_reducible rfl))
  change wpAnyH _ _ _ _ _ _ _ (Act.put _ (some 74) _) _
  simp only [Act.put, List.setIfInBounds_toArray, List.set_cons_zero, List.set_cons_succ]
  refine tkI (i := 9) (v := ?v9c) rfl (Or.inl ⟨by rfl, ?hy9c⟩) ?rest9c
  case hy9c => (intro zz hSw; (try dsimp only at hSw); go_simp; (try with_reducible rfl))
  change wpAnyH _ _ _ _ _ _ _ (Act.put _ (some 75) _) _
  simp only [Act.put, List.setIfInBounds_toArray, List.set_cons_zero, List.set_cons_succ]
  refine wpAnyH_ready (rs := [4]) (by kernel_rfl) (by simp) (AllReadyH.cons rfl (fun K hK => ?_) (AllReadyH.nil))
  go_simp
  refine hK.out _ _ hHeld (fun hHeld => ?_)
  clear hK K
  refine wpAnyH_ready (rs := [10]) (by kernel_rfl) (by simp) (AllReadyH.cons rfl (fun K hK => ?_) (AllReadyH.nil))
  go_simp
  refine HL.out.mono ?_; rintro e w3 ⟨v3, rfl, o3, b3, k3⟩
  obtain ⟨va3, vc3, rfl, -⟩ := o3.view
  have HR3 := Lib.hid (HR2.out.putB CV.out k3 o3 b3 (ctI_le HR2.out.bl))
  have F3 := Lib.hid (show w3.frozen? ⟨p, 1, none⟩ = false by have := HR3.out.fz.2.1; simpa only [World.frozen?_setCell] using this)
  have C3 := Lib.hid ((World.cell?_of_block (w := w1.drew) (a := ⟨p, 1, none⟩) (k3.blk p HR2.out.hp NE.out)).trans CV.out)
  have P3 := Lib.hid (Nat.lt_of_lt_of_le HR2.out.hp k3.size)
  refine hK.out _ _ ⟨TOK.out _ (hHeld.2.trans b3), hHeld.2.trans b3⟩ (fun hHeld => ?_)
  clear hK K o3 b3 k3
  have f3 := F3.out
  have p3 := P3.out
  have c3 := C3.out
  refine tkI (i := 11) (v := ?v11c) rfl (Or.inl ⟨by rfl, ?hy11c⟩) ?rest11c
  case hy11c => (intro zz hSw; (try dsimp only at hSw); go_simp; (try with_reducible rfl))
  change wpAnyH _ _ _ _ _ _ _ (Act.put _ (some 77) _) _
  simp only [Act.put, List.setIfInBounds_toArray, List.set_cons_zero, List.set_cons_succ]
  refine tkI (i := 12) (v := ?v12c) rfl (Or.inl ⟨by rfl, ?hy12c⟩) ?rest12c
  case hy12c => (intro zz hSw; (try dsimp only at hSw); go_simp; (try with_reducible rfl))
  change wpAnyH _ _ _ _ _ _ _ (Act.put _ (some 78) _) _
  simp only [Act.put, List.setIfInBounds_toArray, List.set_cons_zero, List.set_cons_succ]
  refine wpAnyH_ready (rs := [13]) (by kernel_rfl) (by simp) (AllReadyH.cons rfl (fun K hK => ?_) (AllReadyH.nil))
  go_simp
  refine hK.out _ _ ⟨TOK.out _ HR3.out.bw, HR3.out.bw⟩ (fun hHeld => ?_)
  clear hK K
  refine wpAnyH_done (by kernel_rfl) ?_ _
  go_wp2_with fail
  go_ret
  exact ⟨rfl, HR3.out⟩
end Go.Proofs.YtfnnoehpahdgcaaGreatDoor.Cl
