/-
  The program's run of a recipe: its state in a block ('Xm'); contracts of require, fuelOk, value, holds, burn, set.
-/
import Derived.Test.YtfnnoehpahdgcaaGreatDoorZt
import Derived.Test.YtfnnoehpahdgcaaGreatDoorYn
import Derived.Test.YtfnnoehpahdgcaaGreatDoorJd
import Derived.Test.YtfnnoehpahdgcaaGreatDoorMj
namespace Go.Proofs.YtfnnoehpahdgcaaGreatDoor.Cl
open Go.RowKit Wd Rp Cu Kp
set_option linter.unusedVariables false
/-- An ending that is thrown. -/
def endg (c : Int) : PanicEntry := { v := .iface 89 (.int .i64 c), recovered := false }
/-- Bins that read so, in no cell of block p. -/
def VwX (p : Nat) (w : World) (a : Option Addr) (cap : Nat) (l : List Bi) : Prop := VwI w a cap l ∧ ∀ (k : Nat) (c : Bi), l[k]? = some c → ∀ g o, a = some ⟨g, o, none⟩ → g ≠ p
theorem VwX.but {p : Nat} {w w' : World} {a : Option Addr} {cap : Nat} {l : List Bi} (h : VwX p w a cap l) (hb : But p w w') : VwX p w' a cap l := by
  obtain ⟨⟨h1, h2, h3, h4⟩, h5⟩ := h
  refine ⟨⟨h1, h2, h3, fun k c hk => ?_⟩, h5⟩
  obtain ⟨g, o, e, hg, hat⟩ := h4 k c hk
  exact ⟨g, o, e, Nat.lt_of_lt_of_le hg hb.size, hat.same (hb.block g hg (h5 k c hk g o e))⟩
/-- The program's run in block p, in a world that only adds to w0. -/
structure Xm (w0 : World) (p : Nat) (ga : Option Addr) (gc : Nat) (gs : List Int) (st : St0) (w : World) : Prop where
  hB : w0.heap.size ≤ p
  hp : p < w.heap.size
  fz : w.frozen? ⟨p, 0, none⟩ = false ∧ w.frozen? ⟨p, 1, none⟩ = false ∧ w.frozen? ⟨p, 2, none⟩ = false
  b : ∃ a n c, w.cell? ⟨p, 0, none⟩ = some (.slice a n c) ∧ st.b.length = n ∧ VwX p w a c st.b
  g : w.cell? ⟨p, 1, none⟩ = some (.slice ga (3 : Nat) gc)
  f : w.cell? ⟨p, 2, none⟩ = some (.int .i64 st.f)
  bw : Below w0.heap.size w0 w
  hg : V1 w0 ga gc (inL gs)
  g3 : gs.length = 3
  L : Lib3 w0
  ok : okI st.b = true
  th : thB gs = true
  f0 : 0 ≤ st.f ∧ st.f ≤ 400
theorem ofst' {p i j : Nat} (h : i ≠ j) : (⟨p, i, none⟩ : Addr) ≠ ⟨p, j, none⟩ := fun e => h (congrArg Addr.off e)
theorem Xm.len {w0 w : World} {p : Nat} {ga : Option Addr} {gc : Nat} {gs : List Int} {st : St0} (h : Xm w0 p ga gc gs st w) : st.b.length ≤ 12 := (okI_iff.1 h.ok).1
theorem Xm.next {w0 w w' : World} {p : Nat} {ga : Option Addr} {gc : Nat} {gs : List Int} {st : St0} (h : Xm w0 p ga gc gs st w) (hb : Below w.heap.size w w') : Xm w0 p ga gc gs st w' := by
  have e := hb.block p h.hp
  obtain ⟨a, n, c, h1, h2, h3⟩ := h.b
  exact ⟨h.hB, Nat.lt_of_lt_of_le h.hp hb.size, ⟨(World.frozen?_of_block (w := w) e).trans h.fz.1, (World.frozen?_of_block (w := w) e).trans h.fz.2.1, (World.frozen?_of_block (w := w) e).trans h.fz.2.2⟩,
    ⟨a, n, c, (World.cell?_of_block (w := w) e).trans h1, h2, h3.1.below hb, h3.2⟩, (World.cell?_of_block (w := w) e).trans h.g, (World.cell?_of_block (w := w) e).trans h.f, bel_tr h.bw hb (Nat.le_refl _), h.hg, h.g3, h.L, h.ok, h.th, h.f0⟩
theorem Xm.code {w0 w : World} {p : Nat} {ga : Option Addr} {gc : Nat} {gs : List Int} {st : St0} (h : Xm w0 p ga gc gs st w) (x : Int) : Xm w0 p ga gc gs ⟨x, st.b, st.f⟩ w :=
  ⟨h.hB, h.hp, h.fz, h.b, h.g, h.f, h.bw, h.hg, h.g3, h.L, h.ok, h.th, h.f0⟩
theorem Xm.putF {w0 w : World} {p : Nat} {ga : Option Addr} {gc : Nat} {gs : List Int} {st : St0} (h : Xm w0 p ga gc gs st w) (x : Int) (hx : 0 ≤ x ∧ x ≤ 400) : Xm w0 p ga gc gs ⟨st.c, st.b, x⟩ (w.setCell ⟨p, 2, none⟩ (.int .i64 x)) := by
  obtain ⟨a, n, c, h1, h2, h3⟩ := h.b
  exact ⟨h.hB, by rw [World.size_setCell]; exact h.hp, by simp only [World.frozen?_setCell]; exact h.fz,
    ⟨a, n, c, (World.cell?_setCell_other _ _ _ _ (ofst' (by decide))).trans h1, h2, h3.but (but_set w p 2 _)⟩, (World.cell?_setCell_other _ _ _ _ (ofst' (by decide))).trans h.g, World.cell?_setCell_same' _ _ _ (by rw [h.f]; rfl),
    h.bw.setCell (p := ⟨p, 2, none⟩) h.hB _, h.hg, h.g3, h.L, h.ok, h.th, hx⟩
/-- Other bins, of a call's own. -/
theorem Xm.putB {w0 w w' : World} {p : Nat} {ga : Option Addr} {gc : Nat} {gs : List Int} {st : St0} {a : Option Addr} {n c : Nat} {l : List Bi} (h : Xm w0 p ga gc gs st w) (hb : Below w.heap.size w w') (hn : l.length = n) (ho : OwI w.heap.size w' (.slice a n c) l) (hok : okI l = true) :
    Xm w0 p ga gc gs ⟨st.c, l, st.f⟩ (w'.setCell ⟨p, 0, none⟩ (.slice a n c)) := by
  have h' := h.next hb
  obtain ⟨a0, n0, c0, h1, h2, h3⟩ := h'.b
  have hv : VwX p w' a c l := ⟨ho.vw, fun k d hk g o e => by
    have := OwI.lt ho g (by rw [e]; obtain ⟨g', o', e', -, -⟩ := ho.vw.2.2.2 k d hk; rw [e] at e'; rcases ho.2 with ⟨e2, -⟩ | ⟨g2, c2, cur, e2, -⟩ <;> cases e2 <;> (try cases e); rfl)
    have := h.hp
    omega⟩
  exact ⟨h.hB, by rw [World.size_setCell]; exact h'.hp, by simp only [World.frozen?_setCell]; exact h'.fz,
    ⟨a, n, c, World.cell?_setCell_same' _ _ _ (by rw [h1]; rfl), hn, hv.but (but_set w' p 0 _)⟩, (World.cell?_setCell_other _ _ _ _ (ofst' (by decide))).trans h'.g, (World.cell?_setCell_other _ _ _ _ (ofst' (by decide))).trans h'.f,
    h'.bw.setCell (p := ⟨p, 0, none⟩) h.hB _, h.hg, h.g3, h.L, hok, h.th, h.f0⟩
/-- What a call that runs leaves: the state, or it throws. -/
def RunX (w0 : World) (p : Nat) (ga : Option Addr) (gc : Nat) (gs : List Int) (r : St0) (w : World) (e : Ending) (w' : World) : Prop :=
  But p w w' ∧ (r.c = 0 → e = .returned (.tuple #[]) ∧ Xm w0 p ga gc gs r w') ∧ (r.c ≠ 0 → e = .panicked [endg r.c])
theorem req_yes (w : World) (c : Int) : Calls Tryz.prog 75 #[.bool true, .int .i64 c] w fun e w' => e = .returned (.tuple #[]) ∧ w = w' := by
  go_enter Tryz.func75, Tryz.ntmps75
  go_wp2_with fail
  exact bodyPost_end (v := .tuple #[]) (by simp [results, Tryz.results75, go_sem]) rfl ⟨rfl, rfl⟩
theorem req_no (w : World) (c : Int) : Calls Tryz.prog 75 #[.bool false, .int .i64 c] w fun e w' => e = .panicked [endg c] ∧ w = w' := by
  go_enter Tryz.func75, Tryz.ntmps75
  go_wp2_with fail
  exact ⟨rfl, rfl, rfl⟩
theorem fuelOk_any (f : Int) (w : World) : Calls Tryz.prog 78 #[.int .i64 f] w fun e w' => e = .returned (.bool (inB f 0 400)) ∧ w = w' := by
  by_cases h0 : 0 ≤ f
  · have t0 : decide (0 ≤ f) = true := by simpa using h0
    have hI : inB f 0 400 = decide (f ≤ 400) := by unfold inB; rw [t0, Bool.true_and]
    rw [hI]
    generalize hx : decide (f ≤ 400) = x
    have HX := Lib.hid hx
    clear hx hI
    go_enter Tryz.func78, Tryz.ntmps78
    have t1 := HX.out
    go_wp2_with fail
    go_ret
    exact ⟨by first | rfl | rw [t1] | simp [t1], rfl⟩
  · have t0 : decide (0 ≤ f) = false := by simpa using h0
    have hI : inB f 0 400 = false := by unfold inB; rw [t0, Bool.false_and]
    rw [hI]
    clear hI
    go_enter Tryz.func78, Tryz.ntmps78
    go_wp2_with fail
    go_ret
    exact ⟨rfl, rfl⟩
theorem sbP_st7 {l : List Bi} {n : ByteArray} {v : Int} (h : okI l = true) (h2 : (nmB n.data.toList && isW v) = true) : sbP l n v = st7 l n v := by
  have hl := (okI_iff.1 h).1
  have e := stI_len l n v
  cases hat : isAt n l with
  | true =>
    rw [hat, if_pos rfl] at e
    rw [st7_at hat, sbP_yes h h2 (by omega)]
  | false =>
    rw [hat, if_neg (by decide)] at e
    by_cases h12 : l.length = 12
    · rw [st7_full hat h12, sbP_long h (by omega)]
    · rw [st7_new hat h12, sbP_yes h h2 (by omega)]
theorem vl_ev {bs : List Bi} {gs : List Int} {kind : Int} {e : List Tk} (hk : kind ≠ 0) (h : eK kind e) (h1 : okI bs = true) (h2 : thB gs = true) : vlV e 0 bs gs = evE gs bs e := by
  obtain ⟨u, hu, rfl, h3, -⟩ := h
  have hd : u.fl.drop 0 = u.fl ++ [] := by simp
  have hk2 : kdV u.fl ((0 : Nat) : Int) ≠ 0 := by unfold kdV; rw [foV_of kdF kdG 0 hu hd, h3]; exact hk
  exact vlV_3 hk2 h1 h2
set_option maxHeartbeats 4000000 in
set_option maxRecDepth 100000 in
theorem value_any {w0 : World} {p : Nat} {ga : Option Addr} {gc : Nat} {gs : List Int} {st : St0} {w : World} (h : Xm w0 p ga gc gs st w) (sa : Option Addr) (sc : Nat) (ex : List Tk) (n : Nat) (hn : ex.length = n) (hv : V1 w0 sa sc (txL ex)) (hbd : Bd ex) {kind : Int} (hk : kind ≠ 0) (he : eK kind ex) :
    Calls Tryz.prog 110 #[.pointer (some ⟨p, 0, none⟩), .slice sa n sc] w fun e w' => Below w.heap.size w w' ∧ ((evE gs st.b ex).2 = true → e = .returned (.int .i64 (evE gs st.b ex).1)) ∧ ((evE gs st.b ex).2 = false → e = .panicked [endg 2]) := by
  obtain ⟨ba, bn, bc, c0, hbn, hbv⟩ := h.b
  have c1 := h.g
  have HS := Lib.hid (implSum_any w.drew sa sc ex n 0 (by unfold I64; omega) hn ((hv.below (show Below w0.heap.size w0 w from h.bw)).below (Below.refl _ _).drew) (by have := hbd.1; omega) hbd.2 (lib3_below h.L (h.bw.trans ((Below.refl _ w).drew.mono h.bw.size))) ba bc bn st.b hbn (hbv.1.below (Below.refl _ _).drew) (by have := h.len; omega) ga gc 3 gs h.g3 ((h.hg.below h.bw).below (Below.refl _ _).drew) (by omega))
  rw [vl_ev hk he h.ok h.th] at HS
  have hp := h.hp
  clear h hv he hbv hbd
  generalize evE gs st.b ex = xx at *
  obtain ⟨x, is⟩ := xx
  cases is
  · go_enter Tryz.func110, Tryz.ntmps110
    go_wp2_with fail
    refine wp_region_held_drew (S := fun z => z.cell? ⟨p, 0, none⟩ = some (.slice ba bn bc) ∧ z.cell? ⟨p, 1, none⟩ = some (.slice ga (3 : Nat) gc)) (by kernel_rfl) ⟨c0, c1⟩ (fun hHeld => ?_)
    refine wpAnyH_take (i := 0) (v := ?v0v) rfl (by kernel_rfl) (by kernel_rfl) (by kernel_rfl) (fun _ _ _ h => h) (Or.inl ⟨by rfl, ?hy0v⟩) (by assumption) ?rest0v
    case hy0v => (intro zz hSw; (try dsimp only at hSw); go_simp; (try with_reducible rfl))
    change wpAnyH _ _ _ _ _ _ _ (Act.put _ (some 8) _) _
    simp only [Act.put, List.setIfInBounds_toArray, List.set_cons_zero, List.set_cons_succ]
    refine wpAnyH_take (i := 1) (v := ?v1v) rfl (by kernel_rfl) (by kernel_rfl) (by kernel_rfl) (fun _ _ _ h => h) (Or.inl ⟨by rfl, ?hy1v⟩) (by assumption) ?rest1v
    case hy1v => (intro zz hSw; (try dsimp only at hSw); go_simp; (try with_reducible rfl))
    change wpAnyH _ _ _ _ _ _ _ (Act.put _ (some 9) _) _
    simp only [Act.put, List.setIfInBounds_toArray, List.set_cons_zero, List.set_cons_succ]
    refine wpAnyH_take (i := 2) (v := ?v2v) rfl (by kernel_rfl) (by kernel_rfl) (by kernel_rfl) (fun _ _ _ h => h) (Or.inl ⟨by rfl, ?hy2v⟩) (by assumption) ?rest2v
    case hy2v => (intro zz hSw; (try dsimp only at hSw); go_simp; (try with_reducible rfl))
    change wpAnyH _ _ _ _ _ _ _ (Act.put _ (some 10) _) _
    simp only [Act.put, List.setIfInBounds_toArray, List.set_cons_zero, List.set_cons_succ]
    refine wpAnyH_take (i := 3) (v := ?v3v) rfl (by kernel_rfl) (by kernel_rfl) (by kernel_rfl) (fun _ _ _ h => h) (Or.inl ⟨by rfl, ?hy3v⟩) (by assumption) ?rest3v
    case hy3v => (intro zz hSw; (try dsimp only at hSw); go_simp; (try with_reducible rfl))
    change wpAnyH _ _ _ _ _ _ _ (Act.put _ (some 11) _) _
    simp only [Act.put, List.setIfInBounds_toArray, List.set_cons_zero, List.set_cons_succ]
    refine wpAnyH_take (i := 4) (v := ?v4v) rfl (by kernel_rfl) (by kernel_rfl) (by kernel_rfl) (fun _ _ _ h => h) (Or.inl ⟨by rfl, ?hy4v⟩) (by assumption) ?rest4v
    case hy4v => (intro zz hSw; (try dsimp only at hSw); go_simp; (try with_reducible rfl))
    change wpAnyH _ _ _ _ _ _ _ (Act.put _ (some 12) _) _
    simp only [Act.put, List.setIfInBounds_toArray, List.set_cons_zero, List.set_cons_succ]
    refine wpAnyH_take (i := 5) (v := ?v5v) rfl (by kernel_rfl) (by kernel_rfl) (by kernel_rfl) (fun _ _ _ h => h) (Or.inl ⟨by rfl, ?hy5v⟩) (by assumption) ?rest5v
    case hy5v => (intro zz hSw; (try dsimp only at hSw); go_simp; (try with_reducible rfl))
    change wpAnyH _ _ _ _ _ _ _ (Act.put _ (some 13) _) _
    simp only [Act.put, List.setIfInBounds_toArray, List.set_cons_zero, List.set_cons_succ]
    refine wpAnyH_take (i := 6) (v := ?v6v) rfl (by kernel_rfl) (by kernel_rfl) (by kernel_rfl) (fun _ _ _ h => h) (Or.inl ⟨by rfl, ?hy6v⟩) (by assumption) ?rest6v
    case hy6v => (intro zz hSw; (try dsimp only at hSw); go_simp; (try with_reducible rfl))
    change wpAnyH _ _ _ _ _ _ _ (Act.put _ (some 14) _) _
    simp only [Act.put, List.setIfInBounds_toArray, List.set_cons_zero, List.set_cons_succ]
    refine wpAnyH_take (i := 7) (v := ?v7v) rfl (by kernel_rfl) (by kernel_rfl) (by kernel_rfl) (fun _ _ _ h => h) (Or.inl ⟨by rfl, ?hy7v⟩) (by assumption) ?rest7v
    case hy7v => (intro zz hSw; (try dsimp only at hSw); go_simp; (try with_reducible rfl))
    change wpAnyH _ _ _ _ _ _ _ (Act.put _ (some 15) _) _
    simp only [Act.put, List.setIfInBounds_toArray, List.set_cons_zero, List.set_cons_succ]
    refine wpAnyH_take (i := 8) (v := ?v8v) rfl (by kernel_rfl) (by kernel_rfl) (by kernel_rfl) (fun _ _ _ h => h) (Or.inl ⟨by rfl, ?hy8v⟩) (by assumption) ?rest8v
    case hy8v => (intro zz hSw; (try dsimp only at hSw); go_simp; (try with_reducible rfl))
    change wpAnyH _ _ _ _ _ _ _ (Act.put _ (some 16) _) _
    simp only [Act.put, List.setIfInBounds_toArray, List.set_cons_zero, List.set_cons_succ]
    refine wpAnyH_ready (rs := [9]) (by kernel_rfl) (by simp) (AllReadyH.cons rfl (fun K hK => ?_) AllReadyH.nil)
    go_simp
    refine HS.out.mono ?_; rintro e w1 ⟨rfl, bel⟩
    have BV := Lib.hid (show Below w.heap.size w w1 from (Below.refl _ w).drew.trans bel)
    refine hK.out _ _ (⟨(World.cell?_of_block (w := w.drew) (bel.block p hp)).trans hHeld.1, (World.cell?_of_block (w := w.drew) (bel.block p hp)).trans hHeld.2⟩) (fun hHeld => ?_)
    clear hK K bel
    refine wpAnyH_take (i := 10) (v := ?v10v) rfl (by kernel_rfl) (by kernel_rfl) (by kernel_rfl) (fun _ _ _ h => h) (Or.inl ⟨by rfl, ?hy10v⟩) (by assumption) ?rest10v
    case hy10v => (intro zz hSw; (try dsimp only at hSw); go_simp; (try with_reducible rfl))
    change wpAnyH _ _ _ _ _ _ _ (Act.put _ (some 7) _) _
    simp only [Act.put, List.setIfInBounds_toArray, List.set_cons_zero, List.set_cons_succ]
    refine wpAnyH_take (i := 11) (v := ?v11v) rfl (by kernel_rfl) (by kernel_rfl) (by kernel_rfl) (fun _ _ _ h => h) (Or.inl ⟨by rfl, ?hy11v⟩) (by assumption) ?rest11v
    case hy11v => (intro zz hSw; (try dsimp only at hSw); go_simp; (try with_reducible rfl))
    change wpAnyH _ _ _ _ _ _ _ (Act.put _ (some 18) _) _
    simp only [Act.put, List.setIfInBounds_toArray, List.set_cons_zero, List.set_cons_succ]
    refine wpAnyH_take (i := 12) (v := ?v12v) rfl (by kernel_rfl) (by kernel_rfl) (by kernel_rfl) (fun _ _ _ h => h) (Or.inl ⟨by rfl, ?hy12v⟩) (by assumption) ?rest12v
    case hy12v => (intro zz hSw; (try dsimp only at hSw); go_simp; (try with_reducible rfl))
    change wpAnyH _ _ _ _ _ _ _ (Act.put _ (some 19) _) _
    simp only [Act.put, List.setIfInBounds_toArray, List.set_cons_zero, List.set_cons_succ]
    refine wpAnyH_take (i := 13) (v := ?v13v) rfl (by kernel_rfl) (by kernel_rfl) (by kernel_rfl) (fun _ _ _ h => h) (Or.inl ⟨by rfl, ?hy13v⟩) (by assumption) ?rest13v
    case hy13v => (intro zz hSw; (try dsimp only at hSw); go_simp; (try with_reducible rfl))
    change wpAnyH _ _ _ _ _ _ _ (Act.put _ (some 5) _) _
    simp only [Act.put, List.setIfInBounds_toArray, List.set_cons_zero, List.set_cons_succ]
    refine wpAnyH_take (i := 14) (v := ?v14v) rfl (by kernel_rfl) (by kernel_rfl) (by kernel_rfl) (fun _ _ _ h => h) (Or.inl ⟨by rfl, ?hy14v⟩) (by assumption) ?rest14v
    case hy14v => (intro zz hSw; (try dsimp only at hSw); go_simp; (try with_reducible rfl))
    change wpAnyH _ _ _ _ _ _ _ (Act.put _ (some 6) _) _
    simp only [Act.put, List.setIfInBounds_toArray, List.set_cons_zero, List.set_cons_succ]
    refine wpAnyH_done (by kernel_rfl) ?_ _
    clear hHeld
    go_wp2_with fail
    refine (req_no _ 2).mono ?_; rintro e w2 ⟨rfl, rfl⟩
    exact ⟨rfl, BV.out, (fun e => by cases e), fun _ => rfl⟩
  · go_enter Tryz.func110, Tryz.ntmps110
    go_wp2_with fail
    refine wp_region_held_drew (S := fun z => z.cell? ⟨p, 0, none⟩ = some (.slice ba bn bc) ∧ z.cell? ⟨p, 1, none⟩ = some (.slice ga (3 : Nat) gc)) (by kernel_rfl) ⟨c0, c1⟩ (fun hHeld => ?_)
    refine wpAnyH_take (i := 0) (v := ?v0u) rfl (by kernel_rfl) (by kernel_rfl) (by kernel_rfl) (fun _ _ _ h => h) (Or.inl ⟨by rfl, ?hy0u⟩) (by assumption) ?rest0u
    case hy0u => (intro zz hSw; (try dsimp only at hSw); go_simp; (try with_reducible rfl))
    change wpAnyH _ _ _ _ _ _ _ (Act.put _ (some 8) _) _
    simp only [Act.put, List.setIfInBounds_toArray, List.set_cons_zero, List.set_cons_succ]
    refine wpAnyH_take (i := 1) (v := ?v1u) rfl (by kernel_rfl) (by kernel_rfl) (by kernel_rfl) (fun _ _ _ h => h) (Or.inl ⟨by rfl, ?hy1u⟩) (by assumption) ?rest1u
    case hy1u => (intro zz hSw; (try dsimp only at hSw); go_simp; (try with_reducible rfl))
    change wpAnyH _ _ _ _ _ _ _ (Act.put _ (some 9) _) _
    simp only [Act.put, List.setIfInBounds_toArray, List.set_cons_zero, List.set_cons_succ]
    refine wpAnyH_take (i := 2) (v := ?v2u) rfl (by kernel_rfl) (by kernel_rfl) (by kernel_rfl) (fun _ _ _ h => h) (Or.inl ⟨by rfl, ?hy2u⟩) (by assumption) ?rest2u
    case hy2u => (intro zz hSw; (try dsimp only at hSw); go_simp; (try with_reducible rfl))
    change wpAnyH _ _ _ _ _ _ _ (Act.put _ (some 10) _) _
    simp only [Act.put, List.setIfInBounds_toArray, List.set_cons_zero, List.set_cons_succ]
    refine wpAnyH_take (i := 3) (v := ?v3u) rfl (by kernel_rfl) (by kernel_rfl) (by kernel_rfl) (fun _ _ _ h => h) (Or.inl ⟨by rfl, ?hy3u⟩) (by assumption) ?rest3u
    case hy3u => (intro zz hSw; (try dsimp only at hSw); go_simp; (try with_reducible rfl))
    change wpAnyH _ _ _ _ _ _ _ (Act.put _ (some 11) _) _
    simp only [Act.put, List.setIfInBounds_toArray, List.set_cons_zero, List.set_cons_succ]
    refine wpAnyH_take (i := 4) (v := ?v4u) rfl (by kernel_rfl) (by kernel_rfl) (by kernel_rfl) (fun _ _ _ h => h) (Or.inl ⟨by rfl, ?hy4u⟩) (by assumption) ?rest4u
    case hy4u => (intro zz hSw; (try dsimp only at hSw); go_simp; (try with_reducible rfl))
    change wpAnyH _ _ _ _ _ _ _ (Act.put _ (some 12) _) _
    simp only [Act.put, List.setIfInBounds_toArray, List.set_cons_zero, List.set_cons_succ]
    refine wpAnyH_take (i := 5) (v := ?v5u) rfl (by kernel_rfl) (by kernel_rfl) (by kernel_rfl) (fun _ _ _ h => h) (Or.inl ⟨by rfl, ?hy5u⟩) (by assumption) ?rest5u
    case hy5u => (intro zz hSw; (try dsimp only at hSw); go_simp; (try with_reducible rfl))
    change wpAnyH _ _ _ _ _ _ _ (Act.put _ (some 13) _) _
    simp only [Act.put, List.setIfInBounds_toArray, List.set_cons_zero, List.set_cons_succ]
    refine wpAnyH_take (i := 6) (v := ?v6u) rfl (by kernel_rfl) (by kernel_rfl) (by kernel_rfl) (fun _ _ _ h => h) (Or.inl ⟨by rfl, ?hy6u⟩) (by assumption) ?rest6u
    case hy6u => (intro zz hSw; (try dsimp only at hSw); go_simp; (try with_reducible rfl))
    change wpAnyH _ _ _ _ _ _ _ (Act.put _ (some 14) _) _
    simp only [Act.put, List.setIfInBounds_toArray, List.set_cons_zero, List.set_cons_succ]
    refine wpAnyH_take (i := 7) (v := ?v7u) rfl (by kernel_rfl) (by kernel_rfl) (by kernel_rfl) (fun _ _ _ h => h) (Or.inl ⟨by rfl, ?hy7u⟩) (by assumption) ?rest7u
    case hy7u => (intro zz hSw; (try dsimp only at hSw); go_simp; (try with_reducible rfl))
    change wpAnyH _ _ _ _ _ _ _ (Act.put _ (some 15) _) _
    simp only [Act.put, List.setIfInBounds_toArray, List.set_cons_zero, List.set_cons_succ]
    refine wpAnyH_take (i := 8) (v := ?v8u) rfl (by kernel_rfl) (by kernel_rfl) (by kernel_rfl) (fun _ _ _ h => h) (Or.inl ⟨by rfl, ?hy8u⟩) (by assumption) ?rest8u
    case hy8u => (intro zz hSw; (try dsimp only at hSw); go_simp; (try with_reducible rfl))
    change wpAnyH _ _ _ _ _ _ _ (Act.put _ (some 16) _) _
    simp only [Act.put, List.setIfInBounds_toArray, List.set_cons_zero, List.set_cons_succ]
    refine wpAnyH_ready (rs := [9]) (by kernel_rfl) (by simp) (AllReadyH.cons rfl (fun K hK => ?_) AllReadyH.nil)
    go_simp
    refine HS.out.mono ?_; rintro e w1 ⟨rfl, bel⟩
    have BV := Lib.hid (show Below w.heap.size w w1 from (Below.refl _ w).drew.trans bel)
    refine hK.out _ _ (⟨(World.cell?_of_block (w := w.drew) (bel.block p hp)).trans hHeld.1, (World.cell?_of_block (w := w.drew) (bel.block p hp)).trans hHeld.2⟩) (fun hHeld => ?_)
    clear hK K bel
    refine wpAnyH_take (i := 10) (v := ?v10u) rfl (by kernel_rfl) (by kernel_rfl) (by kernel_rfl) (fun _ _ _ h => h) (Or.inl ⟨by rfl, ?hy10u⟩) (by assumption) ?rest10u
    case hy10u => (intro zz hSw; (try dsimp only at hSw); go_simp; (try with_reducible rfl))
    change wpAnyH _ _ _ _ _ _ _ (Act.put _ (some 7) _) _
    simp only [Act.put, List.setIfInBounds_toArray, List.set_cons_zero, List.set_cons_succ]
    refine wpAnyH_take (i := 11) (v := ?v11u) rfl (by kernel_rfl) (by kernel_rfl) (by kernel_rfl) (fun _ _ _ h => h) (Or.inl ⟨by rfl, ?hy11u⟩) (by assumption) ?rest11u
    case hy11u => (intro zz hSw; (try dsimp only at hSw); go_simp; (try with_reducible rfl))
    change wpAnyH _ _ _ _ _ _ _ (Act.put _ (some 18) _) _
    simp only [Act.put, List.setIfInBounds_toArray, List.set_cons_zero, List.set_cons_succ]
    refine wpAnyH_take (i := 12) (v := ?v12u) rfl (by kernel_rfl) (by kernel_rfl) (by kernel_rfl) (fun _ _ _ h => h) (Or.inl ⟨by rfl, ?hy12u⟩) (by assumption) ?rest12u
    case hy12u => (intro zz hSw; (try dsimp only at hSw); go_simp; (try with_reducible rfl))
    change wpAnyH _ _ _ _ _ _ _ (Act.put _ (some 19) _) _
    simp only [Act.put, List.setIfInBounds_toArray, List.set_cons_zero, List.set_cons_succ]
    refine wpAnyH_take (i := 13) (v := ?v13u) rfl (by kernel_rfl) (by kernel_rfl) (by kernel_rfl) (fun _ _ _ h => h) (Or.inl ⟨by rfl, ?hy13u⟩) (by assumption) ?rest13u
    case hy13u => (intro zz hSw; (try dsimp only at hSw); go_simp; (try with_reducible rfl))
    change wpAnyH _ _ _ _ _ _ _ (Act.put _ (some 5) _) _
    simp only [Act.put, List.setIfInBounds_toArray, List.set_cons_zero, List.set_cons_succ]
    refine wpAnyH_take (i := 14) (v := ?v14u) rfl (by kernel_rfl) (by kernel_rfl) (by kernel_rfl) (fun _ _ _ h => h) (Or.inl ⟨by rfl, ?hy14u⟩) (by assumption) ?rest14u
    case hy14u => (intro zz hSw; (try dsimp only at hSw); go_simp; (try with_reducible rfl))
    change wpAnyH _ _ _ _ _ _ _ (Act.put _ (some 6) _) _
    simp only [Act.put, List.setIfInBounds_toArray, List.set_cons_zero, List.set_cons_succ]
    refine wpAnyH_done (by kernel_rfl) ?_ _
    clear hHeld
    go_wp2_with fail
    refine (req_yes _ 2).mono ?_; rintro e w2 ⟨rfl, rfl⟩
    go_wp2_with fail
    go_ret
    exact ⟨BV.out, (fun _ => rfl), fun e => by cases e⟩
set_option maxHeartbeats 4000000 in
set_option maxRecDepth 100000 in
theorem holds_any {w0 : World} {p : Nat} {ga : Option Addr} {gc : Nat} {gs : List Int} {st : St0} {w : World} (h : Xm w0 p ga gc gs st w) (sa : Option Addr) (sc : Nat) (ex : List Tk) (n : Nat) (hn : ex.length = n) (hv : V1 w0 sa sc (txL ex)) (hbd : Bd ex) {kind : Int} (hk : kind ≠ 0) (he : eK kind ex) :
    Calls Tryz.prog 125 #[.pointer (some ⟨p, 0, none⟩), .slice sa n sc] w fun e w' => Below w.heap.size w w' ∧ ((evE gs st.b ex).2 = true → e = .returned (.bool ((evE gs st.b ex).1 != 0))) ∧ ((evE gs st.b ex).2 = false → e = .panicked [endg 2]) := by
  have HS := Lib.hid (value_any h sa sc ex n hn hv hbd hk he)
  clear h hv he hbd
  generalize evE gs st.b ex = xx at *
  obtain ⟨x, is⟩ := xx
  cases is
  · go_enter Tryz.func125, Tryz.ntmps125
    go_wp2_with fail
    refine HS.out.mono ?_; rintro e w1 ⟨b1, -, e1⟩
    obtain rfl := e1 (by first | exact trivial | rfl)
    exact ⟨rfl, b1, (fun e => by cases e), fun _ => rfl⟩
  · go_enter Tryz.func125, Tryz.ntmps125
    go_wp2_with fail
    refine HS.out.mono ?_; rintro e w1 ⟨b1, e1, -⟩
    obtain rfl := e1 (by first | exact trivial | rfl)
    have B1 := Lib.hid b1; clear b1
    go_wp2_with fail
    go_ret
    exact ⟨B1.out, (fun _ => rfl), fun e => by cases e⟩
set_option maxHeartbeats 4000000 in
set_option maxRecDepth 100000 in
theorem burn_yes {w0 : World} {p : Nat} {ga : Option Addr} {gc : Nat} {gs : List Int} {st : St0} {w : World} (h : Xm w0 p ga gc gs st w) (hf : st.f ≠ 0) :
    Calls Tryz.prog 126 #[.pointer (some ⟨p, 0, none⟩)] w fun e w' => e = .returned (.tuple #[]) ∧ But p w w' ∧ Xm w0 p ga gc gs ⟨st.c, st.b, st.f - 1⟩ w' := by
  have h0 := h.f0
  have f2 := h.fz.2.2
  have c2 := h.f
  have t0 : decide (0 < st.f) = true := by simp; omega
  have i1 : IntKind.i64.wrap (st.f - 1) = st.f - 1 := by rw [IntKind.wrap_i64]; omega
  have HX := Lib.hid (h.putF (st.f - 1) (by omega))
  have HB := Lib.hid (but_set w p 2 (.int .i64 (st.f - 1)))
  clear h
  go_enter Tryz.func126, Tryz.ntmps126
  go_wp2_with fail
  refine (req_yes _ 3).mono ?_; rintro e w2 ⟨rfl, rfl⟩
  go_wp2_with fail
  exact bodyPost_end (v := .tuple #[]) (by simp [results, Tryz.results126, go_sem]) rfl ⟨rfl, HB.out, HX.out⟩
set_option maxHeartbeats 4000000 in
set_option maxRecDepth 100000 in
theorem burn_no {w0 : World} {p : Nat} {ga : Option Addr} {gc : Nat} {gs : List Int} {st : St0} {w : World} (h : Xm w0 p ga gc gs st w) (hf : st.f = 0) :
    Calls Tryz.prog 126 #[.pointer (some ⟨p, 0, none⟩)] w fun e w' => e = .panicked [endg 3] ∧ w = w' := by
  have c2 := h.f
  rw [hf] at c2
  clear h
  go_enter Tryz.func126, Tryz.ntmps126
  go_wp2_with fail
  refine (req_no _ 3).mono ?_; rintro e w2 ⟨rfl, rfl⟩
  exact ⟨rfl, rfl, rfl⟩
set_option maxHeartbeats 4000000 in
set_option maxRecDepth 100000 in
theorem set_any {w0 : World} {p : Nat} {ga : Option Addr} {gc : Nat} {gs : List Int} {st : St0} {w : World} (h : Xm w0 p ga gc gs st w) (n : Tk) (v : Int) (hn : nmB n = true) (hv : isW v = true) (hc : st.c = 0) :
    Calls Tryz.prog 109 #[.pointer (some ⟨p, 0, none⟩), .string (tx n), .int .i64 v] w (RunX w0 p ga gc gs ⟨(if (st7 st.b (tx n) v).2 then st.c else 4), (st7 st.b (tx n) v).1, st.f⟩ w) := by
  obtain ⟨ba, bn, bc, c0, hbn, hbv⟩ := h.b
  have hnv : (nmB (tx n).data.toList && isW v) = true := by rw [tx_data, hn, hv]; rfl
  have HS := Lib.hid (implSet_any w ba bc st.b bn (tx n) v hbn hbv.1 (by have := h.len; omega))
  have HOK := Lib.hid (st7_ok h.ok hnv)
  rw [sbP_st7 h.ok hnv] at HS
  have HX := Lib.hid h
  have HC := Lib.hid hc
  have f0 := h.fz.1
  clear h hbv hnv hc
  generalize st7 st.b (tx n) v = q at *
  obtain ⟨l, fg⟩ := q
  cases fg
  · go_enter Tryz.func109, Tryz.ntmps109
    go_wp2_with fail
    refine HS.out.mono ?_; rintro e w1 ⟨v1, rfl, o1, b1⟩
    have B1 := Lib.hid b1
    clear b1 o1
    go_wp2_with fail
    refine (req_no _ 4).mono ?_; rintro e w2 ⟨rfl, rfl⟩
    exact ⟨rfl, But.of B1.out, (fun e => absurd (show (4 : Int) = 0 from e) (by decide)), fun _ => rfl⟩
  · go_enter Tryz.func109, Tryz.ntmps109
    go_wp2_with fail
    refine HS.out.mono ?_; rintro e w1 ⟨v1, rfl, o1, b1⟩
    obtain ⟨a1, k1, rfl, -⟩ := o1.view
    have B1 := Lib.hid b1
    have X1 := Lib.hid (HX.out.next b1)
    have f1 := X1.out.fz.1
    obtain ⟨a3, n3, k3, c3, -, -⟩ := X1.out.b
    have XB := Lib.hid (HX.out.putB b1 rfl o1 HOK.out)
    clear b1 o1
    go_wp2_with fail
    refine (req_yes _ 4).mono ?_; rintro e w2 ⟨rfl, rfl⟩
    go_wp2_with fail
    refine bodyPost_end (v := .tuple #[]) (by simp [results, Tryz.results109, go_sem]) rfl ⟨(But.of B1.out).trans (but_set _ p 0 _), fun _ => ⟨rfl, XB.out⟩, fun e => absurd HC.out e⟩
end Go.Proofs.YtfnnoehpahdgcaaGreatDoor.Cl
