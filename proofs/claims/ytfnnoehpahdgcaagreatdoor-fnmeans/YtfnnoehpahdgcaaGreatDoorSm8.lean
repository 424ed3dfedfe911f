/-
  Texts of mine, joined (part 8 of 11): what the law at hand reaches of them; each text's own words stand in the verifier's repo.
-/
import Derived.Test.YtfnnoehpahdgcaaGreatDoorSm7
import Derived.Test.YtfnnoehpahdgcaaGreatDoorRows
import Derived.WalkKit
import Derived.IntWalk
import Derived.Laws.Bits128
import Derived.Lib.Hide
import Derived.Lib.ParseIntBTie
import Derived.Lib.ParseIntBCases
import Derived.Lib.ItoaMem
import Derived.Lib.IndexMore
import Derived.Lib.Repeat
import Derived.WalkSpells
import Derived.Below
import Derived.Carry
import Derived.WalkSmall
import Derived.Laws.Closers25b
import Derived.Lib.Strings
import Derived.Lib.SmallJoins
import Derived.Lib.AppendIntMem
import Derived.Maps.AppendAt
import Derived.OwnWalk
import Derived.WalkLawsBesides
import Derived.Deep.QuietTactic
import Derived.BigQuiet
import Derived.Deep.RegionHeld3
import Derived.Laws.OwnMore
import Derived.Laws.StructEq
import Derived.BigFrame
import Derived.Deep.Upon
import Derived.Laws.CopyRow
import Derived.Laws.BytesArg
import Derived.RowKit3
import Derived.Shelf.Strconv.Itoa4
import Derived.Shelf.Strconv.ParseIntPublic10
import Derived.Shelf.Strconv.ErrVarParseInt
import Derived.Test.YtfnnoehpahdgcaaGreatDoorProg
import Derived.LaidMore
import Derived.Stop.LaidErr
import Derived.Lib.LaidTab
import Derived.RangeFuncWrites
import Derived.RangeFuncCalls
import Derived.RangeFuncBox
import Derived.RangeFuncNested
import Derived.RangeFuncLeaves
import Derived.Shelf.Abstract
import Derived.Shelf.RegionOpen
import Derived.OwnWalkIn
import Derived.TacticsInMore
import Derived.LoopNIn
import Derived.LoopIn
import Derived.Lib.Bytealg
import Derived.Deep.LoopGhost
import Derived.Lib.AtoiErrMem
import Derived.OpenShut
import Derived.Lib.ConvBytes
import Derived.Deep.RegionLaw
import Derived.Deep.AppendLies
import Derived.Lib.AppendZeros
import Derived.Defers
import Derived.Recover
import Derived.Lib.ItoaLen
import Derived.ProofKit
import Derived.Handed
import Derived.SizedLaws
import Derived.ShutString
import Derived.Deep.Slices
import Derived.Deep.Fields
import Derived.ChangeSame
namespace Go.Proofs.YtfnnoehpahdgcaaGreatDoor.Cl
set_option linter.unusedVariables false
open Go.RowKit Wd Rp Cu Kp
theorem RunX.pre {w0 w w1 w2 : World} {p : Nat} {ga : Option Addr} {gc : Nat} {gs : List Int} {r : St0} {e : Ending} (h : RunX w0 p ga gc gs r w1 e w2) (hb : But p w w1) : RunX w0 p ga gc gs r w e w2 := ⟨hb.trans h.1, h.2.1, h.2.2⟩
theorem each_preS {P : Sm → Prop} {t : Sl} : ∀ {fs : List Sm}, (T.preS fs t).each P → ∀ f ∈ fs, P f
  | [], h, f, hf => by cases hf
  | g :: fs, h, f, hf => by
    rw [T.preS, Sl.each] at h
    rcases List.mem_cons.1 hf with rfl | hf
    · exact h.1
    · exact each_preS h.2 f hf
theorem T.DM.form {w0 w : World} {K : Nat → Prop} {D : Nat} {v : Value} {F : Sl} (h : T.DM w0 K w D v F) : ∃ a n c, v = .slice a n c := by
  cases D with
  | zero => cases h
  | succ D =>
    obtain ⟨ds, fs, h1, -⟩ := h
    obtain ⟨a, c, e, -⟩ := h1.form
    exact ⟨a, _, c, e⟩
theorem T.DM.but {w0 w w' : World} {p q : Nat} (hpq : p < q) (hb : But p w w') {D : Nat} {v : Value} {F : Sl} (h : T.DM w0 (q ≤ ·) w D v F) : T.DM w0 (q ≤ ·) w' D v F :=
  T.DM.keep hb.size (fun g h1 h2 => hb.block g h2 (by omega)) (fun g h _ => h) D v F h
theorem T.DdM.but {w0 w w' : World} {p q : Nat} (hpq : p < q) (hb : But p w w') {D : Nat} {d : Dv} {F : Sm} (h : T.DdM w0 (q ≤ ·) w (T.DM w0 (q ≤ ·) w D) d F) : T.DdM w0 (q ≤ ·) w' (T.DM w0 (q ≤ ·) w' D) d F :=
  h.keep hb.size (fun g h1 h2 => hb.block g h2 (by omega)) (fun g h _ => h) (fun v f h => h.but hpq hb)
def DeedsX (w0 : World) (p : Nat) (ga : Option Addr) (gc : Nat) (gs : List Int) (q : Nat) (b : Sl) : Prop := ∀ (D : Nat) (v : Value) (st : St0) (w : World), st.c = 0 → p < q → Xm w0 p ga gc gs st w → T.DM w0 (q ≤ ·) w D v b →
  Calls Tryz.prog 79 #[.pointer (some ⟨p, 0, none⟩), v] w (RunX w0 p ga gc gs (b.run gs st) w)
set_option maxHeartbeats 8000000 in
set_option maxRecDepth 100000 in
theorem deedsX_of (w0 : World) (p : Nat) (ga : Option Addr) (gc : Nat) (gs : List Int) (q : Nat) (b : Sl) (ih : b.each (DeedX w0 p ga gc gs q)) : DeedsX w0 p ga gc gs q b := by
  intro D v st w hc hpq hX hD
  cases D with
  | zero => cases hD
  | succ D =>
  obtain ⟨ds, fs, how, hK, hlen, hel, rfl⟩ := hD
  obtain ⟨a, cap, rfl, hlc, hcm⟩ := how.form
  unfold maxLen at hcm
  have IH := Lib.hid (each_preS ih)
  have HOW := Lib.hid how
  have HK := Lib.hid hK
  have HEL := Lib.hid hel
  have HLEN := Lib.hid hlen
  have HX := Lib.hid hX
  clear ih how hel hlen hK hX
  obtain ⟨n, hn⟩ : ∃ n, ds.length = n := ⟨_, rfl⟩
  rw [hn] at hlc HOW HLEN HK ⊢
  have HN := Lib.hid hn
  obtain ⟨fin, hfin⟩ : ∃ r, (T.preS fs .nil).run gs st = r := ⟨_, rfl⟩
  rw [hfin]
  have HFIN := Lib.hid hfin
  clear hn hfin
  go_enter Tryz.func79, Tryz.ntmps79
  go_wp2_with fail
  go_loopw [5, 8] (fun _ i wr => ∃ (k : Nat) (s1 : St0), k ≤ n ∧ i = .int .i64 (k : Int) ∧ s1.c = 0 ∧ Xm w0 p ga gc gs s1 wr ∧ But p w wr ∧ (T.preS (fs.drop k) .nil).run gs s1 = fin) (fun _ i _ => n - intV i)
  case atStart => exact ⟨0, st, Nat.zero_le _, rfl, hc, HX.out, But.refl _ _, HFIN.out⟩
  case round =>
    obtain ⟨k, s1, hk, rfl, hc1, hx1, hb1, hf1⟩ := hrel
    have X1 := Lib.hid hx1
    have B1 := Lib.hid hb1
    have F1 := Lib.hid hf1
    clear hx1 hb1 hf1 HFIN HX
    by_cases hlt : k < n
    · obtain ⟨d, hd⟩ : ∃ d, ds[k]? = some d := ⟨ds[k]'(by have := HN.out; omega), List.getElem?_eq_getElem _⟩
      obtain ⟨f, hf⟩ : ∃ f, fs[k]? = some f := ⟨fs[k]'(by have := HLEN.out; omega), List.getElem?_eq_getElem _⟩
      obtain ⟨aa, ca, e, hvd⟩ := HOW.out.view
      rw [HN.out] at e
      cases e
      have hcell : ∃ g o, a = some ⟨g, o, none⟩ ∧ g < w.heap.size ∧ ∀ j x, d.cells[j]? = some x → wr.cell? ⟨g, o + k * 4 + j, none⟩ = some x := by
        obtain ⟨g, o, e, hg, -⟩ := hvd.2.2.2 _ _ (flatD_get hd (j := 0) (x := .string (tx d.h)) rfl)
        refine ⟨g, o, e, hg, fun j x hj => ?_⟩
        obtain ⟨g', o', e', hg', hc'⟩ := hvd.2.2.2 _ _ (flatD_get hd hj)
        rw [e] at e'; cases e'
        rw [show o + k * 4 + j = o + (k * 4 + j) by omega]
        have := HK.out g (by rw [e]; rfl)
        exact (World.cell?_of_block (w := w) (B1.out.block g hg (by omega))).trans hc'
      obtain ⟨g, o, rfl, hg, hcw⟩ := hcell
      have d0 : wr.cell? ⟨g, o + k * 4, none⟩ = some (.string (tx d.h)) := hcw 0 _ rfl
      have d1 : wr.cell? ⟨g, o + k * 4 + 1, none⟩ = some (.string (tx d.n)) := hcw 1 _ rfl
      have d2 : wr.cell? ⟨g, o + k * 4 + 2, none⟩ = some (.slice d.sa d.sn d.sc) := hcw 2 _ rfl
      have d3 : wr.cell? ⟨g, o + k * 4 + 3, none⟩ = some (.slice d.ba d.bn d.bc) := hcw 3 _ rfl
      have hbl := bel1 wr (.cells #[.string (tx d.h), .string (tx d.n), .slice d.sa d.sn d.sc, .slice d.ba d.bn d.bc] 115)
      have X2 := Lib.hid (X1.out.next hbl)
      have B2 := Lib.hid (B1.out.trans (But.of hbl))
      have HD := Lib.hid ((HEL.out k d f hd hf).but hpq B2.out)
      have HF2 := Lib.hid (show (if (Sm.run gs f s1).c = 0 then (T.preS (fs.drop (k + 1)) .nil).run gs (Sm.run gs f s1) else Sm.run gs f s1) = fin from by
        have e := F1.out
        rw [List.drop_eq_getElem_cons (by have := HLEN.out; omega), T.preS, Sl.run] at e
        have e2 : fs[k]'(by have := HLEN.out; omega) = f := by have := (List.getElem?_eq_some_iff.1 hf).2; exact this
        rw [e2] at e
        exact e)
      have HC := Lib.hid (IH.out f (List.mem_of_getElem? hf) D d s1 _ hc1 hpq X2.out HD.out)
      have t1 : (k : Int) < (n : Int) := by omega
      have t1d : decide ((k : Int) < (n : Int)) = true := by simpa using hlt
      have i1 : (k : Int) + 1 ≤ 9223372036854775807 := by omega
      clear hcw hd hf hg hvd hlc hcm hbl
      go_wp2_with fail
      refine HC.out.mono ?_; rintro e w3 ⟨b3, h3, k3⟩
      generalize Sm.run gs f s1 = s2 at *
      by_cases hz : s2.c = 0
      · obtain ⟨rfl, x3⟩ := h3 hz
        have X3 := Lib.hid x3
        have B3 := Lib.hid (B2.out.trans b3)
        clear b3 h3 k3 x3
        go_wp2_with fail
        go_roundw
        case measure => simp [intV]; omega
        case rel => exact ⟨k + 1, s2, by omega, by go_num, hz, X3.out, B3.out, by have := HF2.out; rw [if_pos hz] at this; exact this⟩
      · obtain rfl := k3 hz
        have e2 : s2 = fin := by have := HF2.out; rw [if_neg hz] at this; exact this
        subst e2
        exact ⟨rfl, B2.out.trans b3, (fun e => absurd e hz), fun _ => rfl⟩
    · have t1 : ¬ (k : Int) < (n : Int) := by omega
      have t1d : decide ((k : Int) < (n : Int)) = false := by simpa using hlt
      have e2 : s1 = fin := by
        have := F1.out
        rw [List.drop_eq_nil_of_le (by have := HLEN.out; omega), T.preS, Sl.run] at this
        exact this
      subst e2
      go_wp2_with fail
      exact bodyPost_end (v := .tuple #[]) (by simp [results, Tryz.results79, go_sem]) rfl ⟨B1.out, (fun _ => ⟨rfl, X1.out⟩), fun e => absurd hc1 e⟩
set_option maxHeartbeats 8000000 in
set_option maxRecDepth 100000 in
theorem choose_any (w0 : World) (p : Nat) (ga : Option Addr) (gc : Nat) (gs : List Int) (q D : Nat) (st : St0) (w : World) (hc : st.c = 0) (hpq : p < q) (hX : Xm w0 p ga gc gs st w) (h n : Tk) (sa : Option Addr) (sn sc : Nat) (ba : Option Addr) (bn bc : Nat) (ex : List Tk) (b1 b2 : Sl) (hw : eK 2 ex) (hbd : Bd ex)
    (hD : T.DdM w0 (q ≤ ·) w (T.DM w0 (q ≤ ·) w D) ⟨h, n, sa, sn, sc, ba, bn, bc⟩ (.ifs ex b1 b2)) (h1 : DeedsX w0 p ga gc gs q b1) (h2 : DeedsX w0 p ga gc gs q b2) :
    Calls Tryz.prog 112 #[.pointer (some ⟨p, 0, none⟩), .agg #[.string (tx h), .string (tx n), .slice sa sn sc, .slice ba bn bc]] w (RunX w0 p ga gc gs (Sm.run gs (.ifs ex b1 b2) st) w) := by
  obtain ⟨-, e3, e4, va, vb, e5, e6, e7, e8, e9⟩ := hD
  obtain ⟨a1, n1, c1, rfl⟩ := e8.form
  obtain ⟨a2, n2, c2, rfl⟩ := e9.form
  obtain rfl : bn = 2 := e5
  have hbl := bel1 w (.cells #[.string (tx h), .string (tx n), .slice sa sn sc, .slice ba 2 bc] 115)
  have X1 := Lib.hid (hX.next hbl)
  have HV := Lib.hid (holds_any X1.out sa sc ex sn e3.symm e4 hbd (kind := 2) (by decide) hw)
  have Q1 := Lib.hid (B4.of (new_of w (.cells #[.string (tx h), .string (tx n), .slice sa sn sc, .slice ba 2 bc] 115)))
  have BU1 := Lib.hid (But.of hbl : But p w _)
  obtain ⟨g, o, eg, hg, c1'⟩ := e6.2.2.2 0 _ rfl
  rw [Nat.add_zero] at c1'
  obtain ⟨g', o', eg', -, c2'⟩ := e6.2.2.2 1 _ rfl
  obtain rfl : ba = some ⟨g, o, none⟩ := eg
  cases eg'
  have hgq : q ≤ g := (e7 g o rfl).1
  have HE1 := Lib.hid e8
  have HE2 := Lib.hid e9
  have hE : Sm.run gs (.ifs ex b1 b2) st = (if (evE gs st.b ex).2 = false then ⟨2, st.b, st.f⟩ else if (evE gs st.b ex).1 = 0 then Sl.run gs b2 st else Sl.run gs b1 st) := by rw [Sm.run]
  rw [hE]; clear hE hX e3 e4 e6 e7 e8 e9 hbd hw
  generalize evE gs st.b ex = xx at *
  obtain ⟨x, is⟩ := xx
  generalize hfin : (if (x, is).2 = false then (⟨2, st.b, st.f⟩ : St0) else if (x, is).1 = 0 then Sl.run gs b2 st else Sl.run gs b1 st) = fin
  have HFIN := Lib.hid hfin; clear hfin
  have HH1 := Lib.hid h1
  have HH2 := Lib.hid h2
  have hgz : g < (w.alloc (.cells #[.string (tx h), .string (tx n), .slice sa sn sc, .slice (some ⟨g, o, none⟩) 2 bc] 115)).heap.size := by rw [World.size_alloc]; omega
  have f1 := (World.cell?_of_block (w := w) (hbl.block g hg)).trans c1'
  have f2 := (World.cell?_of_block (w := w) (hbl.block g hg)).trans c2'
  have hrl := Q1.out.lt
  have d0 := Q1.out.c0; have d1 := Q1.out.c1; have d2 := Q1.out.c2; have d3 := Q1.out.c3
  clear hbl c1' c2' h1 h2
  go_enter Tryz.func112, Tryz.ntmps112
  go_wp2_with fail
  generalize w.heap.size = r at *
  generalize w.alloc (.cells #[.string (tx h), .string (tx n), .slice sa sn sc, .slice (some ⟨g, o, none⟩) 2 bc] 115) = w1 at *
  clear d0 d1 d2
  cases is
  · have HX := Lib.hid (show (⟨2, st.b, st.f⟩ : St0) = fin from HFIN.out)
    refine HV.out.mono ?_; rintro e w3 ⟨b3, -, k3⟩
    obtain rfl := k3 rfl
    exact ⟨rfl, BU1.out.trans (But.of b3), (fun e => absurd (show (2 : Int) = 0 from by rw [← HX.out] at e; exact e) (by decide)), (fun _ => by rw [← HX.out])⟩
  · by_cases hx : x = 0
    · subst hx
      have HX := Lib.hid (show Sl.run gs b2 st = fin from HFIN.out)
      have t2 : ((0 : Int) != 0) = false := by decide
      refine HV.out.mono ?_; rintro e w3 ⟨b3, k3, -⟩
      obtain rfl := k3 rfl
      have B3 := Lib.hid (But.of b3 : But p w1 w3)
      have X3 := Lib.hid (X1.out.next b3)
      have g1 := (World.cell?_of_block (w := w1) (b3.block g hgz)).trans f1
      have g2 := (World.cell?_of_block (w := w1) (b3.block g hgz)).trans f2
      have r3 := (World.cell?_of_block (w := w1) (b3.block r hrl)).trans d3
      clear b3 f1 f2 d3 k3
      go_wp2_with fail
      refine (HH2.out D _ st w3 hc hpq X3.out (HE2.out.but hpq (BU1.out.trans B3.out))).mono ?_; rintro e w4 ⟨b4, h4, k4⟩
      rw [HX.out] at h4 k4
      by_cases hz : fin.c = 0
      · obtain ⟨rfl, x4⟩ := h4 hz
        have X4 := Lib.hid x4
        have B4' := Lib.hid (BU1.out.trans (B3.out.trans b4))
        clear b4 h4 k4 x4
        go_wp2_with fail
        exact bodyPost_end (v := .tuple #[]) (by simp [results, Tryz.results112, go_sem]) rfl ⟨B4'.out, (fun _ => ⟨rfl, X4.out⟩), fun e => absurd hz e⟩
      · obtain rfl := k4 hz
        exact ⟨rfl, BU1.out.trans (B3.out.trans b4), (fun e => absurd e hz), fun _ => rfl⟩
    · have HX := Lib.hid (show Sl.run gs b1 st = fin from by have := HFIN.out; rw [if_neg (by decide), if_neg hx] at this; exact this)
      have t2 : (x != 0) = true := by simpa using hx
      refine HV.out.mono ?_; rintro e w3 ⟨b3, k3, -⟩
      replace k3 := k3 rfl
      rw [show ((x, true).1 != 0) = true from t2] at k3
      obtain rfl := k3
      have B3 := Lib.hid (But.of b3 : But p w1 w3)
      have X3 := Lib.hid (X1.out.next b3)
      have g1 := (World.cell?_of_block (w := w1) (b3.block g hgz)).trans f1
      have g2 := (World.cell?_of_block (w := w1) (b3.block g hgz)).trans f2
      have r3 := (World.cell?_of_block (w := w1) (b3.block r hrl)).trans d3
      clear b3 f1 f2 d3
      go_wp2_with fail
      refine (HH1.out D _ st w3 hc hpq X3.out (HE1.out.but hpq (BU1.out.trans B3.out))).mono ?_; rintro e w4 ⟨b4, h4, k4⟩
      rw [HX.out] at h4 k4
      by_cases hz : fin.c = 0
      · obtain ⟨rfl, x4⟩ := h4 hz
        have X4 := Lib.hid x4
        have B4' := Lib.hid (BU1.out.trans (B3.out.trans b4))
        clear b4 h4 k4 x4
        go_wp2_with fail
        exact bodyPost_end (v := .tuple #[]) (by simp [results, Tryz.results112, go_sem]) rfl ⟨B4'.out, (fun _ => ⟨rfl, X4.out⟩), fun e => absurd hz e⟩
      · obtain rfl := k4 hz
        exact ⟨rfl, BU1.out.trans (B3.out.trans b4), (fun e => absurd e hz), fun _ => rfl⟩
def inR (gs : List Int) (e : List Tk) (body : St0 → St0) (n : Nat) (s : St0) : St0 :=
  if (evE gs s.b e).2 = false then ⟨2, s.b, s.f⟩ else if (evE gs s.b e).1 = 0 then s else if (body s).c = 0 then whR gs e body n (body s) else body s
theorem whR_in {gs : List Int} {e : List Tk} {body : St0 → St0} {n : Nat} {st : St0} (h : st.f ≠ 0) : whR gs e body (n + 1) st = inR gs e body n ⟨st.c, st.b, st.f - 1⟩ := by
  rw [whR, if_neg h]; rfl
theorem whR_no {gs : List Int} {e : List Tk} {body : St0 → St0} {n : Nat} {st : St0} (h : st.f = 0) : whR gs e body (n + 1) st = ⟨3, st.b, st.f⟩ := by
  rw [whR, if_pos h]
set_option maxHeartbeats 8000000 in
set_option maxRecDepth 100000 in
theorem repeat_any (w0 : World) (p : Nat) (ga : Option Addr) (gc : Nat) (gs : List Int) (q D : Nat) (st : St0) (w : World) (hc : st.c = 0) (hpq : p < q) (hX : Xm w0 p ga gc gs st w) (h n : Tk) (sa : Option Addr) (sn sc : Nat) (ba : Option Addr) (bn bc : Nat) (ex : List Tk) (b1 : Sl) (hw : eK 2 ex) (hbd : Bd ex)
    (hD : T.DdM w0 (q ≤ ·) w (T.DM w0 (q ≤ ·) w D) ⟨h, n, sa, sn, sc, ba, bn, bc⟩ (.whl ex b1)) (h1 : DeedsX w0 p ga gc gs q b1) :
    Calls Tryz.prog 113 #[.pointer (some ⟨p, 0, none⟩), .agg #[.string (tx h), .string (tx n), .slice sa sn sc, .slice ba bn bc]] w (RunX w0 p ga gc gs (Sm.run gs (.whl ex b1) st) w) := by
  obtain ⟨-, e3, e4, va, e5, e6, e7, e8⟩ := hD
  obtain ⟨a1, n1, c1, rfl⟩ := e8.form
  obtain rfl : bn = 1 := e5
  have hbl := bel1 w (.cells #[.string (tx h), .string (tx n), .slice sa sn sc, .slice ba 1 bc] 115)
  have X1 := Lib.hid (hX.next hbl)
  have HV := Lib.hid (fun z s (hz : Xm w0 p ga gc gs s z) => holds_any hz sa sc ex sn e3.symm e4 hbd (kind := 2) (by decide) hw)
  have Q1 := Lib.hid (B4.of (new_of w (.cells #[.string (tx h), .string (tx n), .slice sa sn sc, .slice ba 1 bc] 115)))
  have BU1 := Lib.hid (But.of hbl : But p w _)
  obtain ⟨g, o, eg, hg, c1'⟩ := e6.2.2.2 0 _ rfl
  rw [Nat.add_zero] at c1'
  obtain rfl : ba = some ⟨g, o, none⟩ := eg
  have hgq : q ≤ g := (e7 g o rfl).1
  have HE1 := Lib.hid e8
  have HFU := Lib.hid (fun st h => Sl.run_fuel gs b1 st h)
  have hE : Sm.run gs (.whl ex b1) st = whR gs ex (fun s => Sl.run gs b1 s) (st.f.toNat + 1) st := by rw [Sm.run]
  rw [hE]; clear hE e3 e4 e6 e7 e8 hbd hw
  have hfn := hX.f0
  generalize hfin : whR gs ex (fun s => Sl.run gs b1 s) (st.f.toNat + 1) st = fin
  have HFIN := Lib.hid hfin; clear hfin hX
  have HH1 := Lib.hid h1
  have hgz : g < (w.alloc (.cells #[.string (tx h), .string (tx n), .slice sa sn sc, .slice (some ⟨g, o, none⟩) 1 bc] 115)).heap.size := by rw [World.size_alloc]; omega
  have f1 := (World.cell?_of_block (w := w) (hbl.block g hg)).trans c1'
  have hrl := Q1.out.lt
  have hrp : w.heap.size ≠ p := by have := X1.out.hp; have := hbl.size; have := X1.out.hB; intro e; have h9 := hc; omega
  have HC := Lib.hid hc
  clear hbl c1' h1
  by_cases hf : st.f = 0
  · have HX := Lib.hid (show (⟨3, st.b, st.f⟩ : St0) = fin from by rw [← HFIN.out, whR_no hf])
    clear HFIN hc
    go_enter Tryz.func113, Tryz.ntmps113
    go_wp2_with fail
    refine (burn_no X1.out hf).mono ?_; rintro e w3 ⟨rfl, rfl⟩
    exact ⟨rfl, BU1.out, (fun e => absurd (show (3 : Int) = 0 from by rw [← HX.out] at e; exact e) (by decide)), (fun _ => by rw [← HX.out])⟩
  · have HX := Lib.hid (show inR gs ex (fun s => Sl.run gs b1 s) st.f.toNat ⟨st.c, st.b, st.f - 1⟩ = fin from by rw [← HFIN.out, whR_in hf])
    clear HFIN hc
    go_enter Tryz.func113, Tryz.ntmps113
    go_wp2_with fail
    refine (burn_yes X1.out hf).mono ?_; rintro e w3 ⟨rfl, b3, x3⟩
    have R3 := Lib.hid (Q1.out.but b3 hrp)
    generalize w.heap.size = r at *
    generalize w.alloc (.cells #[.string (tx h), .string (tx n), .slice sa sn sc, .slice (some ⟨g, o, none⟩) 1 bc] 115) = w1 at *
    have B3 := Lib.hid b3
    have X3 := Lib.hid x3
    have g3 := (b3.cell (p := ⟨g, o, none⟩) hgz (by show g ≠ p; omega)).trans f1
    have r3 := Nat.lt_of_lt_of_le hrl b3.size
    have z3 := Nat.lt_of_lt_of_le hgz b3.size
    clear b3 x3
    go_wp2_with fail
    go_loopg [] st.f.toNat (fun j wr => ∃ s1 : St0, s1.c = 0 ∧ Xm w0 p ga gc gs s1 wr ∧ But p w3 wr ∧ inR gs ex (fun s => Sl.run gs b1 s) j s1 = fin ∧ s1.f < j)
    case atStart => exact ⟨⟨st.c, st.b, st.f - 1⟩, HC.out, X3.out, But.refl _ _, HX.out, by show st.f - 1 < _; omega⟩
    case round =>
      clear HX
      obtain ⟨s1, hc1, hx1, hb1, hin, hlt⟩ := hrel
      have X4 := Lib.hid hx1
      have B4 := Lib.hid hb1
      have HIN := Lib.hid hin
      have r4 := R3.out.but hb1 hrp
      have d2 := r4.c2
      have d3 := r4.c3
      have hrl4 := r4.lt
      have g4 := (hb1.cell (p := ⟨g, o, none⟩) z3 (by show g ≠ p; omega)).trans g3
      have z4 := Nat.lt_of_lt_of_le z3 hb1.size
      have HV4 := Lib.hid (HV.out wr s1 hx1)
      have HFU4 := Lib.hid (HFU.out s1 hx1.f0.1)
      have BB := Lib.hid (BU1.out.trans (B3.out.trans hb1))
      clear hx1 hb1 hin r4
      unfold inR at HIN
      generalize evE gs s1.b ex = xx at *
      obtain ⟨x, is⟩ := xx
      have HC1 := Lib.hid hc1
      clear hc1
      go_wp2_with fail
      cases is
      · refine HV4.out.mono ?_; rintro e w5 ⟨b5, -, k5⟩
        obtain rfl := k5 rfl
        have e2 : (⟨2, s1.b, s1.f⟩ : St0) = fin := HIN.out
        exact ⟨rfl, BB.out.trans (But.of b5), (fun e => absurd (show (2 : Int) = 0 from by rw [← e2] at e; exact e) (by decide)), (fun _ => by rw [← e2])⟩
      · refine HV4.out.mono ?_; rintro e w5 ⟨b5, k5, -⟩
        replace k5 := k5 rfl
        have X5 := Lib.hid (X4.out.next b5)
        have B5 := Lib.hid (B4.out.trans (But.of b5))
        by_cases hx : x = 0
        · subst hx
          obtain rfl := k5
          have e2 : s1 = fin := HIN.out
          subst e2
          clear b5
          go_wp2_with fail
          exact bodyPost_end (v := .tuple #[]) (by simp [results, Tryz.results113, go_sem]) rfl ⟨BU1.out.trans (B3.out.trans B5.out), (fun _ => ⟨rfl, X5.out⟩), fun e => absurd HC1.out e⟩
        · have t2 : (x != 0) = true := by simpa using hx
          rw [show ((x, true).1 != 0) = true from t2] at k5
          obtain rfl := k5
          have e2 : (if (Sl.run gs b1 s1).c = 0 then whR gs ex (fun s => Sl.run gs b1 s) gk (Sl.run gs b1 s1) else Sl.run gs b1 s1) = fin := by have := HIN.out; rw [if_neg (by decide), if_neg hx] at this; exact this
          have g5 := (World.cell?_of_block (w := wr) (b5.block g z4)).trans g4
          have r5 := (World.cell?_of_block (w := wr) (b5.block r hrl4)).trans d3
          have HK := Lib.hid (HH1.out D _ s1 w5 HC1.out hpq X5.out (HE1.out.but hpq (BU1.out.trans (B3.out.trans B5.out))))
          have E2 := Lib.hid e2
          clear e2 b5 g4 d2 d3
          generalize Sl.run gs b1 s1 = s3 at *
          go_wp2_with fail
          refine HK.out.mono ?_; rintro e w6 ⟨b6, h6, k6⟩
          by_cases hz : s3.c = 0
          · obtain ⟨rfl, x6⟩ := h6 hz
            have X6 := Lib.hid x6
            have B6 := Lib.hid (B5.out.trans b6)
            have HW := Lib.hid (show whR gs ex (fun s => Sl.run gs b1 s) gk s3 = fin from by have := E2.out; rw [if_pos hz] at this; exact this)
            have hfu : s3.f ≤ s1.f := HFU4.out.2
            have hf3 := x6.f0
            obtain ⟨j, rfl⟩ : ∃ j', gk = j' + 1 := ⟨gk - 1, by omega⟩
            clear b6 h6 k6 x6 HIN
            by_cases hf6 : s3.f = 0
            · have HY := Lib.hid (show (⟨3, s3.b, s3.f⟩ : St0) = fin from by rw [← HW.out, whR_no hf6])
              go_wp2_with fail
              refine (burn_no X6.out hf6).mono ?_; rintro e w7 ⟨rfl, rfl⟩
              exact ⟨rfl, BU1.out.trans (B3.out.trans B6.out), (fun e => absurd (show (3 : Int) = 0 from by rw [← HY.out] at e; exact e) (by decide)), (fun _ => by rw [← HY.out])⟩
            · have HY := Lib.hid (show inR gs ex (fun s => Sl.run gs b1 s) j ⟨s3.c, s3.b, s3.f - 1⟩ = fin from by rw [← HW.out, whR_in hf6])
              go_wp2_with fail
              refine (burn_yes X6.out hf6).mono ?_; rintro e w7 ⟨rfl, b7, x7⟩
              have X7 := Lib.hid x7
              have B7 := Lib.hid (B6.out.trans b7)
              clear b7 x7
              go_wp2_with fail
              go_roundg j
              case measure => omega
              case rel => exact ⟨⟨s3.c, s3.b, s3.f - 1⟩, hz, X7.out, B7.out, HY.out, by show s3.f - 1 < _; omega⟩
          · obtain rfl := k6 hz
            have e3 : s3 = fin := by have := E2.out; rw [if_neg hz] at this; exact this
            subst e3
            exact ⟨rfl, BU1.out.trans (B3.out.trans (B5.out.trans b6)), (fun e => absurd e hz), fun _ => rfl⟩
set_option maxHeartbeats 8000000 in
set_option maxRecDepth 100000 in
theorem deedX_if (w0 : World) (p : Nat) (ga : Option Addr) (gc : Nat) (gs : List Int) (q : Nat) (ex : List Tk) (b1 b2 : Sl) (hw : eK 2 ex) (hbd : Bd ex) (h1 : DeedsX w0 p ga gc gs q b1) (h2 : DeedsX w0 p ga gc gs q b2) : DeedX w0 p ga gc gs q (.ifs ex b1 b2) := by
  intro D d st w hc hpq hX hD
  obtain ⟨h, n, sa, sn, sc, ba, bn, bc⟩ := d
  obtain rfl : h = ifT := hD.1
  have hbl := bel1 w (.cells #[.string (tx ifT), .string (tx n), .slice sa sn sc, .slice ba bn bc] 115)
  have BU1 := Lib.hid (But.of hbl : But p w _)
  have Q1 := Lib.hid (B4.of (new_of w (.cells #[.string (tx ifT), .string (tx n), .slice sa sn sc, .slice ba bn bc] 115)))
  have HK := Lib.hid (choose_any w0 p ga gc gs q D st _ hc hpq (hX.next hbl) ifT n sa sn sc ba bn bc ex b1 b2 hw hbd (hD.but hpq BU1.out) h1 h2)
  clear hbl hX hD
  generalize Sm.run gs (.ifs ex b1 b2) st = fin at *
  unfold Dv.v
  have qe : ((tx ifT).toList == [105, 102]) = true := tx_eqL _
  have q0 : ((tx ifT).toList == [115, 101, 116]) = false := by rw [Lib.toList_data, tx_data]; decide
  have q1 : ((tx ifT).toList == [99, 117, 116]) = false := by rw [Lib.toList_data, tx_data]; decide
  have q2 : ((tx ifT).toList == [115, 116, 111, 112]) = false := by rw [Lib.toList_data, tx_data]; decide
  have d0 := Q1.out.c0; have d1 := Q1.out.c1; have d2 := Q1.out.c2; have d3 := Q1.out.c3
  go_enter Tryz.func97, Tryz.ntmps97
  go_wp2_with fail
  refine HK.out.mono ?_; rintro e w4 ⟨b4, h4, k4⟩
  by_cases hz : fin.c = 0
  · obtain ⟨rfl, x4⟩ := h4 hz
    have X4 := Lib.hid x4
    have B4' := Lib.hid (BU1.out.trans b4)
    clear b4 h4 k4 x4
    go_wp2_with fail
    exact bodyPost_end (v := .tuple #[]) (by simp [results, Tryz.results97, go_sem]) rfl ⟨B4'.out, (fun _ => ⟨rfl, X4.out⟩), fun e => absurd hz e⟩
  · obtain rfl := k4 hz
    exact ⟨rfl, BU1.out.trans b4, (fun e => absurd e hz), fun _ => rfl⟩
set_option maxHeartbeats 8000000 in
set_option maxRecDepth 100000 in
theorem deedX_whl (w0 : World) (p : Nat) (ga : Option Addr) (gc : Nat) (gs : List Int) (q : Nat) (ex : List Tk) (b1 : Sl) (hw : eK 2 ex) (hbd : Bd ex) (h1 : DeedsX w0 p ga gc gs q b1) : DeedX w0 p ga gc gs q (.whl ex b1) := by
  intro D d st w hc hpq hX hD
  obtain ⟨h, n, sa, sn, sc, ba, bn, bc⟩ := d
  obtain rfl : h = whT := hD.1
  have hbl := bel1 w (.cells #[.string (tx whT), .string (tx n), .slice sa sn sc, .slice ba bn bc] 115)
  have BU1 := Lib.hid (But.of hbl : But p w _)
  have Q1 := Lib.hid (B4.of (new_of w (.cells #[.string (tx whT), .string (tx n), .slice sa sn sc, .slice ba bn bc] 115)))
  have HK := Lib.hid (repeat_any w0 p ga gc gs q D st _ hc hpq (hX.next hbl) whT n sa sn sc ba bn bc ex b1 hw hbd (hD.but hpq BU1.out) h1)
  clear hbl hX hD
  generalize Sm.run gs (.whl ex b1) st = fin at *
  unfold Dv.v
  have qe : ((tx whT).toList == [119, 104, 105, 108, 101]) = true := tx_eqL _
  have q0 : ((tx whT).toList == [115, 101, 116]) = false := by rw [Lib.toList_data, tx_data]; decide
  have q1 : ((tx whT).toList == [99, 117, 116]) = false := by rw [Lib.toList_data, tx_data]; decide
  have q2 : ((tx whT).toList == [115, 116, 111, 112]) = false := by rw [Lib.toList_data, tx_data]; decide
  have q3 : ((tx whT).toList == [105, 102]) = false := by rw [Lib.toList_data, tx_data]; decide
  have d0 := Q1.out.c0; have d1 := Q1.out.c1; have d2 := Q1.out.c2; have d3 := Q1.out.c3
  go_enter Tryz.func97, Tryz.ntmps97
  go_wp2_with fail
  refine HK.out.mono ?_; rintro e w4 ⟨b4, h4, k4⟩
  by_cases hz : fin.c = 0
  · obtain ⟨rfl, x4⟩ := h4 hz
    have X4 := Lib.hid x4
    have B4' := Lib.hid (BU1.out.trans b4)
    clear b4 h4 k4 x4
    go_wp2_with fail
    exact bodyPost_end (v := .tuple #[]) (by simp [results, Tryz.results97, go_sem]) rfl ⟨B4'.out, (fun _ => ⟨rfl, X4.out⟩), fun e => absurd hz e⟩
  · obtain rfl := k4 hz
    exact ⟨rfl, BU1.out.trans b4, (fun e => absurd e hz), fun _ => rfl⟩
theorem Bd.sub {l m : List Tk} (h : Bd l) (hs : ∀ x ∈ m, x ∈ l) (hl : m.length ≤ l.length) : Bd m := ⟨Nat.le_trans hl h.1, fun s hs' => h.2 s (hs s hs')⟩
mutual
theorem Sm.runX (w0 : World) (p : Nat) (ga : Option Addr) (gc : Nat) (gs : List Int) (q : Nat) : ∀ s : Sm, s.wf 5 → Bd s.fl → DeedX w0 p ga gc gs q s
  | .set m e, h, hb => deedX_set w0 p ga gc gs q m e h (hb.sub (fun x hx => by rw [Sm.fl]; simp [hx]) (by rw [Sm.fl]; simp; omega))
  | .cut m, h, hb => deedX_cut w0 p ga gc gs q m
  | .stop, h, hb => deedX_stop w0 p ga gc gs q
  | .ifs e b1 b2, h, hb => by
    rw [Sm.wf] at h
    exact deedX_if w0 p ga gc gs q e b1 b2 h.1 (hb.sub (fun x hx => by rw [Sm.fl]; simp [hx]) (by rw [Sm.fl]; simp; omega))
      (deedsX_of w0 p ga gc gs q b1 (Sl.runX w0 p ga gc gs q b1 (Sl.wf_up b1 (by decide) h.2.1) (hb.sub (fun x hx => by rw [Sm.fl]; simp [hx]) (by rw [Sm.fl]; simp; omega))))
      (deedsX_of w0 p ga gc gs q b2 (Sl.runX w0 p ga gc gs q b2 (Sl.wf_up b2 (by decide) h.2.2) (hb.sub (fun x hx => by rw [Sm.fl]; simp [hx]) (by rw [Sm.fl]; simp; omega))))
  | .whl e b1, h, hb => by
    rw [Sm.wf] at h
    exact deedX_whl w0 p ga gc gs q e b1 h.1 (hb.sub (fun x hx => by rw [Sm.fl]; simp [hx]) (by rw [Sm.fl]; simp; omega))
      (deedsX_of w0 p ga gc gs q b1 (Sl.runX w0 p ga gc gs q b1 (Sl.wf_up b1 (by decide) h.2) (hb.sub (fun x hx => by rw [Sm.fl]; simp [hx]) (by rw [Sm.fl]; simp; omega))))
theorem Sl.runX (w0 : World) (p : Nat) (ga : Option Addr) (gc : Nat) (gs : List Int) (q : Nat) : ∀ s : Sl, s.wf 5 → Bd s.fl → s.each (DeedX w0 p ga gc gs q)
  | .nil, h, hb => by rw [Sl.each]; trivial
  | .cons s r, h, hb => by
    rw [Sl.wf] at h
    rw [Sl.each]
    exact ⟨Sm.runX w0 p ga gc gs q s h.1 (hb.sub (fun x hx => by rw [Sl.fl]; simp [hx]) (by rw [Sl.fl]; simp)), Sl.runX w0 p ga gc gs q r h.2 (hb.sub (fun x hx => by rw [Sl.fl]; simp [hx]) (by rw [Sl.fl]; simp))⟩
end
end Go.Proofs.YtfnnoehpahdgcaaGreatDoor.Cl
namespace Go.Proofs.YtfnnoehpahdgcaaGreatDoor.Cl.T
set_option linter.unusedVariables false
open Go.RowKit Wd Rp Kp
theorem ddE_G (l : List Tk) : ∀ d : Nat, ∃ B R, ddE l d = ddG l B ∧ ddR l d = ddQ l B R
  | 0 => ⟨_, _, rfl, rfl⟩
  | d + 1 => ⟨_, _, rfl, rfl⟩
theorem blk_of {l : List Tk} {f : Int → Int} {R : Int → Sm} (hA : ∀ i, Ahd l i (f i)) {a : List Tk} {rd : Sl} {k : Nat} {r : List Tk} (hd : l.drop k = [91] :: (a ++ ([93] :: r)))
    (h : ∀ n, a.length < n → dlE l f n ((k + 1 : Nat) : Int) = ((k + 1 + a.length : Nat) : Int) ∧ dlR l f R n ((k + 1 : Nat) : Int) = rd) : blS l f (k : Int) = ((k + a.length + 2 : Nat) : Int) ∧ blR l f R (k : Int) = rd := by
  obtain ⟨h1, h2, h3⟩ := drop_head hd
  have hlen := congrArg List.length h3
  rw [List.length_drop, List.length_append, List.length_cons] at hlen
  obtain ⟨e1, e2⟩ := h (l.length + 1) (by omega)
  constructor
  · unfold blS
    rw [if_pos (tkA_of hd), show (k : Int) + 1 = ((k + 1 : Nat) : Int) by omega, ble_dl hA _ _ (by omega), e1, if_pos (tkA_of (drop_more h3))]
    omega
  · unfold blR
    rw [show (k : Int) + 1 = ((k + 1 : Nat) : Int) by omega]
    exact e2
mutual
theorem Sm.det (l : List Tk) : ∀ (s : Sm) (d k : Nat) (r : List Tk), s.wf d → l.drop k = s.fl ++ r → ddE l d (k : Int) = ((k + s.fl.length : Nat) : Int) ∧ ddR l d (k : Int) = s
  | .set n e, d, k, r, hw, hd => by
    rw [Sm.wf] at hw
    obtain ⟨B, R, hB, hR⟩ := ddE_G l d
    rw [hB, hR]
    have hd1 : l.drop k = setT :: (n :: (e ++ r)) := by rw [hd]; rfl
    have hd2 := (drop_head hd1).2.2
    have hd3 := (drop_head hd2).2.2
    obtain ⟨h1, h2⟩ := sm_det hw.2 hd3
    rw [ddG_some (tkA_of hd1), ddQ_some (tkA_of hd1)]
    simp only [if_true, eq_self]
    rw [show (k : Int) + 1 = ((k + 1 : Nat) : Int) by omega, show (k : Int) + 2 = ((k + 1 + 1 : Nat) : Int) by omega, if_pos (nmA_of hd2 hw.1), h1, h2]
    refine ⟨by rw [Sm.fl]; simp only [List.length_cons]; omega, ?_⟩
    unfold tkN
    rw [tkA_of hd2]; rfl
  | .cut n, d, k, r, hw, hd => by
    rw [Sm.wf] at hw
    obtain ⟨B, R, hB, hR⟩ := ddE_G l d
    rw [hB, hR]
    have hd1 : l.drop k = cutT :: (n :: r) := by rw [hd]; rfl
    have hd2 := (drop_head hd1).2.2
    rw [ddG_some (tkA_of hd1), ddQ_some (tkA_of hd1)]
    simp only [cutT_setT, if_false, if_true, eq_self]
    rw [show (k : Int) + 1 = ((k + 1 : Nat) : Int) by omega, if_pos (nmA_of hd2 hw)]
    refine ⟨by rw [Sm.fl]; simp only [List.length_cons, List.length_nil]; omega, ?_⟩
    unfold tkN
    rw [tkA_of hd2]; rfl
  | .stop, d, k, r, hw, hd => by
    obtain ⟨B, R, hB, hR⟩ := ddE_G l d
    rw [hB, hR]
    have hd1 : l.drop k = stopT :: r := by rw [hd]; rfl
    rw [ddG_some (tkA_of hd1), ddQ_some (tkA_of hd1)]
    simp only [stopT_setT, stopT_cutT, if_false, if_true, eq_self]
    exact ⟨by rw [Sm.fl]; simp only [List.length_cons, List.length_nil]; omega, by first | exact trivial | rfl⟩
  | .ifs e a b, 0, k, r, hw, hd => by rw [Sm.wf] at hw; exact hw.elim
  | .ifs e a b, d + 1, k, r, hw, hd => by
    rw [Sm.wf] at hw
    have hd1 : l.drop k = ifT :: (e ++ ([91] :: (a.fl ++ ([93] :: ([91] :: (b.fl ++ ([93] :: r))))))) := by rw [hd]; simp [Sm.fl]
    have hd2 := (drop_head hd1).2.2
    obtain ⟨h1, h2⟩ := sm_det hw.1 hd2
    have hd3 := drop_more hd2
    obtain ⟨h3, h4⟩ := blk_of (ddE_ahd l d) (R := ddR l d) (rd := a) hd3 (fun n hn => Sl.det l a d _ _ n hw.2.1 (drop_head hd3).2.2 (Or.inr ⟨_, rfl⟩) hn)
    have hd4 : l.drop (k + 1 + e.length + a.fl.length + 2) = [91] :: (b.fl ++ ([93] :: r)) := by
      have := (drop_head (drop_more (drop_head hd3).2.2)).2.2
      rw [show k + 1 + e.length + a.fl.length + 2 = k + 1 + e.length + 1 + a.fl.length + 1 by omega]; exact this
    obtain ⟨h5, h6⟩ := blk_of (ddE_ahd l d) (R := ddR l d) (rd := b) hd4 (fun n hn => Sl.det l b d _ _ n hw.2.2 (drop_head hd4).2.2 (Or.inr ⟨_, rfl⟩) hn)
    have hE : ddE l (d + 1) (k : Int) = ddG l (blS l (ddE l d)) (k : Int) := rfl
    have hR : ddR l (d + 1) (k : Int) = ddQ l (blS l (ddE l d)) (blR l (ddE l d) (ddR l d)) (k : Int) := rfl
    rw [hE, hR, ddG_some (tkA_of hd1), ddQ_some (tkA_of hd1)]
    simp only [ifT_setT, ifT_cutT, ifT_stopT, if_false, if_true, eq_self]
    rw [show (k : Int) + 1 = ((k + 1 : Nat) : Int) by omega, h1, h2, h3, h4, h5, h6]
    refine ⟨by rw [Sm.fl]; simp only [List.length_cons, List.length_nil, List.length_append]; omega, ?_⟩
    rfl
  | .whl e a, 0, k, r, hw, hd => by rw [Sm.wf] at hw; exact hw.elim
  | .whl e a, d + 1, k, r, hw, hd => by
    rw [Sm.wf] at hw
    have hd1 : l.drop k = whT :: (e ++ ([91] :: (a.fl ++ ([93] :: r)))) := by rw [hd]; simp [Sm.fl]
    have hd2 := (drop_head hd1).2.2
    obtain ⟨h1, h2⟩ := sm_det hw.1 hd2
    have hd3 := drop_more hd2
    obtain ⟨h3, h4⟩ := blk_of (ddE_ahd l d) (R := ddR l d) (rd := a) hd3 (fun n hn => Sl.det l a d _ _ n hw.2 (drop_head hd3).2.2 (Or.inr ⟨_, rfl⟩) hn)
    have hE : ddE l (d + 1) (k : Int) = ddG l (blS l (ddE l d)) (k : Int) := rfl
    have hR : ddR l (d + 1) (k : Int) = ddQ l (blS l (ddE l d)) (blR l (ddE l d) (ddR l d)) (k : Int) := rfl
    rw [hE, hR, ddG_some (tkA_of hd1), ddQ_some (tkA_of hd1)]
    simp only [whT_setT, whT_cutT, whT_stopT, whT_ifT, if_false, if_true, eq_self]
    rw [show (k : Int) + 1 = ((k + 1 : Nat) : Int) by omega, h1, h2, h3, h4]
    refine ⟨by rw [Sm.fl]; simp only [List.length_cons, List.length_nil, List.length_append]; omega, ?_⟩
    rfl
theorem Sl.det (l : List Tk) : ∀ (a : Sl) (d k : Nat) (r : List Tk) (n : Nat), a.wf d → l.drop k = a.fl ++ r → (r = [] ∨ ∃ q, r = [93] :: q) → a.fl.length < n → dlE l (ddE l d) n (k : Int) = ((k + a.fl.length : Nat) : Int) ∧ dlR l (ddE l d) (ddR l d) n (k : Int) = a
  | .nil, d, k, r, 0, hw, hd, hr, hn => by omega
  | .nil, d, k, r, n + 1, hw, hd, hr, hn => by
    have hd : l.drop k = r := hd
    have e0 : ((k + (Sl.fl .nil).length : Nat) : Int) = (k : Int) := by rw [Sl.fl]; simp
    rw [e0]
    rcases hr with rfl | ⟨q, rfl⟩
    · have hk : l.length ≤ k := List.drop_eq_nil_iff.1 hd
      rw [dlE, dlR, tkA_out (by omega)]
      exact ⟨rfl, rfl⟩
    · rw [dlE, dlR, tkA_of hd]
      exact ⟨if_pos rfl, if_pos rfl⟩
  | .cons s t, d, k, r, 0, hw, hd, hr, hn => by omega
  | .cons s t, d, k, r, n + 1, hw, hd, hr, hn => by
    rw [Sl.wf] at hw
    rw [Sl.fl, List.length_append] at hn
    have hd1 : l.drop k = s.fl ++ (t.fl ++ r) := by rw [hd, Sl.fl, List.append_assoc]
    obtain ⟨h1, h2⟩ := Sm.det l s d k _ hw.1 hd1
    obtain ⟨c, q, hq, hc⟩ := s.head
    have hp := s.pos
    obtain ⟨h3, h4⟩ := Sl.det l t d (k + s.fl.length) r n hw.2 (drop_more hd1) hr (by omega)
    have ht : tkA l (k : Int) = some c := tkA_of (by rw [hd1, hq]; rfl)
    rw [dlE, dlR, ht]
    dsimp only
    rw [if_neg hc, if_neg hc, h1, h2, h3, h4, Sl.fl, List.length_append]
    exact ⟨by omega, rfl⟩
end
theorem rc_det {t : Sl} (hw : t.wf 5) : rcR t.fl = t :=
  (Sl.det t.fl t 5 0 [] (t.fl.length + 1) hw (by simp) (Or.inl rfl) (by omega)).2
end Go.Proofs.YtfnnoehpahdgcaaGreatDoor.Cl.T
namespace Go.Proofs.YtfnnoehpahdgcaaGreatDoor.Cl
set_option linter.unusedVariables false
open Go.RowKit Wd Rp Kp
structure Rcx (w0 : World) (a : Option Addr) (n cap : Nat) (l : List Tk) (ga : Option Addr) (gc : Nat) (gs : List Int) : Prop where
  hn : l.length = n
  hl : n ≤ 4194304
  hm : ∀ s ∈ l, s.length ≤ 4194304
  hv : V1 w0 a cap (txL l)
  hg : V1 w0 ga gc (inL gs)
  hg3 : gs.length = 3
theorem st7_len {l : List Bi} {n : ByteArray} {x : Int} (h : l.length ≤ 12) : (st7 l n x).1.length ≤ 12 := by
  have h2 := stI_len l n x
  unfold st7
  by_cases ha : isAt n l = true
  · rw [if_pos ha]
    rw [if_pos ha] at h2
    show (stI l n x).length ≤ 12
    omega
  · rw [if_neg ha]
    rw [if_neg ha] at h2
    split
    · exact h
    · show (stI l n x).length ≤ 12
      omega
theorem ctI_le {l : List Bi} {n : ByteArray} (h : l.length ≤ 12) : (ctI l n).length ≤ 12 := by have := ctI_len l n; split at this <;> omega
set_option maxHeartbeats 4000000 in
set_option maxRecDepth 100000 in
theorem deed_stop (w0 : World) (p : Nat) (a : Option Addr) (cap : Nat) (l : List Tk) (n : Nat) (ga : Option Addr) (gc : Nat) (gs : List Int) (C : Rcx w0 a n cap l ga gc gs) : DeedR w0 p a n cap l ga gc gs .stop := by
  intro k r st w hd hc hR
  have hw : Sm.wf 5 .stop := by rw [Sm.wf]; trivial
  have HB := Lib.hid (deedS_all a cap l n C.hn C.hl C.hm 5 (by decide) w (k : Int) ⟨by omega, by have h1 := (drop_head (show l.drop k = stopT :: r from hd)).2.1; have := C.hn; have := C.hl; omega⟩ (C.hv.below hR.bw))
  rw [(Sm.det l .stop 5 k r hw hd).1] at HB
  obtain ⟨hk1, hk2, hd1⟩ := drop_head (show l.drop k = stopT :: r from hd)
  have hkn : k < n := by have := C.hn; omega
  have hE : Sm.run gs .stop st = ⟨1, st.b, st.f⟩ := by rw [Sm.run]
  rw [hE]; clear hE
  generalize ((k + (Sm.fl .stop).length : Nat) : Int) = y at *
  have HR := Lib.hid hR; clear hR
  have HV := Lib.hid (C.hv.below HR.out.bw)
  clear hd hd1
  go_enter Tryz.func83, Tryz.ntmps83
  go_wp2_with fail
  refine HB.out.mono ?_; rintro e w1 ⟨rfl, b1⟩
  have HR1 := Lib.hid (HR.out.next b1)
  obtain ⟨g', o', rfl, hg, c0⟩ := (HV.out.below b1).tx hk1
  replace c0 : w1.cell? ⟨g', o' + k, none⟩ = some (.string ⟨#[115, 116, 111, 112]⟩) := c0
  have f1 := HR1.out.fz.1
  have c1 := HR1.out.c
  clear b1 hg hk1
  go_wp2_with fail
  go_ret
  exact ⟨rfl, HR1.out.putC 1⟩
set_option maxHeartbeats 4000000 in
set_option maxRecDepth 100000 in
theorem deed_cut (w0 : World) (p : Nat) (a : Option Addr) (cap : Nat) (l : List Tk) (n : Nat) (ga : Option Addr) (gc : Nat) (gs : List Int) (C : Rcx w0 a n cap l ga gc gs) (m : Tk) (hm : nmB m = true) : DeedR w0 p a n cap l ga gc gs (.cut m) := by
  intro k r st w hd hc hR
  have hw : Sm.wf 5 (.cut m) := by rw [Sm.wf]; exact hm
  have hd0 : l.drop k = cutT :: (m :: r) := by rw [hd]; rfl
  obtain ⟨hk1, hk2, hd1⟩ := drop_head hd0
  obtain ⟨hk3, hk4, -⟩ := drop_head hd1
  have hkn : k + 1 < n := by have := C.hn; omega
  have HB := Lib.hid (deedS_all a cap l n C.hn C.hl C.hm 5 (by decide) w (k : Int) ⟨by omega, by have := C.hl; omega⟩ (C.hv.below hR.bw))
  rw [(Sm.det l (.cut m) 5 k r hw hd).1] at HB
  have hE : Sm.run gs (.cut m) st = ⟨st.c, ctI st.b (tx m), st.f⟩ := by rw [Sm.run]
  rw [hE]; clear hE
  generalize ((k + (Sm.fl (.cut m)).length : Nat) : Int) = y at *
  have HR := Lib.hid hR; clear hR
  have HV := Lib.hid (C.hv.below HR.out.bw)
  have hl4 := C.hl
  clear hd hd0 hd1
  go_enter Tryz.func83, Tryz.ntmps83
  go_wp2_with fail
  refine HB.out.mono ?_; rintro e w1 ⟨rfl, b1⟩
  have HR1 := Lib.hid (HR.out.next b1)
  have HV1 := Lib.hid (HV.out.below b1); clear b1
  obtain ⟨g', o', rfl, hg, c0⟩ := HV1.out.tx hk1
  obtain ⟨g2, o2, e2, hg2, c2⟩ := HV1.out.tx hk3
  cases e2
  replace c0 : w1.cell? ⟨g', o' + k, none⟩ = some (.string ⟨#[99, 117, 116]⟩) := c0
  have TOK := Lib.hid (show ∀ z, Below w0.heap.size w0 z → z.cell? ⟨g', o' + (k + 1), none⟩ = some (.string (tx m)) from fun z hz => by
    obtain ⟨g4, o4, e4, -, c4⟩ := (C.hv.below hz).tx hk3
    cases e4; exact c4)
  obtain ⟨v, cv, hO, hne⟩ := HR1.out.b
  have HR2 := Lib.hid (HR1.out.next (Below.refl _ _).drew)
  have O2 := Lib.hid (hO.next (Below.refl _ _).drew)
  have HL := Lib.hid (l7Cut_own w1.drew v st.b (tx m) O2.out HR2.out.bw.size (by have := HR2.out.bl; omega))
  have NE := Lib.hid hne
  have CV := Lib.hid (show w1.drew.cell? ⟨p, 1, none⟩ = some v from cv)
  have i1 : (k : Int) + 1 ≤ 9223372036854775807 := by omega
  have i7 : IntKind.i64.wrap ((k : Int) + 1) = ((k + 1 : Nat) : Int) := by rw [IntKind.wrap_i64]; omega
  have i8 : (0 : Int) ≤ (k : Int) + 1 := by omega
  have i9 : (k : Int) + 1 < (n : Int) := by omega
  clear hO hne hk1 hk3 hg hg2
  go_wp2_with fail
  refine wp_region_held_drew (S := fun z => z.cell? ⟨g', o' + (k + 1), none⟩ = some (.string (tx m)) ∧ Below w0.heap.size w0 z) (by kernel_rfl) ⟨TOK.out _ HR2.out.bw, HR2.out.bw⟩ (fun hHeld => ?_)
  refine wpAnyH_take (i := 0) (v := ?v0c) rfl (by kernel_rfl) (by kernel_rfl) (by kernel_rfl) (fun _ _ _ h => h) (Or.inl ⟨by rfl, ?hy0c⟩) (by assumption) ?rest0c
  case hy0c => (intro zz hSw; (try dsimp only at hSw); go_simp; (try with_reducible rfl))
  change wpAnyH _ _ _ _ _ _ _ (Act.put _ (some 66) _) _
  simp only [Act.put, List.setIfInBounds_toArray, List.set_cons_zero, List.set_cons_succ]
  refine wpAnyH_take (i := 1) (v := ?v1c) rfl (by kernel_rfl) (by kernel_rfl) (by kernel_rfl) (fun _ _ _ h => h) (Or.inl ⟨by rfl, ?hy1c⟩) (by assumption) ?rest1c
  case hy1c => (intro zz hSw; (try dsimp only at hSw); go_simp; (try with_reducible rfl))
  change wpAnyH _ _ _ _ _ _ _ (Act.put _ (some 67) _) _
  simp only [Act.put, List.setIfInBounds_toArray, List.set_cons_zero, List.set_cons_succ]
  refine wpAnyH_take (i := 2) (v := ?v2c) rfl (by kernel_rfl) (by kernel_rfl) (by kernel_rfl) (fun _ _ _ h => h) (Or.inl ⟨by rfl, ?hy2c⟩) (by assumption) ?rest2c
  case hy2c => (intro zz hSw; (try dsimp only at hSw); go_simp; (try with_reducible rfl))
  change wpAnyH _ _ _ _ _ _ _ (Act.put _ (some 68) _) _
  simp only [Act.put, List.setIfInBounds_toArray, List.set_cons_zero, List.set_cons_succ]
  refine wpAnyH_take (i := 3) (v := ?v3c) rfl (by kernel_rfl) (by kernel_rfl) (by kernel_rfl) (fun _ _ _ h => h) (Or.inl ⟨by rfl, ?hy3c⟩) (by assumption) ?rest3c
  case hy3c => (intro zz hSw; (try dsimp only at hSw); go_simp; (try with_reducible rfl))
  change wpAnyH _ _ _ _ _ _ _ (Act.put _ (some 69) _) _
  simp only [Act.put, List.setIfInBounds_toArray, List.set_cons_zero, List.set_cons_succ]
  refine wpAnyH_take (i := 5) (v := ?v5c) rfl (by kernel_rfl) (by kernel_rfl) (by kernel_rfl) (fun _ _ _ h => h) (Or.inl ⟨by rfl, ?hy5c⟩) (by assumption) ?rest5c
  case hy5c => (intro zz hSw; (try dsimp only at hSw); go_simp; (try with_reducible rfl))
  change wpAnyH _ _ _ _ _ _ _ (Act.put _ (some 71) _) _
  simp only [Act.put, List.setIfInBounds_toArray, List.set_cons_zero, List.set_cons_succ]
  refine wpAnyH_take (i := 6) (v := ?v6c) rfl (by kernel_rfl) (by kernel_rfl) (by kernel_rfl) (fun _ _ _ h => h) (Or.inl ⟨by rfl, ?hy6c⟩) (by assumption) ?rest6c
  case hy6c => (intro zz hSw; (try dsimp only at hSw); go_simp; (try with_reducible rfl))
  change wpAnyH _ _ _ _ _ _ _ (Act.put _ (some 72) _) _
  simp only [Act.put, List.setIfInBounds_toArray, List.set_cons_zero, List.set_cons_succ]
  refine wpAnyH_take (i := 7) (v := ?v7c) rfl (by kernel_rfl) (by kernel_rfl) (by kernel_rfl) (fun _ _ _ h => h) (Or.inl ⟨by rfl, ?hy7c⟩) (by assumption) ?rest7c
  case hy7c => (intro zz hSw; (try dsimp only at hSw); go_simp; (try with_reducible rfl))
  change wpAnyH _ _ _ _ _ _ _ (Act.put _ (some 73) _) _
  simp only [Act.put, List.setIfInBounds_toArray, List.set_cons_zero, List.set_cons_succ]
  refine wpAnyH_take (i := 8) (v := ?v8c) rfl (by kernel_rfl) (by kernel_rfl) (by kernel_rfl) (fun _ _ _ h => h) (Or.inl ⟨by rfl, ?hy8c⟩) (by assumption) ?rest8c
  case hy8c => (intro zz hSw; (try dsimp only at hSw); go_simp; (try with_reducible rfl))
  change wpAnyH _ _ _ _ _ _ _ (Act.put _ (some 74) _) _
  simp only [Act.put, List.setIfInBounds_toArray, List.set_cons_zero, List.set_cons_succ]
  refine wpAnyH_take (i := 9) (v := ?v9c) rfl (by kernel_rfl) (by kernel_rfl) (by kernel_rfl) (fun _ _ _ h => h) (Or.inl ⟨by rfl, ?hy9c⟩) (by assumption) ?rest9c
  case hy9c => (intro zz hSw; (try dsimp only at hSw); go_simp; (try with_reducible rfl))
  change wpAnyH _ _ _ _ _ _ _ (Act.put _ (some 75) _) _
  simp only [Act.put, List.setIfInBounds_toArray, List.set_cons_zero, List.set_cons_succ]
  refine wpAnyH_ready (rs := [4]) (by kernel_rfl) (by simp) (AllReadyH.cons rfl (fun K hK => ?_) (AllReadyH.nil))
  go_simp
  refine hK.out _ _ hHeld (fun hHeld => ?_)
  clear hK K
  refine wpAnyH_ready (rs := [10]) (by kernel_rfl) (by simp) (AllReadyH.cons rfl (fun K hK => ?_) (AllReadyH.nil))
  go_simp
  refine HL.out.mono ?_; rintro e w3 ⟨v3, rfl, o3, b3, k3⟩
  obtain ⟨va3, vc3, rfl, -⟩ := o3.view
  have HR3 := Lib.hid (HR2.out.putB CV.out k3 o3 b3 (ctI_le HR2.out.bl))
  have F3 := Lib.hid (show w3.frozen? ⟨p, 1, none⟩ = false by have := HR3.out.fz.2.1; simpa only [World.frozen?_setCell] using this)
  have C3 := Lib.hid ((World.cell?_of_block (w := w1.drew) (a := ⟨p, 1, none⟩) (k3.blk p HR2.out.hp NE.out)).trans CV.out)
  have P3 := Lib.hid (Nat.lt_of_lt_of_le HR2.out.hp k3.size)
  refine hK.out _ _ ⟨TOK.out _ (hHeld.2.trans b3), hHeld.2.trans b3⟩ (fun hHeld => ?_)
  clear hK K o3 b3 k3
  have f3 := F3.out
  have p3 := P3.out
  have c3 := C3.out
  refine wpAnyH_take (i := 11) (v := ?v11c) rfl (by kernel_rfl) (by kernel_rfl) (by kernel_rfl) (fun _ _ _ h => h) (Or.inl ⟨by rfl, ?hy11c⟩) (by assumption) ?rest11c
  case hy11c => (intro zz hSw; (try dsimp only at hSw); go_simp; (try with_reducible rfl))
  change wpAnyH _ _ _ _ _ _ _ (Act.put _ (some 77) _) _
  simp only [Act.put, List.setIfInBounds_toArray, List.set_cons_zero, List.set_cons_succ]
  refine wpAnyH_take (i := 12) (v := ?v12c) rfl (by kernel_rfl) (by kernel_rfl) (by kernel_rfl) (fun _ _ _ h => h) (Or.inl ⟨by rfl, ?hy12c⟩) (by assumption) ?rest12c
  case hy12c => (intro zz hSw; (try dsimp only at hSw); go_simp; (try with_reducible rfl))
  change wpAnyH _ _ _ _ _ _ _ (Act.put _ (some 78) _) _
  simp only [Act.put, List.setIfInBounds_toArray, List.set_cons_zero, List.set_cons_succ]
  refine wpAnyH_ready (rs := [13]) (by kernel_rfl) (by simp) (AllReadyH.cons rfl (fun K hK => ?_) (AllReadyH.nil))
  go_simp
  refine hK.out _ _ ⟨TOK.out _ HR3.out.bw, HR3.out.bw⟩ (fun hHeld => ?_)
  clear hK K
  refine wpAnyH_done (by kernel_rfl) ?_ _
  go_wp2_with fail
  go_ret
  exact ⟨rfl, HR3.out⟩
end Go.Proofs.YtfnnoehpahdgcaaGreatDoor.Cl
namespace Go.Proofs.YtfnnoehpahdgcaaGreatDoor.Cl
set_option linter.unusedVariables false
open Go.RowKit Wd Rp Kp
set_option maxHeartbeats 8000000 in
set_option maxRecDepth 100000 in
theorem deed_set (w0 : World) (p : Nat) (a : Option Addr) (cap : Nat) (l : List Tk) (n : Nat) (ga : Option Addr) (gc : Nat) (gs : List Int) (C : Rcx w0 a n cap l ga gc gs) (m : Tk) (ex : List Tk) (hw : Sm.wf 5 (.set m ex)) : DeedR w0 p a n cap l ga gc gs (.set m ex) := by
  intro k r st w hd hc hR
  have hd0 : l.drop k = setT :: (m :: (ex ++ r)) := by rw [hd]; rfl
  obtain ⟨hk1, hk2, hd1⟩ := drop_head hd0
  obtain ⟨hk3, hk4, hd2⟩ := drop_head hd1
  have hkn : k + 1 < n := by have := C.hn; omega
  have HB := Lib.hid (deedS_all a cap l n C.hn C.hl C.hm 5 (by decide) w (k : Int) ⟨by omega, by have := C.hl; omega⟩ (C.hv.below hR.bw))
  rw [(Sm.det l (.set m ex) 5 k r hw hd).1] at HB
  have he : eOk ex := by rw [Sm.wf] at hw; exact hw.2.ok
  have HSUM := Lib.hid (fun w h => l10Sum_any w0 p a cap l n C.hn C.hl C.hm C.hv ga gc gs C.hg C.hg3 he (k + 1 + 1) r hd2 st w h)
  have hE : Sm.run gs (.set m ex) st = (if (evE gs st.b ex).2 = false then ⟨2, st.b, st.f⟩ else ⟨(if (st7 st.b (tx m) (evE gs st.b ex).1).2 then st.c else 4), (st7 st.b (tx m) (evE gs st.b ex).1).1, st.f⟩) := by rw [Sm.run]
  rw [hE]; clear hE
  rw [show ((k + 1 + 1 : Nat) : Int) = (k : Int) + 2 by omega] at HSUM
  generalize ((k + (Sm.fl (.set m ex)).length : Nat) : Int) = y at *
  generalize ((k + 1 + 1 + ex.length : Nat) : Int) = y2 at *
  generalize evE gs st.b ex = xx at *
  obtain ⟨x, is⟩ := xx
  generalize hfin : (if (x, is).2 = false then (⟨2, st.b, st.f⟩ : St0) else ⟨(if (st7 st.b (tx m) (x, is).1).2 then st.c else 4), (st7 st.b (tx m) (x, is).1).1, st.f⟩) = fin
  have HFIN := Lib.hid hfin; clear hfin
  have HR := Lib.hid hR; clear hR
  have HV := Lib.hid (C.hv.below HR.out.bw)
  have hl4 := C.hl
  clear hd hd0 hd1 hd2 he hw
  go_enter Tryz.func83, Tryz.ntmps83
  go_wp2_with fail
  refine HB.out.mono ?_; rintro e w1 ⟨rfl, b1⟩
  have HR1 := Lib.hid (HR.out.next b1)
  have HV1 := Lib.hid (HV.out.below b1); clear b1
  obtain ⟨g', o', rfl, hg, c0⟩ := HV1.out.tx hk1
  replace c0 : w1.cell? ⟨g', o' + k, none⟩ = some (.string ⟨#[115, 101, 116]⟩) := c0
  have TOK := Lib.hid (show ∀ z, Below w0.heap.size w0 z → z.cell? ⟨g', o' + (k + 1), none⟩ = some (.string (tx m)) from fun z hz => by
    obtain ⟨g4, o4, e4, -, c4⟩ := (C.hv.below hz).tx hk3
    cases e4; exact c4)
  have i1 : (k : Int) + 1 ≤ 9223372036854775807 := by omega
  have i2 : (k : Int) + 2 ≤ 9223372036854775807 := by omega
  have i7 : IntKind.i64.wrap ((k : Int) + 1) = ((k + 1 : Nat) : Int) := by rw [IntKind.wrap_i64]; omega
  have i8 : (0 : Int) ≤ (k : Int) + 1 := by omega
  have i9 : (k : Int) + 1 < (n : Int) := by omega
  have HS1 := Lib.hid (HSUM.out w1 HR1.out)
  clear hk1 hk3 hg
  cases is
  · have HX := Lib.hid (show (⟨2, st.b, st.f⟩ : St0) = fin from HFIN.out)
    go_wp2_with fail
    refine HS1.out.mono ?_; rintro e w2 ⟨rfl, hR2⟩
    have HR2 := Lib.hid (show Rn w0 p ⟨2, st.b, st.f⟩ w2 from hR2); clear hR2
    have c2 : w2.cell? ⟨p, 0, none⟩ = some (.int .i64 2) := HR2.out.c
    go_wp2_with fail
    go_ret
    exact ⟨rfl, by rw [← HX.out]; exact HR2.out⟩
  · have HX := Lib.hid (show (⟨(if (st7 st.b (tx m) x).2 then st.c else 4), (st7 st.b (tx m) x).1, st.f⟩ : St0) = fin from HFIN.out)
    clear HFIN
    have HLEN := Lib.hid (st7_len (n := tx m) (x := x) HR.out.bl)
    generalize hq : st7 st.b (tx m) x = q at *
    obtain ⟨l7, fg⟩ := q
    go_wp2_with fail
    refine HS1.out.mono ?_; rintro e w2 ⟨rfl, hR2⟩
    have HR2 := Lib.hid (show Rn w0 p st w2 from hR2)
    have c2 : w2.cell? ⟨p, 0, none⟩ = some (.int .i64 0) := by rw [← hc]; exact HR2.out.c
    obtain ⟨v, cv, hO, hne⟩ := HR2.out.b
    clear hR2
    have HR3 := Lib.hid (HR2.out.next (Below.refl _ _).drew)
    have O2 := Lib.hid (hO.next (Below.refl _ _).drew)
    have HL := Lib.hid (l7Set_own w2.drew v st.b (tx m) x O2.out HR3.out.bw.size (by have := HR3.out.bl; omega))
    rw [hq] at HL
    have NE := Lib.hid hne
    have CV := Lib.hid (show w2.drew.cell? ⟨p, 1, none⟩ = some v from cv)
    clear hO hne hq
    go_wp2_with fail
    refine wp_region_held_drew (S := fun z => z.cell? ⟨g', o' + (k + 1), none⟩ = some (.string (tx m)) ∧ Below w0.heap.size w0 z) (by kernel_rfl) ⟨TOK.out _ HR3.out.bw, HR3.out.bw⟩ (fun hHeld => ?_)
    refine wpAnyH_take (i := 0) (v := ?v0s) rfl (by kernel_rfl) (by kernel_rfl) (by kernel_rfl) (fun _ _ _ h => h) (Or.inl ⟨by rfl, ?hy0s⟩) (by assumption) ?rest0s
    case hy0s => (intro zz hSw; (try dsimp only at hSw); go_simp; (try with_reducible rfl))
    change wpAnyH _ _ _ _ _ _ _ (Act.put _ (some 42) _) _
    simp only [Act.put, List.setIfInBounds_toArray, List.set_cons_zero, List.set_cons_succ]
    refine wpAnyH_take (i := 1) (v := ?v1s) rfl (by kernel_rfl) (by kernel_rfl) (by kernel_rfl) (fun _ _ _ h => h) (Or.inl ⟨by rfl, ?hy1s⟩) (by assumption) ?rest1s
    case hy1s => (intro zz hSw; (try dsimp only at hSw); go_simp; (try with_reducible rfl))
    change wpAnyH _ _ _ _ _ _ _ (Act.put _ (some 43) _) _
    simp only [Act.put, List.setIfInBounds_toArray, List.set_cons_zero, List.set_cons_succ]
    refine wpAnyH_take (i := 2) (v := ?v2s) rfl (by kernel_rfl) (by kernel_rfl) (by kernel_rfl) (fun _ _ _ h => h) (Or.inl ⟨by rfl, ?hy2s⟩) (by assumption) ?rest2s
    case hy2s => (intro zz hSw; (try dsimp only at hSw); go_simp; (try with_reducible rfl))
    change wpAnyH _ _ _ _ _ _ _ (Act.put _ (some 44) _) _
    simp only [Act.put, List.setIfInBounds_toArray, List.set_cons_zero, List.set_cons_succ]
    refine wpAnyH_take (i := 4) (v := ?v4s) rfl (by kernel_rfl) (by kernel_rfl) (by kernel_rfl) (fun _ _ _ h => h) (Or.inl ⟨by rfl, ?hy4s⟩) (by assumption) ?rest4s
    case hy4s => (intro zz hSw; (try dsimp only at hSw); go_simp; (try with_reducible rfl))
    change wpAnyH _ _ _ _ _ _ _ (Act.put _ (some 46) _) _
    simp only [Act.put, List.setIfInBounds_toArray, List.set_cons_zero, List.set_cons_succ]
    refine wpAnyH_take (i := 5) (v := ?v5s) rfl (by kernel_rfl) (by kernel_rfl) (by kernel_rfl) (fun _ _ _ h => h) (Or.inl ⟨by rfl, ?hy5s⟩) (by assumption) ?rest5s
    case hy5s => (intro zz hSw; (try dsimp only at hSw); go_simp; (try with_reducible rfl))
    change wpAnyH _ _ _ _ _ _ _ (Act.put _ (some 47) _) _
    simp only [Act.put, List.setIfInBounds_toArray, List.set_cons_zero, List.set_cons_succ]
    refine wpAnyH_take (i := 6) (v := ?v6s) rfl (by kernel_rfl) (by kernel_rfl) (by kernel_rfl) (fun _ _ _ h => h) (Or.inl ⟨by rfl, ?hy6s⟩) (by assumption) ?rest6s
    case hy6s => (intro zz hSw; (try dsimp only at hSw); go_simp; (try with_reducible rfl))
    change wpAnyH _ _ _ _ _ _ _ (Act.put _ (some 48) _) _
    simp only [Act.put, List.setIfInBounds_toArray, List.set_cons_zero, List.set_cons_succ]
    refine wpAnyH_take (i := 7) (v := ?v7s) rfl (by kernel_rfl) (by kernel_rfl) (by kernel_rfl) (fun _ _ _ h => h) (Or.inl ⟨by rfl, ?hy7s⟩) (by assumption) ?rest7s
    case hy7s => (intro zz hSw; (try dsimp only at hSw); go_simp; (try with_reducible rfl))
    change wpAnyH _ _ _ _ _ _ _ (Act.put _ (some 49) _) _
    simp only [Act.put, List.setIfInBounds_toArray, List.set_cons_zero, List.set_cons_succ]
    refine wpAnyH_take (i := 8) (v := ?v8s) rfl (by kernel_rfl) (by kernel_rfl) (by kernel_rfl) (fun _ _ _ h => h) (Or.inl ⟨by rfl, ?hy8s⟩) (by assumption) ?rest8s
    case hy8s => (intro zz hSw; (try dsimp only at hSw); go_simp; (try with_reducible rfl))
    change wpAnyH _ _ _ _ _ _ _ (Act.put _ (some 50) _) _
    simp only [Act.put, List.setIfInBounds_toArray, List.set_cons_zero, List.set_cons_succ]
    refine wpAnyH_take (i := 9) (v := ?v9s) rfl (by kernel_rfl) (by kernel_rfl) (by kernel_rfl) (fun _ _ _ h => h) (Or.inl ⟨by rfl, ?hy9s⟩) (by assumption) ?rest9s
    case hy9s => (intro zz hSw; (try dsimp only at hSw); go_simp; (try with_reducible rfl))
    change wpAnyH _ _ _ _ _ _ _ (Act.put _ (some 51) _) _
    simp only [Act.put, List.setIfInBounds_toArray, List.set_cons_zero, List.set_cons_succ]
    refine wpAnyH_ready (rs := [3]) (by kernel_rfl) (by simp) (AllReadyH.cons rfl (fun K hK => ?_) (AllReadyH.nil))
    go_simp
    refine hK.out _ _ hHeld (fun hHeld => ?_)
    clear hK K
    refine wpAnyH_ready (rs := [10]) (by kernel_rfl) (by simp) (AllReadyH.cons rfl (fun K hK => ?_) (AllReadyH.nil))
    go_simp
    refine HL.out.mono ?_; rintro e w3 ⟨v3, rfl, o3, b3, k3⟩
    obtain ⟨va3, vc3, rfl, -⟩ := o3.view
    have HR4 := Lib.hid (HR3.out.putB CV.out k3 o3 b3 HLEN.out)
    have f3 : w3.frozen? ⟨p, 1, none⟩ = false := by have := HR4.out.fz.2.1; simpa only [World.frozen?_setCell] using this
    have f30 : w3.frozen? ⟨p, 0, none⟩ = false := by have := HR4.out.fz.1; simpa only [World.frozen?_setCell] using this
    have K3 := k3.blk p HR3.out.hp NE.out
    have c3 := (World.cell?_of_block (w := w2.drew) (a := ⟨p, 1, none⟩) K3).trans CV.out
    have c30 : w3.cell? ⟨p, 0, none⟩ = some (.int .i64 0) := (World.cell?_of_block (w := w2.drew) (a := ⟨p, 0, none⟩) K3).trans c2
    have p3 := Nat.lt_of_lt_of_le HR3.out.hp k3.size
    refine hK.out _ _ ⟨TOK.out _ (hHeld.2.trans b3), hHeld.2.trans b3⟩ (fun hHeld => ?_)
    clear hK K o3 b3 k3 K3
    refine wpAnyH_take (i := 11) (v := ?v11s) rfl (by kernel_rfl) (by kernel_rfl) (by kernel_rfl) (fun _ _ _ h => h) (Or.inl ⟨by rfl, ?hy11s⟩) (by assumption) ?rest11s
    case hy11s => (intro zz hSw; (try dsimp only at hSw); go_simp; (try with_reducible rfl))
    change wpAnyH _ _ _ _ _ _ _ (Act.put _ (some 41) _) _
    simp only [Act.put, List.setIfInBounds_toArray, List.set_cons_zero, List.set_cons_succ]
    refine wpAnyH_take (i := 12) (v := ?v12s) rfl (by kernel_rfl) (by kernel_rfl) (by kernel_rfl) (fun _ _ _ h => h) (Or.inl ⟨by rfl, ?hy12s⟩) (by assumption) ?rest12s
    case hy12s => (intro zz hSw; (try dsimp only at hSw); go_simp; (try with_reducible rfl))
    change wpAnyH _ _ _ _ _ _ _ (Act.put _ (some 53) _) _
    simp only [Act.put, List.setIfInBounds_toArray, List.set_cons_zero, List.set_cons_succ]
    refine wpAnyH_take (i := 13) (v := ?v13s) rfl (by kernel_rfl) (by kernel_rfl) (by kernel_rfl) (fun _ _ _ h => h) (Or.inl ⟨by rfl, ?hy13s⟩) (by assumption) ?rest13s
    case hy13s => (intro zz hSw; (try dsimp only at hSw); go_simp; (try with_reducible rfl))
    change wpAnyH _ _ _ _ _ _ _ (Act.put _ (some 54) _) _
    simp only [Act.put, List.setIfInBounds_toArray, List.set_cons_zero, List.set_cons_succ]
    refine wpAnyH_take (i := 14) (v := ?v14s) rfl (by kernel_rfl) (by kernel_rfl) (by kernel_rfl) (fun _ _ _ h => h) (Or.inl ⟨by rfl, ?hy14s⟩) (by assumption) ?rest14s
    case hy14s => (intro zz hSw; (try dsimp only at hSw); go_simp; (try with_reducible rfl))
    change wpAnyH _ _ _ _ _ _ _ (Act.put _ (some 12) _) _
    simp only [Act.put, List.setIfInBounds_toArray, List.set_cons_zero, List.set_cons_succ]
    refine wpAnyH_take (i := 15) (v := ?v15s) rfl (by kernel_rfl) (by kernel_rfl) (by kernel_rfl) (fun _ _ _ h => h) (Or.inl ⟨by rfl, ?hy15s⟩) (by assumption) ?rest15s
    case hy15s => (intro zz hSw; (try dsimp only at hSw); go_simp; (try with_reducible rfl))
    change wpAnyH _ _ _ _ _ _ _ (Act.put _ (some 13) _) _
    simp only [Act.put, List.setIfInBounds_toArray, List.set_cons_zero, List.set_cons_succ]
    refine wpAnyH_done (by kernel_rfl) ?_ _
    clear hHeld
    cases fg
    · go_wp2_with fail
      go_ret
      exact ⟨rfl, by rw [← HX.out]; exact HR4.out.putC 4⟩
    · go_wp2_with fail
      go_ret
      exact ⟨rfl, by rw [← HX.out]; exact HR4.out⟩
end Go.Proofs.YtfnnoehpahdgcaaGreatDoor.Cl
namespace Go.Proofs.YtfnnoehpahdgcaaGreatDoor.Cl
set_option linter.unusedVariables false
open Go.RowKit Wd Rp Kp
def BlkR (w0 : World) (p : Nat) (a : Option Addr) (n cap : Nat) (l : List Tk) (ga : Option Addr) (gc : Nat) (gs : List Int) (b : Sl) (x y : Int) : Prop :=
  (∀ (st : St0) (w : World), Rn w0 p st w → Calls Tryz.prog 99 #[.pointer (some ⟨p, 0, none⟩), .slice a n cap, .int .i64 x, .slice ga (3 : Nat) gc, .bool false] w (RunP w0 p y st)) ∧
  (∀ (st : St0) (w : World), st.c ≠ 0 → Rn w0 p st w → Calls Tryz.prog 99 #[.pointer (some ⟨p, 0, none⟩), .slice a n cap, .int .i64 x, .slice ga (3 : Nat) gc, .bool true] w (RunP w0 p y st)) ∧
  (∀ (st : St0) (w : World), st.c = 0 → Rn w0 p st w → Calls Tryz.prog 99 #[.pointer (some ⟨p, 0, none⟩), .slice a n cap, .int .i64 x, .slice ga (3 : Nat) gc, .bool true] w (RunP w0 p y (b.run gs st)))
theorem blkR {w0 : World} {p : Nat} {a : Option Addr} {cap : Nat} {l : List Tk} {n : Nat} {ga : Option Addr} {gc : Nat} {gs : List Int} (C : Rcx w0 a n cap l ga gc gs) {b : Sl} (hw : b.wf 4) (ih : b.each (DeedR w0 p a n cap l ga gc gs)) {k : Nat} {r : List Tk} (hd : l.drop k = [91] :: (b.fl ++ ([93] :: r))) :
    BlkR w0 p a n cap l ga gc gs b (k : Int) ((k + b.fl.length + 2 : Nat) : Int) := by
  refine ⟨fun st w h => ?_, fun st w hc h => ?_, fun st w hc h => ?_⟩
  · have := l10Block_any w0 p a cap l n C.hn C.hl C.hm C.hv ga gc gs b hw ih k r st w false hd h
    rw [if_neg (fun e => by cases e.1)] at this; exact this
  · have := l10Block_any w0 p a cap l n C.hn C.hl C.hm C.hv ga gc gs b hw ih k r st w true hd h
    rw [if_neg (fun e => hc e.2)] at this; exact this
  · have := l10Block_any w0 p a cap l n C.hn C.hl C.hm C.hv ga gc gs b hw ih k r st w true hd h
    rw [if_pos ⟨rfl, hc⟩] at this; exact this
set_option maxHeartbeats 8000000 in
set_option maxRecDepth 100000 in
theorem deed_if (w0 : World) (p : Nat) (a : Option Addr) (cap : Nat) (l : List Tk) (n : Nat) (ga : Option Addr) (gc : Nat) (gs : List Int) (C : Rcx w0 a n cap l ga gc gs) (ex : List Tk) (b1 b2 : Sl) (hw : Sm.wf 5 (.ifs ex b1 b2)) (ih1 : b1.each (DeedR w0 p a n cap l ga gc gs)) (ih2 : b2.each (DeedR w0 p a n cap l ga gc gs)) : DeedR w0 p a n cap l ga gc gs (.ifs ex b1 b2) := by
  intro k r st w hd hc hR
  have hd0 : l.drop k = ifT :: (ex ++ ([91] :: (b1.fl ++ ([93] :: ([91] :: (b2.fl ++ ([93] :: r))))))) := by rw [hd]; simp [Sm.fl]
  obtain ⟨hk1, hk2, hd1⟩ := drop_head hd0
  have hd3 := drop_more hd1
  have hd4 : l.drop (k + 1 + ex.length + b1.fl.length + 2) = [91] :: (b2.fl ++ ([93] :: r)) := by
    have := (drop_head (drop_more (drop_head hd3).2.2)).2.2
    rw [show k + 1 + ex.length + b1.fl.length + 2 = k + 1 + ex.length + 1 + b1.fl.length + 1 by omega]; exact this
  have hkn : k < n := by have := C.hn; omega
  have HB := Lib.hid (deedS_all a cap l n C.hn C.hl C.hm 5 (by decide) w (k : Int) ⟨by omega, by have := C.hl; omega⟩ (C.hv.below hR.bw))
  rw [(Sm.det l (.ifs ex b1 b2) 5 k r hw hd).1] at HB
  rw [Sm.wf] at hw
  have HSUM := Lib.hid (fun w h => l10Sum_any w0 p a cap l n C.hn C.hl C.hm C.hv ga gc gs C.hg C.hg3 hw.1.ok (k + 1) _ hd1 st w h)
  have HK1 := Lib.hid (blkR C hw.2.1 ih1 hd3)
  have HK2 := Lib.hid (blkR C hw.2.2 ih2 hd4)
  have hE : Sm.run gs (.ifs ex b1 b2) st = (if (evE gs st.b ex).2 = false then ⟨2, st.b, st.f⟩ else if (evE gs st.b ex).1 = 0 then Sl.run gs b2 st else Sl.run gs b1 st) := by rw [Sm.run]
  rw [hE]; clear hE
  rw [show ((k + 1 : Nat) : Int) = (k : Int) + 1 by omega] at HSUM
  generalize ((k + (Sm.fl (.ifs ex b1 b2)).length : Nat) : Int) = y at *
  generalize ((k + 1 + ex.length + b1.fl.length + 2 + b2.fl.length + 2 : Nat) : Int) = y5 at *
  generalize ((k + 1 + ex.length + b1.fl.length + 2 : Nat) : Int) = y3 at *
  generalize ((k + 1 + ex.length : Nat) : Int) = y2 at *
  generalize evE gs st.b ex = xx at *
  obtain ⟨x, is⟩ := xx
  generalize hfin : (if (x, is).2 = false then (⟨2, st.b, st.f⟩ : St0) else if (x, is).1 = 0 then Sl.run gs b2 st else Sl.run gs b1 st) = fin
  have HFIN := Lib.hid hfin; clear hfin
  have HR := Lib.hid hR; clear hR
  have HV := Lib.hid (C.hv.below HR.out.bw)
  have hl4 := C.hl
  clear hd hd0 hd1 hd3 hd4 hw ih1 ih2
  go_enter Tryz.func83, Tryz.ntmps83
  go_wp2_with fail
  refine HB.out.mono ?_; rintro e w1 ⟨rfl, b1'⟩
  have HR1 := Lib.hid (HR.out.next b1')
  have HV1 := Lib.hid (HV.out.below b1'); clear b1'
  obtain ⟨g', o', rfl, hg, c0⟩ := HV1.out.tx hk1
  replace c0 : w1.cell? ⟨g', o' + k, none⟩ = some (.string ⟨#[105, 102]⟩) := c0
  have i1 : (k : Int) + 1 ≤ 9223372036854775807 := by omega
  have HS1 := Lib.hid (HSUM.out w1 HR1.out)
  clear hk1 hg
  go_wp2_with fail
  refine HS1.out.mono ?_; rintro e w2 ⟨rfl, hR2⟩
  by_cases hx : x = 0
  · subst hx
    cases is
    · have HX := Lib.hid (show (⟨2, st.b, st.f⟩ : St0) = fin from HFIN.out)
      have HR2 := Lib.hid (show Rn w0 p ⟨2, st.b, st.f⟩ w2 from hR2); clear hR2 HFIN
      go_wp2_with fail
      refine (HK1.out.1 _ _ HR2.out).mono ?_; rintro e w3 ⟨rfl, hR3⟩
      have HR3 := Lib.hid hR3; clear hR3
      go_wp2_with fail
      refine (HK2.out.2.1 _ _ (show (2 : Int) ≠ 0 by decide) HR3.out).mono ?_; rintro e w4 ⟨rfl, hR4⟩
      have HR4 := Lib.hid hR4; clear hR4
      go_wp2_with fail
      go_ret
      exact ⟨rfl, by rw [← HX.out]; exact HR4.out⟩
    · have HX := Lib.hid (show Sl.run gs b2 st = fin from HFIN.out)
      have HR2 := Lib.hid (show Rn w0 p st w2 from hR2); clear hR2 HFIN
      go_wp2_with fail
      refine (HK1.out.1 _ _ HR2.out).mono ?_; rintro e w3 ⟨rfl, hR3⟩
      have HR3 := Lib.hid hR3; clear hR3
      go_wp2_with fail
      refine (HK2.out.2.2 _ _ hc HR3.out).mono ?_; rintro e w4 ⟨rfl, hR4⟩
      have HR4 := Lib.hid hR4; clear hR4
      go_wp2_with fail
      go_ret
      exact ⟨rfl, by rw [← HX.out]; exact HR4.out⟩
  · have t1 : (x != 0) = true := by simpa using hx
    have t2 : (x == 0) = false := beq_eq_false_iff_ne.2 hx
    cases is
    · have HX := Lib.hid (show (⟨2, st.b, st.f⟩ : St0) = fin from HFIN.out)
      have HR2 := Lib.hid (show Rn w0 p ⟨2, st.b, st.f⟩ w2 from hR2); clear hR2 HFIN
      go_wp2_with fail
      refine (HK1.out.2.1 _ _ (show (2 : Int) ≠ 0 by decide) HR2.out).mono ?_; rintro e w3 ⟨rfl, hR3⟩
      have HR3 := Lib.hid hR3; clear hR3
      go_wp2_with fail
      refine (HK2.out.1 _ _ HR3.out).mono ?_; rintro e w4 ⟨rfl, hR4⟩
      have HR4 := Lib.hid hR4; clear hR4
      go_wp2_with fail
      go_ret
      exact ⟨rfl, by rw [← HX.out]; exact HR4.out⟩
    · have HX := Lib.hid (show Sl.run gs b1 st = fin from HFIN.out.symm ▸ (if_neg hx).symm)
      have HR2 := Lib.hid (show Rn w0 p st w2 from hR2); clear hR2 HFIN
      go_wp2_with fail
      refine (HK1.out.2.2 _ _ hc HR2.out).mono ?_; rintro e w3 ⟨rfl, hR3⟩
      have HR3 := Lib.hid hR3; clear hR3
      go_wp2_with fail
      refine (HK2.out.1 _ _ HR3.out).mono ?_; rintro e w4 ⟨rfl, hR4⟩
      have HR4 := Lib.hid hR4; clear hR4
      go_wp2_with fail
      go_ret
      exact ⟨rfl, by rw [← HX.out]; exact HR4.out⟩
end Go.Proofs.YtfnnoehpahdgcaaGreatDoor.Cl
namespace Go.Proofs.YtfnnoehpahdgcaaGreatDoor.Cl
set_option linter.unusedVariables false
open Go.RowKit Wd Rp Kp
set_option maxHeartbeats 8000000 in
set_option maxRecDepth 100000 in
theorem deed_whl (w0 : World) (p : Nat) (a : Option Addr) (cap : Nat) (l : List Tk) (n : Nat) (ga : Option Addr) (gc : Nat) (gs : List Int) (C : Rcx w0 a n cap l ga gc gs) (ex : List Tk) (b1 : Sl) (hw : Sm.wf 5 (.whl ex b1)) (ih1 : b1.each (DeedR w0 p a n cap l ga gc gs)) : DeedR w0 p a n cap l ga gc gs (.whl ex b1) := by
  intro k r st w hd hc hR
  have hd0 : l.drop k = whT :: (ex ++ ([91] :: (b1.fl ++ ([93] :: r)))) := by rw [hd]; simp [Sm.fl]
  obtain ⟨hk1, hk2, hd1⟩ := drop_head hd0
  have hd3 := drop_more hd1
  have hkn : k < n := by have := C.hn; omega
  have HB := Lib.hid (deedS_all a cap l n C.hn C.hl C.hm 5 (by decide) w (k : Int) ⟨by omega, by have := C.hl; omega⟩ (C.hv.below hR.bw))
  rw [(Sm.det l (.whl ex b1) 5 k r hw hd).1] at HB
  rw [Sm.wf] at hw
  have HSUM := Lib.hid (fun st w h => l10Sum_any w0 p a cap l n C.hn C.hl C.hm C.hv ga gc gs C.hg C.hg3 hw.1.ok (k + 1) _ hd1 st w h)
  have HK1 := Lib.hid (blkR C hw.2 ih1 hd3)
  have HFU := Lib.hid (fun st h => Sl.run_fuel gs b1 st h)
  have hE : Sm.run gs (.whl ex b1) st = whR gs ex (fun s => Sl.run gs b1 s) (st.f.toNat + 1) st := by rw [Sm.run]
  rw [hE]; clear hE
  rw [show ((k + 1 : Nat) : Int) = (k : Int) + 1 by omega] at HSUM
  generalize ((k + (Sm.fl (.whl ex b1)).length : Nat) : Int) = y at *
  generalize ((k + 1 + ex.length + b1.fl.length + 2 : Nat) : Int) = y3 at *
  generalize ((k + 1 + ex.length : Nat) : Int) = y2 at *
  generalize hfin : whR gs ex (fun s => Sl.run gs b1 s) (st.f.toNat + 1) st = fin
  have HFIN := Lib.hid hfin; clear hfin
  have HR := Lib.hid hR; clear hR
  have HV := Lib.hid (C.hv.below HR.out.bw)
  have hl4 := C.hl
  clear hd hd0 hd1 hd3 hw ih1
  go_enter Tryz.func83, Tryz.ntmps83
  go_wp2_with fail
  refine HB.out.mono ?_; rintro e w1 ⟨rfl, b1'⟩
  have HR1 := Lib.hid (HR.out.next b1')
  have HV1 := Lib.hid (HV.out.below b1'); clear b1'
  obtain ⟨g', o', rfl, hg, c0⟩ := HV1.out.tx hk1
  replace c0 : w1.cell? ⟨g', o' + k, none⟩ = some (.string ⟨#[119, 104, 105, 108, 101]⟩) := c0
  have i1 : (k : Int) + 1 ≤ 9223372036854775807 := by omega
  clear hk1 hg
  go_wp2_with fail
  go_loopg [] (st.f.toNat + 1) (fun j wr => ∃ s1 : St0, Rn w0 p s1 wr ∧ (if s1.c = 0 then whR gs ex (fun s => Sl.run gs b1 s) j s1 else s1) = fin ∧ (s1.c = 0 → s1.f < j))
  case atStart => exact ⟨st, HR1.out, by rw [if_pos hc]; exact HFIN.out, fun _ => by have := HR.out.f0; omega⟩
  case round =>
    clear HFIN c0
    obtain ⟨s1, hR1, hfin, hlt⟩ := hrel
    have HR2 := Lib.hid hR1
    have c1 := hR1.c
    by_cases hc1 : s1.c = 0
    · have hf0 := hR1.f0
      have hltj := hlt hc1
      obtain ⟨j, rfl⟩ : ∃ j', gk = j' + 1 := ⟨gk - 1, by omega⟩
      rw [if_pos hc1, whR] at hfin
      rw [hc1] at c1
      have z1 := hR1.fz.1
      have z2 := hR1.fz.2.2
      have c2 := hR1.f
      by_cases hf : s1.f = 0
      · rw [if_pos hf] at hfin
        have HX := Lib.hid hfin
        rw [hf] at c2
        clear hfin hlt hR1
        go_wp2_with fail
        go_ret
        exact ⟨rfl, by rw [← HX.out]; exact HR2.out.putC 3⟩
      · rw [if_neg hf] at hfin
        have t1 : (s1.f == 0) = false := beq_eq_false_iff_ne.2 hf
        have w1' : IntKind.i64.wrap (s1.f - 1) = s1.f - 1 := by rw [IntKind.wrap_i64]; omega
        have HR3 := Lib.hid (HR2.out.putF (s1.f - 1) (by omega))
        have HS1 := Lib.hid (HSUM.out _ _ HR3.out)
        have hHX := Lib.hid hfin
        have hff : 0 ≤ s1.f - 1 := by omega
        have hjj : s1.f - 1 < j := by omega
        dsimp only at HS1
        generalize evE gs s1.b ex = xx at *
        obtain ⟨x, is⟩ := xx
        clear hfin hlt hR1
        go_wp2_with fail
        refine HS1.out.mono ?_; rintro e w2 ⟨rfl, hR4⟩
        by_cases hx : x = 0
        · subst hx
          cases is
          · have HX := Lib.hid (show (⟨2, s1.b, s1.f - 1⟩ : St0) = fin from hHX.out)
            have HR4 := Lib.hid (show Rn w0 p ⟨2, s1.b, s1.f - 1⟩ w2 from hR4); clear hR4 hHX
            go_wp2_with fail
            go_ret
            exact ⟨rfl, by rw [← HX.out]; exact HR4.out⟩
          · have HX := Lib.hid (show (⟨s1.c, s1.b, s1.f - 1⟩ : St0) = fin from hHX.out)
            have HR4 := Lib.hid (show Rn w0 p ⟨s1.c, s1.b, s1.f - 1⟩ w2 from hR4); clear hR4 hHX
            go_wp2_with fail
            go_ret
            exact ⟨rfl, by rw [← HX.out]; exact HR4.out⟩
        · have t2 : (x == 0) = false := beq_eq_false_iff_ne.2 hx
          cases is
          · have HX := Lib.hid (show (⟨2, s1.b, s1.f - 1⟩ : St0) = fin from hHX.out)
            have HR4 := Lib.hid (show Rn w0 p ⟨2, s1.b, s1.f - 1⟩ w2 from hR4); clear hR4 hHX
            go_wp2_with fail
            refine (HK1.out.2.1 _ _ (show (2 : Int) ≠ 0 by decide) HR4.out).mono ?_; rintro e w3 ⟨rfl, hR5⟩
            have HR5 := Lib.hid hR5; clear hR5
            go_wp2_with fail
            go_roundg j
            case measure => omega
            case rel => exact ⟨_, HR5.out, by rw [if_neg (show ¬ (2 : Int) = 0 by decide)]; exact HX.out, fun h => absurd (show (2 : Int) = 0 from h) (by decide)⟩
          · have HX := Lib.hid (show (if (Sl.run gs b1 ⟨s1.c, s1.b, s1.f - 1⟩).c = 0 then whR gs ex (fun s => Sl.run gs b1 s) j (Sl.run gs b1 ⟨s1.c, s1.b, s1.f - 1⟩) else Sl.run gs b1 ⟨s1.c, s1.b, s1.f - 1⟩) = fin from by
              have := hHX.out
              rw [if_neg (by decide), if_neg hx] at this; exact this)
            have HR4 := Lib.hid (show Rn w0 p ⟨s1.c, s1.b, s1.f - 1⟩ w2 from hR4); clear hR4 hHX
            have hfu : (Sl.run gs b1 ⟨s1.c, s1.b, s1.f - 1⟩).f ≤ s1.f - 1 := (HFU.out ⟨s1.c, s1.b, s1.f - 1⟩ hff).2
            have HK := Lib.hid (HK1.out.2.2 ⟨s1.c, s1.b, s1.f - 1⟩ w2 hc1 HR4.out)
            generalize Sl.run gs b1 ⟨s1.c, s1.b, s1.f - 1⟩ = s3 at *
            go_wp2_with fail
            refine HK.out.mono ?_; rintro e w3 ⟨rfl, hR5⟩
            have HR5 := Lib.hid hR5; clear hR5
            go_wp2_with fail
            go_roundg j
            case measure => omega
            case rel => exact ⟨s3, HR5.out, HX.out, fun _ => by omega⟩
    · rw [if_neg hc1] at hfin
      have t0 : (s1.c == 0) = false := beq_eq_false_iff_ne.2 hc1
      have HX := Lib.hid hfin
      clear hfin hlt hR1
      go_wp2_with fail
      go_ret
      exact ⟨rfl, by rw [← HX.out]; exact HR2.out⟩
mutual
theorem Sm.runC (w0 : World) (p : Nat) (a : Option Addr) (cap : Nat) (l : List Tk) (n : Nat) (ga : Option Addr) (gc : Nat) (gs : List Int) (C : Rcx w0 a n cap l ga gc gs) : ∀ s : Sm, s.wf 5 → DeedR w0 p a n cap l ga gc gs s
  | .set m e, h => deed_set w0 p a cap l n ga gc gs C m e h
  | .cut m, h => deed_cut w0 p a cap l n ga gc gs C m (by rw [Sm.wf] at h; exact h)
  | .stop, h => deed_stop w0 p a cap l n ga gc gs C
  | .ifs e b1 b2, h => deed_if w0 p a cap l n ga gc gs C e b1 b2 h (Sl.runC w0 p a cap l n ga gc gs C b1 (by rw [Sm.wf] at h; exact Sl.wf_up b1 (by decide) h.2.1)) (Sl.runC w0 p a cap l n ga gc gs C b2 (by rw [Sm.wf] at h; exact Sl.wf_up b2 (by decide) h.2.2))
  | .whl e b1, h => deed_whl w0 p a cap l n ga gc gs C e b1 h (Sl.runC w0 p a cap l n ga gc gs C b1 (by rw [Sm.wf] at h; exact Sl.wf_up b1 (by decide) h.2))
theorem Sl.runC (w0 : World) (p : Nat) (a : Option Addr) (cap : Nat) (l : List Tk) (n : Nat) (ga : Option Addr) (gc : Nat) (gs : List Int) (C : Rcx w0 a n cap l ga gc gs) : ∀ s : Sl, s.wf 5 → s.each (DeedR w0 p a n cap l ga gc gs)
  | .nil, h => by rw [Sl.each]; trivial
  | .cons s r, h => by
    rw [Sl.wf] at h
    rw [Sl.each]
    exact ⟨Sm.runC w0 p a cap l n ga gc gs C s h.1, Sl.runC w0 p a cap l n ga gc gs C r h.2⟩
end
end Go.Proofs.YtfnnoehpahdgcaaGreatDoor.Cl
namespace Go.Proofs.YtfnnoehpahdgcaaGreatDoor.Cl
set_option linter.unusedVariables false
open Go.RowKit Wd Rp Kp
def Sl.end_ (t : Sl) (gs : List Int) (bs : List Bi) (f : Int) : St0 := if (t.run gs ⟨0, bs, f⟩).c = 0 then t.run gs ⟨0, bs, f⟩ else ⟨(t.run gs ⟨0, bs, f⟩).c, bs, 0⟩
def EndP (B : Nat) (r : St0) (w : World) (e : Ending) (w' : World) : Prop := ∃ v, e = .returned (.agg #[.int .i64 r.c, v, .int .i64 r.f]) ∧ OwI B w' v r.b ∧ Below B w w'
theorem Rn.start {w0 w1 : World} {v : Value} {bs : List Bi} {f : Int} (T : Nat) (ho : OwI w0.heap.size w1 v bs) (hb : Below w0.heap.size w0 w1) (hl : bs.length ≤ 12) (hf : 0 ≤ f ∧ f ≤ 400) : Rn w0 w1.heap.size ⟨0, bs, f⟩ (w1.alloc (.cells #[.int .i64 0, v, .int .i64 f] T)) := by
  obtain ⟨⟨h0, h1, h2⟩, hf3, hl3⟩ := Tri.made (.int .i64 0) v (.int .i64 f) w1 T
  exact ⟨hb.size, hl3, hf3, h0, h2, ⟨v, h1, ho.next (bel1 _ _), fun e => by have := OwI.low ho _ e; omega⟩, hb.trans ((bel1 w1 _).mono hb.size), hl, hf⟩
set_option maxHeartbeats 8000000 in
set_option maxRecDepth 100000 in
theorem l10Means_any (w : World) (a : Option Addr) (cap : Nat) (l : List Tk) (n : Nat) (hn : l.length = n) (hl : n ≤ 4194304) (hm : ∀ s ∈ l, s.length ≤ 4194304) (hv : V1 w a cap (txL l)) (ba : Option Addr) (bc bn : Nat) (bs : List Bi) (hbn : bs.length = bn) (hb : VwI w ba bc bs) (hb12 : bn ≤ 12) (ga : Option Addr) (gc : Nat) (gs : List Int) (hg : V1 w ga gc (inL gs)) (hg3 : gs.length = 3) (f : Int) (hf : 0 ≤ f ∧ f ≤ 400) (t : Sl) (hw : t.wf 5) (ht : l = t.fl) :
    Calls Tryz.prog 53 #[.slice a n cap, .slice ba bn bc, .slice ga (3 : Nat) gc, .int .i64 f] w (EndP w.heap.size (t.end_ gs bs f) w) := by
  have HV := Lib.hid hv; clear hv
  have HVB := Lib.hid hb; clear hb
  have HG := Lib.hid hg; clear hg
  generalize hend : t.end_ gs bs f = fe
  have HEND := Lib.hid hend; clear hend
  go_enter Tryz.func53, Tryz.ntmps53
  go_wp2_with (first
    | (refine (l7Copy_any _ ba bc bs bn hbn (HVB.out.below (bel1 _ _)) (by omega)).mono ?_; rintro e w1 ⟨v1, rfl, o1, b1⟩; obtain ⟨va1, vc1, rfl, -⟩ := o1.view; rw [hbn] at o1 ⊢))
  have HT := Lib.hid (Tri.made (.int .i64 0) (.slice none 0 0) (.int .i64 0) w 30)
  generalize hw0 : w.alloc (.cells #[.int .i64 0, .slice none 0 0, .int .i64 0] 30) = w0 at *
  have HW0 := Lib.hid (show Below w.heap.size w w0 by rw [← hw0]; exact bel1 _ _)
  have HR1 := Lib.hid (Rn.start 99 o1 b1 (by omega) hf)
  have HZ := Lib.hid (show t.end_ gs bs f = (if (if (⟨0, bs, f⟩ : St0).c = 0 then t.run gs ⟨0, bs, f⟩ else ⟨0, bs, f⟩).c = 0 then (if (⟨0, bs, f⟩ : St0).c = 0 then t.run gs ⟨0, bs, f⟩ else ⟨0, bs, f⟩) else ⟨(if (⟨0, bs, f⟩ : St0).c = 0 then t.run gs ⟨0, bs, f⟩ else ⟨0, bs, f⟩).c, bs, 0⟩) by rw [if_pos rfl]; rfl)
  generalize hfin : (if (⟨0, bs, f⟩ : St0).c = 0 then t.run gs ⟨0, bs, f⟩ else ⟨0, bs, f⟩) = fin at HZ
  have HFIN := Lib.hid hfin
  have C := Lib.hid (show Rcx w0 a n cap l ga gc gs from ⟨hn, hl, hm, HV.out.below (by rw [← hw0]; exact bel1 _ _), HG.out.below (by rw [← hw0]; exact bel1 _ _), hg3⟩)
  have IH := Lib.hid (Sl.runC w0 w1.heap.size a cap l n ga gc gs C.out t hw)
  have D0 := Lib.hid (show l.drop 0 = t.fl from ht)
  clear o1 b1 hfin hw ht hm hg3
  go_loopg [10] (t.count + 1) (fun j q wr => ∃ (t' : Sl) (z : Nat) (s1 : St0), q = .int .i64 (z : Int) ∧ l.drop z = t'.fl ∧ t'.each (DeedR w0 w1.heap.size a n cap l ga gc gs) ∧ Rn w0 w1.heap.size s1 wr ∧ t'.count + 1 ≤ j ∧ z ≤ n ∧ (if s1.c = 0 then t'.run gs s1 else s1) = fin)
  case atStart => exact ⟨t, 0, ⟨0, bs, f⟩, by go_num, D0.out, IH.out, HR1.out, Nat.le_refl _, Nat.zero_le _, HFIN.out⟩
  case round =>
    clear HFIN IH D0 HR1
    obtain ⟨t', z, s1, rfl, hd2, ih2, hR2, hj, hzn, hfin⟩ := hrel
    have HFIN := Lib.hid hfin
    have HR2 := Lib.hid hR2
    have c2 := hR2.c
    clear hfin hR2
    by_cases hc : s1.c = 0
    · cases t' with
      | nil =>
        have hz : n ≤ z := by have := List.drop_eq_nil_iff.1 (show l.drop z = [] from hd2); omega
        obtain rfl : z = n := by omega
        have t5 : decide ((z : Int) < (z : Int)) = false := by simp
        have HX := Lib.hid (show s1 = fin by have := HFIN.out; rw [if_pos hc] at this; exact this)
        clear hd2 ih2
        rw [hc] at c2
        have HF : fe = s1 := by
          have e1 := HEND.out; have e2 := HZ.out
          rw [← HX.out, if_pos hc] at e2
          exact e1.symm.trans e2
        obtain ⟨v, cv, hO, -⟩ := HR2.out.b
        obtain ⟨va, vc, rfl, -⟩ := hO.view
        have HO := Lib.hid hO; clear hO
        have cf := HR2.out.f
        have hqp : w1.heap.size ≠ w.heap.size := by have := HR2.out.hB; have := HT.out.2.2; omega
        have HQ := Lib.hid (HT.out.below HR2.out.bw HT.out.2.2)
        have HQD := Lib.hid (HQ.out.below (B := wr.heap.size) (Below.refl _ _).drew HQ.out.2.2)
        obtain ⟨⟨q0, q1, q2⟩, ⟨r0, r1, r2⟩, r3⟩ := HQ.out
        have HW := Lib.hid (HW0.out.trans (HR2.out.bw.mono HW0.out.size))
        have HP := Lib.hid (HQD.out.put3 (x' := .int .i64 0) (y' := .slice va s1.b.length vc) (z' := .int .i64 s1.f))
        go_wp2_with fail
        refine wp_region_held_drew (S := fun z => z.cell? ⟨w1.heap.size, 1, none⟩ = some (.slice va s1.b.length vc) ∧ z.cell? ⟨w1.heap.size, 2, none⟩ = some (.int .i64 s1.f)) (by kernel_rfl) ⟨cv, cf⟩ (fun hHeld => ?_)
        refine wpAnyH_take (i := 0) (v := ?v0g) rfl (by kernel_rfl) (by kernel_rfl) (by kernel_rfl) (fun _ _ _ h => h) (Or.inl ⟨by rfl, ?hy0g⟩) (by assumption) ?rest0g
        case hy0g => (intro zz hSw; (try dsimp only at hSw); go_simp; (try with_reducible rfl))
        change wpAnyH _ _ _ _ _ _ _ (Act.put _ (some 44) _) _
        simp only [Act.put, List.setIfInBounds_toArray, List.set_cons_zero, List.set_cons_succ]
        refine wpAnyH_take (i := 1) (v := ?v1g) rfl (by kernel_rfl) (by kernel_rfl) (by kernel_rfl) (fun _ _ _ h => h) (Or.inl ⟨by rfl, ?hy1g⟩) (by assumption) ?rest1g
        case hy1g => (intro zz hSw; (try dsimp only at hSw); go_simp; (try with_reducible rfl))
        change wpAnyH _ _ _ _ _ _ _ (Act.put _ (some 45) _) _
        simp only [Act.put, List.setIfInBounds_toArray, List.set_cons_zero, List.set_cons_succ]
        refine wpAnyH_take (i := 2) (v := ?v2g) rfl (by kernel_rfl) (by kernel_rfl) (by kernel_rfl) (fun _ _ _ h => h) (Or.inl ⟨by rfl, ?hy2g⟩) (by assumption) ?rest2g
        case hy2g => (intro zz hSw; (try dsimp only at hSw); go_simp; (try with_reducible rfl))
        change wpAnyH _ _ _ _ _ _ _ (Act.put _ (some 46) _) _
        simp only [Act.put, List.setIfInBounds_toArray, List.set_cons_zero, List.set_cons_succ]
        refine wpAnyH_take (i := 3) (v := ?v3g) rfl (by kernel_rfl) (by kernel_rfl) (by kernel_rfl) (fun _ _ _ h => h) (Or.inl ⟨by rfl, ?hy3g⟩) (by assumption) ?rest3g
        case hy3g => (intro zz hSw; (try dsimp only at hSw); go_simp; (try with_reducible rfl))
        change wpAnyH _ _ _ _ _ _ _ (Act.put _ (some 47) _) _
        simp only [Act.put, List.setIfInBounds_toArray, List.set_cons_zero, List.set_cons_succ]
        refine wpAnyH_take (i := 4) (v := ?v4g) rfl (by kernel_rfl) (by kernel_rfl) (by kernel_rfl) (fun _ _ _ h => h) (Or.inl ⟨by rfl, ?hy4g⟩) (by assumption) ?rest4g
        case hy4g => (intro zz hSw; (try dsimp only at hSw); go_simp; (try with_reducible rfl))
        change wpAnyH _ _ _ _ _ _ _ (Act.put _ (some 48) _) _
        simp only [Act.put, List.setIfInBounds_toArray, List.set_cons_zero, List.set_cons_succ]
        refine wpAnyH_take (i := 5) (v := ?v5g) rfl (by kernel_rfl) (by kernel_rfl) (by kernel_rfl) (fun _ _ _ h => h) (Or.inl ⟨by rfl, ?hy5g⟩) (by assumption) ?rest5g
        case hy5g => (intro zz hSw; (try dsimp only at hSw); go_simp; (try with_reducible rfl))
        change wpAnyH _ _ _ _ _ _ _ (Act.put _ (some 49) _) _
        simp only [Act.put, List.setIfInBounds_toArray, List.set_cons_zero, List.set_cons_succ]
        refine wpAnyH_take (i := 6) (v := ?v6g) rfl (by kernel_rfl) (by kernel_rfl) (by kernel_rfl) (fun _ _ _ h => h) (Or.inl ⟨by rfl, ?hy6g⟩) (by assumption) ?rest6g
        case hy6g => (intro zz hSw; (try dsimp only at hSw); go_simp; (try with_reducible rfl))
        change wpAnyH _ _ _ _ _ _ _ (Act.put _ (some 50) _) _
        simp only [Act.put, List.setIfInBounds_toArray, List.set_cons_zero, List.set_cons_succ]
        refine wpAnyH_take (i := 7) (v := ?v7g) rfl (by kernel_rfl) (by kernel_rfl) (by kernel_rfl) (fun _ _ _ h => h) (Or.inl ⟨by rfl, ?hy7g⟩) (by assumption) ?rest7g
        case hy7g => (intro zz hSw; (try dsimp only at hSw); go_simp; (try with_reducible rfl))
        change wpAnyH _ _ _ _ _ _ _ (Act.put _ (some 51) _) _
        simp only [Act.put, List.setIfInBounds_toArray, List.set_cons_zero, List.set_cons_succ]
        refine wpAnyH_take (i := 8) (v := ?v8g) rfl (by kernel_rfl) (by kernel_rfl) (by kernel_rfl) (fun _ _ _ h => h) (Or.inl ⟨by rfl, ?hy8g⟩) (by assumption) ?rest8g
        case hy8g => (intro zz hSw; (try dsimp only at hSw); go_simp; (try with_reducible rfl))
        change wpAnyH _ _ _ _ _ _ _ (Act.put _ (some 52) _) _
        simp only [Act.put, List.setIfInBounds_toArray, List.set_cons_zero, List.set_cons_succ]
        refine wpAnyH_ready (rs := [9]) (by kernel_rfl) (by simp) (AllReadyH.cons rfl (fun K hK => ?_) (AllReadyH.nil))
        go_simp
        refine hK.out _ (put3 wr.drew w.heap.size (.int .i64 0) (.slice va s1.b.length vc) (.int .i64 s1.f)) ⟨put3_cell hqp cv, put3_cell hqp cf⟩ (fun hHeld => ?_)
        clear hK K
        refine wpAnyH_done (by kernel_rfl) ?_ _
        clear hHeld
        obtain ⟨⟨q0', q1', q2'⟩, -, -⟩ := HP.out
        go_wp2_with fail
        refine bodyPost_ret (v := .agg #[.int .i64 0, .slice va s1.b.length vc, .int .i64 s1.f]) (by simp [results, Tryz.results53, go_sem, q0', q1', q2']) rfl ?_
        rw [HF]
        refine ⟨.slice va s1.b.length vc, by rw [hc], (OwI.put3 (HO.out.next (Below.refl _ _).drew) HT.out.2.2).mono HW0.out.size, put3_below (HW.out.drew) (Nat.le_refl _)⟩
      | cons s t' =>
        obtain ⟨j, rfl⟩ : ∃ j', gk = j' + 1 := ⟨gk - 1, by omega⟩
        have hd3 : l.drop z = s.fl ++ t'.fl := by rw [hd2, Sl.fl]
        rw [Sl.each] at ih2
        have HD := Lib.hid (ih2.1 z _ s1 wr hd3 hc HR2.out)
        have HI2 := Lib.hid ih2.2
        have HD4 := Lib.hid (drop_more hd3)
        have hjj : t'.count + 1 ≤ j := by rw [Sl.count] at hj; omega
        have hsp := s.pos
        have hlz : z + s.fl.length ≤ n ∧ z < n := by have := congrArg List.length hd3; rw [List.length_drop, List.length_append] at this; omega
        have HX := Lib.hid (show (if (s.run gs s1).c = 0 then t'.run gs (s.run gs s1) else s.run gs s1) = fin by have := HFIN.out; rw [if_pos hc, Sl.run] at this; exact this)
        have t5 : (z : Int) < (n : Int) := by omega
        have t6 : decide (z < n) = true := by simpa using hlz.2
        have hl2 := hlz.1
        clear hd2 hd3 ih2 HFIN hj hsp hlz
        generalize s.run gs s1 = s2 at *
        generalize z + s.fl.length = z2 at *
        rw [hc] at c2
        go_wp2_with fail
        refine HD.out.mono ?_; rintro e w2 ⟨rfl, hR3⟩
        have HR3 := Lib.hid hR3; clear hR3
        go_wp2_with fail
        go_roundg j
        case measure => omega
        case rel => exact ⟨t', z2, s2, rfl, HD4.out, HI2.out, HR3.out, hjj, hl2, HX.out⟩
    · have HX := Lib.hid (show s1 = fin by have := HFIN.out; rw [if_neg hc] at this; exact this)
      have t0 : (s1.c == 0) = false := beq_eq_false_iff_ne.2 hc
      have t1 : (s1.c != 0) = true := by simpa using hc
      clear hd2 ih2
      have HF : fe = ⟨s1.c, bs, 0⟩ := by
        have e1 := HEND.out; have e2 := HZ.out
        rw [← HX.out, if_neg hc] at e2
        exact e1.symm.trans e2
      have hqp : w1.heap.size ≠ w.heap.size := by have := HR2.out.hB; have := HT.out.2.2; omega
      have HQ := Lib.hid (HT.out.below HR2.out.bw HT.out.2.2)
      have HW := Lib.hid (HW0.out.trans (HR2.out.bw.mono HW0.out.size))
      have HCP := Lib.hid (l7Copy_any wr.drew ba bc bs bn hbn (HVB.out.below HW.out.drew) (by omega))
      go_wp2_with fail
      refine wp_region_held_drew (S := fun z => z.cell? ⟨w1.heap.size, 0, none⟩ = some (.int .i64 s1.c)) (by kernel_rfl) c2 (fun hHeld => ?_)
      refine wpAnyH_take (i := 0) (v := ?v0h) rfl (by kernel_rfl) (by kernel_rfl) (by kernel_rfl) (fun _ _ _ h => h) (Or.inl ⟨by rfl, ?hy0h⟩) (by assumption) ?rest0h
      case hy0h => (intro zz hSw; (try dsimp only at hSw); go_simp; (try with_reducible rfl))
      change wpAnyH _ _ _ _ _ _ _ (Act.put _ (some 37) _) _
      simp only [Act.put, List.setIfInBounds_toArray, List.set_cons_zero, List.set_cons_succ]
      refine wpAnyH_take (i := 1) (v := ?v1h) rfl (by kernel_rfl) (by kernel_rfl) (by kernel_rfl) (fun _ _ _ h => h) (Or.inl ⟨by rfl, ?hy1h⟩) (by assumption) ?rest1h
      case hy1h => (intro zz hSw; (try dsimp only at hSw); go_simp; (try with_reducible rfl))
      change wpAnyH _ _ _ _ _ _ _ (Act.put _ (some 38) _) _
      simp only [Act.put, List.setIfInBounds_toArray, List.set_cons_zero, List.set_cons_succ]
      refine wpAnyH_take (i := 2) (v := ?v2h) rfl (by kernel_rfl) (by kernel_rfl) (by kernel_rfl) (fun _ _ _ h => h) (Or.inl ⟨by rfl, ?hy2h⟩) (by assumption) ?rest2h
      case hy2h => (intro zz hSw; (try dsimp only at hSw); go_simp; (try with_reducible rfl))
      change wpAnyH _ _ _ _ _ _ _ (Act.put _ (some 39) _) _
      simp only [Act.put, List.setIfInBounds_toArray, List.set_cons_zero, List.set_cons_succ]
      refine wpAnyH_take (i := 3) (v := ?v3h) rfl (by kernel_rfl) (by kernel_rfl) (by kernel_rfl) (fun _ _ _ h => h) (Or.inl ⟨by rfl, ?hy3h⟩) (by assumption) ?rest3h
      case hy3h => (intro zz hSw; (try dsimp only at hSw); go_simp; (try with_reducible rfl))
      change wpAnyH _ _ _ _ _ _ _ (Act.put _ (some 40) _) _
      simp only [Act.put, List.setIfInBounds_toArray, List.set_cons_zero, List.set_cons_succ]
      refine wpAnyH_take (i := 4) (v := ?v4h) rfl (by kernel_rfl) (by kernel_rfl) (by kernel_rfl) (fun _ _ _ h => h) (Or.inl ⟨by rfl, ?hy4h⟩) (by assumption) ?rest4h
      case hy4h => (intro zz hSw; (try dsimp only at hSw); go_simp; (try with_reducible rfl))
      change wpAnyH _ _ _ _ _ _ _ (Act.put _ (some 41) _) _
      simp only [Act.put, List.setIfInBounds_toArray, List.set_cons_zero, List.set_cons_succ]
      refine wpAnyH_ready (rs := [5]) (by kernel_rfl) (by simp) (AllReadyH.cons rfl (fun K hK => ?_) (AllReadyH.nil))
      go_simp
      refine HCP.out.mono ?_; rintro e w3 ⟨v3, rfl, o3, b3⟩
      obtain ⟨va3, vc3, rfl, -⟩ := o3.view
      rw [hbn] at o3 ⊢
      have O3 := Lib.hid o3
      have HW3 := Lib.hid (bel_tr HW.out.drew b3 (Nat.le_refl _))
      have C3 := Lib.hid ((b3.cell (p := ⟨w1.heap.size, 0, none⟩) HR2.out.hp).trans c2)
      have HQ3 := Lib.hid ((HQ.out.below (B := wr.heap.size) (Below.refl _ _).drew HQ.out.2.2).below b3 HQ.out.2.2)
      have HP := Lib.hid (HQ3.out.put3 (x' := .int .i64 s1.c) (y' := .slice va3 bn vc3) (z' := .int .i64 0))
      refine hK.out _ _ C3.out (fun hHeld => ?_)
      clear hK K o3 b3
      obtain ⟨⟨q0, q1, q2⟩, ⟨r0, r1, r2⟩, r3⟩ := HQ3.out
      refine wpAnyH_take (i := 6) (v := ?v6h) rfl (by kernel_rfl) (by kernel_rfl) (by kernel_rfl) (fun _ _ _ h => h) (Or.inl ⟨by rfl, ?hy6h⟩) (by assumption) ?rest6h
      case hy6h => (intro zz hSw; (try dsimp only at hSw); go_simp; (try with_reducible rfl))
      change wpAnyH _ _ _ _ _ _ _ (Act.put _ (some 43) _) _
      simp only [Act.put, List.setIfInBounds_toArray, List.set_cons_zero, List.set_cons_succ]
      refine wpAnyH_ready (rs := [7]) (by kernel_rfl) (by simp) (AllReadyH.cons rfl (fun K hK => ?_) (AllReadyH.nil))
      go_simp
      refine hK.out _ (put3 w3 w.heap.size (.int .i64 s1.c) (.slice va3 bn vc3) (.int .i64 0)) (put3_cell hqp C3.out) (fun hHeld => ?_)
      clear hK K
      refine wpAnyH_done (by kernel_rfl) ?_ _
      clear hHeld
      obtain ⟨⟨q0', q1', q2'⟩, -, -⟩ := HP.out
      go_wp2_with fail
      refine bodyPost_ret (v := .agg #[.int .i64 s1.c, .slice va3 bn vc3, .int .i64 0]) (by simp [results, Tryz.results53, go_sem, q0', q1', q2']) rfl ?_
      rw [HF]
      refine ⟨.slice va3 bn vc3, rfl, (OwI.put3 O3.out (Nat.lt_of_lt_of_le HT.out.2.2 HR2.out.bw.size)).mono HW.out.size, put3_below HW3.out (Nat.le_refl _)⟩
end Go.Proofs.YtfnnoehpahdgcaaGreatDoor.Cl
namespace Go.Proofs.YtfnnoehpahdgcaaGreatDoor.Cl
set_option linter.unusedVariables false
open Go.RowKit Wd Rp Kp
theorem l10Fuel_any (f : Int) (w : World) : Calls Tryz.prog 52 #[.int .i64 f] w fun e w' => e = .returned (.bool (inB f 0 400)) ∧ w = w' := by
  have HI := Lib.hid (l1In_any f 0 400 w)
  generalize inB f 0 400 = x at *
  go_enter Tryz.func52, Tryz.ntmps52
  go_wp2_with fail
  refine HI.out.mono ?_; rintro e w1 ⟨rfl, rfl⟩
  go_wp2_with fail
  go_ret
  exact ⟨rfl, rfl⟩
def meB (l : List Tk) (bs : List Bi) (gs : List Int) (f : Int) : Bool := rcB l && (okI bs && (thB gs && inB f 0 400))
set_option maxHeartbeats 8000000 in
set_option maxRecDepth 100000 in
theorem specMeans_bad (w : World) (a : Option Addr) (cap : Nat) (l : List Tk) (n : Nat) (hn : l.length = n) (hl : n ≤ 4194304) (hm : ∀ s ∈ l, s.length ≤ 4194304) (hv : V1 w a cap (txL l)) (ba : Option Addr) (bc bn : Nat) (bs : List Bi) (hbn : bs.length = bn) (hb : VwI w ba bc bs) (hbl : bn ≤ 4194304) (hbm : ∀ c ∈ bs, c.n.size ≤ 9223372036854775806) (ga : Option Addr) (gc gn : Nat) (gs : List Int) (hgn : gs.length = gn) (hgl : gn ≤ 4194304) (hg : V1 w ga gc (inL gs)) (f : Int) (h : meB l bs gs f = false) :
    Calls Tryz.prog 13 #[.slice a n cap, .slice ba bn bc, .slice ga gn gc, .int .i64 f] w (EndP w.heap.size ⟨5, bs, 0⟩ w) := by
  have HV := Lib.hid hv; clear hv
  have HVB := Lib.hid hb; clear hb
  have HG := Lib.hid hg; clear hg
  have HT := Lib.hid (Tri.made (.int .i64 0) (.slice none 0 0) (.int .i64 0) w 30)
  have HW0 := Lib.hid (bel1 w (.cells #[.int .i64 0, .slice none 0 0, .int .i64 0] 30))
  have H1 := Lib.hid (fun w h => specRecipeOk_any w a cap l n hn h hl hm)
  have H2 := Lib.hid (fun w h => specBins2_any w ba bc bs bn hbn h hbm hbl)
  have H3 := Lib.hid (fun w h => l8Three_any w ga gc gs gn hgn h hgl)
  have H4 := Lib.hid (fun w => l10Fuel_any f w)
  have HCP := Lib.hid (fun w h => l7Copy_any w ba bc bs bn hbn h hbl)
  have HEND := Lib.hid (show ∀ (w1 w2 : World) (v : Value), Below w.heap.size w w1 → OwI w1.heap.size w2 v bs → Below w1.heap.size w1 w2 → w.heap.size < w1.heap.size → OwI w.heap.size (put3 w2 w.heap.size (.int .i64 5) v (.int .i64 0)) v bs ∧ Below w.heap.size w (put3 w2 w.heap.size (.int .i64 5) v (.int .i64 0)) from
    fun w1 w2 v b1 o2 b2 hlt => ⟨(OwI.put3 o2 hlt).mono b1.size, put3_below (bel_tr b1 b2 (Nat.le_refl _)) (Nat.le_refl _)⟩)
  unfold meB at h
  generalize rcB l = x1 at *
  generalize okI bs = x2 at *
  generalize thB gs = x3 at *
  generalize inB f 0 400 = x4 at *
  go_enter Tryz.func13, Tryz.ntmps13
  go_wp2_with fail
  generalize w.alloc (.cells #[.int .i64 0, .slice none 0 0, .int .i64 0] 30) = w0 at *
  refine (H1.out w0 (HV.out.below HW0.out)).mono ?_; rintro e w1 ⟨rfl, b1⟩
  have T1 := Lib.hid (HT.out.below b1 HT.out.2.2)
  have W1 := Lib.hid (bel_tr HW0.out b1 (Nat.le_refl _)); clear b1
  cases x1
  · have HC := Lib.hid (HCP.out w1 (HVB.out.below W1.out))
    go_wp2_with fail
    refine HC.out.mono ?_; rintro e wz ⟨v2, rfl, o2, b2⟩
    obtain ⟨va2, vc2, rfl, -⟩ := o2.view
    rw [hbn] at o2 ⊢
    have T9 := Lib.hid (T1.out.below b2 T1.out.2.2)
    have HZ := Lib.hid (HEND.out w1 wz _ W1.out o2 b2 T1.out.2.2)
    obtain ⟨⟨q0, q1, q2⟩, ⟨r0, r1, r2⟩, r3⟩ := T9.out
    obtain ⟨⟨p0, p1, p2⟩, -, -⟩ := T9.out.put3 (x' := .int .i64 5) (y' := .slice va2 bn vc2) (z' := .int .i64 0)
    clear o2 b2
    go_wp2_with fail
    refine bodyPost_ret (v := .agg #[.int .i64 5, .slice va2 bn vc2, .int .i64 0]) (by simp only [put3] at p0 p1 p2; simp [results, Tryz.results13, go_sem, p0, p1, p2]) rfl ⟨.slice va2 bn vc2, rfl, HZ.out.1, HZ.out.2⟩
  · go_wp2_with fail
    refine (H2.out w1 (HVB.out.below W1.out)).mono ?_; rintro e w2 ⟨rfl, b2⟩
    have T2 := Lib.hid (T1.out.below b2 T1.out.2.2)
    have W2 := Lib.hid (bel_tr W1.out b2 (Nat.le_refl _)); clear b2
    cases x2
    · have HC := Lib.hid (HCP.out w2 (HVB.out.below W2.out))
      go_wp2_with fail
      refine HC.out.mono ?_; rintro e wz ⟨v2, rfl, o2, b2⟩
      obtain ⟨va2, vc2, rfl, -⟩ := o2.view
      rw [hbn] at o2 ⊢
      have T9 := Lib.hid (T2.out.below b2 T2.out.2.2)
      have HZ := Lib.hid (HEND.out w2 wz _ W2.out o2 b2 T2.out.2.2)
      obtain ⟨⟨q0, q1, q2⟩, ⟨r0, r1, r2⟩, r3⟩ := T9.out
      obtain ⟨⟨p0, p1, p2⟩, -, -⟩ := T9.out.put3 (x' := .int .i64 5) (y' := .slice va2 bn vc2) (z' := .int .i64 0)
      clear o2 b2
      go_wp2_with fail
      refine bodyPost_ret (v := .agg #[.int .i64 5, .slice va2 bn vc2, .int .i64 0]) (by simp only [put3] at p0 p1 p2; simp [results, Tryz.results13, go_sem, p0, p1, p2]) rfl ⟨.slice va2 bn vc2, rfl, HZ.out.1, HZ.out.2⟩
    · go_wp2_with fail
      refine (H3.out w2 (HG.out.below W2.out)).mono ?_; rintro e w3 ⟨rfl, rfl⟩
      cases x3
      · have HC := Lib.hid (HCP.out w2 (HVB.out.below W2.out))
        go_wp2_with fail
        refine HC.out.mono ?_; rintro e wz ⟨v2, rfl, o2, b2⟩
        obtain ⟨va2, vc2, rfl, -⟩ := o2.view
        rw [hbn] at o2 ⊢
        have T9 := Lib.hid (T2.out.below b2 T2.out.2.2)
        have HZ := Lib.hid (HEND.out w2 wz _ W2.out o2 b2 T2.out.2.2)
        obtain ⟨⟨q0, q1, q2⟩, ⟨r0, r1, r2⟩, r3⟩ := T9.out
        obtain ⟨⟨p0, p1, p2⟩, -, -⟩ := T9.out.put3 (x' := .int .i64 5) (y' := .slice va2 bn vc2) (z' := .int .i64 0)
        clear o2 b2
        go_wp2_with fail
        refine bodyPost_ret (v := .agg #[.int .i64 5, .slice va2 bn vc2, .int .i64 0]) (by simp only [put3] at p0 p1 p2; simp [results, Tryz.results13, go_sem, p0, p1, p2]) rfl ⟨.slice va2 bn vc2, rfl, HZ.out.1, HZ.out.2⟩
      · go_wp2_with fail
        refine (H4.out w2).mono ?_; rintro e w3 ⟨rfl, rfl⟩
        cases x4
        · have HC := Lib.hid (HCP.out w2 (HVB.out.below W2.out))
          go_wp2_with fail
          refine HC.out.mono ?_; rintro e wz ⟨v2, rfl, o2, b2⟩
          obtain ⟨va2, vc2, rfl, -⟩ := o2.view
          rw [hbn] at o2 ⊢
          have T9 := Lib.hid (T2.out.below b2 T2.out.2.2)
          have HZ := Lib.hid (HEND.out w2 wz _ W2.out o2 b2 T2.out.2.2)
          obtain ⟨⟨q0, q1, q2⟩, ⟨r0, r1, r2⟩, r3⟩ := T9.out
          obtain ⟨⟨p0, p1, p2⟩, -, -⟩ := T9.out.put3 (x' := .int .i64 5) (y' := .slice va2 bn vc2) (z' := .int .i64 0)
          clear o2 b2
          go_wp2_with fail
          refine bodyPost_ret (v := .agg #[.int .i64 5, .slice va2 bn vc2, .int .i64 0]) (by simp only [put3] at p0 p1 p2; simp [results, Tryz.results13, go_sem, p0, p1, p2]) rfl ⟨.slice va2 bn vc2, rfl, HZ.out.1, HZ.out.2⟩
        · cases h
set_option maxHeartbeats 8000000 in
set_option maxRecDepth 100000 in
theorem specMeans_ok (w : World) (a : Option Addr) (cap : Nat) (l : List Tk) (n : Nat) (hn : l.length = n) (hl : n ≤ 4194304) (hm : ∀ s ∈ l, s.length ≤ 4194304) (hv : V1 w a cap (txL l)) (ba : Option Addr) (bc bn : Nat) (bs : List Bi) (hbn : bs.length = bn) (hb : VwI w ba bc bs) (hbm : ∀ c ∈ bs, c.n.size ≤ 9223372036854775806) (ga : Option Addr) (gc : Nat) (gs : List Int) (hg : V1 w ga gc (inL gs)) (f : Int) (h : meB l bs gs f = true) (t : Sl) (hw : t.wf 5) (ht : l = t.fl) :
    Calls Tryz.prog 13 #[.slice a n cap, .slice ba bn bc, .slice ga (3 : Nat) gc, .int .i64 f] w (EndP w.heap.size (t.end_ gs bs f) w) := by
  unfold meB at h
  rw [Bool.and_eq_true, Bool.and_eq_true, Bool.and_eq_true] at h
  obtain ⟨h1, h2, h3, h4⟩ := h
  have hb12 : bn ≤ 12 := by have := (okI_iff.1 h2).1; omega
  have hg3 := thB_len h3
  have hf : 0 ≤ f ∧ f ≤ 400 := by
    unfold inB at h4
    simpa using h4
  have HV := Lib.hid hv; clear hv
  have HVB := Lib.hid hb; clear hb
  have HG := Lib.hid hg; clear hg
  have HT := Lib.hid (Tri.made (.int .i64 0) (.slice none 0 0) (.int .i64 0) w 30)
  have HW0 := Lib.hid (bel1 w (.cells #[.int .i64 0, .slice none 0 0, .int .i64 0] 30))
  have H1 := Lib.hid (fun w h => specRecipeOk_any w a cap l n hn h hl hm)
  have H2 := Lib.hid (fun w h => specBins2_any w ba bc bs bn hbn h hbm (by omega))
  have H3 := Lib.hid (fun w h => l8Three_any w ga gc gs 3 hg3 h (by decide))
  have H4 := Lib.hid (fun w => l10Fuel_any f w)
  have HM := Lib.hid (fun w hv hb hg => l10Means_any w a cap l n hn hl hm hv ba bc bn bs hbn hb hb12 ga gc gs hg hg3 f hf t hw ht)
  rw [h1] at H1; rw [h2] at H2; rw [h3] at H3; rw [h4] at H4
  generalize t.end_ gs bs f = r at *
  clear h1 h2 h3 h4 hw ht hf hg3
  go_enter Tryz.func13, Tryz.ntmps13
  go_wp2_with fail
  generalize w.alloc (.cells #[.int .i64 0, .slice none 0 0, .int .i64 0] 30) = w0 at *
  refine (H1.out w0 (HV.out.below HW0.out)).mono ?_; rintro e w1 ⟨rfl, b1⟩
  have T1 := Lib.hid (HT.out.below b1 HT.out.2.2)
  have W1 := Lib.hid (bel_tr HW0.out b1 (Nat.le_refl _)); clear b1
  go_wp2_with fail
  refine (H2.out w1 (HVB.out.below W1.out)).mono ?_; rintro e w2 ⟨rfl, b2⟩
  have T2 := Lib.hid (T1.out.below b2 T1.out.2.2)
  have W2 := Lib.hid (bel_tr W1.out b2 (Nat.le_refl _)); clear b2
  go_wp2_with fail
  refine (H3.out w2 (HG.out.below W2.out)).mono ?_; rintro e w3 ⟨rfl, rfl⟩
  go_wp2_with fail
  refine (H4.out w2).mono ?_; rintro e w3 ⟨rfl, rfl⟩
  go_wp2_with fail
  refine (HM.out w2 (HV.out.below W2.out) (HVB.out.below W2.out) (HG.out.below W2.out)).mono ?_; rintro e w3 ⟨v3, rfl, o3, b3⟩
  obtain ⟨va3, vc3, rfl, -⟩ := o3.view
  have T9 := Lib.hid (T2.out.below b3 T2.out.2.2)
  have O9 := Lib.hid ((OwI.put3 o3 T2.out.2.2 (x := .int .i64 r.c) (y := .slice va3 r.b.length vc3) (z := .int .i64 r.f)).mono W2.out.size)
  have B9 := Lib.hid (put3_below (q := w.heap.size) (x := .int .i64 r.c) (y := .slice va3 r.b.length vc3) (z := .int .i64 r.f) (bel_tr W2.out b3 (Nat.le_refl _)) (Nat.le_refl _))
  obtain ⟨⟨q0, q1, q2⟩, ⟨r0, r1, r2⟩, r3⟩ := T9.out
  obtain ⟨⟨p0, p1, p2⟩, -, -⟩ := T9.out.put3 (x' := .int .i64 r.c) (y' := .slice va3 r.b.length vc3) (z' := .int .i64 r.f)
  clear o3 b3
  go_wp2_with fail
  refine bodyPost_ret (v := .agg #[.int .i64 r.c, .slice va3 r.b.length vc3, .int .i64 r.f]) (by simp only [put3] at p0 p1 p2; simp [results, Tryz.results13, go_sem, p0, p1, p2]) rfl ⟨_, rfl, O9.out, B9.out⟩
end Go.Proofs.YtfnnoehpahdgcaaGreatDoor.Cl
namespace Go.Proofs.YtfnnoehpahdgcaaGreatDoor.Cl
set_option linter.unusedVariables false
open Go.RowKit Wd Rp Kp
def stV (r : St0) (f : Int) : Int := if r.c = 0 then f - r.f else if r.c = 3 then f else -1
set_option maxHeartbeats 4000000 in
set_option maxRecDepth 100000 in
theorem specSteps_any (w : World) (v1 v2 v3 : Value) (f : Int) (r : St0) (hf : r.c = 0 → IntKind.i64.wrap (f - r.f) = f - r.f) (hM : Calls Tryz.prog 13 #[v1, v2, v3, .int .i64 f] w (EndP w.heap.size r w)) :
    Calls Tryz.prog 14 #[v1, v2, v3, .int .i64 f] w (GivesI (stV r f) w) := by
  have HM := Lib.hid hM; clear hM
  obtain ⟨c, b, rf⟩ := r
  generalize hx : stV ⟨c, b, rf⟩ f = x
  have HX := Lib.hid hx; clear hx
  dsimp only at hf
  by_cases h0 : c = 0
  · subst h0
    have i1 := hf rfl
    have HY := Lib.hid (show f - rf = x from HX.out)
    clear hf
    go_enter Tryz.func14, Tryz.ntmps14
    go_wp2_with fail
    refine HM.out.mono ?_; rintro e w1 ⟨v, rfl, o1, b1⟩
    obtain ⟨va, vc, rfl, -⟩ := o1.view
    have B1 := Lib.hid b1; clear b1 o1
    go_wp2_with fail
    go_ret
    exact ⟨by rw [← HY.out]; rfl, bel_tr B1.out (bel1 _ _) (Nat.le_refl _)⟩
  · have t0 : (c == 0) = false := beq_eq_false_iff_ne.2 h0
    by_cases h3 : c = 3
    · subst h3
      have HY := Lib.hid (show f = x from HX.out)
      clear hf
      go_enter Tryz.func14, Tryz.ntmps14
      go_wp2_with fail
      refine HM.out.mono ?_; rintro e w1 ⟨v, rfl, o1, b1⟩
      obtain ⟨va, vc, rfl, -⟩ := o1.view
      have B1 := Lib.hid b1; clear b1 o1
      go_wp2_with fail
      go_ret
      exact ⟨by rw [← HY.out]; rfl, bel_tr B1.out (bel1 _ _) (Nat.le_refl _)⟩
    · have t3 : (c == 3) = false := beq_eq_false_iff_ne.2 h3
      have HY := Lib.hid (show -1 = x by have := HX.out; unfold stV at this; rw [if_neg h0, if_neg h3] at this; exact this)
      clear hf
      go_enter Tryz.func14, Tryz.ntmps14
      go_wp2_with fail
      refine HM.out.mono ?_; rintro e w1 ⟨v, rfl, o1, b1⟩
      obtain ⟨va, vc, rfl, -⟩ := o1.view
      have B1 := Lib.hid b1; clear b1 o1
      go_wp2_with fail
      go_ret
      exact ⟨by rw [← HY.out]; rfl, bel_tr B1.out (bel1 _ _) (Nat.le_refl _)⟩
end Go.Proofs.YtfnnoehpahdgcaaGreatDoor.Cl
namespace Go.Proofs.YtfnnoehpahdgcaaGreatDoor.Cl
set_option linter.unusedVariables false
open Go.RowKit Wd Rp Cu Kp
theorem ta_end (v : Value) (w : World) : (Instr.typeAssert (.iface 89 v) 20 89 true).run Tryz.prog w = .ok (.tuple #[v, .bool true]) w := by kernel_rfl
theorem ta_nil (w : World) : (Instr.typeAssert .nilIface 20 89 true).run Tryz.prog w = .ok (.tuple #[.int .i64 0, .bool false]) w := by kernel_rfl
set_option maxHeartbeats 4000000 in
set_option maxRecDepth 100000 in
theorem catch_panic (pc : Nat) (c x : Int) (w : World) (hc : w.cell? ⟨pc, 0, none⟩ = some (.int .i64 x)) (hz : w.frozen? ⟨pc, 0, none⟩ = false) :
    CallsD Tryz.prog 73 #[.pointer (some ⟨pc, 0, none⟩)] (.panicking [endg c]) w fun e u' w' => e = .returned (.tuple #[]) ∧ u' = .panicking [{ v := .iface 89 (.int .i64 c), recovered := true }] ∧ w' = w.setCell ⟨pc, 0, none⟩ (.int .i64 c) := by
  refine callsD_of_wpS Tryz.func73 rfl fun c₀ cs hu => ?_
  have ta := ta_end (.int .i64 c)
  unfold endg at hu
  apply wpS_seq
  apply wpS_region
  simp [wpOpsS, go_sem, recoverD, hu, Tryz.ntmps73, Exit.thenS, ta]
  apply wpS_seq
  apply wpS_region
  simp [wpOpsS, go_sem, Exit.thenS]
  refine wpS_cond (t := true) (by simp [Act.eval]) ?_
  simp only [if_true]
  apply wpS_region
  simp [wpOpsS, go_sem, hc, hz, bodyPostS, results, Tryz.results73]
set_option maxHeartbeats 4000000 in
set_option maxRecDepth 100000 in
theorem catch_idle (pc : Nat) (w : World) :
    CallsD Tryz.prog 73 #[.pointer (some ⟨pc, 0, none⟩)] .returning w fun e u' w' => e = .returned (.tuple #[]) ∧ u' = .returning ∧ w' = w := by
  refine callsD_of_wpS Tryz.func73 rfl fun c₀ cs hu => ?_
  have ta := ta_nil
  apply wpS_seq
  apply wpS_region
  simp [wpOpsS, go_sem, recoverD, hu, Tryz.ntmps73, Exit.thenS, ta]
  apply wpS_seq
  apply wpS_region
  simp [wpOpsS, go_sem, Exit.thenS]
  refine wpS_cond (t := false) (by simp [Act.eval]) ?_
  simp only [Bool.false_eq_true, if_false]
  refine wpS_of_wp (wp_skip ?_)
  cases c₀
  simp_all [bodyPostS, results, Tryz.results73]
theorem VwX.off {p : Nat} {w : World} {a : Option Addr} {cap : Nat} {l : List Bi} (h : VwX p w a cap l) {g : Nat} {x : Int} (hc : w.cell? ⟨g, 0, none⟩ = some (.int .i64 x)) (u : Value) : VwX p (w.setCell ⟨g, 0, none⟩ u) a cap l := by
  obtain ⟨⟨h1, h2, h3, h4⟩, h5⟩ := h
  refine ⟨⟨h1, h2, h3, fun k c hk => ?_⟩, h5⟩
  obtain ⟨g', o, e, hg, hat⟩ := h4 k c hk
  refine ⟨g', o, e, by rw [World.size_setCell]; exact hg, ?_, ?_⟩
  · refine (World.cell?_setCell_other _ _ _ _ (fun e => ?_)).trans hat.1
    have e2 := hat.1
    first
      | rw [e, hc] at e2; cases e2
      | rw [← e, hc] at e2; cases e2
  · refine (World.cell?_setCell_other _ _ _ _ (fun e => ?_)).trans hat.2
    have := congrArg Addr.off e
    simp at this
theorem Xm.off {w0 w : World} {p : Nat} {ga : Option Addr} {gc : Nat} {gs : List Int} {st : St0} (h : Xm w0 p ga gc gs st w) {g : Nat} (hg : g ≠ p) (hlo : w0.heap.size ≤ g) {x : Int} (hc : w.cell? ⟨g, 0, none⟩ = some (.int .i64 x)) (u : Value) : Xm w0 p ga gc gs st (w.setCell ⟨g, 0, none⟩ u) := by
  have e : (w.setCell ⟨g, 0, none⟩ u).heap[p]? = w.heap[p]? := Below.heap_setCell w ⟨g, 0, none⟩ u p (fun e => hg e.symm)
  obtain ⟨a, n, c, h1, h2, h3⟩ := h.b
  exact ⟨h.hB, by rw [World.size_setCell]; exact h.hp, by simp only [World.frozen?_setCell]; exact h.fz,
    ⟨a, n, c, (World.cell?_of_block (w := w) e).trans h1, h2, h3.off hc u⟩, (World.cell?_of_block (w := w) e).trans h.g, (World.cell?_of_block (w := w) e).trans h.f,
    h.bw.setCell (p := ⟨g, 0, none⟩) hlo _, h.hg, h.g3, h.L, h.ok, h.th, h.f0⟩
set_option maxHeartbeats 8000000 in
set_option maxRecDepth 100000 in
theorem run_bad (w0 w : World) (p : Nat) (hB : w0.heap.size ≤ p) (hp : p < w.heap.size) (hw0 : Below w0.heap.size w0 w) (hfz : w.frozen? ⟨p, 0, none⟩ = false ∧ w.frozen? ⟨p, 1, none⟩ = false ∧ w.frozen? ⟨p, 2, none⟩ = false) (ba : Option Addr) (bn bc : Nat) (bs : List Bi) (hbn : bs.length = bn) (hbl : bn ≤ 4194304) (c0 : w.cell? ⟨p, 0, none⟩ = some (.slice ba bn bc)) (hb : VwX p w ba bc bs) (ga : Option Addr) (gc gn : Nat) (gs : List Int) (hgn : gs.length = gn) (hgl : gn ≤ 4194304) (c1 : w.cell? ⟨p, 1, none⟩ = some (.slice ga gn gc)) (hg : V1 w0 ga gc (inL gs)) (f : Int) (c2 : w.cell? ⟨p, 2, none⟩ = some (.int .i64 f))
    (a : Option Addr) (cap n : Nat) (l : List Tk) (hn : l.length = n) (hv : V1 w0 a cap (txL l)) (hl : n ≤ 4194304) (hm : ∀ s ∈ l, s.length ≤ 4194304) (hL : Lib3 w0) (h : meB l bs gs f = false) :
    Calls Tryz.prog 46 #[.pointer (some ⟨p, 0, none⟩), .slice a n cap] w fun e w' => e = .returned (.int .i64 5) ∧ But p w w' := by
  have hmf : ∀ (fn : Fn) (first cap : Array Value) (w : World), (Instr.makeFunc fn first cap).run Tryz.prog w = .ok (.func fn first cap) w := fun _ _ _ _ => rfl
  have N1 := new_of w (.cells #[.int .i64 5] 2)
  have hpc : w.heap.size ≠ p := by omega
  obtain ⟨w1, hw1⟩ : ∃ w1, w1 = w.alloc (.cells #[.int .i64 5] 2) := ⟨_, rfl⟩
  rw [← hw1] at N1
  have B1 := Lib.hid (show Below w.heap.size w w1 by rw [hw1]; exact bel1 w _)
  have PC1 := Lib.hid (show w1.cell? ⟨w.heap.size, 0, none⟩ = some (.int .i64 5) ∧ w1.frozen? ⟨w.heap.size, 0, none⟩ = false ∧ w.heap.size < w1.heap.size from
    ⟨by simp only [World.cell?, N1]; rfl, by simp only [World.frozen?, N1]; rfl, by rw [hw1, World.size_alloc]; omega⟩)
  have HW1 := Lib.hid hw1
  have hb01 : Below w0.heap.size w0 w1 := hw0.trans (B1.out.mono hw0.size)
  have HDO := Lib.hid (T.deedsOf_any w0 w1 hb01 a cap l n hn hv hl hm hL)
  have e1 := B1.out.block p hp
  have X1 := Lib.hid (show w1.cell? ⟨p, 0, none⟩ = some (.slice ba bn bc) ∧ w1.cell? ⟨p, 1, none⟩ = some (.slice ga gn gc) ∧ w1.cell? ⟨p, 2, none⟩ = some (.int .i64 f) from ⟨(World.cell?_of_block (w := w) e1).trans c0, (World.cell?_of_block (w := w) e1).trans c1, (World.cell?_of_block (w := w) e1).trans c2⟩)
  have Z1 := Lib.hid (show w1.frozen? ⟨p, 0, none⟩ = false ∧ w1.frozen? ⟨p, 1, none⟩ = false ∧ w1.frozen? ⟨p, 2, none⟩ = false from ⟨(World.frozen?_of_block (w := w) e1).trans hfz.1, (World.frozen?_of_block (w := w) e1).trans hfz.2.1, (World.frozen?_of_block (w := w) e1).trans hfz.2.2⟩)
  have V1b := Lib.hid (hb.but (But.of B1.out))
  have V1g := Lib.hid (hg.below hb01)
  have hp1 : p < w1.heap.size := Nat.lt_of_lt_of_le hp B1.out.size
  clear N1 e1 c0 c1 c2 hb hfz
  have HF := Lib.hid (fun w => fuelOk_any f w)
  have HBU := Lib.hid (fun (z : World) (hz : Below w.heap.size w z) => (But.of hz : But p w z))
  have BUW := Lib.hid (fun (z : World) (hz : Below w.heap.size w z) => (((But.of hz : But p w z).setNew (p := ⟨w.heap.size, 0, none⟩) (Nat.le_refl _) (.int .i64 5)) : But p w (z.setCell ⟨w.heap.size, 0, none⟩ (.int .i64 5))))
  unfold meB at h
  generalize T.rcR l = tr at *
  generalize rcB l = y1 at *
  have HBO := Lib.hid (fun z (hz : VwI z ba bc bs) => implBins_any z ba bc bs bn hbn hz hbl)
  have HGO := Lib.hid (fun z (hz : V1 z ga gc (inL gs)) => givenOk_any z ga gc gs gn hgn hz hgl)
  generalize okI bs = y2 at *
  generalize thB gs = y3 at *
  generalize inB f 0 400 = y4 at *
  go_enter_defers Tryz.func46, Tryz.ntmps46
  go_wp2_with fail
  rw [← HW1.out]
  clear hmf HW1
  generalize w.heap.size = pc at *
  refine HDO.out.mono ?_; rintro e w2 ⟨b, m, c, rfl, b2, -⟩
  have B2 := Lib.hid (B1.out.trans (b2.mono (Nat.le_of_lt PC1.out.2.2)))
  have PC2 := Lib.hid (show w2.cell? ⟨pc, 0, none⟩ = some (.int .i64 5) ∧ w2.frozen? ⟨pc, 0, none⟩ = false ∧ pc < w2.heap.size from ⟨(World.cell?_of_block (w := w1) (b2.block pc PC1.out.2.2)).trans PC1.out.1, (World.frozen?_of_block (w := w1) (b2.block pc PC1.out.2.2)).trans PC1.out.2.1, Nat.lt_of_lt_of_le PC1.out.2.2 b2.size⟩)
  have X2 := Lib.hid (show w2.cell? ⟨p, 0, none⟩ = some (.slice ba bn bc) ∧ w2.cell? ⟨p, 1, none⟩ = some (.slice ga gn gc) ∧ w2.cell? ⟨p, 2, none⟩ = some (.int .i64 f) from ⟨(World.cell?_of_block (w := w1) (b2.block p hp1)).trans X1.out.1, (World.cell?_of_block (w := w1) (b2.block p hp1)).trans X1.out.2.1, (World.cell?_of_block (w := w1) (b2.block p hp1)).trans X1.out.2.2⟩)
  have Z2 := Lib.hid (show w2.frozen? ⟨p, 0, none⟩ = false ∧ w2.frozen? ⟨p, 1, none⟩ = false ∧ w2.frozen? ⟨p, 2, none⟩ = false from ⟨(World.frozen?_of_block (w := w1) (b2.block p hp1)).trans Z1.out.1, (World.frozen?_of_block (w := w1) (b2.block p hp1)).trans Z1.out.2.1, (World.frozen?_of_block (w := w1) (b2.block p hp1)).trans Z1.out.2.2⟩)
  have V2b := Lib.hid (V1b.out.but (But.of b2))
  have V2g := Lib.hid (V1g.out.below b2)
  have hp2 : p < w2.heap.size := Nat.lt_of_lt_of_le hp1 b2.size
  clear b2
  cases y1
  · go_wp2_with fail
    refine (req_no _ 5).mono ?_; rintro e z ⟨rfl, rfl⟩
    refine leaves_cons (f := 73) (args := #[.pointer (some ⟨pc, 0, none⟩)]) (by simp) (by simp [go_sem]) ?_
    refine (catch_panic pc 5 _ _ PC2.out.1 PC2.out.2.1).mono ?_; rintro e u' w9 ⟨rfl, rfl, rfl⟩
    refine ⟨.int .i64 5, ?_, ?_⟩
    · have hcc := World.cell?_setCell_same' (w := w2) (a := ⟨pc, 0, none⟩) (v := .int .i64 5) (by rw [PC2.out.1]; rfl)
      simp [results, Tryz.results46, go_sem, PC2.out.1]
    · exact ⟨rfl, BUW.out _ B2.out⟩
  · have x2 := X2.out.1
    have x2' := X2.out.2.1
    have x2'' := X2.out.2.2
    go_wp2_with fail
    refine (HBO.out _ V2b.out.1).mono ?_; rintro e w3 ⟨rfl, b3⟩
    have B3 := Lib.hid (B2.out.trans (b3.mono (Nat.le_of_lt PC2.out.2.2)))
    have PC3 := Lib.hid (show w3.cell? ⟨pc, 0, none⟩ = some (.int .i64 5) ∧ w3.frozen? ⟨pc, 0, none⟩ = false ∧ pc < w3.heap.size from ⟨(World.cell?_of_block (w := w2) (b3.block pc PC2.out.2.2)).trans PC2.out.1, (World.frozen?_of_block (w := w2) (b3.block pc PC2.out.2.2)).trans PC2.out.2.1, Nat.lt_of_lt_of_le PC2.out.2.2 b3.size⟩)
    have X3 := Lib.hid (show w3.cell? ⟨p, 0, none⟩ = some (.slice ba bn bc) ∧ w3.cell? ⟨p, 1, none⟩ = some (.slice ga gn gc) ∧ w3.cell? ⟨p, 2, none⟩ = some (.int .i64 f) from ⟨(World.cell?_of_block (w := w2) (b3.block p hp2)).trans X2.out.1, (World.cell?_of_block (w := w2) (b3.block p hp2)).trans X2.out.2.1, (World.cell?_of_block (w := w2) (b3.block p hp2)).trans X2.out.2.2⟩)
    have Z3 := Lib.hid (show w3.frozen? ⟨p, 0, none⟩ = false ∧ w3.frozen? ⟨p, 1, none⟩ = false ∧ w3.frozen? ⟨p, 2, none⟩ = false from ⟨(World.frozen?_of_block (w := w2) (b3.block p hp2)).trans Z2.out.1, (World.frozen?_of_block (w := w2) (b3.block p hp2)).trans Z2.out.2.1, (World.frozen?_of_block (w := w2) (b3.block p hp2)).trans Z2.out.2.2⟩)
    have V3b := Lib.hid (V2b.out.but (But.of b3))
    have V3g := Lib.hid (V2g.out.below b3)
    have hp3 : p < w3.heap.size := Nat.lt_of_lt_of_le hp2 b3.size
    clear b3 x2 x2' x2''
    have x3' := X3.out.2.1
    have x3'' := X3.out.2.2
    cases y2
    · go_wp2_with fail
      refine (req_no _ 5).mono ?_; rintro e z ⟨rfl, rfl⟩
      refine leaves_cons (f := 73) (args := #[.pointer (some ⟨pc, 0, none⟩)]) (by simp) (by simp [go_sem]) ?_
      refine (catch_panic pc 5 _ _ PC3.out.1 PC3.out.2.1).mono ?_; rintro e u' w9 ⟨rfl, rfl, rfl⟩
      refine ⟨.int .i64 5, ?_, ?_⟩
      · have hcc := World.cell?_setCell_same' (w := w3) (a := ⟨pc, 0, none⟩) (v := .int .i64 5) (by rw [PC3.out.1]; rfl)
        simp [results, Tryz.results46, go_sem, PC3.out.1]
      · exact ⟨rfl, BUW.out _ B3.out⟩
    · go_wp2_with fail
      refine (HGO.out _ V3g.out).mono ?_; rintro e w4 ⟨rfl, rfl⟩
      cases y3
      · go_wp2_with fail
        refine (req_no _ 5).mono ?_; rintro e z ⟨rfl, rfl⟩
        refine leaves_cons (f := 73) (args := #[.pointer (some ⟨pc, 0, none⟩)]) (by simp) (by simp [go_sem]) ?_
        refine (catch_panic pc 5 _ _ PC3.out.1 PC3.out.2.1).mono ?_; rintro e u' w9 ⟨rfl, rfl, rfl⟩
        refine ⟨.int .i64 5, ?_, ?_⟩
        · have hcc := World.cell?_setCell_same' (w := w3) (a := ⟨pc, 0, none⟩) (v := .int .i64 5) (by rw [PC3.out.1]; rfl)
          simp [results, Tryz.results46, go_sem, PC3.out.1]
        · exact ⟨rfl, BUW.out _ B3.out⟩
      · go_wp2_with fail
        refine (HF.out _).mono ?_; rintro e w4 ⟨rfl, rfl⟩
        have hy : y4 = false := h
        subst hy
        go_wp2_with fail
        refine (req_no _ 5).mono ?_; rintro e z ⟨rfl, rfl⟩
        refine leaves_cons (f := 73) (args := #[.pointer (some ⟨pc, 0, none⟩)]) (by simp) (by simp [go_sem]) ?_
        refine (catch_panic pc 5 _ _ PC3.out.1 PC3.out.2.1).mono ?_; rintro e u' w9 ⟨rfl, rfl, rfl⟩
        refine ⟨.int .i64 5, ?_, ?_⟩
        · have hcc := World.cell?_setCell_same' (w := w3) (a := ⟨pc, 0, none⟩) (v := .int .i64 5) (by rw [PC3.out.1]; rfl)
          simp [results, Tryz.results46, go_sem, PC3.out.1]
        · exact ⟨rfl, BUW.out _ B3.out⟩
set_option maxHeartbeats 8000000 in
set_option maxRecDepth 100000 in
theorem run_ok (w0 w : World) (p : Nat) (hB : w0.heap.size ≤ p) (hp : p < w.heap.size) (hw0 : Below w0.heap.size w0 w) (hfz : w.frozen? ⟨p, 0, none⟩ = false ∧ w.frozen? ⟨p, 1, none⟩ = false ∧ w.frozen? ⟨p, 2, none⟩ = false) (ba : Option Addr) (bn bc : Nat) (bs : List Bi) (hbn : bs.length = bn) (hbl : bn ≤ 4194304) (c0 : w.cell? ⟨p, 0, none⟩ = some (.slice ba bn bc)) (hb : VwX p w ba bc bs) (ga : Option Addr) (gc gn : Nat) (gs : List Int) (hgn : gs.length = gn) (hgl : gn ≤ 4194304) (c1 : w.cell? ⟨p, 1, none⟩ = some (.slice ga gn gc)) (hg : V1 w0 ga gc (inL gs)) (f : Int) (c2 : w.cell? ⟨p, 2, none⟩ = some (.int .i64 f))
    (a : Option Addr) (cap n : Nat) (l : List Tk) (hn : l.length = n) (hv : V1 w0 a cap (txL l)) (hl : n ≤ 4194304) (hm : ∀ s ∈ l, s.length ≤ 4194304) (hL : Lib3 w0) (h : meB l bs gs f = true) (t : Sl) (hw : t.wf 5) (ht : l = t.fl) :
    Calls Tryz.prog 46 #[.pointer (some ⟨p, 0, none⟩), .slice a n cap] w fun e w' => e = .returned (.int .i64 (t.run gs ⟨0, bs, f⟩).c) ∧ But p w w' ∧ ((t.run gs ⟨0, bs, f⟩).c = 0 → Xm w0 p ga gc gs (t.run gs ⟨0, bs, f⟩) w') := by
  have hmf : ∀ (fn : Fn) (first cap : Array Value) (w : World), (Instr.makeFunc fn first cap).run Tryz.prog w = .ok (.func fn first cap) w := fun _ _ _ _ => rfl
  have N1 := new_of w (.cells #[.int .i64 5] 2)
  have hpc : w.heap.size ≠ p := by omega
  obtain ⟨w1, hw1⟩ : ∃ w1, w1 = w.alloc (.cells #[.int .i64 5] 2) := ⟨_, rfl⟩
  rw [← hw1] at N1
  have B1 := Lib.hid (show Below w.heap.size w w1 by rw [hw1]; exact bel1 w _)
  have PC1 := Lib.hid (show w1.cell? ⟨w.heap.size, 0, none⟩ = some (.int .i64 5) ∧ w1.frozen? ⟨w.heap.size, 0, none⟩ = false ∧ w.heap.size < w1.heap.size from
    ⟨by simp only [World.cell?, N1]; rfl, by simp only [World.frozen?, N1]; rfl, by rw [hw1, World.size_alloc]; omega⟩)
  have HW1 := Lib.hid hw1
  have hb01 : Below w0.heap.size w0 w1 := hw0.trans (B1.out.mono hw0.size)
  have HDO := Lib.hid (T.deedsOf_any w0 w1 hb01 a cap l n hn hv hl hm hL)
  have e1 := B1.out.block p hp
  have X1 := Lib.hid (show w1.cell? ⟨p, 0, none⟩ = some (.slice ba bn bc) ∧ w1.cell? ⟨p, 1, none⟩ = some (.slice ga gn gc) ∧ w1.cell? ⟨p, 2, none⟩ = some (.int .i64 f) from ⟨(World.cell?_of_block (w := w) e1).trans c0, (World.cell?_of_block (w := w) e1).trans c1, (World.cell?_of_block (w := w) e1).trans c2⟩)
  have Z1 := Lib.hid (show w1.frozen? ⟨p, 0, none⟩ = false ∧ w1.frozen? ⟨p, 1, none⟩ = false ∧ w1.frozen? ⟨p, 2, none⟩ = false from ⟨(World.frozen?_of_block (w := w) e1).trans hfz.1, (World.frozen?_of_block (w := w) e1).trans hfz.2.1, (World.frozen?_of_block (w := w) e1).trans hfz.2.2⟩)
  have V1b := Lib.hid (hb.but (But.of B1.out))
  have V1g := Lib.hid (hg.below hb01)
  have hp1 : p < w1.heap.size := Nat.lt_of_lt_of_le hp B1.out.size
  clear N1 e1 c0 c1 c2 hb hfz
  have HF := Lib.hid (fun w => fuelOk_any f w)
  have HBU := Lib.hid (fun (z : World) (hz : Below w.heap.size w z) => (But.of hz : But p w z))
  have hlo : w0.heap.size ≤ w.heap.size := hw0.size
  have BUW := Lib.hid (fun (z : World) (x : Int) (hz : But p w z) => ((hz.setNew (p := ⟨w.heap.size, 0, none⟩) (Nat.le_refl _) (.int .i64 x)) : But p w (z.setCell ⟨w.heap.size, 0, none⟩ (.int .i64 x))))
  have hbd : Bd t.fl := by rw [← ht]; exact ⟨by omega, hm⟩
  have hrc : T.rcR l = t := by rw [ht]; exact T.rc_det hw
  rw [hrc] at HDO
  unfold meB at h
  rw [Bool.and_eq_true, Bool.and_eq_true, Bool.and_eq_true] at h
  obtain ⟨h1, h2, h3, h4⟩ := h
  have HBO := Lib.hid (fun z (hz : VwI z ba bc bs) => implBins_any z ba bc bs bn hbn hz hbl)
  have HGO := Lib.hid (fun z (hz : V1 z ga gc (inL gs)) => givenOk_any z ga gc gs gn hgn hz hgl)
  have hg3 : gs.length = 3 := by unfold thB at h3; rw [Bool.and_eq_true, decide_eq_true_eq] at h3; exact h3.2
  have hf04 : 0 ≤ f ∧ f ≤ 400 := by unfold inB at h4; rw [Bool.and_eq_true, decide_eq_true_eq, decide_eq_true_eq] at h4; exact h4
  obtain rfl : gn = 3 := by omega
  have HXM := Lib.hid (fun (z : World) (hz : w1.heap.size ≤ z.heap.size) (hb : Below w1.heap.size w1 z) (vb : VwX p z ba bc bs) (cc : z.cell? ⟨p, 0, none⟩ = some (.slice ba bn bc) ∧ z.cell? ⟨p, 1, none⟩ = some (.slice ga (3 : Nat) gc) ∧ z.cell? ⟨p, 2, none⟩ = some (.int .i64 f)) (zz : z.frozen? ⟨p, 0, none⟩ = false ∧ z.frozen? ⟨p, 1, none⟩ = false ∧ z.frozen? ⟨p, 2, none⟩ = false) =>
    (⟨hB, Nat.lt_of_lt_of_le hp1 hz, zz, ⟨ba, bn, bc, cc.1, hbn, vb⟩, cc.2.1, cc.2.2, hb01.trans (hb.mono hb01.size), hg, hg3, hL, h2, h3, hf04⟩ : Xm w0 p ga gc gs ⟨0, bs, f⟩ z))
  have HDS := Lib.hid (deedsX_of w0 p ga gc gs w1.heap.size t (Sl.runX w0 p ga gc gs w1.heap.size t hw hbd))
  rw [h1] at HDO
  rw [h2] at HBO
  rw [h3] at HGO
  rw [h4] at HF
  clear hm hv hrc ht hw hbd h1 h2 h3 h4 hf04 hg hg3 hgl hbl hw0 hb01 hL hl hB
  obtain ⟨fin, hfin⟩ : ∃ r, t.run gs ⟨0, bs, f⟩ = r := ⟨_, rfl⟩
  rw [hfin]
  have HFIN := Lib.hid hfin; clear hfin
  go_enter_defers Tryz.func46, Tryz.ntmps46
  go_wp2_with fail
  rw [← HW1.out]
  clear hmf HW1
  generalize w.heap.size = pc at *
  refine HDO.out.mono ?_; rintro e w2 ⟨b, m, c, rfl, b2, hdm⟩
  have DM2 := Lib.hid (hdm (by first | exact trivial | rfl))
  have C2 := Lib.hid b2
  have B2 := Lib.hid (B1.out.trans (b2.mono (Nat.le_of_lt PC1.out.2.2)))
  have PC2 := Lib.hid (show w2.cell? ⟨pc, 0, none⟩ = some (.int .i64 5) ∧ w2.frozen? ⟨pc, 0, none⟩ = false ∧ pc < w2.heap.size from ⟨(World.cell?_of_block (w := w1) (b2.block pc PC1.out.2.2)).trans PC1.out.1, (World.frozen?_of_block (w := w1) (b2.block pc PC1.out.2.2)).trans PC1.out.2.1, Nat.lt_of_lt_of_le PC1.out.2.2 b2.size⟩)
  have X2 := Lib.hid (show w2.cell? ⟨p, 0, none⟩ = some (.slice ba bn bc) ∧ w2.cell? ⟨p, 1, none⟩ = some (.slice ga (3 : Nat) gc) ∧ w2.cell? ⟨p, 2, none⟩ = some (.int .i64 f) from ⟨(World.cell?_of_block (w := w1) (b2.block p hp1)).trans X1.out.1, (World.cell?_of_block (w := w1) (b2.block p hp1)).trans X1.out.2.1, (World.cell?_of_block (w := w1) (b2.block p hp1)).trans X1.out.2.2⟩)
  have Z2 := Lib.hid (show w2.frozen? ⟨p, 0, none⟩ = false ∧ w2.frozen? ⟨p, 1, none⟩ = false ∧ w2.frozen? ⟨p, 2, none⟩ = false from ⟨(World.frozen?_of_block (w := w1) (b2.block p hp1)).trans Z1.out.1, (World.frozen?_of_block (w := w1) (b2.block p hp1)).trans Z1.out.2.1, (World.frozen?_of_block (w := w1) (b2.block p hp1)).trans Z1.out.2.2⟩)
  have V2b := Lib.hid (V1b.out.but (But.of b2))
  have V2g := Lib.hid (V1g.out.below b2)
  have hp2 : p < w2.heap.size := Nat.lt_of_lt_of_le hp1 b2.size
  clear b2 hdm
  have x2 := X2.out.1
  have x2' := X2.out.2.1
  have x2'' := X2.out.2.2
  go_wp2_with fail
  refine (HBO.out _ V2b.out.1).mono ?_; rintro e w3 ⟨rfl, b3⟩
  have C3 := Lib.hid (C2.out.trans (b3.mono C2.out.size))
  have DM3 := Lib.hid (T.DM.but hp1 (But.of b3) DM2.out)
  have B3 := Lib.hid (B2.out.trans (b3.mono (Nat.le_of_lt PC2.out.2.2)))
  have PC3 := Lib.hid (show w3.cell? ⟨pc, 0, none⟩ = some (.int .i64 5) ∧ w3.frozen? ⟨pc, 0, none⟩ = false ∧ pc < w3.heap.size from ⟨(World.cell?_of_block (w := w2) (b3.block pc PC2.out.2.2)).trans PC2.out.1, (World.frozen?_of_block (w := w2) (b3.block pc PC2.out.2.2)).trans PC2.out.2.1, Nat.lt_of_lt_of_le PC2.out.2.2 b3.size⟩)
  have X3 := Lib.hid (show w3.cell? ⟨p, 0, none⟩ = some (.slice ba bn bc) ∧ w3.cell? ⟨p, 1, none⟩ = some (.slice ga (3 : Nat) gc) ∧ w3.cell? ⟨p, 2, none⟩ = some (.int .i64 f) from ⟨(World.cell?_of_block (w := w2) (b3.block p hp2)).trans X2.out.1, (World.cell?_of_block (w := w2) (b3.block p hp2)).trans X2.out.2.1, (World.cell?_of_block (w := w2) (b3.block p hp2)).trans X2.out.2.2⟩)
  have Z3 := Lib.hid (show w3.frozen? ⟨p, 0, none⟩ = false ∧ w3.frozen? ⟨p, 1, none⟩ = false ∧ w3.frozen? ⟨p, 2, none⟩ = false from ⟨(World.frozen?_of_block (w := w2) (b3.block p hp2)).trans Z2.out.1, (World.frozen?_of_block (w := w2) (b3.block p hp2)).trans Z2.out.2.1, (World.frozen?_of_block (w := w2) (b3.block p hp2)).trans Z2.out.2.2⟩)
  have V3b := Lib.hid (V2b.out.but (But.of b3))
  have V3g := Lib.hid (V2g.out.below b3)
  have hp3 : p < w3.heap.size := Nat.lt_of_lt_of_le hp2 b3.size
  clear b3 x2 x2' x2''
  have x3' := X3.out.2.1
  have x3'' := X3.out.2.2
  go_wp2_with fail
  refine (HGO.out _ V3g.out).mono ?_; rintro e w4 ⟨rfl, rfl⟩
  go_wp2_with fail
  refine (HF.out _).mono ?_; rintro e w4 ⟨rfl, rfl⟩
  go_wp2_with fail
  refine (req_yes _ 5).mono ?_; rintro e w4 ⟨rfl, rfl⟩
  have HXX := Lib.hid (HXM.out w3 C3.out.size C3.out V3b.out X3.out Z3.out)
  have HRUN := Lib.hid (HDS.out 6 _ ⟨0, bs, f⟩ w3 rfl hp1 HXX.out DM3.out)
  rw [HFIN.out] at HRUN
  clear x3' x3''
  go_wp2_with fail
  refine HRUN.out.mono ?_; rintro e w4 ⟨b4, h4, k4⟩
  have PC4 := Lib.hid (show w4.cell? ⟨pc, 0, none⟩ = some (.int .i64 5) ∧ w4.frozen? ⟨pc, 0, none⟩ = false ∧ pc < w4.heap.size from ⟨(b4.cell (p := ⟨pc, 0, none⟩) PC3.out.2.2 hpc).trans PC3.out.1, (b4.frozen (p := ⟨pc, 0, none⟩) PC3.out.2.2 hpc).trans PC3.out.2.1, Nat.lt_of_lt_of_le PC3.out.2.2 b4.size⟩)
  have BU4 := Lib.hid ((HBU.out _ B3.out).trans b4)
  by_cases hz : fin.c = 0
  · obtain ⟨rfl, x4⟩ := h4 hz
    have X4 := Lib.hid x4
    have XN := Lib.hid (fun x => X4.out.off (g := pc) hpc hlo PC4.out.1 (.int .i64 x))
    have pc4 := PC4.out.1
    have pf4 := PC4.out.2.1
    clear b4 h4 k4 x4
    go_wp2_with fail
    refine leaves_cons (f := 73) (args := #[.pointer (some ⟨pc, 0, none⟩)]) (by simp) (by simp [go_sem]) ?_
    refine (catch_idle pc _).mono ?_; rintro e u' w9 ⟨rfl, rfl, rfl⟩
    refine ⟨.int .i64 fin.c, ?_, ?_⟩
    · rw [hz]; simp [results, Tryz.results46, go_sem, PC4.out.1]
    · exact ⟨rfl, BUW.out _ _ BU4.out, fun _ => XN.out 0⟩
  · obtain rfl := k4 hz
    refine leaves_cons (f := 73) (args := #[.pointer (some ⟨pc, 0, none⟩)]) (by simp) (by simp [go_sem]) ?_
    refine (catch_panic pc fin.c _ _ PC4.out.1 PC4.out.2.1).mono ?_; rintro e u' w9 ⟨rfl, rfl, rfl⟩
    refine ⟨.int .i64 fin.c, ?_, ?_⟩
    · have hcc := World.cell?_setCell_same' (w := w4) (a := ⟨pc, 0, none⟩) (v := .int .i64 fin.c) (by rw [PC4.out.1]; rfl)
      simp [results, Tryz.results46, go_sem, PC4.out.1]
    · exact ⟨rfl, BUW.out _ _ BU4.out, fun e => absurd e hz⟩
set_option maxHeartbeats 2000000 in
set_option maxRecDepth 100000 in
theorem cloneB_any (w : World) (a : Option Addr) (cap : Nat) (l : List Bi) (n : Nat) (hn : l.length = n) (hv : VwI w a cap l) (hl : n ≤ 4194304) :
    Calls Tryz.prog 47 #[.slice a n cap] w fun e w' => ∃ v, e = .returned v ∧ OwI w.heap.size w' v l ∧ Below w.heap.size w w' := by
  subst hn
  have hT : Tryz.prog.underlying 25 = some (.slice 44) := Tryz.underlying25
  have hq : ∀ w, (binOp .eql 25 (.slice a l.length cap) (.slice none 0 0)).run Tryz.prog w = .ok (.bool a.isNone) w := fun w => Lib.run_eql_slice_nil w _ _ a l.length cap 0 0 hT
  cases a with
  | none =>
    have hc := hv.2.2.1 rfl
    have hm : l = [] := List.length_eq_zero_iff.1 (by have := hv.1; omega)
    subst hm hc
    replace hq : ∀ w, (binOp .eql 25 (.slice none 0 0) (.slice none 0 0)).run Tryz.prog w = .ok (.bool true) w := hq
    go_enter Tryz.func47, Tryz.ntmps47
    go_wp2_with fail
    go_ret
    exact ⟨_, rfl, OwI.nothing _ _, Below.refl _ _⟩
  | some ad =>
    have HV := Lib.hid hv; clear hv
    replace hq : ∀ w, (binOp .eql 25 (.slice (some ad) l.length cap) (.slice none 0 0)).run Tryz.prog w = .ok (.bool false) w := hq
    go_enter Tryz.func47, Tryz.ntmps47
    go_wp2_with (first
      | (at_builtin; refine append_binsT rfl (.tmp 5) (.tmp 6) 25 hT rfl (base := w.heap.size) (l := []) (m := l) rfl rfl rfl (OwI.start (Nat.le_refl _)) (HV.out.below (bel1 _ _)) (by simp; omega) (by simp) ?_; intro v1 w1 hown1 hgrow1))
    go_ret
    exact ⟨_, rfl, hown1, (bel1 w _).grown hgrow1 (by simp) (fun j hj => OwI.lt (OwI.start (Nat.le_refl _)) j hj)⟩
end Go.Proofs.YtfnnoehpahdgcaaGreatDoor.Cl
namespace Go.Proofs.YtfnnoehpahdgcaaGreatDoor.Cl
set_option linter.unusedVariables false
open Go.RowKit Wd Rp Cu Kp
def meV (l : List Tk) (bs : List Bi) (gs : List Int) (f : Int) : St0 := if meB l bs gs f = true then (T.rcR l).end_ gs bs f else ⟨5, bs, 0⟩
theorem meV_no {l : List Tk} {bs : List Bi} {gs : List Int} {f : Int} (h : meB l bs gs f = false) : meV l bs gs f = ⟨5, bs, 0⟩ := by unfold meV; rw [h]; rfl
theorem meB_tree {l : List Tk} {bs : List Bi} {gs : List Int} {f : Int} (h : meB l bs gs f = true) : ∃ t : Sl, t.wf 5 ∧ l = t.fl ∧ meV l bs gs f = t.end_ gs bs f := by
  have h1 : rcB l = true := by unfold meB at h; rw [Bool.and_eq_true] at h; exact h.1
  obtain ⟨t, hw, ht⟩ := rc_tree h1
  refine ⟨t, hw, ht, ?_⟩
  unfold meV
  rw [if_pos h, ht, T.rc_det hw]
theorem meB_gn {l : List Tk} {bs : List Bi} {gs : List Int} {f : Int} (h : meB l bs gs f = true) : gs.length = 3 := by
  unfold meB at h
  rw [Bool.and_eq_true, Bool.and_eq_true, Bool.and_eq_true] at h
  exact thB_len h.2.2.1
theorem specMeans_any (w : World) (a : Option Addr) (cap : Nat) (l : List Tk) (n : Nat) (hn : l.length = n) (hl : n ≤ 4194304) (hm : ∀ s ∈ l, s.length ≤ 4194304) (hv : V1 w a cap (txL l)) (ba : Option Addr) (bc bn : Nat) (bs : List Bi) (hbn : bs.length = bn) (hb : VwI w ba bc bs) (hbl : bn ≤ 4194304) (ga : Option Addr) (gc gn : Nat) (gs : List Int) (hgn : gs.length = gn) (hgl : gn ≤ 4194304) (hg : V1 w ga gc (inL gs)) (f : Int) (hbm : ∀ c ∈ bs, c.n.size ≤ 9223372036854775806) :
    Calls Tryz.prog 13 #[.slice a n cap, .slice ba bn bc, .slice ga gn gc, .int .i64 f] w (EndP w.heap.size (meV l bs gs f) w) := by
  cases h : meB l bs gs f with
  | false => rw [meV_no h]; exact specMeans_bad w a cap l n hn hl hm hv ba bc bn bs hbn hb hbl hbm ga gc gn gs hgn hgl hg f h
  | true =>
    obtain ⟨t, hw, ht, e⟩ := meB_tree h
    have hg3 := meB_gn h
    obtain rfl : gn = 3 := by omega
    rw [e]
    exact specMeans_ok w a cap l n hn hl hm hv ba bc bn bs hbn hb hbm ga gc gs hg f h t hw ht
set_option maxHeartbeats 8000000 in
set_option maxRecDepth 100000 in
theorem implMeans_bad (w : World) (a : Option Addr) (cap : Nat) (l : List Tk) (n : Nat) (hn : l.length = n) (hl : n ≤ 4194304) (hm : ∀ s ∈ l, s.length ≤ 4194304) (hv : V1 w a cap (txL l)) (ba : Option Addr) (bc bn : Nat) (bs : List Bi) (hbn : bs.length = bn) (hb : VwI w ba bc bs) (hbl : bn ≤ 4194304) (ga : Option Addr) (gc gn : Nat) (gs : List Int) (hgn : gs.length = gn) (hgl : gn ≤ 4194304) (hg : V1 w ga gc (inL gs)) (f : Int) (hL : Lib3 w) (h : meB l bs gs f = false) :
    Calls Tryz.prog 9 #[.slice a n cap, .slice ba bn bc, .slice ga gn gc, .int .i64 f] w (EndP w.heap.size ⟨5, bs, 0⟩ w) := by
  have hb1 := bel1 w (.cells #[.int .i64 0, .slice none 0 0, .int .i64 0] 30)
  have hb2 := bel1 (w.alloc (.cells #[.int .i64 0, .slice none 0 0, .int .i64 0] 30)) (.cells #[.slice ba bn bc, .slice ga gn gc, .int .i64 f] 67)
  have hbb := hb1.trans (hb2.mono hb1.size)
  have N1 := Tri.made (.int .i64 0) (.slice none 0 0) (.int .i64 0) w 30
  have N2 := Tri.made (.slice ba bn bc) (.slice ga gn gc) (.int .i64 f) (w.alloc (.cells #[.int .i64 0, .slice none 0 0, .int .i64 0] 30)) 67
  have hz1 : (w.alloc (.cells #[.int .i64 0, .slice none 0 0, .int .i64 0] 30)).heap.size = w.heap.size + 1 := World.size_alloc _ _
  have T1 := Lib.hid (N1.below hb2 N1.2.2)
  rw [hz1] at N2
  have VX := hb.below hbb
  have hvx : VwX (w.heap.size + 1) ((w.alloc (.cells #[.int .i64 0, .slice none 0 0, .int .i64 0] 30)).alloc (.cells #[.slice ba bn bc, .slice ga gn gc, .int .i64 f] 67)) ba bc bs := ⟨VX, fun k c hk g o e => by
    obtain ⟨g', o', e', hg', -⟩ := hb.2.2.2 k c hk
    rw [e] at e'; cases e'; omega⟩
  have HR := Lib.hid (run_bad w _ (w.heap.size + 1) (Nat.le_succ _) N2.2.2 hbb N2.2.1 ba bn bc bs hbn hbl N2.1.1 hvx ga gc gn gs hgn hgl N2.1.2.1 hg f N2.1.2.2 a cap n l hn hv hl hm hL h)
  have HBW := Lib.hid (fun (z : World) (h : But (w.heap.size + 1) ((w.alloc (.cells #[.int .i64 0, .slice none 0 0, .int .i64 0] 30)).alloc (.cells #[.slice ba bn bc, .slice ga gn gc, .int .i64 f] 67)) z) => (show Below w.heap.size w z from hbb.trans (h.below (Nat.le_succ _) (by rw [World.size_alloc, hz1]; omega))))
  have HVX := Lib.hid hvx
  have HN2 := Lib.hid N2
  have heb : w.heap.size ≠ w.heap.size + 1 := by omega
  obtain ⟨pp, hpp⟩ : ∃ pp, w.heap.size + 1 = pp := ⟨_, rfl⟩
  rw [hpp] at HR HBW HVX HN2 heb
  clear hb1 hb2 hbb N1 N2 VX hvx hb hv hg hm
  go_enter Tryz.func9, Tryz.ntmps9
  go_wp2_with fail
  try rw [hz1, hpp]
  clear hz1 hpp
  generalize w.heap.size = eb at *
  generalize (w.alloc (.cells #[.int .i64 0, .slice none 0 0, .int .i64 0] 30)).alloc (.cells #[.slice ba bn bc, .slice ga gn gc, .int .i64 f] 67) = w2 at *
  refine HR.out.mono ?_; rintro e w3 ⟨rfl, bu3⟩
  have B3 := Lib.hid (HBW.out _ bu3)
  have T3 := Lib.hid (show Tri eb (.int .i64 0) (.slice none 0 0) (.int .i64 0) w3 from by
    have e := bu3.block eb T1.out.2.2 heb
    obtain ⟨⟨h0, h1, h2⟩, ⟨f0, f1, f2⟩, hl⟩ := T1.out
    exact ⟨⟨(World.cell?_of_block (w := w2) e).trans h0, (World.cell?_of_block (w := w2) e).trans h1, (World.cell?_of_block (w := w2) e).trans h2⟩, ⟨(World.frozen?_of_block (w := w2) e).trans f0, (World.frozen?_of_block (w := w2) e).trans f1, (World.frozen?_of_block (w := w2) e).trans f2⟩, Nat.lt_of_lt_of_le hl bu3.size⟩)
  have VB3 := Lib.hid (show VwI w3 ba bc bs from (HVX.out.but bu3).1)
  clear bu3
  go_wp2_with fail
  refine (cloneB_any w3 ba bc bs bn hbn VB3.out hbl).mono ?_; rintro e w4 ⟨v4, rfl, o4, b4⟩
  obtain ⟨va4, vc4, rfl, -⟩ := o4.view
  rw [hbn] at o4 ⊢
  have T4 := Lib.hid (T3.out.below b4 T3.out.2.2)
  have O9 := Lib.hid ((OwI.put3 o4 T3.out.2.2 (x := .int .i64 5) (y := .slice va4 bn vc4) (z := .int .i64 0)).mono (Nat.le_of_lt T3.out.2.2))
  have B9 := Lib.hid (put3_below (q := eb) (x := .int .i64 5) (y := .slice va4 bn vc4) (z := .int .i64 0) (B3.out.trans (b4.mono (Nat.le_of_lt T3.out.2.2))) (Nat.le_refl _))
  obtain ⟨⟨q0, q1, q2⟩, ⟨r0, r1, r2⟩, r3⟩ := T4.out
  obtain ⟨⟨p0, p1, p2⟩, -, -⟩ := T4.out.put3 (x' := .int .i64 5) (y' := .slice va4 bn vc4) (z' := .int .i64 0)
  clear o4 b4
  go_wp2_with fail
  refine bodyPost_ret (v := .agg #[.int .i64 5, .slice va4 bn vc4, .int .i64 0]) (by simp only [put3] at p0 p1 p2; simp [results, Tryz.results9, go_sem, p0, p1, p2]) rfl ⟨_, rfl, O9.out, B9.out⟩
set_option maxHeartbeats 8000000 in
set_option maxRecDepth 100000 in
theorem implMeans_ok (w : World) (a : Option Addr) (cap : Nat) (l : List Tk) (n : Nat) (hn : l.length = n) (hl : n ≤ 4194304) (hm : ∀ s ∈ l, s.length ≤ 4194304) (hv : V1 w a cap (txL l)) (ba : Option Addr) (bc bn : Nat) (bs : List Bi) (hbn : bs.length = bn) (hb : VwI w ba bc bs) (hbl : bn ≤ 4194304) (ga : Option Addr) (gc gn : Nat) (gs : List Int) (hgn : gs.length = gn) (hgl : gn ≤ 4194304) (hg : V1 w ga gc (inL gs)) (f : Int) (hL : Lib3 w) (h : meB l bs gs f = true) (t : Sl) (hw : t.wf 5) (ht : l = t.fl) :
    Calls Tryz.prog 9 #[.slice a n cap, .slice ba bn bc, .slice ga gn gc, .int .i64 f] w (EndP w.heap.size (t.end_ gs bs f) w) := by
  have hb1 := bel1 w (.cells #[.int .i64 0, .slice none 0 0, .int .i64 0] 30)
  have hb2 := bel1 (w.alloc (.cells #[.int .i64 0, .slice none 0 0, .int .i64 0] 30)) (.cells #[.slice ba bn bc, .slice ga gn gc, .int .i64 f] 67)
  have hbb := hb1.trans (hb2.mono hb1.size)
  have N1 := Tri.made (.int .i64 0) (.slice none 0 0) (.int .i64 0) w 30
  have N2 := Tri.made (.slice ba bn bc) (.slice ga gn gc) (.int .i64 f) (w.alloc (.cells #[.int .i64 0, .slice none 0 0, .int .i64 0] 30)) 67
  have hz1 : (w.alloc (.cells #[.int .i64 0, .slice none 0 0, .int .i64 0] 30)).heap.size = w.heap.size + 1 := World.size_alloc _ _
  have T1 := Lib.hid (N1.below hb2 N1.2.2)
  rw [hz1] at N2
  have VX := hb.below hbb
  have hvx : VwX (w.heap.size + 1) ((w.alloc (.cells #[.int .i64 0, .slice none 0 0, .int .i64 0] 30)).alloc (.cells #[.slice ba bn bc, .slice ga gn gc, .int .i64 f] 67)) ba bc bs := ⟨VX, fun k c hk g o e => by
    obtain ⟨g', o', e', hg', -⟩ := hb.2.2.2 k c hk
    rw [e] at e'; cases e'; omega⟩
  have HR := Lib.hid (run_ok w _ (w.heap.size + 1) (Nat.le_succ _) N2.2.2 hbb N2.2.1 ba bn bc bs hbn hbl N2.1.1 hvx ga gc gn gs hgn hgl N2.1.2.1 hg f N2.1.2.2 a cap n l hn hv hl hm hL h t hw ht)
  have HBW := Lib.hid (fun (z : World) (h : But (w.heap.size + 1) ((w.alloc (.cells #[.int .i64 0, .slice none 0 0, .int .i64 0] 30)).alloc (.cells #[.slice ba bn bc, .slice ga gn gc, .int .i64 f] 67)) z) => (show Below w.heap.size w z from hbb.trans (h.below (Nat.le_succ _) (by rw [World.size_alloc, hz1]; omega))))
  have HVX := Lib.hid hvx
  have HN2 := Lib.hid N2
  have heb : w.heap.size ≠ w.heap.size + 1 := by omega
  obtain ⟨pp, hpp⟩ : ∃ pp, w.heap.size + 1 = pp := ⟨_, rfl⟩
  rw [hpp] at HR HBW HVX HN2 heb
  clear hb1 hb2 hbb N1 N2 VX hvx hb hv hg hm
  obtain ⟨r, hr⟩ : ∃ r, t.end_ gs bs f = r := ⟨_, rfl⟩
  rw [hr]
  unfold Sl.end_ at hr
  obtain ⟨fin, hfin⟩ : ∃ r, t.run gs ⟨0, bs, f⟩ = r := ⟨_, rfl⟩
  rw [hfin] at hr HR
  have HRR := Lib.hid hr
  clear hr hfin hw ht h
  go_enter Tryz.func9, Tryz.ntmps9
  go_wp2_with fail
  try rw [hz1, hpp]
  clear hz1 hpp
  generalize w.heap.size = eb at *
  generalize (w.alloc (.cells #[.int .i64 0, .slice none 0 0, .int .i64 0] 30)).alloc (.cells #[.slice ba bn bc, .slice ga gn gc, .int .i64 f] 67) = w2 at *
  refine HR.out.mono ?_; rintro e w3 ⟨rfl, bu3, hx3⟩
  have B3 := Lib.hid (HBW.out _ bu3)
  have T3 := Lib.hid (show Tri eb (.int .i64 0) (.slice none 0 0) (.int .i64 0) w3 from by
    have e := bu3.block eb T1.out.2.2 heb
    obtain ⟨⟨h0, h1, h2⟩, ⟨f0, f1, f2⟩, hl⟩ := T1.out
    exact ⟨⟨(World.cell?_of_block (w := w2) e).trans h0, (World.cell?_of_block (w := w2) e).trans h1, (World.cell?_of_block (w := w2) e).trans h2⟩, ⟨(World.frozen?_of_block (w := w2) e).trans f0, (World.frozen?_of_block (w := w2) e).trans f1, (World.frozen?_of_block (w := w2) e).trans f2⟩, Nat.lt_of_lt_of_le hl bu3.size⟩)
  have VB3 := Lib.hid (show VwI w3 ba bc bs from (HVX.out.but bu3).1)
  clear bu3
  by_cases hz : fin.c = 0
  · have X3 := Lib.hid (hx3 hz)
    have er : r = ⟨0, fin.b, fin.f⟩ := by
      have := HRR.out
      rw [if_pos hz] at this
      rw [← this, ← hz]
    subst er
    rw [hz]
    obtain ⟨xa, xn, xc, x0, hxn, hxv⟩ := X3.out.b
    have x2 := X3.out.f
    have xv := Lib.hid (hxv.1.below (Below.refl _ w3).drew)
    clear hxv hx3 hz
    go_wp2_with fail
    refine wp_region_held_drew (S := fun z => z.cell? ⟨pp, 0, none⟩ = some (.slice xa xn xc) ∧ z.cell? ⟨pp, 2, none⟩ = some (.int .i64 fin.f)) (by kernel_rfl) ⟨x0, x2⟩ (fun hHeld => ?_)
    refine wpAnyH_take (i := 0) (v := ?v0m) rfl (by kernel_rfl) (by kernel_rfl) (by kernel_rfl) (fun _ _ _ h => h) (Or.inl ⟨by rfl, ?hy0m⟩) (by assumption) ?rest0m
    case hy0m => (intro zz hSw; (try dsimp only at hSw); go_simp; (try with_reducible rfl))
    change wpAnyH _ _ _ _ _ _ _ (Act.put _ (some 23) _) _
    simp only [Act.put, List.setIfInBounds_toArray, List.set_cons_zero, List.set_cons_succ]
    refine wpAnyH_take (i := 1) (v := ?v1m) rfl (by kernel_rfl) (by kernel_rfl) (by kernel_rfl) (fun _ _ _ h => h) (Or.inl ⟨by rfl, ?hy1m⟩) (by assumption) ?rest1m
    case hy1m => (intro zz hSw; (try dsimp only at hSw); go_simp; (try with_reducible rfl))
    change wpAnyH _ _ _ _ _ _ _ (Act.put _ (some 24) _) _
    simp only [Act.put, List.setIfInBounds_toArray, List.set_cons_zero, List.set_cons_succ]
    refine wpAnyH_take (i := 3) (v := ?v3m) rfl (by kernel_rfl) (by kernel_rfl) (by kernel_rfl) (fun _ _ _ h => h) (Or.inl ⟨by rfl, ?hy3m⟩) (by assumption) ?rest3m
    case hy3m => (intro zz hSw; (try dsimp only at hSw); go_simp; (try with_reducible rfl))
    change wpAnyH _ _ _ _ _ _ _ (Act.put _ (some 26) _) _
    simp only [Act.put, List.setIfInBounds_toArray, List.set_cons_zero, List.set_cons_succ]
    refine wpAnyH_take (i := 4) (v := ?v4m) rfl (by kernel_rfl) (by kernel_rfl) (by kernel_rfl) (fun _ _ _ h => h) (Or.inl ⟨by rfl, ?hy4m⟩) (by assumption) ?rest4m
    case hy4m => (intro zz hSw; (try dsimp only at hSw); go_simp; (try with_reducible rfl))
    change wpAnyH _ _ _ _ _ _ _ (Act.put _ (some 27) _) _
    simp only [Act.put, List.setIfInBounds_toArray, List.set_cons_zero, List.set_cons_succ]
    refine wpAnyH_ready (rs := [2]) (by kernel_rfl) (by simp) (AllReadyH.cons rfl (fun K hK => ?_) (AllReadyH.nil))
    go_simp
    refine (cloneB_any w3.drew xa xc fin.b xn hxn xv.out (by have := X3.out.len; omega)).mono ?_; rintro e w4 ⟨v4, rfl, o4, b4'⟩
    have b4 : Below w3.heap.size w3 w4 := (Below.refl _ w3).drew.trans b4'
    obtain ⟨va4, vc4, rfl, -⟩ := o4.view
    rw [hxn] at o4 ⊢
    have T4 := Lib.hid (T3.out.below b4 T3.out.2.2)
    have O9 := Lib.hid ((OwI.put3 o4 T3.out.2.2 (x := .int .i64 0) (y := .slice va4 xn vc4) (z := .int .i64 fin.f)).mono (Nat.le_of_lt T3.out.2.2))
    have B9 := Lib.hid (put3_below (q := eb) (x := .int .i64 0) (y := .slice va4 xn vc4) (z := .int .i64 fin.f) (B3.out.trans (b4.mono (Nat.le_of_lt T3.out.2.2))) (Nat.le_refl _))
    have P0 := (World.cell?_of_block (w := w3) (a := ⟨pp, 0, none⟩) (b4.block pp X3.out.hp)).trans hHeld.1
    have P2 := (World.cell?_of_block (w := w3) (a := ⟨pp, 2, none⟩) (b4.block pp X3.out.hp)).trans hHeld.2
    obtain ⟨⟨q0, q1, q2⟩, ⟨r0, r1, r2⟩, r3⟩ := T4.out
    refine hK.out _ _ ⟨P0, P2⟩ (fun hHeld => ?_)
    clear hK K o4 b4 b4'
    refine wpAnyH_take (i := 5) (v := ?v5m) rfl (by kernel_rfl) (by kernel_rfl) (by kernel_rfl) (fun _ _ _ h => h) (Or.inl ⟨by rfl, ?hy5m⟩) (by assumption) ?rest5m
    case hy5m => (intro zz hSw; (try dsimp only at hSw); go_simp; (try with_reducible rfl))
    change wpAnyH _ _ _ _ _ _ _ (Act.put _ (some 28) _) _
    simp only [Act.put, List.setIfInBounds_toArray, List.set_cons_zero, List.set_cons_succ]
    refine wpAnyH_ready (rs := [6]) (by kernel_rfl) (by simp) (AllReadyH.cons rfl (fun K hK => ?_) (AllReadyH.nil))
    go_simp
    refine hK.out _ _ ⟨put3_cell (q := eb) (fun e => heb e.symm) P0, put3_cell (q := eb) (fun e => heb e.symm) P2⟩ (fun hHeld => ?_)
    clear hK K
    refine wpAnyH_done (by kernel_rfl) ?_ _
    obtain ⟨⟨p0, p1, p2⟩, -, -⟩ := T4.out.put3 (x' := .int .i64 0) (y' := .slice va4 xn vc4) (z' := .int .i64 fin.f)
    clear hHeld
    go_wp2_with fail
    refine bodyPost_ret (v := .agg #[.int .i64 0, .slice va4 xn vc4, .int .i64 fin.f]) (by simp only [put3] at p0 p1 p2; simp [results, Tryz.results9, go_sem, p0, p1, p2]) rfl ⟨_, rfl, O9.out, B9.out⟩
  · have er : r = ⟨fin.c, bs, 0⟩ := by
      have := HRR.out
      rw [if_neg hz] at this
      exact this.symm
    subst er
    have t1 : (fin.c != 0) = true := by simpa using hz
    clear hx3
    go_wp2_with fail
    refine (cloneB_any w3 ba bc bs bn hbn VB3.out hbl).mono ?_; rintro e w4 ⟨v4, rfl, o4, b4⟩
    obtain ⟨va4, vc4, rfl, -⟩ := o4.view
    rw [hbn] at o4 ⊢
    have T4 := Lib.hid (T3.out.below b4 T3.out.2.2)
    have O9 := Lib.hid ((OwI.put3 o4 T3.out.2.2 (x := .int .i64 fin.c) (y := .slice va4 bn vc4) (z := .int .i64 0)).mono (Nat.le_of_lt T3.out.2.2))
    have B9 := Lib.hid (put3_below (q := eb) (x := .int .i64 fin.c) (y := .slice va4 bn vc4) (z := .int .i64 0) (B3.out.trans (b4.mono (Nat.le_of_lt T3.out.2.2))) (Nat.le_refl _))
    obtain ⟨⟨q0, q1, q2⟩, ⟨r0, r1, r2⟩, r3⟩ := T4.out
    obtain ⟨⟨p0, p1, p2⟩, -, -⟩ := T4.out.put3 (x' := .int .i64 fin.c) (y' := .slice va4 bn vc4) (z' := .int .i64 0)
    clear o4 b4
    go_wp2_with fail
    refine bodyPost_ret (v := .agg #[.int .i64 fin.c, .slice va4 bn vc4, .int .i64 0]) (by simp only [put3] at p0 p1 p2; simp [results, Tryz.results9, go_sem, p0, p1, p2]) rfl ⟨_, rfl, O9.out, B9.out⟩
theorem implMeans_any (w : World) (a : Option Addr) (cap : Nat) (l : List Tk) (n : Nat) (hn : l.length = n) (hl : n ≤ 4194304) (hm : ∀ s ∈ l, s.length ≤ 4194304) (hv : V1 w a cap (txL l)) (ba : Option Addr) (bc bn : Nat) (bs : List Bi) (hbn : bs.length = bn) (hb : VwI w ba bc bs) (hbl : bn ≤ 4194304) (ga : Option Addr) (gc gn : Nat) (gs : List Int) (hgn : gs.length = gn) (hgl : gn ≤ 4194304) (hg : V1 w ga gc (inL gs)) (f : Int) (hL : Lib3 w) :
    Calls Tryz.prog 9 #[.slice a n cap, .slice ba bn bc, .slice ga gn gc, .int .i64 f] w (EndP w.heap.size (meV l bs gs f) w) := by
  cases h : meB l bs gs f with
  | false => rw [meV_no h]; exact implMeans_bad w a cap l n hn hl hm hv ba bc bn bs hbn hb hbl ga gc gn gs hgn hgl hg f hL h
  | true =>
    obtain ⟨t, hw, ht, e⟩ := meB_tree h
    rw [e]
    exact implMeans_ok w a cap l n hn hl hm hv ba bc bn bs hbn hb hbl ga gc gn gs hgn hgl hg f hL h t hw ht
set_option maxHeartbeats 4000000 in
set_option maxRecDepth 100000 in
theorem implSteps_any (w : World) (v1 v2 v3 : Value) (f : Int) (r : St0) (hf : r.c = 0 → IntKind.i64.wrap (f - r.f) = f - r.f) (hM : Calls Tryz.prog 9 #[v1, v2, v3, .int .i64 f] w (EndP w.heap.size r w)) :
    Calls Tryz.prog 10 #[v1, v2, v3, .int .i64 f] w (GivesI (stV r f) w) := by
  have HM := Lib.hid hM; clear hM
  obtain ⟨c, b, rf⟩ := r
  generalize hx : stV ⟨c, b, rf⟩ f = x
  have HX := Lib.hid hx; clear hx
  dsimp only at hf
  by_cases h0 : c = 0
  · subst h0
    have i1 := hf rfl
    have HY := Lib.hid (show f - rf = x from HX.out)
    clear hf
    go_enter Tryz.func10, Tryz.ntmps10
    go_wp2_with fail
    refine HM.out.mono ?_; rintro e w1 ⟨v, rfl, o1, b1⟩
    obtain ⟨va, vc, rfl, -⟩ := o1.view
    have B1 := Lib.hid b1; clear b1 o1
    go_wp2_with fail
    go_ret
    exact ⟨by rw [← HY.out]; rfl, bel_tr B1.out (bel1 _ _) (Nat.le_refl _)⟩
  · have t0 : (c == 0) = false := beq_eq_false_iff_ne.2 h0
    by_cases h3 : c = 3
    · subst h3
      have HY := Lib.hid (show f = x from HX.out)
      clear hf
      go_enter Tryz.func10, Tryz.ntmps10
      go_wp2_with fail
      refine HM.out.mono ?_; rintro e w1 ⟨v, rfl, o1, b1⟩
      obtain ⟨va, vc, rfl, -⟩ := o1.view
      have B1 := Lib.hid b1; clear b1 o1
      go_wp2_with fail
      go_ret
      exact ⟨by rw [← HY.out]; rfl, bel_tr B1.out (bel1 _ _) (Nat.le_refl _)⟩
    · have t3 : (c == 3) = false := beq_eq_false_iff_ne.2 h3
      have HY := Lib.hid (show -1 = x by have := HX.out; unfold stV at this; rw [if_neg h0, if_neg h3] at this; exact this)
      clear hf
      go_enter Tryz.func10, Tryz.ntmps10
      go_wp2_with fail
      refine HM.out.mono ?_; rintro e w1 ⟨v, rfl, o1, b1⟩
      obtain ⟨va, vc, rfl, -⟩ := o1.view
      have B1 := Lib.hid b1; clear b1 o1
      go_wp2_with fail
      go_ret
      exact ⟨by rw [← HY.out]; rfl, bel_tr B1.out (bel1 _ _) (Nat.le_refl _)⟩
end Go.Proofs.YtfnnoehpahdgcaaGreatDoor.Cl
