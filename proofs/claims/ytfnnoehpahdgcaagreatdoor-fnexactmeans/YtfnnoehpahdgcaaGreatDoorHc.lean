/-
  The program's run of statements: contracts of deeds, choose, repeat, of deed for every statement ('Sm.runX', 'Sl.runX').
-/
import Derived.Test.YtfnnoehpahdgcaaGreatDoorHb
import Derived.Test.YtfnnoehpahdgcaaGreatDoorMd
namespace Go.Proofs.YtfnnoehpahdgcaaGreatDoor.Cl
open Go.RowKit Wd Rp Cu Kp
set_option linter.unusedVariables false
theorem RunX.pre {w0 w w1 w2 : World} {p : Nat} {ga : Option Addr} {gc : Nat} {gs : List Int} {r : St0} {e : Ending} (h : RunX w0 p ga gc gs r w1 e w2) (hb : But p w w1) : RunX w0 p ga gc gs r w e w2 := ⟨hb.trans h.1, h.2.1, h.2.2⟩
theorem each_preS {P : Sm → Prop} {t : Sl} : ∀ {fs : List Sm}, (T.preS fs t).each P → ∀ f ∈ fs, P f
  | [], h, f, hf => by cases hf
  | g :: fs, h, f, hf => by
    rw [T.preS, Sl.each] at h
    rcases List.mem_cons.1 hf with rfl | hf
    · exact h.1
    · exact each_preS h.2 f hf
theorem T.DM.form {w0 w : World} {K : Nat → Prop} {D : Nat} {v : Value} {F : Sl} (h : T.DM w0 K w D v F) : ∃ a n c, v = .slice a n c := by
  cases D with
  | zero => cases h
  | succ D =>
    obtain ⟨ds, fs, h1, -⟩ := h
    obtain ⟨a, c, e, -⟩ := h1.form
    exact ⟨a, _, c, e⟩
theorem T.DM.but {w0 w w' : World} {p q : Nat} (hpq : p < q) (hb : But p w w') {D : Nat} {v : Value} {F : Sl} (h : T.DM w0 (q ≤ ·) w D v F) : T.DM w0 (q ≤ ·) w' D v F :=
  T.DM.keep hb.size (fun g h1 h2 => hb.block g h2 (by omega)) (fun g h _ => h) D v F h
theorem T.DdM.but {w0 w w' : World} {p q : Nat} (hpq : p < q) (hb : But p w w') {D : Nat} {d : Dv} {F : Sm} (h : T.DdM w0 (q ≤ ·) w (T.DM w0 (q ≤ ·) w D) d F) : T.DdM w0 (q ≤ ·) w' (T.DM w0 (q ≤ ·) w' D) d F :=
  h.keep hb.size (fun g h1 h2 => hb.block g h2 (by omega)) (fun g h _ => h) (fun v f h => h.but hpq hb)
/-- The contract of the program's statements. -/
def DeedsX (w0 : World) (p : Nat) (ga : Option Addr) (gc : Nat) (gs : List Int) (q : Nat) (b : Sl) : Prop := ∀ (D : Nat) (v : Value) (st : St0) (w : World), st.c = 0 → p < q → Xm w0 p ga gc gs st w → T.DM w0 (q ≤ ·) w D v b →
  Calls Tryz.prog 79 #[.pointer (some ⟨p, 0, none⟩), v] w (RunX w0 p ga gc gs (b.run gs st) w)
set_option maxHeartbeats 8000000 in
set_option maxRecDepth 100000 in
theorem deedsX_of (w0 : World) (p : Nat) (ga : Option Addr) (gc : Nat) (gs : List Int) (q : Nat) (b : Sl) (ih : b.each (DeedX w0 p ga gc gs q)) : DeedsX w0 p ga gc gs q b := by
  intro D v st w hc hpq hX hD
  cases D with
  | zero => cases hD
  | succ D =>
  obtain ⟨ds, fs, how, hK, hlen, hel, rfl⟩ := hD
  obtain ⟨a, cap, rfl, hlc, hcm⟩ := how.form
  unfold maxLen at hcm
  have IH := Lib.hid (each_preS ih)
  have HOW := Lib.hid how
  have HK := Lib.hid hK
  have HEL := Lib.hid hel
  have HLEN := Lib.hid hlen
  have HX := Lib.hid hX
  clear ih how hel hlen hK hX
  obtain ⟨n, hn⟩ : ∃ n, ds.length = n := ⟨_, rfl⟩
  rw [hn] at hlc HOW HLEN HK ⊢
  have HN := Lib.hid hn
  obtain ⟨fin, hfin⟩ : ∃ r, (T.preS fs .nil).run gs st = r := ⟨_, rfl⟩
  rw [hfin]
  have HFIN := Lib.hid hfin
  clear hn hfin
  go_enter Tryz.func79, Tryz.ntmps79
  go_wp2_with fail
  go_loopw [5, 8] (fun _ i wr => ∃ (k : Nat) (s1 : St0), k ≤ n ∧ i = .int .i64 (k : Int) ∧ s1.c = 0 ∧ Xm w0 p ga gc gs s1 wr ∧ But p w wr ∧ (T.preS (fs.drop k) .nil).run gs s1 = fin) (fun _ i _ => n - intV i)
  case atStart => exact ⟨0, st, Nat.zero_le _, rfl, hc, HX.out, But.refl _ _, HFIN.out⟩
  case round =>
    obtain ⟨k, s1, hk, rfl, hc1, hx1, hb1, hf1⟩ := hrel
    have X1 := Lib.hid hx1
    have B1 := Lib.hid hb1
    have F1 := Lib.hid hf1
    clear hx1 hb1 hf1 HFIN HX
    by_cases hlt : k < n
    · obtain ⟨d, hd⟩ : ∃ d, ds[k]? = some d := ⟨ds[k]'(by have := HN.out; omega), List.getElem?_eq_getElem _⟩
      obtain ⟨f, hf⟩ : ∃ f, fs[k]? = some f := ⟨fs[k]'(by have := HLEN.out; omega), List.getElem?_eq_getElem _⟩
      obtain ⟨aa, ca, e, hvd⟩ := HOW.out.view
      rw [HN.out] at e
      cases e
      have hcell : ∃ g o, a = some ⟨g, o, none⟩ ∧ g < w.heap.size ∧ ∀ j x, d.cells[j]? = some x → wr.cell? ⟨g, o + k * 4 + j, none⟩ = some x := by
        obtain ⟨g, o, e, hg, -⟩ := hvd.2.2.2 _ _ (flatD_get hd (j := 0) (x := .string (tx d.h)) rfl)
        refine ⟨g, o, e, hg, fun j x hj => ?_⟩
        obtain ⟨g', o', e', hg', hc'⟩ := hvd.2.2.2 _ _ (flatD_get hd hj)
        rw [e] at e'; cases e'
        rw [show o + k * 4 + j = o + (k * 4 + j) by omega]
        have := HK.out g (by rw [e]; rfl)
        exact (World.cell?_of_block (w := w) (B1.out.block g hg (by omega))).trans hc'
      obtain ⟨g, o, rfl, hg, hcw⟩ := hcell
      have d0 : wr.cell? ⟨g, o + k * 4, none⟩ = some (.string (tx d.h)) := hcw 0 _ rfl
      have d1 : wr.cell? ⟨g, o + k * 4 + 1, none⟩ = some (.string (tx d.n)) := hcw 1 _ rfl
      have d2 : wr.cell? ⟨g, o + k * 4 + 2, none⟩ = some (.slice d.sa d.sn d.sc) := hcw 2 _ rfl
      have d3 : wr.cell? ⟨g, o + k * 4 + 3, none⟩ = some (.slice d.ba d.bn d.bc) := hcw 3 _ rfl
      have hbl := bel1 wr (.cells #[.string (tx d.h), .string (tx d.n), .slice d.sa d.sn d.sc, .slice d.ba d.bn d.bc] 115)
      have X2 := Lib.hid (X1.out.next hbl)
      have B2 := Lib.hid (B1.out.trans (But.of hbl))
      have HD := Lib.hid ((HEL.out k d f hd hf).but hpq B2.out)
      have HF2 := Lib.hid (show (if (Sm.run gs f s1).c = 0 then (T.preS (fs.drop (k + 1)) .nil).run gs (Sm.run gs f s1) else Sm.run gs f s1) = fin from by
        have e := F1.out
        rw [List.drop_eq_getElem_cons (by have := HLEN.out; omega), T.preS, Sl.run] at e
        have e2 : fs[k]'(by have := HLEN.out; omega) = f := by have := (List.getElem?_eq_some_iff.1 hf).2; exact this
        rw [e2] at e
        exact e)
      have HC := Lib.hid (IH.out f (List.mem_of_getElem? hf) D d s1 _ hc1 hpq X2.out HD.out)
      have t1 : (k : Int) < (n : Int) := by omega
      have t1d : decide ((k : Int) < (n : Int)) = true := by simpa using hlt
      have i1 : (k : Int) + 1 ≤ 9223372036854775807 := by omega
      clear hcw hd hf hg hvd hlc hcm hbl
      go_wp2_with fail
      refine HC.out.mono ?_; rintro e w3 ⟨b3, h3, k3⟩
      generalize Sm.run gs f s1 = s2 at *
      by_cases hz : s2.c = 0
      · obtain ⟨rfl, x3⟩ := h3 hz
        have X3 := Lib.hid x3
        have B3 := Lib.hid (B2.out.trans b3)
        clear b3 h3 k3 x3
        go_wp2_with fail
        go_roundw
        case measure => simp [intV]; omega
        case rel => exact ⟨k + 1, s2, by omega, by go_num, hz, X3.out, B3.out, by have := HF2.out; rw [if_pos hz] at this; exact this⟩
      · obtain rfl := k3 hz
        have e2 : s2 = fin := by have := HF2.out; rw [if_neg hz] at this; exact this
        subst e2
        exact ⟨rfl, B2.out.trans b3, (fun e => absurd e hz), fun _ => rfl⟩
    · have t1 : ¬ (k : Int) < (n : Int) := by omega
      have t1d : decide ((k : Int) < (n : Int)) = false := by simpa using hlt
      have e2 : s1 = fin := by
        have := F1.out
        rw [List.drop_eq_nil_of_le (by have := HLEN.out; omega), T.preS, Sl.run] at this
        exact this
      subst e2
      go_wp2_with fail
      exact bodyPost_end (v := .tuple #[]) (by simp [results, Tryz.results79, go_sem]) rfl ⟨B1.out, (fun _ => ⟨rfl, X1.out⟩), fun e => absurd hc1 e⟩
set_option maxHeartbeats 8000000 in
set_option maxRecDepth 100000 in
theorem choose_any (w0 : World) (p : Nat) (ga : Option Addr) (gc : Nat) (gs : List Int) (q D : Nat) (st : St0) (w : World) (hc : st.c = 0) (hpq : p < q) (hX : Xm w0 p ga gc gs st w) (h n : Tk) (sa : Option Addr) (sn sc : Nat) (ba : Option Addr) (bn bc : Nat) (ex : List Tk) (b1 b2 : Sl) (hw : eK 2 ex) (hbd : Bd ex)
    (hD : T.DdM w0 (q ≤ ·) w (T.DM w0 (q ≤ ·) w D) ⟨h, n, sa, sn, sc, ba, bn, bc⟩ (.ifs ex b1 b2)) (h1 : DeedsX w0 p ga gc gs q b1) (h2 : DeedsX w0 p ga gc gs q b2) :
    Calls Tryz.prog 112 #[.pointer (some ⟨p, 0, none⟩), .agg #[.string (tx h), .string (tx n), .slice sa sn sc, .slice ba bn bc]] w (RunX w0 p ga gc gs (Sm.run gs (.ifs ex b1 b2) st) w) := by
  obtain ⟨-, e3, e4, va, vb, e5, e6, e7, e8, e9⟩ := hD
  obtain ⟨a1, n1, c1, rfl⟩ := e8.form
  obtain ⟨a2, n2, c2, rfl⟩ := e9.form
  obtain rfl : bn = 2 := e5
  have hbl := bel1 w (.cells #[.string (tx h), .string (tx n), .slice sa sn sc, .slice ba 2 bc] 115)
  have X1 := Lib.hid (hX.next hbl)
  have HV := Lib.hid (holds_any X1.out sa sc ex sn e3.symm e4 hbd (kind := 2) (by decide) hw)
  have Q1 := Lib.hid (B4.of (new_of w (.cells #[.string (tx h), .string (tx n), .slice sa sn sc, .slice ba 2 bc] 115)))
  have BU1 := Lib.hid (But.of hbl : But p w _)
  obtain ⟨g, o, eg, hg, c1'⟩ := e6.2.2.2 0 _ rfl
  rw [Nat.add_zero] at c1'
  obtain ⟨g', o', eg', -, c2'⟩ := e6.2.2.2 1 _ rfl
  obtain rfl : ba = some ⟨g, o, none⟩ := eg
  cases eg'
  have hgq : q ≤ g := (e7 g o rfl).1
  have HE1 := Lib.hid e8
  have HE2 := Lib.hid e9
  have hE : Sm.run gs (.ifs ex b1 b2) st = (if (evE gs st.b ex).2 = false then ⟨2, st.b, st.f⟩ else if (evE gs st.b ex).1 = 0 then Sl.run gs b2 st else Sl.run gs b1 st) := by rw [Sm.run]
  rw [hE]; clear hE hX e3 e4 e6 e7 e8 e9 hbd hw
  generalize evE gs st.b ex = xx at *
  obtain ⟨x, is⟩ := xx
  generalize hfin : (if (x, is).2 = false then (⟨2, st.b, st.f⟩ : St0) else if (x, is).1 = 0 then Sl.run gs b2 st else Sl.run gs b1 st) = fin
  have HFIN := Lib.hid hfin; clear hfin
  have HH1 := Lib.hid h1
  have HH2 := Lib.hid h2
  have hgz : g < (w.alloc (.cells #[.string (tx h), .string (tx n), .slice sa sn sc, .slice (some ⟨g, o, none⟩) 2 bc] 115)).heap.size := by rw [World.size_alloc]; omega
  have f1 := (World.cell?_of_block (w := w) (hbl.block g hg)).trans c1'
  have f2 := (World.cell?_of_block (w := w) (hbl.block g hg)).trans c2'
  have hrl := Q1.out.lt
  have d0 := Q1.out.c0; have d1 := Q1.out.c1; have d2 := Q1.out.c2; have d3 := Q1.out.c3
  clear hbl c1' c2' h1 h2
  go_enter Tryz.func112, Tryz.ntmps112
  go_wp2_with fail
  generalize w.heap.size = r at *
  generalize w.alloc (.cells #[.string (tx h), .string (tx n), .slice sa sn sc, .slice (some ⟨g, o, none⟩) 2 bc] 115) = w1 at *
  clear d0 d1 d2
  cases is
  · have HX := Lib.hid (show (⟨2, st.b, st.f⟩ : St0) = fin from HFIN.out)
    refine HV.out.mono ?_; rintro e w3 ⟨b3, -, k3⟩
    obtain rfl := k3 rfl
    exact ⟨rfl, BU1.out.trans (But.of b3), (fun e => absurd (show (2 : Int) = 0 from by rw [← HX.out] at e; exact e) (by decide)), (fun _ => by rw [← HX.out])⟩
  · by_cases hx : x = 0
    · subst hx
      have HX := Lib.hid (show Sl.run gs b2 st = fin from HFIN.out)
      have t2 : ((0 : Int) != 0) = false := by decide
      refine HV.out.mono ?_; rintro e w3 ⟨b3, k3, -⟩
      obtain rfl := k3 rfl
      have B3 := Lib.hid (But.of b3 : But p w1 w3)
      have X3 := Lib.hid (X1.out.next b3)
      have g1 := (World.cell?_of_block (w := w1) (b3.block g hgz)).trans f1
      have g2 := (World.cell?_of_block (w := w1) (b3.block g hgz)).trans f2
      have r3 := (World.cell?_of_block (w := w1) (b3.block r hrl)).trans d3
      clear b3 f1 f2 d3 k3
      go_wp2_with fail
      refine (HH2.out D _ st w3 hc hpq X3.out (HE2.out.but hpq (BU1.out.trans B3.out))).mono ?_; rintro e w4 ⟨b4, h4, k4⟩
      rw [HX.out] at h4 k4
      by_cases hz : fin.c = 0
      · obtain ⟨rfl, x4⟩ := h4 hz
        have X4 := Lib.hid x4
        have B4' := Lib.hid (BU1.out.trans (B3.out.trans b4))
        clear b4 h4 k4 x4
        go_wp2_with fail
        exact bodyPost_end (v := .tuple #[]) (by simp [results, Tryz.results112, go_sem]) rfl ⟨B4'.out, (fun _ => ⟨rfl, X4.out⟩), fun e => absurd hz e⟩
      · obtain rfl := k4 hz
        exact ⟨rfl, BU1.out.trans (B3.out.trans b4), (fun e => absurd e hz), fun _ => rfl⟩
    · have HX := Lib.hid (show Sl.run gs b1 st = fin from by have := HFIN.out; rw [if_neg (by decide), if_neg hx] at this; exact this)
      have t2 : (x != 0) = true := by simpa using hx
      refine HV.out.mono ?_; rintro e w3 ⟨b3, k3, -⟩
      replace k3 := k3 rfl
      rw [show ((x, true).1 != 0) = true from t2] at k3
      obtain rfl := k3
      have B3 := Lib.hid (But.of b3 : But p w1 w3)
      have X3 := Lib.hid (X1.out.next b3)
      have g1 := (World.cell?_of_block (w := w1) (b3.block g hgz)).trans f1
      have g2 := (World.cell?_of_block (w := w1) (b3.block g hgz)).trans f2
      have r3 := (World.cell?_of_block (w := w1) (b3.block r hrl)).trans d3
      clear b3 f1 f2 d3
      go_wp2_with fail
      refine (HH1.out D _ st w3 hc hpq X3.out (HE1.out.but hpq (BU1.out.trans B3.out))).mono ?_; rintro e w4 ⟨b4, h4, k4⟩
      rw [HX.out] at h4 k4
      by_cases hz : fin.c = 0
      · obtain ⟨rfl, x4⟩ := h4 hz
        have X4 := Lib.hid x4
        have B4' := Lib.hid (BU1.out.trans (B3.out.trans b4))
        clear b4 h4 k4 x4
        go_wp2_with fail
        exact bodyPost_end (v := .tuple #[]) (by simp [results, Tryz.results112, go_sem]) rfl ⟨B4'.out, (fun _ => ⟨rfl, X4.out⟩), fun e => absurd hz e⟩
      · obtain rfl := k4 hz
        exact ⟨rfl, BU1.out.trans (B3.out.trans b4), (fun e => absurd e hz), fun _ => rfl⟩
/-- A while behind its fuel: what the rounds come to. -/
def inR (gs : List Int) (e : List Tk) (body : St0 → St0) (n : Nat) (s : St0) : St0 :=
  if (evE gs s.b e).2 = false then ⟨2, s.b, s.f⟩ else if (evE gs s.b e).1 = 0 then s else if (body s).c = 0 then whR gs e body n (body s) else body s
theorem whR_in {gs : List Int} {e : List Tk} {body : St0 → St0} {n : Nat} {st : St0} (h : st.f ≠ 0) : whR gs e body (n + 1) st = inR gs e body n ⟨st.c, st.b, st.f - 1⟩ := by
  rw [whR, if_neg h]; rfl
theorem whR_no {gs : List Int} {e : List Tk} {body : St0 → St0} {n : Nat} {st : St0} (h : st.f = 0) : whR gs e body (n + 1) st = ⟨3, st.b, st.f⟩ := by
  rw [whR, if_pos h]
set_option maxHeartbeats 8000000 in
set_option maxRecDepth 100000 in
theorem repeat_any (w0 : World) (p : Nat) (ga : Option Addr) (gc : Nat) (gs : List Int) (q D : Nat) (st : St0) (w : World) (hc : st.c = 0) (hpq : p < q) (hX : Xm w0 p ga gc gs st w) (h n : Tk) (sa : Option Addr) (sn sc : Nat) (ba : Option Addr) (bn bc : Nat) (ex : List Tk) (b1 : Sl) (hw : eK 2 ex) (hbd : Bd ex)
    (hD : T.DdM w0 (q ≤ ·) w (T.DM w0 (q ≤ ·) w D) ⟨h, n, sa, sn, sc, ba, bn, bc⟩ (.whl ex b1)) (h1 : DeedsX w0 p ga gc gs q b1) :
    Calls Tryz.prog 113 #[.pointer (some ⟨p, 0, none⟩), .agg #[.string (tx h), .string (tx n), .slice sa sn sc, .slice ba bn bc]] w (RunX w0 p ga gc gs (Sm.run gs (.whl ex b1) st) w) := by
  obtain ⟨-, e3, e4, va, e5, e6, e7, e8⟩ := hD
  obtain ⟨a1, n1, c1, rfl⟩ := e8.form
  obtain rfl : bn = 1 := e5
  have hbl := bel1 w (.cells #[.string (tx h), .string (tx n), .slice sa sn sc, .slice ba 1 bc] 115)
  have X1 := Lib.hid (hX.next hbl)
  have HV := Lib.hid (fun z s (hz : Xm w0 p ga gc gs s z) => holds_any hz sa sc ex sn e3.symm e4 hbd (kind := 2) (by decide) hw)
  have Q1 := Lib.hid (B4.of (new_of w (.cells #[.string (tx h), .string (tx n), .slice sa sn sc, .slice ba 1 bc] 115)))
  have BU1 := Lib.hid (But.of hbl : But p w _)
  obtain ⟨g, o, eg, hg, c1'⟩ := e6.2.2.2 0 _ rfl
  rw [Nat.add_zero] at c1'
  obtain rfl : ba = some ⟨g, o, none⟩ := eg
  have hgq : q ≤ g := (e7 g o rfl).1
  have HE1 := Lib.hid e8
  have HFU := Lib.hid (fun st h => Sl.run_fuel gs b1 st h)
  have hE : Sm.run gs (.whl ex b1) st = whR gs ex (fun s => Sl.run gs b1 s) (st.f.toNat + 1) st := by rw [Sm.run]
  rw [hE]; clear hE e3 e4 e6 e7 e8 hbd hw
  have hfn := hX.f0
  generalize hfin : whR gs ex (fun s => Sl.run gs b1 s) (st.f.toNat + 1) st = fin
  have HFIN := Lib.hid hfin; clear hfin hX
  have HH1 := Lib.hid h1
  have hgz : g < (w.alloc (.cells #[.string (tx h), .string (tx n), .slice sa sn sc, .slice (some ⟨g, o, none⟩) 1 bc] 115)).heap.size := by rw [World.size_alloc]; omega
  have f1 := (World.cell?_of_block (w := w) (hbl.block g hg)).trans c1'
  have hrl := Q1.out.lt
  have hrp : w.heap.size ≠ p := by have := X1.out.hp; have := hbl.size; have := X1.out.hB; intro e; have h9 := hc; omega
  have HC := Lib.hid hc
  clear hbl c1' h1
  by_cases hf : st.f = 0
  · have HX := Lib.hid (show (⟨3, st.b, st.f⟩ : St0) = fin from by rw [← HFIN.out, whR_no hf])
    clear HFIN hc
    go_enter Tryz.func113, Tryz.ntmps113
    go_wp2_with fail
    refine (burn_no X1.out hf).mono ?_; rintro e w3 ⟨rfl, rfl⟩
    exact ⟨rfl, BU1.out, (fun e => absurd (show (3 : Int) = 0 from by rw [← HX.out] at e; exact e) (by decide)), (fun _ => by rw [← HX.out])⟩
  · have HX := Lib.hid (show inR gs ex (fun s => Sl.run gs b1 s) st.f.toNat ⟨st.c, st.b, st.f - 1⟩ = fin from by rw [← HFIN.out, whR_in hf])
    clear HFIN hc
    go_enter Tryz.func113, Tryz.ntmps113
    go_wp2_with fail
    refine (burn_yes X1.out hf).mono ?_; rintro e w3 ⟨rfl, b3, x3⟩
    have R3 := Lib.hid (Q1.out.but b3 hrp)
    generalize w.heap.size = r at *
    generalize w.alloc (.cells #[.string (tx h), .string (tx n), .slice sa sn sc, .slice (some ⟨g, o, none⟩) 1 bc] 115) = w1 at *
    have B3 := Lib.hid b3
    have X3 := Lib.hid x3
    have g3 := (b3.cell (p := ⟨g, o, none⟩) hgz (by show g ≠ p; omega)).trans f1
    have r3 := Nat.lt_of_lt_of_le hrl b3.size
    have z3 := Nat.lt_of_lt_of_le hgz b3.size
    clear b3 x3
    go_wp2_with fail
    go_loopg [] st.f.toNat (fun j wr => ∃ s1 : St0, s1.c = 0 ∧ Xm w0 p ga gc gs s1 wr ∧ But p w3 wr ∧ inR gs ex (fun s => Sl.run gs b1 s) j s1 = fin ∧ s1.f < j)
    case atStart => exact ⟨⟨st.c, st.b, st.f - 1⟩, HC.out, X3.out, But.refl _ _, HX.out, by show st.f - 1 < _; omega⟩
    case round =>
      clear HX
      obtain ⟨s1, hc1, hx1, hb1, hin, hlt⟩ := hrel
      have X4 := Lib.hid hx1
      have B4 := Lib.hid hb1
      have HIN := Lib.hid hin
      have r4 := R3.out.but hb1 hrp
      have d2 := r4.c2
      have d3 := r4.c3
      have hrl4 := r4.lt
      have g4 := (hb1.cell (p := ⟨g, o, none⟩) z3 (by show g ≠ p; omega)).trans g3
      have z4 := Nat.lt_of_lt_of_le z3 hb1.size
      have HV4 := Lib.hid (HV.out wr s1 hx1)
      have HFU4 := Lib.hid (HFU.out s1 hx1.f0.1)
      have BB := Lib.hid (BU1.out.trans (B3.out.trans hb1))
      clear hx1 hb1 hin r4
      unfold inR at HIN
      generalize evE gs s1.b ex = xx at *
      obtain ⟨x, is⟩ := xx
      have HC1 := Lib.hid hc1
      clear hc1
      go_wp2_with fail
      cases is
      · refine HV4.out.mono ?_; rintro e w5 ⟨b5, -, k5⟩
        obtain rfl := k5 rfl
        have e2 : (⟨2, s1.b, s1.f⟩ : St0) = fin := HIN.out
        exact ⟨rfl, BB.out.trans (But.of b5), (fun e => absurd (show (2 : Int) = 0 from by rw [← e2] at e; exact e) (by decide)), (fun _ => by rw [← e2])⟩
      · refine HV4.out.mono ?_; rintro e w5 ⟨b5, k5, -⟩
        replace k5 := k5 rfl
        have X5 := Lib.hid (X4.out.next b5)
        have B5 := Lib.hid (B4.out.trans (But.of b5))
        by_cases hx : x = 0
        · subst hx
          obtain rfl := k5
          have e2 : s1 = fin := HIN.out
          subst e2
          clear b5
          go_wp2_with fail
          exact bodyPost_end (v := .tuple #[]) (by simp [results, Tryz.results113, go_sem]) rfl ⟨BU1.out.trans (B3.out.trans B5.out), (fun _ => ⟨rfl, X5.out⟩), fun e => absurd HC1.out e⟩
        · have t2 : (x != 0) = true := by simpa using hx
          rw [show ((x, true).1 != 0) = true from t2] at k5
          obtain rfl := k5
          have e2 : (if (Sl.run gs b1 s1).c = 0 then whR gs ex (fun s => Sl.run gs b1 s) gk (Sl.run gs b1 s1) else Sl.run gs b1 s1) = fin := by have := HIN.out; rw [if_neg (by decide), if_neg hx] at this; exact this
          have g5 := (World.cell?_of_block (w := wr) (b5.block g z4)).trans g4
          have r5 := (World.cell?_of_block (w := wr) (b5.block r hrl4)).trans d3
          have HK := Lib.hid (HH1.out D _ s1 w5 HC1.out hpq X5.out (HE1.out.but hpq (BU1.out.trans (B3.out.trans B5.out))))
          have E2 := Lib.hid e2
          clear e2 b5 g4 d2 d3
          generalize Sl.run gs b1 s1 = s3 at *
          go_wp2_with fail
          refine HK.out.mono ?_; rintro e w6 ⟨b6, h6, k6⟩
          by_cases hz : s3.c = 0
          · obtain ⟨rfl, x6⟩ := h6 hz
            have X6 := Lib.hid x6
            have B6 := Lib.hid (B5.out.trans b6)
            have HW := Lib.hid (show whR gs ex (fun s => Sl.run gs b1 s) gk s3 = fin from by have := E2.out; rw [if_pos hz] at this; exact this)
            have hfu : s3.f ≤ s1.f := HFU4.out.2
            have hf3 := x6.f0
            obtain ⟨j, rfl⟩ : ∃ j', gk = j' + 1 := ⟨gk - 1, by omega⟩
            clear b6 h6 k6 x6 HIN
            by_cases hf6 : s3.f = 0
            · have HY := Lib.hid (show (⟨3, s3.b, s3.f⟩ : St0) = fin from by rw [← HW.out, whR_no hf6])
              go_wp2_with fail
              refine (burn_no X6.out hf6).mono ?_; rintro e w7 ⟨rfl, rfl⟩
              exact ⟨rfl, BU1.out.trans (B3.out.trans B6.out), (fun e => absurd (show (3 : Int) = 0 from by rw [← HY.out] at e; exact e) (by decide)), (fun _ => by rw [← HY.out])⟩
            · have HY := Lib.hid (show inR gs ex (fun s => Sl.run gs b1 s) j ⟨s3.c, s3.b, s3.f - 1⟩ = fin from by rw [← HW.out, whR_in hf6])
              go_wp2_with fail
              refine (burn_yes X6.out hf6).mono ?_; rintro e w7 ⟨rfl, b7, x7⟩
              have X7 := Lib.hid x7
              have B7 := Lib.hid (B6.out.trans b7)
              clear b7 x7
              go_wp2_with fail
              go_roundg j
              case measure => omega
              case rel => exact ⟨⟨s3.c, s3.b, s3.f - 1⟩, hz, X7.out, B7.out, HY.out, by show s3.f - 1 < _; omega⟩
          · obtain rfl := k6 hz
            have e3 : s3 = fin := by have := E2.out; rw [if_neg hz] at this; exact this
            subst e3
            exact ⟨rfl, BU1.out.trans (B3.out.trans (B5.out.trans b6)), (fun e => absurd e hz), fun _ => rfl⟩
set_option maxHeartbeats 8000000 in
set_option maxRecDepth 100000 in
theorem deedX_if (w0 : World) (p : Nat) (ga : Option Addr) (gc : Nat) (gs : List Int) (q : Nat) (ex : List Tk) (b1 b2 : Sl) (hw : eK 2 ex) (hbd : Bd ex) (h1 : DeedsX w0 p ga gc gs q b1) (h2 : DeedsX w0 p ga gc gs q b2) : DeedX w0 p ga gc gs q (.ifs ex b1 b2) := by
  intro D d st w hc hpq hX hD
  obtain ⟨h, n, sa, sn, sc, ba, bn, bc⟩ := d
  obtain rfl : h = ifT := hD.1
  have hbl := bel1 w (.cells #[.string (tx ifT), .string (tx n), .slice sa sn sc, .slice ba bn bc] 115)
  have BU1 := Lib.hid (But.of hbl : But p w _)
  have Q1 := Lib.hid (B4.of (new_of w (.cells #[.string (tx ifT), .string (tx n), .slice sa sn sc, .slice ba bn bc] 115)))
  have HK := Lib.hid (choose_any w0 p ga gc gs q D st _ hc hpq (hX.next hbl) ifT n sa sn sc ba bn bc ex b1 b2 hw hbd (hD.but hpq BU1.out) h1 h2)
  clear hbl hX hD
  generalize Sm.run gs (.ifs ex b1 b2) st = fin at *
  unfold Dv.v
  have qe : ((tx ifT).toList == [105, 102]) = true := tx_eqL _
  have q0 : ((tx ifT).toList == [115, 101, 116]) = false := by rw [Lib.toList_data, tx_data]; decide
  have q1 : ((tx ifT).toList == [99, 117, 116]) = false := by rw [Lib.toList_data, tx_data]; decide
  have q2 : ((tx ifT).toList == [115, 116, 111, 112]) = false := by rw [Lib.toList_data, tx_data]; decide
  have d0 := Q1.out.c0; have d1 := Q1.out.c1; have d2 := Q1.out.c2; have d3 := Q1.out.c3
  go_enter Tryz.func97, Tryz.ntmps97
  go_wp2_with fail
  refine HK.out.mono ?_; rintro e w4 ⟨b4, h4, k4⟩
  by_cases hz : fin.c = 0
  · obtain ⟨rfl, x4⟩ := h4 hz
    have X4 := Lib.hid x4
    have B4' := Lib.hid (BU1.out.trans b4)
    clear b4 h4 k4 x4
    go_wp2_with fail
    exact bodyPost_end (v := .tuple #[]) (by simp [results, Tryz.results97, go_sem]) rfl ⟨B4'.out, (fun _ => ⟨rfl, X4.out⟩), fun e => absurd hz e⟩
  · obtain rfl := k4 hz
    exact ⟨rfl, BU1.out.trans b4, (fun e => absurd e hz), fun _ => rfl⟩
set_option maxHeartbeats 8000000 in
set_option maxRecDepth 100000 in
theorem deedX_whl (w0 : World) (p : Nat) (ga : Option Addr) (gc : Nat) (gs : List Int) (q : Nat) (ex : List Tk) (b1 : Sl) (hw : eK 2 ex) (hbd : Bd ex) (h1 : DeedsX w0 p ga gc gs q b1) : DeedX w0 p ga gc gs q (.whl ex b1) := by
  intro D d st w hc hpq hX hD
  obtain ⟨h, n, sa, sn, sc, ba, bn, bc⟩ := d
  obtain rfl : h = whT := hD.1
  have hbl := bel1 w (.cells #[.string (tx whT), .string (tx n), .slice sa sn sc, .slice ba bn bc] 115)
  have BU1 := Lib.hid (But.of hbl : But p w _)
  have Q1 := Lib.hid (B4.of (new_of w (.cells #[.string (tx whT), .string (tx n), .slice sa sn sc, .slice ba bn bc] 115)))
  have HK := Lib.hid (repeat_any w0 p ga gc gs q D st _ hc hpq (hX.next hbl) whT n sa sn sc ba bn bc ex b1 hw hbd (hD.but hpq BU1.out) h1)
  clear hbl hX hD
  generalize Sm.run gs (.whl ex b1) st = fin at *
  unfold Dv.v
  have qe : ((tx whT).toList == [119, 104, 105, 108, 101]) = true := tx_eqL _
  have q0 : ((tx whT).toList == [115, 101, 116]) = false := by rw [Lib.toList_data, tx_data]; decide
  have q1 : ((tx whT).toList == [99, 117, 116]) = false := by rw [Lib.toList_data, tx_data]; decide
  have q2 : ((tx whT).toList == [115, 116, 111, 112]) = false := by rw [Lib.toList_data, tx_data]; decide
  have q3 : ((tx whT).toList == [105, 102]) = false := by rw [Lib.toList_data, tx_data]; decide
  have d0 := Q1.out.c0; have d1 := Q1.out.c1; have d2 := Q1.out.c2; have d3 := Q1.out.c3
  go_enter Tryz.func97, Tryz.ntmps97
  go_wp2_with fail
  refine HK.out.mono ?_; rintro e w4 ⟨b4, h4, k4⟩
  by_cases hz : fin.c = 0
  · obtain ⟨rfl, x4⟩ := h4 hz
    have X4 := Lib.hid x4
    have B4' := Lib.hid (BU1.out.trans b4)
    clear b4 h4 k4 x4
    go_wp2_with fail
    exact bodyPost_end (v := .tuple #[]) (by simp [results, Tryz.results97, go_sem]) rfl ⟨B4'.out, (fun _ => ⟨rfl, X4.out⟩), fun e => absurd hz e⟩
  · obtain rfl := k4 hz
    exact ⟨rfl, BU1.out.trans b4, (fun e => absurd e hz), fun _ => rfl⟩
theorem Bd.sub {l m : List Tk} (h : Bd l) (hs : ∀ x ∈ m, x ∈ l) (hl : m.length ≤ l.length) : Bd m := ⟨Nat.le_trans hl h.1, fun s hs' => h.2 s (hs s hs')⟩
mutual
theorem Sm.runX (w0 : World) (p : Nat) (ga : Option Addr) (gc : Nat) (gs : List Int) (q : Nat) : ∀ s : Sm, s.wf 5 → Bd s.fl → DeedX w0 p ga gc gs q s
  | .set m e, h, hb => deedX_set w0 p ga gc gs q m e h (hb.sub (fun x hx => by rw [Sm.fl]; simp [hx]) (by rw [Sm.fl]; simp; omega))
  | .cut m, h, hb => deedX_cut w0 p ga gc gs q m
  | .stop, h, hb => deedX_stop w0 p ga gc gs q
  | .ifs e b1 b2, h, hb => by
    rw [Sm.wf] at h
    exact deedX_if w0 p ga gc gs q e b1 b2 h.1 (hb.sub (fun x hx => by rw [Sm.fl]; simp [hx]) (by rw [Sm.fl]; simp; omega))
      (deedsX_of w0 p ga gc gs q b1 (Sl.runX w0 p ga gc gs q b1 (Sl.wf_up b1 (by decide) h.2.1) (hb.sub (fun x hx => by rw [Sm.fl]; simp [hx]) (by rw [Sm.fl]; simp; omega))))
      (deedsX_of w0 p ga gc gs q b2 (Sl.runX w0 p ga gc gs q b2 (Sl.wf_up b2 (by decide) h.2.2) (hb.sub (fun x hx => by rw [Sm.fl]; simp [hx]) (by rw [Sm.fl]; simp; omega))))
  | .whl e b1, h, hb => by
    rw [Sm.wf] at h
    exact deedX_whl w0 p ga gc gs q e b1 h.1 (hb.sub (fun x hx => by rw [Sm.fl]; simp [hx]) (by rw [Sm.fl]; simp; omega))
      (deedsX_of w0 p ga gc gs q b1 (Sl.runX w0 p ga gc gs q b1 (Sl.wf_up b1 (by decide) h.2) (hb.sub (fun x hx => by rw [Sm.fl]; simp [hx]) (by rw [Sm.fl]; simp; omega))))
theorem Sl.runX (w0 : World) (p : Nat) (ga : Option Addr) (gc : Nat) (gs : List Int) (q : Nat) : ∀ s : Sl, s.wf 5 → Bd s.fl → s.each (DeedX w0 p ga gc gs q)
  | .nil, h, hb => by rw [Sl.each]; trivial
  | .cons s r, h, hb => by
    rw [Sl.wf] at h
    rw [Sl.each]
    exact ⟨Sm.runX w0 p ga gc gs q s h.1 (hb.sub (fun x hx => by rw [Sl.fl]; simp [hx]) (by rw [Sl.fl]; simp)), Sl.runX w0 p ga gc gs q r h.2 (hb.sub (fun x hx => by rw [Sl.fl]; simp [hx]) (by rw [Sl.fl]; simp))⟩
end
end Go.Proofs.YtfnnoehpahdgcaaGreatDoor.Cl
