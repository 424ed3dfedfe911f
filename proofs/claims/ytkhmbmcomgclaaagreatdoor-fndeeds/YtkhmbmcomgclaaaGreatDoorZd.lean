/-
  Statements in one row: contract of impl.flattened at every depth; impl.DeedsIn.
  Names of statements: contracts of impl.withNames, NamesIn.
-/
import Derived.Test.YtkhmbmcomgclaaaGreatDoorZb
import Derived.Test.YtkhmbmcomgclaaaGreatDoorZa
import Derived.Test.YtkhmbmcomgclaaaGreatDoorZc
import Derived.Test.YtkhmbmcomgclaaaGreatDoorSj
import Derived.Lib.OwnBridge
import Derived.Sort.OwnSorted
namespace Go.Proofs.YtkhmbmcomgclaaaGreatDoor.Cl
open Go.RowKit Wd Rp Cu Kp
set_option linter.unusedVariables false
/-- The statements of a row read so: their names, their expressions. -/
def Alk (w0 : World) (es : List Dv) (F : List Rc) : Prop := es.length = F.length ∧ ∀ (k : Nat) (d : Dv) (r : Rc), es[k]? = some d → F[k]? = some r → d.n = r.1 ∧ d.sn = r.2.length ∧ V1 w0 d.sa d.sc (txL r.2)
theorem Alk.app {w0 : World} {es fs : List Dv} {F G : List Rc} (h : Alk w0 es F) (h2 : Alk w0 fs G) : Alk w0 (es ++ fs) (F ++ G) := by
  refine ⟨by rw [List.length_append, List.length_append, h.1, h2.1], fun k d r hd hr => ?_⟩
  rcases Nat.lt_or_ge k es.length with hk | hk
  · rw [List.getElem?_append_left hk] at hd
    rw [List.getElem?_append_left (by have := h.1; omega)] at hr
    exact h.2 k d r hd hr
  · rw [List.getElem?_append_right hk] at hd
    rw [List.getElem?_append_right (by have := h.1; omega), ← h.1] at hr
    exact h2.2 _ d r hd hr
theorem Alk.one {w0 : World} {d : Dv} {sm : List Tk} (h1 : d.sn = sm.length) (h2 : V1 w0 d.sa d.sc (txL sm)) : Alk w0 [d] [(d.n, sm)] := by
  refine ⟨rfl, fun k e r hd hr => ?_⟩
  cases k with
  | zero => simp at hd hr; subst hd; subst hr; exact ⟨rfl, h1, h2⟩
  | succ k => simp at hd
theorem Alk.nil (w0 : World) : Alk w0 [] [] := ⟨rfl, fun k d r hd => by simp at hd⟩
/-- Under way: a row of the call's own that reads so. -/
def FlI (w0 : World) (q : Nat) (w : World) (F : List Rc) (v : Value) (wr : World) : Prop := ∃ es, OwD q wr v es ∧ Alk w0 es F ∧ Below q w wr
/-- The contract of flattened. -/
def FltC (D : Nat) : Prop := ∀ (w0 : World) (K : Nat → Prop) (w : World) (a : Option Addr) (n c : Nat) (F : List Rc), DM w0 K w D (.slice a n c) F → F.length ≤ 1000000 →
  Calls Tryz.prog 42 #[.slice a n c] w fun e w' => ∃ b m k, e = .returned (.slice b m k) ∧ FlI w0 w.heap.size w F (.slice b m k) w'
theorem flat_take {α : Type} {fs : List (List α)} {k : Nat} {f : List α} (h : fs[k]? = some f) : (fs.take (k + 1)).flatten = (fs.take k).flatten ++ f := by
  rw [List.take_add_one, h]; simp
theorem flat_le {α : Type} {fs : List (List α)} (k : Nat) : (fs.take k).flatten.length ≤ fs.flatten.length := by
  have h : fs.flatten = (fs.take k).flatten ++ (fs.drop k).flatten := by rw [← List.flatten_append, List.take_append_drop]
  rw [h, List.length_append]; omega
set_option maxHeartbeats 8000000 in
set_option maxRecDepth 100000 in
theorem flat_step (D : Nat) (ih : FltC D) : FltC (D + 1) := by
  intro w0 K w a n c F hDM hF
  obtain ⟨ds, fs, how, hK, hlen, hel, rfl⟩ := hDM
  obtain ⟨a', c', e, hlc, hcm⟩ := how.form
  unfold maxLen at hcm
  cases e
  have IH := Lib.hid ih
  have HOW := Lib.hid how
  have HEL := Lib.hid hel
  have HLEN := Lib.hid hlen
  have HF := Lib.hid hF
  clear ih how hel hlen hF hK
  obtain ⟨n, hn⟩ : ∃ n, ds.length = n := ⟨_, rfl⟩
  rw [hn] at hlc HOW HLEN ⊢
  have HN := Lib.hid hn
  obtain ⟨q, hq⟩ : ∃ q, w.heap.size = q := ⟨_, rfl⟩
  rw [hq]
  have HQ := Lib.hid hq
  clear hn hq
  go_enter Tryz.func42, Tryz.ntmps42
  go_wp2_with fail
  go_loopw [3, 5, 7, 10, 21] (fun mv _ _ i _ wr => ∃ k : Nat, k ≤ n ∧ i = .int .i64 (k : Int) ∧ FlI w0 q w (fs.take k).flatten mv wr) (fun _ _ _ i _ _ => n - intV i)
  case atStart => exact ⟨0, Nat.zero_le _, rfl, [], OwD.nothing _ _, by simpa using Alk.nil w0, by rw [← HQ.out]; exact Below.refl _ _⟩
  case round =>
    obtain ⟨k, hk, rfl, es, ho, hal, hb⟩ := hrel
    have HO := Lib.hid ho
    have HAL := Lib.hid hal
    have HB := Lib.hid hb
    obtain ⟨va, vc, rfl, -, -⟩ := ho.form
    clear ho hal hb
    generalize hel : es.length = el at *
    by_cases hlt : k < n
    · obtain ⟨d, hd⟩ : ∃ d, ds[k]? = some d := ⟨ds[k]'(by have := HN.out; omega), List.getElem?_eq_getElem _⟩
      obtain ⟨f, hf⟩ : ∃ f, fs[k]? = some f := ⟨fs[k]'(by have := HLEN.out; omega), List.getElem?_eq_getElem _⟩
      obtain ⟨aa, ca, e, hvd⟩ := HOW.out.view
      rw [HN.out] at e
      cases e
      have hcell : ∃ g o, a = some ⟨g, o, none⟩ ∧ g < q ∧ ∀ j x, d.cells[j]? = some x → wr.cell? ⟨g, o + k * 4 + j, none⟩ = some x := by
        obtain ⟨g, o, e, hg, -⟩ := hvd.2.2.2 _ _ (flatD_get hd (j := 0) (x := .string (tx d.h)) rfl)
        refine ⟨g, o, e, by rw [← HQ.out]; exact hg, fun j x hj => ?_⟩
        obtain ⟨g', o', e', hg', hc'⟩ := hvd.2.2.2 _ _ (flatD_get hd hj)
        rw [e] at e'; cases e'
        rw [show o + k * 4 + j = o + (k * 4 + j) by omega]
        exact (World.cell?_of_block (w := w) (HB.out.block g (by rw [← HQ.out]; exact hg))).trans hc'
      obtain ⟨g, o, rfl, hg, hcw⟩ := hcell
      have d0 : wr.cell? ⟨g, o + k * 4, none⟩ = some (.string (tx d.h)) := hcw 0 _ rfl
      have d1 : wr.cell? ⟨g, o + k * 4 + 1, none⟩ = some (.string (tx d.n)) := hcw 1 _ rfl
      have d2 : wr.cell? ⟨g, o + k * 4 + 2, none⟩ = some (.slice d.sa d.sn d.sc) := hcw 2 _ rfl
      have d3 : wr.cell? ⟨g, o + k * 4 + 3, none⟩ = some (.slice d.ba d.bn d.bc) := hcw 3 _ rfl
      have HD := Lib.hid (HEL.out k d f hd hf)
      have HFT := Lib.hid (flat_take hf)
      have t1 : (k : Int) < (n : Int) := by omega
      have t1d : decide ((k : Int) < (n : Int)) = true := by simpa using hlt
      have i1 : (k : Int) + 1 ≤ 9223372036854775807 := by omega
      clear hcw hd hf hg hvd hk hlt hlc hcm hel
      have HWA := Lib.hid (bel1 wr (.cells #[.string (tx d.h), .string (tx d.n), .slice d.sa d.sn d.sc, .slice d.ba d.bn d.bc] 55))
      have HWB := Lib.hid (bel2 wr (.cells #[.string (tx d.h), .string (tx d.n), .slice d.sa d.sn d.sc, .slice d.ba d.bn d.bc] 55) (.cells #[.string (tx d.h), .string (tx d.n), .slice d.sa d.sn d.sc, .slice d.ba d.bn d.bc] 55))
      have O2 := Lib.hid (HO.out.same (fun g hg => HWB.out.block g (HO.out.low g hg)))
      have hzq : q ≤ ((wr.alloc (.cells #[.string (tx d.h), .string (tx d.n), .slice d.sa d.sn d.sc, .slice d.ba d.bn d.bc] 55)).alloc (.cells #[.string (tx d.h), .string (tx d.n), .slice d.sa d.sn d.sc, .slice d.ba d.bn d.bc] 55)).heap.size := by have := HB.out.size; have := HWB.out.size; have := HQ.out; omega
      have TB := Lib.hid ((B4.of (new_of wr (.cells #[.string (tx d.h), .string (tx d.n), .slice d.sa d.sn d.sc, .slice d.ba d.bn d.bc] 55))).next (bel1 _ (.cells #[.string (tx d.h), .string (tx d.n), .slice d.sa d.sn d.sc, .slice d.ba d.bn d.bc] 55)))
      have VL := Lib.hid (show VD ((wr.alloc (.cells #[.string (tx d.h), .string (tx d.n), .slice d.sa d.sn d.sc, .slice d.ba d.bn d.bc] 55)).alloc (.cells #[.string (tx d.h), .string (tx d.n), .slice d.sa d.sn d.sc, .slice d.ba d.bn d.bc] 55)) (some ⟨wr.heap.size + 1, 0, none⟩) 1 [d] from by
        have := litD (wr.alloc (.cells #[.string (tx d.h), .string (tx d.n), .slice d.sa d.sn d.sc, .slice d.ba d.bn d.bc] 55)) d
        rwa [World.size_alloc] at this)
      have hlen2 : es.length + 1 ≤ 10000000 := by
        have h1 := HAL.out.1
        have h2 := flat_le (fs := fs) k
        have := HF.out
        omega
      go_wp2_with (first
        | (at_builtin; refine append_deeds rfl (.tmp 14) (.tmp 16) rfl (base := q) (l := es) (m := [d]) rfl rfl rfl O2.out VL.out hlen2 hzq ?_; intro v3 w3 o3 g3 n3; have T3 : w3.cell? ⟨wr.heap.size, 3, none⟩ = some (.slice d.ba d.bn d.bc) := (World.cell?_of_block (g3.block wr.heap.size TB.out.lt (fun e => by have := HO.out.low _ e.symm; omega))).trans TB.out.c3; have G3 := Lib.hid (And.intro o3 (And.intro g3 n3)); clear o3 g3 n3)
        | fail)
      obtain ⟨sm, bs, gs, h1, h2, h3, h4, -, h6, h7, h8⟩ := HD.out
      have hw3 : Below q w w3 := by
        obtain ⟨o3, g3, n3⟩ := G3.out
        refine ((HB.out.trans (HWB.out.mono (by have := HB.out.size; have := HQ.out; omega)))).grown g3 hzq (fun g hg => HO.out.lt g hg)
      have S0 := Lib.hid (show FlI w0 q w ((fs.take k).flatten ++ ((d.n, sm) :: (gs.take 0).flatten)) v3 w3 from
        ⟨es ++ [d], G3.out.1, (HAL.out.app (Alk.one h1 h2)), hw3⟩)
      have HLE := Lib.hid (show ∀ j, ((fs.take k).flatten ++ ((d.n, sm) :: (gs.take j).flatten)).length ≤ 1000000 from fun j => by
        have e1 := flat_le (fs := fs) (k + 1)
        have e2 := HF.out
        have e3 := flat_le (fs := gs) j
        rw [HFT.out, h8, List.length_append, List.length_cons] at e1
        rw [List.length_append, List.length_cons]
        omega)
      have HBV := Lib.hid h4
      have HSUB := Lib.hid h7
      have HGL := Lib.hid h6
      have HF8 := Lib.hid h8
      obtain ⟨bn, hbn⟩ : ∃ bn, bs.length = bn := ⟨_, rfl⟩
      have HBN := Lib.hid hbn
      have hdbn : d.bn = bn := h3.trans hbn
      rw [hbn] at HGL
      clear h1 h2 h3 h4 h6 h7 h8 hw3 hbn G3 T3 HO HAL O2 TB VL HWA HWB hzq hlen2 HB d0 d1 d2 d3
      obtain ⟨dba, hdba⟩ : ∃ x, d.ba = x := ⟨_, rfl⟩
      obtain ⟨dbc, hdbc⟩ : ∃ x, d.bc = x := ⟨_, rfl⟩
      rw [hdba, hdbc] at HBV
      rw [hdba, hdbc, hdbn]
      clear hdba hdbc hdbn
      generalize wr.heap.size = t
      go_loopw [3, 7, 21] (fun mv _ i wr => ∃ j : Nat, j ≤ bn ∧ i = .int .i64 (j : Int) ∧ FlI w0 q w ((fs.take k).flatten ++ ((d.n, sm) :: (gs.take j).flatten)) mv wr) (fun _ _ i _ => bn - intV i)
      case atStart => exact ⟨0, Nat.zero_le _, rfl, S0.out⟩
      case round =>
        obtain ⟨j, hj, rfl, es1, ho, hal, hb⟩ := hrel
        have HO := Lib.hid ho
        have HAL := Lib.hid hal
        have HB := Lib.hid hb
        obtain ⟨va1, vc1, rfl, -, -⟩ := ho.form
        clear ho hal hb S0
        generalize hel1 : es1.length = el1 at *
        by_cases hjl : j < bn
        · obtain ⟨b, hb⟩ : ∃ b, bs[j]? = some b := ⟨bs[j]'(by have := HBN.out; omega), List.getElem?_eq_getElem _⟩
          obtain ⟨gj, hgj⟩ : ∃ f, gs[j]? = some f := ⟨gs[j]'(by have := HGL.out; omega), List.getElem?_eq_getElem _⟩
          have HGJ := Lib.hid hgj
          have HFT2 := Lib.hid (flat_take hgj)
          have hle := HLE.out (j + 1)
          rw [HFT2.out, List.length_append, List.length_cons, List.length_append] at hle
          have hsub := HSUB.out j b gj hb hgj
          obtain ⟨gb, ob, e, hgb, hcb⟩ := HBV.out.2.2.2 j b hb
          have c0 := (World.cell?_of_block (w := w) (HB.out.block gb (by rw [← HQ.out]; exact hgb))).trans hcb
          have hbs : ∃ b1 b2 b3, b = .slice b1 b2 b3 := by
            cases D with
            | zero => cases hsub
            | succ D =>
              obtain ⟨ds', fs', ho', -⟩ := hsub
              obtain ⟨x, y, e, -⟩ := ho'.form
              exact ⟨x, _, y, e⟩
          obtain ⟨b1, b2, b3, rfl⟩ := hbs
          have hq2 := HQ.out
          have HC := Lib.hid (IH.out w0 K wr b1 b2 b3 gj (DM.keep (w' := wr) HB.out.size (fun g hK hg => HB.out.block g (by omega)) (fun g h _ => h) D _ _ hsub) (by omega))
          have t2 : (j : Int) < (bn : Int) := by omega
          have t2d : decide ((j : Int) < (bn : Int)) = true := by simpa using hjl
          have i2 : (j : Int) + 1 ≤ 9223372036854775807 := by
            have h1 := HBV.out.1
            have h2 := HBV.out.2.1
            have := HBN.out
            unfold maxLen at h2
            omega
          have hl1 := HAL.out.1
          rw [List.length_append, List.length_cons, hel1] at hl1
          subst e
          clear hsub hcb hgb hb hgj hj hjl hq2 HF8
          go_wp2_with fail
          refine HC.out.mono ?_; rintro e w4 ⟨b4, m4, k4, rfl, es2, o4, al4, bl4⟩
          have O4 := Lib.hid (HO.out.same (fun g hg => bl4.block g (HO.out.low g hg)))
          obtain ⟨a4, c4, e4, v4⟩ := o4.view
          cases e4
          have V4 := Lib.hid v4
          have AL4 := Lib.hid al4
          have B4' := Lib.hid (bel_tr HB.out bl4 (by have := HB.out.size; have := HQ.out; omega))
          have hzq : q ≤ w4.heap.size := by have := B4'.out.size; have := HQ.out; omega
          have hl2 : es1.length + es2.length ≤ 10000000 := by have := al4.1; omega
          clear o4 al4 bl4 v4 HC hle hl1
          go_wp2_with (first
            | (at_builtin; refine append_deeds rfl (.tmp 25) (.tmp 27) rfl (base := q) (l := es1) (m := es2) rfl rfl rfl O4.out V4.out hl2 hzq ?_; intro v5 w5 o5 g5 n5; have G5 := Lib.hid (And.intro o5 (And.intro g5 n5)); clear o5 g5 n5)
            | fail)
          go_roundw
          case rel =>
            refine ⟨j + 1, by omega, by go_num, es1 ++ es2, G5.out.1, ?_, B4'.out.grown G5.out.2.1 hzq (fun g hg => O4.out.lt g hg)⟩
            have := HAL.out.app AL4.out
            rw [HFT2.out]
            simpa using this
          case measure => simp [intV]; omega
        · obtain rfl : j = bn := by omega
          have t2 : ¬ (j : Int) < (j : Int) := by omega
          go_wp2_with fail
          go_roundw
          case rel =>
            refine ⟨k + 1, by omega, by go_num, es1, HO.out, ?_, HB.out⟩
            have := HAL.out
            rw [HGL.out, List.take_length] at this
            rw [HFT.out, HF8.out]
            exact this
          case measure => simp [intV]; omega
    · obtain rfl : k = n := by omega
      have t1 : ¬ (k : Int) < (k : Int) := by omega
      go_wp2_with fail
      go_ret
      refine ⟨va, el, vc, rfl, es, HO.out, ?_, HB.out⟩
      have := HAL.out
      rw [HLEN.out, List.take_length] at this
      exact this
theorem flat_all : ∀ D : Nat, FltC D
  | 0 => fun w0 K w a n c F h => by cases h
  | D + 1 => flat_step D (flat_all D)
theorem scr_len {l : List Tk} {i : Int} {F : List Rc} (h : ScR l i F) : (F.length : Int) ≤ l.length - i := by
  induction h with
  | fin => simp
  | br h _ hr ih => omega
  | set h _ hn hr ih => have := sm_ahead hn; rw [List.length_cons]; omega
  | cut h _ hr ih => rw [List.length_cons]; omega
  | stop h hr ih => rw [List.length_cons]; omega
  | iw h _ hn hr ih => have := sm_ahead hn; rw [List.length_cons]; omega
theorem rcR_len {l : List Tk} (h : rcB l = true) : (rcR l).length ≤ 120 := by
  have h1 := scr_len (rcB_scr h)
  have h2 := ((Bool.and_eq_true _ _).mp ((rcB_dl l).symm.trans h)).1
  have := of_decide_eq_true h2
  omega
set_option maxHeartbeats 1000000 in
set_option maxRecDepth 100000 in
theorem implDeedsIn_any (w : World) (a : Option Addr) (cap : Nat) (l : List Tk) (n : Nat) (hn : l.length = n) (hv : V1 w a cap (txL l)) (hl : n ≤ 4194304) (hm : ∀ s ∈ l, s.length ≤ 4194304) (hL : Lib3 w) :
    Calls Tryz.prog 18 #[.slice a n cap] w (GivesI (dnR l) w) := by
  have HD := Lib.hid (deedsOf_any w a cap l n hn hv hl hm hL)
  have HN := Lib.hid (dn_is l)
  have HR := Lib.hid (fun h => rcR_len (l := l) h)
  clear hv hm hL
  generalize dnR l = r at *
  generalize rcB l = q at *
  generalize rcR l = F at *
  go_enter Tryz.func18, Tryz.ntmps18
  go_wp2_with fail
  refine HD.out.mono ?_; rintro e w1 ⟨b, m, c, rfl, b1, m1⟩
  have B1 := Lib.hid b1
  have M1 := Lib.hid m1
  clear b1 m1
  cases q
  · go_wp2_with fail
    go_ret
    exact ⟨by rw [HN.out]; rfl, B1.out⟩
  · have hr := HR.out rfl
    have HC := Lib.hid (flat_all 6 w (w.heap.size ≤ ·) w1 b m c F (M1.out rfl) (by omega))
    have HN' := Lib.hid (HN.out.trans (if_pos rfl))
    clear hr
    go_wp2_with fail
    refine HC.out.mono ?_; rintro e w2 ⟨b2, m2, c2, rfl, es, ho, hal, bl⟩
    have B2 := Lib.hid (bel_tr B1.out bl (Nat.le_refl _))
    have hm2 : m2 = F.length := by
      obtain ⟨x, y, e, -⟩ := ho.form
      cases e
      exact hal.1
    clear ho hal bl
    go_wp2_with fail
    go_ret
    exact ⟨by rw [HN'.out]; rfl, B2.out⟩
end Go.Proofs.YtkhmbmcomgclaaaGreatDoor.Cl
namespace Go.Proofs.YtkhmbmcomgclaaaGreatDoor.Cl
open Go.RowKit Wd Rp Cu Kp Go.Sort
set_option linter.unusedVariables false
theorem nm_gv {s : Tk} (h : nmB s = true) : gvN s = 0 ∧ opN s = 0 := by
  constructor
  · unfold gvN
    cases e : at? gvsL s with
    | none => rfl
    | some k =>
      have hm : s ∈ gvsL := List.mem_of_getElem? (at?_lt e).2
      have key : ∀ t ∈ gvsL, nmB t = false := by decide
      rw [key s hm] at h; cases h
  · unfold opN
    cases e : at? opsL s with
    | none => rfl
    | some k =>
      have hm : s ∈ opsL := List.mem_of_getElem? (at?_lt e).2
      have key : ∀ t ∈ opsL, nmB t = false := by decide
      rw [key s hm] at h; cases h
theorem tb_nm (v : Value) (w : World) : (Instr.typeAssert (.iface 80 v) 82 80 true).run Tryz.prog w = .ok (.tuple #[v, .bool true]) w := by kernel_rfl
theorem tb_gv (v : Value) (w : World) : (Instr.typeAssert (.iface 100 v) 82 80 true).run Tryz.prog w = .ok (.tuple #[.string ⟨#[]⟩, .bool false]) w := by kernel_rfl
theorem tb_op (v : Value) (w : World) : (Instr.typeAssert (.iface 101 v) 82 80 true).run Tryz.prog w = .ok (.tuple #[.string ⟨#[]⟩, .bool false]) w := by kernel_rfl
theorem tb_wd (v : Value) (w : World) : (Instr.typeAssert (.iface 103 v) 82 80 true).run Tryz.prog w = .ok (.tuple #[.string ⟨#[]⟩, .bool false]) w := by kernel_rfl
theorem tb_nil (w : World) : (Instr.typeAssert .nilIface 82 80 true).run Tryz.prog w = .ok (.tuple #[.string ⟨#[]⟩, .bool false]) w := by kernel_rfl
theorem tb_yes {s : Tk} (h : nmB s = true) (w : World) : (Instr.typeAssert (sgV s) 82 80 true).run Tryz.prog w = .ok (.tuple #[.string (tx s), .bool true]) w := by
  obtain ⟨h1, h2⟩ := nm_gv h
  unfold sgV
  rw [if_neg (by rw [h1]; simp), if_neg (by rw [h2]; simp), if_pos h]
  exact tb_nm _ _
theorem tb_no {s : Tk} (h : nmB s = false) (w : World) : (Instr.typeAssert (sgV s) 82 80 true).run Tryz.prog w = .ok (.tuple #[.string ⟨#[]⟩, .bool false]) w := by
  unfold sgV
  split
  · exact tb_gv _ _
  · split
    · exact tb_op _ _
    · rw [if_neg (by rw [h]; simp)]
      split
      · exact tb_wd _ _
      · exact tb_nil _
theorem append_txo {ops : Array Oper} {rest : List Oper} {o : Oper} {a : Act} {Q : Exit → Act → World → Prop} {w : World} (hw : Region.wanted o (yielded ops a.tmps) = true) (s x : Operand)
    (ho : o.op = .call { callee := .builtin .append, args := #[s, x], argTypes := #[24, 24] })
    {base : Nat} {v : Value} {ad : Addr} {t : Tk} {l : List Tk} (hs : a.eval s = v) (hx : a.eval x = .slice (some ad) 1 1) (hown : OT base w v l) (hy : w.cell? ad = some (.string (tx t))) (hlen : l.length + 1 ≤ 10000000) (hbase : base ≤ w.heap.size)
    (h : ∀ v' w', OT base w' v' (l ++ [t]) → w.grownBy w' v.ownBlock → (v'.ownBlock = v.ownBlock ∨ v'.ownBlock = some w.heap.size) → wpList Tryz.prog ops Q rest (a.put o.dst v') w') : wpList Tryz.prog ops Q (o :: rest) a w := by
  refine BigFrame.wpList_want hw fun K hK => ?_
  obtain ⟨i0, hi, hz0, hz1, hz2⟩ := info_parts info1T
  unfold OT O1 at hown
  rw [txL_len] at hown
  obtain ⟨v', w', hr, h2, h3, -, h5⟩ := run_append_own_at (P := Tryz.prog) w base 24 o.type 9 i0 _ 1 16 Tryz.underlying24 hi hz0 hz1 hz2 rfl (by decide) v l.length (txL l) hown
    ad 1 1 [.string (tx t)] rfl (fun j u hj => by
      cases j with
      | zero => simp at hj; subst hj; simpa [Addr.add] using hy
      | succ j => simp at hj) (fun u hu => by simp at hu; subst hu; rfl) (by unfold maxLen; omega) (by omega) hbase
  unfold Oper.wp execOp
  simp only [ho, resolve, invoke, builtin, Sem.run_bind, Sem.run_pure, Result.andThen_ok, List.map_toArray, List.map_cons, List.map_nil, hs, hx, hr]
  refine hK _ _ (h v' w' ?_ h3 h5)
  unfold OT O1
  rw [txL_len, List.length_append]
  have e : txL (l ++ [t]) = txL l ++ [.string (tx t)] := List.map_append
  rw [e]; exact h2
theorem ot_form {B : Nat} {w : World} {v : Value} {l : List Tk} (h : OT B w v l) : ∃ a cap, v = .slice a l.length cap := by
  obtain ⟨a, cap, e, -⟩ := O1.view h
  rw [txL_len] at e
  exact ⟨a, cap, e⟩
theorem flt_take {ts : List Tk} {k : Nat} {t : Tk} (h : ts[k]? = some t) : (ts.take (k + 1)).filter nmB = (ts.take k).filter nmB ++ (if nmB t then [t] else []) := by
  rw [List.take_add_one, h, List.filter_append]
  congr 1
  cases hb : nmB t <;> simp [hb]
/-- Names under way. -/
def WnI (q : Nat) (w : World) (v0 : Value) (l ts : List Tk) (k : Nat) (mv : Value) (wr : World) : Prop :=
  OT q wr mv (l ++ (ts.take k).filter nmB) ∧ Below q w wr ∧ w.heap.size ≤ wr.heap.size ∧ (∀ g, g < w.heap.size → v0.ownBlock ≠ some g → wr.heap[g]? = w.heap[g]?) ∧ (mv.ownBlock = v0.ownBlock ∨ ∃ g, mv.ownBlock = some g ∧ w.heap.size ≤ g)
set_option maxHeartbeats 8000000 in
set_option maxRecDepth 100000 in
theorem withNames_any {w0 : World} (hL : Lib3 w0) (w : World) (hw0 : Below w0.heap.size w0 w) (q : Nat) (hq0 : w0.heap.size ≤ q) (hq : q ≤ w.heap.size) (v0 : Value) (l : List Tk) (ho : OT q w v0 l) (a : Option Addr) (n cap : Nat) (ts : List Tk) (hn : ts.length = n) (hv : V1 w a cap (txL ts))
    (hap : 0 < n → ∀ g o, a = some ⟨g, o, none⟩ → v0.ownBlock ≠ some g) (hm : ∀ s ∈ ts, s.length ≤ 4194304) (hlen : l.length + n ≤ 1000000) :
    Calls Tryz.prog 43 #[v0, .slice a n cap] w fun e w' => ∃ b m c, e = .returned (.slice b m c) ∧ OT q w' (.slice b m c) (l ++ ts.filter nmB) ∧ Below q w w' ∧ ∀ g, g < w.heap.size → v0.ownBlock ≠ some g → w'.heap[g]? = w.heap[g]? := by
  have HL := Lib.hid hL
  have HW0 := Lib.hid hw0
  have HV := Lib.hid hv
  have HAP := Lib.hid hap
  have HM := Lib.hid hm
  have HN := Lib.hid hn
  have S0 := Lib.hid (show WnI q w v0 l ts 0 v0 w from ⟨by simpa using ho, Below.refl _ _, Nat.le_refl _, fun _ _ _ => rfl, Or.inl rfl⟩)
  obtain ⟨va0, vc0, rfl⟩ := ot_form ho
  clear hL hw0 hv hap hm hn ho
  have HQ := Lib.hid (And.intro hq0 hq)
  clear hq0 hq
  go_enter Tryz.func43, Tryz.ntmps43
  go_wp2_with fail
  go_loopw [0, 6, 7, 8, 11] (fun mv _ _ _ i wr => ∃ k : Nat, k ≤ n ∧ i = .int .i64 (k : Int) ∧ WnI q w (.slice va0 l.length vc0) l ts k mv wr) (fun _ _ _ _ i _ => n - intV i)
  case atStart => exact ⟨0, Nat.zero_le _, rfl, S0.out⟩
  case round =>
    obtain ⟨k, hk, rfl, ho, hb, hz, hf, hob⟩ := hrel
    obtain ⟨va, vc, rfl⟩ := ot_form ho
    have HO := Lib.hid ho
    have HB := Lib.hid hb
    have HF := Lib.hid hf
    have HOB := Lib.hid hob
    have HZ := Lib.hid hz
    clear ho hb hf hob hz S0
    generalize hvl : (l ++ (ts.take k).filter nmB).length = vl at *
    have hvl2 : vl ≤ l.length + k := by
      rw [← hvl, List.length_append]
      have := List.length_filter_le nmB (ts.take k)
      rw [List.length_take] at this
      omega
    clear hvl
    by_cases hlt : k < n
    · obtain ⟨t, ht⟩ : ∃ t, ts[k]? = some t := ⟨ts[k]'(by have := HN.out; omega), List.getElem?_eq_getElem _⟩
      obtain ⟨g, o, rfl, hg, hc⟩ := HV.out.tx ht
      have c0 := (World.cell?_of_block (w := w) (HF.out g hg (HAP.out (by omega) g o rfl))).trans hc
      have t1 : (k : Int) < (n : Int) := by omega
      have t1d : decide ((k : Int) < (n : Int)) = true := by simpa using hlt
      have i1 : (k : Int) + 1 ≤ 9223372036854775807 := by omega
      have hbr := HQ.out
      have HSG := Lib.hid (signOf_any t wr (lib3_below HL.out (HW0.out.trans (HB.out.mono hbr.1))) (HM.out t (List.mem_of_getElem? ht)))
      have HFT := Lib.hid (flt_take ht)
      have hzq : q ≤ wr.heap.size := Nat.le_trans hbr.2 HZ.out
      clear hc hg ht hbr hk
      have hkn : vl + 1 ≤ 10000000 := by omega
      by_cases hb : nmB t = true
      · have TA := tb_yes hb
        replace HFT := Lib.hid (HFT.out.trans (by rw [if_pos hb]))
        clear hb
        go_wp2_with fail
        refine HSG.out.mono ?_; rintro e w1 ⟨rfl, b1⟩
        have B1 := Lib.hid b1
        have O1' := Lib.hid (HO.out.next b1)
        have hz1 := b1.size
        clear b1
        have BL := Lib.hid (bel1 w1 (.cells #[.string (tx t)] 9))
        have O2 := Lib.hid (O1'.out.next BL.out)
        have hzz : q ≤ (w1.alloc (.cells #[.string (tx t)] 9)).heap.size := by have := BL.out.size; omega
        have hcc : (w1.alloc (.cells #[.string (tx t)] 9)).cell? ⟨w1.heap.size, 0, none⟩ = some (.string (tx t)) := by
          have := new_of w1 (.cells #[.string (tx t)] 9)
          simp only [World.cell?, this]; rfl
        have HCC := Lib.hid hcc
        clear hcc
        have hlen3 : (l ++ (ts.take k).filter nmB).length + 1 ≤ 10000000 := by
          rw [List.length_append]
          have := List.length_filter_le nmB (ts.take k)
          rw [List.length_take] at this
          omega
        generalize sgV t = sv at *
        go_wp2_with (first
          | (at_builtin; refine append_txo rfl (.tmp 22) (.tmp 24) rfl (base := q) (v := .slice va vl vc) (l := l ++ (ts.take k).filter nmB) (t := t) rfl rfl O2.out HCC.out hlen3 hzz ?_; intro v3 w3 o3 g3 n3; have G3 := Lib.hid (And.intro o3 (And.intro g3 n3)); clear o3 g3 n3)
          | fail)
        go_roundw
        case rel =>
          obtain ⟨o3, g3, n3⟩ := G3.out
          have hrow : ∀ x, (Value.slice va vl vc).ownBlock = some x → q ≤ x := fun x hx => OT.lt HO.out x hx
          refine ⟨k + 1, by omega, by go_num, by rw [HFT.out, ← List.append_assoc]; exact o3, (((HB.out.trans (B1.out.mono hzq)).trans (BL.out.mono (by omega))).grown g3 hzz hrow), ?_, fun x hx hne => ?_, ?_⟩
          · have h1 := g3.size; have h2 := BL.out.size; have h3 := HZ.out; omega
          · have h3 := HZ.out
            refine ((g3.block x (by have := BL.out.size; omega) (fun e => ?_)).trans (BL.out.block x (by omega))).trans ((B1.out.block x (by omega)).trans (HF.out x hx hne))
            rcases HOB.out with h | ⟨y, h, hy⟩
            · rw [← e] at h; exact hne h.symm
            · rw [← e] at h; cases h; omega
          · rcases n3 with h | h
            · rcases HOB.out with h' | ⟨y, h', hy⟩
              · exact Or.inl (h.trans h')
              · exact Or.inr ⟨y, h.trans h', hy⟩
            · exact Or.inr ⟨_, h, by have h2 := BL.out.size; have h3 := HZ.out; omega⟩
        case measure => simp [intV]; omega
      · have hb' : nmB t = false := by simpa using hb
        have TA := tb_no hb'
        replace HFT := Lib.hid (HFT.out.trans (by rw [if_neg hb, List.append_nil]))
        clear hb hb'
        go_wp2_with fail
        refine HSG.out.mono ?_; rintro e w1 ⟨rfl, b1⟩
        have B1 := Lib.hid b1
        have O1' := Lib.hid (HO.out.next b1)
        have hz1 := b1.size
        clear b1
        generalize sgV t = sv at *
        go_wp2_with fail
        go_roundw
        case rel =>
          refine ⟨k + 1, by omega, by go_num, by rw [HFT.out]; exact O1'.out, HB.out.trans (B1.out.mono hzq), by have := HZ.out; omega, fun x hx hne => (B1.out.block x (by have := HZ.out; omega)).trans (HF.out x hx hne), HOB.out⟩
        case measure => simp [intV]; omega
    · obtain rfl : k = n := by omega
      have t1 : ¬ (k : Int) < (k : Int) := by omega
      go_wp2_with fail
      go_ret
      refine ⟨va, vl, vc, rfl, ?_, HB.out, HF.out⟩
      have := HO.out
      rw [← HN.out, List.take_length] at this
      exact this
theorem txL_enc (l : List Tk) : txL l = l.map encStr := rfl
theorem sort_any {q : Nat} {w : World} {v : Value} {l : List Tk} (ho : OT q w v l) (hl : l.length ≤ 1000000) : Calls Tryz.prog 44 #[v] w fun e w' => e = .returned (.tuple #[]) ∧ OT q w' v (l.mergeSort fun x y => decide (x ≤ y)) ∧ (q ≤ w.heap.size → Below q w w') := by
  have ho' := ho
  unfold OT O1 at ho'
  rw [txL_len, txL_enc] at ho'
  by_cases hv : v = .slice none 0 0
  · subst hv
    have hl0 : l = [] := by
      rcases ho'.2 with ⟨-, h⟩ | ⟨g, cap, cur, e, -⟩
      · exact List.length_eq_zero_iff.1 h
      · cases e
    subst hl0
    refine (Tryz.slices_Sort_string_none none 0 w).mono ?_; rintro e w' ⟨rfl, rfl⟩
    exact ⟨rfl, by simpa using ho, fun _ => Below.refl _ _⟩
  · obtain ⟨g, cap, rfl, hbg, hgl, hncap, hcm, -, hH⟩ := Lib.holds_of_ownsRow ho' hv
    refine (Tryz.slices_Sort_string g 0 cap l w hH hgl (by omega)).mono ?_; rintro e w' ⟨rfl, nn, os, rfl⟩
    rcases ho'.2 with ⟨h0, _⟩ | ⟨g', cap', cur, e', hbase, hb, h1, h2, h3, h4⟩
    · cases h0
    cases e'
    have hs := ownsRow_sorted (n := nn) (os := os) (ts := l.mergeSort fun x y => decide (x ≤ y)) (List.length_mergeSort l) hbase hb h1 h2 h3
    refine ⟨rfl, ?_, fun hq => (Below.refl q w).grown (grownBy_sorted _) hq (fun j hj => by cases hj; exact hbase)⟩
    unfold OT O1
    rw [txL_len, txL_enc, List.length_mergeSort]
    exact hs
theorem compact_any {q : Nat} {w : World} {v : Value} {l : List Tk} (ho : OT q w v l) (hl : l.length ≤ 1000000) : Calls Tryz.prog 45 #[v] w fun e w' => ∃ b m c, e = .returned (.slice b m c) ∧ OT q w' (.slice b m c) (Lib.compact l) ∧ (q ≤ w.heap.size → Below q w w') := by
  have ho' := ho
  unfold OT O1 at ho'
  rw [txL_len, txL_enc] at ho'
  by_cases hv : v = .slice none 0 0
  · subst hv
    have hl0 : l = [] := by
      rcases ho'.2 with ⟨-, h⟩ | ⟨g, cap, cur, e, -⟩
      · exact List.length_eq_zero_iff.1 h
      · cases e
    subst hl0
    refine (Tryz.slices_Compact_string_empty none 0 w).mono ?_; rintro e w' ⟨rfl, rfl⟩
    exact ⟨none, 0, 0, rfl, O1.nothing _ _ _, fun _ => Below.refl _ _⟩
  · obtain ⟨g, cap, rfl, hbg, hgl, hncap, hcm, -, hH⟩ := Lib.holds_of_ownsRow ho' hv
    refine (Tryz.slices_Compact_string g 0 cap l w hH (by omega) hncap).mono ?_; rintro e w' ⟨rfl, nn, rfl⟩
    have hle := Lib.compact_length_le l
    have hc := Lib.ownsRow_putRow (q := nn) (k := (Lib.compact l).length) (ys := Lib.compact l ++ List.replicate (l.length - (Lib.compact l).length) []) ho' (by simp; omega) (by omega)
    rw [List.take_left] at hc
    refine ⟨_, _, _, rfl, ?_, fun hq => Lib.below_putRow (Below.refl q w) hbg⟩
    unfold OT O1
    rw [txL_len, txL_enc]
    exact hc
/-- What is read of statements stands in the list. -/
theorem scr_in {l : List Tk} {i : Int} {F : List Rc} (h : ScR l i F) : ∀ r ∈ F, (r.1 = [] ∨ r.1 ∈ l) ∧ (∀ t ∈ r.2, t ∈ l) ∧ r.2.length ≤ l.length := by
  have sml : ∀ i, (smT l i).length ≤ l.length := fun i => by
    unfold smT
    split
    · rw [List.length_take, List.length_drop]; omega
    · simp
  induction h with
  | fin => intro r hr; cases hr
  | br h hs hr ih => exact ih
  | set h hm hn hr ih =>
    intro r hr
    rcases List.mem_cons.1 hr with e | e
    · subst e; exact ⟨Or.inr (tkN_mem hm), fun t ht => sm_mem ht, sml _⟩
    · exact ih r e
  | cut h hm hr ih =>
    intro r hr
    rcases List.mem_cons.1 hr with e | e
    · subst e; exact ⟨Or.inr (tkN_mem hm), (fun t ht => by cases ht), Nat.zero_le _⟩
    · exact ih r e
  | stop h hr ih =>
    intro r hr
    rcases List.mem_cons.1 hr with e | e
    · subst e; exact ⟨Or.inl rfl, (fun t ht => by cases ht), Nat.zero_le _⟩
    · exact ih r e
  | iw h hs hn hr ih =>
    intro r hr
    rcases List.mem_cons.1 hr with e | e
    · subst e; exact ⟨Or.inl rfl, fun t ht => sm_mem ht, sml _⟩
    · exact ih r e
theorem rcN_len (r : Rc) : (rcN r).length ≤ 1 + r.2.length := by
  unfold rcN
  rw [List.length_append]
  have h1 := List.length_filter_le nmB [r.1]
  have h2 := List.length_filter_le nmB r.2
  simp at h1
  omega
theorem nms_take_len (F : List Rc) (M : Nat) (h : ∀ r ∈ F, r.2.length ≤ M) : (nms F).length ≤ F.length * (1 + M) := by
  induction F with
  | nil => simp [nms]
  | cons r F ih =>
    unfold nms at *
    rw [List.flatMap_cons, List.length_append, List.length_cons, Nat.succ_mul]
    have h1 := rcN_len r
    have h2 := h r (by simp)
    have h3 := ih fun x hx => h x (List.mem_cons_of_mem _ hx)
    omega
theorem nms_step {F : List Rc} {k : Nat} {r : Rc} (h : F[k]? = some r) : nms (F.take (k + 1)) = nms (F.take k) ++ [r.1].filter nmB ++ r.2.filter nmB := by
  unfold nms
  rw [List.take_add_one, h, List.flatMap_append, List.append_assoc]
  congr 1
  show List.flatMap rcN [r] = _
  simp [rcN]
set_option maxHeartbeats 8000000 in
set_option maxRecDepth 100000 in
theorem implNamesIn_any (w : World) (a : Option Addr) (cap : Nat) (l : List Tk) (n : Nat) (hn : l.length = n) (hv : V1 w a cap (txL l)) (hl : n ≤ 4194304) (hm : ∀ s ∈ l, s.length ≤ 4194304) (hL : Lib3 w) :
    Calls Tryz.prog 19 #[.slice a n cap] w fun e w' => ∃ v, e = .returned v ∧ OT w.heap.size w' v (nnR l) ∧ Below w.heap.size w w' := by
  have HD := Lib.hid (deedsOf_any w a cap l n hn hv hl hm hL)
  have HN := Lib.hid (nn_is l)
  have HR := Lib.hid (show rcB l = true → (rcR l).length ≤ 120 ∧ ∀ r ∈ rcR l, r.1.length ≤ 4194304 ∧ (∀ t ∈ r.2, t.length ≤ 4194304) ∧ r.2.length ≤ 120 from fun h => by
    refine ⟨rcR_len h, fun r hr => ?_⟩
    obtain ⟨h1, h2, h3⟩ := scr_in (rcB_scr h) r hr
    have h4 := of_decide_eq_true ((Bool.and_eq_true _ _).mp ((rcB_dl l).symm.trans h)).1
    refine ⟨?_, fun t ht => hm t (h2 t ht), by omega⟩
    rcases h1 with e | e
    · rw [e]; simp
    · exact hm _ e)
  have HL := Lib.hid hL
  clear hv hm hL
  generalize nnR l = rr at *
  generalize rcB l = qq at *
  generalize rcR l = F at *
  go_enter Tryz.func19, Tryz.ntmps19
  go_wp2_with fail
  refine HD.out.mono ?_; rintro e w1 ⟨b, m, c, rfl, b1, m1⟩
  have B1 := Lib.hid b1
  have M1 := Lib.hid m1
  clear b1 m1 HD
  cases qq
  · go_wp2_with fail
    go_ret
    exact ⟨_, rfl, by rw [HN.out]; exact O1.nothing _ _ _, B1.out⟩
  obtain ⟨hF1, hF2⟩ := HR.out rfl
  have HF2 := Lib.hid hF2
  have HC := Lib.hid (flat_all 6 w (w.heap.size ≤ ·) w1 b m c F (M1.out rfl) (by omega))
  replace HN := Lib.hid (HN.out.trans (if_pos rfl))
  have hnl : ∀ k, (nms (F.take k)).length ≤ 20000 := fun k => by
    have h1 := nms_take_len (F.take k) 120 (fun r hr => (hF2 r (List.mem_of_mem_take hr)).2.2)
    have h2 : (F.take k).length ≤ 120 := by rw [List.length_take]; omega
    have h3 : (F.take k).length * (1 + 120) ≤ 120 * (1 + 120) := Nat.mul_le_mul_right _ h2
    omega
  have HNL := Lib.hid hnl
  clear hF2 hnl HR M1
  go_wp2_with fail
  refine HC.out.mono ?_; rintro e w2 ⟨b2, m2, c2, rfl, es, ho, hal, bl⟩
  have HAL := Lib.hid hal
  obtain ⟨x, y, e, hvd⟩ := ho.view
  cases e
  have HVD := Lib.hid hvd
  have hel := hal.1
  have B2 := Lib.hid (bel_tr B1.out bl (Nat.le_refl _))
  clear ho hal bl hvd HC
  obtain ⟨ne, hne⟩ : ∃ ne, es.length = ne := ⟨_, rfl⟩
  rw [hne] at hel ⊢
  have HNE := Lib.hid hne
  have HEL := Lib.hid hel
  clear hne hel
  obtain ⟨q, hq⟩ : ∃ q, w2.heap.size = q := ⟨_, rfl⟩
  have HQ := Lib.hid hq
  clear hq
  have hwq : w.heap.size ≤ q := by have := B2.out.size; have := HQ.out; omega
  have hne2 : ne ≤ 120 := by have := HEL.out; omega
  go_wp2_with fail
  go_loopw [5, 7, 18] (fun nv _ i wr => ∃ k : Nat, k ≤ ne ∧ i = .int .i64 (k : Int) ∧ OT q wr nv (nms (F.take k)) ∧ Below q w2 wr) (fun _ _ i _ => ne - intV i)
  case atStart => exact ⟨0, Nat.zero_le _, rfl, O1.nothing _ _ _, Below.refl _ _⟩
  case round =>
    obtain ⟨k, hk, rfl, ho, hb⟩ := hrel
    obtain ⟨va, vc, rfl⟩ := ot_form ho
    have HO := Lib.hid ho
    have HB := Lib.hid hb
    clear ho hb
    generalize hvl : (nms (F.take k)).length = vl at *
    clear hvl
    by_cases hlt : k < ne
    · obtain ⟨d, hd⟩ : ∃ d, es[k]? = some d := ⟨es[k]'(by have := HNE.out; omega), List.getElem?_eq_getElem _⟩
      obtain ⟨r, hr⟩ : ∃ r, F[k]? = some r := ⟨F[k]'(by have := HEL.out; omega), List.getElem?_eq_getElem _⟩
      obtain ⟨hdn, hds, hdv⟩ := HAL.out.2 k d r hd hr
      obtain ⟨hr1, hr2, hr3⟩ := HF2.out r (List.mem_of_getElem? hr)
      have HST := Lib.hid (nms_step hr)
      rw [← hdn] at hr1 HST
      have hcell : ∃ g o, b2 = some ⟨g, o, none⟩ ∧ ∀ j z, d.cells[j]? = some z → wr.cell? ⟨g, o + k * 4 + j, none⟩ = some z := by
        obtain ⟨g, o, e, hg, -⟩ := HVD.out.2.2.2 _ _ (flatD_get hd (j := 0) (x := .string (tx d.h)) rfl)
        refine ⟨g, o, e, fun j z hj => ?_⟩
        obtain ⟨g', o', e', hg', hc'⟩ := HVD.out.2.2.2 _ _ (flatD_get hd hj)
        rw [e] at e'; cases e'
        rw [show o + k * 4 + j = o + (k * 4 + j) by omega]
        exact (World.cell?_of_block (w := w2) (HB.out.block g (by rw [← HQ.out]; exact hg))).trans hc'
      obtain ⟨g, o, rfl, hcw⟩ := hcell
      have d0 : wr.cell? ⟨g, o + k * 4, none⟩ = some (.string (tx d.h)) := hcw 0 _ rfl
      have d1 : wr.cell? ⟨g, o + k * 4 + 1, none⟩ = some (.string (tx d.n)) := hcw 1 _ rfl
      have d2 : wr.cell? ⟨g, o + k * 4 + 2, none⟩ = some (.slice d.sa d.sn d.sc) := hcw 2 _ rfl
      have d3 : wr.cell? ⟨g, o + k * 4 + 3, none⟩ = some (.slice d.ba d.bn d.bc) := hcw 3 _ rfl
      have t1 : (k : Int) < (ne : Int) := by omega
      have t1d : decide ((k : Int) < (ne : Int)) = true := by simpa using hlt
      have i1 : (k : Int) + 1 ≤ 9223372036854775807 := by omega
      have hzr : q ≤ wr.heap.size := by have := HB.out.size; have := HQ.out; omega
      have HBW := Lib.hid (show Below w.heap.size w wr from B2.out.trans (HB.out.mono hwq))
      have HWB := Lib.hid (bel2 wr (.cells #[.string (tx d.h), .string (tx d.n), .slice d.sa d.sn d.sc, .slice d.ba d.bn d.bc] 55) (.cells #[.string (tx d.n)] 9))
      have TB := Lib.hid ((B4.of (new_of wr (.cells #[.string (tx d.h), .string (tx d.n), .slice d.sa d.sn d.sc, .slice d.ba d.bn d.bc] 55))).next (bel1 _ (.cells #[.string (tx d.n)] 9)))
      have hzz : ((wr.alloc (.cells #[.string (tx d.h), .string (tx d.n), .slice d.sa d.sn d.sc, .slice d.ba d.bn d.bc] 55)).alloc (.cells #[.string (tx d.n)] 9)).heap.size = wr.heap.size + 1 + 1 := by rw [World.size_alloc, World.size_alloc]
      have HV1 := Lib.hid (show V1 ((wr.alloc (.cells #[.string (tx d.h), .string (tx d.n), .slice d.sa d.sn d.sc, .slice d.ba d.bn d.bc] 55)).alloc (.cells #[.string (tx d.n)] 9)) (some ⟨wr.heap.size + 1, 0, none⟩) 1 (txL [d.n]) from by
        have := litT (B := 0) (wr.alloc (.cells #[.string (tx d.h), .string (tx d.n), .slice d.sa d.sn d.sc, .slice d.ba d.bn d.bc] 55)) [d.n] (by simp)
        rw [World.size_alloc] at this
        exact this)
      have HW := Lib.hid (withNames_any HL.out ((wr.alloc (.cells #[.string (tx d.h), .string (tx d.n), .slice d.sa d.sn d.sc, .slice d.ba d.bn d.bc] 55)).alloc (.cells #[.string (tx d.n)] 9)) (HBW.out.trans (HWB.out.mono (by omega))) q hwq (by omega) (.slice va vl vc) (nms (F.take k)) (HO.out.next HWB.out) _ 1 1 [d.n] rfl HV1.out
        (fun _ g' o' e => by cases e; intro h; have := OT.low HO.out _ h; omega) (fun s hs => by simp at hs; subst hs; exact hr1) (by have := HNL.out k; omega))
      have HDV := Lib.hid hdv
      have HR23 := Lib.hid (And.intro hr2 hr3)
      have HDS := Lib.hid hds
      have HOLo := Lib.hid (fun g' (h : (Value.slice va vl vc).ownBlock = some g') => OT.low HO.out g' h)
      clear hcw hd hr hdn hds hdv hr1 hr2 hr3 hk hlt HV1
      go_wp2_with fail
      refine HW.out.mono ?_; rintro e w4 ⟨b4, m4, c4, rfl, o4, bl4, fr4⟩
      have O4 := Lib.hid o4
      have BL4 := Lib.hid bl4
      have T4 := Lib.hid (TB.out.same (fr4 wr.heap.size (by omega) (fun h => by have := HOLo.out _ h; omega)) (by
        have := bl4.size
        exact this))
      have B4w := Lib.hid (HB.out.trans ((HWB.out.mono hzr).trans bl4))
      have HBW4 := Lib.hid (show Below w.heap.size w w4 from B2.out.trans (B4w.out.mono hwq))
      have hz4 : q ≤ w4.heap.size := by have := bl4.size; omega
      have y2 : w4.cell? ⟨wr.heap.size, 2, none⟩ = some (.slice d.sa d.sn d.sc) := T4.out.c2
      have HW2 := Lib.hid (withNames_any HL.out w4 HBW4.out q hwq hz4 (.slice b4 m4 c4) _ O4.out d.sa d.sn d.sc r.2 HDS.out.symm (HDV.out.below HBW4.out)
        (fun h0 g' o' e h => by
          have h1 := OT.lt O4.out _ h
          obtain ⟨t, ht⟩ : ∃ t, r.2[0]? = some t := ⟨r.2[0]'(by have := HDS.out; omega), List.getElem?_eq_getElem _⟩
          obtain ⟨g2, o2, e2, hg2, -⟩ := HDV.out.tx ht
          rw [e] at e2; cases e2
          omega) (fun s hs => HR23.out.1 s hs) (by
          have h1 := HNL.out k
          have h2 := HR23.out.2
          have h3 := HDS.out
          have h4 := List.length_filter_le nmB [d.n]
          simp only [List.length_append, List.length_singleton] at h4 ⊢
          omega))
      clear o4 bl4 fr4 HW TB T4 HWB
      go_wp2_with fail
      refine HW2.out.mono ?_; rintro e w5 ⟨b5, m5, c5, rfl, o5, bl5, -⟩
      have O5 := Lib.hid o5
      have B5w := Lib.hid (B4w.out.trans bl5)
      clear o5 bl5 HW2
      go_wp2_with fail
      go_roundw
      case rel => exact ⟨k + 1, by omega, by go_num, by rw [HST.out]; exact O5.out, B5w.out⟩
      case measure => simp [intV]; omega
    · obtain rfl : k = ne := by omega
      have t1 : ¬ (k : Int) < (k : Int) := by omega
      have hzr : q ≤ wr.heap.size := by have := HB.out.size; have := HQ.out; omega
      have hkF : F.take k = F := by rw [HEL.out, List.take_length]
      have HSO := Lib.hid (sort_any HO.out (by have := HNL.out k; omega))
      rw [hkF] at HSO
      have HNF := Lib.hid (show (nms F).length ≤ 20000 from by have := HNL.out k; rwa [hkF] at this)
      clear hkF
      go_wp2_with fail
      refine HSO.out.mono ?_; rintro e w3 ⟨rfl, o3, bl3⟩
      have B3 := Lib.hid (bl3 hzr)
      have HCO := Lib.hid (compact_any o3 (by rw [List.length_mergeSort]; have := HNF.out; omega))
      clear bl3 o3 HSO
      go_wp2_with fail
      refine HCO.out.mono ?_; rintro e w6 ⟨b6, m6, c6, rfl, o6, bl6⟩
      have B6 := Lib.hid (bl6 (by have := B3.out.size; omega))
      have O6 := Lib.hid o6
      clear bl6 o6 HCO
      go_wp2_with fail
      go_ret
      refine ⟨_, rfl, ?_, B2.out.trans (((HB.out.trans B3.out).trans B6.out).mono hwq)⟩
      rw [HN.out, ← cpt_put]
      exact OT.mono O6.out hwq
end Go.Proofs.YtkhmbmcomgclaaaGreatDoor.Cl
