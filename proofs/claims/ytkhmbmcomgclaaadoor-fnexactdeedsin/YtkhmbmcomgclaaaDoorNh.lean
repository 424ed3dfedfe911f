/-
  Statements in one row: contract of impl.flattened at every depth; impl.DeedsIn.
-/
import Derived.Test.YtkhmbmcomgclaaaDoorNg
import Derived.Test.YtkhmbmcomgclaaaDoorLs
namespace Go.Proofs.YtkhmbmcomgclaaaDoor.Cl
open Go.RowKit Wd Rp Cu Kp
set_option linter.unusedVariables false
/-- The statements of a row read so: their names, their expressions. -/
def Alk (w0 : World) (es : List Dv) (F : List Rc) : Prop := es.length = F.length ∧ ∀ (k : Nat) (d : Dv) (r : Rc), es[k]? = some d → F[k]? = some r → d.n = r.1 ∧ d.sn = r.2.length ∧ V1 w0 d.sa d.sc (txL r.2)
theorem Alk.app {w0 : World} {es fs : List Dv} {F G : List Rc} (h : Alk w0 es F) (h2 : Alk w0 fs G) : Alk w0 (es ++ fs) (F ++ G) := by
  refine ⟨by rw [List.length_append, List.length_append, h.1, h2.1], fun k d r hd hr => ?_⟩
  rcases Nat.lt_or_ge k es.length with hk | hk
  · rw [List.getElem?_append_left hk] at hd
    rw [List.getElem?_append_left (by have := h.1; omega)] at hr
    exact h.2 k d r hd hr
  · rw [List.getElem?_append_right hk] at hd
    rw [List.getElem?_append_right (by have := h.1; omega), ← h.1] at hr
    exact h2.2 _ d r hd hr
theorem Alk.one {w0 : World} {d : Dv} {sm : List Tk} (h1 : d.sn = sm.length) (h2 : V1 w0 d.sa d.sc (txL sm)) : Alk w0 [d] [(d.n, sm)] := by
  refine ⟨rfl, fun k e r hd hr => ?_⟩
  cases k with
  | zero => simp at hd hr; subst hd; subst hr; exact ⟨rfl, h1, h2⟩
  | succ k => simp at hd
theorem Alk.nil (w0 : World) : Alk w0 [] [] := ⟨rfl, fun k d r hd => by simp at hd⟩
/-- Under way: a row of the call's own that reads so. -/
def FlI (w0 : World) (q : Nat) (w : World) (F : List Rc) (v : Value) (wr : World) : Prop := ∃ es, OwD q wr v es ∧ Alk w0 es F ∧ Below q w wr
/-- The contract of flattened. -/
def FltC (D : Nat) : Prop := ∀ (w0 : World) (K : Nat → Prop) (w : World) (a : Option Addr) (n c : Nat) (F : List Rc), DM w0 K w D (.slice a n c) F → F.length ≤ 1000000 →
  Calls Tryd.prog 33 #[.slice a n c] w fun e w' => ∃ b m k, e = .returned (.slice b m k) ∧ FlI w0 w.heap.size w F (.slice b m k) w'
theorem flat_take {α : Type} {fs : List (List α)} {k : Nat} {f : List α} (h : fs[k]? = some f) : (fs.take (k + 1)).flatten = (fs.take k).flatten ++ f := by
  rw [List.take_add_one, h]; simp
theorem flat_le {α : Type} {fs : List (List α)} (k : Nat) : (fs.take k).flatten.length ≤ fs.flatten.length := by
  have h : fs.flatten = (fs.take k).flatten ++ (fs.drop k).flatten := by rw [← List.flatten_append, List.take_append_drop]
  rw [h, List.length_append]; omega
set_option maxHeartbeats 8000000 in
set_option maxRecDepth 100000 in
theorem flat_step (D : Nat) (ih : FltC D) : FltC (D + 1) := by
  intro w0 K w a n c F hDM hF
  obtain ⟨ds, fs, how, hK, hlen, hel, rfl⟩ := hDM
  obtain ⟨a', c', e, hlc, hcm⟩ := how.form
  unfold maxLen at hcm
  cases e
  have IH := Lib.hid ih
  have HOW := Lib.hid how
  have HEL := Lib.hid hel
  have HLEN := Lib.hid hlen
  have HF := Lib.hid hF
  clear ih how hel hlen hF hK
  obtain ⟨n, hn⟩ : ∃ n, ds.length = n := ⟨_, rfl⟩
  rw [hn] at hlc HOW HLEN ⊢
  have HN := Lib.hid hn
  obtain ⟨q, hq⟩ : ∃ q, w.heap.size = q := ⟨_, rfl⟩
  rw [hq]
  have HQ := Lib.hid hq
  clear hn hq
  go_enter Tryd.func33, Tryd.ntmps33
  go_wp2_with fail
  go_loopw [3, 5, 7, 10, 21] (fun mv _ _ i _ wr => ∃ k : Nat, k ≤ n ∧ i = .int .i64 (k : Int) ∧ FlI w0 q w (fs.take k).flatten mv wr) (fun _ _ _ i _ _ => n - intV i)
  case atStart => exact ⟨0, Nat.zero_le _, rfl, [], OwD.nothing _ _, by simpa using Alk.nil w0, by rw [← HQ.out]; exact Below.refl _ _⟩
  case round =>
    obtain ⟨k, hk, rfl, es, ho, hal, hb⟩ := hrel
    have HO := Lib.hid ho
    have HAL := Lib.hid hal
    have HB := Lib.hid hb
    obtain ⟨va, vc, rfl, -, -⟩ := ho.form
    clear ho hal hb
    generalize hel : es.length = el at *
    by_cases hlt : k < n
    · obtain ⟨d, hd⟩ : ∃ d, ds[k]? = some d := ⟨ds[k]'(by have := HN.out; omega), List.getElem?_eq_getElem _⟩
      obtain ⟨f, hf⟩ : ∃ f, fs[k]? = some f := ⟨fs[k]'(by have := HLEN.out; omega), List.getElem?_eq_getElem _⟩
      obtain ⟨aa, ca, e, hvd⟩ := HOW.out.view
      rw [HN.out] at e
      cases e
      have hcell : ∃ g o, a = some ⟨g, o, none⟩ ∧ g < q ∧ ∀ j x, d.cells[j]? = some x → wr.cell? ⟨g, o + k * 4 + j, none⟩ = some x := by
        obtain ⟨g, o, e, hg, -⟩ := hvd.2.2.2 _ _ (flatD_get hd (j := 0) (x := .string (tx d.h)) rfl)
        refine ⟨g, o, e, by rw [← HQ.out]; exact hg, fun j x hj => ?_⟩
        obtain ⟨g', o', e', hg', hc'⟩ := hvd.2.2.2 _ _ (flatD_get hd hj)
        rw [e] at e'; cases e'
        rw [show o + k * 4 + j = o + (k * 4 + j) by omega]
        exact (World.cell?_of_block (w := w) (HB.out.block g (by rw [← HQ.out]; exact hg))).trans hc'
      obtain ⟨g, o, rfl, hg, hcw⟩ := hcell
      have d0 : wr.cell? ⟨g, o + k * 4, none⟩ = some (.string (tx d.h)) := hcw 0 _ rfl
      have d1 : wr.cell? ⟨g, o + k * 4 + 1, none⟩ = some (.string (tx d.n)) := hcw 1 _ rfl
      have d2 : wr.cell? ⟨g, o + k * 4 + 2, none⟩ = some (.slice d.sa d.sn d.sc) := hcw 2 _ rfl
      have d3 : wr.cell? ⟨g, o + k * 4 + 3, none⟩ = some (.slice d.ba d.bn d.bc) := hcw 3 _ rfl
      have HD := Lib.hid (HEL.out k d f hd hf)
      have HFT := Lib.hid (flat_take hf)
      have t1 : (k : Int) < (n : Int) := by omega
      have t1d : decide ((k : Int) < (n : Int)) = true := by simpa using hlt
      have i1 : (k : Int) + 1 ≤ 9223372036854775807 := by omega
      clear hcw hd hf hg hvd hk hlt hlc hcm hel
      have HWA := Lib.hid (bel1 wr (.cells #[.string (tx d.h), .string (tx d.n), .slice d.sa d.sn d.sc, .slice d.ba d.bn d.bc] 39))
      have HWB := Lib.hid (bel2 wr (.cells #[.string (tx d.h), .string (tx d.n), .slice d.sa d.sn d.sc, .slice d.ba d.bn d.bc] 39) (.cells #[.string (tx d.h), .string (tx d.n), .slice d.sa d.sn d.sc, .slice d.ba d.bn d.bc] 39))
      have O2 := Lib.hid (HO.out.same (fun g hg => HWB.out.block g (HO.out.low g hg)))
      have hzq : q ≤ ((wr.alloc (.cells #[.string (tx d.h), .string (tx d.n), .slice d.sa d.sn d.sc, .slice d.ba d.bn d.bc] 39)).alloc (.cells #[.string (tx d.h), .string (tx d.n), .slice d.sa d.sn d.sc, .slice d.ba d.bn d.bc] 39)).heap.size := by have := HB.out.size; have := HWB.out.size; have := HQ.out; omega
      have TB := Lib.hid ((B4.of (new_of wr (.cells #[.string (tx d.h), .string (tx d.n), .slice d.sa d.sn d.sc, .slice d.ba d.bn d.bc] 39))).next (bel1 _ (.cells #[.string (tx d.h), .string (tx d.n), .slice d.sa d.sn d.sc, .slice d.ba d.bn d.bc] 39)))
      have VL := Lib.hid (show VD ((wr.alloc (.cells #[.string (tx d.h), .string (tx d.n), .slice d.sa d.sn d.sc, .slice d.ba d.bn d.bc] 39)).alloc (.cells #[.string (tx d.h), .string (tx d.n), .slice d.sa d.sn d.sc, .slice d.ba d.bn d.bc] 39)) (some ⟨wr.heap.size + 1, 0, none⟩) 1 [d] from by
        have := litD (wr.alloc (.cells #[.string (tx d.h), .string (tx d.n), .slice d.sa d.sn d.sc, .slice d.ba d.bn d.bc] 39)) d
        rwa [World.size_alloc] at this)
      have hlen2 : es.length + 1 ≤ 10000000 := by
        have h1 := HAL.out.1
        have h2 := flat_le (fs := fs) k
        have := HF.out
        omega
      go_wp2_with (first
        | (at_builtin; refine append_deeds rfl (.tmp 14) (.tmp 16) rfl (base := q) (l := es) (m := [d]) rfl rfl rfl O2.out VL.out hlen2 hzq ?_; intro v3 w3 o3 g3 n3; have T3 : w3.cell? ⟨wr.heap.size, 3, none⟩ = some (.slice d.ba d.bn d.bc) := (World.cell?_of_block (g3.block wr.heap.size TB.out.lt (fun e => by have := HO.out.low _ e.symm; omega))).trans TB.out.c3; have G3 := Lib.hid (And.intro o3 (And.intro g3 n3)); clear o3 g3 n3)
        | fail)
      obtain ⟨sm, bs, gs, h1, h2, h3, h4, -, h6, h7, h8⟩ := HD.out
      have hw3 : Below q w w3 := by
        obtain ⟨o3, g3, n3⟩ := G3.out
        refine ((HB.out.trans (HWB.out.mono (by have := HB.out.size; have := HQ.out; omega)))).grown g3 hzq (fun g hg => HO.out.lt g hg)
      have S0 := Lib.hid (show FlI w0 q w ((fs.take k).flatten ++ ((d.n, sm) :: (gs.take 0).flatten)) v3 w3 from
        ⟨es ++ [d], G3.out.1, (HAL.out.app (Alk.one h1 h2)), hw3⟩)
      have HLE := Lib.hid (show ∀ j, ((fs.take k).flatten ++ ((d.n, sm) :: (gs.take j).flatten)).length ≤ 1000000 from fun j => by
        have e1 := flat_le (fs := fs) (k + 1)
        have e2 := HF.out
        have e3 := flat_le (fs := gs) j
        rw [HFT.out, h8, List.length_append, List.length_cons] at e1
        rw [List.length_append, List.length_cons]
        omega)
      have HBV := Lib.hid h4
      have HSUB := Lib.hid h7
      have HGL := Lib.hid h6
      have HF8 := Lib.hid h8
      obtain ⟨bn, hbn⟩ : ∃ bn, bs.length = bn := ⟨_, rfl⟩
      have HBN := Lib.hid hbn
      have hdbn : d.bn = bn := h3.trans hbn
      rw [hbn] at HGL
      clear h1 h2 h3 h4 h6 h7 h8 hw3 hbn G3 T3 HO HAL O2 TB VL HWA HWB hzq hlen2 HB d0 d1 d2 d3
      obtain ⟨dba, hdba⟩ : ∃ x, d.ba = x := ⟨_, rfl⟩
      obtain ⟨dbc, hdbc⟩ : ∃ x, d.bc = x := ⟨_, rfl⟩
      rw [hdba, hdbc] at HBV
      rw [hdba, hdbc, hdbn]
      clear hdba hdbc hdbn
      generalize wr.heap.size = t
      go_loopw [3, 7, 21] (fun mv _ i wr => ∃ j : Nat, j ≤ bn ∧ i = .int .i64 (j : Int) ∧ FlI w0 q w ((fs.take k).flatten ++ ((d.n, sm) :: (gs.take j).flatten)) mv wr) (fun _ _ i _ => bn - intV i)
      case atStart => exact ⟨0, Nat.zero_le _, rfl, S0.out⟩
      case round =>
        obtain ⟨j, hj, rfl, es1, ho, hal, hb⟩ := hrel
        have HO := Lib.hid ho
        have HAL := Lib.hid hal
        have HB := Lib.hid hb
        obtain ⟨va1, vc1, rfl, -, -⟩ := ho.form
        clear ho hal hb S0
        generalize hel1 : es1.length = el1 at *
        by_cases hjl : j < bn
        · obtain ⟨b, hb⟩ : ∃ b, bs[j]? = some b := ⟨bs[j]'(by have := HBN.out; omega), List.getElem?_eq_getElem _⟩
          obtain ⟨gj, hgj⟩ : ∃ f, gs[j]? = some f := ⟨gs[j]'(by have := HGL.out; omega), List.getElem?_eq_getElem _⟩
          have HGJ := Lib.hid hgj
          have HFT2 := Lib.hid (flat_take hgj)
          have hle := HLE.out (j + 1)
          rw [HFT2.out, List.length_append, List.length_cons, List.length_append] at hle
          have hsub := HSUB.out j b gj hb hgj
          obtain ⟨gb, ob, e, hgb, hcb⟩ := HBV.out.2.2.2 j b hb
          have c0 := (World.cell?_of_block (w := w) (HB.out.block gb (by rw [← HQ.out]; exact hgb))).trans hcb
          have hbs : ∃ b1 b2 b3, b = .slice b1 b2 b3 := by
            cases D with
            | zero => cases hsub
            | succ D =>
              obtain ⟨ds', fs', ho', -⟩ := hsub
              obtain ⟨x, y, e, -⟩ := ho'.form
              exact ⟨x, _, y, e⟩
          obtain ⟨b1, b2, b3, rfl⟩ := hbs
          have hq2 := HQ.out
          have HC := Lib.hid (IH.out w0 K wr b1 b2 b3 gj (DM.keep (w' := wr) HB.out.size (fun g hK hg => HB.out.block g (by omega)) (fun g h _ => h) D _ _ hsub) (by omega))
          have t2 : (j : Int) < (bn : Int) := by omega
          have t2d : decide ((j : Int) < (bn : Int)) = true := by simpa using hjl
          have i2 : (j : Int) + 1 ≤ 9223372036854775807 := by
            have h1 := HBV.out.1
            have h2 := HBV.out.2.1
            have := HBN.out
            unfold maxLen at h2
            omega
          have hl1 := HAL.out.1
          rw [List.length_append, List.length_cons, hel1] at hl1
          subst e
          clear hsub hcb hgb hb hgj hj hjl hq2 HF8
          go_wp2_with fail
          refine HC.out.mono ?_; rintro e w4 ⟨b4, m4, k4, rfl, es2, o4, al4, bl4⟩
          have O4 := Lib.hid (HO.out.same (fun g hg => bl4.block g (HO.out.low g hg)))
          obtain ⟨a4, c4, e4, v4⟩ := o4.view
          cases e4
          have V4 := Lib.hid v4
          have AL4 := Lib.hid al4
          have B4' := Lib.hid (bel_tr HB.out bl4 (by have := HB.out.size; have := HQ.out; omega))
          have hzq : q ≤ w4.heap.size := by have := B4'.out.size; have := HQ.out; omega
          have hl2 : es1.length + es2.length ≤ 10000000 := by have := al4.1; omega
          clear o4 al4 bl4 v4 HC hle hl1
          go_wp2_with (first
            | (at_builtin; refine append_deeds rfl (.tmp 25) (.tmp 27) rfl (base := q) (l := es1) (m := es2) rfl rfl rfl O4.out V4.out hl2 hzq ?_; intro v5 w5 o5 g5 n5; have G5 := Lib.hid (And.intro o5 (And.intro g5 n5)); clear o5 g5 n5)
            | fail)
          go_roundw
          case rel =>
            refine ⟨j + 1, by omega, by go_num, es1 ++ es2, G5.out.1, ?_, B4'.out.grown G5.out.2.1 hzq (fun g hg => O4.out.lt g hg)⟩
            have := HAL.out.app AL4.out
            rw [HFT2.out]
            simpa using this
          case measure => simp [intV]; omega
        · obtain rfl : j = bn := by omega
          have t2 : ¬ (j : Int) < (j : Int) := by omega
          go_wp2_with fail
          go_roundw
          case rel =>
            refine ⟨k + 1, by omega, by go_num, es1, HO.out, ?_, HB.out⟩
            have := HAL.out
            rw [HGL.out, List.take_length] at this
            rw [HFT.out, HF8.out]
            exact this
          case measure => simp [intV]; omega
    · obtain rfl : k = n := by omega
      have t1 : ¬ (k : Int) < (k : Int) := by omega
      go_wp2_with fail
      go_ret
      refine ⟨va, el, vc, rfl, es, HO.out, ?_, HB.out⟩
      have := HAL.out
      rw [HLEN.out, List.take_length] at this
      exact this
theorem flat_all : ∀ D : Nat, FltC D
  | 0 => fun w0 K w a n c F h => by cases h
  | D + 1 => flat_step D (flat_all D)
theorem scr_len {l : List Tk} {i : Int} {F : List Rc} (h : ScR l i F) : (F.length : Int) ≤ l.length - i := by
  induction h with
  | fin => simp
  | br h _ hr ih => omega
  | set h _ hn hr ih => have := sm_ahead hn; rw [List.length_cons]; omega
  | cut h _ hr ih => rw [List.length_cons]; omega
  | stop h hr ih => rw [List.length_cons]; omega
  | iw h _ hn hr ih => have := sm_ahead hn; rw [List.length_cons]; omega
theorem rcR_len {l : List Tk} (h : rcB l = true) : (rcR l).length ≤ 120 := by
  have h1 := scr_len (rcB_scr h)
  have h2 := ((Bool.and_eq_true _ _).mp ((rcB_dl l).symm.trans h)).1
  have := of_decide_eq_true h2
  omega
set_option maxHeartbeats 1000000 in
set_option maxRecDepth 100000 in
theorem implDeedsIn_any (w : World) (a : Option Addr) (cap : Nat) (l : List Tk) (n : Nat) (hn : l.length = n) (hv : V1 w a cap (txL l)) (hl : n ≤ 4194304) (hm : ∀ s ∈ l, s.length ≤ 4194304) (hL : Lib3 w) :
    Calls Tryd.prog 22 #[.slice a n cap] w (GivesI (dnR l) w) := by
  have HD := Lib.hid (deedsOf_any w a cap l n hn hv hl hm hL)
  have HN := Lib.hid (dn_is l)
  have HR := Lib.hid (fun h => rcR_len (l := l) h)
  clear hv hm hL
  generalize dnR l = r at *
  generalize rcB l = q at *
  generalize rcR l = F at *
  go_enter Tryd.func22, Tryd.ntmps22
  go_wp2_with fail
  refine HD.out.mono ?_; rintro e w1 ⟨b, m, c, rfl, b1, m1⟩
  have B1 := Lib.hid b1
  have M1 := Lib.hid m1
  clear b1 m1
  cases q
  · go_wp2_with fail
    go_ret
    exact ⟨by rw [HN.out]; rfl, B1.out⟩
  · have hr := HR.out rfl
    have HC := Lib.hid (flat_all 6 w (w.heap.size ≤ ·) w1 b m c F (M1.out rfl) (by omega))
    have HN' := Lib.hid (HN.out.trans (if_pos rfl))
    clear hr
    go_wp2_with fail
    refine HC.out.mono ?_; rintro e w2 ⟨b2, m2, c2, rfl, es, ho, hal, bl⟩
    have B2 := Lib.hid (bel_tr B1.out bl (Nat.le_refl _))
    have hm2 : m2 = F.length := by
      obtain ⟨x, y, e, -⟩ := ho.form
      cases e
      exact hal.1
    clear ho hal bl
    go_wp2_with fail
    go_ret
    exact ⟨by rw [HN'.out]; rfl, B2.out⟩
end Go.Proofs.YtkhmbmcomgclaaaDoor.Cl
