/-
  The contracts of impl.PutBarn and spec.PutBarn: 'pbH', 'pbS', 'pbB'.
  The contract of spec.PutBarn: 'pbH', 'pbS', 'pbB'.
-/
import Derived.Test.YtkkpokfekbdigaaWa
import Derived.Test.YtkkpokfekbdigaaCn
import Derived.Test.YtkkpokfekbdigaaRe
namespace Go.Proofs.Ytkkpokfekbdigaa.Cl
open Go.RowKit Wd Rp Kp Ra
set_option linter.unusedVariables false
/-- What PutBarn gives. -/
def pbH (h : List Cel) (ss : List (List Cel)) (c : Cel) : List Cel := if okB h ss then (putQ h c).1 else []
def pbS (h : List Cel) (ss : List (List Cel)) : List (List Cel) := if okB h ss then ss else []
def pbB (h : List Cel) (ss : List (List Cel)) (c : Cel) : Bool := if okB h ss then (putQ h c).2 else false
def PbPost (h' : List Cel) (ss' : List (List Cel)) (b : Bool) (w : World) (e : Ending) (w' : World) : Prop := ∃ hv sv, e = .returned (.tuple #[.agg #[hv, sv], .bool b]) ∧ OwB w.heap.size w' hv sv h' ss' ∧ Below w.heap.size w w'
theorem putP_Q {h : List Cel} {c : Cel} (hk : okL h = true) : putP h c = putQ h c := by unfold putP putQ; rw [hk]; rfl
theorem OwT.hand {B T C : Nat} {w : World} {hv sv v' : Value} {h h' : List Cel} {ss : List (List Cel)} (o : OwT B T w hv sv h ss) (ov : OwC C w v' h') (hB : B ≤ C) (hT : T ≤ C) : OwB B w v' sv h' ss := by
  obtain ⟨us, h1, h2, h3⟩ := o
  refine OwB.mk (ov.mono hB) h1 ⟨by have := h2.1; simpa using this, fun j u l k1 k2 => h2.2.1 (j + 1) u l (by simpa using k1) (by simpa using k2), (List.pairwise_cons.1 h2.2.2).2⟩ (fun x hx k hk e => ?_)
  have a1 := OwC.lt ov k hk
  have a2 := h3 x (by simp [hx]) k e
  omega
theorem OwB.nothing (B : Nat) (w : World) : OwB B w (.slice none 0 0) (.slice none 0 0) [] [] := OwB.mk (OwC.nothing _ _) (RowS.nothing _ _) ⟨rfl, fun j u l h1 => by simp at h1, List.Pairwise.nil⟩ (fun x hx => by cases hx)
/-- The three blocks of PutBarn: the store, the cell, the result. -/
def PbF (q : Nat) (u v : Value) (c : Cel) (w : World) : Prop := Bb q u v w ∧ Cb (q + 1) c w ∧ Bb (q + 2) (.slice none 0 0) (.slice none 0 0) w
theorem PbF.next {q : Nat} {u v : Value} {c : Cel} {w w' : World} (h : PbF q u v c w) (hb : Below w.heap.size w w') : PbF q u v c w' := ⟨h.1.next hb, h.2.1.next hb, h.2.2.next hb⟩
theorem PbF.made (u v : Value) (c : Cel) (w : World) : PbF w.heap.size u v c (((w.alloc (.cells #[u, v] 45)).alloc (.cells #[.string c.r, .string c.b, .int .i64 c.t, .int .i64 c.v, .bool c.g] 28)).alloc (.cells #[.slice none 0 0, .slice none 0 0] 45)) := by
  refine ⟨(Bb.made u v w _).next (bel2 _ _ _), ?_, ?_⟩
  · have := (Cb.made c (w.alloc (.cells #[u, v] 45)) 28).next (bel1 _ (.cells #[.slice none 0 0, .slice none 0 0] 45))
    rwa [World.size_alloc] at this
  · have := Bb.made (.slice none 0 0) (.slice none 0 0) ((w.alloc (.cells #[u, v] 45)).alloc (.cells #[.string c.r, .string c.b, .int .i64 c.t, .int .i64 c.v, .bool c.g] 28)) 45
    rwa [World.size_alloc, World.size_alloc] at this
theorem pb_end {q O : Nat} {u v hv sv : Value} {c : Cel} {h : List Cel} {ss : List (List Cel)} {w z : World} (hq : w.heap.size = q) (f : PbF q u v c z) (o : OwB (q + 3) z hv sv h ss) (hb : Below q w z) :
    ((z.setCell ⟨q + 2, 0, none⟩ hv).setCell ⟨q + 2, 1, none⟩ sv).cell? ⟨q + 2, 0, none⟩ = some hv ∧ ((z.setCell ⟨q + 2, 0, none⟩ hv).setCell ⟨q + 2, 1, none⟩ sv).cell? ⟨q + 2, 1, none⟩ = some sv ∧ OwB w.heap.size ((z.setCell ⟨q + 2, 0, none⟩ hv).setCell ⟨q + 2, 1, none⟩ sv) hv sv h ss ∧ Below w.heap.size w ((z.setCell ⟨q + 2, 0, none⟩ hv).setCell ⟨q + 2, 1, none⟩ sv) := by
  subst hq
  have k := (f.2.2.set0 hv).set1 sv
  refine ⟨k.1, k.2.1, ((o.put (p := ⟨w.heap.size + 2, 0, none⟩) (by show w.heap.size + 2 < w.heap.size + 3; omega) _).put (p := ⟨w.heap.size + 2, 1, none⟩) (by show w.heap.size + 2 < w.heap.size + 3; omega) _).mono (by omega), ?_⟩
  exact (hb.setCell (p := ⟨w.heap.size + 2, 0, none⟩) (by show w.heap.size ≤ w.heap.size + 2; omega) _).setCell (p := ⟨w.heap.size + 2, 1, none⟩) (by show w.heap.size ≤ w.heap.size + 2; omega) _
set_option maxRecDepth 100000 in
set_option maxHeartbeats 2000000 in
theorem implPutB_any (w : World) (a sa : Option Addr) (c sc n sn : Nat) (h : List Cel) (hs : List Hd) (ss : List (List Cel)) (x : Cel) (hn : h.length = n) (hsn : ss.length = sn) (hv : Vw w a c h) (hvs : VwS w sa sc hs ss) (hlow : Low h ss) :
    Calls Try.prog 53 #[.agg #[.slice a n c, .slice sa sn sc], .agg #[.string x.r, .string x.b, .int .i64 x.t, .int .i64 x.v, .bool x.g]] w (PbPost (pbH h ss x) (pbS h ss) (pbB h ss x) w) := by
  have HV := Lib.hid hv; clear hv
  have HVS := Lib.hid hvs; clear hvs
  have HLOW := Lib.hid hlow; clear hlow
  have HN := Lib.hid (And.intro hn hsn); clear hn hsn
  have H0 := Lib.hid (bel3 w (.cells #[.slice a n c, .slice sa sn sc] 45) (.cells #[.string x.r, .string x.b, .int .i64 x.t, .int .i64 x.v, .bool x.g] 28) (.cells #[.slice none 0 0, .slice none 0 0] 45))
  have F0 := Lib.hid (PbF.made (.slice a n c) (.slice sa sn sc) x w)
  have hz0 : (((w.alloc (.cells #[.slice a n c, .slice sa sn sc] 45)).alloc (.cells #[.string x.r, .string x.b, .int .i64 x.t, .int .i64 x.v, .bool x.g] 28)).alloc (.cells #[.slice none 0 0, .slice none 0 0] 45)).heap.size = w.heap.size + 3 := by simp
  cases hok : okB h ss
  · have HP := Lib.hid (show pbH h ss x = [] ∧ pbS h ss = [] ∧ pbB h ss x = false by unfold pbH pbS pbB; rw [hok]; exact ⟨rfl, rfl, rfl⟩)
    have HB := Lib.hid (barnI_is hok _ a sa c sc n sn hs HN.out.1 HN.out.2 (HV.out.below H0.out) (HVS.out.below H0.out) HLOW.out); clear hok
    go_enter Try.func53, Try.ntmps53
    go_wp2_with fail
    refine HB.out.mono ?_; rintro e w1 ⟨rfl, b1⟩
    have F1 := Lib.hid (F0.out.next b1)
    have B1 := Lib.hid (bel_tr H0.out b1 (Nat.le_refl _)); clear b1
    have E1 := Lib.hid (pb_end (O := 0) rfl F1.out (OwB.nothing _ _) B1.out)
    obtain ⟨-, -, ⟨r0, r1, r2, r3, -⟩⟩ := id F1.out
    go_wp2_with fail
    refine bodyPost_ret (v := .tuple #[.agg #[.slice none 0 0, .slice none 0 0], .bool false]) (by simp [results, Try.results53, go_sem, r0, r1]) rfl ⟨_, _, by rw [HP.out.2.2], by rw [HP.out.1, HP.out.2.1]; exact E1.out.2.2.1, E1.out.2.2.2⟩
  · have HOK := Lib.hid hok
    have hsn5 : sn ≤ 5 := by rw [← HN.out.2]; exact (okB_iff.1 hok).2.1
    have hn2 : n ≤ 200 := by rw [← HN.out.1]; exact (okB_tot hok).1
    have HP := Lib.hid (show pbH h ss x = (putP h x).1 ∧ pbS h ss = ss ∧ pbB h ss x = (putP h x).2 by unfold pbH pbS pbB; rw [hok, putP_Q (okB_iff.1 hok).1]; exact ⟨rfl, rfl, rfl⟩)
    have HB := Lib.hid (barnI_is hok _ a sa c sc n sn hs HN.out.1 HN.out.2 (HV.out.below H0.out) (HVS.out.below H0.out) HLOW.out); clear hok
    go_enter Try.func53, Try.ntmps53
    go_wp2_with fail
    refine HB.out.mono ?_; rintro e w1 ⟨rfl, b1⟩
    have F1 := Lib.hid (F0.out.next b1)
    have z1 : w.heap.size + 3 ≤ w1.heap.size := by have := b1.size; omega
    have B1 := Lib.hid (bel_tr H0.out b1 (Nat.le_refl _)); clear b1 HB
    obtain ⟨⟨x0, x1, -, -, -⟩, -⟩ := id F1.out
    go_wp2_with fail
    refine (copyOfBarn_any w1 a sa c sc n sn h hs ss HN.out.1 HN.out.2 (HV.out.below B1.out) (HVS.out.below B1.out) HLOW.out (by omega)).mono ?_; rintro e w2 ⟨hv, sv, rfl, o2, b2⟩
    have F2 := Lib.hid ((F1.out.next b2).next (bel1 w2 (.cells #[hv, sv] 45)))
    have O2 := Lib.hid (o2.top.next (bel1 w2 (.cells #[hv, sv] 45)))
    have M2 := Lib.hid (Bb.made hv sv w2 45)
    have B2 := Lib.hid (bel_tr (bel_tr B1.out b2 (Nat.le_refl _)) (bel1 w2 (.cells #[hv, sv] 45)) (Nat.le_refl _))
    have z2 := b2.size
    have hz2 : (w2.alloc (.cells #[hv, sv] 45)).heap.size = w2.heap.size + 1 := by simp
    obtain ⟨va, vc, sva, svc, hs2, rfl, rfl, -, -⟩ := o2.view
    clear o2 b2 x0 x1
    obtain ⟨⟨x0, x1, -, -, -⟩, ⟨⟨c0, c1, c2, c3, c4⟩, -, -⟩, -⟩ := id F2.out
    have HPU := Lib.hid (implPut_any _ a c h x n HN.out.1 (HV.out.below B2.out) (by omega))
    generalize h.length = hl at *
    generalize ss.length = sl at *
    go_wp2_with fail
    refine HPU.out.mono ?_; rintro e w3 ⟨v3, rfl, o3, b3⟩
    have F3 := Lib.hid (F2.out.next b3)
    have M3 := Lib.hid (M2.out.next b3)
    have O3 := Lib.hid (O2.out.next b3)
    have B3 := Lib.hid (bel_tr B2.out b3 (Nat.le_refl _))
    have H3 := Lib.hid o3
    obtain ⟨v3a, v3c, rfl, -, -⟩ := o3.view
    clear o3 b3 x0 x1 c0 c1 c2 c3 c4 F2 M2 O2
    generalize (putP h x).1.length = pl at *
    generalize hpb : (putP h x).2 = pb at *
    have HPB := Lib.hid hpb; clear hpb
    have EE := Lib.hid (pb_end (O := 0) (u := .slice a n c) (v := .slice sa sn sc) (c := x) (h := (putP h x).1) (ss := ss) (z := w3.setCell ⟨w2.heap.size, 0, none⟩ (.slice v3a pl v3c)) (hv := .slice v3a pl v3c) (sv := .slice sva sl svc) rfl
      ⟨F3.out.1.put (by show w2.heap.size ≠ w.heap.size; omega) _, F3.out.2.1.same (Below.heap_setCell _ _ _ _ (by show w.heap.size + 1 ≠ w2.heap.size; omega)), F3.out.2.2.put (by show w2.heap.size ≠ w.heap.size + 2; omega) _⟩
      (OwB.mono (OwT.hand (O3.out.ins (Ins.of_grown (lo := w2.heap.size) (hi := w2.heap.size + 1) (grown_set (g := w2.heap.size) (o := 0) (v := .slice v3a pl v3c)) (fun k hk => by cases hk; omega)) (Or.inl (Nat.le_refl _))) (OwC.put (p := ⟨w2.heap.size, 0, none⟩) H3.out (by show w2.heap.size < _; rw [hz2]; omega) _) (by rw [hz2]; omega) (by rw [hz2]; omega)) (by omega))
      (B3.out.setCell (p := ⟨w2.heap.size, 0, none⟩) (by show w.heap.size ≤ w2.heap.size; omega) _))
    obtain ⟨m0, m1, m2, m3, -⟩ := id M3.out
    obtain ⟨-, -, ⟨r0, r1, r2, r3, -⟩⟩ := id F3.out
    go_wp2_with fail
    change bodyPost Try.prog Try.f53 _ .ret _ (((w3.setCell ⟨w2.heap.size, 0, none⟩ (.slice v3a pl v3c)).setCell ⟨w.heap.size + 2, 0, none⟩ (.slice v3a pl v3c)).setCell ⟨w.heap.size + 2, 1, none⟩ (.slice sva sl svc))
    generalize ((w3.setCell ⟨w2.heap.size, 0, none⟩ (.slice v3a pl v3c)).setCell ⟨w.heap.size + 2, 0, none⟩ (.slice v3a pl v3c)).setCell ⟨w.heap.size + 2, 1, none⟩ (.slice sva sl svc) = Z at *
    clear m0 m1 m2 m3 r0 r1 r2 r3
    have e1 : Z.cell? ⟨w.heap.size + 1 + 1, 0, none⟩ = some (.slice v3a pl v3c) := EE.out.1
    have e2 : Z.cell? ⟨w.heap.size + 1 + 1, 1, none⟩ = some (.slice sva sl svc) := EE.out.2.1
    refine bodyPost_ret (v := .tuple #[.agg #[.slice v3a pl v3c, .slice sva sl svc], .bool pb]) (by simp [results, Try.results53, go_sem, e1, e2]) rfl ⟨_, _, by rw [HP.out.2.2], by rw [HP.out.1, HP.out.2.1]; exact EE.out.2.2.1, EE.out.2.2.2⟩
end Go.Proofs.Ytkkpokfekbdigaa.Cl
namespace Go.Proofs.Ytkkpokfekbdigaa.Cl
open Go.RowKit Wd Rp Kp Ra
set_option linter.unusedVariables false
theorem kept_ins {O : Nat} {w w' : World} (h : Kept (fun k => k = O) none w w') : Ins O (O + 1) w w' := ⟨h.os, h.tape, h.output, h.size, fun k hk hb => h.block k hk (fun e => by have : k = O := e; omega) (by simp)⟩
theorem PbF.kept {q O : Nat} {u v : Value} {c : Cel} {w w' : World} (f : PbF q u v c w) (h : Kept (fun k => k = O) none w w') (hO : q + 2 < O) : PbF q u v c w' := by
  have key : ∀ k, k < w.heap.size → k ≤ q + 2 → w'.heap[k]? = w.heap[k]? := fun k hk hq => h.block k hk (fun e => by have : k = O := e; omega) (by simp)
  exact ⟨f.1.same' (key _ f.1.2.2.2.2 (by omega)), f.2.1.same (key _ f.2.1.2.2 (by omega)), f.2.2.same' (key _ f.2.2.2.2.2.2 (by omega))⟩
set_option maxRecDepth 100000 in
set_option maxHeartbeats 2000000 in
theorem specPutB_any (w : World) (a sa : Option Addr) (c sc n sn : Nat) (h : List Cel) (hs : List Hd) (ss : List (List Cel)) (x : Cel) (hn : h.length = n) (hsn : ss.length = sn) (hv : Vw w a c h) (hvs : VwS w sa sc hs ss) (hlow : Low h ss) (hmod : Mod h ss) (hxm : x.mod) :
    Calls Try.prog 52 #[.agg #[.slice a n c, .slice sa sn sc], .agg #[.string x.r, .string x.b, .int .i64 x.t, .int .i64 x.v, .bool x.g]] w (PbPost (pbH h ss x) (pbS h ss) (pbB h ss x) w) := by
  have HV := Lib.hid hv; clear hv
  have HVS := Lib.hid hvs; clear hvs
  have HLM := Lib.hid (And.intro hlow hmod); clear hlow hmod
  have HN := Lib.hid (And.intro hn hsn); clear hn hsn
  have H0 := Lib.hid (bel3 w (.cells #[.slice a n c, .slice sa sn sc] 45) (.cells #[.string x.r, .string x.b, .int .i64 x.t, .int .i64 x.v, .bool x.g] 28) (.cells #[.slice none 0 0, .slice none 0 0] 45))
  have F0 := Lib.hid (PbF.made (.slice a n c) (.slice sa sn sc) x w)
  have hz0 : (((w.alloc (.cells #[.slice a n c, .slice sa sn sc] 45)).alloc (.cells #[.string x.r, .string x.b, .int .i64 x.t, .int .i64 x.v, .bool x.g] 28)).alloc (.cells #[.slice none 0 0, .slice none 0 0] 45)).heap.size = w.heap.size + 3 := by simp
  cases hok : okB h ss
  · have HP := Lib.hid (show pbH h ss x = [] ∧ pbS h ss = [] ∧ pbB h ss x = false by unfold pbH pbS pbB; rw [hok]; exact ⟨rfl, rfl, rfl⟩)
    have HB := Lib.hid (barnS_is hok _ a sa c sc n sn hs HN.out.1 HN.out.2 (HV.out.below H0.out) (HVS.out.below H0.out) HLM.out.1 HLM.out.2); clear hok
    go_enter Try.func52, Try.ntmps52
    go_wp2_with fail
    refine HB.out.mono ?_; rintro e w1 ⟨rfl, b1⟩
    have F1 := Lib.hid (F0.out.next b1)
    have B1 := Lib.hid (bel_tr H0.out b1 (Nat.le_refl _)); clear b1
    have E1 := Lib.hid (pb_end (O := 0) rfl F1.out (OwB.nothing _ _) B1.out)
    obtain ⟨-, -, ⟨r0, r1, r2, r3, -⟩⟩ := id F1.out
    go_wp2_with fail
    refine bodyPost_ret (v := .tuple #[.agg #[.slice none 0 0, .slice none 0 0], .bool false]) (by simp [results, Try.results52, go_sem, r0, r1]) rfl ⟨_, _, by rw [HP.out.2.2], by rw [HP.out.1, HP.out.2.1]; exact E1.out.2.2.1, E1.out.2.2.2⟩
  · have hsn5 : sn ≤ 5 := by rw [← HN.out.2]; exact (okB_iff.1 hok).2.1
    have hl2 : h.length ≤ 200 := (okB_tot hok).1
    have HP := Lib.hid (show pbH h ss x = (putQ h x).1 ∧ pbS h ss = ss ∧ pbB h ss x = (putQ h x).2 by unfold pbH pbS pbB; rw [hok]; exact ⟨rfl, rfl, rfl⟩)
    have HB := Lib.hid (barnS_is hok _ a sa c sc n sn hs HN.out.1 HN.out.2 (HV.out.below H0.out) (HVS.out.below H0.out) HLM.out.1 HLM.out.2); clear hok
    go_enter Try.func52, Try.ntmps52
    go_wp2_with fail
    refine HB.out.mono ?_; rintro e w1 ⟨rfl, b1⟩
    have F1 := Lib.hid (F0.out.next b1)
    have z1 : w.heap.size + 3 ≤ w1.heap.size := by have := b1.size; omega
    have B1 := Lib.hid (bel_tr H0.out b1 (Nat.le_refl _)); clear b1 HB
    obtain ⟨⟨x0, x1, -, -, -⟩, -⟩ := id F1.out
    go_wp2_with fail
    refine (l6Copy_any w1 a sa c sc n sn h hs ss HN.out.1 HN.out.2 (HV.out.below B1.out) (HVS.out.below B1.out) HLM.out.1 (by omega)).mono ?_; rintro e w2 ⟨hv, sv, rfl, o2, b2⟩
    have F2 := Lib.hid ((F1.out.next b2).next (bel1 w2 (.cells #[hv, sv] 45)))
    have O2 := Lib.hid (o2.top.next (bel1 w2 (.cells #[hv, sv] 45)))
    have M2 := Lib.hid (Bb.made hv sv w2 45)
    have B2 := Lib.hid (bel_tr (bel_tr B1.out b2 (Nat.le_refl _)) (bel1 w2 (.cells #[hv, sv] 45)) (Nat.le_refl _))
    have z2 := b2.size
    have hz2 : (w2.alloc (.cells #[hv, sv] 45)).heap.size = w2.heap.size + 1 := by simp
    obtain ⟨va, vc, sva, svc, hs2, rfl, rfl, hvv, -⟩ := o2.view
    have HPU := Lib.hid (l6Put_any _ w2.heap.size va h.length vc (.slice sva ss.length svc) h x M2.out rfl (hvv.below (bel1 _ _)) hl2 hxm)
    clear o2 b2 x0 x1 hvv
    obtain ⟨-, ⟨⟨c0, c1, c2, c3, c4⟩, -, -⟩, -⟩ := id F2.out
    generalize h.length = hl at *
    generalize ss.length = sl at *
    go_wp2_with fail
    refine HPU.out.mono ?_; rintro e w3 ⟨rfl, k3, v3, m3, d3⟩
    have F3 := Lib.hid (F2.out.kept k3 (by omega))
    have O3 := Lib.hid (O2.out.ins (kept_ins k3) (Or.inl (Nat.le_refl _)))
    have B3 := Lib.hid ((kept_ins k3).bel B2.out (by omega) (by rw [hz2]; omega))
    have OO := Lib.hid (show OwB (w.heap.size + 3) w3 v3 (.slice sva sl svc) (putQ h x).1 ss from by
      rcases d3 with ⟨e1, e2⟩ | d3
      · rw [e1, e2]; exact O3.out.own.mono (by omega)
      · exact (OwT.hand O3.out d3 (by rw [hz2]; omega) (by rw [hz2]; omega)).mono (by omega))
    have M3 := Lib.hid m3
    obtain ⟨v3a, v3n, v3c, rfl⟩ : ∃ a n c, v3 = .slice a n c := by
      obtain ⟨a1, c1, -, -, -, e1, -, -, -⟩ := OO.out.view
      exact ⟨_, _, _, e1⟩
    clear k3 m3 d3 c0 c1 c2 c3 c4 F2 M2 O2 HPU
    have EE := Lib.hid (pb_end (O := 0) rfl F3.out OO.out B3.out)
    obtain ⟨m0, m1, m2, m3, -⟩ := id M3.out
    obtain ⟨-, -, ⟨r0, r1, r2, r3, -⟩⟩ := id F3.out
    generalize (putQ h x).2 = pb at *
    go_wp2_with fail
    change bodyPost Try.prog Try.f52 _ .ret _ ((w3.setCell ⟨w.heap.size + 2, 0, none⟩ (.slice v3a v3n v3c)).setCell ⟨w.heap.size + 2, 1, none⟩ (.slice sva sl svc))
    generalize (w3.setCell ⟨w.heap.size + 2, 0, none⟩ (.slice v3a v3n v3c)).setCell ⟨w.heap.size + 2, 1, none⟩ (.slice sva sl svc) = Z at *
    clear m0 m1 m2 m3 r0 r1 r2 r3
    have e1 : Z.cell? ⟨w.heap.size + 1 + 1, 0, none⟩ = some (.slice v3a v3n v3c) := EE.out.1
    have e2 : Z.cell? ⟨w.heap.size + 1 + 1, 1, none⟩ = some (.slice sva sl svc) := EE.out.2.1
    refine bodyPost_ret (v := .tuple #[.agg #[.slice v3a v3n v3c, .slice sva sl svc], .bool pb]) (by simp [results, Try.results52, go_sem, e1, e2]) rfl ⟨_, _, by rw [HP.out.2.2], by rw [HP.out.1, HP.out.2.1]; exact EE.out.2.2.1, EE.out.2.2.2⟩
theorem specPutO {B : Nat} {hv sv : Value} {h : List Cel} {ss : List (List Cel)} (x : Cel) (w : World) (o : OwB B w hv sv h ss) (hlow : Low h ss) (hmod : Mod h ss) (hxm : x.mod) :
    Calls Try.prog 52 #[.agg #[hv, sv], .agg #[.string x.r, .string x.b, .int .i64 x.t, .int .i64 x.v, .bool x.g]] w (PbPost (pbH h ss x) (pbS h ss) (pbB h ss x) w) := by
  obtain ⟨a, c, sa, sc, hs, rfl, rfl, h1, h2⟩ := o.view
  exact specPutB_any w a sa c sc _ _ h hs ss x rfl rfl h1 h2 hlow hmod hxm
theorem implPutO {B : Nat} {hv sv : Value} {h : List Cel} {ss : List (List Cel)} (x : Cel) (w : World) (o : OwB B w hv sv h ss) (hlow : Low h ss) :
    Calls Try.prog 53 #[.agg #[hv, sv], .agg #[.string x.r, .string x.b, .int .i64 x.t, .int .i64 x.v, .bool x.g]] w (PbPost (pbH h ss x) (pbS h ss) (pbB h ss x) w) := by
  obtain ⟨a, c, sa, sc, hs, rfl, rfl, h1, h2⟩ := o.view
  exact implPutB_any w a sa c sc _ _ h hs ss x rfl rfl h1 h2 hlow
end Go.Proofs.Ytkkpokfekbdigaa.Cl
