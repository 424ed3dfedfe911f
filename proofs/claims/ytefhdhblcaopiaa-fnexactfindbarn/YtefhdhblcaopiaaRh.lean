/-
  The contract of spec.FindBarn: 'fdP'.
-/
import Derived.Test.YtefhdhblcaopiaaRg
namespace Go.Proofs.Ytefhdhblcaopiaa.Cl
open Go.RowKit Wd Rp Kp Ra
set_option linter.unusedVariables false
set_option maxRecDepth 100000 in
set_option maxHeartbeats 4000000 in
theorem specFindB_any (w : World) (a sa : Option Addr) (c sc n sn : Nat) (h : List Cel) (hs : List Hd) (ss : List (List Cel)) (K : Cel) (hn : h.length = n) (hsn : ss.length = sn) (hv : Vw w a c h) (hvs : VwS w sa sc hs ss) (hlow : Low h ss) (hmod : Mod h ss) (hKm : K.mod) :
    Calls Try.prog 30 #[.agg #[.slice a n c, .slice sa sn sc], .string K.r, .string K.b, .int .i64 K.t] w (FindPost (fdP h ss K) w) := by
  have HV := Lib.hid hv; clear hv
  have HVS := Lib.hid hvs; clear hvs
  have HLM := Lib.hid (And.intro hlow hmod); clear hlow hmod
  have HN := Lib.hid (And.intro hn hsn); clear hn hsn
  have H0 := Lib.hid (bel2 w (.cells #[.slice a n c, .slice sa sn sc] 27) (.cells #[.string ⟨#[]⟩, .string ⟨#[]⟩, .int .i64 0, .int .i64 0, .bool false] 31))
  have F0 := Lib.hid (show Bb w.heap.size (.slice a n c) (.slice sa sn sc) ((w.alloc (.cells #[.slice a n c, .slice sa sn sc] 27)).alloc (.cells #[.string ⟨#[]⟩, .string ⟨#[]⟩, .int .i64 0, .int .i64 0, .bool false] 31)) ∧ Cb (w.heap.size + 1) zz ((w.alloc (.cells #[.slice a n c, .slice sa sn sc] 27)).alloc (.cells #[.string ⟨#[]⟩, .string ⟨#[]⟩, .int .i64 0, .int .i64 0, .bool false] 31)) from
    ⟨(Bb.made _ _ w 27).next (bel1 _ _), by
      have := Cb.made zz (w.alloc (.cells #[.slice a n c, .slice sa sn sc] 27)) 31
      rwa [World.size_alloc] at this⟩)
  have HBK := Lib.hid (fun x (e : okB h ss = x) => barnS_is e _ a sa c sc n sn hs HN.out.1 HN.out.2 (HV.out.below H0.out) (HVS.out.below H0.out) HLM.out.1 HLM.out.2)
  cases hok : okB h ss
  · have HP := Lib.hid (fdP_no (K := K) hok)
    have HB := Lib.hid (HBK.out _ hok); clear hok HBK
    go_enter Try.func30, Try.ntmps30
    go_wp2_with fail
    refine HB.out.mono ?_; rintro e w1 ⟨rfl, b1⟩
    have B1 := Lib.hid (bel_tr H0.out b1 (Nat.le_refl _))
    obtain ⟨⟨z0, z1, z2, z3, z4⟩, ⟨k0, k1, k2, k3, k4⟩, zq⟩ := F0.out.2.next b1; clear b1
    go_wp2_with fail
    refine bodyPost_ret (v := .tuple #[zz.agg, .bool false]) (by simp [results, Try.results30, go_sem, z0, z1, z2, z3, z4, Cel.agg, zz]) rfl ⟨by rw [HP.out], ?_⟩
    exact put5_below (c := zz) B1.out (by omega)
  · have HOK := Lib.hid hok
    have HB := Lib.hid (HBK.out _ hok); clear hok HBK
    cases hk : keyB K.r.data.toList K.b.data.toList K.t
    · have HP := Lib.hid (fdP_key (h := h) (ss := ss) hk)
      have HK := Lib.hid hk; clear hk
      go_enter Try.func30, Try.ntmps30
      go_wp2_with fail
      refine HB.out.mono ?_; rintro e w1 ⟨rfl, b1⟩
      have B1 := Lib.hid (bel_tr H0.out b1 (Nat.le_refl _))
      have F1 := Lib.hid (F0.out.2.next b1); clear b1
      go_wp2_with fail
      refine (specKey_is HK.out _ hKm.1 hKm.2).mono ?_; rintro e w2 ⟨rfl, b2⟩
      have B2 := Lib.hid (bel_tr B1.out b2 (Nat.le_refl _))
      obtain ⟨⟨z0, z1, z2, z3, z4⟩, ⟨k0, k1, k2, k3, k4⟩, zq⟩ := F1.out.next b2; clear b2
      go_wp2_with fail
      refine bodyPost_ret (v := .tuple #[zz.agg, .bool false]) (by simp [results, Try.results30, go_sem, z0, z1, z2, z3, z4, Cel.agg, zz]) rfl ⟨by rw [HP.out], ?_⟩
      exact put5_below (c := zz) B2.out (by omega)
    · have HP := Lib.hid (fdP_is HOK.out hk)
      have HK := Lib.hid hk; clear hk
      go_enter Try.func30, Try.ntmps30
      go_wp2_with fail
      refine HB.out.mono ?_; rintro e w1 ⟨rfl, b1⟩
      have B1 := Lib.hid (bel_tr H0.out b1 (Nat.le_refl _))
      have F1 := Lib.hid (And.intro (F0.out.1.next b1) (F0.out.2.next b1)); clear b1
      go_wp2_with fail
      refine (specKey_is HK.out _ hKm.1 hKm.2).mono ?_; rintro e w2 ⟨rfl, b2⟩
      have B2 := Lib.hid (bel_tr B1.out b2 (Nat.le_refl _))
      have F2 := Lib.hid (And.intro (F1.out.1.next b2) (F1.out.2.next b2)); clear b2
      obtain ⟨x0, x1, -, -, -⟩ := id F2.out.1
      have HL := Lib.hid (l6Find_any w2 a sa c sc n sn h hs ss K HN.out.1 HN.out.2 (HV.out.below B2.out) (HVS.out.below B2.out) HLM.out.1)
      generalize fdR h ss K = st at *
      obtain ⟨s, b⟩ := st
      have HL1 := Lib.hid (show Calls Try.prog 73 #[.agg #[.slice a n c, .slice sa sn sc], .string K.r, .string K.b, .int .i64 K.t] w2 fun e w' => e = .returned (.tuple #[.agg #[.string s.r, .string s.b, .int .i64 s.t, .int .i64 s.v, .bool s.g], .bool b]) ∧ Below w2.heap.size w2 w' from HL.out); clear HL
      go_wp2_with fail
      refine HL1.out.mono ?_; rintro e w3 ⟨rfl, b3⟩
      have B3 := Lib.hid (bel_tr B2.out b3 (Nat.le_refl _))
      have F3 := Lib.hid (F2.out.2.next b3); clear b3
      obtain ⟨⟨z0, z1, z2, z3, z4⟩, ⟨k0, k1, k2, k3, k4⟩, zq⟩ := id F3.out
      have K6 := Lib.hid (Cb.put5 (d := s) F3.out)
      have B6 := Lib.hid (put5_below (c := s) B3.out (show w.heap.size ≤ w.heap.size + 1 by omega))
      go_wp2_with fail
      change bodyPost _ _ _ .ret _ (put5 w3 (w.heap.size + 1) s)
      generalize put5 w3 (w.heap.size + 1) s = Z at *
      clear z0 z1 z2 z3 z4 k0 k1 k2 k3 k4
      obtain ⟨⟨c0, c1, c2, c3, c4⟩, -, -⟩ := id K6.out
      refine bodyPost_ret (v := .tuple #[s.agg, .bool b]) (by simp [results, Try.results30, go_sem, c0, c1, c2, c3, c4, Cel.agg]) rfl ⟨by rw [HP.out], B6.out⟩
theorem specFindO {B : Nat} {hv sv : Value} {h : List Cel} {ss : List (List Cel)} (K : Cel) (w : World) (o : OwB B w hv sv h ss) (hlow : Low h ss) (hmod : Mod h ss) (hKm : K.mod) :
    Calls Try.prog 30 #[.agg #[hv, sv], .string K.r, .string K.b, .int .i64 K.t] w (FindPost (fdP h ss K) w) := by
  obtain ⟨a, c, sa, sc, hs, rfl, rfl, h1, h2⟩ := o.view
  exact specFindB_any w a sa c sc _ _ h hs ss K rfl rfl h1 h2 hlow hmod hKm
end Go.Proofs.Ytefhdhblcaopiaa.Cl
