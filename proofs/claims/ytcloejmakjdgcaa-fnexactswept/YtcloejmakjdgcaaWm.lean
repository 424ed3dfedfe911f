/-
  The contracts of spec.Swept and impl.Swept: 'swH', 'swS', 'swB'.
-/
import Derived.Test.YtcloejmakjdgcaaWk
import Derived.Deep.DeepCutAuto
namespace Go.Proofs.Ytcloejmakjdgcaa.Cl
open Go.RowKit Wd Rp Kp Ra
set_option linter.unusedVariables false
set_option maxRecDepth 100000 in
set_option maxHeartbeats 2000000 in
theorem specSwept_any (w : World) (a sa : Option Addr) (c sc n sn : Nat) (h : List Cel) (hs : List Hd) (ss : List (List Cel)) (hn : h.length = n) (hsn : ss.length = sn) (hv : Vw w a c h) (hvs : VwS w sa sc hs ss) (hlow : Low h ss) (hmod : Mod h ss) (kp fm : Int) :
    Calls Try.prog 38 #[.agg #[.slice a n c, .slice sa sn sc], .int .i64 kp, .int .i64 fm] w (PbPost (swH h ss kp fm) (swS h ss kp fm) (swB h ss kp fm) w) := by
  have HV := Lib.hid hv; clear hv
  have HVS := Lib.hid hvs; clear hvs
  have HLM := Lib.hid (And.intro hlow hmod); clear hlow hmod
  have HN := Lib.hid (And.intro hn hsn); clear hn hsn
  have H0 := Lib.hid (bel2 w (.cells #[.slice a n c, .slice sa sn sc] 38) (.cells #[.slice none 0 0, .slice none 0 0] 38))
  have F0 := Lib.hid (LdF.made (.slice a n c) (.slice sa sn sc) w)
  have hz0 : ((w.alloc (.cells #[.slice a n c, .slice sa sn sc] 38)).alloc (.cells #[.slice none 0 0, .slice none 0 0] 38)).heap.size = w.heap.size + 2 := by simp
  cases hok : okB h ss
  · have HP := Lib.hid (show swH h ss kp fm = [] ∧ swS h ss kp fm = [] ∧ swB h ss kp fm = false by unfold swH swS swB; rw [hok]; exact ⟨rfl, rfl, rfl⟩)
    have HB := Lib.hid (barnS_is hok _ a sa c sc n sn hs HN.out.1 HN.out.2 (HV.out.below H0.out) (HVS.out.below H0.out) HLM.out.1 HLM.out.2); clear hok
    go_enter Try.func38, Try.ntmps38
    go_wp2_with fail
    refine HB.out.mono ?_; rintro e w1 ⟨rfl, b1⟩
    have F1 := Lib.hid (F0.out.next b1)
    have B1 := Lib.hid (bel_tr H0.out b1 (Nat.le_refl _)); clear b1
    have E1 := Lib.hid (ld_end rfl F1.out (OwB.nothing _ _) B1.out)
    obtain ⟨-, ⟨r0, r1, r2, r3, -⟩⟩ := id F1.out
    go_wp2_with fail
    refine bodyPost_ret (v := .tuple #[.agg #[.slice none 0 0, .slice none 0 0], .bool false]) (by simp [results, Try.results38, go_sem, r0, r1]) rfl ⟨_, _, by rw [HP.out.2.2], by rw [HP.out.1, HP.out.2.1]; exact E1.out.2.2.1, E1.out.2.2.2⟩
  · have HOK := Lib.hid hok
    have hsn5 : sn ≤ 5 := by rw [← HN.out.2]; exact (okB_iff.1 hok).2.1
    have hl2 : ss.length ≤ 1000 := by have := (okB_iff.1 hok).2.1; omega
    have HP := Lib.hid (show swH h ss kp fm = h ∧ swS h ss kp fm = syS ss kp fm ∧ swB h ss kp fm = syB ss kp fm by unfold swH swS swB; rw [hok]; exact ⟨rfl, rfl, rfl⟩)
    have HB := Lib.hid (barnS_is hok _ a sa c sc n sn hs HN.out.1 HN.out.2 (HV.out.below H0.out) (HVS.out.below H0.out) HLM.out.1 HLM.out.2); clear hok
    go_enter Try.func38, Try.ntmps38
    go_wp2_with fail
    refine HB.out.mono ?_; rintro e w1 ⟨rfl, b1⟩
    have F1 := Lib.hid (F0.out.next b1)
    have z1 : w.heap.size + 2 ≤ w1.heap.size := by have := b1.size; omega
    have B1 := Lib.hid (bel_tr H0.out b1 (Nat.le_refl _)); clear b1 HB
    obtain ⟨⟨x0, x1, -, -, -⟩, -⟩ := id F1.out
    go_wp2_with fail
    refine (l6Copy_any w1 a sa c sc n sn h hs ss HN.out.1 HN.out.2 (HV.out.below B1.out) (HVS.out.below B1.out) HLM.out.1 (by omega)).mono ?_; rintro e w2 ⟨hv, sv, rfl, o2, b2⟩
    have F2 := Lib.hid ((F1.out.next b2).next (bel1 w2 (.cells #[hv, sv] 38)))
    have O2 := Lib.hid (o2.top.next (bel1 w2 (.cells #[hv, sv] 38)))
    have M2 := Lib.hid (Bb.made hv sv w2 38)
    have B2 := Lib.hid (bel_tr (bel_tr B1.out b2 (Nat.le_refl _)) (bel1 w2 (.cells #[hv, sv] 38)) (Nat.le_refl _))
    have z2 := b2.size
    have hz2 : (w2.alloc (.cells #[hv, sv] 38)).heap.size = w2.heap.size + 1 := by simp
    have HPU := Lib.hid (l6Sweep_any _ w2.heap.size w1.heap.size w2.heap.size kp fm M2.out O2.out (.inr (Nat.le_refl _)) (by rw [hz2]; omega) HOK.out)
    obtain ⟨va, vc, sva, svc, hs2, rfl, rfl, -, -⟩ := o2.view
    clear o2 b2 x0 x1
    generalize h.length = hl at *
    generalize ss.length = sl at *
    go_wp2_with fail
    refine HPU.out.mono ?_; rintro e w3 ⟨rfl, k3, s3, m3, o3⟩
    have F3 := Lib.hid (F2.out.kept k3 (by omega))
    have B3 := Lib.hid ((kept_ins k3).bel B2.out (by omega) (by rw [hz2]; omega))
    have OO := Lib.hid (o3.mono (show w.heap.size + 2 ≤ w1.heap.size from z1))
    have M3 := Lib.hid m3
    obtain ⟨v3a, v3c, s3a, s3c, -, e3, rfl, -, -⟩ := o3.view
    clear e3 v3a v3c
    clear k3 m3 o3 F2 M2 O2 HPU
    have EE := Lib.hid (ld_end rfl F3.out OO.out B3.out)
    obtain ⟨m0, m1, m2, m3, -⟩ := id M3.out
    obtain ⟨-, ⟨r0, r1, r2, r3, -⟩⟩ := id F3.out
    generalize syB ss kp fm = pb at *
    generalize (syS ss kp fm).length = s3n at *
    go_wp2_with fail
    change bodyPost Try.prog Try.f38 _ .ret _ ((w3.setCell ⟨w.heap.size + 1, 0, none⟩ (.slice va hl vc)).setCell ⟨w.heap.size + 1, 1, none⟩ (.slice s3a s3n s3c))
    generalize (w3.setCell ⟨w.heap.size + 1, 0, none⟩ (.slice va hl vc)).setCell ⟨w.heap.size + 1, 1, none⟩ (.slice s3a s3n s3c) = Z at *
    clear m0 m1 m2 m3 r0 r1 r2 r3
    have e1 : Z.cell? ⟨w.heap.size + 1, 0, none⟩ = some (.slice va hl vc) := EE.out.1
    have e2 : Z.cell? ⟨w.heap.size + 1, 1, none⟩ = some (.slice s3a s3n s3c) := EE.out.2.1
    refine bodyPost_ret (v := .tuple #[.agg #[.slice va hl vc, .slice s3a s3n s3c], .bool pb]) (by simp [results, Try.results38, go_sem, e1, e2]) rfl ⟨_, _, by rw [HP.out.2.2], by rw [HP.out.1, HP.out.2.1]; exact EE.out.2.2.1, EE.out.2.2.2⟩
theorem OwC.off {B : Nat} {w : World} {v : Value} {l : List Cel} {p : Addr} (o : OwC B w v l) (hne : ∀ k, v.ownBlock = some k → k ≠ p.block) (x : Value) : OwC B (w.setCell p x) v l := row_next o fun g hg _ => Below.heap_setCell _ _ _ g (fun e => hne g hg e)
theorem LdF.off {q : Nat} {u v : Value} {w : World} {p : Addr} (f : LdF q u v w) (hp : q + 1 < p.block) (x : Value) : LdF q u v (w.setCell p x) := ⟨f.1.put (by omega) _, f.2.put (by omega) _⟩
/-- The headers, as mergedShelves wants them, out of any view. -/
theorem args_of_view {w : World} {a : Option Addr} {cap : Nat} {hs : List Hd} {ss : List (List Cel)} (hv : VwS w a cap hs ss) (hok : ∀ l ∈ ss, okL l = true) (hne : ss ≠ []) : ∃ g o, a = some ⟨g, o, none⟩ ∧ Args w g o (pilesOf 0 hs ss) := by
  obtain ⟨l0, r, hx⟩ := List.exists_cons_of_ne_nil hne
  obtain ⟨x, g, o, -, e, hg, -, -⟩ := hv.at (k := 0) (l := l0) (by rw [hx]; rfl)
  refine ⟨g, o, e, hg, fun i p hp => ?_⟩
  obtain ⟨y, l, e3, e4, rfl⟩ := piles_at 0 hs ss hv.1.1 i p hp
  obtain ⟨x', g', o', e5, e6, -, hc, hvl⟩ := hv.at e4
  rw [e] at e6
  cases e6
  rw [e3] at e5
  cases e5
  exact ⟨hc, by show 0 + i = i; omega, okL_mem (hok l (List.mem_of_getElem? e4)), okL_srt (hok l (List.mem_of_getElem? e4)), hvl⟩
theorem mgA_nil {l : List Cel} {ss : List (List Cel)} : mgA [] (l :: ss) = mgA l ss := by show mgA (mergeL [] l) ss = _; rw [mergeL_nl]
theorem piles_mg {hs : List Hd} {ss : List (List Cel)} (hl : hs.length = ss.length) (hne : ss ≠ []) (hss : ∀ l ∈ ss, Srt l) (c : Cel) : Fst (pilesOf 0 hs ss) c ↔ c ∈ mgA [] ss := by
  cases ss with
  | nil => exact absurd rfl hne
  | cons l ss =>
    cases hs with
    | nil => simp at hl
    | cons x hs => rw [mgA_nil]; exact mgA_fst (by simpa using hl) (hss l List.mem_cons_self) (fun t ht => hss t (List.mem_cons_of_mem _ ht)) c
set_option maxRecDepth 100000 in
set_option maxHeartbeats 8000000 in
theorem implSwept_any (w : World) (a sa : Option Addr) (c sc n sn : Nat) (h : List Cel) (hs : List Hd) (ss : List (List Cel)) (hn : h.length = n) (hsn : ss.length = sn) (hv : Vw w a c h) (hvs : VwS w sa sc hs ss) (hlow : Low h ss) (kp fm : Int) :
    Calls Try.prog 37 #[.agg #[.slice a n c, .slice sa sn sc], .int .i64 kp, .int .i64 fm] w (PbPost (swH h ss kp fm) (swS h ss kp fm) (swB h ss kp fm) w) := by
  have HV := Lib.hid hv; clear hv
  have HVS := Lib.hid hvs; clear hvs
  have HLOW := Lib.hid hlow; clear hlow
  have HN := Lib.hid (And.intro hn hsn); clear hn hsn
  have H0 := Lib.hid (bel2 w (.cells #[.slice a n c, .slice sa sn sc] 38) (.cells #[.slice none 0 0, .slice none 0 0] 38))
  have F0 := Lib.hid (LdF.made (.slice a n c) (.slice sa sn sc) w)
  have hz0 : ((w.alloc (.cells #[.slice a n c, .slice sa sn sc] 38)).alloc (.cells #[.slice none 0 0, .slice none 0 0] 38)).heap.size = w.heap.size + 2 := by simp
  cases hok : okB h ss
  · have HP := Lib.hid (show swH h ss kp fm = [] ∧ swS h ss kp fm = [] ∧ swB h ss kp fm = false by unfold swH swS swB; rw [hok]; exact ⟨rfl, rfl, rfl⟩)
    have HB := Lib.hid (barnI_is hok _ a sa c sc n sn hs HN.out.1 HN.out.2 (HV.out.below H0.out) (HVS.out.below H0.out) HLOW.out); clear hok
    go_enter Try.func37, Try.ntmps37
    go_wp2_with fail
    refine HB.out.mono ?_; rintro e w1 ⟨rfl, b1⟩
    have F1 := Lib.hid (F0.out.next b1)
    have B1 := Lib.hid (bel_tr H0.out b1 (Nat.le_refl _)); clear b1
    have E1 := Lib.hid (ld_end rfl F1.out (OwB.nothing _ _) B1.out)
    obtain ⟨-, ⟨r0, r1, r2, r3, -⟩⟩ := id F1.out
    go_wp2_with fail
    refine bodyPost_ret (v := .tuple #[.agg #[.slice none 0 0, .slice none 0 0], .bool false]) (by simp [results, Try.results37, go_sem, r0, r1]) rfl ⟨_, _, by rw [HP.out.2.2], by rw [HP.out.1, HP.out.2.1]; exact E1.out.2.2.1, E1.out.2.2.2⟩
  have HOK := Lib.hid hok
  have hsn5 : sn ≤ 5 := by rw [← HN.out.2]; exact (okB_iff.1 hok).2.1
  have HB := Lib.hid (barnI_is hok _ a sa c sc n sn hs HN.out.1 HN.out.2 (HV.out.below H0.out) (HVS.out.below H0.out) HLOW.out)
  have HP0 := Lib.hid (show swH h ss kp fm = h ∧ swS h ss kp fm = syS ss kp fm ∧ swB h ss kp fm = syB ss kp fm by unfold swH swS swB; rw [hok]; exact ⟨rfl, rfl, rfl⟩); clear hok
  have HPN := Lib.hid (show syB ss kp fm = false → swH h ss kp fm = h ∧ swS h ss kp fm = ss ∧ swB h ss kp fm = false from fun e => ⟨HP0.out.1, by rw [HP0.out.2.1, sy_no e], by rw [HP0.out.2.2, e]⟩)
  go_enter Try.func37, Try.ntmps37
  go_wp2_with fail
  refine HB.out.mono ?_; rintro e w1 ⟨rfl, b1⟩
  have F1 := Lib.hid (F0.out.next b1)
  have z1 : w.heap.size + 2 ≤ w1.heap.size := by have := b1.size; omega
  have B1 := Lib.hid (bel_tr H0.out b1 (Nat.le_refl _)); clear b1 HB
  obtain ⟨⟨x0, x1, -, -, -⟩, -⟩ := id F1.out
  go_wp2_with fail
  refine (copyOfBarn_any w1 a sa c sc n sn h hs ss HN.out.1 HN.out.2 (HV.out.below B1.out) (HVS.out.below B1.out) HLOW.out (by omega)).mono ?_; rintro e w2 ⟨hv, sv, rfl, o2, b2⟩
  have F2 := Lib.hid ((F1.out.next b2).next (bel1 w2 (.cells #[hv, sv] 38)))
  have O2 := Lib.hid (o2.next (bel1 w2 (.cells #[hv, sv] 38)))
  have M2 := Lib.hid (Bb.made hv sv w2 38)
  have B2 := Lib.hid (bel_tr (bel_tr B1.out b2 (Nat.le_refl _)) (bel1 w2 (.cells #[hv, sv] 38)) (Nat.le_refl _))
  have z2 := b2.size
  have hz2 : (w2.alloc (.cells #[hv, sv] 38)).heap.size = w2.heap.size + 1 := by simp
  obtain ⟨va, vc, sva, svc, hs2, rfl, rfl, -, -⟩ := o2.view
  have O2T := Lib.hid (o2.top.next (bel1 w2 (.cells #[.slice va h.length vc, .slice sva ss.length svc] 38)))
  rw [HN.out.1, HN.out.2] at F2 O2 M2 B2 hz2 O2T ⊢
  clear o2 b2 x0 x1
  have z3 : w2.heap.size < (w2.alloc (.cells #[.slice va n vc, .slice sva sn svc] 38)).heap.size := by omega
  by_cases hs0 : sn = 0
  · have HP := Lib.hid (HPN.out (sy_empty (by rw [HN.out.2]; exact hs0)))
    have q0 : (sn : Int) = 0 := by omega
    have q0' : ((sn : Int) == 0) = true := by simp [hs0]
    clear hs0 hsn5
    have EE := Lib.hid (ld_end rfl F2.out (O2.out.mono z1) B2.out)
    obtain ⟨⟨x0, x1, -, -, -⟩, ⟨r0, r1, r2, r3, -⟩⟩ := id F2.out
    obtain ⟨m0, m1, m2, m3, -⟩ := id M2.out
    go_wp2_with fail
    generalize ((w2.alloc (.cells #[.slice va n vc, .slice sva sn svc] 38)).setCell ⟨w.heap.size + 1, 0, none⟩ (.slice va n vc)).setCell ⟨w.heap.size + 1, 1, none⟩ (.slice sva sn svc) = Z at *
    have e1 : Z.cell? ⟨w.heap.size + 1, 0, none⟩ = some (.slice va n vc) := EE.out.1
    have e2 : Z.cell? ⟨w.heap.size + 1, 1, none⟩ = some (.slice sva sn svc) := EE.out.2.1
    clear m0 m1 m2 m3 r0 r1 r2 r3
    refine bodyPost_ret (v := .tuple #[.agg #[.slice va n vc, .slice sva sn svc], .bool false]) (by simp [results, Try.results37, go_sem, e1, e2]) rfl ⟨_, _, by rw [HP.out.2.2], by rw [HP.out.1, HP.out.2.1]; exact EE.out.2.2.1, EE.out.2.2.2⟩
  have q0 : ¬ (sn : Int) = 0 := by omega
  have q0' : ((sn : Int) == 0) = false := by simp [hs0]
  have HTK := Lib.hid (thinningOk_any kp fm)
  cases ht : thB kp fm
  · have HP := Lib.hid (HPN.out (sy_bad ht))
    rw [ht] at HTK
    clear ht
    have EE := Lib.hid (ld_end rfl F2.out (O2.out.mono z1) B2.out)
    obtain ⟨⟨x0, x1, -, -, -⟩, ⟨r0, r1, r2, r3, -⟩⟩ := id F2.out
    obtain ⟨m0, m1, m2, m3, -⟩ := id M2.out
    go_wp2_with fail
    refine (HTK.out _).mono ?_; rintro e _ ⟨rfl, rfl⟩
    go_wp2_with fail
    generalize ((w2.alloc (.cells #[.slice va n vc, .slice sva sn svc] 38)).setCell ⟨w.heap.size + 1, 0, none⟩ (.slice va n vc)).setCell ⟨w.heap.size + 1, 1, none⟩ (.slice sva sn svc) = Z at *
    have e1 : Z.cell? ⟨w.heap.size + 1, 0, none⟩ = some (.slice va n vc) := EE.out.1
    have e2 : Z.cell? ⟨w.heap.size + 1, 1, none⟩ = some (.slice sva sn svc) := EE.out.2.1
    clear m0 m1 m2 m3 r0 r1 r2 r3
    refine bodyPost_ret (v := .tuple #[.agg #[.slice va n vc, .slice sva sn svc], .bool false]) (by simp [results, Try.results37, go_sem, e1, e2]) rfl ⟨_, _, by rw [HP.out.2.2], by rw [HP.out.1, HP.out.2.1]; exact EE.out.2.2.1, EE.out.2.2.2⟩
  rw [ht] at HTK
  have HTB := Lib.hid ht
  obtain ⟨p1, p2, -, -⟩ := thB_iff.1 ht
  obtain ⟨K, rfl⟩ : ∃ K : Nat, kp = (K : Int) := ⟨kp.toNat, by omega⟩
  clear ht
  have hne : ss ≠ [] := fun e => by have := HN.out.2; rw [e] at this; simp at this; omega
  have HSA := Lib.hid (show swA ss (K : Int) fm = thinL K fm (mgA [] ss) by unfold swA; rw [Int.toNat_natCast])
  obtain ⟨g, o, rfl, har⟩ := args_of_view (HVS.out.below B2.out) (fun l hl => ((okB_iff.1 HOK.out).2.2 l hl).2) hne
  have HMS := Lib.hid (mergedShelves_any _ g o sc (pilesOf 0 hs ss) sn (by rw [piles_len _ _ _ HVS.out.1.1]; exact HN.out.2) (by omega) (by rw [piles_tot _ _ _ HVS.out.1.1]; have := (okB_tot HOK.out).2; omega) har)
  have HEX := Lib.hid (fun c => piles_mg HVS.out.1.1 hne (okB_srt HOK.out).2 c)
  have HML := Lib.hid (show (mgA [] ss).length ≤ 1000 from by have h1 := mgA_len ss []; have h2 := (okB_tot HOK.out).2; simp at h1; omega)
  have HS0 := Lib.hid (show ss.length ≠ 0 by rw [HN.out.2]; exact hs0)
  clear har hne
  obtain ⟨⟨x0, x1, -, -, -⟩, -⟩ := id F2.out
  obtain ⟨m0, m1, m2, m3, -⟩ := id M2.out
  go_wp2_with fail
  refine (HTK.out _).mono ?_; rintro e _ ⟨rfl, rfl⟩
  go_wp2_with fail
  refine HMS.out.mono ?_; rintro e w4 ⟨v, m, rfl, o4, s4, m4, b4, -⟩
  have hm : m = mgA [] ss := srt_ext s4 (mgA_srt ss [] List.Pairwise.nil (okB_srt HOK.out).2) (fun c => (m4 c).trans (HEX.out c))
  subst hm
  obtain ⟨va4, vc4, rfl, hv4, -⟩ := o4.view
  have HTH := Lib.hid (thinnedCells_any w4 va4 vc4 (mgA [] ss) _ K fm rfl hv4 (by have := HML.out; omega) (by omega) (by omega))
  have B4 := Lib.hid b4
  clear o4 s4 m4 b4 hv4 HMS HTK x0 x1 m0 m1 m2 m3
  generalize (mgA [] ss).length = ml at *
  go_wp2_with fail
  refine HTH.out.mono ?_; rintro e w5 ⟨v5, rfl, o5, b5⟩
  rw [← HSA.out] at o5
  have B25 := Lib.hid (bel_tr B4.out b5 (Nat.le_refl _))
  have B5 := Lib.hid (bel_tr B2.out B25.out (Nat.le_refl _))
  have F5 := Lib.hid (F2.out.next B25.out)
  have M5 := Lib.hid (M2.out.next B25.out)
  have O5 := Lib.hid (O2T.out.next B25.out)
  have T5 := Lib.hid (OwC.mono o5 B4.out.size)
  have z5 := B25.out.size
  obtain ⟨ta, tc, rfl, -, -⟩ := o5.view
  clear o5 b5 HTH B4 F2 M2 O2 O2T
  have zO : w.heap.size + 1 < w2.heap.size := by omega
  have HHD := Lib.hid (show OwC w1.heap.size w5 (.slice va n vc) h ∧ ∀ k, (Value.slice va n vc).ownBlock = some k → k < w2.heap.size from by
    obtain ⟨us, -, hlo, htop⟩ := id O5.out
    exact ⟨hlo.2.1 0 _ h rfl rfl, htop _ (by simp)⟩)
  by_cases hbg : 200 < (swA ss (K : Int) fm).length
  · have HP := Lib.hid (HPN.out (sy_big hbg))
    have z6 : (200 : Int) < ((swA ss (K : Int) fm).length : Int) := by omega
    have EE := Lib.hid (ld_end rfl F5.out (O5.out.own.mono z1) B5.out)
    generalize (swA ss (K : Int) fm).length = al at *
    obtain ⟨-, ⟨r0, r1, r2, r3, -⟩⟩ := id F5.out
    obtain ⟨m0, m1, m2, m3, -⟩ := id M5.out
    go_wp2_with fail
    generalize (w5.setCell ⟨w.heap.size + 1, 0, none⟩ (.slice va n vc)).setCell ⟨w.heap.size + 1, 1, none⟩ (.slice sva sn svc) = Z at *
    have e1 : Z.cell? ⟨w.heap.size + 1, 0, none⟩ = some (.slice va n vc) := EE.out.1
    have e2 : Z.cell? ⟨w.heap.size + 1, 1, none⟩ = some (.slice sva sn svc) := EE.out.2.1
    clear m0 m1 m2 m3 r0 r1 r2 r3
    refine bodyPost_ret (v := .tuple #[.agg #[.slice va n vc, .slice sva sn svc], .bool false]) (by simp [results, Try.results37, go_sem, e1, e2]) rfl ⟨_, _, by rw [HP.out.2.2], by rw [HP.out.1, HP.out.2.1]; exact EE.out.2.2.1, EE.out.2.2.2⟩
  have HY := Lib.hid (sy_yes HS0.out HTB.out hbg)
  have z6 : ¬ (200 : Int) < ((swA ss (K : Int) fm).length : Int) := by omega
  have HHO := Lib.hid (fun k hk => (show k ≠ (⟨w2.heap.size, 1, none⟩ : Addr).block from by have := HHD.out.2 k hk; show k ≠ w2.heap.size; omega))
  have F9 := Lib.hid (F5.out.off (p := ⟨w2.heap.size, 1, none⟩) zO (.slice none 0 0))
  have M9 := Lib.hid (M5.out.set1 (.slice none 0 0))
  have H9 := Lib.hid (HHD.out.1.off (p := ⟨w2.heap.size, 1, none⟩) HHO.out (.slice none 0 0))
  have T9 := Lib.hid (T5.out.put (p := ⟨w2.heap.size, 1, none⟩) (by show w2.heap.size < _; rw [hz2]; omega) (.slice none 0 0))
  have B9 := Lib.hid (B5.out.setCell (p := ⟨w2.heap.size, 1, none⟩) (by show w.heap.size ≤ w2.heap.size; omega) (.slice none 0 0))
  have Z9 := Lib.hid (show w2.heap.size < (w5.setCell ⟨w2.heap.size, 1, none⟩ (.slice none 0 0)).heap.size from M9.out.2.2.2.2)
  by_cases hz : (swA ss (K : Int) fm).length = 0
  · have HP := Lib.hid (show swH h ss K fm = h ∧ swS h ss K fm = [] ∧ swB h ss K fm = true from ⟨HP0.out.1, by rw [HP0.out.2.1, sy_none HY.out hz], by rw [HP0.out.2.2, HY.out]⟩)
    have z7 : ¬ (0 : Int) < ((swA ss (K : Int) fm).length : Int) := by omega
    have OO := Lib.hid (OwB.mk (B := w.heap.size + 2) (H9.out.mono z1) (RowS.nothing _ _) (show OwL (w.heap.size + 2) _ [] [] from ⟨rfl, fun j u l h1 => by simp at h1, List.Pairwise.nil⟩) (fun x hx => by cases hx))
    have EE := Lib.hid (ld_end rfl F9.out OO.out B9.out)
    generalize (swA ss (K : Int) fm).length = al at *
    obtain ⟨m0, m1, m2, m3, m4⟩ := id M5.out
    go_upto_region 10 with fail
    clear m0 m1 m2 m3 m4
    generalize w5.setCell ⟨w2.heap.size, 1, none⟩ (.slice none 0 0) = WX at *
    obtain ⟨-, ⟨r0, r1, r2, r3, -⟩⟩ := id F9.out
    obtain ⟨m0, m1, m2, m3, m4⟩ := id M9.out
    go_wp2_with fail
    generalize (WX.setCell ⟨w.heap.size + 1, 0, none⟩ (.slice va n vc)).setCell ⟨w.heap.size + 1, 1, none⟩ (.slice none 0 0) = Z at *
    have e1 : Z.cell? ⟨w.heap.size + 1, 0, none⟩ = some (.slice va n vc) := EE.out.1
    have e2 : Z.cell? ⟨w.heap.size + 1, 1, none⟩ = some (.slice none 0 0) := EE.out.2.1
    clear m0 m1 m2 m3 m4 r0 r1 r2 r3
    refine bodyPost_ret (v := .tuple #[.agg #[.slice va n vc, .slice none 0 0], .bool true]) (by simp [results, Try.results37, go_sem, e1, e2]) rfl ⟨_, _, by rw [HP.out.2.2], by rw [HP.out.1, HP.out.2.1]; exact EE.out.2.2.1, EE.out.2.2.2⟩
  · have HP := Lib.hid (show swH h ss K fm = h ∧ swS h ss K fm = [swA ss (K : Int) fm] ∧ swB h ss K fm = true from ⟨HP0.out.1, by rw [HP0.out.2.1, sy_some HY.out hz], by rw [HP0.out.2.2, HY.out]⟩)
    have z7 : (0 : Int) < ((swA ss (K : Int) fm).length : Int) := by omega
    generalize hal : (swA ss (K : Int) fm).length = al at *
    obtain ⟨m0, m1, m2, m3, m4⟩ := id M5.out
    go_upto_region 10 with fail
    clear m0 m1 m2 m3 m4
    generalize w5.setCell ⟨w2.heap.size, 1, none⟩ (.slice none 0 0) = WX at *
    have hxs : (WX.setCell ⟨w2.heap.size, 1, none⟩ (.slice (some ⟨WX.heap.size, 0, none⟩) 1 1)).heap.size = WX.heap.size := World.size_setCell _ _ _
    have bx := bel1 (WX.setCell ⟨w2.heap.size, 1, none⟩ (.slice (some ⟨WX.heap.size, 0, none⟩) 1 1)) (.cells #[.slice ta al tc] 24)
    have F12 := Lib.hid ((F9.out.off (p := ⟨w2.heap.size, 1, none⟩) zO (.slice (some ⟨WX.heap.size, 0, none⟩) 1 1)).next bx)
    have M12 := Lib.hid ((M9.out.set1 (.slice (some ⟨WX.heap.size, 0, none⟩) 1 1)).next bx)
    have B12 := Lib.hid ((B9.out.setCell (p := ⟨w2.heap.size, 1, none⟩) (by show w.heap.size ≤ w2.heap.size; omega) (.slice (some ⟨WX.heap.size, 0, none⟩) 1 1)).alloc (by rw [hxs]; exact B9.out.size) (.cells #[.slice ta al tc] 24))
    have R12 := Lib.hid (show RowS (w.heap.size + 2) ((WX.setCell ⟨w2.heap.size, 1, none⟩ (.slice (some ⟨WX.heap.size, 0, none⟩) 1 1)).alloc (.cells #[.slice ta al tc] 24)) (.slice (some ⟨WX.heap.size, 0, none⟩) 1 1) [.slice ta al tc] from by
      have := RowS.lit (B := w.heap.size + 2) (w := WX.setCell ⟨w2.heap.size, 1, none⟩ (.slice (some ⟨WX.heap.size, 0, none⟩) 1 1)) (by have := Z9.out; rw [hxs]; omega) (.slice ta al tc)
      rw [hxs] at this
      exact this)
    have T12 := Lib.hid ((T9.out.put (p := ⟨w2.heap.size, 1, none⟩) (by show w2.heap.size < _; rw [hz2]; omega) (.slice (some ⟨WX.heap.size, 0, none⟩) 1 1)).next bx)
    have OO := Lib.hid (OwB.mk (B := w.heap.size + 2) (((H9.out.off (p := ⟨w2.heap.size, 1, none⟩) HHO.out (.slice (some ⟨WX.heap.size, 0, none⟩) 1 1)).next bx).mono z1) R12.out (show OwL (w.heap.size + 2) _ [.slice ta al tc] [swA ss (K : Int) fm] from ⟨rfl, fun j u l h1 h2 => by
      cases j with
      | zero =>
        obtain rfl : Value.slice ta al tc = u := by simpa using h1
        obtain rfl : swA ss (K : Int) fm = l := by simpa using h2
        exact T12.out.mono (by rw [hz2]; omega)
      | succ j => simp at h1, List.pairwise_singleton _ _⟩) (fun x hx k hk e => by
        rw [List.mem_singleton.1 hx] at e
        have a1 := OwC.lt T12.out k e
        have a2 := HHD.out.2 k hk
        rw [hz2] at a1
        omega))
    have EE := Lib.hid (ld_end rfl F12.out OO.out B12.out)
    obtain ⟨m0, m1, m2, m3, m4⟩ := id M9.out
    clear bx hal
    go_upto_region 12 with fail
    clear m0 m1 m2 m3 m4
    generalize (WX.setCell ⟨w2.heap.size, 1, none⟩ (.slice (some ⟨WX.heap.size, 0, none⟩) 1 1)).alloc (.cells #[.slice ta al tc] 24) = WY at *
    obtain ⟨-, ⟨r0, r1, r2, r3, -⟩⟩ := id F12.out
    obtain ⟨m0, m1, m2, m3, m4⟩ := id M12.out
    go_wp2_with fail
    generalize (WY.setCell ⟨w.heap.size + 1, 0, none⟩ (.slice va n vc)).setCell ⟨w.heap.size + 1, 1, none⟩ (.slice (some ⟨WX.heap.size, 0, none⟩) 1 1) = Z at *
    have e1 : Z.cell? ⟨w.heap.size + 1, 0, none⟩ = some (.slice va n vc) := EE.out.1
    have e2 : Z.cell? ⟨w.heap.size + 1, 1, none⟩ = some (.slice (some ⟨WX.heap.size, 0, none⟩) 1 1) := EE.out.2.1
    clear m0 m1 m2 m3 m4 r0 r1 r2 r3
    refine bodyPost_ret (v := .tuple #[.agg #[.slice va n vc, (.slice (some ⟨WX.heap.size, 0, none⟩) 1 1)], .bool true]) (by simp [results, Try.results37, go_sem, e1, e2]) rfl ⟨_, _, by rw [HP.out.2.2], by rw [HP.out.1, HP.out.2.1]; exact EE.out.2.2.1, EE.out.2.2.2⟩
theorem specSweptO {B : Nat} {hv sv : Value} {h : List Cel} {ss : List (List Cel)} (kp fm : Int) (w : World) (o : OwB B w hv sv h ss) (hlow : Low h ss) (hmod : Mod h ss) :
    Calls Try.prog 38 #[.agg #[hv, sv], .int .i64 kp, .int .i64 fm] w (PbPost (swH h ss kp fm) (swS h ss kp fm) (swB h ss kp fm) w) := by
  obtain ⟨a, c, sa, sc, hs, rfl, rfl, h1, h2⟩ := o.view
  exact specSwept_any w a sa c sc _ _ h hs ss rfl rfl h1 h2 hlow hmod kp fm
theorem implSweptO {B : Nat} {hv sv : Value} {h : List Cel} {ss : List (List Cel)} (kp fm : Int) (w : World) (o : OwB B w hv sv h ss) (hlow : Low h ss) :
    Calls Try.prog 37 #[.agg #[hv, sv], .int .i64 kp, .int .i64 fm] w (PbPost (swH h ss kp fm) (swS h ss kp fm) (swB h ss kp fm) w) := by
  obtain ⟨a, c, sa, sc, hs, rfl, rfl, h1, h2⟩ := o.view
  exact implSwept_any w a sa c sc _ _ h hs ss rfl rfl h1 h2 hlow kp fm
theorem sy_len {ss : List (List Cel)} {kp fm : Int} (h : syB ss kp fm = true) : (swA ss kp fm).length ≤ 200 := by
  unfold syB at h; simp at h; exact h.2.2
theorem sw_low (h : List Cel) (ss : List (List Cel)) (kp fm : Int) : Low (swH h ss kp fm) (swS h ss kp fm) ∧ (swH h ss kp fm).length + tott (swS h ss kp fm) ≤ 1048576 := by
  unfold swH swS
  cases hok : okB h ss
  · exact ⟨⟨by simp, by simp, fun l hl => by simp at hl⟩, by simp [tott]⟩
  · obtain ⟨h1, h2⟩ := okB_tot hok
    obtain ⟨-, h3, h4⟩ := okB_iff.1 hok
    have h5 : ∀ l ∈ ss, l.length ≤ 200 := fun l hl => (okL_iff.1 (h4 l hl).2).2
    simp only [if_true]
    cases hy : syB ss kp fm
    · rw [sy_no hy]
      exact ⟨⟨by omega, by omega, fun l hl => by have := h5 l hl; omega⟩, by omega⟩
    · have h6 := sy_len hy
      by_cases hz : (swA ss kp fm).length = 0
      · rw [sy_none hy hz]
        exact ⟨⟨by omega, by simp, fun l hl => by simp at hl⟩, by simp [tott]; omega⟩
      · rw [sy_some hy hz]
        refine ⟨⟨by omega, by simp, fun l hl => ?_⟩, by rw [tott_cons]; simp [tott]; omega⟩
        rw [List.mem_singleton.1 hl]; omega
end Go.Proofs.Ytcloejmakjdgcaa.Cl
