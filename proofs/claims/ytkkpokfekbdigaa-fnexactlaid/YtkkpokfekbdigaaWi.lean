/-
  The contracts of spec.Laid and impl.Laid: 'ldH', 'ldS', 'ldB'.
-/
import Derived.Test.YtkkpokfekbdigaaWh
namespace Go.Proofs.Ytkkpokfekbdigaa.Cl
open Go.RowKit Wd Rp Kp Ra
set_option linter.unusedVariables false
/-- What Laid gives. -/
def ldH (h : List Cel) (ss : List (List Cel)) : List Cel := if okB h ss then lyH h ss else []
def ldS (h : List Cel) (ss : List (List Cel)) : List (List Cel) := if okB h ss then lyS h ss else []
def ldB (h : List Cel) (ss : List (List Cel)) : Bool := if okB h ss then lyB h ss else false
/-- The blocks: the store, the result. -/
def LdF (q : Nat) (u v : Value) (w : World) : Prop := Bb q u v w ∧ Bb (q + 1) (.slice none 0 0) (.slice none 0 0) w
theorem LdF.next {q : Nat} {u v : Value} {w w' : World} (h : LdF q u v w) (hb : Below w.heap.size w w') : LdF q u v w' := ⟨h.1.next hb, h.2.next hb⟩
theorem LdF.made (u v : Value) (w : World) : LdF w.heap.size u v ((w.alloc (.cells #[u, v] 45)).alloc (.cells #[.slice none 0 0, .slice none 0 0] 45)) := by
  refine ⟨(Bb.made u v w _).next (bel1 _ _), ?_⟩
  have := Bb.made (.slice none 0 0) (.slice none 0 0) (w.alloc (.cells #[u, v] 45)) 45
  rwa [World.size_alloc] at this
theorem LdF.kept {q O : Nat} {u v : Value} {w w' : World} (f : LdF q u v w) (h : Kept (fun k => k = O) none w w') (hO : q + 1 < O) : LdF q u v w' := by
  have key : ∀ k, k < w.heap.size → k ≤ q + 1 → w'.heap[k]? = w.heap[k]? := fun k hk hq => h.block k hk (fun e => by have : k = O := e; omega) (by simp)
  exact ⟨f.1.same' (key _ f.1.2.2.2.2 (by omega)), f.2.same' (key _ f.2.2.2.2.2 (by omega))⟩
theorem ld_end {q : Nat} {u v hv sv : Value} {h : List Cel} {ss : List (List Cel)} {w z : World} (hq : w.heap.size = q) (f : LdF q u v z) (o : OwB (q + 2) z hv sv h ss) (hb : Below q w z) :
    ((z.setCell ⟨q + 1, 0, none⟩ hv).setCell ⟨q + 1, 1, none⟩ sv).cell? ⟨q + 1, 0, none⟩ = some hv ∧ ((z.setCell ⟨q + 1, 0, none⟩ hv).setCell ⟨q + 1, 1, none⟩ sv).cell? ⟨q + 1, 1, none⟩ = some sv ∧ OwB w.heap.size ((z.setCell ⟨q + 1, 0, none⟩ hv).setCell ⟨q + 1, 1, none⟩ sv) hv sv h ss ∧ Below w.heap.size w ((z.setCell ⟨q + 1, 0, none⟩ hv).setCell ⟨q + 1, 1, none⟩ sv) := by
  subst hq
  have k := (f.2.set0 hv).set1 sv
  refine ⟨k.1, k.2.1, ((o.put (p := ⟨w.heap.size + 1, 0, none⟩) (by show w.heap.size + 1 < w.heap.size + 2; omega) _).put (p := ⟨w.heap.size + 1, 1, none⟩) (by show w.heap.size + 1 < w.heap.size + 2; omega) _).mono (by omega), ?_⟩
  exact (hb.setCell (p := ⟨w.heap.size + 1, 0, none⟩) (by show w.heap.size ≤ w.heap.size + 1; omega) _).setCell (p := ⟨w.heap.size + 1, 1, none⟩) (by show w.heap.size ≤ w.heap.size + 1; omega) _
set_option maxRecDepth 100000 in
set_option maxHeartbeats 2000000 in
theorem specLaid_any (w : World) (a sa : Option Addr) (c sc n sn : Nat) (h : List Cel) (hs : List Hd) (ss : List (List Cel)) (hn : h.length = n) (hsn : ss.length = sn) (hv : Vw w a c h) (hvs : VwS w sa sc hs ss) (hlow : Low h ss) (hmod : Mod h ss) :
    Calls Try.prog 56 #[.agg #[.slice a n c, .slice sa sn sc]] w (PbPost (ldH h ss) (ldS h ss) (ldB h ss) w) := by
  have HV := Lib.hid hv; clear hv
  have HVS := Lib.hid hvs; clear hvs
  have HLM := Lib.hid (And.intro hlow hmod); clear hlow hmod
  have HN := Lib.hid (And.intro hn hsn); clear hn hsn
  have H0 := Lib.hid (bel2 w (.cells #[.slice a n c, .slice sa sn sc] 45) (.cells #[.slice none 0 0, .slice none 0 0] 45))
  have F0 := Lib.hid (LdF.made (.slice a n c) (.slice sa sn sc) w)
  have hz0 : ((w.alloc (.cells #[.slice a n c, .slice sa sn sc] 45)).alloc (.cells #[.slice none 0 0, .slice none 0 0] 45)).heap.size = w.heap.size + 2 := by simp
  cases hok : okB h ss
  · have HP := Lib.hid (show ldH h ss = [] ∧ ldS h ss = [] ∧ ldB h ss = false by unfold ldH ldS ldB; rw [hok]; exact ⟨rfl, rfl, rfl⟩)
    have HB := Lib.hid (barnS_is hok _ a sa c sc n sn hs HN.out.1 HN.out.2 (HV.out.below H0.out) (HVS.out.below H0.out) HLM.out.1 HLM.out.2); clear hok
    go_enter Try.func56, Try.ntmps56
    go_wp2_with fail
    refine HB.out.mono ?_; rintro e w1 ⟨rfl, b1⟩
    have F1 := Lib.hid (F0.out.next b1)
    have B1 := Lib.hid (bel_tr H0.out b1 (Nat.le_refl _)); clear b1
    have E1 := Lib.hid (ld_end rfl F1.out (OwB.nothing _ _) B1.out)
    obtain ⟨-, ⟨r0, r1, r2, r3, -⟩⟩ := id F1.out
    go_wp2_with fail
    refine bodyPost_ret (v := .tuple #[.agg #[.slice none 0 0, .slice none 0 0], .bool false]) (by simp [results, Try.results56, go_sem, r0, r1]) rfl ⟨_, _, by rw [HP.out.2.2], by rw [HP.out.1, HP.out.2.1]; exact E1.out.2.2.1, E1.out.2.2.2⟩
  · have hsn5 : sn ≤ 5 := by rw [← HN.out.2]; exact (okB_iff.1 hok).2.1
    have hl2 : ss.length ≤ 1000 := by have := (okB_iff.1 hok).2.1; omega
    have HP := Lib.hid (show ldH h ss = lyH h ss ∧ ldS h ss = lyS h ss ∧ ldB h ss = lyB h ss by unfold ldH ldS ldB; rw [hok]; exact ⟨rfl, rfl, rfl⟩)
    have HB := Lib.hid (barnS_is hok _ a sa c sc n sn hs HN.out.1 HN.out.2 (HV.out.below H0.out) (HVS.out.below H0.out) HLM.out.1 HLM.out.2); clear hok
    go_enter Try.func56, Try.ntmps56
    go_wp2_with fail
    refine HB.out.mono ?_; rintro e w1 ⟨rfl, b1⟩
    have F1 := Lib.hid (F0.out.next b1)
    have z1 : w.heap.size + 2 ≤ w1.heap.size := by have := b1.size; omega
    have B1 := Lib.hid (bel_tr H0.out b1 (Nat.le_refl _)); clear b1 HB
    obtain ⟨⟨x0, x1, -, -, -⟩, -⟩ := id F1.out
    go_wp2_with fail
    refine (l6Copy_any w1 a sa c sc n sn h hs ss HN.out.1 HN.out.2 (HV.out.below B1.out) (HVS.out.below B1.out) HLM.out.1 (by omega)).mono ?_; rintro e w2 ⟨hv, sv, rfl, o2, b2⟩
    have F2 := Lib.hid ((F1.out.next b2).next (bel1 w2 (.cells #[hv, sv] 45)))
    have O2 := Lib.hid (o2.top.next (bel1 w2 (.cells #[hv, sv] 45)))
    have M2 := Lib.hid (Bb.made hv sv w2 45)
    have B2 := Lib.hid (bel_tr (bel_tr B1.out b2 (Nat.le_refl _)) (bel1 w2 (.cells #[hv, sv] 45)) (Nat.le_refl _))
    have z2 := b2.size
    have hz2 : (w2.alloc (.cells #[hv, sv] 45)).heap.size = w2.heap.size + 1 := by simp
    have HPU := Lib.hid (l6Lay_any _ w2.heap.size w1.heap.size w2.heap.size M2.out O2.out (.inr (Nat.le_refl _)) (by rw [hz2]; omega) hl2)
    obtain ⟨va, vc, sva, svc, hs2, rfl, rfl, -, -⟩ := o2.view
    clear o2 b2 x0 x1
    generalize h.length = hl at *
    generalize ss.length = sl at *
    go_wp2_with fail
    refine HPU.out.mono ?_; rintro e w3 ⟨rfl, k3, v3, s3, m3, o3⟩
    have F3 := Lib.hid (F2.out.kept k3 (by omega))
    have B3 := Lib.hid ((kept_ins k3).bel B2.out (by omega) (by rw [hz2]; omega))
    have OO := Lib.hid (o3.mono (show w.heap.size + 2 ≤ w1.heap.size from z1))
    have M3 := Lib.hid m3
    obtain ⟨v3a, v3c, s3a, s3c, -, rfl, rfl, -, -⟩ := o3.view
    clear k3 m3 o3 F2 M2 O2 HPU
    have EE := Lib.hid (ld_end rfl F3.out OO.out B3.out)
    obtain ⟨m0, m1, m2, m3, -⟩ := id M3.out
    obtain ⟨-, ⟨r0, r1, r2, r3, -⟩⟩ := id F3.out
    generalize lyB h ss = pb at *
    generalize (lyH h ss).length = v3n at *
    generalize (lyS h ss).length = s3n at *
    go_wp2_with fail
    change bodyPost Try.prog Try.f56 _ .ret _ ((w3.setCell ⟨w.heap.size + 1, 0, none⟩ (.slice v3a v3n v3c)).setCell ⟨w.heap.size + 1, 1, none⟩ (.slice s3a s3n s3c))
    generalize (w3.setCell ⟨w.heap.size + 1, 0, none⟩ (.slice v3a v3n v3c)).setCell ⟨w.heap.size + 1, 1, none⟩ (.slice s3a s3n s3c) = Z at *
    clear m0 m1 m2 m3 r0 r1 r2 r3
    have e1 : Z.cell? ⟨w.heap.size + 1, 0, none⟩ = some (.slice v3a v3n v3c) := EE.out.1
    have e2 : Z.cell? ⟨w.heap.size + 1, 1, none⟩ = some (.slice s3a s3n s3c) := EE.out.2.1
    refine bodyPost_ret (v := .tuple #[.agg #[.slice v3a v3n v3c, .slice s3a s3n s3c], .bool pb]) (by simp [results, Try.results56, go_sem, e1, e2]) rfl ⟨_, _, by rw [HP.out.2.2], by rw [HP.out.1, HP.out.2.1]; exact EE.out.2.2.1, EE.out.2.2.2⟩
theorem LdF.grown {q : Nat} {u v : Value} {w w' : World} {row : Option Nat} (f : LdF q u v w) (h : w.grownBy w' row) (hr : ∀ k, row = some k → q + 1 < k) : LdF q u v w' := by
  have key : ∀ k, k < w.heap.size → k ≤ q + 1 → w'.heap[k]? = w.heap[k]? := fun k hk hq => h.block k hk (fun e => by have := hr k e.symm; omega)
  exact ⟨f.1.same' (key _ f.1.2.2.2.2 (by omega)), f.2.same' (key _ f.2.2.2.2.2 (by omega))⟩
theorem OwB.laid {B C : Nat} {w w' : World} {hv sv sv' : Value} {us : List Value} {h : List Cel} {ss : List (List Cel)} (hr : RowS B w sv us) (hl : OwL B w (hv :: us) (h :: ss)) (r : RowS B w' sv' (hv :: us)) (g : w.grownBy w' sv.ownBlock) (hC : C ≤ B) : OwB C w' (.slice none 0 0) sv' [] (h :: ss) :=
  OwB.mk (OwC.nothing _ _) (r.mono hC) ((hl.grown g (fun x hx k hk e => hr.apart hl x hx k hk e)).mono hC) (fun x hx k hk => by simp [Value.ownBlock] at hk)
set_option maxRecDepth 100000 in
set_option maxHeartbeats 2000000 in
theorem implLaid_any (w : World) (a sa : Option Addr) (c sc n sn : Nat) (h : List Cel) (hs : List Hd) (ss : List (List Cel)) (hn : h.length = n) (hsn : ss.length = sn) (hv : Vw w a c h) (hvs : VwS w sa sc hs ss) (hlow : Low h ss) :
    Calls Try.prog 57 #[.agg #[.slice a n c, .slice sa sn sc]] w (PbPost (ldH h ss) (ldS h ss) (ldB h ss) w) := by
  have HV := Lib.hid hv; clear hv
  have HVS := Lib.hid hvs; clear hvs
  have HLOW := Lib.hid hlow; clear hlow
  have HN := Lib.hid (And.intro hn hsn)
  have HLY := Lib.hid (show lyB h ss = !(decide (n = 0) || decide (sn = 5)) by unfold lyB; rw [show (ss.length == 5) = decide (ss.length = 5) from rfl, ← hn, ← hsn]; cases h <;> simp)
  clear hn hsn
  have H0 := Lib.hid (bel2 w (.cells #[.slice a n c, .slice sa sn sc] 45) (.cells #[.slice none 0 0, .slice none 0 0] 45))
  have F0 := Lib.hid (LdF.made (.slice a n c) (.slice sa sn sc) w)
  have hz0 : ((w.alloc (.cells #[.slice a n c, .slice sa sn sc] 45)).alloc (.cells #[.slice none 0 0, .slice none 0 0] 45)).heap.size = w.heap.size + 2 := by simp
  cases hok : okB h ss
  · have HP := Lib.hid (show ldH h ss = [] ∧ ldS h ss = [] ∧ ldB h ss = false by unfold ldH ldS ldB; rw [hok]; exact ⟨rfl, rfl, rfl⟩)
    have HB := Lib.hid (barnI_is hok _ a sa c sc n sn hs HN.out.1 HN.out.2 (HV.out.below H0.out) (HVS.out.below H0.out) HLOW.out); clear hok
    go_enter Try.func57, Try.ntmps57
    go_wp2_with fail
    refine HB.out.mono ?_; rintro e w1 ⟨rfl, b1⟩
    have F1 := Lib.hid (F0.out.next b1)
    have B1 := Lib.hid (bel_tr H0.out b1 (Nat.le_refl _)); clear b1
    have E1 := Lib.hid (ld_end rfl F1.out (OwB.nothing _ _) B1.out)
    obtain ⟨-, ⟨r0, r1, r2, r3, -⟩⟩ := id F1.out
    go_wp2_with fail
    refine bodyPost_ret (v := .tuple #[.agg #[.slice none 0 0, .slice none 0 0], .bool false]) (by simp [results, Try.results57, go_sem, r0, r1]) rfl ⟨_, _, by rw [HP.out.2.2], by rw [HP.out.1, HP.out.2.1]; exact E1.out.2.2.1, E1.out.2.2.2⟩
  have hsn5 : sn ≤ 5 := by rw [← HN.out.2]; exact (okB_iff.1 hok).2.1
  have HB := Lib.hid (barnI_is hok _ a sa c sc n sn hs HN.out.1 HN.out.2 (HV.out.below H0.out) (HVS.out.below H0.out) HLOW.out)
  have HP0 := Lib.hid (show ldH h ss = lyH h ss ∧ ldS h ss = lyS h ss ∧ ldB h ss = lyB h ss by unfold ldH ldS ldB; rw [hok]; exact ⟨rfl, rfl, rfl⟩); clear hok
  by_cases hno : n = 0 ∨ sn = 5
  · have HP := Lib.hid (show ldH h ss = h ∧ ldS h ss = ss ∧ ldB h ss = false by
      have e : lyB h ss = false := by rw [HLY.out]; rcases hno with e | e <;> simp [e]
      rw [HP0.out.1, HP0.out.2.1, HP0.out.2.2]; unfold lyH lyS; rw [e]; exact ⟨rfl, rfl, rfl⟩)
    clear HP0 HLY
    go_enter Try.func57, Try.ntmps57
    go_wp2_with fail
    refine HB.out.mono ?_; rintro e w1 ⟨rfl, b1⟩
    have F1 := Lib.hid (F0.out.next b1)
    have z1 : w.heap.size + 2 ≤ w1.heap.size := by have := b1.size; omega
    have B1 := Lib.hid (bel_tr H0.out b1 (Nat.le_refl _)); clear b1 HB
    obtain ⟨⟨x0, x1, -, -, -⟩, -⟩ := id F1.out
    go_wp2_with fail
    refine (copyOfBarn_any w1 a sa c sc n sn h hs ss HN.out.1 HN.out.2 (HV.out.below B1.out) (HVS.out.below B1.out) HLOW.out (by omega)).mono ?_; rintro e w2 ⟨hv, sv, rfl, o2, b2⟩
    have F2 := Lib.hid ((F1.out.next b2).next (bel1 w2 (.cells #[hv, sv] 45)))
    have O2 := Lib.hid (o2.next (bel1 w2 (.cells #[hv, sv] 45)))
    have M2 := Lib.hid (Bb.made hv sv w2 45)
    have B2 := Lib.hid (bel_tr (bel_tr B1.out b2 (Nat.le_refl _)) (bel1 w2 (.cells #[hv, sv] 45)) (Nat.le_refl _))
    have z2 := b2.size
    have hz2 : (w2.alloc (.cells #[hv, sv] 45)).heap.size = w2.heap.size + 1 := by simp
    obtain ⟨va, vc, sva, svc, hs2, rfl, rfl, -, -⟩ := o2.view
    rw [HN.out.1, HN.out.2] at F2 O2 M2 B2 hz2 ⊢
    clear o2 b2 x0 x1
    have z3 : w2.heap.size < (w2.alloc (.cells #[.slice va n vc, .slice sva sn svc] 45)).heap.size := by omega
    have EE := Lib.hid (ld_end rfl F2.out (O2.out.mono z1) B2.out)
    obtain ⟨⟨x0, x1, -, -, -⟩, ⟨r0, r1, r2, r3, -⟩⟩ := id F2.out
    obtain ⟨m0, m1, m2, m3, -⟩ := id M2.out
    by_cases h0 : n = 0
    · have q0 : (n : Int) = 0 := by omega
      have q0' : ((n : Int) == 0) = true := by simp [h0]
      clear hno h0
      go_wp2_with fail
      generalize ((w2.alloc (.cells #[.slice va n vc, .slice sva sn svc] 45)).setCell ⟨w.heap.size + 1, 0, none⟩ (.slice va n vc)).setCell ⟨w.heap.size + 1, 1, none⟩ (.slice sva sn svc) = Z at *
      have e1 : Z.cell? ⟨w.heap.size + 1, 0, none⟩ = some (.slice va n vc) := EE.out.1
      have e2 : Z.cell? ⟨w.heap.size + 1, 1, none⟩ = some (.slice sva sn svc) := EE.out.2.1
      clear m0 m1 m2 m3 r0 r1 r2 r3
      refine bodyPost_ret (v := .tuple #[.agg #[.slice va n vc, .slice sva sn svc], .bool false]) (by simp [results, Try.results57, go_sem, e1, e2]) rfl ⟨_, _, by rw [HP.out.2.2], by rw [HP.out.1, HP.out.2.1]; exact EE.out.2.2.1, EE.out.2.2.2⟩
    · have hs5 : sn = 5 := hno.resolve_left h0
      have q0 : ¬ (n : Int) = 0 := by omega
      have q0' : ((n : Int) == 0) = false := by simp [h0]
      have q5 : (sn : Int) = 5 := by omega
      have q5' : ((sn : Int) == 5) = true := by simp; omega
      clear hno h0 hs5 hsn5
      go_wp2_with fail
      generalize ((w2.alloc (.cells #[.slice va n vc, .slice sva sn svc] 45)).setCell ⟨w.heap.size + 1, 0, none⟩ (.slice va n vc)).setCell ⟨w.heap.size + 1, 1, none⟩ (.slice sva sn svc) = Z at *
      have e1 : Z.cell? ⟨w.heap.size + 1, 0, none⟩ = some (.slice va n vc) := EE.out.1
      have e2 : Z.cell? ⟨w.heap.size + 1, 1, none⟩ = some (.slice sva sn svc) := EE.out.2.1
      clear m0 m1 m2 m3 r0 r1 r2 r3
      refine bodyPost_ret (v := .tuple #[.agg #[.slice va n vc, .slice sva sn svc], .bool false]) (by simp [results, Try.results57, go_sem, e1, e2]) rfl ⟨_, _, by rw [HP.out.2.2], by rw [HP.out.1, HP.out.2.1]; exact EE.out.2.2.1, EE.out.2.2.2⟩
  · have hn0 : ¬ n = 0 := fun e => hno (.inl e)
    have hs5 : ¬ sn = 5 := fun e => hno (.inr e)
    have HP := Lib.hid (show ldH h ss = [] ∧ ldS h ss = h :: ss ∧ ldB h ss = true by
      have e : lyB h ss = true := by rw [HLY.out, decide_eq_false hn0, decide_eq_false hs5]; rfl
      rw [HP0.out.1, HP0.out.2.1, HP0.out.2.2]; unfold lyH lyS; rw [e]; exact ⟨rfl, rfl, rfl⟩)
    clear HP0 HLY hno
    have q0 : ¬ (n : Int) = 0 := by omega
    have q0' : ((n : Int) == 0) = false := by simp [hn0]
    have q5 : ¬ (sn : Int) = 5 := by omega
    have q5' : ((sn : Int) == 5) = false := by simp; omega
    go_enter Try.func57, Try.ntmps57
    go_wp2_with fail
    refine HB.out.mono ?_; rintro e w1 ⟨rfl, b1⟩
    have F1 := Lib.hid (F0.out.next b1)
    have z1 : w.heap.size + 2 ≤ w1.heap.size := by have := b1.size; omega
    have B1 := Lib.hid (bel_tr H0.out b1 (Nat.le_refl _)); clear b1 HB
    obtain ⟨⟨x0, x1, -, -, -⟩, -⟩ := id F1.out
    go_wp2_with fail
    refine (copyOfBarn_any w1 a sa c sc n sn h hs ss HN.out.1 HN.out.2 (HV.out.below B1.out) (HVS.out.below B1.out) HLOW.out (by omega)).mono ?_; rintro e w2 ⟨hv, sv, rfl, o2, b2⟩
    have F2 := Lib.hid ((F1.out.next b2).next (bel1 w2 (.cells #[hv, sv] 45)))
    have O2 := Lib.hid (o2.next (bel1 w2 (.cells #[hv, sv] 45)))
    have M2 := Lib.hid (Bb.made hv sv w2 45)
    have B2 := Lib.hid (bel_tr (bel_tr B1.out b2 (Nat.le_refl _)) (bel1 w2 (.cells #[hv, sv] 45)) (Nat.le_refl _))
    have z2 := b2.size
    have hz2 : (w2.alloc (.cells #[hv, sv] 45)).heap.size = w2.heap.size + 1 := by simp
    obtain ⟨va, vc, sva, svc, hs2, rfl, rfl, -, -⟩ := o2.view
    rw [HN.out.1, HN.out.2] at F2 O2 M2 B2 hz2 ⊢
    clear o2 b2 x0 x1
    have z3 : w2.heap.size < (w2.alloc (.cells #[.slice va n vc, .slice sva sn svc] 45)).heap.size := by omega
    obtain ⟨us, hr, hl⟩ := id O2.out
    have hul : us.length = ss.length := by have := hl.1; simpa using this
    have hul2 : us.length ≤ 1000 := by rw [hul, HN.out.2]; omega
    have b3 := bel1 (w2.alloc (.cells #[.slice va n vc, .slice sva sn svc] 45)) (.cells #[.slice va n vc] 24)
    have z4 := b3.size
    have HI := Lib.hid (insert_own ((w2.alloc (.cells #[.slice va n vc, .slice sva sn svc] 45)).alloc (.cells #[.slice va n vc] 24)) (vb := w2.heap.size + 1) (hr.next b3) ⟨va, n, vc, rfl⟩ (fun v hv => OwL.one hl v (List.mem_cons_of_mem _ hv))
      (by have := World.alloc_heap_new (w2.alloc (.cells #[.slice va n vc, .slice sva sn svc] 45)) (.cells #[.slice va n vc] 24); rwa [hz2] at this) (fun e => by have := (World.ownsRow.lt hr _ e).2; omega) hul2 (by omega))
    have F3 := Lib.hid (F2.out.next b3)
    have B3 := Lib.hid (bel_tr B2.out b3 (Nat.le_refl _))
    have HR3 := Lib.hid (hr.next b3)
    have HL3 := Lib.hid (hl.next b3)
    clear b3 hr hl hul hul2
    obtain ⟨⟨x0, x1, -, -, -⟩, -⟩ := id F2.out
    obtain ⟨m0, m1, m2, m3, -⟩ := id M2.out
    go_wp2_with fail
    refine HI.out.mono ?_; rintro e w4 ⟨sv4, rfl, r4, g4, -⟩
    have F4 := Lib.hid (F3.out.grown g4 (fun k hk => by have := RowS.lt HR3.out k hk; omega))
    have B4 := Lib.hid (B3.out.grown g4 (by have := B3.out.size; omega) (fun k hk => by have := RowS.lt HR3.out k hk; omega))
    have O4 := Lib.hid (OwB.laid HR3.out HL3.out r4 g4 z1)
    have M4 := Lib.hid r4
    obtain ⟨s4a, s4c, e4, -, -, -, -⟩ := r4.form
    subst e4
    clear r4 g4 x0 x1 m0 m1 m2 m3 F3 B3 HI
    have EE := Lib.hid (ld_end rfl F4.out O4.out B4.out)
    obtain ⟨-, ⟨r0, r1, r2, r3, -⟩⟩ := id F4.out
    generalize (Value.slice va n vc :: us).length = s4n at *
    go_wp2_with fail
    generalize (w4.setCell ⟨w.heap.size + 1, 0, none⟩ (.slice none 0 0)).setCell ⟨w.heap.size + 1, 1, none⟩ (.slice s4a s4n s4c) = Z at *
    have e1 : Z.cell? ⟨w.heap.size + 1, 0, none⟩ = some (.slice none 0 0) := EE.out.1
    have e2 : Z.cell? ⟨w.heap.size + 1, 1, none⟩ = some (.slice s4a s4n s4c) := EE.out.2.1
    clear r0 r1 r2 r3
    refine bodyPost_ret (v := .tuple #[.agg #[.slice none 0 0, .slice s4a s4n s4c], .bool true]) (by simp [results, Try.results57, go_sem, e1, e2]) rfl ⟨_, _, by rw [HP.out.2.2], by rw [HP.out.1, HP.out.2.1]; exact EE.out.2.2.1, EE.out.2.2.2⟩
theorem specLaidO {B : Nat} {hv sv : Value} {h : List Cel} {ss : List (List Cel)} (w : World) (o : OwB B w hv sv h ss) (hlow : Low h ss) (hmod : Mod h ss) :
    Calls Try.prog 56 #[.agg #[hv, sv]] w (PbPost (ldH h ss) (ldS h ss) (ldB h ss) w) := by
  obtain ⟨a, c, sa, sc, hs, rfl, rfl, h1, h2⟩ := o.view
  exact specLaid_any w a sa c sc _ _ h hs ss rfl rfl h1 h2 hlow hmod
theorem implLaidO {B : Nat} {hv sv : Value} {h : List Cel} {ss : List (List Cel)} (w : World) (o : OwB B w hv sv h ss) (hlow : Low h ss) :
    Calls Try.prog 57 #[.agg #[hv, sv]] w (PbPost (ldH h ss) (ldS h ss) (ldB h ss) w) := by
  obtain ⟨a, c, sa, sc, hs, rfl, rfl, h1, h2⟩ := o.view
  exact implLaid_any w a sa c sc _ _ h hs ss rfl rfl h1 h2 hlow
theorem ld_low (h : List Cel) (ss : List (List Cel)) : Low (ldH h ss) (ldS h ss) ∧ (ldH h ss).length + tott (ldS h ss) ≤ 1048576 := by
  unfold ldH ldS
  cases hok : okB h ss
  · exact ⟨⟨by simp, by simp, fun l hl => by simp at hl⟩, by simp [tott]⟩
  · obtain ⟨h1, h2⟩ := okB_tot hok
    obtain ⟨-, h3, h4⟩ := okB_iff.1 hok
    have h5 : ∀ l ∈ ss, l.length ≤ 200 := fun l hl => (okL_iff.1 (h4 l hl).2).2
    simp only [if_true]
    unfold lyH lyS
    cases lyB h ss
    · exact ⟨⟨by simp; omega, by simp; omega, fun l hl => by have := h5 l (by simpa using hl); omega⟩, by simp; omega⟩
    · refine ⟨⟨by simp, by simp; omega, fun l hl => ?_⟩, by simp [tott_cons]; omega⟩
      rcases List.mem_cons.1 (show l ∈ h :: ss by simpa using hl) with rfl | hl
      · omega
      · have := h5 l hl; omega
end Go.Proofs.Ytkkpokfekbdigaa.Cl
