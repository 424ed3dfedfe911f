/-
  Proved: for every input the Go function laws.FnExactCutBin returns true, and each argument reads afterwards as it read before.
  Conditions: none beyond those of the given row.
-/
import Derived.Test.YtcloejmakjdgcaaRows
import Derived.WalkKit
import Derived.ProofKit
import Derived.OpenShut
import Derived.ShutString
import Derived.Carry
import Derived.Below
import Derived.Test.YtcloejmakjdgcaaJd
import Derived.Test.YtcloejmakjdgcaaJo
namespace Go.Proofs.Ytcloejmakjdgcaa.fnExactCutBin
open Go.ChangeShapes Go.WideShapes Go.ChangeAt Go.RowKit
open Go.ChangeMaps (open_string shut_string)
set_option linter.unusedVariables false

theorem laidOut : laidOutB Try.prog = true := by kernel_rfl
theorem own : ownKnob Try.prog.godebug = none := by kernel_rfl

open Kp Cl
set_option maxHeartbeats 8000000 in
set_option maxRecDepth 100000 in
theorem walk (w : World) (a : Option Addr) (ca : Nat) (l : List Bi) (n : Nat) (s : ByteArray) (hn : l.length = n) (hv : VwI w a ca l) (hm : ∀ c ∈ l, c.n.size ≤ 9223372036854775807) (hs : s.size ≤ 9223372036854775807) :
    Calls Try.prog 13 #[.slice a n ca, .string s] w fun e w' => e = .returned (.bool true) ∧ Below w.heap.size w w' := by
  have HV := Lib.hid hv; clear hv
  by_cases hss : 1048576 < s.size
  · have i0 : (1048576 : Int) < (s.size : Int) := by omega
    go_enter Try.func13, Try.ntmps13
    go_wp2_with fail
    go_ret
    exact ⟨rfl, Below.refl _ _⟩
  have i0 : ¬ (1048576 : Int) < (s.size : Int) := by omega
  have HSS := Lib.hid (show s.size ≤ 9223372036854775806 by omega)
  have HSZ := Lib.hid (szBinS_any w a ca l n 1048576 hn HV.out hm (by decide) (by decide))
  go_enter Try.func13, Try.ntmps13
  go_wp2_with fail
  refine HSZ.out.mono ?_; rintro e w1 ⟨z, rfl, b1, hz⟩
  have B1 := Lib.hid b1; clear b1 HSZ
  rcases hz with hz | ⟨z0, z1, hzl, hma⟩
  · go_wp2_with fail
    go_ret
    exact ⟨rfl, B1.out⟩
  have hll : n ≤ 1048576 := by omega
  have HMA := Lib.hid (show ∀ c ∈ l, c.n.size ≤ 9223372036854775806 from fun c hc => by have := hma c hc; omega); clear hma
  have hl4 : l.length ≤ 4194304 := by omega
  have q0 : ¬ z < 0 := by omega
  have HPL := Lib.hid (show (cbP l s).length ≤ 4194304 from cbP_len l s hl4)
  have HI := Lib.hid (fun w1 {g : Nat} (h : VwI w1 (some ⟨g, 0, none⟩) n l) => implCut_any w1 _ _ l n s hn h (by omega))
  unfold CbPost at HI
  clear z0 z1 hzl
  have Z1 := Lib.hid B1.out.size
  go_wp2_with fail
  refine (toBinS_is w1 a ca l n hn (HV.out.below B1.out) hll).mono ?_; rintro e w2 ⟨q1, rfl, -, o, b2⟩
  have Ta := Lib.hid (show ∀ k, (.slice (some ⟨q1, 0, none⟩) n n : Value).ownBlock = some k → w1.heap.size ≤ k from OwI.lt o)
  have Ua := Lib.hid (show ∀ k, (.slice (some ⟨q1, 0, none⟩) n n : Value).ownBlock = some k → w2.heap.size > k from OwI.low o)
  have B2 := Lib.hid (bel_tr B1.out b2 (Nat.le_refl _))
  have Z2 := Lib.hid b2.size
  have Oa := Lib.hid o; clear o b2
  go_wp2_with fail
  refine (specCut_any w2 _ _ l n s hn Oa.out.vw HMA.out (by omega)).mono ?_; rintro e w3 ⟨vp, rfl, o, b3⟩
  have TP := Lib.hid (show ∀ k, (vp : Value).ownBlock = some k → w2.heap.size ≤ k from OwI.lt o)
  have UP := Lib.hid (show ∀ k, (vp : Value).ownBlock = some k → w3.heap.size > k from OwI.low o)
  have B3 := Lib.hid (bel_tr B2.out b3 (Nat.le_refl _))
  have Z3 := Lib.hid b3.size
  have Oa := Lib.hid (Oa.out.next b3)
  have OP := Lib.hid o; clear o b3
  clear Oa
  obtain ⟨vpa, vpc, evp, -⟩ := OP.out.view
  subst evp
  go_wp2_with fail
  refine (toBinS_is w3 a ca l n hn (HV.out.below B3.out) hll).mono ?_; rintro e w4 ⟨q2, rfl, -, o, b4⟩
  have Tx := Lib.hid (show ∀ k, (.slice (some ⟨q2, 0, none⟩) n n : Value).ownBlock = some k → w3.heap.size ≤ k from OwI.lt o)
  have Ux := Lib.hid (show ∀ k, (.slice (some ⟨q2, 0, none⟩) n n : Value).ownBlock = some k → w4.heap.size > k from OwI.low o)
  have B4 := Lib.hid (bel_tr B3.out b4 (Nat.le_refl _))
  have Z4 := Lib.hid b4.size
  have OP := Lib.hid (OP.out.next b4)
  have Ox := Lib.hid o; clear o b4
  go_wp2_with fail
  refine (implCut_any w4 _ _ l n s hn Ox.out.vw (by omega)).mono ?_; rintro e w5 ⟨vg, rfl, o, b5⟩
  have TG := Lib.hid (show ∀ k, (vg : Value).ownBlock = some k → w4.heap.size ≤ k from OwI.lt o)
  have UG := Lib.hid (show ∀ k, (vg : Value).ownBlock = some k → w5.heap.size > k from OwI.low o)
  have B5 := Lib.hid (bel_tr B4.out b5 (Nat.le_refl _))
  have Z5 := Lib.hid b5.size
  have OP := Lib.hid (OP.out.next b5)
  have Ox := Lib.hid (Ox.out.next b5)
  have OG := Lib.hid o; clear o b5
  obtain ⟨vga, vgc, evg, -⟩ := OG.out.view
  subst evg
  generalize hPX : cbP l s = px at *
  clear hPX
  generalize hpn : px.length = p at *
  have HPN := Lib.hid hpn; clear hpn
  have hp4 : p ≤ 4194304 := HPL.out
  go_wp2_with fail
  refine (eqI_own w5 OG.out OP.out (by rw [HPN.out]; exact hp4)).mono ?_; rintro e w6 ⟨rfl, b6⟩
  have B6 := Lib.hid (bel_tr B5.out b6 (Nat.le_refl _))
  have Z6 := Lib.hid b6.size
  have OP := Lib.hid (OP.out.next b6)
  have Ox := Lib.hid (Ox.out.next b6)
  have OG := Lib.hid (OG.out.next b6)
  clear b6
  go_wp2_with fail
  refine (toBinS_is w6 a ca l n hn (HV.out.below B6.out) hll).mono ?_; rintro e w7 ⟨q3, rfl, -, o, b7⟩
  have Tt := Lib.hid (show ∀ k, (.slice (some ⟨q3, 0, none⟩) n n : Value).ownBlock = some k → w6.heap.size ≤ k from OwI.lt o)
  have Ut := Lib.hid (show ∀ k, (.slice (some ⟨q3, 0, none⟩) n n : Value).ownBlock = some k → w7.heap.size > k from OwI.low o)
  have B7 := Lib.hid (bel_tr B6.out b7 (Nat.le_refl _))
  have Z7 := Lib.hid b7.size
  have OP := Lib.hid (OP.out.next b7)
  have Ox := Lib.hid (Ox.out.next b7)
  have OG := Lib.hid (OG.out.next b7)
  have Ot := Lib.hid o; clear o b7
  go_wp2_with fail
  refine (eqI_own w7 Ox.out Ot.out hl4).mono ?_; rintro e w8 ⟨rfl, b8⟩
  have B8 := Lib.hid (bel_tr B7.out b8 (Nat.le_refl _))
  have Z8 := Lib.hid b8.size
  have OP := Lib.hid (OP.out.next b8)
  have Ox := Lib.hid (Ox.out.next b8)
  have OG := Lib.hid (OG.out.next b8)
  have Ot := Lib.hid (Ot.out.next b8)
  clear b8
  clear Ot
  have k0 : ¬ ((1 + 2 * n : Nat) : Int) < 0 := by omega
  go_wp2_with fail
  refine (markI_from (s := 1) w8 Ox.out hn (by omega) (by decide) (by decide)).mono ?_; rintro e w9 ⟨rfl, g9, -⟩
  have B9 := Lib.hid (B8.out.grown g9 B8.out.size (fun j hj => by have := Tx.out j hj; have := B8.out.size; have := Z1.out; have := Z2.out; have := Z3.out; have := Z4.out; have := Z5.out; have := Z6.out; have := Z7.out; have := Z8.out; omega))
  have OP := Lib.hid (OP.out.grown g9 (fun k hk e => by have := Tx.out k e; have := Ux.out k e; have := TP.out k hk; have := UP.out k hk; have := Z1.out; have := Z2.out; have := Z3.out; have := Z4.out; have := Z5.out; have := Z6.out; have := Z7.out; have := Z8.out; omega))
  have OG := Lib.hid (OG.out.grown g9 (fun k hk e => by have := Tx.out k e; have := Ux.out k e; have := TG.out k hk; have := UG.out k hk; have := Z1.out; have := Z2.out; have := Z3.out; have := Z4.out; have := Z5.out; have := Z6.out; have := Z7.out; have := Z8.out; omega))
  have Z9 := Lib.hid g9.size
  clear g9
  clear Ox
  generalize ((1 + 2 * n : Nat) : Int) = kk at k0 ⊢
  go_wp2_with fail
  refine (eqI_own w9 OG.out OP.out (by rw [HPN.out]; exact hp4)).mono ?_; rintro e w10 ⟨rfl, b10⟩
  have B10 := Lib.hid (bel_tr B9.out b10 (Nat.le_refl _))
  have Z10 := Lib.hid b10.size
  have OP := Lib.hid (OP.out.next b10)
  have OG := Lib.hid (OG.out.next b10)
  clear b10
  have m0 : ¬ ((1 + 2 * p : Nat) : Int) < 0 := by omega
  have m1 : (((1 + 2 * p : Nat) : Int) != ((1 + 2 * p : Nat) : Int)) = false := by simp
  go_wp2_with fail
  refine (markI_from (s := 1) w10 OG.out HPN.out (by omega) (by decide) (by decide)).mono ?_; rintro e w11 ⟨rfl, g11, PM, hPM, hMk, og⟩
  have B11 := Lib.hid (B10.out.grown g11 B10.out.size (fun j hj => by have := TG.out j hj; have := B10.out.size; have := Z1.out; have := Z2.out; have := Z3.out; have := Z4.out; have := Z5.out; have := Z6.out; have := Z7.out; have := Z8.out; have := Z9.out; have := Z10.out; omega))
  have OP := Lib.hid (OP.out.grown g11 (fun k hk e => by have := TG.out k e; have := UG.out k e; have := TP.out k hk; have := UP.out k hk; have := Z1.out; have := Z2.out; have := Z3.out; have := Z4.out; have := Z5.out; have := Z6.out; have := Z7.out; have := Z8.out; have := Z9.out; have := Z10.out; omega))
  have Z11 := Lib.hid g11.size
  clear g11
  have OG := Lib.hid og
  have HMK := Lib.hid hMk; clear og hMk
  have HH := Lib.hid (fun w (h : OwI w4.heap.size w (.slice vga p vgc) PM) => heldI_from (n := p) (s := 1) w h hPM HMK.out (by omega) (by decide) (by decide))
  generalize ((1 + 2 * p : Nat) : Int) = mm at m0 m1 HH ⊢
  go_wp2_with fail
  refine (HH.out w11 OG.out).mono ?_; rintro e w12 ⟨rfl, b12⟩
  have B12 := Lib.hid (bel_tr B11.out b12 (Nat.le_refl _))
  have Z12 := Lib.hid b12.size
  have OP := Lib.hid (OP.out.next b12)
  have OG := Lib.hid (OG.out.next b12)
  clear b12
  go_wp2_with fail
  refine (toBinS_is w12 a ca l n hn (HV.out.below B12.out) hll).mono ?_; rintro e w13 ⟨q4, rfl, -, o, b13⟩
  have Tc := Lib.hid (show ∀ k, (.slice (some ⟨q4, 0, none⟩) n n : Value).ownBlock = some k → w12.heap.size ≤ k from OwI.lt o)
  have Uc := Lib.hid (show ∀ k, (.slice (some ⟨q4, 0, none⟩) n n : Value).ownBlock = some k → w13.heap.size > k from OwI.low o)
  have B13 := Lib.hid (bel_tr B12.out b13 (Nat.le_refl _))
  have Z13 := Lib.hid b13.size
  have OP := Lib.hid (OP.out.next b13)
  have OG := Lib.hid (OG.out.next b13)
  have Oc := Lib.hid o; clear o b13
  go_wp2_with fail
  refine (HI.out w13 Oc.out.vw).mono ?_; rintro e w14 ⟨vh, rfl, o, b14⟩
  have TH := Lib.hid (show ∀ k, (vh : Value).ownBlock = some k → w13.heap.size ≤ k from OwI.lt o)
  have UH := Lib.hid (show ∀ k, (vh : Value).ownBlock = some k → w14.heap.size > k from OwI.low o)
  have B14 := Lib.hid (bel_tr B13.out b14 (Nat.le_refl _))
  have Z14 := Lib.hid b14.size
  have OP := Lib.hid (OP.out.next b14)
  have OG := Lib.hid (OG.out.next b14)
  have Oc := Lib.hid (Oc.out.next b14)
  have OH := Lib.hid o; clear o b14
  clear Oc
  go_wp2_with fail
  refine (eqI_own w14 OH.out OP.out (by rw [HPN.out]; exact hp4)).mono ?_; rintro e w15 ⟨rfl, b15⟩
  have B15 := Lib.hid (bel_tr B14.out b15 (Nat.le_refl _))
  have Z15 := Lib.hid b15.size
  have OP := Lib.hid (OP.out.next b15)
  have OG := Lib.hid (OG.out.next b15)
  have OH := Lib.hid (OH.out.next b15)
  clear b15
  go_wp2_with fail
  refine (HH.out w15 OG.out).mono ?_; rintro e w16 ⟨rfl, b16⟩
  have B16 := Lib.hid (bel_tr B15.out b16 (Nat.le_refl _))
  have Z16 := Lib.hid b16.size
  have OP := Lib.hid (OP.out.next b16)
  have OG := Lib.hid (OG.out.next b16)
  have OH := Lib.hid (OH.out.next b16)
  clear b16
  go_wp2_with fail
  go_ret
  exact ⟨rfl, B16.out⟩

set_option maxRecDepth 100000 in
theorem lifted (os : Os) (started : os.Started) (H : Type) (enc : TypeId × Value → H) :
    ReturnsInHanded {} Try.checked os 13 .any (Rows.fnExactCutBinSpec.pre6 enc Try.prog Try.f13 Rows.fnExactCutBinRow.domain false) (Rows.fnExactCutBinSpec.post enc Try.prog Try.f13 false true false false) := by
  refine returnsInHanded_of_change (C := Try.checked) own started (by kernel_rfl) Try.func13
    (ChangeSpec.witness6 (enc := enc) (C := Try.checked) false ⟨#[], #[.slice none 0 0, .string ByteArray.empty], []⟩ 8 (by kernel_rfl) (by kernel_rfl) (by kernel_rfl) (by kernel_rfl)) ?_
  intro W base args ds gs before hval0 hW hcnd _
  have hval : ∀ (j : Nat) t v, Try.f13.params[j]? = some t → args[j]? = some v → Value.okWide Try.prog W .any base t v := hval0
  have hW' := hW
  obtain ⟨p, q, hA0, hV, rfl, hfz, hnd⟩ := hW
  have hA : DataW.TrodAll enc Try.prog W 0 (fun _ => true) true Try.f13.params.toList args.toList ds p := hA0
  rw [Try.params13] at hA hval
  obtain ⟨v0, vs0, d0, ds0, p0, q0, hargs, rfl, rfl, h0, r0⟩ := trodAll_cons hA
  obtain ⟨v1, vs1, d1, ds1, p1, q1, rfl, rfl, rfl, h1, r1⟩ := trodAll_cons r0
  obtain ⟨rfl, rfl, rfl⟩ := trodAll_nil r1
  obtain rfl : args = #[v0, v1] := by cases args; simp_all
  obtain ⟨rfl, rfl⟩ := trodVars_none hV
  have k0 := h0
  have lt0 : ∀ x ∈ p0, x.block < W.heap.size := by obtain ⟨m, hm⟩ := k0; exact DataW.trod_lt m _ _ _ hm
  have k1 := h1
  have lt1 : ∀ x ∈ p1, x.block < W.heap.size := by obtain ⟨m, hm⟩ := k1; exact DataW.trod_lt m _ _ _ hm
  clear hA0 hval0
  obtain ⟨a, ca, l, rfl, hvw, hsz⟩ := Fr.openBins (hval 0 69 v0 rfl rfl) h0
  unfold maxLen at hsz
  obtain ⟨s, rfl, -, -, hs3⟩ := open_string Try.underlying9 (hval 1 9 v1 rfl rfl) h1
  unfold maxLen at hs3
  refine (walk W a ca l _ s rfl hvw (fun c hc => by have := hsz c hc; omega) (by omega)).mono fun e W' ⟨he, bel⟩ => ?_
  subst he
  exact ⟨_, rfl, _, _, _, [], _, [], hW', trodAll_mk1 (shut_bool Try.underlying4 _), (trodAll_cons_mk (Below.trod laidOut (by kernel_rfl) (of_decide_eq_true (by kernel_rfl)) k0 bel lt0) (trodAll_cons_mk (Below.trod laidOut (by kernel_rfl) (of_decide_eq_true (by kernel_rfl)) k1 bel lt1) trodAll_mk0)), rfl, bel.frame _, fun h => by cases h⟩

theorem over : Rows.fnExactCutBinRow.holds Try.pinned (OpenSpec.ofChange Rows.fnExactCutBinSpec) :=
  OpenClaim.holds_of_wide 13 Try.f13 rfl rfl rfl rfl rfl rfl rfl ⟨rfl, rfl, rfl, rfl, rfl⟩ rfl rfl rfl rfl rfl (by kernel_rfl) Try.func13 (by kernel_rfl)
    (of_decide_eq_true (by kernel_rfl)) (by unfold Func.isWrapper; first | (rw [if_pos (by decide +kernel)]; kernel_rfl) | (rw [if_neg (by decide +kernel)]; exact ⟨rfl, rfl⟩))
    (fun os started H enc _ => lifted os started H enc)

theorem proved : Rows.FnExactCutBinSaid := over
#print axioms proved
end Go.Proofs.Ytcloejmakjdgcaa.fnExactCutBin
