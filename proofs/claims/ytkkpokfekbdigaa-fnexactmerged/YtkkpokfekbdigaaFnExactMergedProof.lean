/-
  Proved: for every input the Go function laws.FnExactMerged returns true, and each argument reads afterwards as it read before.
  Conditions: none beyond those of the given row.
-/
import Derived.Test.YtkkpokfekbdigaaRows
import Derived.WalkKit
import Derived.ProofKit
import Derived.OpenShut
import Derived.ShutString
import Derived.Carry
import Derived.Below
import Derived.Test.YtkkpokfekbdigaaPk
import Derived.Test.YtkkpokfekbdigaaFr
namespace Go.Proofs.Ytkkpokfekbdigaa.fnExactMerged
open Go.ChangeShapes Go.WideShapes Go.ChangeAt Go.RowKit
open Go.ChangeMaps (open_string shut_string)
set_option linter.unusedVariables false

theorem laidOut : laidOutB Try.prog = true := by kernel_rfl
theorem own : ownKnob Try.prog.godebug = none := by kernel_rfl

open Kp Cl
theorem mod_of {l : List Cel} {n : Int} (h : ∀ c ∈ l, (c.r.size : Int) ≤ n ∧ (c.b.size : Int) ≤ n) (hn : n ≤ 1048576) : ∀ c ∈ l, c.mod := fun c hc => by
  have := h c hc
  exact ⟨by omega, by omega⟩
set_option maxHeartbeats 8000000 in
set_option maxRecDepth 100000 in
theorem walk (w : World) (a b : Option Addr) (ca cb : Nat) (l m : List Cel) (n k : Nat) (hn : l.length = n) (hk : m.length = k) (hv : Vw w a ca l) (hu : Vw w b cb m) (hm : ∀ c ∈ l, c.r.size ≤ 9223372036854775807 ∧ c.b.size ≤ 9223372036854775807) (hmm : ∀ c ∈ m, c.r.size ≤ 9223372036854775807 ∧ c.b.size ≤ 9223372036854775807) :
    Calls Try.prog 11 #[.slice a n ca, .slice b k cb] w fun e w' => e = .returned (.bool true) ∧ Below w.heap.size w w' := by
  have HM := Lib.hid hm; clear hm
  have HN := Lib.hid hmm; clear hmm
  have HV := Lib.hid hv; clear hv
  have HU := Lib.hid hu; clear hu
  have HSZ := Lib.hid (szCellS_any w a ca l 1048576 HV.out HM.out (by decide) (by decide))
  rw [hn] at HSZ
  go_enter Try.func11, Try.ntmps11
  go_wp2_with fail
  refine HSZ.out.mono ?_; rintro e w1 ⟨z, rfl, b1, hz⟩
  have B1 := Lib.hid b1; clear b1 HSZ
  rcases hz with hz | ⟨z0, z1, hzl, hma⟩
  · go_wp2_with fail
    go_ret
    exact ⟨rfl, B1.out⟩
  have hll : n ≤ 1048576 := by omega
  have HMA := Lib.hid (mod_of hma (by decide)); clear hma
  have q0 : ¬ z < 0 := by omega
  have HSZ := Lib.hid (szCellS_any w1 b cb m z (HU.out.below B1.out) HN.out z0 z1)
  rw [hk] at HSZ
  go_wp2_with fail
  refine HSZ.out.mono ?_; rintro e w2 ⟨y, rfl, b2, hz⟩
  have B2 := Lib.hid (bel_tr B1.out b2 (Nat.le_refl _)); clear b2 HSZ
  rcases hz with hz | ⟨y0, y1, hyl, hmb⟩
  · go_wp2_with fail
    go_ret
    exact ⟨rfl, B2.out⟩
  have hkl : k ≤ 1048576 := by omega
  have HMB := Lib.hid (mod_of hmb z1); clear hmb
  have q1 : ¬ y < 0 := by omega
  have hl4 : l.length ≤ 4194304 := by omega
  have hk4 : m.length ≤ 4194304 := by omega
  clear y0 y1 z0 z1 hyl hzl
  have Z2 := Lib.hid B2.out.size
  go_wp2_with fail
  refine (toCellS_is w2 a ca l n hn (HV.out.below B2.out) hll).mono ?_; rintro e w3 ⟨q1, rfl, -, o, b3⟩
  have Ta := Lib.hid (show ∀ k, (.slice (some ⟨q1, 0, none⟩) n n : Value).ownBlock = some k → w2.heap.size ≤ k from OwC.lt o)
  have Ua := Lib.hid (show ∀ k, (.slice (some ⟨q1, 0, none⟩) n n : Value).ownBlock = some k → w3.heap.size > k from OwC.low o)
  have B3 := Lib.hid (bel_tr B2.out b3 (Nat.le_refl _))
  have Z3 := Lib.hid b3.size
  have Oa := Lib.hid o; clear o b3
  go_wp2_with fail
  refine (toCellS_is w3 b cb m k hk (HU.out.below B3.out) hkl).mono ?_; rintro e w4 ⟨q2, rfl, -, o, b4⟩
  have Tb := Lib.hid (show ∀ k, (.slice (some ⟨q2, 0, none⟩) k k : Value).ownBlock = some k → w3.heap.size ≤ k from OwC.lt o)
  have Ub := Lib.hid (show ∀ k, (.slice (some ⟨q2, 0, none⟩) k k : Value).ownBlock = some k → w4.heap.size > k from OwC.low o)
  have B4 := Lib.hid (bel_tr B3.out b4 (Nat.le_refl _))
  have Z4 := Lib.hid b4.size
  have Oa := Lib.hid (Oa.out.next b4)
  have Ob := Lib.hid o; clear o b4
  go_wp2_with fail
  refine (specMerged_own w4 Oa.out Ob.out HMA.out HMB.out hl4 hk4).mono ?_; rintro e w5 ⟨vp, rfl, o, b5⟩
  have TP := Lib.hid (show ∀ k, (vp : Value).ownBlock = some k → w4.heap.size ≤ k from OwC.lt o)
  have UP := Lib.hid (show ∀ k, (vp : Value).ownBlock = some k → w5.heap.size > k from OwC.low o)
  have B5 := Lib.hid (bel_tr B4.out b5 (Nat.le_refl _))
  have Z5 := Lib.hid b5.size
  have Oa := Lib.hid (Oa.out.next b5)
  have Ob := Lib.hid (Ob.out.next b5)
  have OP := Lib.hid o; clear o b5
  clear Oa
  clear Ob
  go_wp2_with fail
  refine (toCellS_is w5 a ca l n hn (HV.out.below B5.out) hll).mono ?_; rintro e w6 ⟨q3, rfl, -, o, b6⟩
  have Tx := Lib.hid (show ∀ k, (.slice (some ⟨q3, 0, none⟩) n n : Value).ownBlock = some k → w5.heap.size ≤ k from OwC.lt o)
  have Ux := Lib.hid (show ∀ k, (.slice (some ⟨q3, 0, none⟩) n n : Value).ownBlock = some k → w6.heap.size > k from OwC.low o)
  have B6 := Lib.hid (bel_tr B5.out b6 (Nat.le_refl _))
  have Z6 := Lib.hid b6.size
  have OP := Lib.hid (OP.out.next b6)
  have Ox := Lib.hid o; clear o b6
  go_wp2_with fail
  refine (toCellS_is w6 b cb m k hk (HU.out.below B6.out) hkl).mono ?_; rintro e w7 ⟨q4, rfl, -, o, b7⟩
  have Ty := Lib.hid (show ∀ k, (.slice (some ⟨q4, 0, none⟩) k k : Value).ownBlock = some k → w6.heap.size ≤ k from OwC.lt o)
  have Uy := Lib.hid (show ∀ k, (.slice (some ⟨q4, 0, none⟩) k k : Value).ownBlock = some k → w7.heap.size > k from OwC.low o)
  have B7 := Lib.hid (bel_tr B6.out b7 (Nat.le_refl _))
  have Z7 := Lib.hid b7.size
  have OP := Lib.hid (OP.out.next b7)
  have Ox := Lib.hid (Ox.out.next b7)
  have Oy := Lib.hid o; clear o b7
  go_wp2_with fail
  refine (implMerged_own w7 Ox.out Oy.out hl4 hk4).mono ?_; rintro e w8 ⟨vg, rfl, o, b8⟩
  have TG := Lib.hid (show ∀ k, (vg : Value).ownBlock = some k → w7.heap.size ≤ k from OwC.lt o)
  have UG := Lib.hid (show ∀ k, (vg : Value).ownBlock = some k → w8.heap.size > k from OwC.low o)
  have B8 := Lib.hid (bel_tr B7.out b8 (Nat.le_refl _))
  have Z8 := Lib.hid b8.size
  have OP := Lib.hid (OP.out.next b8)
  have Ox := Lib.hid (Ox.out.next b8)
  have Oy := Lib.hid (Oy.out.next b8)
  have OG := Lib.hid o; clear o b8
  go_wp2_with fail
  refine (eqS_own w8 OG.out OP.out (by have := mgP_len l m; omega)).mono ?_; rintro e w9 ⟨rfl, b9⟩
  have B9 := Lib.hid (bel_tr B8.out b9 (Nat.le_refl _))
  have Z9 := Lib.hid b9.size
  have OP := Lib.hid (OP.out.next b9)
  have Ox := Lib.hid (Ox.out.next b9)
  have Oy := Lib.hid (Oy.out.next b9)
  have OG := Lib.hid (OG.out.next b9)
  clear b9
  go_wp2_with fail
  refine (toCellS_is w9 a ca l n hn (HV.out.below B9.out) hll).mono ?_; rintro e w10 ⟨q5, rfl, -, o, b10⟩
  have Tt := Lib.hid (show ∀ k, (.slice (some ⟨q5, 0, none⟩) n n : Value).ownBlock = some k → w9.heap.size ≤ k from OwC.lt o)
  have Ut := Lib.hid (show ∀ k, (.slice (some ⟨q5, 0, none⟩) n n : Value).ownBlock = some k → w10.heap.size > k from OwC.low o)
  have B10 := Lib.hid (bel_tr B9.out b10 (Nat.le_refl _))
  have Z10 := Lib.hid b10.size
  have OP := Lib.hid (OP.out.next b10)
  have Ox := Lib.hid (Ox.out.next b10)
  have Oy := Lib.hid (Oy.out.next b10)
  have OG := Lib.hid (OG.out.next b10)
  have Ot := Lib.hid o; clear o b10
  go_wp2_with fail
  refine (eqS_own w10 Ox.out Ot.out hl4).mono ?_; rintro e w11 ⟨rfl, b11⟩
  have B11 := Lib.hid (bel_tr B10.out b11 (Nat.le_refl _))
  have Z11 := Lib.hid b11.size
  have OP := Lib.hid (OP.out.next b11)
  have Ox := Lib.hid (Ox.out.next b11)
  have Oy := Lib.hid (Oy.out.next b11)
  have OG := Lib.hid (OG.out.next b11)
  have Ot := Lib.hid (Ot.out.next b11)
  clear b11
  clear Ot
  go_wp2_with fail
  refine (toCellS_is w11 b cb m k hk (HU.out.below B11.out) hkl).mono ?_; rintro e w12 ⟨q6, rfl, -, o, b12⟩
  have Tu := Lib.hid (show ∀ k, (.slice (some ⟨q6, 0, none⟩) k k : Value).ownBlock = some k → w11.heap.size ≤ k from OwC.lt o)
  have Uu := Lib.hid (show ∀ k, (.slice (some ⟨q6, 0, none⟩) k k : Value).ownBlock = some k → w12.heap.size > k from OwC.low o)
  have B12 := Lib.hid (bel_tr B11.out b12 (Nat.le_refl _))
  have Z12 := Lib.hid b12.size
  have OP := Lib.hid (OP.out.next b12)
  have Ox := Lib.hid (Ox.out.next b12)
  have Oy := Lib.hid (Oy.out.next b12)
  have OG := Lib.hid (OG.out.next b12)
  have Ou := Lib.hid o; clear o b12
  go_wp2_with fail
  refine (eqS_own w12 Oy.out Ou.out hk4).mono ?_; rintro e w13 ⟨rfl, b13⟩
  have B13 := Lib.hid (bel_tr B12.out b13 (Nat.le_refl _))
  have Z13 := Lib.hid b13.size
  have OP := Lib.hid (OP.out.next b13)
  have Ox := Lib.hid (Ox.out.next b13)
  have Oy := Lib.hid (Oy.out.next b13)
  have OG := Lib.hid (OG.out.next b13)
  have Ou := Lib.hid (Ou.out.next b13)
  clear b13
  clear Ou
  go_wp2_with fail
  refine (mark_own w13 Ox.out hn (by omega)).mono ?_; rintro e w14 ⟨rfl, g14, -⟩
  have B14 := Lib.hid (B13.out.grown g14 B13.out.size (fun j hj => by have := Tx.out j hj; have := B13.out.size; have := Z2.out; have := Z3.out; have := Z4.out; have := Z5.out; have := Z6.out; have := Z7.out; have := Z8.out; have := Z9.out; have := Z10.out; have := Z11.out; have := Z12.out; have := Z13.out; omega))
  have OP := Lib.hid (OP.out.grown g14 (fun k hk e => by have := Tx.out k e; have := Ux.out k e; have := TP.out k hk; have := UP.out k hk; have := Z2.out; have := Z3.out; have := Z4.out; have := Z5.out; have := Z6.out; have := Z7.out; have := Z8.out; have := Z9.out; have := Z10.out; have := Z11.out; have := Z12.out; have := Z13.out; omega))
  have Oy := Lib.hid (Oy.out.grown g14 (fun k hk e => by have := Tx.out k e; have := Ux.out k e; have := Ty.out k hk; have := Uy.out k hk; have := Z2.out; have := Z3.out; have := Z4.out; have := Z5.out; have := Z6.out; have := Z7.out; have := Z8.out; have := Z9.out; have := Z10.out; have := Z11.out; have := Z12.out; have := Z13.out; omega))
  have OG := Lib.hid (OG.out.grown g14 (fun k hk e => by have := Tx.out k e; have := Ux.out k e; have := TG.out k hk; have := UG.out k hk; have := Z2.out; have := Z3.out; have := Z4.out; have := Z5.out; have := Z6.out; have := Z7.out; have := Z8.out; have := Z9.out; have := Z10.out; have := Z11.out; have := Z12.out; have := Z13.out; omega))
  have Z14 := Lib.hid g14.size
  clear g14
  clear Ox
  have y1 : (1 + 5 * n : Nat) ≤ 9000000 := by omega
  have y0 : 1 ≤ (1 + 5 * n : Nat) := by omega
  generalize 1 + 5 * n = s1 at *
  go_wp2_with fail
  refine (mark_from w14 Oy.out hk (by omega) y0 y1).mono ?_; rintro e w15 ⟨rfl, g15, -⟩
  have B15 := Lib.hid (B14.out.grown g15 B14.out.size (fun j hj => by have := Ty.out j hj; have := B14.out.size; have := Z2.out; have := Z3.out; have := Z4.out; have := Z5.out; have := Z6.out; have := Z7.out; have := Z8.out; have := Z9.out; have := Z10.out; have := Z11.out; have := Z12.out; have := Z13.out; have := Z14.out; omega))
  have OP := Lib.hid (OP.out.grown g15 (fun k hk e => by have := Ty.out k e; have := Uy.out k e; have := TP.out k hk; have := UP.out k hk; have := Z2.out; have := Z3.out; have := Z4.out; have := Z5.out; have := Z6.out; have := Z7.out; have := Z8.out; have := Z9.out; have := Z10.out; have := Z11.out; have := Z12.out; have := Z13.out; have := Z14.out; omega))
  have OG := Lib.hid (OG.out.grown g15 (fun k hk e => by have := Ty.out k e; have := Uy.out k e; have := TG.out k hk; have := UG.out k hk; have := Z2.out; have := Z3.out; have := Z4.out; have := Z5.out; have := Z6.out; have := Z7.out; have := Z8.out; have := Z9.out; have := Z10.out; have := Z11.out; have := Z12.out; have := Z13.out; have := Z14.out; omega))
  have Z15 := Lib.hid g15.size
  clear g15
  clear Oy
  have k0 : ¬ ((s1 + 5 * k : Nat) : Int) < 0 := by omega
  generalize ((s1 + 5 * k : Nat) : Int) = kk at k0 ⊢
  go_wp2_with fail
  refine (eqS_own w15 OG.out OP.out (by have := mgP_len l m; omega)).mono ?_; rintro e w16 ⟨rfl, b16⟩
  have B16 := Lib.hid (bel_tr B15.out b16 (Nat.le_refl _))
  have Z16 := Lib.hid b16.size
  have OP := Lib.hid (OP.out.next b16)
  have OG := Lib.hid (OG.out.next b16)
  clear b16
  have hp4 := mgP_len l m
  generalize hpn : (mgP l m).length = p at hp4
  have HPN := Lib.hid hpn; clear hpn
  have m0 : ¬ ((1 + 5 * p : Nat) : Int) < 0 := by omega
  have m1 : (((1 + 5 * p : Nat) : Int) != ((1 + 5 * p : Nat) : Int)) = false := by simp
  go_wp2_with fail
  refine (mark_own w16 OG.out HPN.out (by omega)).mono ?_; rintro e w17 ⟨rfl, g17, PM, hPM, hMk, og⟩
  have B17 := Lib.hid (B16.out.grown g17 B16.out.size (fun j hj => by have := TG.out j hj; have := B16.out.size; have := Z2.out; have := Z3.out; have := Z4.out; have := Z5.out; have := Z6.out; have := Z7.out; have := Z8.out; have := Z9.out; have := Z10.out; have := Z11.out; have := Z12.out; have := Z13.out; have := Z14.out; have := Z15.out; have := Z16.out; omega))
  have OP := Lib.hid (OP.out.grown g17 (fun k hk e => by have := TG.out k e; have := UG.out k e; have := TP.out k hk; have := UP.out k hk; have := Z2.out; have := Z3.out; have := Z4.out; have := Z5.out; have := Z6.out; have := Z7.out; have := Z8.out; have := Z9.out; have := Z10.out; have := Z11.out; have := Z12.out; have := Z13.out; have := Z14.out; have := Z15.out; have := Z16.out; omega))
  have Z17 := Lib.hid g17.size
  clear g17
  have OG := Lib.hid og
  have HMK := Lib.hid hMk; clear og hMk
  have HH := Lib.hid (fun w (h : OwC w7.heap.size w vg PM) => held_own (n := p) w h hPM HMK.out (by omega))
  generalize ((1 + 5 * p : Nat) : Int) = mm at m0 m1 HH ⊢
  go_wp2_with fail
  refine (HH.out w17 OG.out).mono ?_; rintro e w18 ⟨rfl, b18⟩
  have B18 := Lib.hid (bel_tr B17.out b18 (Nat.le_refl _))
  have Z18 := Lib.hid b18.size
  have OP := Lib.hid (OP.out.next b18)
  have OG := Lib.hid (OG.out.next b18)
  clear b18
  go_wp2_with fail
  refine (toCellS_is w18 a ca l n hn (HV.out.below B18.out) hll).mono ?_; rintro e w19 ⟨q7, rfl, -, o, b19⟩
  have Tc := Lib.hid (show ∀ k, (.slice (some ⟨q7, 0, none⟩) n n : Value).ownBlock = some k → w18.heap.size ≤ k from OwC.lt o)
  have Uc := Lib.hid (show ∀ k, (.slice (some ⟨q7, 0, none⟩) n n : Value).ownBlock = some k → w19.heap.size > k from OwC.low o)
  have B19 := Lib.hid (bel_tr B18.out b19 (Nat.le_refl _))
  have Z19 := Lib.hid b19.size
  have OP := Lib.hid (OP.out.next b19)
  have OG := Lib.hid (OG.out.next b19)
  have Oc := Lib.hid o; clear o b19
  go_wp2_with fail
  refine (toCellS_is w19 b cb m k hk (HU.out.below B19.out) hkl).mono ?_; rintro e w20 ⟨q8, rfl, -, o, b20⟩
  have Td := Lib.hid (show ∀ k, (.slice (some ⟨q8, 0, none⟩) k k : Value).ownBlock = some k → w19.heap.size ≤ k from OwC.lt o)
  have Ud := Lib.hid (show ∀ k, (.slice (some ⟨q8, 0, none⟩) k k : Value).ownBlock = some k → w20.heap.size > k from OwC.low o)
  have B20 := Lib.hid (bel_tr B19.out b20 (Nat.le_refl _))
  have Z20 := Lib.hid b20.size
  have OP := Lib.hid (OP.out.next b20)
  have OG := Lib.hid (OG.out.next b20)
  have Oc := Lib.hid (Oc.out.next b20)
  have Od := Lib.hid o; clear o b20
  go_wp2_with fail
  refine (implMerged_own w20 Oc.out Od.out hl4 hk4).mono ?_; rintro e w21 ⟨vh, rfl, o, b21⟩
  have TH := Lib.hid (show ∀ k, (vh : Value).ownBlock = some k → w20.heap.size ≤ k from OwC.lt o)
  have UH := Lib.hid (show ∀ k, (vh : Value).ownBlock = some k → w21.heap.size > k from OwC.low o)
  have B21 := Lib.hid (bel_tr B20.out b21 (Nat.le_refl _))
  have Z21 := Lib.hid b21.size
  have OP := Lib.hid (OP.out.next b21)
  have OG := Lib.hid (OG.out.next b21)
  have Oc := Lib.hid (Oc.out.next b21)
  have Od := Lib.hid (Od.out.next b21)
  have OH := Lib.hid o; clear o b21
  clear Oc
  clear Od
  go_wp2_with fail
  refine (eqS_own w21 OH.out OP.out (by have := mgP_len l m; omega)).mono ?_; rintro e w22 ⟨rfl, b22⟩
  have B22 := Lib.hid (bel_tr B21.out b22 (Nat.le_refl _))
  have Z22 := Lib.hid b22.size
  have OP := Lib.hid (OP.out.next b22)
  have OG := Lib.hid (OG.out.next b22)
  have OH := Lib.hid (OH.out.next b22)
  clear b22
  go_wp2_with fail
  refine (HH.out w22 OG.out).mono ?_; rintro e w23 ⟨rfl, b23⟩
  have B23 := Lib.hid (bel_tr B22.out b23 (Nat.le_refl _))
  have Z23 := Lib.hid b23.size
  have OP := Lib.hid (OP.out.next b23)
  have OG := Lib.hid (OG.out.next b23)
  have OH := Lib.hid (OH.out.next b23)
  clear b23
  go_wp2_with fail
  go_ret
  exact ⟨rfl, B23.out⟩

set_option maxRecDepth 100000 in
theorem lifted (os : Os) (started : os.Started) (H : Type) (enc : TypeId × Value → H) :
    ReturnsInHanded {} Try.checked os 11 .any (Rows.fnExactMergedSpec.pre6 enc Try.prog Try.f11 Rows.fnExactMergedRow.domain false) (Rows.fnExactMergedSpec.post enc Try.prog Try.f11 false true false false) := by
  refine returnsInHanded_of_change (C := Try.checked) own started (by kernel_rfl) Try.func11
    (ChangeSpec.witness6 (enc := enc) (C := Try.checked) false ⟨#[], #[.slice none 0 0, .slice none 0 0], []⟩ 8 (by kernel_rfl) (by kernel_rfl) (by kernel_rfl) (by kernel_rfl)) ?_
  intro W base args ds gs before hval0 hW hcnd _
  have hval : ∀ (j : Nat) t v, Try.f11.params[j]? = some t → args[j]? = some v → Value.okWide Try.prog W .any base t v := hval0
  have hW' := hW
  obtain ⟨p, q, hA0, hV, rfl, hfz, hnd⟩ := hW
  have hA : DataW.TrodAll enc Try.prog W 0 (fun _ => true) true Try.f11.params.toList args.toList ds p := hA0
  rw [Try.params11] at hA hval
  obtain ⟨v0, vs0, d0, ds0, p0, q0, hargs, rfl, rfl, h0, r0⟩ := trodAll_cons hA
  obtain ⟨v1, vs1, d1, ds1, p1, q1, rfl, rfl, rfl, h1, r1⟩ := trodAll_cons r0
  obtain ⟨rfl, rfl, rfl⟩ := trodAll_nil r1
  obtain rfl : args = #[v0, v1] := by cases args; simp_all
  obtain ⟨rfl, rfl⟩ := trodVars_none hV
  have k0 := h0
  have lt0 : ∀ x ∈ p0, x.block < W.heap.size := by obtain ⟨m, hm⟩ := k0; exact DataW.trod_lt m _ _ _ hm
  have k1 := h1
  have lt1 : ∀ x ∈ p1, x.block < W.heap.size := by obtain ⟨m, hm⟩ := k1; exact DataW.trod_lt m _ _ _ hm
  clear hA0 hval0
  obtain ⟨a, ca, l, rfl, hvw, hsz⟩ := Fr.openCells (hval 0 60 v0 rfl rfl) h0
  obtain ⟨b, cb, m, rfl, hvu, hsu⟩ := Fr.openCells (hval 1 60 v1 rfl rfl) h1
  unfold maxLen at hsz hsu
  refine (walk W a b ca cb l m _ _ rfl rfl hvw hvu (fun c hc => by have := hsz c hc; omega) (fun c hc => by have := hsu c hc; omega)).mono fun e W' ⟨he, bel⟩ => ?_
  subst he
  exact ⟨_, rfl, _, _, _, [], _, [], hW', trodAll_mk1 (shut_bool Try.underlying4 _), (trodAll_cons_mk (Below.trod laidOut (by kernel_rfl) (of_decide_eq_true (by kernel_rfl)) k0 bel lt0) (trodAll_cons_mk (Below.trod laidOut (by kernel_rfl) (of_decide_eq_true (by kernel_rfl)) k1 bel lt1) trodAll_mk0)), rfl, bel.frame _, fun h => by cases h⟩

theorem over : Rows.fnExactMergedRow.holds Try.pinned (OpenSpec.ofChange Rows.fnExactMergedSpec) :=
  OpenClaim.holds_of_wide 11 Try.f11 rfl rfl rfl rfl rfl rfl rfl ⟨rfl, rfl, rfl, rfl, rfl⟩ rfl rfl rfl rfl rfl (by kernel_rfl) Try.func11 (by kernel_rfl)
    (of_decide_eq_true (by kernel_rfl)) (by unfold Func.isWrapper; first | (rw [if_pos (by decide +kernel)]; kernel_rfl) | (rw [if_neg (by decide +kernel)]; exact ⟨rfl, rfl⟩))
    (fun os started H enc _ => lifted os started H enc)

theorem proved : Rows.FnExactMergedSaid := over
#print axioms proved
end Go.Proofs.Ytkkpokfekbdigaa.fnExactMerged
