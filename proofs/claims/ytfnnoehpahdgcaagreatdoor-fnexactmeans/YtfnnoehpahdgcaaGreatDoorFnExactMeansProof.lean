/-
  Proved: for every input the Go function laws.FnExactMeans returns true, and each argument reads afterwards as it read before (the tied card: the library's variables that the row lists start as the program's text lays them).
  Conditions: none beyond those of the given card.
-/
import Derived.Test.YtfnnoehpahdgcaaGreatDoorRows
import Derived.WalkKit
import Derived.ProofKit
import Derived.OpenShut
import Derived.ShutString
import Derived.Carry
import Derived.Below
import Derived.ChangeOld
import Derived.LaidMore
import Derived.Stop.Joined
import Derived.SevenTiedAt
import Derived.Test.YtfnnoehpahdgcaaGreatDoorCards
import Derived.Test.YtfnnoehpahdgcaaGreatDoorTie
import Derived.Test.YtfnnoehpahdgcaaGreatDoorSx9
namespace Go.Proofs.YtfnnoehpahdgcaaGreatDoor.fnExactMeans
open Go.ChangeShapes Go.WideShapes Go.ChangeAt Go.RowKit
open Go.ChangeMaps (open_string shut_string)
set_option linter.unusedVariables false

theorem laidOut : laidOutB Tryz.prog = true := by kernel_rfl
theorem own : ownKnob Tryz.prog.godebug = none := by kernel_rfl

open Kp Cl Rp
set_option maxHeartbeats 8000000 in
set_option maxRecDepth 100000 in
theorem walk (w : World) (a : Option Addr) (ca : Nat) (l : List Tk) (n : Nat) (hn : l.length = n) (hv : V1 w a ca (txL l)) (hm : ∀ s ∈ l, s.length ≤ 9223372036854775807) (hL : Lib3 w)
    (ba : Option Addr) (bc bn : Nat) (bs : List Bi) (hbl : bs.length = bn) (hbv : VwI w ba bc bs) (hbm : ∀ c ∈ bs, c.n.size ≤ 9223372036854775807) (ga : Option Addr) (gc gn : Nat) (gs : List Int) (hgl : gs.length = gn) (hgv : V1 w ga gc (inL gs)) (f : Int) :
    Calls Tryz.prog 5 #[.slice a n ca, .slice ba bn bc, .slice ga gn gc, .int .i64 f] w fun e w' => e = .returned (.bool true) ∧ Below w.heap.size w w' := by
  have HV := Lib.hid hv
  have HBV := Lib.hid hbv
  have HGV := Lib.hid hgv
  have HL := Lib.hid hL
  have hgm : gn ≤ 9223372036854775807 := by have := hgv.1; have h2 := hgv.2.1; rw [inL_len] at this; unfold maxLen at h2; omega
  clear hv hbv hgv hL
  by_cases hgg : 1048576 < gn
  · have i0 : (1048576 : Int) < (gn : Int) := by omega
    go_enter Tryz.func5, Tryz.ntmps5
    go_wp2_with fail
    go_ret
    exact ⟨rfl, Below.refl _ _⟩
  have i0 : ¬ (1048576 : Int) < (gn : Int) := by omega
  have HSZ := Lib.hid (szStringS_any w a ca l n 1048576 hn HV.out hm (by decide) (by decide))
  go_enter Tryz.func5, Tryz.ntmps5
  go_wp2_with fail
  refine HSZ.out.mono ?_; rintro e w1 ⟨z, rfl, b1, hz⟩
  have B1 := Lib.hid b1; clear b1 HSZ
  rcases hz with hz | ⟨z0, z1, hzl, hma⟩
  · go_wp2_with fail
    go_ret
    exact ⟨rfl, B1.out⟩
  have hll : n ≤ 1048576 := by omega
  have HMA := Lib.hid (show ∀ s ∈ l, s.length ≤ 4194304 from fun c hc => by have := hma c hc; omega); clear hma
  have q0 : ¬ z < 0 := by omega
  have HSB := Lib.hid (szBinS_any w1 ba bc bs bn z hbl (HBV.out.below B1.out) hbm z0 z1)
  clear hzl hm
  go_wp2_with fail
  refine HSB.out.mono ?_; rintro e w2 ⟨y, rfl, b2, hy⟩
  have B2 := Lib.hid (bel_tr B1.out b2 (Nat.le_refl _)); clear b2 HSB
  rcases hy with hy | ⟨y0, y1, hyl, hyma⟩
  · go_wp2_with fail
    go_ret
    exact ⟨rfl, B2.out⟩
  have hbb : bn ≤ 1048576 := by omega
  have HBM := Lib.hid (show ∀ c ∈ bs, c.n.size ≤ 9223372036854775806 from fun c hc => by have := hyma c hc; omega); clear hyma
  have q1 : ¬ y < 0 := by omega
  clear z0 z1 y0 y1 hyl hbm q0
  have hgg2 : gn ≤ 1048576 := by omega
  have HS := Lib.hid (fun w a1 c1 (h1 : V1 w a1 c1 (txL l)) b1 d1 (h2 : VwI w b1 d1 bs) e1 g1 (h3 : V1 w e1 g1 (inL gs)) => specMeans_any w a1 c1 l n hn (by omega) HMA.out h1 b1 d1 bn bs hbl h2 (by omega) e1 g1 gn gs hgl (by omega) h3 f HBM.out)
  have HI := Lib.hid (fun w a1 c1 (h1 : V1 w a1 c1 (txL l)) b1 d1 (h2 : VwI w b1 d1 bs) e1 g1 (h3 : V1 w e1 g1 (inL gs)) (hL : Lib3 w) => implMeans_any w a1 c1 l n hn (by omega) HMA.out h1 b1 d1 bn bs hbl h2 (by omega) e1 g1 gn gs hgl (by omega) h3 f hL)
  have HPL := Lib.hid (meV_len (l := l) (gs := gs) (f := f) (n := 4194304) (show bs.length ≤ 4194304 by omega) (by decide))
  generalize meV l bs gs f = r at *
  obtain ⟨p, hpn⟩ : ∃ p, r.b.length = p := ⟨_, rfl⟩
  have HPN := Lib.hid hpn; clear hpn
  have Z2 := Lib.hid B2.out.size
  go_wp2_with fail
  refine (toStringS_is w2 a ca l n hn (HV.out.below B2.out) hll).mono ?_; rintro e w3 ⟨q1, rfl, -, o, b3⟩
  have Ta := Lib.hid (show ∀ k, (.slice (some ⟨q1, 0, none⟩) n n : Value).ownBlock = some k → w2.heap.size ≤ k from OT.lt o)
  have Ua := Lib.hid (show ∀ k, (.slice (some ⟨q1, 0, none⟩) n n : Value).ownBlock = some k → w3.heap.size > k from OT.low o)
  have B3 := Lib.hid (bel_tr B2.out b3 (Nat.le_refl _))
  have Z3 := Lib.hid b3.size
  have Oa := Lib.hid o; clear o b3
  go_wp2_with fail
  refine (toBinS_is w3 ba bc bs bn hbl (HBV.out.below B3.out) hbb).mono ?_; rintro e w4 ⟨q2, rfl, -, o, b4⟩
  have Tb := Lib.hid (show ∀ k, (.slice (some ⟨q2, 0, none⟩) bn bn : Value).ownBlock = some k → w3.heap.size ≤ k from OwI.lt o)
  have Ub := Lib.hid (show ∀ k, (.slice (some ⟨q2, 0, none⟩) bn bn : Value).ownBlock = some k → w4.heap.size > k from OwI.low o)
  have B4 := Lib.hid (bel_tr B3.out b4 (Nat.le_refl _))
  have Z4 := Lib.hid b4.size
  have Oa := Lib.hid (Oa.out.next b4)
  have Ob := Lib.hid o; clear o b4
  go_wp2_with fail
  refine (toInt64S_is w4 ga gc gs gn hgl (HGV.out.below B4.out) hgg2).mono ?_; rintro e w5 ⟨q3, rfl, -, o, b5⟩
  have Tc := Lib.hid (show ∀ k, (.slice (some ⟨q3, 0, none⟩) gn gn : Value).ownBlock = some k → w4.heap.size ≤ k from ON.lt o)
  have Uc := Lib.hid (show ∀ k, (.slice (some ⟨q3, 0, none⟩) gn gn : Value).ownBlock = some k → w5.heap.size > k from ON.low o)
  have B5 := Lib.hid (bel_tr B4.out b5 (Nat.le_refl _))
  have Z5 := Lib.hid b5.size
  have Oa := Lib.hid (Oa.out.next b5)
  have Ob := Lib.hid (Ob.out.next b5)
  have Oc := Lib.hid o; clear o b5
  go_wp2_with fail
  refine (HS.out w5 _ _ Oa.out.vw _ _ Ob.out.vw _ _ Oc.out.vw).mono ?_; rintro e w6 ⟨v9, rfl, o, b6⟩
  obtain ⟨vpa, vpc, rfl, -⟩ := o.view
  rw [HPN.out] at o ⊢
  have TP := Lib.hid (show ∀ k, (.slice vpa p vpc : Value).ownBlock = some k → w5.heap.size ≤ k from OwI.lt o)
  have UP := Lib.hid (show ∀ k, (.slice vpa p vpc : Value).ownBlock = some k → w6.heap.size > k from OwI.low o)
  have B6 := Lib.hid (bel_tr B5.out b6 (Nat.le_refl _))
  have Z6 := Lib.hid b6.size
  have Oa := Lib.hid (Oa.out.next b6)
  have Ob := Lib.hid (Ob.out.next b6)
  have Oc := Lib.hid (Oc.out.next b6)
  have OP := Lib.hid o; clear o b6
  have b7 := bel1 w6 (.cells #[.int .i64 r.c, .slice vpa p vpc, .int .i64 r.f] 30)
  have B7 := Lib.hid (bel_tr B6.out b7 (Nat.le_refl _))
  have Z7 := Lib.hid b7.size
  have Oa := Lib.hid (Oa.out.next b7)
  have Ob := Lib.hid (Ob.out.next b7)
  have Oc := Lib.hid (Oc.out.next b7)
  have OP := Lib.hid (OP.out.next b7)
  clear b7
  have KP := Lib.hid (Tri.made (.int .i64 r.c) (.slice vpa p vpc) (.int .i64 r.f) w6 30)
  have Y7 := Lib.hid KP.out.2.2
  obtain ⟨⟨mP0, mP1, mP2⟩, ⟨mP3, mP4, mP5⟩, -⟩ := id KP.out
  go_wp2_with fail
  clear mP0 mP1 mP2 mP3 mP4 mP5
  generalize w6.alloc (.cells #[.int .i64 r.c, .slice vpa p vpc, .int .i64 r.f] 30) = w7 at B7 Z7 Y7 Oa Ob Oc OP KP ⊢
  clear Oa
  clear Ob
  clear Oc
  refine (toStringS_is w7 a ca l n hn (HV.out.below B7.out) hll).mono ?_; rintro e w8 ⟨q4, rfl, -, o, b8⟩
  have Tx := Lib.hid (show ∀ k, (.slice (some ⟨q4, 0, none⟩) n n : Value).ownBlock = some k → w7.heap.size ≤ k from OT.lt o)
  have Ux := Lib.hid (show ∀ k, (.slice (some ⟨q4, 0, none⟩) n n : Value).ownBlock = some k → w8.heap.size > k from OT.low o)
  have B8 := Lib.hid (bel_tr B7.out b8 (Nat.le_refl _))
  have Z8 := Lib.hid b8.size
  have OP := Lib.hid (OP.out.next b8)
  have KP := Lib.hid (KP.out.below b8 KP.out.2.2)
  have Ox := Lib.hid o; clear o b8
  obtain ⟨⟨kP0, kP1, kP2⟩, ⟨kP3, kP4, kP5⟩, -⟩ := id KP.out
  go_wp2_with fail
  clear kP0 kP1 kP2 kP3 kP4 kP5
  refine (toBinS_is w8 ba bc bs bn hbl (HBV.out.below B8.out) hbb).mono ?_; rintro e w9 ⟨q5, rfl, -, o, b9⟩
  have Ty := Lib.hid (show ∀ k, (.slice (some ⟨q5, 0, none⟩) bn bn : Value).ownBlock = some k → w8.heap.size ≤ k from OwI.lt o)
  have Uy := Lib.hid (show ∀ k, (.slice (some ⟨q5, 0, none⟩) bn bn : Value).ownBlock = some k → w9.heap.size > k from OwI.low o)
  have B9 := Lib.hid (bel_tr B8.out b9 (Nat.le_refl _))
  have Z9 := Lib.hid b9.size
  have OP := Lib.hid (OP.out.next b9)
  have Ox := Lib.hid (Ox.out.next b9)
  have KP := Lib.hid (KP.out.below b9 KP.out.2.2)
  have Oy := Lib.hid o; clear o b9
  obtain ⟨⟨kP0, kP1, kP2⟩, ⟨kP3, kP4, kP5⟩, -⟩ := id KP.out
  go_wp2_with fail
  clear kP0 kP1 kP2 kP3 kP4 kP5
  refine (toInt64S_is w9 ga gc gs gn hgl (HGV.out.below B9.out) hgg2).mono ?_; rintro e w10 ⟨q6, rfl, -, o, b10⟩
  have Tzz := Lib.hid (show ∀ k, (.slice (some ⟨q6, 0, none⟩) gn gn : Value).ownBlock = some k → w9.heap.size ≤ k from ON.lt o)
  have Uzz := Lib.hid (show ∀ k, (.slice (some ⟨q6, 0, none⟩) gn gn : Value).ownBlock = some k → w10.heap.size > k from ON.low o)
  have B10 := Lib.hid (bel_tr B9.out b10 (Nat.le_refl _))
  have Z10 := Lib.hid b10.size
  have OP := Lib.hid (OP.out.next b10)
  have Ox := Lib.hid (Ox.out.next b10)
  have Oy := Lib.hid (Oy.out.next b10)
  have KP := Lib.hid (KP.out.below b10 KP.out.2.2)
  have Ozz := Lib.hid o; clear o b10
  obtain ⟨⟨kP0, kP1, kP2⟩, ⟨kP3, kP4, kP5⟩, -⟩ := id KP.out
  go_wp2_with fail
  clear kP0 kP1 kP2 kP3 kP4 kP5
  refine (HI.out w10 _ _ Ox.out.vw _ _ Oy.out.vw _ _ Ozz.out.vw (lib3_below HL.out B10.out)).mono ?_; rintro e w11 ⟨v9, rfl, o, b11⟩
  obtain ⟨vga, vgc, rfl, -⟩ := o.view
  rw [HPN.out] at o ⊢
  have TG := Lib.hid (show ∀ k, (.slice vga p vgc : Value).ownBlock = some k → w10.heap.size ≤ k from OwI.lt o)
  have UG := Lib.hid (show ∀ k, (.slice vga p vgc : Value).ownBlock = some k → w11.heap.size > k from OwI.low o)
  have B11 := Lib.hid (bel_tr B10.out b11 (Nat.le_refl _))
  have Z11 := Lib.hid b11.size
  have OP := Lib.hid (OP.out.next b11)
  have Ox := Lib.hid (Ox.out.next b11)
  have Oy := Lib.hid (Oy.out.next b11)
  have Ozz := Lib.hid (Ozz.out.next b11)
  have KP := Lib.hid (KP.out.below b11 KP.out.2.2)
  have OG := Lib.hid o; clear o b11
  obtain ⟨⟨kP0, kP1, kP2⟩, ⟨kP3, kP4, kP5⟩, -⟩ := id KP.out
  have b12 := bel1 w11 (.cells #[.int .i64 r.c, .slice vga p vgc, .int .i64 r.f] 30)
  have B12 := Lib.hid (bel_tr B11.out b12 (Nat.le_refl _))
  have Z12 := Lib.hid b12.size
  have OP := Lib.hid (OP.out.next b12)
  have Ox := Lib.hid (Ox.out.next b12)
  have Oy := Lib.hid (Oy.out.next b12)
  have Ozz := Lib.hid (Ozz.out.next b12)
  have OG := Lib.hid (OG.out.next b12)
  have KP := Lib.hid (KP.out.below b12 KP.out.2.2)
  clear b12
  have KG := Lib.hid (Tri.made (.int .i64 r.c) (.slice vga p vgc) (.int .i64 r.f) w11 30)
  have Y12 := Lib.hid KG.out.2.2
  obtain ⟨⟨mP0, mP1, mP2⟩, ⟨mP3, mP4, mP5⟩, -⟩ := id KP.out
  obtain ⟨⟨mG0, mG1, mG2⟩, ⟨mG3, mG4, mG5⟩, -⟩ := id KG.out
  go_wp2_with fail
  clear kP0 kP1 kP2 kP3 kP4 kP5 mP0 mP1 mP2 mP3 mP4 mP5 mG0 mG1 mG2 mG3 mG4 mG5
  generalize w11.alloc (.cells #[.int .i64 r.c, .slice vga p vgc, .int .i64 r.f] 30) = w12 at B12 Z12 Y12 OP Ox Oy Ozz OG KP KG ⊢
  refine (eqEnd_own w12 r.c r.f OG.out OP.out HPL.out).mono ?_; rintro e w13 ⟨rfl, b13⟩
  have B13 := Lib.hid (bel_tr B12.out b13 (Nat.le_refl _))
  have Z13 := Lib.hid b13.size
  have OP := Lib.hid (OP.out.next b13)
  have Ox := Lib.hid (Ox.out.next b13)
  have Oy := Lib.hid (Oy.out.next b13)
  have Ozz := Lib.hid (Ozz.out.next b13)
  have OG := Lib.hid (OG.out.next b13)
  have KP := Lib.hid (KP.out.below b13 KP.out.2.2)
  have KG := Lib.hid (KG.out.below b13 KG.out.2.2)
  clear b13
  obtain ⟨⟨kP0, kP1, kP2⟩, ⟨kP3, kP4, kP5⟩, -⟩ := id KP.out
  obtain ⟨⟨kG0, kG1, kG2⟩, ⟨kG3, kG4, kG5⟩, -⟩ := id KG.out
  go_wp2_with fail
  clear kP0 kP1 kP2 kP3 kP4 kP5 kG0 kG1 kG2 kG3 kG4 kG5
  refine (toStringS_is w13 a ca l n hn (HV.out.below B13.out) hll).mono ?_; rintro e w14 ⟨q7, rfl, -, o, b14⟩
  have Tt := Lib.hid (show ∀ k, (.slice (some ⟨q7, 0, none⟩) n n : Value).ownBlock = some k → w13.heap.size ≤ k from OT.lt o)
  have Ut := Lib.hid (show ∀ k, (.slice (some ⟨q7, 0, none⟩) n n : Value).ownBlock = some k → w14.heap.size > k from OT.low o)
  have B14 := Lib.hid (bel_tr B13.out b14 (Nat.le_refl _))
  have Z14 := Lib.hid b14.size
  have OP := Lib.hid (OP.out.next b14)
  have Ox := Lib.hid (Ox.out.next b14)
  have Oy := Lib.hid (Oy.out.next b14)
  have Ozz := Lib.hid (Ozz.out.next b14)
  have OG := Lib.hid (OG.out.next b14)
  have KP := Lib.hid (KP.out.below b14 KP.out.2.2)
  have KG := Lib.hid (KG.out.below b14 KG.out.2.2)
  have Ot := Lib.hid o; clear o b14
  obtain ⟨⟨kP0, kP1, kP2⟩, ⟨kP3, kP4, kP5⟩, -⟩ := id KP.out
  obtain ⟨⟨kG0, kG1, kG2⟩, ⟨kG3, kG4, kG5⟩, -⟩ := id KG.out
  go_wp2_with fail
  clear kP0 kP1 kP2 kP3 kP4 kP5 kG0 kG1 kG2 kG3 kG4 kG5
  refine (eqStringS_is w14 _ _ _ _ l n hn Ox.out.vw Ot.out.vw (by omega)).mono ?_; rintro e w15 ⟨rfl, b15⟩
  have B15 := Lib.hid (bel_tr B14.out b15 (Nat.le_refl _))
  have Z15 := Lib.hid b15.size
  have OP := Lib.hid (OP.out.next b15)
  have Ox := Lib.hid (Ox.out.next b15)
  have Oy := Lib.hid (Oy.out.next b15)
  have Ozz := Lib.hid (Ozz.out.next b15)
  have OG := Lib.hid (OG.out.next b15)
  have Ot := Lib.hid (Ot.out.next b15)
  have KP := Lib.hid (KP.out.below b15 KP.out.2.2)
  have KG := Lib.hid (KG.out.below b15 KG.out.2.2)
  clear b15
  clear Ot
  obtain ⟨⟨kP0, kP1, kP2⟩, ⟨kP3, kP4, kP5⟩, -⟩ := id KP.out
  obtain ⟨⟨kG0, kG1, kG2⟩, ⟨kG3, kG4, kG5⟩, -⟩ := id KG.out
  go_wp2_with fail
  clear kP0 kP1 kP2 kP3 kP4 kP5 kG0 kG1 kG2 kG3 kG4 kG5
  refine (toBinS_is w15 ba bc bs bn hbl (HBV.out.below B15.out) hbb).mono ?_; rintro e w16 ⟨q8, rfl, -, o, b16⟩
  have Tt := Lib.hid (show ∀ k, (.slice (some ⟨q8, 0, none⟩) bn bn : Value).ownBlock = some k → w15.heap.size ≤ k from OwI.lt o)
  have Ut := Lib.hid (show ∀ k, (.slice (some ⟨q8, 0, none⟩) bn bn : Value).ownBlock = some k → w16.heap.size > k from OwI.low o)
  have B16 := Lib.hid (bel_tr B15.out b16 (Nat.le_refl _))
  have Z16 := Lib.hid b16.size
  have OP := Lib.hid (OP.out.next b16)
  have Ox := Lib.hid (Ox.out.next b16)
  have Oy := Lib.hid (Oy.out.next b16)
  have Ozz := Lib.hid (Ozz.out.next b16)
  have OG := Lib.hid (OG.out.next b16)
  have KP := Lib.hid (KP.out.below b16 KP.out.2.2)
  have KG := Lib.hid (KG.out.below b16 KG.out.2.2)
  have Ot := Lib.hid o; clear o b16
  obtain ⟨⟨kP0, kP1, kP2⟩, ⟨kP3, kP4, kP5⟩, -⟩ := id KP.out
  obtain ⟨⟨kG0, kG1, kG2⟩, ⟨kG3, kG4, kG5⟩, -⟩ := id KG.out
  go_wp2_with fail
  clear kP0 kP1 kP2 kP3 kP4 kP5 kG0 kG1 kG2 kG3 kG4 kG5
  refine (eqBinS_same w16 _ _ _ _ bs bn hbl Oy.out.vw Ot.out.vw (by omega)).mono ?_; rintro e w17 ⟨rfl, b17⟩
  have B17 := Lib.hid (bel_tr B16.out b17 (Nat.le_refl _))
  have Z17 := Lib.hid b17.size
  have OP := Lib.hid (OP.out.next b17)
  have Ox := Lib.hid (Ox.out.next b17)
  have Oy := Lib.hid (Oy.out.next b17)
  have Ozz := Lib.hid (Ozz.out.next b17)
  have OG := Lib.hid (OG.out.next b17)
  have Ot := Lib.hid (Ot.out.next b17)
  have KP := Lib.hid (KP.out.below b17 KP.out.2.2)
  have KG := Lib.hid (KG.out.below b17 KG.out.2.2)
  clear b17
  clear Ot
  obtain ⟨⟨kP0, kP1, kP2⟩, ⟨kP3, kP4, kP5⟩, -⟩ := id KP.out
  obtain ⟨⟨kG0, kG1, kG2⟩, ⟨kG3, kG4, kG5⟩, -⟩ := id KG.out
  go_wp2_with fail
  clear kP0 kP1 kP2 kP3 kP4 kP5 kG0 kG1 kG2 kG3 kG4 kG5
  refine (toInt64S_is w17 ga gc gs gn hgl (HGV.out.below B17.out) hgg2).mono ?_; rintro e w18 ⟨q9, rfl, -, o, b18⟩
  have Tt := Lib.hid (show ∀ k, (.slice (some ⟨q9, 0, none⟩) gn gn : Value).ownBlock = some k → w17.heap.size ≤ k from ON.lt o)
  have Ut := Lib.hid (show ∀ k, (.slice (some ⟨q9, 0, none⟩) gn gn : Value).ownBlock = some k → w18.heap.size > k from ON.low o)
  have B18 := Lib.hid (bel_tr B17.out b18 (Nat.le_refl _))
  have Z18 := Lib.hid b18.size
  have OP := Lib.hid (OP.out.next b18)
  have Ox := Lib.hid (Ox.out.next b18)
  have Oy := Lib.hid (Oy.out.next b18)
  have Ozz := Lib.hid (Ozz.out.next b18)
  have OG := Lib.hid (OG.out.next b18)
  have KP := Lib.hid (KP.out.below b18 KP.out.2.2)
  have KG := Lib.hid (KG.out.below b18 KG.out.2.2)
  have Ot := Lib.hid o; clear o b18
  obtain ⟨⟨kP0, kP1, kP2⟩, ⟨kP3, kP4, kP5⟩, -⟩ := id KP.out
  obtain ⟨⟨kG0, kG1, kG2⟩, ⟨kG3, kG4, kG5⟩, -⟩ := id KG.out
  go_wp2_with fail
  clear kP0 kP1 kP2 kP3 kP4 kP5 kG0 kG1 kG2 kG3 kG4 kG5
  refine (eqInt64S_is w18 _ _ _ _ gs gn hgl Ozz.out.vw Ot.out.vw (by omega)).mono ?_; rintro e w19 ⟨rfl, b19⟩
  have B19 := Lib.hid (bel_tr B18.out b19 (Nat.le_refl _))
  have Z19 := Lib.hid b19.size
  have OP := Lib.hid (OP.out.next b19)
  have Ox := Lib.hid (Ox.out.next b19)
  have Oy := Lib.hid (Oy.out.next b19)
  have Ozz := Lib.hid (Ozz.out.next b19)
  have OG := Lib.hid (OG.out.next b19)
  have Ot := Lib.hid (Ot.out.next b19)
  have KP := Lib.hid (KP.out.below b19 KP.out.2.2)
  have KG := Lib.hid (KG.out.below b19 KG.out.2.2)
  clear b19
  clear Ot
  obtain ⟨⟨kP0, kP1, kP2⟩, ⟨kP3, kP4, kP5⟩, -⟩ := id KP.out
  obtain ⟨⟨kG0, kG1, kG2⟩, ⟨kG3, kG4, kG5⟩, -⟩ := id KG.out
  go_wp2_with fail
  clear kP0 kP1 kP2 kP3 kP4 kP5 kG0 kG1 kG2 kG3 kG4 kG5
  refine (Nx.markS_own w19 (by have := Z2.out; have := Z3.out; have := Z4.out; have := Z5.out; have := Z6.out; have := Z7.out; have := Y7.out; have := Z8.out; have := Z9.out; have := Z10.out; have := Z11.out; have := Z12.out; have := Y12.out; have := Z13.out; have := Z14.out; have := Z15.out; have := Z16.out; have := Z17.out; have := Z18.out; have := Z19.out; omega) (Nx.owt_of Ox.out) (by rw [hn]; omega)).mono ?_; rintro e w20 ⟨rfl, g20, -⟩
  have B20 := Lib.hid (B19.out.grown g20 B19.out.size (fun j hj => by have := Tx.out j hj; have := Z2.out; have := Z3.out; have := Z4.out; have := Z5.out; have := Z6.out; have := Z7.out; have := Y7.out; have := Z8.out; have := Z9.out; have := Z10.out; have := Z11.out; have := Z12.out; have := Y12.out; have := Z13.out; have := Z14.out; have := Z15.out; have := Z16.out; have := Z17.out; have := Z18.out; have := Z19.out; omega))
  have OP := Lib.hid (OP.out.grown g20 (fun k hk e => by have := Tx.out k e; have := Ux.out k e; have := TP.out k hk; have := UP.out k hk; have := Z2.out; have := Z3.out; have := Z4.out; have := Z5.out; have := Z6.out; have := Z7.out; have := Y7.out; have := Z8.out; have := Z9.out; have := Z10.out; have := Z11.out; have := Z12.out; have := Y12.out; have := Z13.out; have := Z14.out; have := Z15.out; have := Z16.out; have := Z17.out; have := Z18.out; have := Z19.out; omega))
  have Oy := Lib.hid (Oy.out.grown g20 (fun k hk e => by have := Tx.out k e; have := Ux.out k e; have := Ty.out k hk; have := Uy.out k hk; have := Z2.out; have := Z3.out; have := Z4.out; have := Z5.out; have := Z6.out; have := Z7.out; have := Y7.out; have := Z8.out; have := Z9.out; have := Z10.out; have := Z11.out; have := Z12.out; have := Y12.out; have := Z13.out; have := Z14.out; have := Z15.out; have := Z16.out; have := Z17.out; have := Z18.out; have := Z19.out; omega))
  have Ozz := Lib.hid (Ozz.out.grown g20 (fun k hk e => by have := Tx.out k e; have := Ux.out k e; have := Tzz.out k hk; have := Uzz.out k hk; have := Z2.out; have := Z3.out; have := Z4.out; have := Z5.out; have := Z6.out; have := Z7.out; have := Y7.out; have := Z8.out; have := Z9.out; have := Z10.out; have := Z11.out; have := Z12.out; have := Y12.out; have := Z13.out; have := Z14.out; have := Z15.out; have := Z16.out; have := Z17.out; have := Z18.out; have := Z19.out; omega))
  have OG := Lib.hid (OG.out.grown g20 (fun k hk e => by have := Tx.out k e; have := Ux.out k e; have := TG.out k hk; have := UG.out k hk; have := Z2.out; have := Z3.out; have := Z4.out; have := Z5.out; have := Z6.out; have := Z7.out; have := Y7.out; have := Z8.out; have := Z9.out; have := Z10.out; have := Z11.out; have := Z12.out; have := Y12.out; have := Z13.out; have := Z14.out; have := Z15.out; have := Z16.out; have := Z17.out; have := Z18.out; have := Z19.out; omega))
  have KP := Lib.hid (KP.out.grown g20 (fun e => by have := Tx.out _ e; have := Ux.out _ e; have := Z2.out; have := Z3.out; have := Z4.out; have := Z5.out; have := Z6.out; have := Z7.out; have := Y7.out; have := Z8.out; have := Z9.out; have := Z10.out; have := Z11.out; have := Z12.out; have := Y12.out; have := Z13.out; have := Z14.out; have := Z15.out; have := Z16.out; have := Z17.out; have := Z18.out; have := Z19.out; omega))
  have KG := Lib.hid (KG.out.grown g20 (fun e => by have := Tx.out _ e; have := Ux.out _ e; have := Z2.out; have := Z3.out; have := Z4.out; have := Z5.out; have := Z6.out; have := Z7.out; have := Y7.out; have := Z8.out; have := Z9.out; have := Z10.out; have := Z11.out; have := Z12.out; have := Y12.out; have := Z13.out; have := Z14.out; have := Z15.out; have := Z16.out; have := Z17.out; have := Z18.out; have := Z19.out; omega))
  have Z20 := Lib.hid g20.size
  clear g20
  clear Ox
  rw [hn]
  obtain ⟨⟨kP0, kP1, kP2⟩, ⟨kP3, kP4, kP5⟩, -⟩ := id KP.out
  obtain ⟨⟨kG0, kG1, kG2⟩, ⟨kG3, kG4, kG5⟩, -⟩ := id KG.out
  go_wp2_with fail
  clear kP0 kP1 kP2 kP3 kP4 kP5 kG0 kG1 kG2 kG3 kG4 kG5
  refine (markI_from (s := n + 1) w20 Oy.out hbl (by omega) (by omega) (by omega)).mono ?_; rintro e w21 ⟨rfl, g21, -⟩
  have B21 := Lib.hid (B20.out.grown g21 B20.out.size (fun j hj => by have := Ty.out j hj; have := Z2.out; have := Z3.out; have := Z4.out; have := Z5.out; have := Z6.out; have := Z7.out; have := Y7.out; have := Z8.out; have := Z9.out; have := Z10.out; have := Z11.out; have := Z12.out; have := Y12.out; have := Z13.out; have := Z14.out; have := Z15.out; have := Z16.out; have := Z17.out; have := Z18.out; have := Z19.out; have := Z20.out; omega))
  have OP := Lib.hid (OP.out.grown g21 (fun k hk e => by have := Ty.out k e; have := Uy.out k e; have := TP.out k hk; have := UP.out k hk; have := Z2.out; have := Z3.out; have := Z4.out; have := Z5.out; have := Z6.out; have := Z7.out; have := Y7.out; have := Z8.out; have := Z9.out; have := Z10.out; have := Z11.out; have := Z12.out; have := Y12.out; have := Z13.out; have := Z14.out; have := Z15.out; have := Z16.out; have := Z17.out; have := Z18.out; have := Z19.out; have := Z20.out; omega))
  have Ozz := Lib.hid (Ozz.out.grown g21 (fun k hk e => by have := Ty.out k e; have := Uy.out k e; have := Tzz.out k hk; have := Uzz.out k hk; have := Z2.out; have := Z3.out; have := Z4.out; have := Z5.out; have := Z6.out; have := Z7.out; have := Y7.out; have := Z8.out; have := Z9.out; have := Z10.out; have := Z11.out; have := Z12.out; have := Y12.out; have := Z13.out; have := Z14.out; have := Z15.out; have := Z16.out; have := Z17.out; have := Z18.out; have := Z19.out; have := Z20.out; omega))
  have OG := Lib.hid (OG.out.grown g21 (fun k hk e => by have := Ty.out k e; have := Uy.out k e; have := TG.out k hk; have := UG.out k hk; have := Z2.out; have := Z3.out; have := Z4.out; have := Z5.out; have := Z6.out; have := Z7.out; have := Y7.out; have := Z8.out; have := Z9.out; have := Z10.out; have := Z11.out; have := Z12.out; have := Y12.out; have := Z13.out; have := Z14.out; have := Z15.out; have := Z16.out; have := Z17.out; have := Z18.out; have := Z19.out; have := Z20.out; omega))
  have KP := Lib.hid (KP.out.grown g21 (fun e => by have := Ty.out _ e; have := Uy.out _ e; have := Z2.out; have := Z3.out; have := Z4.out; have := Z5.out; have := Z6.out; have := Z7.out; have := Y7.out; have := Z8.out; have := Z9.out; have := Z10.out; have := Z11.out; have := Z12.out; have := Y12.out; have := Z13.out; have := Z14.out; have := Z15.out; have := Z16.out; have := Z17.out; have := Z18.out; have := Z19.out; have := Z20.out; omega))
  have KG := Lib.hid (KG.out.grown g21 (fun e => by have := Ty.out _ e; have := Uy.out _ e; have := Z2.out; have := Z3.out; have := Z4.out; have := Z5.out; have := Z6.out; have := Z7.out; have := Y7.out; have := Z8.out; have := Z9.out; have := Z10.out; have := Z11.out; have := Z12.out; have := Y12.out; have := Z13.out; have := Z14.out; have := Z15.out; have := Z16.out; have := Z17.out; have := Z18.out; have := Z19.out; have := Z20.out; omega))
  have Z21 := Lib.hid g21.size
  clear g21
  clear Oy
  obtain ⟨⟨kP0, kP1, kP2⟩, ⟨kP3, kP4, kP5⟩, -⟩ := id KP.out
  obtain ⟨⟨kG0, kG1, kG2⟩, ⟨kG3, kG4, kG5⟩, -⟩ := id KG.out
  go_wp2_with fail
  clear kP0 kP1 kP2 kP3 kP4 kP5 kG0 kG1 kG2 kG3 kG4 kG5
  refine (markInts_own (s := n + 1 + 2 * bn) w21 Ozz.out hgl (by omega) (by omega) (by omega)).mono ?_; rintro e w22 ⟨rfl, g22⟩
  have B22 := Lib.hid (B21.out.grown g22 B21.out.size (fun j hj => by have := Tzz.out j hj; have := Z2.out; have := Z3.out; have := Z4.out; have := Z5.out; have := Z6.out; have := Z7.out; have := Y7.out; have := Z8.out; have := Z9.out; have := Z10.out; have := Z11.out; have := Z12.out; have := Y12.out; have := Z13.out; have := Z14.out; have := Z15.out; have := Z16.out; have := Z17.out; have := Z18.out; have := Z19.out; have := Z20.out; have := Z21.out; omega))
  have OP := Lib.hid (OP.out.grown g22 (fun k hk e => by have := Tzz.out k e; have := Uzz.out k e; have := TP.out k hk; have := UP.out k hk; have := Z2.out; have := Z3.out; have := Z4.out; have := Z5.out; have := Z6.out; have := Z7.out; have := Y7.out; have := Z8.out; have := Z9.out; have := Z10.out; have := Z11.out; have := Z12.out; have := Y12.out; have := Z13.out; have := Z14.out; have := Z15.out; have := Z16.out; have := Z17.out; have := Z18.out; have := Z19.out; have := Z20.out; have := Z21.out; omega))
  have OG := Lib.hid (OG.out.grown g22 (fun k hk e => by have := Tzz.out k e; have := Uzz.out k e; have := TG.out k hk; have := UG.out k hk; have := Z2.out; have := Z3.out; have := Z4.out; have := Z5.out; have := Z6.out; have := Z7.out; have := Y7.out; have := Z8.out; have := Z9.out; have := Z10.out; have := Z11.out; have := Z12.out; have := Y12.out; have := Z13.out; have := Z14.out; have := Z15.out; have := Z16.out; have := Z17.out; have := Z18.out; have := Z19.out; have := Z20.out; have := Z21.out; omega))
  have KP := Lib.hid (KP.out.grown g22 (fun e => by have := Tzz.out _ e; have := Uzz.out _ e; have := Z2.out; have := Z3.out; have := Z4.out; have := Z5.out; have := Z6.out; have := Z7.out; have := Y7.out; have := Z8.out; have := Z9.out; have := Z10.out; have := Z11.out; have := Z12.out; have := Y12.out; have := Z13.out; have := Z14.out; have := Z15.out; have := Z16.out; have := Z17.out; have := Z18.out; have := Z19.out; have := Z20.out; have := Z21.out; omega))
  have KG := Lib.hid (KG.out.grown g22 (fun e => by have := Tzz.out _ e; have := Uzz.out _ e; have := Z2.out; have := Z3.out; have := Z4.out; have := Z5.out; have := Z6.out; have := Z7.out; have := Y7.out; have := Z8.out; have := Z9.out; have := Z10.out; have := Z11.out; have := Z12.out; have := Y12.out; have := Z13.out; have := Z14.out; have := Z15.out; have := Z16.out; have := Z17.out; have := Z18.out; have := Z19.out; have := Z20.out; have := Z21.out; omega))
  have Z22 := Lib.hid g22.size
  clear g22
  clear Ozz
  have k0 : ¬ ((n + 1 + 2 * bn + gn : Nat) : Int) < 0 := by omega
  generalize ((n + 1 + 2 * bn + gn : Nat) : Int) = kk at k0 ⊢
  obtain ⟨⟨kP0, kP1, kP2⟩, ⟨kP3, kP4, kP5⟩, -⟩ := id KP.out
  obtain ⟨⟨kG0, kG1, kG2⟩, ⟨kG3, kG4, kG5⟩, -⟩ := id KG.out
  go_wp2_with fail
  clear kP0 kP1 kP2 kP3 kP4 kP5 kG0 kG1 kG2 kG3 kG4 kG5
  refine (eqEnd_own w22 r.c r.f OG.out OP.out HPL.out).mono ?_; rintro e w23 ⟨rfl, b23⟩
  have B23 := Lib.hid (bel_tr B22.out b23 (Nat.le_refl _))
  have Z23 := Lib.hid b23.size
  have OP := Lib.hid (OP.out.next b23)
  have OG := Lib.hid (OG.out.next b23)
  have KP := Lib.hid (KP.out.below b23 KP.out.2.2)
  have KG := Lib.hid (KG.out.below b23 KG.out.2.2)
  clear b23
  have m0 : ¬ ((1 + 2 * p : Nat) : Int) < 0 := by omega
  have m1 : (((1 + 2 * p : Nat) : Int) != ((1 + 2 * p : Nat) : Int)) = false := by simp
  have hp4 : p ≤ 4194304 := by rw [← HPN.out]; exact HPL.out
  obtain ⟨⟨kP0, kP1, kP2⟩, ⟨kP3, kP4, kP5⟩, -⟩ := id KP.out
  obtain ⟨⟨kG0, kG1, kG2⟩, ⟨kG3, kG4, kG5⟩, -⟩ := id KG.out
  go_wp2_with fail
  clear kP0 kP1 kP2 kP3 kP4 kP5 kG0 kG1 kG2 kG3 kG4 kG5
  refine (markEnd_from (s := 1) w23 r.c r.f OG.out HPN.out hp4 (by decide) (by decide)).mono ?_; rintro e w24 ⟨rfl, g24, PM, hPM, hMk, og⟩
  have B24 := Lib.hid (B23.out.grown g24 B23.out.size (fun j hj => by have := TG.out j hj; have := Z2.out; have := Z3.out; have := Z4.out; have := Z5.out; have := Z6.out; have := Z7.out; have := Y7.out; have := Z8.out; have := Z9.out; have := Z10.out; have := Z11.out; have := Z12.out; have := Y12.out; have := Z13.out; have := Z14.out; have := Z15.out; have := Z16.out; have := Z17.out; have := Z18.out; have := Z19.out; have := Z20.out; have := Z21.out; have := Z22.out; have := Z23.out; omega))
  have OP := Lib.hid (OP.out.grown g24 (fun k hk e => by have := TG.out k e; have := UG.out k e; have := TP.out k hk; have := UP.out k hk; have := Z2.out; have := Z3.out; have := Z4.out; have := Z5.out; have := Z6.out; have := Z7.out; have := Y7.out; have := Z8.out; have := Z9.out; have := Z10.out; have := Z11.out; have := Z12.out; have := Y12.out; have := Z13.out; have := Z14.out; have := Z15.out; have := Z16.out; have := Z17.out; have := Z18.out; have := Z19.out; have := Z20.out; have := Z21.out; have := Z22.out; have := Z23.out; omega))
  have KP := Lib.hid (KP.out.grown g24 (fun e => by have := TG.out _ e; have := UG.out _ e; have := Z2.out; have := Z3.out; have := Z4.out; have := Z5.out; have := Z6.out; have := Z7.out; have := Y7.out; have := Z8.out; have := Z9.out; have := Z10.out; have := Z11.out; have := Z12.out; have := Y12.out; have := Z13.out; have := Z14.out; have := Z15.out; have := Z16.out; have := Z17.out; have := Z18.out; have := Z19.out; have := Z20.out; have := Z21.out; have := Z22.out; have := Z23.out; omega))
  have KG := Lib.hid (KG.out.grown g24 (fun e => by have := TG.out _ e; have := UG.out _ e; have := Z2.out; have := Z3.out; have := Z4.out; have := Z5.out; have := Z6.out; have := Z7.out; have := Y7.out; have := Z8.out; have := Z9.out; have := Z10.out; have := Z11.out; have := Z12.out; have := Y12.out; have := Z13.out; have := Z14.out; have := Z15.out; have := Z16.out; have := Z17.out; have := Z18.out; have := Z19.out; have := Z20.out; have := Z21.out; have := Z22.out; have := Z23.out; omega))
  have Z24 := Lib.hid g24.size
  clear g24
  have OG := Lib.hid og
  have HMK := Lib.hid hMk; clear og hMk
  obtain ⟨⟨kP0, kP1, kP2⟩, ⟨kP3, kP4, kP5⟩, -⟩ := id KP.out
  obtain ⟨⟨kG0, kG1, kG2⟩, ⟨kG3, kG4, kG5⟩, -⟩ := id KG.out
  go_wp2_with fail
  clear kP0 kP1 kP2 kP3 kP4 kP5 kG0 kG1 kG2 kG3 kG4 kG5
  refine (heldEnd_from (n := p) (s := 1) w24 r.c r.f OG.out hPM HMK.out hp4 (by decide) (by decide)).mono ?_; rintro e w25 ⟨rfl, b25⟩
  have B25 := Lib.hid (bel_tr B24.out b25 (Nat.le_refl _))
  have Z25 := Lib.hid b25.size
  have OP := Lib.hid (OP.out.next b25)
  have OG := Lib.hid (OG.out.next b25)
  have KP := Lib.hid (KP.out.below b25 KP.out.2.2)
  have KG := Lib.hid (KG.out.below b25 KG.out.2.2)
  clear b25
  obtain ⟨⟨kP0, kP1, kP2⟩, ⟨kP3, kP4, kP5⟩, -⟩ := id KP.out
  obtain ⟨⟨kG0, kG1, kG2⟩, ⟨kG3, kG4, kG5⟩, -⟩ := id KG.out
  go_wp2_with fail
  clear kP0 kP1 kP2 kP3 kP4 kP5 kG0 kG1 kG2 kG3 kG4 kG5
  refine (toStringS_is w25 a ca l n hn (HV.out.below B25.out) hll).mono ?_; rintro e w26 ⟨q10, rfl, -, o, b26⟩
  have Ta := Lib.hid (show ∀ k, (.slice (some ⟨q10, 0, none⟩) n n : Value).ownBlock = some k → w25.heap.size ≤ k from OT.lt o)
  have Ua := Lib.hid (show ∀ k, (.slice (some ⟨q10, 0, none⟩) n n : Value).ownBlock = some k → w26.heap.size > k from OT.low o)
  have B26 := Lib.hid (bel_tr B25.out b26 (Nat.le_refl _))
  have Z26 := Lib.hid b26.size
  have OP := Lib.hid (OP.out.next b26)
  have OG := Lib.hid (OG.out.next b26)
  have KP := Lib.hid (KP.out.below b26 KP.out.2.2)
  have KG := Lib.hid (KG.out.below b26 KG.out.2.2)
  have Oa := Lib.hid o; clear o b26
  obtain ⟨⟨kP0, kP1, kP2⟩, ⟨kP3, kP4, kP5⟩, -⟩ := id KP.out
  obtain ⟨⟨kG0, kG1, kG2⟩, ⟨kG3, kG4, kG5⟩, -⟩ := id KG.out
  go_wp2_with fail
  clear kP0 kP1 kP2 kP3 kP4 kP5 kG0 kG1 kG2 kG3 kG4 kG5
  refine (toBinS_is w26 ba bc bs bn hbl (HBV.out.below B26.out) hbb).mono ?_; rintro e w27 ⟨q11, rfl, -, o, b27⟩
  have Tb := Lib.hid (show ∀ k, (.slice (some ⟨q11, 0, none⟩) bn bn : Value).ownBlock = some k → w26.heap.size ≤ k from OwI.lt o)
  have Ub := Lib.hid (show ∀ k, (.slice (some ⟨q11, 0, none⟩) bn bn : Value).ownBlock = some k → w27.heap.size > k from OwI.low o)
  have B27 := Lib.hid (bel_tr B26.out b27 (Nat.le_refl _))
  have Z27 := Lib.hid b27.size
  have OP := Lib.hid (OP.out.next b27)
  have OG := Lib.hid (OG.out.next b27)
  have Oa := Lib.hid (Oa.out.next b27)
  have KP := Lib.hid (KP.out.below b27 KP.out.2.2)
  have KG := Lib.hid (KG.out.below b27 KG.out.2.2)
  have Ob := Lib.hid o; clear o b27
  obtain ⟨⟨kP0, kP1, kP2⟩, ⟨kP3, kP4, kP5⟩, -⟩ := id KP.out
  obtain ⟨⟨kG0, kG1, kG2⟩, ⟨kG3, kG4, kG5⟩, -⟩ := id KG.out
  go_wp2_with fail
  clear kP0 kP1 kP2 kP3 kP4 kP5 kG0 kG1 kG2 kG3 kG4 kG5
  refine (toInt64S_is w27 ga gc gs gn hgl (HGV.out.below B27.out) hgg2).mono ?_; rintro e w28 ⟨q12, rfl, -, o, b28⟩
  have Tc := Lib.hid (show ∀ k, (.slice (some ⟨q12, 0, none⟩) gn gn : Value).ownBlock = some k → w27.heap.size ≤ k from ON.lt o)
  have Uc := Lib.hid (show ∀ k, (.slice (some ⟨q12, 0, none⟩) gn gn : Value).ownBlock = some k → w28.heap.size > k from ON.low o)
  have B28 := Lib.hid (bel_tr B27.out b28 (Nat.le_refl _))
  have Z28 := Lib.hid b28.size
  have OP := Lib.hid (OP.out.next b28)
  have OG := Lib.hid (OG.out.next b28)
  have Oa := Lib.hid (Oa.out.next b28)
  have Ob := Lib.hid (Ob.out.next b28)
  have KP := Lib.hid (KP.out.below b28 KP.out.2.2)
  have KG := Lib.hid (KG.out.below b28 KG.out.2.2)
  have Oc := Lib.hid o; clear o b28
  obtain ⟨⟨kP0, kP1, kP2⟩, ⟨kP3, kP4, kP5⟩, -⟩ := id KP.out
  obtain ⟨⟨kG0, kG1, kG2⟩, ⟨kG3, kG4, kG5⟩, -⟩ := id KG.out
  go_wp2_with fail
  clear kP0 kP1 kP2 kP3 kP4 kP5 kG0 kG1 kG2 kG3 kG4 kG5
  refine (HI.out w28 _ _ Oa.out.vw _ _ Ob.out.vw _ _ Oc.out.vw (lib3_below HL.out B28.out)).mono ?_; rintro e w29 ⟨v9, rfl, o, b29⟩
  obtain ⟨vha, vhc, rfl, -⟩ := o.view
  rw [HPN.out] at o ⊢
  have TH := Lib.hid (show ∀ k, (.slice vha p vhc : Value).ownBlock = some k → w28.heap.size ≤ k from OwI.lt o)
  have UH := Lib.hid (show ∀ k, (.slice vha p vhc : Value).ownBlock = some k → w29.heap.size > k from OwI.low o)
  have B29 := Lib.hid (bel_tr B28.out b29 (Nat.le_refl _))
  have Z29 := Lib.hid b29.size
  have OP := Lib.hid (OP.out.next b29)
  have OG := Lib.hid (OG.out.next b29)
  have Oa := Lib.hid (Oa.out.next b29)
  have Ob := Lib.hid (Ob.out.next b29)
  have Oc := Lib.hid (Oc.out.next b29)
  have KP := Lib.hid (KP.out.below b29 KP.out.2.2)
  have KG := Lib.hid (KG.out.below b29 KG.out.2.2)
  have OH := Lib.hid o; clear o b29
  obtain ⟨⟨kP0, kP1, kP2⟩, ⟨kP3, kP4, kP5⟩, -⟩ := id KP.out
  obtain ⟨⟨kG0, kG1, kG2⟩, ⟨kG3, kG4, kG5⟩, -⟩ := id KG.out
  have b30 := bel1 w29 (.cells #[.int .i64 r.c, .slice vha p vhc, .int .i64 r.f] 30)
  have B30 := Lib.hid (bel_tr B29.out b30 (Nat.le_refl _))
  have Z30 := Lib.hid b30.size
  have OP := Lib.hid (OP.out.next b30)
  have OG := Lib.hid (OG.out.next b30)
  have Oa := Lib.hid (Oa.out.next b30)
  have Ob := Lib.hid (Ob.out.next b30)
  have Oc := Lib.hid (Oc.out.next b30)
  have OH := Lib.hid (OH.out.next b30)
  have KP := Lib.hid (KP.out.below b30 KP.out.2.2)
  have KG := Lib.hid (KG.out.below b30 KG.out.2.2)
  clear b30
  have KH := Lib.hid (Tri.made (.int .i64 r.c) (.slice vha p vhc) (.int .i64 r.f) w29 30)
  have Y30 := Lib.hid KH.out.2.2
  obtain ⟨⟨mP0, mP1, mP2⟩, ⟨mP3, mP4, mP5⟩, -⟩ := id KP.out
  obtain ⟨⟨mG0, mG1, mG2⟩, ⟨mG3, mG4, mG5⟩, -⟩ := id KG.out
  obtain ⟨⟨mH0, mH1, mH2⟩, ⟨mH3, mH4, mH5⟩, -⟩ := id KH.out
  go_wp2_with fail
  clear kP0 kP1 kP2 kP3 kP4 kP5 kG0 kG1 kG2 kG3 kG4 kG5 mP0 mP1 mP2 mP3 mP4 mP5 mG0 mG1 mG2 mG3 mG4 mG5 mH0 mH1 mH2 mH3 mH4 mH5
  generalize w29.alloc (.cells #[.int .i64 r.c, .slice vha p vhc, .int .i64 r.f] 30) = w30 at B30 Z30 Y30 OP OG Oa Ob Oc OH KP KG KH ⊢
  clear Oa
  clear Ob
  clear Oc
  refine (eqEnd_own w30 r.c r.f OH.out OP.out HPL.out).mono ?_; rintro e w31 ⟨rfl, b31⟩
  have B31 := Lib.hid (bel_tr B30.out b31 (Nat.le_refl _))
  have Z31 := Lib.hid b31.size
  have OP := Lib.hid (OP.out.next b31)
  have OG := Lib.hid (OG.out.next b31)
  have OH := Lib.hid (OH.out.next b31)
  have KP := Lib.hid (KP.out.below b31 KP.out.2.2)
  have KG := Lib.hid (KG.out.below b31 KG.out.2.2)
  have KH := Lib.hid (KH.out.below b31 KH.out.2.2)
  clear b31
  obtain ⟨⟨kP0, kP1, kP2⟩, ⟨kP3, kP4, kP5⟩, -⟩ := id KP.out
  obtain ⟨⟨kG0, kG1, kG2⟩, ⟨kG3, kG4, kG5⟩, -⟩ := id KG.out
  obtain ⟨⟨kH0, kH1, kH2⟩, ⟨kH3, kH4, kH5⟩, -⟩ := id KH.out
  go_wp2_with fail
  clear kP0 kP1 kP2 kP3 kP4 kP5 kG0 kG1 kG2 kG3 kG4 kG5 kH0 kH1 kH2 kH3 kH4 kH5
  refine (heldEnd_from (n := p) (s := 1) w31 r.c r.f OG.out hPM HMK.out hp4 (by decide) (by decide)).mono ?_; rintro e w32 ⟨rfl, b32⟩
  have B32 := Lib.hid (bel_tr B31.out b32 (Nat.le_refl _))
  have Z32 := Lib.hid b32.size
  have OP := Lib.hid (OP.out.next b32)
  have OG := Lib.hid (OG.out.next b32)
  have OH := Lib.hid (OH.out.next b32)
  have KP := Lib.hid (KP.out.below b32 KP.out.2.2)
  have KG := Lib.hid (KG.out.below b32 KG.out.2.2)
  have KH := Lib.hid (KH.out.below b32 KH.out.2.2)
  clear b32
  go_wp2_with fail
  go_ret
  exact ⟨rfl, B32.out⟩

theorem door_met (os : Os) (args : Array Value) : laidMetH Tryz.prog Rows.fnExactMeansRow.laid ((World.doorLaid Tryz.prog 400 os).forCall (fun _ _ => 0) ⟨#[], args, []⟩).memory :=
  laidMetH_of_parts3 (fuel := 8) (laidMet_of_run' 8 (by kernel_rfl) (by kernel_rfl)) (by kernel_rfl) (by kernel_rfl)
set_option maxRecDepth 100000 in
theorem lifted (os : Os) (started : os.Started) (H : Type) (enc : TypeId × Value → H) :
    ReturnsInHanded {} Tryz.checked os 5 .any (fun w args => (Rows.fnExactMeansSpec.pre enc Tryz.prog Tryz.f5 Rows.fnExactMeansRow.domain false w args ∧ laidMetH Tryz.prog Rows.fnExactMeansRow.laid w) ∧ sizedMet enc Tryz.prog Tryz.f5 (OpenSpec.ofChange Rows.fnExactMeansSpec) false w args) (Rows.fnExactMeansSpec.post enc Tryz.prog Tryz.f5 false true false false) := by
  refine returnsInHanded_of_change_and (C := Tryz.checked) (X := fun w _ => laidMetH Tryz.prog Rows.fnExactMeansRow.laid w) (fun _ _ _ hh h => h.of_heap hh) own started (by kernel_rfl) Tryz.func5
    (ChangeSpec.witness_shaped (enc := enc) (C := Tryz.checked) (os := os) (X := fun w _ => laidMetH Tryz.prog Rows.fnExactMeansRow.laid w) false (World.doorLaid Tryz.prog 400 os) #[.slice none 0 0, .slice none 0 0, .slice none 0 0, .int .i64 0] 8 rfl (World.shaped_of_RefB (by kernel_rfl) (by kernel_rfl)) (by kernel_rfl) (by kernel_rfl) (by kernel_rfl) (door_met os _)) ?_
  intro W base args ds gs before hval0 hW hcnd _ hL _
  have hval : ∀ (j : Nat) t v, Tryz.f5.params[j]? = some t → args[j]? = some v → Value.okWide Tryz.prog W .any base t v := hval0
  have hW' := hW
  obtain ⟨p, q, hA0, hV, rfl, hfz, hnd⟩ := hW
  have hA : DataW.TrodAll enc Tryz.prog W 0 (fun _ => true) true Tryz.f5.params.toList args.toList ds p := hA0
  rw [Tryz.params5] at hA hval
  obtain ⟨v0, vs0, d0, ds0, p0, q0, hargs, rfl, rfl, h0, r0⟩ := trodAll_cons hA
  obtain ⟨v1, vs1, d1, ds1, p1, q1, rfl, rfl, rfl, h1, r1⟩ := trodAll_cons r0
  obtain ⟨v2, vs2, d2, ds2, p2, q2, rfl, rfl, rfl, h2, r2⟩ := trodAll_cons r1
  obtain ⟨v3, vs3, d3, ds3, p3, q3, rfl, rfl, rfl, h3, r3⟩ := trodAll_cons r2
  obtain ⟨rfl, rfl, rfl⟩ := trodAll_nil r3
  obtain rfl : args = #[v0, v1, v2, v3] := by cases args; simp_all
  obtain ⟨rfl, rfl⟩ := trodVars_none hV
  have k0 := h0
  have lt0 : ∀ x ∈ p0, x.block < W.heap.size := by obtain ⟨m, hm⟩ := k0; exact DataW.trod_lt m _ _ _ hm
  have k1 := h1
  have lt1 : ∀ x ∈ p1, x.block < W.heap.size := by obtain ⟨m, hm⟩ := k1; exact DataW.trod_lt m _ _ _ hm
  have k2 := h2
  have lt2 : ∀ x ∈ p2, x.block < W.heap.size := by obtain ⟨m, hm⟩ := k2; exact DataW.trod_lt m _ _ _ hm
  have k3 := h3
  have lt3 : ∀ x ∈ p3, x.block < W.heap.size := by obtain ⟨m, hm⟩ := k3; exact DataW.trod_lt m _ _ _ hm
  clear hA0 hval0
  obtain ⟨a, ca, l, rfl, hvw, hsz⟩ := Fr.openTexts (hval 0 24 v0 rfl rfl) h0
  obtain ⟨ba, bc, bs, rfl, hbw, hbz⟩ := Fr.openBins (hval 1 49 v1 rfl rfl) h1
  obtain ⟨ga, gc, gs, rfl, hgw, -⟩ := Fr.openInts (hval 2 26 v2 rfl rfl) h2
  obtain ⟨x, rfl, -⟩ := open_int Tryz.underlying2 (hval 3 2 v3 rfl rfl) h3
  unfold maxLen at hsz hbz
  have hT : Rp.Lib3 W := by
    have hL2 : laidMetH Tryz.prog Rows.fnExactMeansRow.laid W := hL
    have hL3 := (MakeChecks.laidMetH_plain _ _ _ (by kernel_rfl)).mp hL2
    exact Rp.lib3_of hL3.tail.tail
  refine (walk W a ca l _ rfl hvw (fun s hs => by have := hsz s hs; omega) hT ba bc _ bs rfl hbw (fun c hc => by have := hbz c hc; omega) ga gc _ gs rfl hgw x).mono fun e W' ⟨he, bel⟩ => ?_
  subst he
  exact ⟨_, rfl, _, _, _, [], _, [], hW', trodAll_mk1 (shut_bool Tryz.underlying4 _), (trodAll_cons_mk (Below.trod laidOut (by kernel_rfl) (of_decide_eq_true (by kernel_rfl)) k0 bel lt0) (trodAll_cons_mk (Below.trod laidOut (by kernel_rfl) (of_decide_eq_true (by kernel_rfl)) k1 bel lt1) (trodAll_cons_mk (Below.trod laidOut (by kernel_rfl) (of_decide_eq_true (by kernel_rfl)) k2 bel lt2) (trodAll_cons_mk (Below.trod laidOut (by kernel_rfl) (of_decide_eq_true (by kernel_rfl)) k3 bel lt3) trodAll_mk0)))), rfl, bel.frame _, fun h => by cases h⟩

theorem over : Rows.fnExactMeansRow.holds Tryz.pinned (OpenSpec.ofChange Rows.fnExactMeansSpec) :=
  OpenClaim.holds_of_wide 5 Tryz.f5 rfl rfl rfl rfl rfl rfl rfl ⟨rfl, rfl, rfl, rfl, rfl⟩ rfl rfl rfl rfl rfl (by kernel_rfl) Tryz.func5 (by kernel_rfl)
    (of_decide_eq_true (by kernel_rfl)) (by unfold Func.isWrapper; first | (rw [if_pos (by decide +kernel)]; kernel_rfl) | (rw [if_neg (by decide +kernel)]; exact ⟨rfl, rfl⟩))
    (fun os started H enc _ => lifted os started H enc)

theorem row_proved : Rows.FnExactMeansSaid := over
theorem proved : Rows.FnExactMeansCardSaid :=
  Claim7.holds_tied_plain_at .later [] [.data, .data, .data, .sentinel, .sentinel] true (true, "cd3cc0e5522648959acd48973a9bdad8d56ca5d729f8e96e9cf073747923f11e") true
    row_proved (fun _ h => by cases h) (by kernel_rfl) (fun _ h => by cases h) fnExactMeans_row_tie rfl ⟨rfl, rfl⟩ (by kernel_rfl) rfl
    (fun f fn hf hfn => by
      obtain rfl : f = 5 := Option.some.inj ((show Tryz.prog.funcNamed "loop.example/g00526/laws.FnExactMeans" = some 5 by kernel_rfl).symm.trans hf) |>.symm
      obtain rfl : fn = Tryz.f5 := (Option.some.inj (Tryz.func5.symm.trans hfn)).symm
      exact ⟨by kernel_rfl, fun j t ht => by
        rw [Tryz.params5] at ht
        have hm : t ∈ [24, 49, 26, 2] := by simpa using Array.mem_of_getElem? ht
        have hall : ([24, 49, 26, 2].all fun u => !Tryz.prog.wantsStandIn u) = true := by kernel_rfl
        exact (show Tryz.prog.wantsStandIn t = false by simpa using List.all_eq_true.1 hall t hm)⟩)
    (by kernel_rfl)
#print axioms proved
end Go.Proofs.YtfnnoehpahdgcaaGreatDoor.fnExactMeans
