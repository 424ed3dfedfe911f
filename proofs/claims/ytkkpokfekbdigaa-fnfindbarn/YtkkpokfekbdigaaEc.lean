/-
  The walk of FnFindBarn at a code that is not too long.
-/
import Derived.Test.YtkkpokfekbdigaaEb
import Derived.Test.YtkkpokfekbdigaaRe
import Derived.Test.YtkkpokfekbdigaaRg
import Derived.Test.YtkkpokfekbdigaaVa
namespace Go.Proofs.Ytkkpokfekbdigaa.Cl
open Go.RowKit Wd Rp Cu Kp Ra
set_option linter.unusedVariables false
theorem fbI {h : List Cel} {ss : List (List Cel)} {K x : Cel} {fb : Bool} (hf : fdP h ss K = (x, fb)) {B : Nat} {hv sv : Value} (w : World) (o : OwB B w hv sv h ss) (s : Stor h ss) :
    Calls Try.prog 32 #[.agg #[hv, sv], .string K.r, .string K.b, .int .i64 K.t] w fun e w' => e = .returned (.tuple #[.agg #[.string x.r, .string x.b, .int .i64 x.t, .int .i64 x.v, .bool x.g], .bool fb]) ∧ Below w.heap.size w w' := by
  have := implFindO K w o s.low
  rw [hf] at this; exact this
theorem fbS {h : List Cel} {ss : List (List Cel)} {K x : Cel} {fb : Bool} (hf : fdP h ss K = (x, fb)) {B : Nat} {hv sv : Value} (w : World) (o : OwB B w hv sv h ss) (s : Stor h ss) (hK : K.mod) :
    Calls Try.prog 33 #[.agg #[hv, sv], .string K.r, .string K.b, .int .i64 K.t] w fun e w' => e = .returned (.tuple #[.agg #[.string x.r, .string x.b, .int .i64 x.t, .int .i64 x.v, .bool x.g], .bool fb]) ∧ Below w.heap.size w w' := by
  have := specFindO K w o s.low s.mod hK
  rw [hf] at this; exact this
theorem fS {l : List Cel} {K c : Cel} {fb : Bool} (h : findP l K = (c, fb)) {B : Nat} {v : Value} (w : World) (o : OwC B w v l) (hm : ∀ c ∈ l, c.mod) (hK : K.mod) (hl : l.length ≤ 4194304) :
    Calls Try.prog 27 #[v, .string K.r, .string K.b, .int .i64 K.t] w fun e w' => e = .returned (.tuple #[.agg #[.string c.r, .string c.b, .int .i64 c.t, .int .i64 c.v, .bool c.g], .bool fb]) ∧ Below w.heap.size w w' := by
  obtain ⟨a, cap, rfl, hv, -⟩ := o.view
  have := specFind_any w a cap l K _ rfl hv hm hK hl
  rw [h] at this; exact this
theorem allP_mod {h : List Cel} {ss : List (List Cel)} (s : Stor h ss) : ∀ c ∈ allP h ss, c.mod := fun c hc => by
  cases ho : okB h ss with
  | false => rw [allP_no ho] at hc; cases hc
  | true =>
    by_cases hb : 200 < (mgA h ss).length
    · rw [allP_big ho hb] at hc; cases hc
    · rw [allP_yes ho hb] at hc; exact (s.smalls c hc).mod
set_option maxHeartbeats 8000000 in
set_option maxRecDepth 100000 in
theorem findBarn_small (w : World) (a0 : Option Addr) (len0 cap0 : Nat) (hb : IsBytes w a0 len0) (hl : len0 ≤ 4096) :
    Calls Try.prog 5 #[.slice a0 len0 cap0] w fun e w' => e = .returned (.bool true) ∧ Below w.heap.size w w' := by
  have HB := Lib.hid hb; clear hb
  go_enter Try.func5, Try.ntmps5
  go_wp2_with fail
  refine (big_no w a0 len0 cap0 hl).mono ?_; rintro e wx ⟨rfl, rfl⟩
  go_wp2_with fail
  refine (drawFindB_any w a0 len0 cap0 HB.out hl).mono ?_; rintro e w1 ⟨hv, sv, h, ss, r, s, t, rfl, o1, s1, hr, hs, b1⟩
  obtain ⟨K, rfl, rfl, rfl⟩ : ∃ K : Cel, K.r = r ∧ K.b = s ∧ K.t = t := ⟨⟨r, s, t, 0, false⟩, rfl, rfl, rfl⟩
  have HKM := Lib.hid (show K.mod from ⟨by omega, by omega⟩)
  have HM := Lib.hid s1
  have HO := Lib.hid (o1.next (bel1 w1 (.cells #[hv, sv] 45)))
  have HX := Lib.hid (Bb.made hv sv w1 45)
  have B2 := Lib.hid (bel_tr b1 (bel1 w1 (.cells #[hv, sv] 45)) (Nat.le_refl _))
  obtain ⟨ha, hcp, sa, sc, hds, rfl, rfl, -, -⟩ := o1.view
  clear o1 s1 b1 HB hr hs
  generalize h.length = nH at *
  generalize ss.length = nS at *
  obtain ⟨x, fb, hf⟩ : ∃ x fb, fdP h ss K = (x, fb) := ⟨_, _, rfl⟩
  have HFD := Lib.hid hf; clear hf
  go_wp2_with fail
  generalize w1.alloc (Obj.cells #[Value.slice ha nH hcp, Value.slice sa nS sc] 45) = w2 at *
  generalize w1.heap.size = p1 at *
  refine (fbI HFD.out _ HO.out HM.out).mono ?_; rintro e w3 ⟨rfl, b3⟩
  have HY := Lib.hid (Bc.made x.r x.b x.t x.v x.g w3 28)
  have BY := Lib.hid (bel1 w3 (.cells #[.string x.r, .string x.b, .int .i64 x.t, .int .i64 x.v, .bool x.g] 28))
  have HO4 := Lib.hid ((HO.out.next b3).next BY.out)
  have HX4 := Lib.hid ((HX.out.next b3).next BY.out)
  have B4 := Lib.hid (bel_tr (bel_tr B2.out b3 (Nat.le_refl _)) BY.out (Nat.le_refl _))
  clear HO HX B2 b3
  obtain ⟨x0, x1, -, -, -⟩ := id HX4.out
  go_wp2_with fail
  generalize w3.alloc (Obj.cells #[Value.string x.r, Value.string x.b, Value.int IntKind.i64 x.t, Value.int IntKind.i64 x.v, Value.bool x.g] 28) = w4 at *
  generalize w3.heap.size = p3 at *
  refine (fbS HFD.out _ HO4.out HM.out HKM.out).mono ?_; rintro e w5 ⟨rfl, b5⟩
  have HZ := Lib.hid (Bc.made x.r x.b x.t x.v x.g w5 28)
  have BZ := Lib.hid (bel1 w5 (.cells #[.string x.r, .string x.b, .int .i64 x.t, .int .i64 x.v, .bool x.g] 28))
  have HO6 := Lib.hid ((HO4.out.next b5).next BZ.out)
  have HX6 := Lib.hid ((HX4.out.next b5).next BZ.out)
  have HY6 := Lib.hid ((HY.out.next b5).next BZ.out)
  have B6 := Lib.hid (bel_tr (bel_tr B4.out b5 (Nat.le_refl _)) BZ.out (Nat.le_refl _))
  clear HO4 HX4 HY B4 b5 x0 x1 BY
  have hce := cell_self x.r x.b x.t x.v x.g
  obtain ⟨x0, x1, -, -, -⟩ := id HX6.out
  obtain ⟨y0, y1, y2, y3, y4, -⟩ := id HY6.out
  obtain ⟨z0, z1, z2, z3, z4, -⟩ := id HZ.out
  go_wp2_with fail
  clear z0 z1 z2 z3 z4
  generalize w5.alloc (Obj.cells #[Value.string x.r, Value.string x.b, Value.int IntKind.i64 x.t, Value.int IntKind.i64 x.v, Value.bool x.g] 28) = w6 at *
  generalize w5.heap.size = p5 at *
  refine (specAllO _ HO6.out HM.out.low HM.out.mod).mono ?_; rintro e w7 ⟨v7, rfl, o7, b7⟩
  have HV := Lib.hid o7
  have HY7 := Lib.hid (HY6.out.next b7)
  have B7 := Lib.hid (bel_tr B6.out b7 (Nat.le_refl _))
  obtain ⟨va, vc, rfl, -, -⟩ := o7.view
  clear o7 b7 x0 x1 y0 y1 y2 y3 y4 HO6 HX6 HY6 B6 HZ BZ
  have HFA := Lib.hid (fun hne => (find_all (h := h) (ss := ss) K hne).trans HFD.out)
  have HLE := Lib.hid (allP_len h ss)
  generalize hq : (allP h ss).length = q at *
  by_cases h0 : q = 0
  · subst h0
    go_wp2_with fail
    go_ret
    exact ⟨rfl, B7.out⟩
  · have z1 : ¬ ((q : Int) = 0) := by omega
    go_wp2_with fail
    refine (fS (HFA.out h0) _ HV.out (allP_mod HM.out) HKM.out (by rw [hq]; have := HLE.out; omega)).mono ?_; rintro e w8 ⟨rfl, b8⟩
    have HZ := Lib.hid (Bc.made x.r x.b x.t x.v x.g w8 28)
    have BZ := Lib.hid (bel1 w8 (.cells #[.string x.r, .string x.b, .int .i64 x.t, .int .i64 x.v, .bool x.g] 28))
    have HY9 := Lib.hid ((HY7.out.next b8).next BZ.out)
    have B9 := Lib.hid (bel_tr (bel_tr B7.out b8 (Nat.le_refl _)) BZ.out (Nat.le_refl _))
    clear b8 HY7 B7
    obtain ⟨y0, y1, y2, y3, y4, -⟩ := id HY9.out
    obtain ⟨z0, z1, z2, z3, z4, -⟩ := id HZ.out
    go_wp2_with fail
    go_ret
    exact ⟨rfl, B9.out⟩
end Go.Proofs.Ytkkpokfekbdigaa.Cl
