/-
  The specification's run of a statement: contracts of spec.l10Deed for if and while ('deed_if', 'deed_whl'), for all statements ('deed_all').
-/
import Derived.Test.YtfnnoehpahdgcaaGreatDoorMr
namespace Go.Proofs.YtfnnoehpahdgcaaGreatDoor.Cl
open Go.RowKit Wd Rp Kp
set_option linter.unusedVariables false
/-- The contract of a block at a place. -/
def BlkR (w0 : World) (p : Nat) (a : Option Addr) (n cap : Nat) (l : List Tk) (ga : Option Addr) (gc : Nat) (gs : List Int) (b : Sl) (x y : Int) : Prop :=
  (∀ (st : St0) (w : World), Rn w0 p st w → Calls Tryz.prog 99 #[.pointer (some ⟨p, 0, none⟩), .slice a n cap, .int .i64 x, .slice ga (3 : Nat) gc, .bool false] w (RunP w0 p y st)) ∧
  (∀ (st : St0) (w : World), st.c ≠ 0 → Rn w0 p st w → Calls Tryz.prog 99 #[.pointer (some ⟨p, 0, none⟩), .slice a n cap, .int .i64 x, .slice ga (3 : Nat) gc, .bool true] w (RunP w0 p y st)) ∧
  (∀ (st : St0) (w : World), st.c = 0 → Rn w0 p st w → Calls Tryz.prog 99 #[.pointer (some ⟨p, 0, none⟩), .slice a n cap, .int .i64 x, .slice ga (3 : Nat) gc, .bool true] w (RunP w0 p y (b.run gs st)))
theorem blkR {w0 : World} {p : Nat} {a : Option Addr} {cap : Nat} {l : List Tk} {n : Nat} {ga : Option Addr} {gc : Nat} {gs : List Int} (C : Rcx w0 a n cap l ga gc gs) {b : Sl} (hw : b.wf 4) (ih : b.each (DeedR w0 p a n cap l ga gc gs)) {k : Nat} {r : List Tk} (hd : l.drop k = [91] :: (b.fl ++ ([93] :: r))) :
    BlkR w0 p a n cap l ga gc gs b (k : Int) ((k + b.fl.length + 2 : Nat) : Int) := by
  refine ⟨fun st w h => ?_, fun st w hc h => ?_, fun st w hc h => ?_⟩
  · have := l10Block_any w0 p a cap l n C.hn C.hl C.hm C.hv ga gc gs b hw ih k r st w false hd h
    rw [if_neg (fun e => by cases e.1)] at this; exact this
  · have := l10Block_any w0 p a cap l n C.hn C.hl C.hm C.hv ga gc gs b hw ih k r st w true hd h
    rw [if_neg (fun e => hc e.2)] at this; exact this
  · have := l10Block_any w0 p a cap l n C.hn C.hl C.hm C.hv ga gc gs b hw ih k r st w true hd h
    rw [if_pos ⟨rfl, hc⟩] at this; exact this
set_option maxHeartbeats 8000000 in
set_option maxRecDepth 100000 in
theorem deed_if (w0 : World) (p : Nat) (a : Option Addr) (cap : Nat) (l : List Tk) (n : Nat) (ga : Option Addr) (gc : Nat) (gs : List Int) (C : Rcx w0 a n cap l ga gc gs) (ex : List Tk) (b1 b2 : Sl) (hw : Sm.wf 5 (.ifs ex b1 b2)) (ih1 : b1.each (DeedR w0 p a n cap l ga gc gs)) (ih2 : b2.each (DeedR w0 p a n cap l ga gc gs)) : DeedR w0 p a n cap l ga gc gs (.ifs ex b1 b2) := by
  intro k r st w hd hc hR
  have hd0 : l.drop k = ifT :: (ex ++ ([91] :: (b1.fl ++ ([93] :: ([91] :: (b2.fl ++ ([93] :: r))))))) := by rw [hd]; simp [Sm.fl]
  obtain ⟨hk1, hk2, hd1⟩ := drop_head hd0
  have hd3 := drop_more hd1
  have hd4 : l.drop (k + 1 + ex.length + b1.fl.length + 2) = [91] :: (b2.fl ++ ([93] :: r)) := by
    have := (drop_head (drop_more (drop_head hd3).2.2)).2.2
    rw [show k + 1 + ex.length + b1.fl.length + 2 = k + 1 + ex.length + 1 + b1.fl.length + 1 by omega]; exact this
  have hkn : k < n := by have := C.hn; omega
  have HB := Lib.hid (deedS_all a cap l n C.hn C.hl C.hm 5 (by decide) w (k : Int) ⟨by omega, by have := C.hl; omega⟩ (C.hv.below hR.bw))
  rw [(Sm.det l (.ifs ex b1 b2) 5 k r hw hd).1] at HB
  rw [Sm.wf] at hw
  have HSUM := Lib.hid (fun w h => l10Sum_any w0 p a cap l n C.hn C.hl C.hm C.hv ga gc gs C.hg C.hg3 hw.1.ok (k + 1) _ hd1 st w h)
  have HK1 := Lib.hid (blkR C hw.2.1 ih1 hd3)
  have HK2 := Lib.hid (blkR C hw.2.2 ih2 hd4)
  have hE : Sm.run gs (.ifs ex b1 b2) st = (if (evE gs st.b ex).2 = false then ⟨2, st.b, st.f⟩ else if (evE gs st.b ex).1 = 0 then Sl.run gs b2 st else Sl.run gs b1 st) := by rw [Sm.run]
  rw [hE]; clear hE
  rw [show ((k + 1 : Nat) : Int) = (k : Int) + 1 by omega] at HSUM
  generalize ((k + (Sm.fl (.ifs ex b1 b2)).length : Nat) : Int) = y at *
  generalize ((k + 1 + ex.length + b1.fl.length + 2 + b2.fl.length + 2 : Nat) : Int) = y5 at *
  generalize ((k + 1 + ex.length + b1.fl.length + 2 : Nat) : Int) = y3 at *
  generalize ((k + 1 + ex.length : Nat) : Int) = y2 at *
  generalize evE gs st.b ex = xx at *
  obtain ⟨x, is⟩ := xx
  generalize hfin : (if (x, is).2 = false then (⟨2, st.b, st.f⟩ : St0) else if (x, is).1 = 0 then Sl.run gs b2 st else Sl.run gs b1 st) = fin
  have HFIN := Lib.hid hfin; clear hfin
  have HR := Lib.hid hR; clear hR
  have HV := Lib.hid (C.hv.below HR.out.bw)
  have hl4 := C.hl
  clear hd hd0 hd1 hd3 hd4 hw ih1 ih2
  go_enter Tryz.func83, Tryz.ntmps83
  go_wp2_with fail
  refine HB.out.mono ?_; rintro e w1 ⟨rfl, b1'⟩
  have HR1 := Lib.hid (HR.out.next b1')
  have HV1 := Lib.hid (HV.out.below b1'); clear b1'
  obtain ⟨g', o', rfl, hg, c0⟩ := HV1.out.tx hk1
  replace c0 : w1.cell? ⟨g', o' + k, none⟩ = some (.string ⟨#[105, 102]⟩) := c0
  have i1 : (k : Int) + 1 ≤ 9223372036854775807 := by omega
  have HS1 := Lib.hid (HSUM.out w1 HR1.out)
  clear hk1 hg
  go_wp2_with fail
  refine HS1.out.mono ?_; rintro e w2 ⟨rfl, hR2⟩
  by_cases hx : x = 0
  · subst hx
    cases is
    · have HX := Lib.hid (show (⟨2, st.b, st.f⟩ : St0) = fin from HFIN.out)
      have HR2 := Lib.hid (show Rn w0 p ⟨2, st.b, st.f⟩ w2 from hR2); clear hR2 HFIN
      go_wp2_with fail
      refine (HK1.out.1 _ _ HR2.out).mono ?_; rintro e w3 ⟨rfl, hR3⟩
      have HR3 := Lib.hid hR3; clear hR3
      go_wp2_with fail
      refine (HK2.out.2.1 _ _ (show (2 : Int) ≠ 0 by decide) HR3.out).mono ?_; rintro e w4 ⟨rfl, hR4⟩
      have HR4 := Lib.hid hR4; clear hR4
      go_wp2_with fail
      go_ret
      exact ⟨rfl, by rw [← HX.out]; exact HR4.out⟩
    · have HX := Lib.hid (show Sl.run gs b2 st = fin from HFIN.out)
      have HR2 := Lib.hid (show Rn w0 p st w2 from hR2); clear hR2 HFIN
      go_wp2_with fail
      refine (HK1.out.1 _ _ HR2.out).mono ?_; rintro e w3 ⟨rfl, hR3⟩
      have HR3 := Lib.hid hR3; clear hR3
      go_wp2_with fail
      refine (HK2.out.2.2 _ _ hc HR3.out).mono ?_; rintro e w4 ⟨rfl, hR4⟩
      have HR4 := Lib.hid hR4; clear hR4
      go_wp2_with fail
      go_ret
      exact ⟨rfl, by rw [← HX.out]; exact HR4.out⟩
  · have t1 : (x != 0) = true := by simpa using hx
    have t2 : (x == 0) = false := beq_eq_false_iff_ne.2 hx
    cases is
    · have HX := Lib.hid (show (⟨2, st.b, st.f⟩ : St0) = fin from HFIN.out)
      have HR2 := Lib.hid (show Rn w0 p ⟨2, st.b, st.f⟩ w2 from hR2); clear hR2 HFIN
      go_wp2_with fail
      refine (HK1.out.2.1 _ _ (show (2 : Int) ≠ 0 by decide) HR2.out).mono ?_; rintro e w3 ⟨rfl, hR3⟩
      have HR3 := Lib.hid hR3; clear hR3
      go_wp2_with fail
      refine (HK2.out.1 _ _ HR3.out).mono ?_; rintro e w4 ⟨rfl, hR4⟩
      have HR4 := Lib.hid hR4; clear hR4
      go_wp2_with fail
      go_ret
      exact ⟨rfl, by rw [← HX.out]; exact HR4.out⟩
    · have HX := Lib.hid (show Sl.run gs b1 st = fin from HFIN.out.symm ▸ (if_neg hx).symm)
      have HR2 := Lib.hid (show Rn w0 p st w2 from hR2); clear hR2 HFIN
      go_wp2_with fail
      refine (HK1.out.2.2 _ _ hc HR2.out).mono ?_; rintro e w3 ⟨rfl, hR3⟩
      have HR3 := Lib.hid hR3; clear hR3
      go_wp2_with fail
      refine (HK2.out.1 _ _ HR3.out).mono ?_; rintro e w4 ⟨rfl, hR4⟩
      have HR4 := Lib.hid hR4; clear hR4
      go_wp2_with fail
      go_ret
      exact ⟨rfl, by rw [← HX.out]; exact HR4.out⟩
end Go.Proofs.YtfnnoehpahdgcaaGreatDoor.Cl
