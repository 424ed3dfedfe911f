/-
  The specification's run of a statement: contracts of spec.l10Deed for while ('deed_whl'), for all statements ('Sm.runC', 'Sl.runC').
-/
import Derived.Test.YtfnnoehpahdgcaaGreatDoorMs
namespace Go.Proofs.YtfnnoehpahdgcaaGreatDoor.Cl
open Go.RowKit Wd Rp Kp
set_option linter.unusedVariables false
set_option maxHeartbeats 8000000 in
set_option maxRecDepth 100000 in
theorem deed_whl (w0 : World) (p : Nat) (a : Option Addr) (cap : Nat) (l : List Tk) (n : Nat) (ga : Option Addr) (gc : Nat) (gs : List Int) (C : Rcx w0 a n cap l ga gc gs) (ex : List Tk) (b1 : Sl) (hw : Sm.wf 5 (.whl ex b1)) (ih1 : b1.each (DeedR w0 p a n cap l ga gc gs)) : DeedR w0 p a n cap l ga gc gs (.whl ex b1) := by
  intro k r st w hd hc hR
  have hd0 : l.drop k = whT :: (ex ++ ([91] :: (b1.fl ++ ([93] :: r)))) := by rw [hd]; simp [Sm.fl]
  obtain ⟨hk1, hk2, hd1⟩ := drop_head hd0
  have hd3 := drop_more hd1
  have hkn : k < n := by have := C.hn; omega
  have HB := Lib.hid (deedS_all a cap l n C.hn C.hl C.hm 5 (by decide) w (k : Int) ⟨by omega, by have := C.hl; omega⟩ (C.hv.below hR.bw))
  rw [(Sm.det l (.whl ex b1) 5 k r hw hd).1] at HB
  rw [Sm.wf] at hw
  have HSUM := Lib.hid (fun st w h => l10Sum_any w0 p a cap l n C.hn C.hl C.hm C.hv ga gc gs C.hg C.hg3 hw.1.ok (k + 1) _ hd1 st w h)
  have HK1 := Lib.hid (blkR C hw.2 ih1 hd3)
  have HFU := Lib.hid (fun st h => Sl.run_fuel gs b1 st h)
  have hE : Sm.run gs (.whl ex b1) st = whR gs ex (fun s => Sl.run gs b1 s) (st.f.toNat + 1) st := by rw [Sm.run]
  rw [hE]; clear hE
  rw [show ((k + 1 : Nat) : Int) = (k : Int) + 1 by omega] at HSUM
  generalize ((k + (Sm.fl (.whl ex b1)).length : Nat) : Int) = y at *
  generalize ((k + 1 + ex.length + b1.fl.length + 2 : Nat) : Int) = y3 at *
  generalize ((k + 1 + ex.length : Nat) : Int) = y2 at *
  generalize hfin : whR gs ex (fun s => Sl.run gs b1 s) (st.f.toNat + 1) st = fin
  have HFIN := Lib.hid hfin; clear hfin
  have HR := Lib.hid hR; clear hR
  have HV := Lib.hid (C.hv.below HR.out.bw)
  have hl4 := C.hl
  clear hd hd0 hd1 hd3 hw ih1
  go_enter Tryz.func83, Tryz.ntmps83
  go_wp2_with fail
  refine HB.out.mono ?_; rintro e w1 ⟨rfl, b1'⟩
  have HR1 := Lib.hid (HR.out.next b1')
  have HV1 := Lib.hid (HV.out.below b1'); clear b1'
  obtain ⟨g', o', rfl, hg, c0⟩ := HV1.out.tx hk1
  replace c0 : w1.cell? ⟨g', o' + k, none⟩ = some (.string ⟨#[119, 104, 105, 108, 101]⟩) := c0
  have i1 : (k : Int) + 1 ≤ 9223372036854775807 := by omega
  clear hk1 hg
  go_wp2_with fail
  go_loopg [] (st.f.toNat + 1) (fun j wr => ∃ s1 : St0, Rn w0 p s1 wr ∧ (if s1.c = 0 then whR gs ex (fun s => Sl.run gs b1 s) j s1 else s1) = fin ∧ (s1.c = 0 → s1.f < j))
  case atStart => exact ⟨st, HR1.out, by rw [if_pos hc]; exact HFIN.out, fun _ => by have := HR.out.f0; omega⟩
  case round =>
    clear HFIN c0
    obtain ⟨s1, hR1, hfin, hlt⟩ := hrel
    have HR2 := Lib.hid hR1
    have c1 := hR1.c
    by_cases hc1 : s1.c = 0
    · have hf0 := hR1.f0
      have hltj := hlt hc1
      obtain ⟨j, rfl⟩ : ∃ j', gk = j' + 1 := ⟨gk - 1, by omega⟩
      rw [if_pos hc1, whR] at hfin
      rw [hc1] at c1
      have z1 := hR1.fz.1
      have z2 := hR1.fz.2.2
      have c2 := hR1.f
      by_cases hf : s1.f = 0
      · rw [if_pos hf] at hfin
        have HX := Lib.hid hfin
        rw [hf] at c2
        clear hfin hlt hR1
        go_wp2_with fail
        go_ret
        exact ⟨rfl, by rw [← HX.out]; exact HR2.out.putC 3⟩
      · rw [if_neg hf] at hfin
        have t1 : (s1.f == 0) = false := beq_eq_false_iff_ne.2 hf
        have w1' : IntKind.i64.wrap (s1.f - 1) = s1.f - 1 := by rw [IntKind.wrap_i64]; omega
        have HR3 := Lib.hid (HR2.out.putF (s1.f - 1) (by omega))
        have HS1 := Lib.hid (HSUM.out _ _ HR3.out)
        have hHX := Lib.hid hfin
        have hff : 0 ≤ s1.f - 1 := by omega
        have hjj : s1.f - 1 < j := by omega
        dsimp only at HS1
        generalize evE gs s1.b ex = xx at *
        obtain ⟨x, is⟩ := xx
        clear hfin hlt hR1
        go_wp2_with fail
        refine HS1.out.mono ?_; rintro e w2 ⟨rfl, hR4⟩
        by_cases hx : x = 0
        · subst hx
          cases is
          · have HX := Lib.hid (show (⟨2, s1.b, s1.f - 1⟩ : St0) = fin from hHX.out)
            have HR4 := Lib.hid (show Rn w0 p ⟨2, s1.b, s1.f - 1⟩ w2 from hR4); clear hR4 hHX
            go_wp2_with fail
            go_ret
            exact ⟨rfl, by rw [← HX.out]; exact HR4.out⟩
          · have HX := Lib.hid (show (⟨s1.c, s1.b, s1.f - 1⟩ : St0) = fin from hHX.out)
            have HR4 := Lib.hid (show Rn w0 p ⟨s1.c, s1.b, s1.f - 1⟩ w2 from hR4); clear hR4 hHX
            go_wp2_with fail
            go_ret
            exact ⟨rfl, by rw [← HX.out]; exact HR4.out⟩
        · have t2 : (x == 0) = false := beq_eq_false_iff_ne.2 hx
          cases is
          · have HX := Lib.hid (show (⟨2, s1.b, s1.f - 1⟩ : St0) = fin from hHX.out)
            have HR4 := Lib.hid (show Rn w0 p ⟨2, s1.b, s1.f - 1⟩ w2 from hR4); clear hR4 hHX
            go_wp2_with fail
            refine (HK1.out.2.1 _ _ (show (2 : Int) ≠ 0 by decide) HR4.out).mono ?_; rintro e w3 ⟨rfl, hR5⟩
            have HR5 := Lib.hid hR5; clear hR5
            go_wp2_with fail
            go_roundg j
            case measure => omega
            case rel => exact ⟨_, HR5.out, by rw [if_neg (show ¬ (2 : Int) = 0 by decide)]; exact HX.out, fun h => absurd (show (2 : Int) = 0 from h) (by decide)⟩
          · have HX := Lib.hid (show (if (Sl.run gs b1 ⟨s1.c, s1.b, s1.f - 1⟩).c = 0 then whR gs ex (fun s => Sl.run gs b1 s) j (Sl.run gs b1 ⟨s1.c, s1.b, s1.f - 1⟩) else Sl.run gs b1 ⟨s1.c, s1.b, s1.f - 1⟩) = fin from by
              have := hHX.out
              rw [if_neg (by decide), if_neg hx] at this; exact this)
            have HR4 := Lib.hid (show Rn w0 p ⟨s1.c, s1.b, s1.f - 1⟩ w2 from hR4); clear hR4 hHX
            have hfu : (Sl.run gs b1 ⟨s1.c, s1.b, s1.f - 1⟩).f ≤ s1.f - 1 := (HFU.out ⟨s1.c, s1.b, s1.f - 1⟩ hff).2
            have HK := Lib.hid (HK1.out.2.2 ⟨s1.c, s1.b, s1.f - 1⟩ w2 hc1 HR4.out)
            generalize Sl.run gs b1 ⟨s1.c, s1.b, s1.f - 1⟩ = s3 at *
            go_wp2_with fail
            refine HK.out.mono ?_; rintro e w3 ⟨rfl, hR5⟩
            have HR5 := Lib.hid hR5; clear hR5
            go_wp2_with fail
            go_roundg j
            case measure => omega
            case rel => exact ⟨s3, HR5.out, HX.out, fun _ => by omega⟩
    · rw [if_neg hc1] at hfin
      have t0 : (s1.c == 0) = false := beq_eq_false_iff_ne.2 hc1
      have HX := Lib.hid hfin
      clear hfin hlt hR1
      go_wp2_with fail
      go_ret
      exact ⟨rfl, by rw [← HX.out]; exact HR2.out⟩
mutual
theorem Sm.runC (w0 : World) (p : Nat) (a : Option Addr) (cap : Nat) (l : List Tk) (n : Nat) (ga : Option Addr) (gc : Nat) (gs : List Int) (C : Rcx w0 a n cap l ga gc gs) : ∀ s : Sm, s.wf 5 → DeedR w0 p a n cap l ga gc gs s
  | .set m e, h => deed_set w0 p a cap l n ga gc gs C m e h
  | .cut m, h => deed_cut w0 p a cap l n ga gc gs C m (by rw [Sm.wf] at h; exact h)
  | .stop, h => deed_stop w0 p a cap l n ga gc gs C
  | .ifs e b1 b2, h => deed_if w0 p a cap l n ga gc gs C e b1 b2 h (Sl.runC w0 p a cap l n ga gc gs C b1 (by rw [Sm.wf] at h; exact Sl.wf_up b1 (by decide) h.2.1)) (Sl.runC w0 p a cap l n ga gc gs C b2 (by rw [Sm.wf] at h; exact Sl.wf_up b2 (by decide) h.2.2))
  | .whl e b1, h => deed_whl w0 p a cap l n ga gc gs C e b1 h (Sl.runC w0 p a cap l n ga gc gs C b1 (by rw [Sm.wf] at h; exact Sl.wf_up b1 (by decide) h.2))
theorem Sl.runC (w0 : World) (p : Nat) (a : Option Addr) (cap : Nat) (l : List Tk) (n : Nat) (ga : Option Addr) (gc : Nat) (gs : List Int) (C : Rcx w0 a n cap l ga gc gs) : ∀ s : Sl, s.wf 5 → s.each (DeedR w0 p a n cap l ga gc gs)
  | .nil, h => by rw [Sl.each]; trivial
  | .cons s r, h => by
    rw [Sl.wf] at h
    rw [Sl.each]
    exact ⟨Sm.runC w0 p a cap l n ga gc gs C s h.1, Sl.runC w0 p a cap l n ga gc gs C r h.2⟩
end
end Go.Proofs.YtfnnoehpahdgcaaGreatDoor.Cl
