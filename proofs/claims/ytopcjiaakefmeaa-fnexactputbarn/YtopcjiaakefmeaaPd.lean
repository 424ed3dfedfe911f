/-
  The contract of container/heap.down over impl.piles: the first n piles in another order, a heap. (Made by gen_pd.py.)
-/
import Derived.Test.YtopcjiaakefmeaaPc
namespace Go.Proofs.Ytopcjiaakefmeaa.Cl
open Go.RowKit Wd Rp Kp
set_option linter.unusedVariables false
/-- What down leaves. -/
def DownPost (B b g cap n : Nat) (l : List Pile) (w : World) (e : Ending) (w' : World) : Prop := ∃ (x : Bool) (m : List Pile), e = .returned (.bool x) ∧ List.Perm m l ∧ Hp.Heap Pile.lt m n ∧ (∀ t, n ≤ t → m[t]? = l[t]?) ∧ Hs B b w' g cap m ∧ Onl g g w w'
set_option maxHeartbeats 8000000 in
set_option maxRecDepth 100000 in
theorem down_any (w : World) (B b g cap : Nat) (l : List Pile) (n : Nat) (hn : n ≤ l.length) (hl : l.length ≤ 4194304) (h : Hs B b w g cap l) (hs : Hp.Sink Pile.lt l n 0) :
    Calls Try.prog 145 #[.iface 139 (.pointer (some ⟨b, 0, none⟩)), .int .i64 0, .int .i64 (n : Int)] w (DownPost B b g cap n l w) := by
  have H := Lib.hid h; clear h
  have HR := Lib.hid hs; clear hs
  go_enter Try.func145, Try.ntmps145
  go_wp2_with fail
  go_loopw [7, 8, 9, 10] (fun x _ _ _ wr => ∃ (k : Nat) (m : List Pile), x = .int .i64 (k : Int) ∧ (k < n ∨ k = 0) ∧ List.Perm m l ∧ Hp.Sink Pile.lt m n k ∧ (∀ t, n ≤ t → m[t]? = l[t]?) ∧ Hs B b wr g cap m ∧ Onl g g w wr) (fun x _ _ _ _ => n - intV x)
  case atStart => exact ⟨0, l, rfl, Or.inr rfl, List.Perm.refl _, HR.out, fun _ _ => rfl, H.out, Onl.refl _ _ _⟩
  case round =>
    clear H HR
    obtain ⟨k, m, rfl, hk, hp, hr, hx, hs, ho⟩ := hrel
    have HP := Lib.hid hp; clear hp
    have HR := Lib.hid hr; clear hr
    have HX := Lib.hid hx; clear hx
    have HS := Lib.hid hs; clear hs
    have HO := Lib.hid ho; clear ho
    have HML := Lib.hid HP.out.length_eq
    have hml : m.length ≤ 4194304 := by rw [HML.out]; exact hl
    have hmn : n ≤ m.length := by rw [HML.out]; exact hn
    have q0 : (0 : Int) ≤ (k : Int) := by omega
    have q2 : (k : Int) ≤ 4194304 := by omega
    have q3 : (n : Int) ≤ 4194304 := by omega
    by_cases hj : 2 * k + 1 < n
    · have hkm : k < m.length := by omega
      have g1 : ¬ (n : Int) ≤ 2 * (k : Int) + 1 := by omega
      have g2 : ¬ 2 * (k : Int) + 1 < 0 := by omega
      obtain ⟨p, hp⟩ : ∃ p, m[k]? = some p := ⟨m[k], List.getElem?_eq_getElem hkm⟩
      obtain ⟨q, hq⟩ : ∃ q, m[2 * k + 1]? = some q := ⟨m[2 * k + 1], List.getElem?_eq_getElem (by omega)⟩
      have HLE := Lib.hid (fun w1 (hb : Below wr.heap.size wr w1) (x y : Nat) (u v : Pile) (hu : m[x]? = some u) (hv : m[y]? = some v) => lessP_any w1 (b + 1) g cap m x y m.length u v rfl hml (HS.out.next hb).2.2.1 ((HS.out.next hb).2.2.2.1.widen HS.out.2.2.2.2.1) hu hv)
      have HSW := Lib.hid (fun w1 (hb : Below wr.heap.size wr w1) (y : Nat) (v : Pile) (hv : m[y]? = some v) (hy : k ≠ y) => swapP_ne w1 g (b + 1) g cap m k y m.length p v rfl hml (HS.out.next hb).2.2.1 hp hv hy)
      by_cases hj2 : 2 * k + 2 < n
      · have g3 : 2 * (k : Int) + 1 + 1 < (n : Int) := by omega
        obtain ⟨r, hr⟩ : ∃ r, m[2 * k + 2]? = some r := ⟨m[2 * k + 2], List.getElem?_eq_getElem (by omega)⟩
        have hle := HLE.out wr (Below.refl _ _) _ _ _ _ hr hq
        have hc1 : ((2 * k + 1 : Nat) : Int) = 2 * (k : Int) + 1 := by omega
        have hc2 : ((2 * k + 2 : Nat) : Int) = 2 * (k : Int) + 1 + 1 := by omega
        rw [hc1, hc2] at hle
        have ml := m_less b _ wr HS.out.1
        have el := e_less
        cases hlt : r.lt q
        · rw [hlt] at hle
          have HL := Lib.hid hle; clear hle
          have HLT := Lib.hid (Hp.least_left lt_irr hj2 hr hq hlt)
          clear hlt
          go_wp2_with fail
          refine HL.out.mono ?_; rintro e w1 ⟨rfl, b1⟩
          have HBW := Lib.hid b1
          have S1 := HS.out.next b1
          clear ml b1 HL
          have hle := HLE.out w1 HBW.out _ _ _ _ hq hp
          rw [hc1] at hle
          cases hlt : q.lt p
          · rw [hlt] at hle
            have HL2 := Lib.hid hle; clear hle
            have HT := Lib.hid (HR.out.stop lt_ord HLT.out hp hq hlt)
            clear hlt
            have ml := m_less b _ w1 (HS.out.next HBW.out).1
            have el := e_less
            go_wp2_with fail
            refine HL2.out.mono ?_; rintro e w2 ⟨rfl, b2⟩
            have S2 := Lib.hid ((HS.out.next HBW.out).next b2)
            have O2 := Lib.hid ((HO.out.next HBW.out).next b2); clear b2 ml
            go_wp2_with fail
            all_goals go_ret
            all_goals exact ⟨_, m, rfl, HP.out, HT.out, HX.out, S2.out, O2.out⟩
          · rw [hlt] at hle
            have HL2 := Lib.hid hle; clear hle
            have HT := Lib.hid (HR.out.down lt_ord hmn HLT.out hp hq hlt)
            have HM := Lib.hid (Hp.swp_perm m _ _ p q hp hq)
            have HF := Lib.hid (fun t (ht : n ≤ t) => (Hp.swp_far (l := m) (i := k) (j := 2 * k + 1) (m := t) (p := p) (q := q) hkm (by omega) (by omega) (by omega)).trans (HX.out t ht))
            clear hlt
            have ml := m_less b _ w1 (HS.out.next HBW.out).1
            have el := e_less
            go_wp2_with fail
            refine HL2.out.mono ?_; rintro e w2 ⟨rfl, b2⟩
            have B2 := Lib.hid (bel_tr HBW.out b2 (Nat.le_refl _))
            have S2 := Lib.hid ((HS.out.next HBW.out).next b2)
            have O2 := Lib.hid ((HO.out.next HBW.out).next b2); clear b2 ml el
            have hsw := HSW.out w2 B2.out _ _ hq (by omega)
            rw [hc1] at hsw
            have HW2 := Lib.hid hsw; clear hsw
            have ms := m_swap b _ w2 S2.out.1
            have es := e_swap
            go_wp2_with fail
            refine HW2.out.mono ?_; rintro e w3 ⟨rfl, r3, o3⟩
            have S3 := Lib.hid (S2.out.turn r3 o3 HM.out)
            have O3 := Lib.hid (O2.out.trans o3)
            have PM := Lib.hid (HM.out.trans HP.out)
            clear r3 o3 ms es
            generalize Hp.swp m k (2 * k + 1) p q = m' at *
            go_wp2_with fail
            go_roundw
            case rel => exact ⟨2 * k + 1, m', by go_num, Or.inl (by omega), PM.out, HT.out, HF.out, S3.out, O3.out⟩
            case measure => simp [intV]; omega
        · rw [hlt] at hle
          have HL := Lib.hid hle; clear hle
          have HLT := Lib.hid (Hp.least_right lt_ord lt_irr hj2 hr hq hlt)
          clear hlt
          go_wp2_with fail
          refine HL.out.mono ?_; rintro e w1 ⟨rfl, b1⟩
          have HBW := Lib.hid b1
          have S1 := HS.out.next b1
          clear ml b1 HL
          have hle := HLE.out w1 HBW.out _ _ _ _ hr hp
          rw [hc2] at hle
          cases hlt : r.lt p
          · rw [hlt] at hle
            have HL2 := Lib.hid hle; clear hle
            have HT := Lib.hid (HR.out.stop lt_ord HLT.out hp hr hlt)
            clear hlt
            have ml := m_less b _ w1 (HS.out.next HBW.out).1
            have el := e_less
            go_wp2_with fail
            refine HL2.out.mono ?_; rintro e w2 ⟨rfl, b2⟩
            have S2 := Lib.hid ((HS.out.next HBW.out).next b2)
            have O2 := Lib.hid ((HO.out.next HBW.out).next b2); clear b2 ml
            go_wp2_with fail
            all_goals go_ret
            all_goals exact ⟨_, m, rfl, HP.out, HT.out, HX.out, S2.out, O2.out⟩
          · rw [hlt] at hle
            have HL2 := Lib.hid hle; clear hle
            have HT := Lib.hid (HR.out.down lt_ord hmn HLT.out hp hr hlt)
            have HM := Lib.hid (Hp.swp_perm m _ _ p r hp hr)
            have HF := Lib.hid (fun t (ht : n ≤ t) => (Hp.swp_far (l := m) (i := k) (j := 2 * k + 2) (m := t) (p := p) (q := r) hkm (by omega) (by omega) (by omega)).trans (HX.out t ht))
            clear hlt
            have ml := m_less b _ w1 (HS.out.next HBW.out).1
            have el := e_less
            go_wp2_with fail
            refine HL2.out.mono ?_; rintro e w2 ⟨rfl, b2⟩
            have B2 := Lib.hid (bel_tr HBW.out b2 (Nat.le_refl _))
            have S2 := Lib.hid ((HS.out.next HBW.out).next b2)
            have O2 := Lib.hid ((HO.out.next HBW.out).next b2); clear b2 ml el
            have hsw := HSW.out w2 B2.out _ _ hr (by omega)
            rw [hc2] at hsw
            have HW2 := Lib.hid hsw; clear hsw
            have ms := m_swap b _ w2 S2.out.1
            have es := e_swap
            go_wp2_with fail
            refine HW2.out.mono ?_; rintro e w3 ⟨rfl, r3, o3⟩
            have S3 := Lib.hid (S2.out.turn r3 o3 HM.out)
            have O3 := Lib.hid (O2.out.trans o3)
            have PM := Lib.hid (HM.out.trans HP.out)
            clear r3 o3 ms es
            generalize Hp.swp m k (2 * k + 2) p r = m' at *
            go_wp2_with fail
            go_roundw
            case rel => exact ⟨2 * k + 2, m', by go_num, Or.inl (by omega), PM.out, HT.out, HF.out, S3.out, O3.out⟩
            case measure => simp [intV]; omega
      · have g3 : ¬ 2 * (k : Int) + 1 + 1 < (n : Int) := by omega
        have hc1 : ((2 * k + 1 : Nat) : Int) = 2 * (k : Int) + 1 := by omega
        have HLT := Lib.hid (Hp.least_only (l := m) lt_irr hj hj2)
        have HBW := Lib.hid (Below.refl wr.heap.size wr)
        have hle := HLE.out wr HBW.out _ _ _ _ hq hp
        rw [hc1] at hle
        cases hlt : q.lt p
        · rw [hlt] at hle
          have HL2 := Lib.hid hle; clear hle
          have HT := Lib.hid (HR.out.stop lt_ord HLT.out hp hq hlt)
          clear hlt
          have ml := m_less b _ wr (HS.out.next HBW.out).1
          have el := e_less
          go_wp2_with fail
          refine HL2.out.mono ?_; rintro e w2 ⟨rfl, b2⟩
          have S2 := Lib.hid ((HS.out.next HBW.out).next b2)
          have O2 := Lib.hid ((HO.out.next HBW.out).next b2); clear b2 ml
          go_wp2_with fail
          all_goals go_ret
          all_goals exact ⟨_, m, rfl, HP.out, HT.out, HX.out, S2.out, O2.out⟩
        · rw [hlt] at hle
          have HL2 := Lib.hid hle; clear hle
          have HT := Lib.hid (HR.out.down lt_ord hmn HLT.out hp hq hlt)
          have HM := Lib.hid (Hp.swp_perm m _ _ p q hp hq)
          have HF := Lib.hid (fun t (ht : n ≤ t) => (Hp.swp_far (l := m) (i := k) (j := 2 * k + 1) (m := t) (p := p) (q := q) hkm (by omega) (by omega) (by omega)).trans (HX.out t ht))
          clear hlt
          have ml := m_less b _ wr (HS.out.next HBW.out).1
          have el := e_less
          go_wp2_with fail
          refine HL2.out.mono ?_; rintro e w2 ⟨rfl, b2⟩
          have B2 := Lib.hid (bel_tr HBW.out b2 (Nat.le_refl _))
          have S2 := Lib.hid ((HS.out.next HBW.out).next b2)
          have O2 := Lib.hid ((HO.out.next HBW.out).next b2); clear b2 ml el
          have hsw := HSW.out w2 B2.out _ _ hq (by omega)
          rw [hc1] at hsw
          have HW2 := Lib.hid hsw; clear hsw
          have ms := m_swap b _ w2 S2.out.1
          have es := e_swap
          go_wp2_with fail
          refine HW2.out.mono ?_; rintro e w3 ⟨rfl, r3, o3⟩
          have S3 := Lib.hid (S2.out.turn r3 o3 HM.out)
          have O3 := Lib.hid (O2.out.trans o3)
          have PM := Lib.hid (HM.out.trans HP.out)
          clear r3 o3 ms es
          generalize Hp.swp m k (2 * k + 1) p q = m' at *
          go_wp2_with fail
          go_roundw
          case rel => exact ⟨2 * k + 1, m', by go_num, Or.inl (by omega), PM.out, HT.out, HF.out, S3.out, O3.out⟩
          case measure => simp [intV]; omega
    · have g1 : (n : Int) ≤ 2 * (k : Int) + 1 := by omega
      have HT := Lib.hid (HR.out.leaf (by omega))
      go_wp2_with fail
      all_goals go_ret
      all_goals exact ⟨_, m, rfl, HP.out, HT.out, HX.out, HS.out, HO.out⟩
end Go.Proofs.Ytopcjiaakefmeaa.Cl
