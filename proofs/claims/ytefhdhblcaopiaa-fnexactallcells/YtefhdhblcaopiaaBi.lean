/-
  As laws.szBarn: what is let in has not too many cells in all.
-/
import Derived.Test.YtefhdhblcaopiaaBg
namespace Go.Proofs.Ytefhdhblcaopiaa.Cl
open Go.RowKit Wd Rp Kp Ra
set_option linter.unusedVariables false
def SzPostT (l : List Cel) (n : Int) (w : World) (e : Ending) (w' : World) : Prop := ∃ z : Int, e = .returned (.int .i64 z) ∧ Below w.heap.size w w' ∧ (z < 0 ∨ 0 ≤ z ∧ z ≤ n - l.length ∧ (l.length : Int) ≤ n ∧ ∀ c ∈ l, (c.r.size : Int) ≤ n ∧ (c.b.size : Int) ≤ n)
set_option maxRecDepth 100000 in
set_option maxHeartbeats 4000000 in
theorem szCellS_tot (w : World) (a : Option Addr) (cap : Nat) (l : List Cel) (n : Int) (hv : Vw w a cap l) (hm : ∀ c ∈ l, c.r.size ≤ 9223372036854775807 ∧ c.b.size ≤ 9223372036854775807) (h0 : 0 ≤ n) (hn : n ≤ 1048576) :
    Calls Try.prog 54 #[.slice a l.length cap, .int .i64 n] w (SzPostT l n w) := by
  have hlm : l.length ≤ 9223372036854775807 := by have := hv.1; have h2 := hv.2.1; unfold maxLen at h2; omega
  have HV := Lib.hid hv; clear hv
  have HM := Lib.hid hm; clear hm
  generalize hL : l.length = L at *
  by_cases hlt : n - (L : Int) < 0
  · go_enter Try.func54, Try.ntmps54
    go_wp2
    go_ret
    exact ⟨-1, rfl, Below.refl _ _, Or.inl (by decide)⟩
  · go_enter Try.func54, Try.ntmps54
    go_wp2
    go_loopw [1, 5] (fun q i wr => ∃ (k : Nat) (z : Int), k ≤ L ∧ i = .int .i64 k ∧ q = .int .i64 z ∧ 0 ≤ z ∧ z ≤ n - L ∧ (∀ j c, j < k → l[j]? = some c → (c.r.size : Int) ≤ n ∧ (c.b.size : Int) ≤ n) ∧ Below w.heap.size w wr) (fun _ i _ => L - intV i)
    case atStart => exact ⟨0, n - L, Nat.zero_le _, rfl, rfl, by omega, by omega, fun j c hj => by omega, Below.refl _ _⟩
    case round =>
      obtain ⟨k, z, hk, rfl, rfl, z0, z1, hok, hbel⟩ := hrel
      have HB := Lib.hid hbel; clear hbel
      have HO := Lib.hid hok; clear hok
      by_cases hlk : k < L
      · obtain ⟨c, hc⟩ : ∃ c, l[k]? = some c := ⟨l[k], List.getElem?_eq_getElem (by omega)⟩
        obtain ⟨g, o, rfl, hg, h5⟩ := HV.out.2.2.2 k c hc
        obtain ⟨c0, c1, c2, c3, c4⟩ : At5 wr g (o + k * 5) c := h5.same (HB.out.block g hg)
        have hmc := HM.out c (List.mem_of_getElem? hc)
        have HZ := Lib.hid (fun w => szCell_any c.r c.b c.t c.v z c.g w hmc.1 hmc.2 z0 (by omega))
        have hle : 0 ≤ szL c.r c.b z → _ := szL_le
        have HC := Lib.hid hc; clear hc
        have HL := Lib.hid hle; clear hle hmc
        generalize szL c.r c.b z = y at *
        clear h5 hg
        by_cases hy : y < 0
        · go_wp2_with fail
          refine (HZ.out _).mono ?_; rintro e w1 ⟨rfl, b1⟩
          have B1 := Lib.hid (bel_tr HB.out b1 (Nat.le_refl _)); clear b1
          go_wp2_with fail
          go_ret
          exact ⟨-1, rfl, B1.out, Or.inl (by decide)⟩
        · go_wp2_with fail
          refine (HZ.out _).mono ?_; rintro e w1 ⟨rfl, b1⟩
          have B1 := Lib.hid (bel_tr HB.out b1 (Nat.le_refl _)); clear b1
          go_wp2_with fail
          go_roundw
          case rel =>
            obtain ⟨l1, l2, l3⟩ := HL.out (by omega)
            refine ⟨k + 1, y, by omega, by go_num, rfl, by omega, by omega, fun j d hj hd => ?_, B1.out⟩
            by_cases he : j = k
            · subst he
              obtain rfl : c = d := Option.some.inj (HC.out.symm.trans hd)
              exact ⟨by omega, by omega⟩
            · exact HO.out j d (by omega) hd
          case measure => simp [intV]; omega
      · obtain rfl : k = L := by omega
        go_wp2_with fail
        go_ret
        refine ⟨z, rfl, HB.out, Or.inr ⟨z0, by rw [hL]; exact z1, by omega, fun c hc => ?_⟩⟩
        obtain ⟨j, hj⟩ := List.mem_iff_getElem?.1 hc
        exact HO.out j c (by have := (List.getElem?_eq_some_iff.1 hj).1; omega) hj
def SzST (ss : List (List Cel)) (n : Int) (w : World) (e : Ending) (w' : World) : Prop := ∃ z : Int, e = .returned (.int .i64 z) ∧ Below w.heap.size w w' ∧ (z < 0 ∨ 0 ≤ z ∧ z ≤ n - ss.length - tott ss ∧ (ss.length : Int) ≤ n ∧ ∀ l ∈ ss, Small n l)
def SzBT (h : List Cel) (ss : List (List Cel)) (n : Int) (w : World) (e : Ending) (w' : World) : Prop := ∃ z : Int, e = .returned (.int .i64 z) ∧ Below w.heap.size w w' ∧ (z < 0 ∨ 0 ≤ z ∧ z ≤ n - h.length - tott ss ∧ Small n h ∧ (ss.length : Int) ≤ n ∧ ∀ l ∈ ss, Small n l)
set_option maxRecDepth 100000 in
set_option maxHeartbeats 2000000 in
theorem szCellSS_tot (w : World) (a : Option Addr) (cap : Nat) (hs : List Hd) (ss : List (List Cel)) (L : Nat) (hL : ss.length = L) (n : Int) (hv : VwS w a cap hs ss) (hm : ∀ l ∈ ss, Big l) (h0 : 0 ≤ n) (hn : n ≤ 1048576) :
    Calls Try.prog 83 #[.slice a L cap, .int .i64 n] w (SzST ss n w) := by
  have hlm : L ≤ 9223372036854775807 := by have := hv.2.1; have h2 := hv.2.2.1; unfold maxLen at h2; omega
  have HV := Lib.hid hv; clear hv
  have HM := Lib.hid hm; clear hm
  have HL := Lib.hid hL; clear hL
  by_cases hlt : n - (L : Int) < 0
  · go_enter Try.func83, Try.ntmps83
    go_wp2
    go_ret
    exact ⟨-1, rfl, Below.refl _ _, Or.inl (by decide)⟩
  · go_enter Try.func83, Try.ntmps83
    go_wp2
    go_loopw [1, 5] (fun q i wr => ∃ (k : Nat) (z : Int), k ≤ L ∧ i = .int .i64 k ∧ q = .int .i64 z ∧ 0 ≤ z ∧ z ≤ n - L - tott (ss.take k) ∧ (∀ (j : Nat) (l : List Cel), j < k → ss[j]? = some l → Small n l) ∧ Below w.heap.size w wr) (fun _ i _ => L - intV i)
    case atStart => exact ⟨0, n - L, Nat.zero_le _, rfl, rfl, by omega, by simp [tott], fun j c hj => by omega, Below.refl _ _⟩
    case round =>
      obtain ⟨k, z, hk, rfl, rfl, z0, z1, hok, hbel⟩ := hrel
      have HB := Lib.hid hbel; clear hbel
      have HO := Lib.hid hok; clear hok
      by_cases hlk : k < L
      · obtain ⟨l, hl⟩ : ∃ l, ss[k]? = some l := ⟨ss[k]'(by rw [HL.out]; exact hlk), List.getElem?_eq_getElem _⟩
        obtain ⟨x, g, o, -, rfl, hg, hc, hvl⟩ := HV.out.at hl
        have hcx : wr.cell? ⟨g, o + k, none⟩ = some (.slice x.a l.length x.c) := (HB.out.cell (p := ⟨g, o + k, none⟩) hg).trans hc
        have HZ := Lib.hid (szCellS_tot wr x.a x.c l z (hvl.below HB.out) (HM.out l (List.mem_of_getElem? hl)) z0 (by omega)); clear hvl hc hg
        have HTK := Lib.hid (show tott (ss.take (k + 1)) = tott (ss.take k) + l.length by rw [take_at hl, tott_app]; simp [tott])
        have HL2 := Lib.hid hl; clear hl
        generalize hln : l.length = ln at *
        have HLN := Lib.hid hln; clear hln
        go_wp2_with fail
        refine HZ.out.mono ?_; rintro e w1 ⟨y, rfl, b1, hy⟩
        have B1 := Lib.hid (bel_tr HB.out b1 (Nat.le_refl _)); clear b1
        rcases hy with hy | ⟨y0, y1, y2, y3⟩
        · go_wp2_with fail
          go_ret
          exact ⟨-1, rfl, B1.out, Or.inl (by decide)⟩
        · have HS := Lib.hid (show Small n l from Small.mono (n := z) ⟨y2, y3⟩ (by omega)); clear y2 y3
          have y4 : ¬ y < 0 := by omega
          go_wp2_with fail
          go_roundw
          case rel =>
            refine ⟨k + 1, y, by omega, by go_num, rfl, by omega, by rw [HTK.out]; have := HLN.out; omega, fun j d hj hd => ?_, B1.out⟩
            by_cases he : j = k
            · subst he
              obtain rfl : l = d := Option.some.inj (HL2.out.symm.trans hd)
              exact HS.out
            · exact HO.out j d (by omega) hd
          case measure => simp [intV]; omega
      · obtain rfl : k = L := by omega
        go_wp2_with fail
        go_ret
        refine ⟨z, rfl, HB.out, Or.inr ⟨z0, by rw [HL.out]; rw [List.take_of_length_le (Nat.le_of_eq HL.out)] at z1; exact z1, by rw [HL.out]; omega, fun l hl => ?_⟩⟩
        obtain ⟨j, hj⟩ := List.mem_iff_getElem?.1 hl
        exact HO.out j l (by have := (List.getElem?_eq_some_iff.1 hj).1; rw [HL.out] at this; omega) hj
set_option maxRecDepth 100000 in
set_option maxHeartbeats 2000000 in
theorem szBarn_tot (w : World) (a sa : Option Addr) (c sc N L : Nat) (h : List Cel) (hs : List Hd) (ss : List (List Cel)) (hN : h.length = N) (hL : ss.length = L) (n : Int) (hv : Vw w a c h) (hvs : VwS w sa sc hs ss) (hm1 : Big h) (hm : ∀ l ∈ ss, Big l) (h0 : 0 ≤ n) (hn : n ≤ 1048576) :
    Calls Try.prog 37 #[.agg #[.slice a N c, .slice sa L sc], .int .i64 n] w (SzBT h ss n w) := by
  have HVS := Lib.hid hvs; clear hvs
  have HM := Lib.hid hm; clear hm
  have H0 := Lib.hid (bel1 w (.cells #[.slice a N c, .slice sa L sc] 57))
  have F0 := Lib.hid (Bb.made (.slice a N c) (.slice sa L sc) w 57)
  have HZ := Lib.hid (szCellS_tot _ a c h n (hv.below H0.out) hm1 h0 hn); clear hv hm1
  rw [hN] at HZ
  go_enter Try.func37, Try.ntmps37
  go_wp2_with fail
  refine HZ.out.mono ?_; rintro e w1 ⟨y, rfl, b1, hy⟩
  have B1 := Lib.hid (bel_tr H0.out b1 (Nat.le_refl _))
  obtain ⟨x0, x1, -, -, -⟩ := F0.out.next b1; clear b1
  rcases hy with hy | ⟨y0, y1, y2, y3⟩
  · go_wp2_with fail
    go_ret
    exact ⟨-1, rfl, B1.out, Or.inl (by decide)⟩
  · have HS := Lib.hid (show Small n h from ⟨y2, y3⟩); clear y2 y3
    have y4 : ¬ y < 0 := by omega
    go_wp2_with fail
    refine (szCellSS_tot w1 sa sc hs ss L hL y (HVS.out.below B1.out) HM.out y0 (by omega)).mono ?_; rintro e w2 ⟨z, rfl, b2, hz⟩
    have B2 := Lib.hid (bel_tr B1.out b2 (Nat.le_refl _)); clear b2
    rcases hz with hz | ⟨z0, z1, z2, z3⟩
    · go_wp2_with fail
      go_ret
      exact ⟨-1, rfl, B2.out, Or.inl (by decide)⟩
    · have HS2 := Lib.hid (show ∀ l ∈ ss, Small n l from fun l hl => (z3 l hl).mono (by omega)); clear z3
      have z4 : ¬ z < 0 := by omega
      go_wp2_with fail
      go_ret
      exact ⟨z, rfl, B2.out, Or.inr ⟨z0, by omega, HS.out, by omega, HS2.out⟩⟩
end Go.Proofs.Ytefhdhblcaopiaa.Cl
