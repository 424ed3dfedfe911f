/-
  Contracts of the laws' helpers szBarn, toBarn, eqBarn. (Made by gen_bd.py.)
-/
import Derived.Test.YtefhdhblcaopiaaBb
namespace Go.Proofs.Ytefhdhblcaopiaa.Cl
open Go.RowKit Wd Rp Kp Ra
set_option linter.unusedVariables false
/-- Texts no longer than a machine can hold. -/
def Big (l : List Cel) : Prop := ∀ c ∈ l, c.r.size ≤ 9223372036854775807 ∧ c.b.size ≤ 9223372036854775807
def Small (n : Int) (l : List Cel) : Prop := (l.length : Int) ≤ n ∧ ∀ c ∈ l, (c.r.size : Int) ≤ n ∧ (c.b.size : Int) ≤ n
theorem Small.mono {n m : Int} {l : List Cel} (h : Small n l) (hm : n ≤ m) : Small m l := ⟨Int.le_trans h.1 hm, fun c hc => ⟨Int.le_trans (h.2 c hc).1 hm, Int.le_trans (h.2 c hc).2 hm⟩⟩
def SzS (ss : List (List Cel)) (n : Int) (w : World) (e : Ending) (w' : World) : Prop := ∃ z : Int, e = .returned (.int .i64 z) ∧ Below w.heap.size w w' ∧ (z < 0 ∨ 0 ≤ z ∧ z ≤ n ∧ (ss.length : Int) ≤ n ∧ ∀ l ∈ ss, Small n l)
set_option maxRecDepth 100000 in
set_option maxHeartbeats 2000000 in
theorem szCellSS_any (w : World) (a : Option Addr) (cap : Nat) (hs : List Hd) (ss : List (List Cel)) (L : Nat) (hL : ss.length = L) (n : Int) (hv : VwS w a cap hs ss) (hm : ∀ l ∈ ss, Big l) (h0 : 0 ≤ n) (hn : n ≤ 1048576) :
    Calls Try.prog 83 #[.slice a L cap, .int .i64 n] w (SzS ss n w) := by
  have hlm : L ≤ 9223372036854775807 := by have := hv.2.1; have h2 := hv.2.2.1; unfold maxLen at h2; omega
  have HV := Lib.hid hv; clear hv
  have HM := Lib.hid hm; clear hm
  have HL := Lib.hid hL; clear hL
  by_cases hlt : n - (L : Int) < 0
  · go_enter Try.func83, Try.ntmps83
    go_wp2
    go_ret
    exact ⟨-1, rfl, Below.refl _ _, Or.inl (by decide)⟩
  · go_enter Try.func83, Try.ntmps83
    go_wp2
    go_loopw [1, 5] (fun q i wr => ∃ (k : Nat) (z : Int), k ≤ L ∧ i = .int .i64 k ∧ q = .int .i64 z ∧ 0 ≤ z ∧ z ≤ n ∧ (∀ (j : Nat) (l : List Cel), j < k → ss[j]? = some l → Small n l) ∧ Below w.heap.size w wr) (fun _ i _ => L - intV i)
    case atStart => exact ⟨0, n - L, Nat.zero_le _, rfl, rfl, by omega, by omega, fun j c hj => by omega, Below.refl _ _⟩
    case round =>
      obtain ⟨k, z, hk, rfl, rfl, z0, z1, hok, hbel⟩ := hrel
      have HB := Lib.hid hbel; clear hbel
      have HO := Lib.hid hok; clear hok
      by_cases hlk : k < L
      · obtain ⟨l, hl⟩ : ∃ l, ss[k]? = some l := ⟨ss[k]'(by rw [HL.out]; exact hlk), List.getElem?_eq_getElem _⟩
        obtain ⟨x, g, o, -, rfl, hg, hc, hvl⟩ := HV.out.at hl
        have hcx : wr.cell? ⟨g, o + k, none⟩ = some (.slice x.a l.length x.c) := (HB.out.cell (p := ⟨g, o + k, none⟩) hg).trans hc
        have HZ := Lib.hid (szCellS_any wr x.a x.c l z (hvl.below HB.out) (HM.out l (List.mem_of_getElem? hl)) z0 (by omega)); clear hvl hc hg
        have HL2 := Lib.hid hl; clear hl
        generalize l.length = ln at *
        go_wp2_with fail
        refine HZ.out.mono ?_; rintro e w1 ⟨y, rfl, b1, hy⟩
        have B1 := Lib.hid (bel_tr HB.out b1 (Nat.le_refl _)); clear b1
        rcases hy with hy | ⟨y0, y1, y2, y3⟩
        · go_wp2_with fail
          go_ret
          exact ⟨-1, rfl, B1.out, Or.inl (by decide)⟩
        · have HS := Lib.hid (show Small n l from Small.mono (n := z) ⟨y2, y3⟩ z1); clear y2 y3
          have y4 : ¬ y < 0 := by omega
          go_wp2_with fail
          go_roundw
          case rel =>
            refine ⟨k + 1, y, by omega, by go_num, rfl, by omega, by omega, fun j d hj hd => ?_, B1.out⟩
            by_cases he : j = k
            · subst he
              obtain rfl : l = d := Option.some.inj (HL2.out.symm.trans hd)
              exact HS.out
            · exact HO.out j d (by omega) hd
          case measure => simp [intV]; omega
      · obtain rfl : k = L := by omega
        go_wp2_with fail
        go_ret
        refine ⟨z, rfl, HB.out, Or.inr ⟨z0, z1, by rw [HL.out]; omega, fun l hl => ?_⟩⟩
        obtain ⟨j, hj⟩ := List.mem_iff_getElem?.1 hl
        exact HO.out j l (by have := (List.getElem?_eq_some_iff.1 hj).1; rw [HL.out] at this; omega) hj
def SzB (h : List Cel) (ss : List (List Cel)) (n : Int) (w : World) (e : Ending) (w' : World) : Prop := ∃ z : Int, e = .returned (.int .i64 z) ∧ Below w.heap.size w w' ∧ (z < 0 ∨ 0 ≤ z ∧ z ≤ n ∧ Small n h ∧ (ss.length : Int) ≤ n ∧ ∀ l ∈ ss, Small n l)
set_option maxRecDepth 100000 in
set_option maxHeartbeats 2000000 in
theorem szBarn_any (w : World) (a sa : Option Addr) (c sc N L : Nat) (h : List Cel) (hs : List Hd) (ss : List (List Cel)) (hN : h.length = N) (hL : ss.length = L) (n : Int) (hv : Vw w a c h) (hvs : VwS w sa sc hs ss) (hm1 : Big h) (hm : ∀ l ∈ ss, Big l) (h0 : 0 ≤ n) (hn : n ≤ 1048576) :
    Calls Try.prog 37 #[.agg #[.slice a N c, .slice sa L sc], .int .i64 n] w (SzB h ss n w) := by
  have HVS := Lib.hid hvs; clear hvs
  have HM := Lib.hid hm; clear hm
  have H0 := Lib.hid (bel1 w (.cells #[.slice a N c, .slice sa L sc] 57))
  have F0 := Lib.hid (Bb.made (.slice a N c) (.slice sa L sc) w 57)
  have HZ := Lib.hid (szCellS_any _ a c h n (hv.below H0.out) hm1 h0 hn); clear hv hm1
  rw [hN] at HZ
  go_enter Try.func37, Try.ntmps37
  go_wp2_with fail
  refine HZ.out.mono ?_; rintro e w1 ⟨y, rfl, b1, hy⟩
  have B1 := Lib.hid (bel_tr H0.out b1 (Nat.le_refl _))
  obtain ⟨x0, x1, -, -, -⟩ := F0.out.next b1; clear b1
  rcases hy with hy | ⟨y0, y1, y2, y3⟩
  · go_wp2_with fail
    go_ret
    exact ⟨-1, rfl, B1.out, Or.inl (by decide)⟩
  · have HS := Lib.hid (show Small n h from ⟨y2, y3⟩); clear y2 y3
    have y4 : ¬ y < 0 := by omega
    go_wp2_with fail
    refine (szCellSS_any w1 sa sc hs ss L hL y (HVS.out.below B1.out) HM.out y0 (by omega)).mono ?_; rintro e w2 ⟨z, rfl, b2, hz⟩
    have B2 := Lib.hid (bel_tr B1.out b2 (Nat.le_refl _)); clear b2
    rcases hz with hz | ⟨z0, z1, z2, z3⟩
    · go_wp2_with fail
      go_ret
      exact ⟨-1, rfl, B2.out, Or.inl (by decide)⟩
    · have HS2 := Lib.hid (show ∀ l ∈ ss, Small n l from fun l hl => (z3 l hl).mono y1); clear z3
      have z4 : ¬ z < 0 := by omega
      go_wp2_with fail
      go_ret
      exact ⟨z, rfl, B2.out, Or.inr ⟨z0, by omega, HS.out, by omega, HS2.out⟩⟩
theorem made_none : ∀ n, (madeCells (Value.slice none 0 0).cells (n * 1)).toList = List.replicate n (.slice none 0 0) := by
  intro n
  rw [madeCells, Array.toList_map, Array.toList_range, Nat.mul_one]
  induction n with
  | zero => rfl
  | succ n ih =>
    rw [List.range_succ, List.map_append, ih, List.replicate_succ']
    simp [show (Value.slice none 0 0).cells = #[Value.slice none 0 0] from rfl, Nat.mod_one]
/-- While the lists are copied: the first k are there. -/
def Copied (w : World) (ss : List (List Cel)) (g N k : Nat) (wr : World) : Prop := ∃ us, us.length = N ∧ RowS w.heap.size wr (.slice (some ⟨g, 0, none⟩) N N) us ∧ OwL (w.heap.size + 1) wr (us.take k) (ss.take k) ∧ Below w.heap.size w wr
theorem take_set {α : Type} {l : List α} {k : Nat} {u : α} (hk : k < l.length) : (l.set k u).take (k + 1) = l.take k ++ [u] := by
  rw [List.take_succ_eq_append_getElem (by rw [List.length_set]; exact hk), List.take_set_of_le (Nat.le_refl _)]
  simp
theorem take_at {α : Type} {l : List α} {k : Nat} {u : α} (hk : l[k]? = some u) : l.take (k + 1) = l.take k ++ [u] := by
  rw [List.take_succ_eq_append_getElem (List.getElem?_eq_some_iff.1 hk).1, (List.getElem?_eq_some_iff.1 hk).2]
set_option maxRecDepth 100000 in
set_option maxHeartbeats 2000000 in
theorem toCellSS_any (w : World) (a : Option Addr) (cap : Nat) (hs : List Hd) (ss : List (List Cel)) (L : Nat) (hL : ss.length = L) (hv : VwS w a cap hs ss) (hl : L ≤ 1048576) (hll : ∀ l ∈ ss, l.length ≤ 1048576) :
    Calls Try.prog 84 #[.slice a L cap] w fun e w' => ∃ us, e = .returned (.slice (some ⟨w.heap.size, 0, none⟩) L L) ∧ us.length = L ∧ RowS w.heap.size w' (.slice (some ⟨w.heap.size, 0, none⟩) L L) us ∧ OwL (w.heap.size + 1) w' us ss ∧ Below w.heap.size w w' := by
  obtain ⟨i0, hi, hz0, hz1, hz2⟩ := info_parts infoS
  have HV := Lib.hid hv; clear hv
  have HLL := Lib.hid hll; clear hll
  have HL := Lib.hid hL; clear hL
  go_enter Try.func84, Try.ntmps84
  go_wp2_with (first
    | (at_make; refine wpList_make_full _ rfl (.tmp 6) (.tmp 6) 25 rfl w.heap.size 24 i0 _ 1 Try.underlying25 hi hz0 hz1 .i64 .i64 _ _ L rfl rfl rfl rfl (by rw [hz2]; omega) (by unfold maxLen; omega) (Nat.le_refl _) ?_; intro w1 hown1 hgrow1))
  have H1 := Lib.hid (show Copied w ss w.heap.size L 0 w1 from ⟨List.replicate L (.slice none 0 0), List.length_replicate, by
      unfold RowS; rw [List.length_replicate, ← made_none]; exact hown1, ⟨rfl, (fun j u l h1 => by simp at h1), List.Pairwise.nil⟩, (Below.refl _ _).grown hgrow1 (Nat.le_refl _) (fun _ h => by cases h)⟩)
  have hsz1 : w.heap.size < w1.heap.size := by
    obtain ⟨-, h2⟩ := hown1
    rcases h2 with ⟨h2, -⟩ | ⟨g, cap, cur, h2, -, hg, -⟩
    · cases h2
    · cases h2; exact (Array.getElem?_eq_some_iff.1 hg).1
  clear hown1 hgrow1
  go_loopw [4] (fun i wr => ∃ k : Nat, k ≤ L ∧ i = .int .i64 k ∧ w1.heap.size ≤ wr.heap.size ∧ Copied w ss w.heap.size L k wr) (fun i _ => L - intV i)
  case atStart => exact ⟨0, Nat.zero_le _, rfl, Nat.le_refl _, H1.out⟩
  case round =>
    clear H1
    obtain ⟨k, hk, rfl, hsz, us, hul, hrow, hol, hbel⟩ := hrel
    have HB := Lib.hid hbel; clear hbel
    have HR := Lib.hid hrow; clear hrow
    have HO := Lib.hid hol; clear hol
    by_cases hlk : k < L
    · obtain ⟨l, hl⟩ : ∃ l, ss[k]? = some l := ⟨ss[k]'(by rw [HL.out]; exact hlk), List.getElem?_eq_getElem _⟩
      obtain ⟨x, g, o, -, rfl, hg, hc, hvl⟩ := HV.out.at hl
      have hcx : wr.cell? ⟨g, o + k, none⟩ = some (.slice x.a l.length x.c) := (HB.out.cell (p := ⟨g, o + k, none⟩) hg).trans hc
      have HVL := Lib.hid (hvl.below HB.out); clear hvl hc hg
      have hl2 : l.length ≤ 1048576 := HLL.out l (List.mem_of_getElem? hl)
      have HL2 := Lib.hid hl; clear hl
      generalize hln : l.length = ln at *
      have HLN := Lib.hid hln; clear hln
      go_wp2_with fail
      refine (toCellS_is _ x.a x.c l _ HLN.out HVL.out hl2).mono ?_; rintro e w2 ⟨g2, rfl, hg2, o2, b2⟩
      have B2 := Lib.hid (bel_tr HB.out b2 (Nat.le_refl _))
      have R2 := Lib.hid (HR.out.next b2)
      have O2 := Lib.hid (HO.out.next b2)
      have O3 := Lib.hid o2
      have L3 := Lib.hid (HO.out.low)
      have sz2 := b2.size
      clear b2 o2 hcx
      obtain ⟨u, hu⟩ : ∃ u, us[k]? = some u := ⟨us[k]'(by omega), List.getElem?_eq_getElem _⟩
      obtain ⟨a2, cap2, e2, -, -, -, hat⟩ := R2.out.form
      obtain ⟨g3, e3, -, -, d0, f0⟩ := hat k u hu
      rw [hul] at e2
      cases e2
      cases e3
      clear hat hu
      have HS := Lib.hid (R2.out.set hul.symm k (.slice (some ⟨g2, 0, none⟩) ln ln))
      have FIN := Lib.hid (show Copied w ss w.heap.size L (k + 1) (w2.setCell ⟨w.heap.size, k, none⟩ (.slice (some ⟨g2, 0, none⟩) ln ln)) from by
        refine ⟨_, by rw [List.length_set]; exact hul, HS.out.1, ?_, B2.out.grown HS.out.2 B2.out.size (fun j hj => by cases hj; exact Nat.le_refl _)⟩
        rw [take_set (by omega), take_at HL2.out]
        refine OwL.snoc (C := w.heap.size + 1) (O2.out.grown HS.out.2 (fun y hy q hq e => by have := (O2.out.low y hy q hq).1; cases e; omega)) ((O3.out.mono (by omega)).grown HS.out.2 (fun q hq e => by
          have : g2 = q := by simpa [Value.ownBlock] using hq
          cases e; omega)) (Nat.le_refl _) (fun y hy q hq e => ?_)
        have h1 := (L3.out y hy q hq).2
        have h2 : g2 = q := by simpa [Value.ownBlock] using e
        omega)
      have sz3 : w1.heap.size ≤ (w2.setCell ⟨w.heap.size, k, none⟩ (.slice (some ⟨g2, 0, none⟩) ln ln)).heap.size := by rw [World.size_setCell]; omega
      clear HS R2 O2 O3 L3
      generalize hG : w.heap.size = G at *
      go_wp2_with fail
      subst hG
      go_roundw
      case rel => exact ⟨k + 1, by omega, by go_num, sz3, FIN.out⟩
      case measure => simp [intV]; omega
    · obtain rfl : k = L := by omega
      go_wp2_with fail
      go_ret
      refine ⟨us, rfl, hul, HR.out, ?_, HB.out⟩
      have := HO.out
      rwa [List.take_of_length_le (by omega), List.take_of_length_le (Nat.le_of_eq HL.out)] at this
set_option maxRecDepth 100000 in
set_option maxHeartbeats 2000000 in
theorem toBarn_any (w : World) (a sa : Option Addr) (c sc N L : Nat) (h : List Cel) (hs : List Hd) (ss : List (List Cel)) (hN : h.length = N) (hL : ss.length = L) (hv : Vw w a c h) (hvs : VwS w sa sc hs ss) (hlow : Low h ss) :
    Calls Try.prog 38 #[.agg #[.slice a N c, .slice sa L sc]] w fun e w' => ∃ g gs, e = .returned (.agg #[.slice (some ⟨g, 0, none⟩) N N, .slice (some ⟨gs, 0, none⟩) L L]) ∧ OwB w.heap.size w' (.slice (some ⟨g, 0, none⟩) N N) (.slice (some ⟨gs, 0, none⟩) L L) h ss ∧ Below w.heap.size w w' := by
  have HVS := Lib.hid hvs; clear hvs
  have HV := Lib.hid hv; clear hv
  have hN1 : N ≤ 1048576 := by rw [← hN]; exact hlow.1
  have hL1 : L ≤ 1048576 := by rw [← hL]; exact hlow.2.1
  have HLL := Lib.hid hlow.2.2; clear hlow
  have H0 := Lib.hid (bel3 w (.cells #[.slice a N c, .slice sa L sc] 57) (.cells #[.slice none 0 0, .slice none 0 0] 27) (.cells #[.slice none 0 0, .slice none 0 0] 27))
  have F0 := Lib.hid (show Bb w.heap.size (.slice a N c) (.slice sa L sc) (((w.alloc (.cells #[.slice a N c, .slice sa L sc] 57)).alloc (.cells #[.slice none 0 0, .slice none 0 0] 27)).alloc (.cells #[.slice none 0 0, .slice none 0 0] 27)) from
    (Bb.made (.slice a N c) (.slice sa L sc) w 57).next (bel2 _ _ _))
  have F1 := Lib.hid (show Bb (w.heap.size + 1) (.slice none 0 0) (.slice none 0 0) (((w.alloc (.cells #[.slice a N c, .slice sa L sc] 57)).alloc (.cells #[.slice none 0 0, .slice none 0 0] 27)).alloc (.cells #[.slice none 0 0, .slice none 0 0] 27)) from by
    have := (Bb.made (.slice none 0 0) (.slice none 0 0) (w.alloc (.cells #[.slice a N c, .slice sa L sc] 57)) 27).next (bel1 _ (.cells #[.slice none 0 0, .slice none 0 0] 27))
    rwa [World.size_alloc] at this)
  have F2 := Lib.hid (show Bb (w.heap.size + 2) (.slice none 0 0) (.slice none 0 0) (((w.alloc (.cells #[.slice a N c, .slice sa L sc] 57)).alloc (.cells #[.slice none 0 0, .slice none 0 0] 27)).alloc (.cells #[.slice none 0 0, .slice none 0 0] 27)) from by
    have := Bb.made (.slice none 0 0) (.slice none 0 0) ((w.alloc (.cells #[.slice a N c, .slice sa L sc] 57)).alloc (.cells #[.slice none 0 0, .slice none 0 0] 27)) 27
    rwa [World.size_alloc, World.size_alloc] at this)
  go_enter Try.func38, Try.ntmps38
  go_wp2_with fail
  refine (toCellS_is _ a c h _ hN (HV.out.below H0.out) hN1).mono ?_; rintro e w1 ⟨g, rfl, hg, o1, b1⟩
  have hs0 := H0.out.size
  have B1 := Lib.hid (bel_tr H0.out b1 (Nat.le_refl _))
  have O1 := Lib.hid o1
  have hg' : w.heap.size + 3 ≤ g := by simpa using hg
  have K0 := Lib.hid (F0.out.next b1)
  have K1 := Lib.hid (F1.out.next b1)
  have K2 := Lib.hid (F2.out.next b1)
  clear F0 F1 F2 H0 b1 o1 hs0 hg
  obtain ⟨x0, x1, -, -, x4⟩ := id K0.out
  obtain ⟨y0, y1, y2, y3, y4⟩ := id K1.out
  obtain ⟨z0, z1, z2, z3, z4⟩ := id K2.out
  generalize hq : w.heap.size = q at *
  have HQ := Lib.hid hq; clear hq
  have M0 := Lib.hid (K0.out.put (p := ⟨q + 1 + 1, 0, none⟩) (by show q + 1 + 1 ≠ q; omega) (.slice (some ⟨g, 0, none⟩) N N))
  have M1 := Lib.hid (K1.out.put (p := ⟨q + 1 + 1, 0, none⟩) (by show q + 1 + 1 ≠ q + 1; omega) (.slice (some ⟨g, 0, none⟩) N N))
  have M2 := Lib.hid (K2.out.set0 (.slice (some ⟨g, 0, none⟩) N N))
  have MB := Lib.hid (B1.out.setCell (p := ⟨q + 1 + 1, 0, none⟩) (by show q ≤ q + 1 + 1; omega) (.slice (some ⟨g, 0, none⟩) N N))
  have MO := Lib.hid ((OwC.mono (C := q + 3) O1.out (by simp [HQ.out])).put (p := ⟨q + 1 + 1, 0, none⟩) (by show q + 1 + 1 < q + 3; omega) (.slice (some ⟨g, 0, none⟩) N N))
  have hgl : g < (w1.setCell ⟨q + 1 + 1, 0, none⟩ (.slice (some ⟨g, 0, none⟩) N N)).heap.size := OwC.low MO.out g rfl
  clear K0 K1 K2 O1 B1
  go_wp2_with fail
  clear x0 x1 y0 y1 y2 y3 z0 z1 z2 z3
  generalize w1.setCell ⟨q + 1 + 1, 0, none⟩ (.slice (some ⟨g, 0, none⟩) N N) = w2 at *
  refine (toCellSS_any w2 sa sc hs ss L hL (HVS.out.below (by rw [HQ.out]; exact MB.out)) hL1 HLL.out).mono ?_; rintro e w3 ⟨us, rfl, hul, r3, o3, b3⟩
  have B3 := Lib.hid (bel_tr MB.out b3 (by rw [HQ.out]; exact Nat.le_refl _))
  have hs3 : q + 3 ≤ w2.heap.size := M2.out.2.2.2.2
  have O3 := Lib.hid (OwB.mk (B := q + 3) (MO.out.next b3) (r3.mono hs3) (o3.mono (by omega)) (fun x hx k hk e => by
    have h1 := (o3.low x hx k e).1
    have h2 : g = k := by simpa [Value.ownBlock] using hk
    omega))
  have N1 := Lib.hid (M1.out.next b3)
  have N2 := Lib.hid (M2.out.next b3)
  obtain ⟨y0, y1, y2, y3, y5⟩ := id N1.out
  obtain ⟨z0, z1, z2, z3, z5⟩ := id N2.out
  generalize hgs : w2.heap.size = gs at *
  clear MB M0 M1 M2 MO r3 o3 b3 hgs
  go_wp2_with fail
  refine bodyPost_ret (v := .agg #[.slice (some ⟨g, 0, none⟩) N N, .slice (some ⟨gs, 0, none⟩) L L]) (by simp [results, Try.results38, go_sem, y0, y1]) rfl ⟨g, gs, rfl, ?_, ?_⟩
  · rw [HQ.out]
    exact ((((O3.out.put (p := ⟨q + 1 + 1, 1, none⟩) (by show q + 1 + 1 < q + 3; omega) _).put (p := ⟨q + 1, 0, none⟩) (by show q + 1 < q + 3; omega) _).put (p := ⟨q + 1, 1, none⟩) (by show q + 1 < q + 3; omega) _).mono (by omega))
  · rw [HQ.out]
    exact ((B3.out.setCell (p := ⟨q + 1 + 1, 1, none⟩) (by show q ≤ q + 1 + 1; omega) _).setCell (p := ⟨q + 1, 0, none⟩) (by show q ≤ q + 1; omega) _).setCell (p := ⟨q + 1, 1, none⟩) (by show q ≤ q + 1; omega) _
set_option maxRecDepth 100000 in
set_option maxHeartbeats 2000000 in
theorem eqCellSS_same (w : World) (a b : Option Addr) (ca cb n : Nat) (hs hs' : List Hd) (ss : List (List Cel)) (hn : ss.length = n) (hv : VwS w a ca hs ss) (hu : VwS w b cb hs' ss) (hl : n ≤ 1048576) (hll : ∀ l ∈ ss, l.length ≤ 1048576) :
    Calls Try.prog 85 #[.slice a n ca, .slice b n cb] w fun e w' => e = .returned (.bool true) ∧ Below w.heap.size w w' := by
  have HV := Lib.hid hv; clear hv
  have HU := Lib.hid hu; clear hu
  have HLL := Lib.hid hll; clear hll
  have HN := Lib.hid hn; clear hn
  have q0 : ((n : Int) != (n : Int)) = false := by simp
  go_enter Try.func85, Try.ntmps85
  go_wp2
  go_loopw [5] (fun i wr => ∃ k : Nat, k ≤ n ∧ i = .int .i64 k ∧ Below w.heap.size w wr) (fun i _ => n - intV i)
  case atStart => exact ⟨0, Nat.zero_le _, rfl, Below.refl _ _⟩
  case round =>
    obtain ⟨k, hk, rfl, hbel⟩ := hrel
    have HB := Lib.hid hbel; clear hbel
    by_cases hlt : k < n
    · obtain ⟨l, hl⟩ : ∃ l, ss[k]? = some l := ⟨ss[k]'(by rw [HN.out]; exact hlt), List.getElem?_eq_getElem _⟩
      obtain ⟨x, g, o, -, rfl, hg, hc, hvl⟩ := HV.out.at hl
      obtain ⟨y, g2, o2, -, rfl, hh, hd, hul⟩ := HU.out.at hl
      have hg' : g < wr.heap.size := Nat.lt_of_lt_of_le hg HB.out.size
      have hh' : g2 < wr.heap.size := Nat.lt_of_lt_of_le hh HB.out.size
      have hc' := (HB.out.cell (p := ⟨g, o + k, none⟩) hg).trans hc
      have hd' := (HB.out.cell (p := ⟨g2, o2 + k, none⟩) hh).trans hd
      have hl2 : l.length ≤ 1048576 := HLL.out l (List.mem_of_getElem? hl)
      have HC := Lib.hid (fun z (hz : Below wr.heap.size wr z) => eqCellS_same z x.a y.a x.c y.c l (hvl.below (bel_tr HB.out hz (Nat.le_refl _))) (hul.below (bel_tr HB.out hz (Nat.le_refl _))) (by omega))
      generalize l.length = ln at *
      have HS := Lib.hid (show wr.drew.cell? ⟨g, o + k, none⟩ = some (.slice x.a ln x.c) ∧ wr.drew.cell? ⟨g2, o2 + k, none⟩ = some (.slice y.a ln y.c) ∧ Below wr.heap.size wr wr.drew from ⟨hc', hd', (Below.refl _ _).drew⟩)
      clear hvl hul hg hh hc hd hc' hd' hl
      go_wp2_with fail
      refine wp_region_held_drew (S := fun z => z.cell? ⟨g, o + k, none⟩ = some (.slice x.a ln x.c) ∧ z.cell? ⟨g2, o2 + k, none⟩ = some (.slice y.a ln y.c) ∧ Below wr.heap.size wr z) (by kernel_rfl) HS.out (fun hHeld => ?_)
      refine wpAnyH_take (i := 0) (v := ?v0a) rfl (by kernel_rfl) (by kernel_rfl) (by kernel_rfl) (fun _ _ _ h => h) (Or.inl ⟨by rfl, ?hy0a⟩) (by assumption) ?rest0a
      case hy0a => (intro zz hSw; (try dsimp only at hSw); go_simp; (try with_reducible rfl))
      change wpAnyH _ _ _ _ _ _ _ (Act.put _ (some 17) _) _
      simp only [Act.put, List.setIfInBounds_toArray, List.set_cons_zero, List.set_cons_succ]
      refine wpAnyH_take (i := 1) (v := ?v1a) rfl (by kernel_rfl) (by kernel_rfl) (by kernel_rfl) (fun _ _ _ h => h) (Or.inl ⟨by rfl, ?hy1a⟩) (by assumption) ?rest1a
      case hy1a => (intro zz hSw; (try dsimp only at hSw); go_simp; (try with_reducible rfl))
      change wpAnyH _ _ _ _ _ _ _ (Act.put _ (some 18) _) _
      simp only [Act.put, List.setIfInBounds_toArray, List.set_cons_zero, List.set_cons_succ]
      refine wpAnyH_take (i := 2) (v := ?v2a) rfl (by kernel_rfl) (by kernel_rfl) (by kernel_rfl) (fun _ _ _ h => h) (Or.inl ⟨by rfl, ?hy2a⟩) (by assumption) ?rest2a
      case hy2a => (intro zz hSw; (try dsimp only at hSw); go_simp; (try with_reducible rfl))
      change wpAnyH _ _ _ _ _ _ _ (Act.put _ (some 19) _) _
      simp only [Act.put, List.setIfInBounds_toArray, List.set_cons_zero, List.set_cons_succ]
      refine wpAnyH_take (i := 3) (v := ?v3a) rfl (by kernel_rfl) (by kernel_rfl) (by kernel_rfl) (fun _ _ _ h => h) (Or.inl ⟨by rfl, ?hy3a⟩) (by assumption) ?rest3a
      case hy3a => (intro zz hSw; (try dsimp only at hSw); go_simp; (try with_reducible rfl))
      change wpAnyH _ _ _ _ _ _ _ (Act.put _ (some 20) _) _
      simp only [Act.put, List.setIfInBounds_toArray, List.set_cons_zero, List.set_cons_succ]
      refine wpAnyH_take (i := 4) (v := ?v4a) rfl (by kernel_rfl) (by kernel_rfl) (by kernel_rfl) (fun _ _ _ h => h) (Or.inl ⟨by rfl, ?hy4a⟩) (by assumption) ?rest4a
      case hy4a => (intro zz hSw; (try dsimp only at hSw); go_simp; (try with_reducible rfl))
      change wpAnyH _ _ _ _ _ _ _ (Act.put _ (some 21) _) _
      simp only [Act.put, List.setIfInBounds_toArray, List.set_cons_zero, List.set_cons_succ]
      refine wpAnyH_take (i := 5) (v := ?v5a) rfl (by kernel_rfl) (by kernel_rfl) (by kernel_rfl) (fun _ _ _ h => h) (Or.inl ⟨by rfl, ?hy5a⟩) (by assumption) ?rest5a
      case hy5a => (intro zz hSw; (try dsimp only at hSw); go_simp; (try with_reducible rfl))
      change wpAnyH _ _ _ _ _ _ _ (Act.put _ (some 22) _) _
      simp only [Act.put, List.setIfInBounds_toArray, List.set_cons_zero, List.set_cons_succ]
      refine wpAnyH_take (i := 6) (v := ?v6a) rfl (by kernel_rfl) (by kernel_rfl) (by kernel_rfl) (fun _ _ _ h => h) (Or.inl ⟨by rfl, ?hy6a⟩) (by assumption) ?rest6a
      case hy6a => (intro zz hSw; (try dsimp only at hSw); go_simp; (try with_reducible rfl))
      change wpAnyH _ _ _ _ _ _ _ (Act.put _ (some 23) _) _
      simp only [Act.put, List.setIfInBounds_toArray, List.set_cons_zero, List.set_cons_succ]
      refine wpAnyH_take (i := 7) (v := ?v7a) rfl (by kernel_rfl) (by kernel_rfl) (by kernel_rfl) (fun _ _ _ h => h) (Or.inl ⟨by rfl, ?hy7a⟩) (by assumption) ?rest7a
      case hy7a => (intro zz hSw; (try dsimp only at hSw); go_simp; (try with_reducible rfl))
      change wpAnyH _ _ _ _ _ _ _ (Act.put _ (some 24) _) _
      simp only [Act.put, List.setIfInBounds_toArray, List.set_cons_zero, List.set_cons_succ]
      refine wpAnyH_ready (rs := [8]) (by kernel_rfl) (by simp) (AllReadyH.cons rfl (fun K hK => ?_) AllReadyH.nil)
      go_simp
      refine (HC.out _ hHeld.2.2).mono ?_; rintro e w' ⟨rfl, bel⟩
      refine hK.out _ _ (⟨cob bel hHeld.2.2 hg' hHeld.1, cob bel hHeld.2.2 hh' hHeld.2.1, bel_tr hHeld.2.2 bel (Nat.le_refl _)⟩) (fun hHeld => ?_)
      clear hK K bel
      refine wpAnyH_take (i := 9) (v := ?v9a) rfl (by kernel_rfl) (by kernel_rfl) (by kernel_rfl) (fun _ _ _ h => h) (Or.inl ⟨by rfl, ?hy9a⟩) (by assumption) ?rest9a
      case hy9a => (intro zz hSw; (try dsimp only at hSw); go_simp; (try with_reducible rfl))
      change wpAnyH _ _ _ _ _ _ _ (Act.put _ (some 26) _) _
      simp only [Act.put, List.setIfInBounds_toArray, List.set_cons_zero, List.set_cons_succ]
      refine wpAnyH_done (by kernel_rfl) ?_ _
      have HG := Lib.hid (bel_tr HB.out hHeld.2.2 (Nat.le_refl _)); clear hHeld HS
      go_wp2_with fail
      go_roundw
      case rel => exact ⟨k + 1, by omega, by go_num, HG.out⟩
      case measure => simp [intV]; omega
    · obtain rfl : k = n := by omega
      go_wp2_with fail
      go_ret
      exact ⟨rfl, HB.out⟩
end Go.Proofs.Ytefhdhblcaopiaa.Cl
