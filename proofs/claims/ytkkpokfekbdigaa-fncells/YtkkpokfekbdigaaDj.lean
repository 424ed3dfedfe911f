/-
  Draws of FnCells: a list and a cell (spec.DrawPutCell), a list and a place (spec.l4DrawAt, DrawFind).
-/
import Derived.Test.YtkkpokfekbdigaaDf
import Derived.RegionTactic
import Derived.BigRegion
import Derived.IntWalk
import Derived.Deep.QuietTactic
import Derived.BigQuiet
namespace Go.Proofs.Ytkkpokfekbdigaa.Cl
open Go.RowKit Wd Rp Cu Kp
set_option linter.unusedVariables false
theorem isBytes_nx {w w' : World} {a : Option Addr} {len : Nat} (h : IsBytes w a len) (hb : Below w.heap.size w w') : IsBytes w' a len := ⟨h.1, fun hl => by
  obtain ⟨ab, ao, h1, h2, h3⟩ := h.2 hl
  refine ⟨ab, ao, h1, Nat.lt_of_lt_of_le h2 hb.size, fun k hk => ?_⟩
  obtain ⟨z, h4, h5⟩ := h3 k hk
  exact ⟨z, (World.cell?_of_block (w := w) (hb.block ab h2)).trans h4, h5⟩⟩
/-- A list and a cell, in a world that has only grown. -/
def DrewLC (w : World) (e : Ending) (w' : World) : Prop := ∃ (x : Value) (l : List Cel) (r s : ByteArray) (t v : Int) (g : Bool), e = .returned (.tuple #[x, .agg #[.string r, .string s, .int .i64 t, .int .i64 v, .bool g]]) ∧ OwC w.heap.size w' x l ∧ l.length ≤ 250 ∧ Smalls l ∧ Near r s t v ∧ Below w.heap.size w w'
theorem OwC.low1 {B q : Nat} {w : World} {v : Value} {l : List Cel} (h : OwC B w v l) (hq : q < B) (x0 x1 x2 x3 x4 : Value) : OwC B (((((w.setCell ⟨q, 0, none⟩ x0).setCell ⟨q, 1, none⟩ x1).setCell ⟨q, 2, none⟩ x2).setCell ⟨q, 3, none⟩ x3).setCell ⟨q, 4, none⟩ x4) v l :=
  row_next h fun g hg hlt => by
    have hB := OwC.lt h g hg
    have e : ∀ (w : World) (o : Nat) (x : Value), (w.setCell ⟨q, o, none⟩ x).heap[g]? = w.heap[g]? := fun w o x => Below.heap_setCell _ _ _ _ (by show g ≠ q; omega)
    rw [e, e, e, e, e]
set_option maxRecDepth 100000 in
set_option maxHeartbeats 2000000 in
theorem drawPut_any (w : World) (a : Option Addr) (len cap : Nat) (hb : IsBytes w a len) (hl : len ≤ 4096) : Calls Try.prog 17 #[.slice a len cap] w (DrewLC w) := by
  have HB := Lib.hid hb; clear hb
  have HZ := Lib.hid (Zc.made w)
  have HA := Lib.hid (bel1 w)
  go_enter Try.func17, Try.ntmps17
  go_wp2_with fail
  refine (new_any _ a len cap (isBytes_nx HB.out (HA.out _)) hl).mono ?_; rintro e w1 ⟨b, rfl, hc1, hw1⟩
  have hbw : w.heap.size + 1 ≤ b := by have := hc1.le; simpa using this
  have HZ1 := Lib.hid ((HZ.out _).next hw1)
  have B1 := Lib.hid (bel_tr (HA.out _) hw1 (Nat.le_refl _))
  have HC := Lib.hid hc1; clear hw1 hc1
  have hlt1 : b < w1.heap.size := HC.out.lt
  go_wp2_with fail
  refine (drawCells_any _ b _ HC.out).mono ?_; rintro e w2 ⟨x, l, rfl, o2, hl2, hs, hc2, hw2⟩
  have HZ2 := Lib.hid (HZ1.out.but hw2 (by omega))
  have B2 := Lib.hid (B1.out.trans (hw2.below (B := w.heap.size) (by omega) B1.out.size))
  have HC2 := Lib.hid hc2
  have HO2 := Lib.hid o2; clear hc2 hw2 o2 HZ1 B1 HC
  have HM := Lib.hid hs; clear hs
  go_wp2_with fail
  refine (drawAnyC_any _ b _ HC2.out).mono ?_; rintro e w3 ⟨r, s, t, v, g, rfl, hn, hc3, hw3⟩
  obtain ⟨⟨z0, z1, z2, z3, z4⟩, ⟨f0, f1, f2, f3, f4⟩, -⟩ := HZ2.out.but hw3 (by omega)
  have B3 := Lib.hid (B2.out.trans (hw3.below (B := w.heap.size) (by omega) B2.out.size))
  have HO3 := Lib.hid (HO2.out.but hw3 hlt1); clear hc3 hw3 HO2 B2 HZ2 HC2
  have HN := Lib.hid hn; clear hn
  have hq1 : w.heap.size < w1.heap.size := by omega
  generalize hq : w.heap.size = q at *
  have hqB : q ≤ q := Nat.le_refl _
  go_wp2_with fail
  refine bodyPost_ret (v := .tuple #[x, .agg #[.string r, .string s, .int .i64 t, .int .i64 v, .bool g]]) (by simp [results, Try.results17, go_sem, z0, z1, z2, z3, z4]) rfl ⟨x, l, r, s, t, v, g, rfl, ?_, hl2, HM.out, HN.out, ?_⟩
  · subst hq
    exact (HO3.out.low1 hq1 _ _ _ _ _).mono (by omega)
  · subst hq
    exact bel_set5 B3.out hqB _ _ _ _ _
set_option maxRecDepth 100000 in
set_option maxHeartbeats 1000000 in
theorem max_any (x y : Int) (w : World) : Calls Try.prog 104 #[.int .i64 x, .int .i64 y] w fun e w' => ∃ m : Int, e = .returned (.int .i64 m) ∧ w = w' := by
  go_enter Try.func104, Try.ntmps104
  by_cases h : y < x
  · go_wp2
    go_ret
    first | exact ⟨x, rfl, rfl⟩ | exact ⟨⟨x, rfl⟩, rfl⟩
  · go_wp2
    go_ret
    first | exact ⟨y, rfl, rfl⟩ | exact ⟨⟨y, rfl⟩, rfl⟩
theorem Kx.set3 {n : Nat} {r s : ByteArray} {t : Int} {w : World} (h : Kx n r s t w) (r' s' : ByteArray) (t' : Int) : Kx n r' s' t' (((w.setCell ⟨n, 0, none⟩ (.string r')).setCell ⟨n, 1, none⟩ (.string s')).setCell ⟨n, 2, none⟩ (.int .i64 t')) := by
  obtain ⟨h0, h1, h2, f0, f1, f2, hl⟩ := h
  refine ⟨?_, ?_, ?_, ?_, ?_, ?_, ?_⟩ <;> simp [go_sem, h0, h1, h2, f0, f1, f2, hl]
theorem Kx.set2 {n : Nat} {r s : ByteArray} {t : Int} {w : World} (h : Kx n r s t w) (t' : Int) : Kx n r s t' (w.setCell ⟨n, 2, none⟩ (.int .i64 t')) := by
  obtain ⟨h0, h1, h2, f0, f1, f2, hl⟩ := h
  refine ⟨?_, ?_, ?_, ?_, ?_, ?_, ?_⟩ <;> simp [go_sem, h0, h1, h2, f0, f1, f2, hl]
/-- A place drawn. -/
def DrawsAt (B b : Nat) (w : World) (e : Ending) (w' : World) : Prop := ∃ (r s : ByteArray) (t : Int), e = .returned (.tuple #[.string r, .string s, .int .i64 t]) ∧ r.size ≤ 9 ∧ s.size ≤ 9 ∧ Cur B b w' ∧ But b w w'
set_option maxRecDepth 100000 in
set_option maxHeartbeats 8000000 in
theorem drawAt_any (B b : Nat) (w : World) (x : Value) (l : List Cel) {C : Nat} (hc : Cur B b w) (ho : OwC C w x l) (hC : b < C) (hl : l.length ≤ 4000) (hs : Smalls l) : Calls Try.prog 63 #[.pointer (some ⟨b, 0, none⟩), x] w (DrawsAt B b w) := by
  have hlt := hc.lt
  have HS := Lib.hid (⟨But.refl b w, hc, hlt⟩ : St w B b w); clear hc
  have HO := Lib.hid ho
  have HM := Lib.hid hs; clear hs
  obtain ⟨a, cap, rfl, -, -⟩ := ho.view
  clear ho
  generalize hn : l.length = n at *
  go_enter Try.func63, Try.ntmps63
  go_wp2_with fail
  refine (draw_any B b _ HS.out.cur).mono ?_; rintro e w1 ⟨r, s, t, rfl, hk, hc1, hw1⟩
  have HN := Lib.hid hk.near
  have HS1 := Lib.hid (HS.out.draws hw1 hc1)
  have HO1 := Lib.hid (HO.out.but hw1 hC); clear hw1 hc1 hk HS HO
  have HX := Lib.hid (Kx.made r s t w1 26)
  have HSa := Lib.hid (HS1.out.alloc (.cells #[.string r, .string s, .int .i64 t] 26))
  have HOa := Lib.hid (HO1.out.next (bel1 w1 (.cells #[.string r, .string s, .int .i64 t] 26)))
  have hpw : w.heap.size ≤ w1.heap.size := HS1.out.size
  clear HS1 HO1
  by_cases h0 : n = 0
  · subst h0
    go_wp2_with fail
    generalize hp : w1.heap.size = p at *
    generalize w1.alloc (Obj.cells #[Value.string r, Value.string s, Value.int IntKind.i64 t] 26) = w2 at *
    clear hp
    go_wp2_with fail
    refine (once_any B b _ _ HSa.out.cur (by decide) (by decide)).mono ?_; rintro e wA ⟨qA, rfl, hcA, hwA⟩
    have SA := Lib.hid (HSa.out.draws hwA hcA)
    have XA := Lib.hid (HX.out.but hwA (by omega)); clear hcA hwA HX HSa
    cases qA
    · obtain ⟨x0, x1, x2, -, -, -, -⟩ := XA.out
      have HF := Lib.hid (SA.out.drewN); clear SA
      go_wp2_with fail
      go_quiet (fail)
      go_wp2_with fail
      refine bodyPost_ret (v := .tuple #[.string r, .string s, .int .i64 t]) (by simp [results, Try.results63, go_sem]) rfl ⟨r, s, t, rfl, HN.out.1, HN.out.2.1, (HF.out _).cur, (HF.out _).but⟩
    · go_wp2_with fail
      refine (drawKey_any B b _ SA.out.cur).mono ?_; rintro e wB ⟨r', s', t', rfl, hk', hcB, hwB⟩
      have SB := Lib.hid (SA.out.draws hwB hcB)
      have XB := Lib.hid (XA.out.but hwB (by omega))
      have SC := Lib.hid (St.set3 (n := p) SB.out hpw (.string r') (.string s') (.int .i64 t'))
      have XC := Lib.hid (XB.out.set3 r' s' t')
      obtain ⟨x0, x1, x2, f0, f1, f2, -⟩ := XB.out
      clear hcB hwB XB SB XA SA
      go_wp2_with fail
      clear x0 x1 x2 f0 f1 f2
      generalize World.setCell _ _ _ = wC at SC XC ⊢
      obtain ⟨x0, x1, x2, -, -, -, -⟩ := XC.out
      have HF := Lib.hid (SC.out.drewN); clear SC
      go_quiet (fail)
      go_wp2_with fail
      refine bodyPost_ret (v := .tuple #[.string r', .string s', .int .i64 t']) (by simp [results, Try.results63, go_sem]) rfl ⟨r', s', t', rfl, hk'.1, hk'.2.1, (HF.out _).cur, (HF.out _).but⟩
  · have n1 : (0 : Int) < (n : Int) := by omega
    go_wp2_with fail
    generalize hp : w1.heap.size = p at *
    generalize w1.alloc (Obj.cells #[Value.string r, Value.string s, Value.int IntKind.i64 t] 26) = w2 at *
    clear hp
    refine (once_any B b _ _ HSa.out.cur (by decide) (by decide)).mono ?_; rintro e w3 ⟨q, rfl, hc3, hw3⟩
    have HS3 := Lib.hid (HSa.out.draws hw3 hc3)
    have HX3 := Lib.hid (HX.out.but hw3 (by omega))
    have HO3 := Lib.hid (HOa.out.but hw3 hC); clear hc3 hw3 HX HSa HOa
    cases q
    · skip
      go_wp2_with fail
      refine (once_any B b _ _ HS3.out.cur (by decide) (by decide)).mono ?_; rintro e wA ⟨qA, rfl, hcA, hwA⟩
      have SA := Lib.hid (HS3.out.draws hwA hcA)
      have XA := Lib.hid (HX3.out.but hwA (by omega)); clear hcA hwA HX3 HS3
      cases qA
      · obtain ⟨x0, x1, x2, -, -, -, -⟩ := XA.out
        have HF := Lib.hid (SA.out.drewN); clear SA
        go_wp2_with fail
        go_quiet (fail)
        go_wp2_with fail
        refine bodyPost_ret (v := .tuple #[.string r, .string s, .int .i64 t]) (by simp [results, Try.results63, go_sem]) rfl ⟨r, s, t, rfl, HN.out.1, HN.out.2.1, (HF.out _).cur, (HF.out _).but⟩
      · go_wp2_with fail
        refine (drawKey_any B b _ SA.out.cur).mono ?_; rintro e wB ⟨r', s', t', rfl, hk', hcB, hwB⟩
        have SB := Lib.hid (SA.out.draws hwB hcB)
        have XB := Lib.hid (XA.out.but hwB (by omega))
        have SC := Lib.hid (St.set3 (n := p) SB.out hpw (.string r') (.string s') (.int .i64 t'))
        have XC := Lib.hid (XB.out.set3 r' s' t')
        obtain ⟨x0, x1, x2, f0, f1, f2, -⟩ := XB.out
        clear hcB hwB XB SB XA SA
        go_wp2_with fail
        clear x0 x1 x2 f0 f1 f2
        generalize World.setCell _ _ _ = wC at SC XC ⊢
        obtain ⟨x0, x1, x2, -, -, -, -⟩ := XC.out
        have HF := Lib.hid (SC.out.drewN); clear SC
        go_quiet (fail)
        go_wp2_with fail
        refine bodyPost_ret (v := .tuple #[.string r', .string s', .int .i64 t']) (by simp [results, Try.results63, go_sem]) rfl ⟨r', s', t', rfl, hk'.1, hk'.2.1, (HF.out _).cur, (HF.out _).but⟩
    · go_wp2_with fail
      refine (below_any B b _ _ HS3.out.cur (by omega) (by omega)).mono ?_; rintro e w4 ⟨y, rfl, y0, y1, hc4, hw4⟩
      obtain ⟨k, rfl⟩ := Int.eq_ofNat_of_zero_le y0
      have HS4 := Lib.hid (HS3.out.draws hw4 hc4)
      have HX4 := Lib.hid (HX3.out.but hw4 (by omega))
      have HO4 := Lib.hid (HO3.out.but hw4 hC); clear hc4 hw4 HX3 HS3 HO3
      have hkn : k < n := by omega
      obtain ⟨c, hc⟩ : ∃ c, l[k]? = some c := ⟨l[k], List.getElem?_eq_getElem (by omega)⟩
      have hcm := HM.out c (List.mem_of_getElem? hc)
      obtain ⟨a', cap', e', hv, -⟩ := HO4.out.view
      cases e'
      obtain ⟨g, o, rfl, hg, c0, c1, c2, c3, c4⟩ := hv.2.2.2 k c hc
      obtain ⟨x0, x1, x2, f0, f1, f2, -⟩ := HX4.out
      have HS5 := Lib.hid (St.set3 (n := p) HS4.out hpw (.string c.r) (.string c.b) (.int .i64 c.t))
      have HX5 := Lib.hid (HX4.out.set3 c.r c.b c.t)
      have kn : (k : Int) < (l.length : Int) := by omega
      clear HM HO4 hv hc HX4 HS4 y0
      go_wp2_with fail
      clear x0 x1 x2 f0 f1 f2 c0 c1 c2 c3 c4
      generalize World.setCell _ _ _ = w5 at HS5 HX5 ⊢
      obtain ⟨ht0, ht1⟩ := hcm.2.2
      obtain ⟨x0, x1, x2, f0, f1, f2, -⟩ := HX5.out
      go_region_with (first
        | (go_at_call 97
           refine (below_any B b 5 _ (by first | exact HS5.out.drew.cur | exact HS5.out.cur) (by decide) (by decide)).mono ?_
           rintro e w6 ⟨y, rfl, y0, y2, hc6, hw6⟩
           have HS6 := Lib.hid (HS5.out.drew.draws hw6 hc6)
           have HX6 := Lib.hid ((show Kx p c.r c.b c.t w5.drew from HX5.out).but hw6 (by omega))
           obtain ⟨z0, z1, z2, g0, g1, g2, -⟩ := HX6.out
           have s1 : IntKind.i64.wrap (c.t + y) = c.t + y := IntWalk.i64_in _ (by omega)
           have s2 : IntKind.i64.wrap (c.t + y - 2) = c.t + y - 2 := IntWalk.i64_in _ (by omega)
           clear hc6 hw6)
        | (go_at_call 104
           refine (max_any _ _ _).mono ?_
           rintro e w7 ⟨m, rfl, rfl⟩
           have HS7 := Lib.hid (HS6.out.setNew (p := ⟨p, 2, none⟩) hpw (.int .i64 m))
           have HX7 := Lib.hid (HX6.out.set2 m)))
      all_goals clear x0 x1 x2 f0 f1 f2 z0 z1 z2 g0 g1 g2 s1 s2 HS6 HX6
      all_goals generalize w6.setCell ⟨p, 2, none⟩ (.int .i64 m) = w8 at HS7 HX7 ⊢
      · skip
        go_wp2_with fail
        refine (once_any B b _ _ HS7.out.cur (by decide) (by decide)).mono ?_; rintro e wA ⟨qA, rfl, hcA, hwA⟩
        have SA := Lib.hid (HS7.out.draws hwA hcA)
        have XA := Lib.hid (HX7.out.but hwA (by omega)); clear hcA hwA HX7 HS7
        cases qA
        · obtain ⟨x0, x1, x2, -, -, -, -⟩ := XA.out
          have HF := Lib.hid (SA.out.drewN); clear SA
          go_wp2_with fail
          go_quiet (fail)
          go_wp2_with fail
          refine bodyPost_ret (v := .tuple #[.string c.r, .string c.b, .int .i64 m]) (by simp [results, Try.results63, go_sem]) rfl ⟨c.r, c.b, m, rfl, hcm.1, hcm.2.1, (HF.out _).cur, (HF.out _).but⟩
        · go_wp2_with fail
          refine (drawKey_any B b _ SA.out.cur).mono ?_; rintro e wB ⟨r', s', t', rfl, hk', hcB, hwB⟩
          have SB := Lib.hid (SA.out.draws hwB hcB)
          have XB := Lib.hid (XA.out.but hwB (by omega))
          have SC := Lib.hid (St.set3 (n := p) SB.out hpw (.string r') (.string s') (.int .i64 t'))
          have XC := Lib.hid (XB.out.set3 r' s' t')
          obtain ⟨x0, x1, x2, f0, f1, f2, -⟩ := XB.out
          clear hcB hwB XB SB XA SA
          go_wp2_with fail
          clear x0 x1 x2 f0 f1 f2
          generalize World.setCell _ _ _ = wC at SC XC ⊢
          obtain ⟨x0, x1, x2, -, -, -, -⟩ := XC.out
          have HF := Lib.hid (SC.out.drewN); clear SC
          go_quiet (fail)
          go_wp2_with fail
          refine bodyPost_ret (v := .tuple #[.string r', .string s', .int .i64 t']) (by simp [results, Try.results63, go_sem]) rfl ⟨r', s', t', rfl, hk'.1, hk'.2.1, (HF.out _).cur, (HF.out _).but⟩
      · skip
        go_wp2_with fail
        refine (once_any B b _ _ HS7.out.cur (by decide) (by decide)).mono ?_; rintro e wA ⟨qA, rfl, hcA, hwA⟩
        have SA := Lib.hid (HS7.out.draws hwA hcA)
        have XA := Lib.hid (HX7.out.but hwA (by omega)); clear hcA hwA HX7 HS7
        cases qA
        · obtain ⟨x0, x1, x2, -, -, -, -⟩ := XA.out
          have HF := Lib.hid (SA.out.drewN); clear SA
          go_wp2_with fail
          go_quiet (fail)
          go_wp2_with fail
          refine bodyPost_ret (v := .tuple #[.string c.r, .string c.b, .int .i64 m]) (by simp [results, Try.results63, go_sem]) rfl ⟨c.r, c.b, m, rfl, hcm.1, hcm.2.1, (HF.out _).cur, (HF.out _).but⟩
        · go_wp2_with fail
          refine (drawKey_any B b _ SA.out.cur).mono ?_; rintro e wB ⟨r', s', t', rfl, hk', hcB, hwB⟩
          have SB := Lib.hid (SA.out.draws hwB hcB)
          have XB := Lib.hid (XA.out.but hwB (by omega))
          have SC := Lib.hid (St.set3 (n := p) SB.out hpw (.string r') (.string s') (.int .i64 t'))
          have XC := Lib.hid (XB.out.set3 r' s' t')
          obtain ⟨x0, x1, x2, f0, f1, f2, -⟩ := XB.out
          clear hcB hwB XB SB XA SA
          go_wp2_with fail
          clear x0 x1 x2 f0 f1 f2
          generalize World.setCell _ _ _ = wC at SC XC ⊢
          obtain ⟨x0, x1, x2, -, -, -, -⟩ := XC.out
          have HF := Lib.hid (SC.out.drewN); clear SC
          go_quiet (fail)
          go_wp2_with fail
          refine bodyPost_ret (v := .tuple #[.string r', .string s', .int .i64 t']) (by simp [results, Try.results63, go_sem]) rfl ⟨r', s', t', rfl, hk'.1, hk'.2.1, (HF.out _).cur, (HF.out _).but⟩
/-- A list and a place, in a world that has only grown. -/
def DrewF (w : World) (e : Ending) (w' : World) : Prop := ∃ (x : Value) (l : List Cel) (r s : ByteArray) (t : Int), e = .returned (.tuple #[x, .string r, .string s, .int .i64 t]) ∧ OwC w.heap.size w' x l ∧ l.length ≤ 250 ∧ Smalls l ∧ r.size ≤ 9 ∧ s.size ≤ 9 ∧ Below w.heap.size w w'
set_option maxRecDepth 100000 in
set_option maxHeartbeats 2000000 in
theorem drawFind_any (w : World) (a : Option Addr) (len cap : Nat) (hb : IsBytes w a len) (hl : len ≤ 4096) : Calls Try.prog 19 #[.slice a len cap] w (DrewF w) := by
  have HB := Lib.hid hb; clear hb
  go_enter Try.func19, Try.ntmps19
  go_wp2_with fail
  refine (new_any _ a len cap HB.out hl).mono ?_; rintro e w1 ⟨b, rfl, hc1, hw1⟩
  have hbw : w.heap.size ≤ b := hc1.le
  have B1 := Lib.hid hw1
  have HC := Lib.hid hc1; clear hw1 hc1
  have hlt1 : b < w1.heap.size := HC.out.lt
  go_wp2_with fail
  refine (drawCells_any _ b _ HC.out).mono ?_; rintro e w2 ⟨x, l, rfl, o2, hl2, hs, hc2, hw2⟩
  have B2 := Lib.hid (B1.out.trans (hw2.below (B := w.heap.size) (by omega) B1.out.size))
  have HC2 := Lib.hid hc2
  have HO2 := Lib.hid o2; clear hc2 hw2 o2 B1 HC
  have HM := Lib.hid hs; clear hs
  go_wp2_with fail
  refine (drawAt_any _ b w2 x l HC2.out HO2.out hlt1 (by omega) HM.out).mono ?_; rintro e w3 ⟨r, s, t, rfl, hr, hs, hc3, hw3⟩
  have B3 := Lib.hid (B2.out.trans (hw3.below (B := w.heap.size) (by omega) B2.out.size))
  have HO3 := Lib.hid (HO2.out.but hw3 hlt1); clear hc3 hw3 HO2 B2 HC2
  go_wp2_with fail
  refine bodyPost_ret (v := .tuple #[x, .string r, .string s, .int .i64 t]) (by simp [results, Try.results19, go_sem]) rfl ⟨x, l, r, s, t, rfl, HO3.out.mono (by omega), hl2, HM.out, hr, hs, B3.out⟩
end Go.Proofs.Ytkkpokfekbdigaa.Cl
