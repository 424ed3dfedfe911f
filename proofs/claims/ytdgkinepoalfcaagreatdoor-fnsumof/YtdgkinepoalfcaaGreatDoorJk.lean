/-
  Draws of bins: spec.l7Draw, l7DrawAny (split out of Jf).
-/
import Derived.Test.YtdgkinepoalfcaaGreatDoorJc
import Derived.Test.YtdgkinepoalfcaaGreatDoorKs
import Derived.Test.YtdgkinepoalfcaaGreatDoorDg
namespace Go.Proofs.YtdgkinepoalfcaaGreatDoor.Cl
open Go.RowKit Wd Rp Cu Kp
set_option linter.unusedVariables false
theorem OwI.but {B b : Nat} {w w' : World} {v : Value} {l : List Bi} (h : OwI B w v l) (hb : But b w w') (hB : b < B) : OwI B w' v l :=
  row_next h fun g hg hlt => hb.block g hlt (by have := OwI.lt h g hg; omega)
def SmI (l : List Bi) : Prop := ∀ c ∈ l, c.n.size ≤ 9
theorem SmI.app {l m : List Bi} (h : SmI l) (h' : SmI m) : SmI (l ++ m) := fun c hc => by
  rcases List.mem_append.1 hc with e | e
  · exact h c e
  · exact h' c e
theorem SmI.one {c : Bi} (h : c.n.size ≤ 9) : SmI [c] := fun d hd => by
  rcases List.mem_cons.1 hd with e | e
  · subst e; exact h
  · cases e
theorem st7_le (l : List Bi) (n : ByteArray) (x : Int) : (st7 l n x).1.length ≤ l.length + 1 := by
  have := stI_len l n x
  unfold st7
  split
  · show (stI l n x).length ≤ _; rw [this]; split <;> omega
  · split
    · show l.length ≤ _; omega
    · show (stI l n x).length ≤ _; rw [this]; split <;> omega
theorem st7_sm {l : List Bi} {n : ByteArray} {x : Int} (h : SmI l) (hn : n.size ≤ 9) : SmI (st7 l n x).1 := by
  have hs : SmI (stI l n x) := by
    unfold stI behI
    refine SmI.app (fun c hc => h c (List.mem_of_mem_take hc)) (SmI.app (SmI.one hn) (fun c hc => h c (List.mem_of_mem_drop hc)))
  unfold st7
  split
  · exact hs
  · split
    · exact h
    · exact hs
theorem nm_small {s : ByteArray} (h : nmB s.data.toList = true) : s.size ≤ 9 := by
  unfold nmB at h
  simp only [Bool.and_eq_true, decide_eq_true_eq] at h
  have h1 := h.1
  have h2 := h.2
  have h3 := llen s
  simp only [llen] at *
  omega
theorem st_nextI {w0 w w' : World} {B b : Nat} (h : St w0 B b w) (hb : Below w.heap.size w w') : St w0 B b w' :=
  ⟨h.but.below' hb, h.cur.carry (fun k hk => hb.block k (by have := h.cur.le; have := h.cur.lt; omega)) (hb.block b h.cur.lt), h.lt⟩
theorem st_low {w0 w w' : World} {B b : Nat} (h : St w0 B b w) (hb : Below w0.heap.size w w') : St w0 B b w' :=
  ⟨⟨hb.os.trans h.but.os, hb.tape.trans h.but.tape, hb.output.trans h.but.output, Nat.le_trans h.but.size hb.size, fun k hk hne => (hb.block k hk).trans (h.but.block k hk hne)⟩,
   h.cur.carry (fun k hk => hb.block k (by have := h.cur.le; have := h.lt; omega)) (hb.block b h.lt), h.lt⟩
/-- Bins drawn, at most n of them. -/
def DrawsI (n : Nat) (B b : Nat) (w : World) (e : Ending) (w' : World) : Prop := ∃ (v : Value) (l : List Bi), e = .returned v ∧ OwI w.heap.size w' v l ∧ l.length ≤ n ∧ SmI l ∧ Cur B b w' ∧ But b w w'
set_option maxRecDepth 100000 in
set_option maxHeartbeats 4000000 in
theorem drawI_any (B b : Nat) (w : World) (hc : Cur B b w) : Calls Tryz.prog 38 #[.pointer (some ⟨b, 0, none⟩)] w (DrawsI 5 B b w) := by
  have hlt := hc.lt
  have HS := Lib.hid (St.alloc ⟨But.refl b w, hc, hlt⟩ : ∀ o, St w B b (w.alloc o)); clear hc
  have HO := Lib.hid (OwI.start (B := w.heap.size) (w := w) (Nat.le_refl _))
  go_enter Tryz.func38, Tryz.ntmps38
  go_wp2_with fail
  refine (below_any B b _ _ (HS.out _).cur (by decide) (by decide)).mono ?_; rintro e w1 ⟨y, rfl, y0, y1, hc1, hw1⟩
  have HO1 := Lib.hid (HO.out.but hw1 hlt)
  have HS1 := Lib.hid ((HS.out _).draws hw1 hc1); clear hw1 hc1 HO HS
  obtain ⟨m, rfl⟩ := Int.eq_ofNat_of_zero_le y0
  go_wp2_with fail
  go_loopw [3, 4] (fun x i wr => ∃ (k : Nat) (l : List Bi), i = .int .i64 (k : Int) ∧ l.length + k ≤ 5 ∧ OwI w.heap.size wr x l ∧ SmI l ∧ St w B b wr) (fun _ i _ => intV i)
  case atStart => exact ⟨m, [], rfl, by simp; omega, HO1.out, (fun c hc => by cases hc), HS1.out⟩
  case round =>
    clear HO1 HS1
    obtain ⟨k, l, rfl, hk, ho, hs, hst⟩ := hrel
    have HO := Lib.hid ho; clear ho
    have HM := Lib.hid hs; clear hs
    have HS := Lib.hid hst; clear hst
    by_cases hp : 0 < k
    · have i1 : (0 : Int) < (k : Int) := by omega
      go_wp2_with fail
      refine (drawName_any B b _ HS.out.cur).mono ?_; rintro e w2 ⟨s, rfl, hnm, hc2, hw2⟩
      have HO2 := Lib.hid (HO.out.but hw2 hlt)
      have HS2 := Lib.hid (HS.out.draws hw2 hc2); clear hw2 hc2
      have HN := Lib.hid (nm_small hnm); clear hnm
      go_wp2_with fail
      refine (drawWord_any B b _ HS2.out.cur).mono ?_; rintro e w3 ⟨v, rfl, v0, v1, hc3, hw3⟩
      have HO3 := Lib.hid (HO2.out.but hw3 hlt)
      have HS3 := Lib.hid (HS2.out.draws hw3 hc3); clear hw3 hc3
      have HL := Lib.hid (l7Set_any w3 _ l s v HO3.out HS3.out.size (by omega))
      have HLE := Lib.hid (st7_le l s v)
      have HSM := Lib.hid (st7_sm (x := v) HM.out HN.out)
      generalize st7 l s v = p at *
      obtain ⟨pl, pb⟩ := p
      go_wp2_with fail
      refine HL.out.mono ?_; rintro e w4 ⟨v4, rfl, o4, b4⟩
      have HO4 := Lib.hid o4
      have HS4 := Lib.hid (st_low HS3.out b4); clear o4 b4
      have i2 : (k : Int) - 1 = ((k - 1 : Nat) : Int) := by omega
      go_wp2_with fail
      go_roundw
      case rel => exact ⟨k - 1, _, by go_num, by have : pl.length ≤ l.length + 1 := HLE.out; omega, HO4.out, HSM.out, HS4.out⟩
      case measure => simp [intV]; omega
    · obtain rfl : k = 0 := by omega
      go_wp2_with fail
      go_ret
      exact ⟨_, l, rfl, HO.out, by omega, HM.out, HS.out.cur, HS.out.but⟩
theorem one_size (x : Int) : (one x).size = 1 := rfl
set_option maxRecDepth 100000 in
set_option maxHeartbeats 8000000 in
theorem drawAnyI_any (B b : Nat) (w : World) (hc : Cur B b w) : Calls Tryz.prog 15 #[.pointer (some ⟨b, 0, none⟩)] w (DrawsI 20 B b w) := by
  have hlt := hc.lt
  have hT : Tryz.prog.underlying 25 = some (.slice 58) := Tryz.underlying25
  have HS := Lib.hid (⟨But.refl b w, hc, hlt⟩ : St w B b w); clear hc
  go_enter Tryz.func15, Tryz.ntmps15
  go_wp2_with fail
  refine (drawI_any B b _ HS.out.cur).mono ?_; rintro e w1 ⟨v1, l1, rfl, o1, n1, s1, hc1, hw1⟩
  have HO1 := Lib.hid o1
  have HM1 := Lib.hid s1
  have HS1 := Lib.hid (HS.out.draws hw1 hc1); clear o1 s1 hc1 hw1 HS
  go_wp2_with fail
  refine (once_any B b _ _ HS1.out.cur (by decide) (by decide)).mono ?_; rintro e w2 ⟨q, rfl, hc2, hw2⟩
  have HO2 := Lib.hid (HO1.out.but hw2 hlt)
  have HS2 := Lib.hid (HS1.out.draws hw2 hc2); clear hc2 hw2 HO1 HS1
  cases q
  · go_wp2_with fail
    go_ret
    exact ⟨_, l1, rfl, HO2.out, by omega, HM1.out, HS2.out.cur, HS2.out.but⟩
  go_wp2_with fail
  refine (below_any B b _ _ HS2.out.cur (by decide) (by decide)).mono ?_; rintro e w3 ⟨y, rfl, y0, y1, hc3, hw3⟩
  have HO3 := Lib.hid (HO2.out.but hw3 hlt)
  have HS3 := Lib.hid (HS2.out.draws hw3 hc3); clear hc3 hw3 HO2 HS2
  have hy : y = 0 ∨ y = 1 ∨ y = 2 := by omega
  rcases hy with rfl | rfl | rfl
  · go_wp2_with fail
    refine (drawNameAny_any B b _ HS3.out.cur).mono ?_; rintro e w4 ⟨s, rfl, hs, hc4, hw4⟩
    have HO4 := Lib.hid (HO3.out.but hw4 hlt)
    have HS4 := Lib.hid (HS3.out.draws hw4 hc4); clear hc4 hw4 HO3 HS3
    go_wp2_with fail
    refine (drawAny_any B b _ HS4.out.cur).mono ?_; rintro e w5 ⟨v, rfl, v0, v1', hc5, hw5⟩
    have HO5 := Lib.hid (HO4.out.but hw5 hlt)
    have HS5 := Lib.hid (HS4.out.draws hw5 hc5); clear hc5 hw5 HO4 HS4
    have hsz := HS5.out.size
    go_wp2_with (first
      | (at_builtin; refine append_binsT rfl (.tmp 13) (.tmp 19) 25 hT rfl (base := w.heap.size) (l := l1) (m := [(⟨s, v⟩ : Bi)]) rfl rfl rfl (HO5.out.next (bel1 _ _)) (VwI.lit w5 ⟨s, v⟩) (by simp; omega) (by simp; omega) ?_; intro v9 w9 o9 g9; have O9 := Lib.hid (And.intro o9 g9); clear o9 g9))
    go_ret
    exact ⟨_, _, rfl, O9.out.1, by simp; omega, HM1.out.app (SmI.one hs), ((HS5.out.alloc _).grown O9.out.2 (fun j hj => OwI.lt HO5.out j hj)).cur, ((HS5.out.alloc _).grown O9.out.2 (fun j hj => OwI.lt HO5.out j hj)).but⟩
  · have hsz := HS3.out.size
    obtain ⟨va, vc, ev, hvw⟩ := HO3.out.view
    subst ev
    go_wp2_with (first
      | (at_builtin; refine append_binsT rfl (.tmp 23) (.tmp 24) 25 hT rfl (base := w.heap.size) (l := l1) (m := l1) rfl rfl rfl HO3.out hvw (by omega) (by omega) ?_; intro v9 w9 o9 g9; have O9 := Lib.hid (And.intro o9 g9); clear o9 g9))
    go_ret
    exact ⟨_, _, rfl, O9.out.1, by simp; omega, HM1.out.app HM1.out, (HS3.out.grown O9.out.2 (fun j hj => OwI.lt HO3.out j hj)).cur, (HS3.out.grown O9.out.2 (fun j hj => OwI.lt HO3.out j hj)).but⟩
  · clear HO3 HM1
    have KC := conv_one
    go_wp2_with fail
    go_loopw [3, 4] (fun x i wr => ∃ (k : Nat) (l : List Bi), i = .int .i64 (k : Int) ∧ k ≤ 13 ∧ l.length = k ∧ OwI w.heap.size wr x l ∧ SmI l ∧ St w B b wr) (fun _ i _ => 13 - intV i)
    case atStart => exact ⟨0, [], rfl, by decide, rfl, OwI.start HS3.out.size, (fun c hc => by cases hc), HS3.out.alloc _⟩
    case round =>
      clear HS3
      obtain ⟨k, l, rfl, hk, hlk, ho, hs, hst⟩ := hrel
      have HO := Lib.hid ho; clear ho
      have HM := Lib.hid hs; clear hs
      have HS := Lib.hid hst; clear hst
      go_wp2_with fail
      refine (below_any B b _ _ HS.out.cur (by decide) (by decide)).mono ?_; rintro e w6 ⟨x, rfl, x0, x1, hc6, hw6⟩
      have HO6 := Lib.hid (HO.out.but hw6 hlt)
      have HS6 := Lib.hid (HS.out.draws hw6 hc6); clear hc6 hw6 HO HS
      have hsz := HS6.out.size
      by_cases hlt2 : (k : Int) < 12 + x
      · have u1 : IntKind.u8.wrap (k : Int) = (k : Int) := by rw [IntKind.wrap_u8]; omega
        have u2 : IntKind.u8.wrap (100 + (k : Int)) = 100 + (k : Int) := by rw [IntKind.wrap_u8]; omega
        have HA := Lib.hid (bel1 w6 (.cells #[.int .u8 (100 + (k : Int))] 5))
        have HB2 := Lib.hid (bel_tr HA.out (bel1 (w6.alloc (.cells #[.int .u8 (100 + (k : Int))] 5)) (.cells #[.string (one (100 + (k : Int))), .int .i64 (k : Int)] 58)) (Nat.le_refl _))
        have HV := Lib.hid (VwI.lit (w6.alloc (.cells #[.int .u8 (100 + (k : Int))] 5)) ⟨one (100 + (k : Int)), (k : Int)⟩)
        have zz : (w6.alloc (.cells #[.int .u8 (100 + (k : Int))] 5)).heap.size = w6.heap.size + 1 := by simp
        rw [zz] at HV
        have HO7 := Lib.hid (HO6.out.next HB2.out)
        have T1 : l.length + [(⟨one (100 + (k : Int)), (k : Int)⟩ : Bi)].length ≤ 10000000 := by simp; omega
        have T2 := Nat.le_trans hsz HB2.out.size
        have HS7 := Lib.hid (st_nextI HS6.out HB2.out)
        go_wp2_with (first
          | (at_builtin; refine append_binsT rfl (.tmp 36) (.tmp 44) 25 hT rfl (base := w.heap.size) (l := l) (m := [(⟨one (100 + (k : Int)), (k : Int)⟩ : Bi)]) rfl rfl rfl HO7.out HV.out T1 T2 ?_; intro v9 w9 o9 g9; have O9 := Lib.hid (And.intro o9 g9); clear o9 g9))
        go_roundw
        case rel => exact ⟨k + 1, _, by go_num, by omega, by rw [List.length_append, hlk]; rfl, O9.out.1, HM.out.app (SmI.one (by show (one (100 + (k : Int))).size ≤ 9; rw [one_size]; decide)), HS7.out.grown O9.out.2 (fun j hj => OwI.lt HO7.out j hj)⟩
        case measure => simp [intV]; omega
      · go_wp2_with fail
        go_ret
        exact ⟨_, l, rfl, HO6.out, by omega, HM.out, HS6.out.cur, HS6.out.but⟩
end Go.Proofs.YtdgkinepoalfcaaGreatDoor.Cl
