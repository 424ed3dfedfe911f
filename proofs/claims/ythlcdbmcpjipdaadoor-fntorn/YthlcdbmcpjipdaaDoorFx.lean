/-
  Contracts of the draws of files and texts (spec.l3Draw, DrawMark, DrawFramesIn, DrawFramed, DrawAppended): some text of bounded size; nothing that was there turns.
-/
import Derived.Test.YthlcdbmcpjipdaaDoorCz
import Derived.Test.YthlcdbmcpjipdaaDoorFf
import Derived.Laws.OwnMore
import Derived.RegionTactic
import Derived.BigRegion
namespace Go.Proofs.YthlcdbmcpjipdaaDoor.Fq
open Go.RowKit Wd Rp Kp Cu
set_option linter.unusedVariables false
set_option maxHeartbeats 2000000 in
theorem l3Draw_any (B b : Nat) (w : World) (hc : Cur B b w) : Calls Tryd.prog 27 #[.pointer (some ⟨b, 0, none⟩)] w (DrawsT B b w 2000) := by
  have HS := Lib.hid (St.start hc); clear hc
  go_enter Tryd.func27, Tryd.ntmps27
  go_wp2_with fail
  refine (below_any B b _ _ HS.out.cur (by decide) (by decide)).mono ?_; rintro e w1 ⟨n0, rfl, n00, n01, hc1, hw1⟩
  have HS1 := Lib.hid (HS.out.draws hw1 hc1); clear hc1 hw1
  go_wp2_with fail
  go_loopw [3, 4] (fun s n wr => ∃ (t : ByteArray) (m : Int), s = .string t ∧ n = .int .i64 m ∧ 0 ≤ m ∧ m ≤ 4 ∧ (t.size : Int) + 400 * m ≤ 1600 ∧ St w B b wr) (fun _ n _ => (intOf n).toNat)
  case atStart => exact ⟨⟨#[]⟩, n0, rfl, rfl, n00, by omega, by show (0 : Int) + _ ≤ _; omega, HS1.out⟩
  case round =>
    obtain ⟨t, m, rfl, rfl, m0, m1, hsz, hst⟩ := hrel
    have HT := Lib.hid hst; clear hst HS HS1 n00 n01
    by_cases hm : 0 < m
    · have hlt : b < wr.heap.size := HT.out.cur.lt
      go_wp2_with fail
      refine (below_any B b _ _ (HT.out.alloc _).cur (by decide) (by decide)).mono ?_; rintro e w2 ⟨y, rfl, y0, y1, hc2, hw2⟩
      obtain ⟨j, rfl⟩ := Int.eq_ofNat_of_zero_le y0
      have HT2 := Lib.hid ((HT.out.alloc _).draws hw2 hc2)
      have hp := pick_lit hlt hw2 j
      obtain ⟨x, hx, hx9⟩ : ∃ x : ByteArray, w2.cell? ⟨wr.heap.size, j, none⟩ = some (.string x) ∧ x.size ≤ 9 := by
        have hj : j < 5 := by omega
        match j, hj, hp with
        | 0, _, hp => exact ⟨_, hp, by decide⟩
        | 1, _, hp => exact ⟨_, hp, by decide⟩
        | 2, _, hp => exact ⟨_, hp, by decide⟩
        | 3, _, hp => exact ⟨_, hp, by decide⟩
        | 4, _, hp => exact ⟨_, hp, by decide⟩
      clear hp hc2 hw2
      have j1 : (j : Int) < 5 := by omega
      go_wp2_with fail
      refine (l3Frame_any x w2 (by omega)).mono ?_; rintro e w3 ⟨rfl, b3⟩
      have HT3 := Lib.hid (HT2.out.next b3); clear b3
      have hz : (tx (fr x.data.toList)).size ≤ 311 := by
        rw [tx_size]
        have h1 := hd_len (l := x.data.toList) (by rw [llen]; omega)
        rw [fr_hd, List.length_append]; simpa using h1
      generalize tx (fr x.data.toList) = z at hz
      have hsum : ¬ 9223372036854775807 < t.size + z.size := by omega
      go_wp2_with fail
      go_roundw
      case rel => exact ⟨t ++ z, m - 1, rfl, rfl, by omega, by omega, by rw [ByteArray.size_append]; omega, HT3.out⟩
      case measure => simp [intOf]; omega
    · go_wp2_with fail
      refine (once_any B b _ _ HT.out.cur (by decide) (by decide)).mono ?_; rintro e w2 ⟨q, rfl, hc2, hw2⟩
      have HT2 := Lib.hid (HT.out.draws hw2 hc2); clear hc2 hw2
      cases q
      · go_wp2_with fail
        go_ret
        exact ⟨t, rfl, by omega, HT2.out.cur, HT2.out.but⟩
      · go_wp2_with fail
        refine (bend_any B b t ⟨#[48, 97, 32, 10]⟩ _ HT2.out.cur (by omega) (by decide) (by decide)).mono ?_; rintro e w3 ⟨y, rfl, hy, hc3, hw3⟩
        have HT3 := Lib.hid (HT2.out.draws hw3 hc3); clear hc3 hw3
        go_wp2_with fail
        go_ret
        exact ⟨y, rfl, by omega, HT3.out.cur, HT3.out.but⟩
theorem drawMark_any (w : World) (a : Option Addr) (len cap : Nat) (hb : IsBytes w a len) (hl : len ≤ 4096) : Calls Tryd.prog 14 #[.slice a len cap] w (DrewT 2000 w) := by
  have HB := Lib.hid hb; clear hb
  go_enter Tryd.func14, Tryd.ntmps14
  go_wp2_with fail
  refine (new_any w a len cap HB.out hl).mono ?_; rintro e w1 ⟨b, rfl, hc1, b1⟩
  go_wp2_with fail
  refine (l3Draw_any _ b _ hc1).mono ?_; rintro e w2 ⟨s, rfl, hs, hc2, hw2⟩
  have hB := Lib.hid (b1.trans (hw2.below hc1.le b1.size)); clear b1 hc1 hw2 hc2
  go_wp2_with fail
  go_ret
  exact ⟨s, rfl, hs, hB.out⟩
theorem drawFramesIn_any (w : World) (a : Option Addr) (len cap : Nat) (hb : IsBytes w a len) (hl : len ≤ 4096) : Calls Tryd.prog 11 #[.slice a len cap] w (DrewT 2000 w) := by
  have HB := Lib.hid hb; clear hb
  go_enter Tryd.func11, Tryd.ntmps11
  go_wp2_with fail
  refine (new_any w a len cap HB.out hl).mono ?_; rintro e w1 ⟨b, rfl, hc1, b1⟩
  go_wp2_with fail
  refine (l3Draw_any _ b _ hc1).mono ?_; rintro e w2 ⟨s, rfl, hs, hc2, hw2⟩
  have hB := Lib.hid (b1.trans (hw2.below hc1.le b1.size)); clear b1 hc1 hw2 hc2
  go_wp2_with fail
  go_ret
  exact ⟨s, rfl, hs, hB.out⟩
theorem make_text (n : Nat) (hn : n ≤ 1000) (w : World) : ∃ (w' : World) (t : ByteArray), Sem.run Tryd.prog (Instr.makeSlice 22 (.int .i64 (n : Int)) (.int .i64 (n : Int))) w = .ok (.slice (some ⟨w.heap.size, 0, none⟩) n n) w' ∧
    Sem.run Tryd.prog (convert 22 9 (Value.slice (some ⟨w.heap.size, 0, none⟩) n n)) w' = .ok (.string t) w' ∧ t.size = n ∧ Below w.heap.size w w' := by
  obtain ⟨i0, hi, hz0, hz1, hz2⟩ := info_parts info5
  obtain ⟨w', hrun, hown, hgr⟩ := run_make_full (P := Tryd.prog) w w.heap.size 22 5 i0 (.int .u8 0) 1 Tryd.underlying22 hi hz0 hz1 .i64 .i64 n (by rw [hz2]; omega) (by unfold maxLen; omega) (Nat.le_refl _)
  have hcells : ∀ i, i < n → w'.cell? ⟨w.heap.size, 0 + i, none⟩ = some (.int .u8 ((List.replicate n (0 : Int)).getD i 0)) := fun i hi' => by
    have h := hown.cellAt i (by omega)
    rw [Nat.zero_add, h]
    have e : (madeCells (Value.int IntKind.u8 0).cells (n * 1)).toList = List.replicate (n * 1) (.int .u8 0) := toList_madeCells_one _ _
    rw [e, Nat.mul_one]
    simp [hi']
  have hc := run_convert_bytes_arg (P := Tryd.prog) w' 22 5 Tryd.underlying22 Tryd.underlying5 w.heap.size 0 n n (List.replicate n 0) (by simp) hcells 9 Tryd.underlying9
  refine ⟨w', _, hrun, hc, ?_, (Below.refl _ _).grown hgr (Nat.le_refl _) (fun k hk => by cases hk)⟩
  rw [Lib.size_eq]; simp [strOfNums]
set_option maxHeartbeats 2000000 in
theorem drawFramed_any (w : World) (a : Option Addr) (len cap : Nat) (hb : IsBytes w a len) (hl : len ≤ 4096) : Calls Tryd.prog 13 #[.slice a len cap] w (DrewT 2000 w) := by
  have HB := Lib.hid hb; clear hb
  go_enter Tryd.func13, Tryd.ntmps13
  go_wp2_with fail
  refine (new_any w a len cap HB.out hl).mono ?_; rintro e w1 ⟨b, rfl, hc1, b1⟩
  have B1 := Lib.hid b1; clear b1
  go_wp2_with fail
  refine (once_any _ b _ _ hc1 (by decide) (by decide)).mono ?_; rintro e w2 ⟨q, rfl, hc2, hw2⟩
  have B2 := Lib.hid (B1.out.trans (hw2.below hc1.le B1.out.size)); clear hc1 hw2
  cases q
  · have hlt : b < w2.heap.size := hc2.lt
    have HC2 := Lib.hid hc2; clear hc2
    have hB2 := B2.out.size
    go_wp2_with fail
    refine (below_any _ b _ _ (HC2.out.alloc _) (by decide) (by decide)).mono ?_; rintro e w3 ⟨y, rfl, y0, y1, hc3, hw3⟩
    obtain ⟨j, rfl⟩ := Int.eq_ofNat_of_zero_le y0
    have hp := pick_lit hlt hw3 j
    obtain ⟨x, hx, hx9⟩ : ∃ x : ByteArray, w3.cell? ⟨w2.heap.size, j, none⟩ = some (.string x) ∧ x.size ≤ 9 := by
      have hj : j < 4 := by omega
      match j, hj, hp with
      | 0, _, hp => exact ⟨_, hp, by decide⟩
      | 1, _, hp => exact ⟨_, hp, by decide⟩
      | 2, _, hp => exact ⟨_, hp, by decide⟩
      | 3, _, hp => exact ⟨_, hp, by decide⟩
    have B3 := Lib.hid ((B2.out.alloc hB2 _).trans (hw3.below HC2.out.le (by simp; omega)))
    clear hp hc3 hw3
    have j1 : (j : Int) < 4 := by omega
    go_wp2_with fail
    go_ret
    exact ⟨x, rfl, by omega, B3.out⟩
  · go_wp2_with fail
    refine (below_any _ b _ _ hc2 (by decide) (by decide)).mono ?_; rintro e w3 ⟨y, rfl, y0, y1, hc3, hw3⟩
    have B3 := Lib.hid (B2.out.trans (hw3.below hc2.le B2.out.size)); clear hc2 hw3 hc3
    obtain ⟨n, hn⟩ : ∃ n : Nat, 300 + y = (n : Int) := Int.eq_ofNat_of_zero_le (by omega)
    have hn2 : n ≤ 301 := by omega
    obtain ⟨w4, t, hr1, hr2, ht, b4⟩ := make_text n (by omega) w3
    have B4 := Lib.hid (bel_tr B3.out b4 (Nat.le_refl _)); clear b4
    have HTS := Lib.hid ht; clear ht
    go_wp2_with fail
    go_ret
    exact ⟨t, rfl, by rw [HTS.out]; omega, B4.out⟩
theorem ap_pick (j : Nat) (hj : j < 4) : ∃ x : ByteArray, x.size ≤ 9 ∧ (#[.string ⟨#[]⟩, .string ⟨#[98]⟩, .string ⟨#[97, 10, 98]⟩, .string ⟨#[109, 111, 114, 101]⟩] : Array Value)[j]? = some (.string x) := by
  match j, hj with
  | 0, _ => exact ⟨_, by decide, rfl⟩
  | 1, _ => exact ⟨_, by decide, rfl⟩
  | 2, _ => exact ⟨_, by decide, rfl⟩
  | 3, _ => exact ⟨_, by decide, rfl⟩
theorem cell_new (w : World) (vs : Array Value) (T j : Nat) : (w.alloc (.cells vs T)).cell? ⟨w.heap.size, j, none⟩ = vs[j]? := by
  have hp : (w.alloc (.cells vs T)).heap[w.heap.size]? = some (.cells vs T) := by show (w.heap.push _)[w.heap.size]? = _; simp
  simp only [World.cell?, hp]; rfl
/-- Two drawn texts. -/
def DrewTT (n m : Nat) (w : World) (e : Ending) (w' : World) : Prop := ∃ s t : ByteArray, e = .returned (.tuple #[.string s, .string t]) ∧ s.size ≤ n ∧ t.size ≤ m ∧ Below w.heap.size w w'
set_option maxHeartbeats 2000000 in
theorem drawAppended_any (w : World) (a : Option Addr) (len cap : Nat) (hb : IsBytes w a len) (hl : len ≤ 4096) : Calls Tryd.prog 9 #[.slice a len cap] w (DrewTT 2000 9 w) := by
  have HB := Lib.hid hb; clear hb
  go_enter Tryd.func9, Tryd.ntmps9
  go_wp2_with fail
  refine (new_any w a len cap HB.out hl).mono ?_; rintro e w1 ⟨b, rfl, hc1, b1⟩
  have B1 := Lib.hid b1; clear b1
  go_wp2_with fail
  refine (l3Draw_any _ b _ hc1).mono ?_; rintro e w2 ⟨s, rfl, hs, hc2, hw2⟩
  have B2 := Lib.hid (B1.out.trans (hw2.below hc1.le B1.out.size)); clear hc1 hw2
  have hlt : b < w2.heap.size := hc2.lt
  have HC2 := Lib.hid hc2; clear hc2
  have hB2 := B2.out.size
  go_wp2_with fail
  go_region_with (first
    | (go_at_call 28
       refine (below_any w.heap.size b 4 _ (by first | exact HC2.out.drew | exact (HC2.out.drew.alloc _) | exact (HC2.out.alloc _).drew) (by decide) (by decide)).mono ?_
       rintro e w3 ⟨y, rfl, y0, y1, hc3, hw3⟩
       obtain ⟨j, rfl⟩ := Int.eq_ofNat_of_zero_le y0
       obtain ⟨x, hx9, hv⟩ := ap_pick j (by omega)
       have j1 : (j : Int) < 4 := by omega
       have hq : ∀ T, (w3.alloc (.cells #[.string ⟨#[]⟩, .string ⟨#[98]⟩, .string ⟨#[97, 10, 98]⟩, .string ⟨#[109, 111, 114, 101]⟩] T)).cell? ⟨w3.heap.size, j, none⟩ = some (.string x) := fun T => (cell_new w3 _ T j).trans hv
       try (have hp : w3.cell? ⟨w2.heap.size, j, none⟩ = some (.string x) := (pick_lit (w := w2.drew) hlt hw3 j).trans hv)))
  · have B3 := Lib.hid ((B2.out.drew.alloc hB2 _).trans (hw3.below HC2.out.le (by simp; omega)))
    clear hw3 hc3 hq hv hp
    go_wp2_with fail
    refine bodyPost_ret (v := .tuple #[.string s, .string x]) (by simp [results, Tryd.results9, go_sem]) rfl ⟨s, x, rfl, hs, hx9, B3.out⟩
  · have B3 := B2.out.drew.trans (hw3.below HC2.out.le hB2)
    have B4 := Lib.hid (fun o => B3.alloc B3.size o); clear B3
    clear hw3 hc3 hq hv
    go_wp2_with fail
    refine bodyPost_ret (v := .tuple #[.string s, .string x]) (by simp [results, Tryd.results9, go_sem]) rfl ⟨s, x, rfl, hs, hx9, B4.out _⟩
end Go.Proofs.YthlcdbmcpjipdaaDoor.Fq
