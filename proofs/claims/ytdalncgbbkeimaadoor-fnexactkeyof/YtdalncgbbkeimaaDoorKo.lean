/-
  The contract of spec.KeyOf: it gives 'kof' of the text's bytes; nothing that was there turns.
-/
import Derived.Test.YtdalncgbbkeimaaDoorSp
import Derived.Test.YtdalncgbbkeimaaDoorKy
import Derived.Deep.RegionHeld3
namespace Go.Proofs.YtdalncgbbkeimaaDoor.Kp
open Go.RowKit Wd Rp
/-- What KeyOf gives, as a value. -/
def kofV : Option (List UInt8 × List UInt8 × Int) → Value
  | some (a, b, t) => .tuple #[.agg #[.string (tx a), .string (tx b), .int .i64 t], .bool true]
  | none => .tuple #[.agg #[.string ⟨#[]⟩, .string ⟨#[]⟩, .int .i64 0], .bool false]
def KofPost (s : ByteArray) (w : World) (e : Ending) (w' : World) : Prop := e = .returned (kofV (kof s.data.toList)) ∧ Below w.heap.size w w'
/-- Block n is a key of this call's own, of value zero. -/
def Zb (n : Nat) (w : World) : Prop := w.cell? ⟨n, 0, none⟩ = some (.string ⟨#[]⟩) ∧ w.cell? ⟨n, 1, none⟩ = some (.string ⟨#[]⟩) ∧ w.cell? ⟨n, 2, none⟩ = some (.int .i64 0) ∧ w.frozen? ⟨n, 0, none⟩ = false ∧ w.frozen? ⟨n, 1, none⟩ = false ∧ w.frozen? ⟨n, 2, none⟩ = false ∧ n < w.heap.size
theorem Zb.made (w : World) (T : Nat) : Zb w.heap.size (w.alloc (.cells #[.string ⟨#[]⟩, .string ⟨#[]⟩, .int .i64 0] T)) := by
  have hp : (w.alloc (.cells #[.string ⟨#[]⟩, .string ⟨#[]⟩, .int .i64 0] T)).heap[w.heap.size]? = some (.cells #[.string ⟨#[]⟩, .string ⟨#[]⟩, .int .i64 0] T) := by show (w.heap.push _)[w.heap.size]? = _; simp
  refine ⟨?_, ?_, ?_, ?_, ?_, ?_, by simp⟩ <;> (first | (simp only [World.cell?, hp]; rfl) | (simp only [World.frozen?, hp]; rfl))
theorem Zb.next {n : Nat} {w w' : World} (h : Zb n w) (hb : Below w.heap.size w w') : Zb n w' := by
  obtain ⟨h0, h1, h2, f0, f1, f2, h3⟩ := h
  have e : w'.heap[n]? = w.heap[n]? := hb.block n h3
  exact ⟨(World.cell?_of_block (w := w) e).trans h0, (World.cell?_of_block (w := w) e).trans h1, (World.cell?_of_block (w := w) e).trans h2, (World.frozen?_of_block (w := w) e).trans f0, (World.frozen?_of_block (w := w) e).trans f1, (World.frozen?_of_block (w := w) e).trans f2, Nat.lt_of_lt_of_le h3 hb.size⟩
theorem bel_zero {w w1 : World} (h : Below w.heap.size w w1) (u v x : Value) : Below w.heap.size w (((w1.setCell ⟨w.heap.size, 0, none⟩ u).setCell ⟨w.heap.size, 1, none⟩ v).setCell ⟨w.heap.size, 2, none⟩ x) :=
  ((h.setCell (p := ⟨w.heap.size, 0, none⟩) (Nat.le_refl _) u).setCell (p := ⟨w.heap.size, 1, none⟩) (Nat.le_refl _) v).setCell (p := ⟨w.heap.size, 2, none⟩) (Nat.le_refl _) x
set_option maxHeartbeats 2000000 in
theorem specKof_len (s : ByteArray) (w : World) (hs : s.size ≤ 4194304) (h : (spl 1 s.data.toList).length ≠ 3) : Calls Tryd.prog 17 #[.string s] w (KofPost s w) := by
  have HK := Lib.hid (kof_len h)
  have HB := Lib.hid (bel1 w)
  have HZ := Lib.hid (Zb.made w)
  have q1 : (((spl 1 s.data.toList).length : Int) != 3) = true := by rw [bne_iff_ne]; omega
  generalize hn : (spl 1 s.data.toList).length = n at q1
  have HN := Lib.hid hn; clear hn h
  go_enter Tryd.func17, Tryd.ntmps17
  go_wp2_with fail
  refine (split_any s 1 _ hs).mono ?_; rintro e w1 ⟨v, rfl, hown, b1⟩
  obtain ⟨g, cap, rfl⟩ := hown.any
  rw [HN.out]
  have B1 := Lib.hid (bel_tr (HB.out _) b1 (Nat.le_refl _))
  obtain ⟨z0, z1, z2, f0, f1, f2, zl⟩ := (HZ.out _).next b1
  clear b1 hown
  go_wp2_with fail
  refine bodyPost_ret (v := .tuple #[.agg #[.string ⟨#[]⟩, .string ⟨#[]⟩, .int .i64 0], .bool false]) (by simp [results, Tryd.results17, go_sem, z0, z1, z2]) rfl ⟨by rw [HK.out]; rfl, bel_zero B1.out _ _ _⟩
theorem kof_no7 {l a b c : List UInt8} (h : spl 1 l = [a, b, c]) (h7 : c.length ≠ 7) : kof l = none := by rw [kof_three h, if_neg (fun g => h7 g.1)]
theorem kof_nodig {l a b c : List UInt8} (h : spl 1 l = [a, b, c]) (hd : c.all isDig = false) : kof l = none := by rw [kof_three h, if_neg (fun g => by rw [hd] at g; cases g.2.1)]
theorem kof_nokey {l a b c : List UInt8} (h : spl 1 l = [a, b, c]) (hk : keyB a b (1000000 - (val c : Int)) = false) : kof l = none := by rw [kof_three h, if_neg (fun g => by rw [hk] at g; cases g.2.2)]
theorem kof_key {l a b c : List UInt8} (h : spl 1 l = [a, b, c]) (h7 : c.length = 7) (hd : c.all isDig = true) (hk : keyB a b (1000000 - (val c : Int)) = true) : kof l = some (a, b, 1000000 - (val c : Int)) := by rw [kof_three h, if_pos ⟨h7, hd, hk⟩]
theorem dig_of {c : UInt8} (h : isDig c = true) : (48 : Int) ≤ (c.toNat : Int) ∧ (c.toNat : Int) ≤ 57 := by simp [isDig] at h; omega
theorem dig_not {c : UInt8} (h : isDig c = false) : (c.toNat : Int) < 48 ∨ (57 : Int) < (c.toNat : Int) := by
  have : ¬ (48 ≤ c.toNat ∧ c.toNat ≤ 57) := by intro g; have : isDig c = true := by simp [isDig, g.1, g.2]
                                               rw [this] at h; cases h
  omega
theorem val_sub (q : ByteArray) (k : Nat) (h : (sub q 0 k).all isDig = true) (hk : k ≤ 7) (hq : q.size = 7) : (val (sub q 0 k) : Int) ≤ 10000000 := by
  have h1 := val_lt _ h
  have hl : (sub q 0 k).length = k := by unfold sub; rw [List.drop_zero, List.length_take, llen]; omega
  rw [hl] at h1
  have h2 : 10 ^ k ≤ 10 ^ 7 := Nat.pow_le_pow_right (by decide) hk
  omega
set_option maxHeartbeats 4000000 in
theorem specKof_three (s : ByteArray) (w : World) (hs : s.size ≤ 4194304) (a b c : List UInt8) (h : spl 1 s.data.toList = [a, b, c]) (hla : a.length ≤ 4194304) (hlb : b.length ≤ 4194304) : Calls Tryd.prog 17 #[.string s] w (KofPost s w) := by
  have HB := Lib.hid (bel1 w)
  have HZ := Lib.hid (Zb.made w)
  have H := Lib.hid h; clear h
  by_cases h7 : c.length = 7
  · have HC := Lib.hid (tx_data c)
    have hsz : (tx c).size = 7 := by rw [tx_size]; exact h7
    have H7 := Lib.hid h7; clear h7
    go_enter Tryd.func17, Tryd.ntmps17
    go_wp2_with fail
    refine (split_any s 1 _ hs).mono ?_; rintro e w1 ⟨v, rfl, hown, b1⟩
    obtain ⟨g, cap, rfl⟩ := hown.any
    rw [H.out] at hown ⊢
    obtain ⟨-, hg, hgl, hcap, hcell⟩ := hown.cell
    have c0 : w1.cell? ⟨g, 0, none⟩ = some (.string (tx a)) := hcell 0 (by simp)
    have c1 : w1.cell? ⟨g, 1, none⟩ = some (.string (tx b)) := hcell 1 (by simp)
    have c2 : w1.cell? ⟨g, 2, none⟩ = some (.string (tx c)) := hcell 2 (by simp)
    have B1 := Lib.hid (bel_tr (HB.out _) b1 (Nat.le_refl _))
    obtain ⟨z0, z1, z2, f0, f1, f2, zl⟩ := (HZ.out _).next b1
    have hgn : w.heap.size ≠ g := by simp at hg; omega
    have HG := Lib.hid hgl
    clear b1 hown hcell hg hgl hcap
    generalize hq : tx c = q at c2 hsz HC
    have HQ := Lib.hid hq; clear hq
    go_wp2_with fail
    go_loop [5, 6] (fun n i => ∃ k : Nat, k ≤ 7 ∧ i = .int .i64 k ∧ n = .int .i64 (val (sub q 0 k)) ∧ (sub q 0 k).all isDig = true) (fun _ i => 7 - intV i)
    case atStart => exact ⟨0, by omega, rfl, rfl, rfl⟩
    case round =>
      obtain ⟨k, hk, rfl, rfl, hall⟩ := hrel
      have hv : (val (sub q 0 k) : Int) ≤ 10000000 := val_sub q k hall hk hsz
      have HA := Lib.hid hall; clear hall
      by_cases hlt : k < 7
      · have hlt' : k < q.size := by omega
        have HP := Lib.hid (sub_snoc q 0 k (Nat.zero_le _) hlt')
        cases hd : isDig (q[k]'hlt')
        · have HN := Lib.hid (kof_nodig H.out (by rw [← HC.out]; exact lnot_all q k hlt' hd))
          have hx := dig_not hd
          clear hd
          rcases hx with hx | hx
          · go_wp2_with fail
            refine bodyPost_ret (v := .tuple #[.agg #[.string ⟨#[]⟩, .string ⟨#[]⟩, .int .i64 0], .bool false]) (by simp [results, Tryd.results17, go_sem, z0, z1, z2]) rfl ⟨by rw [HN.out]; rfl, bel_zero B1.out _ _ _⟩
          · go_wp2_with fail
            refine bodyPost_ret (v := .tuple #[.agg #[.string ⟨#[]⟩, .string ⟨#[]⟩, .int .i64 0], .bool false]) (by simp [results, Tryd.results17, go_sem, z0, z1, z2]) rfl ⟨by rw [HN.out]; rfl, bel_zero B1.out _ _ _⟩
        · obtain ⟨d0, d1⟩ := dig_of hd
          have HD := Lib.hid hd; clear hd
          go_wp2_with fail
          go_round
          case rel =>
            refine ⟨k + 1, by omega, by go_num, ?_, ?_⟩
            · rw [HP.out, val_snoc]; go_num
            · rw [HP.out, List.all_append, HA.out]; simp [HD.out]
          case measure => simp [intV]; omega
      · obtain rfl : k = 7 := by omega
        have hsub : sub q 0 7 = c := by
          rw [← HC.out]; unfold sub; rw [List.drop_zero, List.take_of_length_le (by rw [llen]; omega)]
        have HD : Hid (c.all isDig = true) := by have := HA.out; rwa [hsub] at this
        rw [hsub] at hv ⊢
        clear hsub HA hlt hk
        have hg1 : g < w1.heap.size := HG.out
        have hg2 : g ≠ w1.heap.size := by omega
        have hzn : w.heap.size ≠ w1.heap.size := by omega
        clear c2 hsz
        generalize hvn : (val c : Int) = n at hv ⊢
        have hn0 : 0 ≤ n := by omega
        have HV := Lib.hid hvn; clear hvn
        have HZ1 := Lib.hid (show Zb w.heap.size w1 from ⟨z0, z1, z2, f0, f1, f2, zl⟩)
        have HX := Lib.hid (Bx.made (tx a) (tx b) (1000000 - n) w1 25)
        have HBo := Lib.hid (bel1 w1 (.cells #[.string (tx a), .string (tx b), .int .i64 (1000000 - n)] 25))
        clear z0 z1 z2 f0 f1 f2
        cases hk : keyB a b (1000000 - n)
        · have HN := Lib.hid (kof_nokey H.out (by rw [HV.out]; exact hk))
          have HKy := Lib.hid hk; clear hk
          go_wp2_with fail
          go_region_held3 (fun z => z.cell? ⟨g, 0, none⟩ = some (.string (tx a)) ∧ z.cell? ⟨g, 1, none⟩ = some (.string (tx b))) (go_keep) (first | fail)
          go_wp2_with fail
          refine (specKey_is (v := false) (r := tx a) (b := tx b) (t := 1000000 - n) (by rw [tx_data, tx_data]; exact HKy.out) _ (by rw [tx_size]; omega) (by rw [tx_size]; omega)).mono ?_; rintro e w2 ⟨rfl, b2⟩
          have b2' : Below w1.heap.size w1 w2 := bel_tr HBo.out.drew b2 (Nat.le_refl _)
          have B2 := Lib.hid (bel_tr B1.out b2' (Nat.le_refl _))
          obtain ⟨z0, z1, z2, f0, f1, f2, -⟩ := HZ1.out.next b2'
          clear b2 b2'
          go_wp2_with fail
          refine bodyPost_ret (v := .tuple #[.agg #[.string ⟨#[]⟩, .string ⟨#[]⟩, .int .i64 0], .bool false]) (by simp [results, Tryd.results17, go_sem, z0, z1, z2]) rfl ⟨by rw [HN.out]; rfl, bel_zero B2.out _ _ _⟩
        · have HN := Lib.hid (kof_key H.out H7.out HD.out (by rw [HV.out]; exact hk))
          have HKy := Lib.hid hk; clear hk
          go_wp2_with fail
          go_region_held3 (fun z => z.cell? ⟨g, 0, none⟩ = some (.string (tx a)) ∧ z.cell? ⟨g, 1, none⟩ = some (.string (tx b))) (go_keep) (first | fail)
          go_wp2_with fail
          refine (specKey_is (v := true) (r := tx a) (b := tx b) (t := 1000000 - n) (by rw [tx_data, tx_data]; exact HKy.out) _ (by rw [tx_size]; omega) (by rw [tx_size]; omega)).mono ?_; rintro e w2 ⟨rfl, b2⟩
          obtain ⟨x0, x1, x2, -⟩ := (HX.out.next (Below.refl _ _).drew).next b2
          have b2' : Below w1.heap.size w1 w2 := bel_tr HBo.out.drew b2 (Nat.le_refl _)
          have B2 := Lib.hid (bel_tr B1.out b2' (Nat.le_refl _))
          obtain ⟨z0, z1, z2, f0, f1, f2, -⟩ := HZ1.out.next b2'
          clear b2 b2'
          go_wp2_with fail
          refine bodyPost_ret (v := .tuple #[.agg #[.string (tx a), .string (tx b), .int .i64 (1000000 - n)], .bool true]) (by simp [results, Tryd.results17, go_sem, z0, z1, z2]) rfl ⟨by rw [HN.out, HV.out]; rfl, bel_zero B2.out _ _ _⟩
  · have HK := Lib.hid (kof_no7 H.out h7)
    have q1 : (((tx c).size : Int) != 7) = true := by rw [bne_iff_ne, tx_size]; omega
    clear h7
    go_enter Tryd.func17, Tryd.ntmps17
    go_wp2_with fail
    refine (split_any s 1 _ hs).mono ?_; rintro e w1 ⟨v, rfl, hown, b1⟩
    obtain ⟨g, cap, rfl⟩ := hown.any
    rw [H.out] at hown ⊢
    obtain ⟨-, -, -, -, hcell⟩ := hown.cell
    have c2 : w1.cell? ⟨g, 2, none⟩ = some (.string (tx c)) := hcell 2 (by simp)
    have B1 := Lib.hid (bel_tr (HB.out _) b1 (Nat.le_refl _))
    obtain ⟨z0, z1, z2, f0, f1, f2, zl⟩ := (HZ.out _).next b1
    clear b1 hown hcell
    go_wp2_with fail
    refine bodyPost_ret (v := .tuple #[.agg #[.string ⟨#[]⟩, .string ⟨#[]⟩, .int .i64 0], .bool false]) (by simp [results, Tryd.results17, go_sem, z0, z1, z2]) rfl ⟨by rw [HK.out]; rfl, bel_zero B1.out _ _ _⟩
theorem specKof_any (s : ByteArray) (w : World) (hs : s.size ≤ 4194304) : Calls Tryd.prog 17 #[.string s] w (KofPost s w) := by
  by_cases h : (spl 1 s.data.toList).length = 3
  · obtain ⟨a, b, c, e⟩ : ∃ a b c, spl 1 s.data.toList = [a, b, c] := by
      match hl : spl 1 s.data.toList, h with
      | [a, b, c], _ => exact ⟨a, b, c, rfl⟩
    have hj := joined_spl 1 s.data.toList
    rw [e] at hj
    have hj' := congrArg List.length hj
    rw [llen] at hj'
    simp [joined] at hj'
    exact specKof_three s w hs a b c e (by omega) (by omega)
  · exact specKof_len s w hs h
end Go.Proofs.YtdalncgbbkeimaaDoor.Kp
