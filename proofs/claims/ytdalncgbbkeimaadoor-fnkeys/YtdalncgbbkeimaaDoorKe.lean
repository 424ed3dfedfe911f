/-
  Contracts of spec.DrawNameOk, DrawKeyOf, DrawKeyLess: what they give; nothing that was there turns.
-/
import Derived.Test.YtdalncgbbkeimaaDoorKd
import Derived.Test.YtdalncgbbkeimaaDoorKt
import Derived.Test.YtdalncgbbkeimaaDoorCu
import Derived.RegionTactic
import Derived.BigRegion
namespace Go.Proofs.YtdalncgbbkeimaaDoor.Kp
open Go.RowKit Wd Rp Cu
/-- A drawn text, in a world that has only grown. -/
def DrawnT (n : Nat) (w : World) (e : Ending) (w' : World) : Prop := ∃ s : ByteArray, e = .returned (.string s) ∧ s.size ≤ n ∧ Below w.heap.size w w'
theorem drawNameOk_any (w : World) (a : Option Addr) (len cap : Nat) (hb : IsBytes w a len) (hl : len ≤ 4096) : Calls Tryd.prog 16 #[.slice a len cap] w (DrawnT 9 w) := by
  have HB := Lib.hid hb; clear hb
  go_enter Tryd.func16, Tryd.ntmps16
  go_wp2_with fail
  refine (new_any w a len cap HB.out hl).mono ?_; rintro e w1 ⟨b, rfl, hc1, b1⟩
  go_wp2_with fail
  refine (drawNameAny_any _ b _ hc1).mono ?_; rintro e w2 ⟨s, rfl, hs, hc2, hw2⟩
  have hB := Lib.hid (b1.trans (hw2.below hc1.le b1.size)); clear b1 hc1 hw2 hc2
  go_wp2_with fail
  go_ret
  exact ⟨s, rfl, hs, hB.out⟩
theorem ktx_len (r b : List UInt8) (t : Int) : (ktx r b t).length ≤ 25 := by
  cases h : keyB r b t
  · rw [ktx_no h]; simp
  · rw [ktx_yes h]
    have hk := keyB_iff.1 h
    have h1 := nm_len hk.1
    have h2 := nm_len hk.2.1
    simp [fix_len]; omega
set_option maxHeartbeats 1000000 in
theorem drawKeyOf_any (w : World) (a : Option Addr) (len cap : Nat) (hb : IsBytes w a len) (hl : len ≤ 4096) : Calls Tryd.prog 14 #[.slice a len cap] w (DrawnT 27 w) := by
  have HB := Lib.hid hb; clear hb
  go_enter Tryd.func14, Tryd.ntmps14
  go_wp2_with fail
  refine (new_any w a len cap HB.out hl).mono ?_; rintro e w1 ⟨b, rfl, hc1, b1⟩
  go_wp2_with fail
  refine (drawKey_any _ b _ hc1).mono ?_; rintro e w2 ⟨r, s, t, rfl, hk, hc2, hw2⟩
  have HW2 := Lib.hid (b1.trans (hw2.below hc1.le b1.size)); clear b1 hc1 hw2
  go_wp2_with fail
  refine (specText_any r s t _ (by have := hk.1; omega) (by have := hk.2.1; omega)).mono ?_; rintro e w3 ⟨rfl, b3⟩
  have hc3 : Cur w.heap.size b w3 := hc2.carry (fun k hk' => b3.block k (by have := hc2.le; have := hc2.lt; omega)) (b3.block b hc2.lt)
  have HW3 := Lib.hid (bel_tr HW2.out b3 (Nat.le_refl _)); clear b3 hc2
  have hx : (tx (ktx r.data.toList s.data.toList t)).size ≤ 25 := by rw [tx_size]; exact ktx_len _ _ _
  generalize tx (ktx r.data.toList s.data.toList t) = x at hx
  go_wp2_with fail
  refine (once_any _ b _ _ hc3 (by decide) (by decide)).mono ?_; rintro e w4 ⟨q, rfl, hc4, hw4⟩
  have HW4 := Lib.hid (HW3.out.trans (hw4.below hc3.le HW3.out.size)); clear hc3 hw4
  cases q
  · go_wp2_with fail
    go_ret
    exact ⟨x, rfl, by omega, HW4.out⟩
  · go_wp2_with fail
    refine (bend_any _ b x ⟨#[97, 48, 1, 57]⟩ _ hc4 (by omega) (by decide) (by decide)).mono ?_; rintro e w5 ⟨y, rfl, hy, hc5, hw5⟩
    have HW5 := Lib.hid (HW4.out.trans (hw5.below hc4.le HW4.out.size)); clear hc4 hw5 hc5
    go_wp2_with fail
    go_ret
    exact ⟨y, rfl, by omega, HW5.out⟩
theorem bel_set {B : Nat} {a w : World} (h : Below B a w) (n k : Nat) (hn : B ≤ n) (u : Value) : Below B a (w.setCell ⟨n, k, none⟩ u) := h.setCell (p := ⟨n, k, none⟩) hn u
theorem bel_6 {B : Nat} {a w : World} (h : Below B a w) (n m : Nat) (hn : B ≤ n) (hm : B ≤ m) (u0 u1 u2 v0 v1 v2 : Value) :
    Below B a ((((((w.setCell ⟨n, 0, none⟩ u0).setCell ⟨n, 1, none⟩ u1).setCell ⟨n, 2, none⟩ u2).setCell ⟨m, 0, none⟩ v0).setCell ⟨m, 1, none⟩ v1).setCell ⟨m, 2, none⟩ v2).drew :=
  (bel_set (bel_set (bel_set (bel_set (bel_set (bel_set h n 0 hn u0) n 1 hn u1) n 2 hn u2) m 0 hm v0) m 1 hm v1) m 2 hm v2).drew
/-- Two keys drawn. -/
def Drawn2 (w : World) (e : Ending) (w' : World) : Prop := ∃ (r s : ByteArray) (t : Int) (r' s' : ByteArray) (t' : Int), e = .returned (.tuple #[.agg #[.string r, .string s, .int .i64 t], .agg #[.string r', .string s', .int .i64 t']]) ∧ KeyNear r s t ∧ KeyNear r' s' t' ∧ Below w.heap.size w w'
set_option maxHeartbeats 4000000 in
theorem drawKeyLess_any (w : World) (a : Option Addr) (len cap : Nat) (hb : IsBytes w a len) (hl : len ≤ 4096) : Calls Tryd.prog 12 #[.slice a len cap] w (Drawn2 w) := by
  have HZa := Lib.hid (fun T o => (Zb.made w T).next (bel1 _ o))
  have HZb := Lib.hid (fun o => Zb.made (w.alloc o))
  have HB2 := Lib.hid (bel2 w)
  have hb2 : ∀ o o', IsBytes ((w.alloc o).alloc o') a len := fun o o' => ⟨hb.1, fun h => by
    obtain ⟨ab, ao, h1, h2, h3⟩ := hb.2 h
    refine ⟨ab, ao, h1, by simp; omega, fun k hk => ?_⟩
    obtain ⟨z, h4, h5⟩ := h3 k hk
    exact ⟨z, (World.cell?_of_block (w := w) ((HB2.out o o').block ab h2)).trans h4, h5⟩⟩
  have HBy := Lib.hid hb2; clear hb2 hb
  go_enter Tryd.func12, Tryd.ntmps12
  go_wp2_with fail
  refine (new_any _ a len cap (HBy.out _ _) hl).mono ?_; rintro e w1 ⟨b, rfl, hc1, b1⟩
  have hble := hc1.le
  simp at hble
  have Za1 := Lib.hid ((HZa.out _ _).next b1)
  have Zb1 := Lib.hid (((HZb.out _ _).next b1))
  have B1 := Lib.hid (bel_tr (HB2.out _ _) b1 (Nat.le_refl _)); clear b1
  go_wp2_with fail
  refine (drawKey_any _ b _ hc1).mono ?_; rintro e w2 ⟨r, s, t, rfl, hk, hc2, hw2⟩
  have Za2 := Lib.hid (Za1.out.but hw2 (by omega))
  have Zb2 := Lib.hid (Zb1.out.but hw2 (by simp; omega))
  have B2 := Lib.hid (B1.out.trans (hw2.below (by omega) B1.out.size)); clear hc1 hw2
  have HK := Lib.hid hk; clear hk
  have HX2 := Lib.hid (Kx.made r s t w2)
  have hb2 : b < w2.heap.size := hc2.lt
  have HC2 := Lib.hid hc2; clear hc2
  go_wp2_with fail
  refine (drawKey_any _ b _ (HC2.out.alloc _)).mono ?_; rintro e w3 ⟨r', s', t', rfl, hk', hc3, hw3⟩
  have HX3 := Lib.hid ((HX2.out _).but hw3 (by omega))
  have Za3 := Lib.hid ((Za2.out.next (bel1 w2 _)).but hw3 (by omega))
  have Zb3 := Lib.hid ((Zb2.out.next (bel1 w2 _)).but hw3 (by simp; omega))
  have B3 := Lib.hid ((bel_tr B2.out (bel1 w2 _) (Nat.le_refl _)).trans (hw3.below (by omega) (bel_tr B2.out (bel1 w2 _) (Nat.le_refl _)).size)); clear hw3
  have HK' := Lib.hid hk'; clear hk'
  have HY3 := Lib.hid (Kx.made r' s' t' w3)
  have hl23 : w2.heap.size < w3.heap.size := HX3.out.2.2.2.2.2.2
  have HC3 := Lib.hid hc3; clear hc3
  go_wp2_with fail
  refine (once_any _ b _ _ (HC3.out.alloc _) (by decide) (by decide)).mono ?_; rintro e w4 ⟨q, rfl, hc4, hw4⟩
  have HX4 := Lib.hid ((HX3.out.next (bel1 w3 _)).but hw4 (by omega))
  have HY4 := Lib.hid ((HY3.out _).but hw4 (by omega))
  have Za4 := Lib.hid ((Za3.out.next (bel1 w3 _)).but hw4 (by omega))
  have Zb4 := Lib.hid ((Zb3.out.next (bel1 w3 _)).but hw4 (by simp; omega))
  have B4 := Lib.hid ((bel_tr B3.out (bel1 w3 _) (Nat.le_refl _)).trans (hw4.below (by omega) (bel_tr B3.out (bel1 w3 _) (Nat.le_refl _)).size)); clear hw4 hc4
  have hsz : (w.alloc (.cells #[.string ⟨#[]⟩, .string ⟨#[]⟩, .int .i64 0] 25)).heap.size = w.heap.size + 1 := by simp
  have n1 : w.heap.size + 1 < w2.heap.size := by omega
  obtain ⟨x0, x1, x2, g0, g1, g2, -⟩ := HX4.out
  obtain ⟨y0, y1, y2, h0, h1, h2, -⟩ := HY4.out
  obtain ⟨z0, z1, z2, f0, f1, f2, -⟩ := Za4.out
  have Zb5 := Zb4.out
  rw [hsz] at Zb5
  obtain ⟨v0, v1, v2, e0, e1, e2, -⟩ := Zb5
  clear hsz
  have m1 : w.heap.size ≠ w2.heap.size := by omega
  have m2 : w.heap.size ≠ w3.heap.size := by omega
  have m3 : w.heap.size + 1 ≠ w2.heap.size := by omega
  have m4 : w.heap.size + 1 ≠ w3.heap.size := by omega
  have m5 : w2.heap.size ≠ w3.heap.size := by omega
  have m6 : w3.heap.size ≠ w2.heap.size := by omega
  have m7 : w2.heap.size ≠ w.heap.size := by omega
  have m8 : w3.heap.size ≠ w.heap.size := by omega
  have m9 : w2.heap.size ≠ w.heap.size + 1 := by omega
  have m10 : w3.heap.size ≠ w.heap.size + 1 := by omega
  cases q
  · have HN' := HK'
    have HBx := B4
    go_wp2_with fail
    go_region
    go_wp2_with fail
    refine bodyPost_ret (v := .tuple #[.agg #[.string r, .string s, .int .i64 t], .agg #[.string r', .string s', .int .i64 t']]) (by simp [results, Tryd.results12, go_sem, z0, z1, z2, v0, v1, v2]) rfl ⟨r, s, t, r', s', t', rfl, HK.out, HN'.out, bel_6 HBx.out _ _ (Nat.le_refl _) (by omega) _ _ _ _ _ _⟩
  · have HN' := Lib.hid (show KeyNear r s' t' from ⟨HK.out.1, HK'.out.2⟩)
    have HBx := Lib.hid (bel_set B4.out w3.heap.size 0 (by omega) (.string r))
    go_wp2_with fail
    go_region
    go_wp2_with fail
    refine bodyPost_ret (v := .tuple #[.agg #[.string r, .string s, .int .i64 t], .agg #[.string r, .string s', .int .i64 t']]) (by simp [results, Tryd.results12, go_sem, z0, z1, z2, v0, v1, v2]) rfl ⟨r, s, t, r, s', t', rfl, HK.out, HN'.out, bel_6 HBx.out _ _ (Nat.le_refl _) (by omega) _ _ _ _ _ _⟩
end Go.Proofs.YtdalncgbbkeimaaDoor.Kp
