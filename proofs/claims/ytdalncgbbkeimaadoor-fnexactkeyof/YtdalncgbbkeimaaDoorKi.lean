/-
  The contract of impl.KeyOf over the library's contracts: it gives 'kof' of the text's bytes; nothing that was there turns.
-/
import Derived.Test.YtdalncgbbkeimaaDoorKo
import Derived.Test.YtdalncgbbkeimaaDoorKt
import Derived.Test.YtdalncgbbkeimaaDoorSh
namespace Go.Proofs.YtdalncgbbkeimaaDoor.Kp
open Go.RowKit Wd Rp
/-- What the library's variables hold. -/
def LibO (w : World) : Prop := LibT w ∧ (∃ tp p, w.var? Tryd.prog "strconv.ErrSyntax" = some #[.iface tp p]) ∧ (∃ tp p, w.var? Tryd.prog "strconv.ErrRange" = some #[.iface tp p]) ∧ (∃ m, w.cell? ⟨0, 0, none⟩ = some (.int .i64 m)) ∧ 1 < w.heap.size ∧ 2 < w.heap.size ∧ 0 < w.heap.size
theorem gS : Tryd.prog.globalNamed "strconv.ErrSyntax" = some 1 := by kernel_rfl
theorem gR : Tryd.prog.globalNamed "strconv.ErrRange" = some 2 := by kernel_rfl
theorem LibO.next {w w' : World} (h : LibO w) (hb : Below w.heap.size w w') : LibO w' := by
  obtain ⟨h0, ⟨t1, p1, h1⟩, ⟨t2, p2, h2⟩, ⟨m, h3⟩, h4, h5, h6⟩ := h
  have hs := hb.size
  have e : w'.heap[0]? = w.heap[0]? := hb.block _ h6
  exact ⟨h0.next hb, ⟨t1, p1, var?_below hb gS h4 h1⟩, ⟨t2, p2, var?_below hb gR h5 h2⟩, ⟨m, (World.cell?_of_block (w := w) e).trans h3⟩, by omega, by omega, by omega⟩
theorem cut_any (s : ByteArray) (w : World) (hs : s.size ≤ 4194304) (hL : LibO w) :
    Calls Tryd.prog 53 #[.string s, .string ⟨#[1]⟩] w fun e w' => (∃ f, e = .returned (.tuple #[.string (tx (Lib.cut s.data.toList [1]).1), .string (tx (Lib.cut s.data.toList [1]).2.1), .bool f])) ∧ Below w.heap.size w w' := by
  obtain ⟨m, hm⟩ := hL.2.2.2.1
  refine (Tryd.strings_Cut s ⟨#[1]⟩ m w (by omega) hm).mono ?_
  rintro e w' ⟨rfl, n, rfl⟩
  exact ⟨⟨_, rfl⟩, bel_drewN (Below.refl _ _) n⟩
/-- What ParseInt gives where it takes the text. -/
theorem parse_ok (s : ByteArray) (w : World) (hs : s.size ≤ 4194304) (v : Int) (h : Lib.parseIntB 64 s.data.toList = .ok v) :
    Calls Tryd.prog 54 #[.string s, .int .i64 10, .int .i64 64] w fun e w' => e = .returned (.tuple #[.int .i64 v, .nilIface]) ∧ Below w.heap.size w w' := by
  refine (Tryd.strconv_ParseInt_10_at64_ok s (by omega) v h w).mono ?_
  rintro e w' ⟨rfl, hw⟩
  refine ⟨rfl, ?_⟩
  rcases hw with rfl | ⟨t, rfl⟩
  · exact Below.refl _ _
  · exact Lib.bytesWorld_below _ _ _
/-- .. and where it does not. -/
theorem parse_err (s : ByteArray) (w : World) (hs : s.size ≤ 4194304) (hL : LibO w) (h : ∀ v, Lib.parseIntB 64 s.data.toList ≠ .ok v) :
    ∃ (x : Int) (T : Nat), Calls Tryd.prog 54 #[.string s, .int .i64 10, .int .i64 64] w fun e w' => (∃ N, e = .returned (.tuple #[.int .i64 x, .iface T (.pointer (some ⟨N, 0, none⟩))])) ∧ Below w.heap.size w w' := by
  cases hv : Lib.parseIntB 64 s.data.toList
  · exact absurd hv (h _)
  · obtain ⟨tp, p, h1⟩ := hL.2.1
    exact ⟨_, _, (Any.strconv_ParseInt_10_at64_syntax_var Tryd.laysC174 s (by omega) hv tp p w h1).mono fun e w' ⟨N, h, _, _, hb⟩ => ⟨⟨N, h⟩, hb⟩⟩
  · obtain ⟨tp, p, h1⟩ := hL.2.2.1
    exact ⟨_, _, (Tryd.strconv_ParseInt_10_at64_range_var s (by omega) hv tp p w h1).mono fun e w' ⟨N, h, _, _, hb⟩ => ⟨⟨N, h⟩, hb⟩⟩
theorem cuts (s : ByteArray) : ∃ a r b d : ByteArray, tx (Lib.cut s.data.toList [1]).1 = a ∧ tx (Lib.cut s.data.toList [1]).2.1 = r ∧ tx (Lib.cut r.data.toList [1]).1 = b ∧ tx (Lib.cut r.data.toList [1]).2.1 = d ∧ a.data.toList = cutR s.data.toList ∧ b.data.toList = cutB s.data.toList ∧ d.data.toList = cutD s.data.toList ∧ r.size ≤ s.size ∧ d.size ≤ s.size := by
  have h1 := cut_len s.data.toList [1]
  have h2 := cut_len (Lib.cut s.data.toList [1]).2.1 [1]
  rw [llen] at h1
  refine ⟨_, _, _, _, rfl, rfl, rfl, rfl, tx_data _, ?_, ?_, ?_, ?_⟩
  · rw [tx_data, tx_data]; rfl
  · rw [tx_data, tx_data]; rfl
  · rw [tx_size]; omega
  · rw [tx_size, tx_data]; omega
/-- Three stores of zeros, and a new block behind them: the cells hold zeros. -/
theorem zero_alloc {n : Nat} {w : World} (h : Zb n w) (O : Obj) :
    ((((w.setCell ⟨n, 0, none⟩ (.string ⟨#[]⟩)).setCell ⟨n, 1, none⟩ (.string ⟨#[]⟩)).setCell ⟨n, 2, none⟩ (.int .i64 0)).alloc O).cell? ⟨n, 0, none⟩ = some (.string ⟨#[]⟩) ∧
    ((((w.setCell ⟨n, 0, none⟩ (.string ⟨#[]⟩)).setCell ⟨n, 1, none⟩ (.string ⟨#[]⟩)).setCell ⟨n, 2, none⟩ (.int .i64 0)).alloc O).cell? ⟨n, 1, none⟩ = some (.string ⟨#[]⟩) ∧
    ((((w.setCell ⟨n, 0, none⟩ (.string ⟨#[]⟩)).setCell ⟨n, 1, none⟩ (.string ⟨#[]⟩)).setCell ⟨n, 2, none⟩ (.int .i64 0)).alloc O).cell? ⟨n, 2, none⟩ = some (.int .i64 0) := by
  obtain ⟨z0, z1, z2, -, -, -, hl⟩ := h
  have e : ((((w.setCell ⟨n, 0, none⟩ (.string ⟨#[]⟩)).setCell ⟨n, 1, none⟩ (.string ⟨#[]⟩)).setCell ⟨n, 2, none⟩ (.int .i64 0)).alloc O).heap[n]? = (((w.setCell ⟨n, 0, none⟩ (.string ⟨#[]⟩)).setCell ⟨n, 1, none⟩ (.string ⟨#[]⟩)).setCell ⟨n, 2, none⟩ (.int .i64 0)).heap[n]? := Below.heap_alloc _ _ _ (by simpa [World.setCell] using hl)
  refine ⟨(World.cell?_of_block (w := ((w.setCell ⟨n, 0, none⟩ (.string ⟨#[]⟩)).setCell ⟨n, 1, none⟩ (.string ⟨#[]⟩)).setCell ⟨n, 2, none⟩ (.int .i64 0)) e).trans ?_, (World.cell?_of_block (w := ((w.setCell ⟨n, 0, none⟩ (.string ⟨#[]⟩)).setCell ⟨n, 1, none⟩ (.string ⟨#[]⟩)).setCell ⟨n, 2, none⟩ (.int .i64 0)) e).trans ?_, (World.cell?_of_block (w := ((w.setCell ⟨n, 0, none⟩ (.string ⟨#[]⟩)).setCell ⟨n, 1, none⟩ (.string ⟨#[]⟩)).setCell ⟨n, 2, none⟩ (.int .i64 0)) e).trans ?_⟩
  · go_simp
  · go_simp
  · go_simp
set_option maxHeartbeats 2000000 in
theorem implKof_err (s : ByteArray) (w : World) (hs : s.size ≤ 4194304) (hL : LibO w) (h : ∀ v, Lib.parseIntB 64 (cutD s.data.toList) ≠ .ok v) : Calls Tryd.prog 15 #[.string s] w (KofPost s w) := by
  have HK := Lib.hid (kof_bad h)
  have HB := Lib.hid (bel1 w)
  have HZ := Lib.hid (Zb.made w)
  have HL := Lib.hid hL; clear hL
  obtain ⟨a, r, b, d, ea, er, eb, ed, la, lb, ld, hr, hd⟩ := cuts s
  rw [← ld] at h
  have HP := Lib.hid h; clear h la lb ld
  have HE := Lib.hid (And.intro ea (And.intro er (And.intro eb ed))); clear ea er eb ed
  go_enter Tryd.func15, Tryd.ntmps15
  go_wp2_with fail
  refine (cut_any s _ hs (HL.out.next (HB.out _))).mono ?_; rintro e w1 ⟨⟨f1, rfl⟩, b1⟩
  rw [HE.out.1, HE.out.2.1]
  have B1 := Lib.hid (bel_tr (HB.out _) b1 (Nat.le_refl _))
  have HZ1 := Lib.hid ((HZ.out _).next b1); clear b1
  go_wp2_with fail
  refine (cut_any r _ (by omega) (HL.out.next B1.out)).mono ?_; rintro e w2 ⟨⟨f2, rfl⟩, b2⟩
  rw [HE.out.2.2.1, HE.out.2.2.2]
  have B2 := Lib.hid (bel_tr B1.out b2 (Nat.le_refl _))
  have HZ2 := Lib.hid (HZ1.out.next b2); clear b2
  obtain ⟨x, T, hp⟩ := parse_err d w2 (by omega) (HL.out.next B2.out) HP.out
  have HPa := Lib.hid hp; clear hp
  go_wp2_with fail
  refine HPa.out.mono ?_; rintro e w3 ⟨⟨N, rfl⟩, b3⟩
  have B3 := Lib.hid (bel_tr B2.out b3 (Nat.le_refl _))
  have HZ3 := Lib.hid (HZ2.out.next b3)
  obtain ⟨z0, z1, z2, f0, f1', f2', zl⟩ := HZ2.out.next b3
  have nz : w.heap.size ≠ w3.heap.size := by omega
  clear b3
  go_wp2_with fail
  obtain ⟨y0, y1, y2⟩ := zero_alloc HZ3.out (Obj.cells #[Value.string a, Value.string b, Value.int IntKind.i64 (wrap64 (1000000 - x))] 25)
  refine bodyPost_ret (v := .tuple #[.agg #[.string ⟨#[]⟩, .string ⟨#[]⟩, .int .i64 0], .bool false]) (by simp [results, Tryd.results15, go_sem, y0, y1, y2]) rfl ⟨by rw [HK.out]; rfl, (bel_zero B3.out _ _ _).alloc (bel_zero B3.out _ _ _).size _⟩
theorem lists_ne {t s : ByteArray} (h : ¬ t = s) : (t.toList == s.toList) = false := by
  rw [beq_eq_false_iff_ne]
  intro e
  rw [Lib.toList_data, Lib.toList_data] at e
  exact h (by rw [← tx_of t, ← tx_of s, e])
theorem wrap_in (v : Int) : 0 ≤ v → v ≤ 1000000 → wrap64 (1000000 - v) = 1000000 - v := by intro h1 h2; unfold wrap64; omega
set_option maxHeartbeats 2000000 in
theorem implKof_ok (s : ByteArray) (w : World) (hs : s.size ≤ 4194304) (hL : LibO w) (v : Int) (h : Lib.parseIntB 64 (cutD s.data.toList) = .ok v) : Calls Tryd.prog 15 #[.string s] w (KofPost s w) := by
  have HB := Lib.hid (bel1 w)
  have HZ := Lib.hid (Zb.made w)
  have HL := Lib.hid hL; clear hL
  obtain ⟨a, r, b, d, ea, er, eb, ed, la, lb, ld, hr, hd⟩ := cuts s
  have HV := Lib.hid h
  rw [← ld] at h
  have HP := Lib.hid h; clear h ld
  have HE := Lib.hid (And.intro ea (And.intro er (And.intro eb ed))); clear ea er eb ed
  generalize ht : wrap64 (1000000 - v) = t
  have HW := Lib.hid ht
  have HX := Lib.hid (Bx.made a b t)
  by_cases he : ktx a.data.toList b.data.toList t = s.data.toList
  · have hk : kof s.data.toList = some (a.data.toList, b.data.toList, t) := by
      rw [la, lb]; rw [la, lb] at he; exact kof_back HV.out he
    have HK := Lib.hid hk; clear hk
    have heq : tx (ktx a.data.toList b.data.toList t) = s := by rw [he, tx_of]
    have HQ := Lib.hid heq; clear heq he la lb
    have q1 : (s.toList == s.toList) = true := by simp
    go_enter Tryd.func15, Tryd.ntmps15
    go_wp2_with fail
    refine (cut_any s _ hs (HL.out.next (HB.out _))).mono ?_; rintro e w1 ⟨⟨f1, rfl⟩, b1⟩
    rw [HE.out.1, HE.out.2.1]
    have B1 := Lib.hid (bel_tr (HB.out _) b1 (Nat.le_refl _))
    have HZ1 := Lib.hid ((HZ.out _).next b1); clear b1
    go_wp2_with fail
    refine (cut_any r _ (by omega) (HL.out.next B1.out)).mono ?_; rintro e w2 ⟨⟨f2, rfl⟩, b2⟩
    rw [HE.out.2.2.1, HE.out.2.2.2]
    have B2 := Lib.hid (bel_tr B1.out b2 (Nat.le_refl _))
    have HZ2 := Lib.hid (HZ1.out.next b2); clear b2
    go_wp2_with fail
    refine (parse_ok d w2 (by omega) v HP.out).mono ?_; rintro e w3 ⟨rfl, b3⟩
    have B3 := Lib.hid (bel_tr B2.out b3 (Nat.le_refl _))
    have HZ3 := Lib.hid (HZ2.out.next b3); clear b3
    go_wp2_with fail
    refine (implText_any a b t _ ((HL.out.next B3.out).1.next (bel1 w3 _))).mono ?_; rintro e w4 ⟨rfl, b4⟩
    rw [HQ.out]
    obtain ⟨x0, x1, x2, xl⟩ := (HX.out w3 _).next b4
    have b4' : Below w3.heap.size w3 w4 := bel_tr (bel1 w3 _) b4 (Nat.le_refl _)
    have B4 := Lib.hid (bel_tr B3.out b4' (Nat.le_refl _))
    obtain ⟨z0, z1, z2, f0, f1', f2', zl⟩ := HZ3.out.next b4'
    have nz : w.heap.size ≠ w3.heap.size := by have := HZ3.out.2.2.2.2.2.2; omega
    clear b4 b4'
    go_wp2_with fail
    refine bodyPost_ret (v := .tuple #[.agg #[.string a, .string b, .int .i64 t], .bool true]) (by simp [results, Tryd.results15, go_sem, z0, z1, z2]) rfl ⟨by rw [HK.out]; simp only [kofV, tx_of], bel_zero B4.out _ _ _⟩
  · have hk : kof s.data.toList = none := by
      rw [la, lb] at he; exact kof_other HV.out (fun h1 h2 => by rw [← HW.out]; exact wrap_in v h1 h2) he
    have HK := Lib.hid hk; clear hk
    have q1 : ((tx (ktx a.data.toList b.data.toList t)).toList == s.toList) = false := lists_ne (fun e => he (by rw [← e, tx_data]))
    clear he la lb
    go_enter Tryd.func15, Tryd.ntmps15
    go_wp2_with fail
    refine (cut_any s _ hs (HL.out.next (HB.out _))).mono ?_; rintro e w1 ⟨⟨f1, rfl⟩, b1⟩
    rw [HE.out.1, HE.out.2.1]
    have B1 := Lib.hid (bel_tr (HB.out _) b1 (Nat.le_refl _))
    have HZ1 := Lib.hid ((HZ.out _).next b1); clear b1
    go_wp2_with fail
    refine (cut_any r _ (by omega) (HL.out.next B1.out)).mono ?_; rintro e w2 ⟨⟨f2, rfl⟩, b2⟩
    rw [HE.out.2.2.1, HE.out.2.2.2]
    have B2 := Lib.hid (bel_tr B1.out b2 (Nat.le_refl _))
    have HZ2 := Lib.hid (HZ1.out.next b2); clear b2
    go_wp2_with fail
    refine (parse_ok d w2 (by omega) v HP.out).mono ?_; rintro e w3 ⟨rfl, b3⟩
    have B3 := Lib.hid (bel_tr B2.out b3 (Nat.le_refl _))
    have HZ3 := Lib.hid (HZ2.out.next b3); clear b3
    go_wp2_with fail
    refine (implText_any a b t _ ((HL.out.next B3.out).1.next (bel1 w3 _))).mono ?_; rintro e w4 ⟨rfl, b4⟩
    have b4' : Below w3.heap.size w3 w4 := bel_tr (bel1 w3 _) b4 (Nat.le_refl _)
    have B4 := Lib.hid (bel_tr B3.out b4' (Nat.le_refl _))
    obtain ⟨z0, z1, z2, f0, f1', f2', zl⟩ := HZ3.out.next b4'
    have nz : w.heap.size ≠ w3.heap.size := by have := HZ3.out.2.2.2.2.2.2; omega
    clear b4 b4'
    go_wp2_with fail
    refine bodyPost_ret (v := .tuple #[.agg #[.string ⟨#[]⟩, .string ⟨#[]⟩, .int .i64 0], .bool false]) (by simp [results, Tryd.results15, go_sem, z0, z1, z2]) rfl ⟨by rw [HK.out]; rfl, bel_zero B4.out _ _ _⟩
theorem implKof_any (s : ByteArray) (w : World) (hs : s.size ≤ 4194304) (hL : LibO w) : Calls Tryd.prog 15 #[.string s] w (KofPost s w) := by
  by_cases h : ∃ v, Lib.parseIntB 64 (cutD s.data.toList) = .ok v
  · obtain ⟨v, h⟩ := h
    exact implKof_ok s w hs hL v h
  · exact implKof_err s w hs hL (fun v e => h ⟨v, e⟩)
end Go.Proofs.YtdalncgbbkeimaaDoor.Kp
