/-
  Bins: contracts of first, ValueIn (both), spec.l7Find, l7Copy, l7Set, l7Cut, SetBin, CutBin. (Made by gen_jc.py.)
-/
import Derived.Test.YtfnnoehpahdgcaaGreatDoorJb
namespace Go.Proofs.YtfnnoehpahdgcaaGreatDoor.Cl
open Go.RowKit Wd Rp Kp
set_option linter.unusedVariables false
theorem valL_succ {n : ByteArray} {l : List Bi} {k : Nat} {c : Bi} (hc : l[k]? = some c) (h : ∀ (j : Nat) (d : Bi), j < k → l[j]? = some d → (d.n.toList == n.toList) = false) (hn : (c.n.toList == n.toList) = false) : ∀ (j : Nat) (d : Bi), j < k + 1 → l[j]? = some d → (d.n.toList == n.toList) = false := fun j d hj hd => by
  by_cases e : j = k
  · subst e; rw [hc] at hd; cases hd; exact hn
  · exact h j d (by omega) hd
set_option maxHeartbeats 4000000 in
set_option maxRecDepth 100000 in
theorem specValue_any (w : World) (a : Option Addr) (cap : Nat) (l : List Bi) (n : Nat) (s : ByteArray) (hn : l.length = n) (hv : VwI w a cap l) (hl : n ≤ 4194304) :
    Calls Tryz.prog 23 #[.slice a n cap, .string s] w fun e w' => e = .returned (.tuple #[.int .i64 (valL s l).1, .bool (valL s l).2]) ∧ Below w.heap.size w w' := by
  have HV := Lib.hid hv; clear hv
  have HN := Lib.hid hn; clear hn
  go_enter Tryz.func23, Tryz.ntmps23
  go_wp2_with fail
  go_loopw [6] (fun i wr => ∃ k : Nat, k ≤ n ∧ i = .int .i64 k ∧ (∀ (j : Nat) (d : Bi), j < k → l[j]? = some d → (d.n.toList == s.toList) = false) ∧ Below w.heap.size w wr) (fun i _ => n - intV i)
  case atStart => exact ⟨0, Nat.zero_le _, rfl, (fun j c hj => by omega), Below.refl _ _⟩
  case round =>
    obtain ⟨k, hk, rfl, hlo, hbel⟩ := hrel
    have HB := Lib.hid hbel; clear hbel
    have HLO := Lib.hid hlo; clear hlo
    by_cases hlt : k < n
    · obtain ⟨c, hc⟩ : ∃ c, l[k]? = some c := ⟨l[k]'(by have := HN.out; omega), List.getElem?_eq_getElem _⟩
      obtain ⟨g, o, rfl, hg, h5⟩ := HV.out.2.2.2 k c hc
      obtain ⟨c0, c1⟩ : At2 wr g (o + k * 2) c := h5.same (HB.out.block g hg)
      have HC := Lib.hid hc; clear hc h5 hg
      cases he : (c.n.toList == s.toList)
      · have HL2 := Lib.hid (valL_succ HC.out HLO.out he)
        go_wp2_with fail
        go_roundw
        case rel => exact ⟨k + 1, by omega, by go_num, HL2.out, HB.out⟩
        case measure => simp [intV]; omega
      · have HE := Lib.hid (valL_at HC.out HLO.out he)
        go_wp2_with fail
        refine bodyPost_ret (v := .tuple #[.int .i64 c.v, .bool true]) (by simp [results, Tryz.results23, go_sem]) rfl ⟨by rw [HE.out], HB.out⟩
    · obtain rfl : k = n := by omega
      have HE := Lib.hid (valL_none (n := s) (l := l) fun j d hd => HLO.out j d (by have := (List.getElem?_eq_some_iff.1 hd).1; have := HN.out; omega) hd)
      go_wp2_with fail
      refine bodyPost_ret (v := .tuple #[.int .i64 0, .bool false]) (by simp [results, Tryz.results23, go_sem]) rfl ⟨by rw [HE.out], HB.out⟩
/-- The bin that is found. -/
def fstL (n : ByteArray) : List Bi → Bi × Bool
  | [] => (zi, false)
  | c :: r => if c.n.toList == n.toList then (c, true) else fstL n r
theorem fstL_at {n : ByteArray} : ∀ {l : List Bi} {k : Nat} {c : Bi}, l[k]? = some c → (∀ (j : Nat) (d : Bi), j < k → l[j]? = some d → (d.n.toList == n.toList) = false) → (c.n.toList == n.toList) = true → fstL n l = (c, true)
  | [], k, c, h, _, _ => by simp at h
  | d :: r, 0, c, h, _, e => by
    simp at h; subst h
    rw [fstL, if_pos e]
  | d :: r, k + 1, c, h, hn, e => by
    rw [fstL, if_neg (by rw [hn 0 d (by omega) rfl]; decide)]
    exact fstL_at (l := r) (by simpa using h) (fun j x hj hx => hn (j + 1) x (by omega) (by simpa using hx)) e
theorem fstL_none {n : ByteArray} : ∀ {l : List Bi}, (∀ (j : Nat) (d : Bi), l[j]? = some d → (d.n.toList == n.toList) = false) → fstL n l = (zi, false)
  | [], _ => rfl
  | d :: r, h => by
    rw [fstL, if_neg (by rw [h 0 d rfl]; decide)]
    exact fstL_none (l := r) fun j x hx => h (j + 1) x (by simpa using hx)
theorem fstL_val (n : ByteArray) : ∀ l : List Bi, valL n l = ((fstL n l).1.v, (fstL n l).2)
  | [] => rfl
  | c :: r => by
    rw [valL, fstL]; split
    · rfl
    · exact fstL_val n r
set_option maxHeartbeats 4000000 in
set_option maxRecDepth 100000 in
theorem first_any (w : World) (a : Option Addr) (cap : Nat) (l : List Bi) (n : Nat) (s : ByteArray) (hn : l.length = n) (hv : VwI w a cap l) (hl : n ≤ 4194304) :
    Calls Tryz.prog 158 #[.slice a n cap, .string s] w fun e w' => e = .returned (.tuple #[.agg #[.string (fstL s l).1.n, .int .i64 (fstL s l).1.v], .bool (fstL s l).2]) ∧ Below w.heap.size w w' := by
  have HV := Lib.hid hv; clear hv
  have HN := Lib.hid hn; clear hn
  have HZ := Lib.hid (new_of w (.cells #[.string ⟨#[]⟩, .int .i64 0] 44))
  have H0 := Lib.hid (bel1 w (.cells #[.string ⟨#[]⟩, .int .i64 0] 44))
  have hz0 : (w.alloc (.cells #[.string ⟨#[]⟩, .int .i64 0] 44)).heap.size = w.heap.size + 1 := by simp
  go_enter Tryz.func158, Tryz.ntmps158
  go_wp2_with fail
  generalize hq : w.heap.size = q at *
  generalize w.alloc (.cells #[.string ⟨#[]⟩, .int .i64 0] 44) = w0 at *
  go_loopw [11] (fun i wr => ∃ k : Nat, k ≤ n ∧ i = .int .i64 k ∧ (∀ (j : Nat) (d : Bi), j < k → l[j]? = some d → (d.n.toList == s.toList) = false) ∧ Below (q + 1) w0 wr) (fun i _ => n - intV i)
  case atStart => exact ⟨0, Nat.zero_le _, rfl, (fun j c hj => by omega), Below.refl _ _⟩
  case round =>
    obtain ⟨k, hk, rfl, hlo, hbel⟩ := hrel
    have HB := Lib.hid hbel
    have HBB := Lib.hid (H0.out.trans (hbel.mono (by omega))); clear hbel
    have HLO := Lib.hid hlo; clear hlo
    have hz1 : q + 1 ≤ wr.heap.size := by have := HB.out.size; omega
    have HZZ := Lib.hid (show wr.heap[q]? = _ from (HB.out.block q (by omega)).trans HZ.out)
    by_cases hlt : k < n
    · obtain ⟨c, hc⟩ : ∃ c, l[k]? = some c := ⟨l[k]'(by have := HN.out; omega), List.getElem?_eq_getElem _⟩
      obtain ⟨g, o, rfl, hg, h5⟩ := HV.out.2.2.2 k c hc
      obtain ⟨c0, c1⟩ : At2 wr g (o + k * 2) c := h5.same (HBB.out.block g (by omega))
      have HC := Lib.hid hc; clear hc h5 hg
      have HW := Lib.hid (bel1 wr (.cells #[.string c.n, .int .i64 c.v] 44))
      have HX := Lib.hid (new_of wr (.cells #[.string c.n, .int .i64 c.v] 44))
      have hmn := m_name c.n c.v
      have hen := e_name
      cases he : (c.n.toList == s.toList)
      · have HL2 := Lib.hid (valL_succ HC.out HLO.out he)
        go_wp2_with fail
        refine (nameB_any c.n c.v _).mono ?_; rintro e w2 ⟨rfl, b2⟩
        have B2 := Lib.hid (bel_tr HW.out b2 (Nat.le_refl _)); clear b2
        go_wp2_with fail
        go_roundw
        case rel => exact ⟨k + 1, by omega, by go_num, HL2.out, HB.out.trans (B2.out.mono hz1)⟩
        case measure => simp [intV]; omega
      · have HE := Lib.hid (fstL_at HC.out HLO.out he)
        go_wp2_with fail
        refine (nameB_any c.n c.v _).mono ?_; rintro e w2 ⟨rfl, b2⟩
        have B2 := Lib.hid (bel_tr HW.out b2 (Nat.le_refl _))
        obtain ⟨x0, x1, -, -⟩ := two_cells ((b2.block wr.heap.size (by simp)).trans HX.out)
        obtain ⟨z0, z1, f0, f1⟩ := two_cells ((B2.out.block q (by omega)).trans HZZ.out)
        have nn : wr.heap.size ≠ q := by omega
        have hqs : q < w2.heap.size := by have := B2.out.size; omega
        generalize wr.heap.size = wrs at *
        clear b2 c0 c1
        go_wp2_with fail
        refine bodyPost_ret (v := .tuple #[.agg #[.string c.n, .int .i64 c.v], .bool true]) (by simp [results, Tryz.results158, go_sem, z0, z1]) rfl ⟨by rw [HE.out], ?_⟩
        rw [hq]
        exact (HBB.out.trans (B2.out.mono (by omega))).setCell (p := ⟨q, 0, none⟩) (Nat.le_refl _) _ |>.setCell (p := ⟨q, 1, none⟩) (Nat.le_refl _) _
    · obtain rfl : k = n := by omega
      have HE := Lib.hid (fstL_none (n := s) (l := l) fun j d hd => HLO.out j d (by have := (List.getElem?_eq_some_iff.1 hd).1; have := HN.out; omega) hd)
      have HW := Lib.hid (bel1 wr (.cells #[.string ⟨#[]⟩, .int .i64 0] 44))
      obtain ⟨z0, z1, f0, f1⟩ := two_cells ((HW.out.block q (by omega)).trans HZZ.out)
      have nn : wr.heap.size ≠ q := by omega
      go_wp2_with fail
      refine bodyPost_ret (v := .tuple #[.agg #[.string ⟨#[]⟩, .int .i64 0], .bool false]) (by simp [results, Tryz.results158, go_sem, z0, z1]) rfl ⟨by rw [HE.out]; rfl, ?_⟩
      rw [hq]
      exact (HBB.out.trans (HW.out.mono (by omega))).setCell (p := ⟨q, 0, none⟩) (Nat.le_refl _) _ |>.setCell (p := ⟨q, 1, none⟩) (Nat.le_refl _) _
set_option maxHeartbeats 4000000 in
set_option maxRecDepth 100000 in
theorem implValue_any (w : World) (a : Option Addr) (cap : Nat) (l : List Bi) (n : Nat) (s : ByteArray) (hn : l.length = n) (hv : VwI w a cap l) (hl : n ≤ 4194304) :
    Calls Tryz.prog 148 #[.slice a n cap, .string s] w fun e w' => e = .returned (.tuple #[.int .i64 (valL s l).1, .bool (valL s l).2]) ∧ Below w.heap.size w w' := by
  have HF := Lib.hid (first_any w a cap l n s hn hv hl); clear hv
  have HV := Lib.hid (fstL_val s l)
  generalize fstL s l = x at *
  obtain ⟨⟨xn, xv⟩, xb⟩ := x
  go_enter Tryz.func148, Tryz.ntmps148
  go_wp2_with fail
  refine HF.out.mono ?_; rintro e w1 ⟨rfl, b1⟩
  have B1 := Lib.hid (bel_tr b1 (bel1 w1 (.cells #[.string xn, .int .i64 xv] 44)) (Nat.le_refl _)); clear b1
  go_wp2_with fail
  refine bodyPost_ret (v := .tuple #[.int .i64 xv, .bool xb]) (by simp [results, Tryz.results148, go_sem]) rfl ⟨by rw [HV.out], B1.out⟩
set_option maxHeartbeats 4000000 in
set_option maxRecDepth 100000 in
theorem l7Find_any (w : World) (a : Option Addr) (cap : Nat) (l : List Bi) (n : Nat) (s : ByteArray) (hn : l.length = n) (hv : VwI w a cap l) (hl : n ≤ 4194304) :
    Calls Tryz.prog 91 #[.slice a n cap, .string s] w fun e w' => e = .returned (.tuple #[.int .i64 (cntI s l : Nat), .bool (isAt s l)]) ∧ Below w.heap.size w w' := by
  have HV := Lib.hid hv; clear hv
  have HN := Lib.hid hn; clear hn
  go_enter Tryz.func91, Tryz.ntmps91
  go_wp2_with fail
  go_loopw [6] (fun i wr => ∃ k : Nat, k ≤ n ∧ i = .int .i64 k ∧ (∀ (j : Nat) (d : Bi), j < k → l[j]? = some d → Op.bytesLess d.n.toList s.toList = true) ∧ Below w.heap.size w wr) (fun i _ => n - intV i)
  case atStart => exact ⟨0, Nat.zero_le _, rfl, (fun j c hj => by omega), Below.refl _ _⟩
  case round =>
    obtain ⟨k, hk, rfl, hlo, hbel⟩ := hrel
    have HB := Lib.hid hbel; clear hbel
    have HLO := Lib.hid hlo; clear hlo
    by_cases hlt : k < n
    · obtain ⟨c, hc⟩ : ∃ c, l[k]? = some c := ⟨l[k]'(by have := HN.out; omega), List.getElem?_eq_getElem _⟩
      obtain ⟨g, o, rfl, hg, h5⟩ := HV.out.2.2.2 k c hc
      obtain ⟨c0, c1⟩ : At2 wr g (o + k * 2) c := h5.same (HB.out.block g hg)
      have hg' : g < wr.heap.size := Nat.lt_of_lt_of_le hg HB.out.size
      have HC := Lib.hid hc; clear hc h5 hg
      have i1 : (k : Int) < (n : Int) := by omega
      have i2 : (0 : Int) ≤ (k : Int) := by omega
      have i3 : (n : Int) ≤ 4194304 := by omega
      have i4 : decide ((k : Int) < (n : Int)) = true := decide_eq_true i1
      have i5 : decide (k < n) = true := decide_eq_true hlt
      cases he : Op.bytesLess c.n.toList s.toList
      · have HE := Lib.hid (show cntI s l = k from cntI_eq (by rw [HN.out]; exact hk) HLO.out (fun d hd => by rw [HC.out] at hd; cases hd; exact he))
        have HA := Lib.hid (show isAt s l = (c.n.toList == s.toList) from isAt_some (by rw [HE.out]; exact HC.out))
        cases hq : (c.n.toList == s.toList)
        · skip
          rw [hq] at HA
          have SOF := Lib.hid (show ∀ z, Below wr.heap.size wr z → (z.cell? ⟨g, o + k * 2, none⟩ = some (.string c.n) ∧ z.cell? ⟨g, o + k * 2 + 1, none⟩ = some (.int .i64 c.v) ∧ Below wr.heap.size wr z) from fun z hz => ⟨coc hz hg' c0, coc hz hg' c1,  hz⟩)
          go_wp2_with fail
          clear c0 c1
          refine wp_region_held_drew (S := fun z => z.cell? ⟨g, o + k * 2, none⟩ = some (.string c.n) ∧ z.cell? ⟨g, o + k * 2 + 1, none⟩ = some (.int .i64 c.v) ∧ Below wr.heap.size wr z) (by kernel_rfl) (SOF.out _ (Below.refl _ _).drew) (fun hHeld => ?_)
          refine wpAnyH_take (i := 0) (v := ?v0a) rfl (by kernel_rfl) (by kernel_rfl) (by kernel_rfl) (fun _ _ _ h => h) (Or.inl ⟨by rfl, ?hy0a⟩) (by assumption) ?rest0a
          case hy0a => (intro zz hSw; (try dsimp only at hSw); go_simp; (try with_reducible rfl))
          change wpAnyH _ _ _ _ _ _ _ (Act.put _ (some 22) _) _
          simp only [Act.put, List.setIfInBounds_toArray, List.set_cons_zero, List.set_cons_succ]
          refine wpAnyH_take (i := 1) (v := ?v1a) rfl (by kernel_rfl) (by kernel_rfl) (by kernel_rfl) (fun _ _ _ h => h) (Or.inl ⟨by rfl, ?hy1a⟩) (by assumption) ?rest1a
          case hy1a => (intro zz hSw; (try dsimp only at hSw); go_simp; (try with_reducible rfl))
          change wpAnyH _ _ _ _ _ _ _ (Act.put _ (some 23) _) _
          simp only [Act.put, List.setIfInBounds_toArray, List.set_cons_zero, List.set_cons_succ]
          refine wpAnyH_take (i := 2) (v := ?v2a) rfl (by kernel_rfl) (by kernel_rfl) (by kernel_rfl) (fun _ _ _ h => h) (Or.inl ⟨by rfl, ?hy2a⟩) (by assumption) ?rest2a
          case hy2a => (intro zz hSw; (try dsimp only at hSw); go_simp; (try with_reducible rfl))
          change wpAnyH _ _ _ _ _ _ _ (Act.put _ (some 24) _) _
          simp only [Act.put, List.setIfInBounds_toArray, List.set_cons_zero, List.set_cons_succ]
          refine wpAnyH_take (i := 3) (v := ?v3a) rfl (by kernel_rfl) (by kernel_rfl) (by kernel_rfl) (fun _ _ _ h => h) (Or.inl ⟨by rfl, ?hy3a⟩) (by assumption) ?rest3a
          case hy3a => (intro zz hSw; (try dsimp only at hSw); go_simp; (try with_reducible rfl))
          change wpAnyH _ _ _ _ _ _ _ (Act.put _ (some 25) _) _
          simp only [Act.put, List.setIfInBounds_toArray, List.set_cons_zero, List.set_cons_succ]
          refine wpAnyH_take (i := 4) (v := ?v4a) rfl (by kernel_rfl) (by kernel_rfl) (by kernel_rfl) (fun _ _ _ h => h) (Or.inl ⟨by rfl, ?hy4a⟩) (by assumption) ?rest4a
          case hy4a => (intro zz hSw; (try dsimp only at hSw); go_simp; (try with_reducible rfl))
          change wpAnyH _ _ _ _ _ _ _ (Act.put _ (some 26) _) _
          simp only [Act.put, List.setIfInBounds_toArray, List.set_cons_zero, List.set_cons_succ]
          refine wpAnyH_take (i := 5) (v := ?v5a) rfl (by kernel_rfl) (by kernel_rfl) (by kernel_rfl) (fun _ _ _ h => h) (Or.inl ⟨by rfl, ?hy5a⟩) (by assumption) ?rest5a
          case hy5a => (intro zz hSw; (try dsimp only at hSw); go_simp; (try with_reducible rfl))
          change wpAnyH _ _ _ _ _ _ _ (Act.put _ (some 27) _) _
          simp only [Act.put, List.setIfInBounds_toArray, List.set_cons_zero, List.set_cons_succ]
          refine wpAnyH_take (i := 6) (v := ?v6a) rfl (by kernel_rfl) (by kernel_rfl) (by kernel_rfl) (fun _ _ _ h => h) (Or.inl ⟨by rfl, ?hy6a⟩) (by assumption) ?rest6a
          case hy6a => (intro zz hSw; (try dsimp only at hSw); go_simp; (try with_reducible rfl))
          change wpAnyH _ _ _ _ _ _ _ (Act.put _ (some 28) _) _
          simp only [Act.put, List.setIfInBounds_toArray, List.set_cons_zero, List.set_cons_succ]
          refine wpAnyH_take (i := 7) (v := ?v7a) rfl (by kernel_rfl) (by kernel_rfl) (by kernel_rfl) (fun _ _ _ h => h) (Or.inl ⟨by rfl, ?hy7a⟩) (by assumption) ?rest7a
          case hy7a => (intro zz hSw; (try dsimp only at hSw); go_simp; (try with_reducible rfl))
          change wpAnyH _ _ _ _ _ _ _ (Act.put _ (some 29) _) _
          simp only [Act.put, List.setIfInBounds_toArray, List.set_cons_zero, List.set_cons_succ]
          refine wpAnyH_take (i := 8) (v := ?v8a) rfl (by kernel_rfl) (by kernel_rfl) (by kernel_rfl) (fun _ _ _ h => h) (Or.inl ⟨by rfl, ?hy8a⟩) (by assumption) ?rest8a
          case hy8a => (intro zz hSw; (try dsimp only at hSw); go_simp; (try with_reducible rfl))
          change wpAnyH _ _ _ _ _ _ _ (Act.put _ (some 30) _) _
          simp only [Act.put, List.setIfInBounds_toArray, List.set_cons_zero, List.set_cons_succ]
          refine wpAnyH_take (i := 9) (v := ?v9a) rfl (by kernel_rfl) (by kernel_rfl) (by kernel_rfl) (fun _ _ _ h => h) (Or.inl ⟨by rfl, ?hy9a⟩) (by assumption) ?rest9a
          case hy9a => (intro zz hSw; (try dsimp only at hSw); go_simp; (try with_reducible rfl))
          change wpAnyH _ _ _ _ _ _ _ (Act.put _ (some 31) _) _
          simp only [Act.put, List.setIfInBounds_toArray, List.set_cons_zero, List.set_cons_succ]
          refine wpAnyH_take (i := 10) (v := ?v10a) rfl (by kernel_rfl) (by kernel_rfl) (by kernel_rfl) (fun _ _ _ h => h) (Or.inl ⟨by rfl, ?hy10a⟩) (by assumption) ?rest10a
          case hy10a => (intro zz hSw; (try dsimp only at hSw); go_simp; (try with_reducible rfl))
          change wpAnyH _ _ _ _ _ _ _ (Act.put _ (some 32) _) _
          simp only [Act.put, List.setIfInBounds_toArray, List.set_cons_zero, List.set_cons_succ]
          refine wpAnyH_take (i := 11) (v := ?v11a) rfl (by kernel_rfl) (by kernel_rfl) (by kernel_rfl) (fun _ _ _ h => h) (Or.inl ⟨by rfl, ?hy11a⟩) (by assumption) ?rest11a
          case hy11a => (intro zz hSw; (try dsimp only at hSw); go_simp; (try with_reducible rfl))
          change wpAnyH _ _ _ _ _ _ _ (Act.put _ (some 33) _) _
          simp only [Act.put, List.setIfInBounds_toArray, List.set_cons_zero, List.set_cons_succ]
          refine wpAnyH_take (i := 12) (v := ?v12a) rfl (by kernel_rfl) (by kernel_rfl) (by kernel_rfl) (fun _ _ _ h => h) (Or.inl ⟨by rfl, ?hy12a⟩) (by assumption) ?rest12a
          case hy12a => (intro zz hSw; (try dsimp only at hSw); go_simp; (try with_reducible rfl))
          change wpAnyH _ _ _ _ _ _ _ (Act.put _ (some 34) _) _
          simp only [Act.put, List.setIfInBounds_toArray, List.set_cons_zero, List.set_cons_succ]
          refine wpAnyH_take (i := 13) (v := ?v13a) rfl (by kernel_rfl) (by kernel_rfl) (by kernel_rfl) (fun _ _ _ h => h) (Or.inl ⟨by rfl, ?hy13a⟩) (by assumption) ?rest13a
          case hy13a => (intro zz hSw; (try dsimp only at hSw); go_simp; (try with_reducible rfl))
          change wpAnyH _ _ _ _ _ _ _ (Act.put _ (some 35) _) _
          simp only [Act.put, List.setIfInBounds_toArray, List.set_cons_zero, List.set_cons_succ]
          refine wpAnyH_take (i := 14) (v := ?v14a) rfl (by kernel_rfl) (by kernel_rfl) (by kernel_rfl) (fun _ _ _ h => h) (Or.inl ⟨by rfl, ?hy14a⟩) (by assumption) ?rest14a
          case hy14a => (intro zz hSw; (try dsimp only at hSw); go_simp; (try with_reducible rfl))
          change wpAnyH _ _ _ _ _ _ _ (Act.put _ (some 4) _) _
          simp only [Act.put, List.setIfInBounds_toArray, List.set_cons_zero, List.set_cons_succ]
          refine wpAnyH_take (i := 15) (v := ?v15a) rfl (by kernel_rfl) (by kernel_rfl) (by kernel_rfl) (fun _ _ _ h => h) (Or.inl ⟨by rfl, ?hy15a⟩) (by assumption) ?rest15a
          case hy15a => (intro zz hSw; (try dsimp only at hSw); go_simp; (try with_reducible rfl))
          change wpAnyH _ _ _ _ _ _ _ (Act.put _ (some 5) _) _
          simp only [Act.put, List.setIfInBounds_toArray, List.set_cons_zero, List.set_cons_succ]
          refine wpAnyH_done (by kernel_rfl) ?_ _
          have BX := Lib.hid hHeld.2.2; clear hHeld SOF
          generalize wr.drew = w9 at *
          go_wp2_with fail
          refine bodyPost_ret (v := .tuple #[.int .i64 (k : Int), .bool false]) (by simp [results, Tryz.results91, go_sem]) rfl ⟨by rw [HE.out, HA.out], bel_tr HB.out BX.out (Nat.le_refl _)⟩
        · skip
          rw [hq] at HA
          have SOF := Lib.hid (show ∀ z, Below wr.heap.size wr z → (z.cell? ⟨g, o + k * 2, none⟩ = some (.string c.n) ∧ z.cell? ⟨g, o + k * 2 + 1, none⟩ = some (.int .i64 c.v) ∧ Below wr.heap.size wr z) from fun z hz => ⟨coc hz hg' c0, coc hz hg' c1,  hz⟩)
          go_wp2_with fail
          clear c0 c1
          refine wp_region_held_drew (S := fun z => z.cell? ⟨g, o + k * 2, none⟩ = some (.string c.n) ∧ z.cell? ⟨g, o + k * 2 + 1, none⟩ = some (.int .i64 c.v) ∧ Below wr.heap.size wr z) (by kernel_rfl) (SOF.out _ (Below.refl _ _).drew) (fun hHeld => ?_)
          refine wpAnyH_take (i := 0) (v := ?v0b) rfl (by kernel_rfl) (by kernel_rfl) (by kernel_rfl) (fun _ _ _ h => h) (Or.inl ⟨by rfl, ?hy0b⟩) (by assumption) ?rest0b
          case hy0b => (intro zz hSw; (try dsimp only at hSw); go_simp; (try with_reducible rfl))
          change wpAnyH _ _ _ _ _ _ _ (Act.put _ (some 22) _) _
          simp only [Act.put, List.setIfInBounds_toArray, List.set_cons_zero, List.set_cons_succ]
          refine wpAnyH_take (i := 1) (v := ?v1b) rfl (by kernel_rfl) (by kernel_rfl) (by kernel_rfl) (fun _ _ _ h => h) (Or.inl ⟨by rfl, ?hy1b⟩) (by assumption) ?rest1b
          case hy1b => (intro zz hSw; (try dsimp only at hSw); go_simp; (try with_reducible rfl))
          change wpAnyH _ _ _ _ _ _ _ (Act.put _ (some 23) _) _
          simp only [Act.put, List.setIfInBounds_toArray, List.set_cons_zero, List.set_cons_succ]
          refine wpAnyH_take (i := 2) (v := ?v2b) rfl (by kernel_rfl) (by kernel_rfl) (by kernel_rfl) (fun _ _ _ h => h) (Or.inl ⟨by rfl, ?hy2b⟩) (by assumption) ?rest2b
          case hy2b => (intro zz hSw; (try dsimp only at hSw); go_simp; (try with_reducible rfl))
          change wpAnyH _ _ _ _ _ _ _ (Act.put _ (some 24) _) _
          simp only [Act.put, List.setIfInBounds_toArray, List.set_cons_zero, List.set_cons_succ]
          refine wpAnyH_take (i := 3) (v := ?v3b) rfl (by kernel_rfl) (by kernel_rfl) (by kernel_rfl) (fun _ _ _ h => h) (Or.inl ⟨by rfl, ?hy3b⟩) (by assumption) ?rest3b
          case hy3b => (intro zz hSw; (try dsimp only at hSw); go_simp; (try with_reducible rfl))
          change wpAnyH _ _ _ _ _ _ _ (Act.put _ (some 25) _) _
          simp only [Act.put, List.setIfInBounds_toArray, List.set_cons_zero, List.set_cons_succ]
          refine wpAnyH_take (i := 4) (v := ?v4b) rfl (by kernel_rfl) (by kernel_rfl) (by kernel_rfl) (fun _ _ _ h => h) (Or.inl ⟨by rfl, ?hy4b⟩) (by assumption) ?rest4b
          case hy4b => (intro zz hSw; (try dsimp only at hSw); go_simp; (try with_reducible rfl))
          change wpAnyH _ _ _ _ _ _ _ (Act.put _ (some 26) _) _
          simp only [Act.put, List.setIfInBounds_toArray, List.set_cons_zero, List.set_cons_succ]
          refine wpAnyH_take (i := 5) (v := ?v5b) rfl (by kernel_rfl) (by kernel_rfl) (by kernel_rfl) (fun _ _ _ h => h) (Or.inl ⟨by rfl, ?hy5b⟩) (by assumption) ?rest5b
          case hy5b => (intro zz hSw; (try dsimp only at hSw); go_simp; (try with_reducible rfl))
          change wpAnyH _ _ _ _ _ _ _ (Act.put _ (some 27) _) _
          simp only [Act.put, List.setIfInBounds_toArray, List.set_cons_zero, List.set_cons_succ]
          refine wpAnyH_take (i := 6) (v := ?v6b) rfl (by kernel_rfl) (by kernel_rfl) (by kernel_rfl) (fun _ _ _ h => h) (Or.inl ⟨by rfl, ?hy6b⟩) (by assumption) ?rest6b
          case hy6b => (intro zz hSw; (try dsimp only at hSw); go_simp; (try with_reducible rfl))
          change wpAnyH _ _ _ _ _ _ _ (Act.put _ (some 28) _) _
          simp only [Act.put, List.setIfInBounds_toArray, List.set_cons_zero, List.set_cons_succ]
          refine wpAnyH_take (i := 7) (v := ?v7b) rfl (by kernel_rfl) (by kernel_rfl) (by kernel_rfl) (fun _ _ _ h => h) (Or.inl ⟨by rfl, ?hy7b⟩) (by assumption) ?rest7b
          case hy7b => (intro zz hSw; (try dsimp only at hSw); go_simp; (try with_reducible rfl))
          change wpAnyH _ _ _ _ _ _ _ (Act.put _ (some 29) _) _
          simp only [Act.put, List.setIfInBounds_toArray, List.set_cons_zero, List.set_cons_succ]
          refine wpAnyH_take (i := 8) (v := ?v8b) rfl (by kernel_rfl) (by kernel_rfl) (by kernel_rfl) (fun _ _ _ h => h) (Or.inl ⟨by rfl, ?hy8b⟩) (by assumption) ?rest8b
          case hy8b => (intro zz hSw; (try dsimp only at hSw); go_simp; (try with_reducible rfl))
          change wpAnyH _ _ _ _ _ _ _ (Act.put _ (some 30) _) _
          simp only [Act.put, List.setIfInBounds_toArray, List.set_cons_zero, List.set_cons_succ]
          refine wpAnyH_take (i := 9) (v := ?v9b) rfl (by kernel_rfl) (by kernel_rfl) (by kernel_rfl) (fun _ _ _ h => h) (Or.inl ⟨by rfl, ?hy9b⟩) (by assumption) ?rest9b
          case hy9b => (intro zz hSw; (try dsimp only at hSw); go_simp; (try with_reducible rfl))
          change wpAnyH _ _ _ _ _ _ _ (Act.put _ (some 31) _) _
          simp only [Act.put, List.setIfInBounds_toArray, List.set_cons_zero, List.set_cons_succ]
          refine wpAnyH_take (i := 10) (v := ?v10b) rfl (by kernel_rfl) (by kernel_rfl) (by kernel_rfl) (fun _ _ _ h => h) (Or.inl ⟨by rfl, ?hy10b⟩) (by assumption) ?rest10b
          case hy10b => (intro zz hSw; (try dsimp only at hSw); go_simp; (try with_reducible rfl))
          change wpAnyH _ _ _ _ _ _ _ (Act.put _ (some 32) _) _
          simp only [Act.put, List.setIfInBounds_toArray, List.set_cons_zero, List.set_cons_succ]
          refine wpAnyH_take (i := 11) (v := ?v11b) rfl (by kernel_rfl) (by kernel_rfl) (by kernel_rfl) (fun _ _ _ h => h) (Or.inl ⟨by rfl, ?hy11b⟩) (by assumption) ?rest11b
          case hy11b => (intro zz hSw; (try dsimp only at hSw); go_simp; (try with_reducible rfl))
          change wpAnyH _ _ _ _ _ _ _ (Act.put _ (some 33) _) _
          simp only [Act.put, List.setIfInBounds_toArray, List.set_cons_zero, List.set_cons_succ]
          refine wpAnyH_take (i := 12) (v := ?v12b) rfl (by kernel_rfl) (by kernel_rfl) (by kernel_rfl) (fun _ _ _ h => h) (Or.inl ⟨by rfl, ?hy12b⟩) (by assumption) ?rest12b
          case hy12b => (intro zz hSw; (try dsimp only at hSw); go_simp; (try with_reducible rfl))
          change wpAnyH _ _ _ _ _ _ _ (Act.put _ (some 34) _) _
          simp only [Act.put, List.setIfInBounds_toArray, List.set_cons_zero, List.set_cons_succ]
          refine wpAnyH_take (i := 13) (v := ?v13b) rfl (by kernel_rfl) (by kernel_rfl) (by kernel_rfl) (fun _ _ _ h => h) (Or.inl ⟨by rfl, ?hy13b⟩) (by assumption) ?rest13b
          case hy13b => (intro zz hSw; (try dsimp only at hSw); go_simp; (try with_reducible rfl))
          change wpAnyH _ _ _ _ _ _ _ (Act.put _ (some 35) _) _
          simp only [Act.put, List.setIfInBounds_toArray, List.set_cons_zero, List.set_cons_succ]
          refine wpAnyH_take (i := 14) (v := ?v14b) rfl (by kernel_rfl) (by kernel_rfl) (by kernel_rfl) (fun _ _ _ h => h) (Or.inl ⟨by rfl, ?hy14b⟩) (by assumption) ?rest14b
          case hy14b => (intro zz hSw; (try dsimp only at hSw); go_simp; (try with_reducible rfl))
          change wpAnyH _ _ _ _ _ _ _ (Act.put _ (some 4) _) _
          simp only [Act.put, List.setIfInBounds_toArray, List.set_cons_zero, List.set_cons_succ]
          refine wpAnyH_take (i := 15) (v := ?v15b) rfl (by kernel_rfl) (by kernel_rfl) (by kernel_rfl) (fun _ _ _ h => h) (Or.inl ⟨by rfl, ?hy15b⟩) (by assumption) ?rest15b
          case hy15b => (intro zz hSw; (try dsimp only at hSw); go_simp; (try with_reducible rfl))
          change wpAnyH _ _ _ _ _ _ _ (Act.put _ (some 5) _) _
          simp only [Act.put, List.setIfInBounds_toArray, List.set_cons_zero, List.set_cons_succ]
          refine wpAnyH_done (by kernel_rfl) ?_ _
          have BX := Lib.hid hHeld.2.2; clear hHeld SOF
          generalize wr.drew = w9 at *
          go_wp2_with fail
          refine bodyPost_ret (v := .tuple #[.int .i64 (k : Int), .bool true]) (by simp [results, Tryz.results91, go_sem]) rfl ⟨by rw [HE.out, HA.out], bel_tr HB.out BX.out (Nat.le_refl _)⟩
      · have HL2 := Lib.hid (show ∀ (j : Nat) (d : Bi), j < k + 1 → l[j]? = some d → Op.bytesLess d.n.toList s.toList = true from fun j d hj hd => by
          by_cases e : j = k
          · subst e; rw [HC.out] at hd; cases hd; exact he
          · exact HLO.out j d (by omega) hd)
        go_wp2_with fail
        go_roundw
        case rel => exact ⟨k + 1, by omega, by go_num, HL2.out, HB.out⟩
        case measure => simp [intV]; omega
    · obtain rfl : k = n := by omega
      have HE := Lib.hid (show cntI s l = k from cntI_eq (by rw [HN.out]; exact hk) HLO.out (fun d hd => by have := (List.getElem?_eq_some_iff.1 hd).1; have := HN.out; omega))
      have HA := Lib.hid (show isAt s l = false from isAt_none (by rw [HE.out, HN.out]; exact Nat.le_refl _))
      have i1 : ¬ (k : Int) < (k : Int) := by omega
      have i4 : decide ((k : Int) < (k : Int)) = false := decide_eq_false i1
      have i5 : decide (k < k) = false := decide_eq_false hlt
      go_wp2_with fail
      refine wp_region_held_drew (S := fun z => Below wr.heap.size wr z) (by kernel_rfl) (Below.refl _ _).drew (fun hHeld => ?_)
      refine wpAnyH_take (i := 0) (v := ?v0n) rfl (by kernel_rfl) (by kernel_rfl) (by kernel_rfl) (fun _ _ _ h => h) (Or.inl ⟨by rfl, ?hy0n⟩) (by assumption) ?rest0n
      case hy0n => (intro zz hSw; (try dsimp only at hSw); go_simp; (try with_reducible rfl))
      change wpAnyH _ _ _ _ _ _ _ (Act.put _ (some 22) _) _
      simp only [Act.put, List.setIfInBounds_toArray, List.set_cons_zero, List.set_cons_succ]
      refine wpAnyH_take (i := 1) (v := ?v1n) rfl (by kernel_rfl) (by kernel_rfl) (by kernel_rfl) (fun _ _ _ h => h) (Or.inl ⟨by rfl, ?hy1n⟩) (by assumption) ?rest1n
      case hy1n => (intro zz hSw; (try dsimp only at hSw); go_simp; (try with_reducible rfl))
      change wpAnyH _ _ _ _ _ _ _ (Act.put _ (some 23) _) _
      simp only [Act.put, List.setIfInBounds_toArray, List.set_cons_zero, List.set_cons_succ]
      refine wpAnyH_take (i := 2) (v := ?v2n) rfl (by kernel_rfl) (by kernel_rfl) (by kernel_rfl) (fun _ _ _ h => h) (Or.inl ⟨by rfl, ?hy2n⟩) (by assumption) ?rest2n
      case hy2n => (intro zz hSw; (try dsimp only at hSw); go_simp; (try with_reducible rfl))
      change wpAnyH _ _ _ _ _ _ _ (Act.put _ (some 24) _) _
      simp only [Act.put, List.setIfInBounds_toArray, List.set_cons_zero, List.set_cons_succ]
      refine wpAnyH_take (i := 3) (v := ?v3n) rfl (by kernel_rfl) (by kernel_rfl) (by kernel_rfl) (fun _ _ _ h => h) (Or.inl ⟨by rfl, ?hy3n⟩) (by assumption) ?rest3n
      case hy3n => (intro zz hSw; (try dsimp only at hSw); go_simp; (try with_reducible rfl))
      change wpAnyH _ _ _ _ _ _ _ (Act.put _ (some 25) _) _
      simp only [Act.put, List.setIfInBounds_toArray, List.set_cons_zero, List.set_cons_succ]
      refine wpAnyH_take (i := 4) (v := ?v4n) rfl (by kernel_rfl) (by kernel_rfl) (by kernel_rfl) (fun _ _ _ h => h) (Or.inl ⟨by rfl, ?hy4n⟩) (by assumption) ?rest4n
      case hy4n => (intro zz hSw; (try dsimp only at hSw); go_simp; (try with_reducible rfl))
      change wpAnyH _ _ _ _ _ _ _ (Act.put _ (some 26) _) _
      simp only [Act.put, List.setIfInBounds_toArray, List.set_cons_zero, List.set_cons_succ]
      refine wpAnyH_take (i := 5) (v := ?v5n) rfl (by kernel_rfl) (by kernel_rfl) (by kernel_rfl) (fun _ _ _ h => h) (Or.inl ⟨by rfl, ?hy5n⟩) (by assumption) ?rest5n
      case hy5n => (intro zz hSw; (try dsimp only at hSw); go_simp; (try with_reducible rfl))
      change wpAnyH _ _ _ _ _ _ _ (Act.put _ (some 27) _) _
      simp only [Act.put, List.setIfInBounds_toArray, List.set_cons_zero, List.set_cons_succ]
      refine wpAnyH_take (i := 6) (v := undef) rfl (by kernel_rfl) (by kernel_rfl) (by kernel_rfl) (fun _ _ _ h => h) (Or.inr ⟨by rfl, rfl⟩) (by assumption) ?_
      change wpAnyH _ _ _ _ _ _ _ (Act.put _ (some 28) _) _
      simp only [Act.put, List.setIfInBounds_toArray, List.set_cons_zero, List.set_cons_succ]
      refine wpAnyH_take (i := 7) (v := undef) rfl (by kernel_rfl) (by kernel_rfl) (by kernel_rfl) (fun _ _ _ h => h) (Or.inr ⟨by rfl, rfl⟩) (by assumption) ?_
      change wpAnyH _ _ _ _ _ _ _ (Act.put _ (some 29) _) _
      simp only [Act.put, List.setIfInBounds_toArray, List.set_cons_zero, List.set_cons_succ]
      refine wpAnyH_take (i := 8) (v := undef) rfl (by kernel_rfl) (by kernel_rfl) (by kernel_rfl) (fun _ _ _ h => h) (Or.inr ⟨by rfl, rfl⟩) (by assumption) ?_
      change wpAnyH _ _ _ _ _ _ _ (Act.put _ (some 30) _) _
      simp only [Act.put, List.setIfInBounds_toArray, List.set_cons_zero, List.set_cons_succ]
      refine wpAnyH_take (i := 9) (v := undef) rfl (by kernel_rfl) (by kernel_rfl) (by kernel_rfl) (fun _ _ _ h => h) (Or.inr ⟨by rfl, rfl⟩) (by assumption) ?_
      change wpAnyH _ _ _ _ _ _ _ (Act.put _ (some 31) _) _
      simp only [Act.put, List.setIfInBounds_toArray, List.set_cons_zero, List.set_cons_succ]
      refine wpAnyH_take (i := 10) (v := undef) rfl (by kernel_rfl) (by kernel_rfl) (by kernel_rfl) (fun _ _ _ h => h) (Or.inr ⟨by rfl, rfl⟩) (by assumption) ?_
      change wpAnyH _ _ _ _ _ _ _ (Act.put _ (some 32) _) _
      simp only [Act.put, List.setIfInBounds_toArray, List.set_cons_zero, List.set_cons_succ]
      refine wpAnyH_take (i := 11) (v := undef) rfl (by kernel_rfl) (by kernel_rfl) (by kernel_rfl) (fun _ _ _ h => h) (Or.inr ⟨by rfl, rfl⟩) (by assumption) ?_
      change wpAnyH _ _ _ _ _ _ _ (Act.put _ (some 33) _) _
      simp only [Act.put, List.setIfInBounds_toArray, List.set_cons_zero, List.set_cons_succ]
      refine wpAnyH_take (i := 12) (v := undef) rfl (by kernel_rfl) (by kernel_rfl) (by kernel_rfl) (fun _ _ _ h => h) (Or.inr ⟨by rfl, rfl⟩) (by assumption) ?_
      change wpAnyH _ _ _ _ _ _ _ (Act.put _ (some 34) _) _
      simp only [Act.put, List.setIfInBounds_toArray, List.set_cons_zero, List.set_cons_succ]
      refine wpAnyH_take (i := 13) (v := ?v13n) rfl (by kernel_rfl) (by kernel_rfl) (by kernel_rfl) (fun _ _ _ h => h) (Or.inl ⟨by rfl, ?hy13n⟩) (by assumption) ?rest13n
      case hy13n => (intro zz hSw; (try dsimp only at hSw); go_simp; (try with_reducible rfl))
      change wpAnyH _ _ _ _ _ _ _ (Act.put _ (some 35) _) _
      simp only [Act.put, List.setIfInBounds_toArray, List.set_cons_zero, List.set_cons_succ]
      refine wpAnyH_take (i := 14) (v := ?v14n) rfl (by kernel_rfl) (by kernel_rfl) (by kernel_rfl) (fun _ _ _ h => h) (Or.inl ⟨by rfl, ?hy14n⟩) (by assumption) ?rest14n
      case hy14n => (intro zz hSw; (try dsimp only at hSw); go_simp; (try with_reducible rfl))
      change wpAnyH _ _ _ _ _ _ _ (Act.put _ (some 4) _) _
      simp only [Act.put, List.setIfInBounds_toArray, List.set_cons_zero, List.set_cons_succ]
      refine wpAnyH_take (i := 15) (v := ?v15n) rfl (by kernel_rfl) (by kernel_rfl) (by kernel_rfl) (fun _ _ _ h => h) (Or.inl ⟨by rfl, ?hy15n⟩) (by assumption) ?rest15n
      case hy15n => (intro zz hSw; (try dsimp only at hSw); go_simp; (try with_reducible rfl))
      change wpAnyH _ _ _ _ _ _ _ (Act.put _ (some 5) _) _
      simp only [Act.put, List.setIfInBounds_toArray, List.set_cons_zero, List.set_cons_succ]
      refine wpAnyH_done (by kernel_rfl) ?_ _
      have BX := Lib.hid hHeld; clear hHeld
      generalize wr.drew = w9 at *
      go_wp2_with fail
      refine bodyPost_ret (v := .tuple #[.int .i64 (k : Int), .bool false]) (by simp [results, Tryz.results91, go_sem]) rfl ⟨by rw [HE.out, HA.out], bel_tr HB.out BX.out (Nat.le_refl _)⟩
theorem run_append_binsT {w : World} {base : Nat} {v : Value} {a : Option Addr} {cap : Nat} {l m : List Bi} (T : TypeId) (hT : Tryz.prog.underlying T = some (.slice 44)) (ty : TypeId) (hown : OwI base w v l) (hy : VwI w a cap m) (hlen : l.length + m.length ≤ 10000000) (hbase : base ≤ w.heap.size) :
    ∃ v' w', (Builtin.append_ #[T, T] ty #[v, .slice a m.length cap]).run Tryz.prog w = .ok v' w' ∧ OwI base w' v' (l ++ m) ∧ w.grownBy w' v.ownBlock ∧ (v'.ownBlock = v.ownBlock ∨ v'.ownBlock = some w.heap.size) := by
  obtain ⟨i0, hi, hz0, hz1, hz2⟩ := info_parts infoI
  cases a with
  | none =>
    have hc := hy.2.2.1 rfl
    have hm : m = [] := List.length_eq_zero_iff.1 (by have := hy.1; omega)
    subst hm hc
    rw [List.append_nil]
    exact ⟨v, w, run_append_owned_none w base T ty 44 i0 2 hT hi v _ _ hown, hown, World.grownBy.refl _ _, Or.inl rfl⟩
  | some ad =>
    obtain ⟨v', w', hr, h2, h3, h4, h5⟩ := run_append_own_at (P := Tryz.prog) w base T ty 44 i0 _ 2 24 hT hi hz0 hz1 hz2 rfl (by decide) v l.length (flatI l) hown
      ad m.length cap (flatI m) (flatI_len m) (vwI_cells hy) (flatI_one m) (by unfold maxLen; omega) (by omega) hbase
    refine ⟨v', w', hr, ?_, h3, h5⟩
    unfold OwI
    rw [List.length_append, flatI_app]; exact h2
theorem step_append_binsT {ops : Array Oper} {o : Oper} {a : Act} {Q : Exit → Act → World → Prop} {K : Act → World → Prop} {w : World} (hw : Region.wanted o (yielded ops a.tmps) = true) (s x : Operand) (T : TypeId) (hT : Tryz.prog.underlying T = some (.slice 44))
    (ho : o.op = .call { callee := .builtin .append, args := #[s, x], argTypes := #[T, T] })
    {base : Nat} {v : Value} {ad : Option Addr} {cap n : Nat} {l m : List Bi} (hs : a.eval s = v) (hx : a.eval x = .slice ad n cap) (hmn : m.length = n) (hown : OwI base w v l) (hy : VwI w ad cap m) (hlen : l.length + m.length ≤ 10000000) (hbase : base ≤ w.heap.size)
    (h : ∀ v' w', OwI base w' v' (l ++ m) → w.grownBy w' v.ownBlock → (v'.ownBlock = v.ownBlock ∨ v'.ownBlock = some w.heap.size) → K (a.put o.dst v') w') :
    if Region.wanted o (yielded ops a.tmps) = true then Oper.wp Tryz.prog o a w K Q else K (a.put o.dst undef) w := by
  rw [if_pos hw]
  obtain ⟨v', w', hr, h2, h3, h4⟩ := run_append_binsT T hT o.type hown hy hlen hbase
  subst hmn
  unfold Oper.wp execOp
  simp only [ho, resolve, invoke, builtin, Sem.run_bind, Sem.run_pure, Result.andThen_ok, List.map_toArray, List.map_cons, List.map_nil, hs, hx, hr]
  exact h v' w' h2 h3 h4
theorem append_binsT {ops : Array Oper} {rest : List Oper} {o : Oper} {a : Act} {Q : Exit → Act → World → Prop} {w : World} (hw : Region.wanted o (yielded ops a.tmps) = true) (s x : Operand) (T : TypeId) (hT : Tryz.prog.underlying T = some (.slice 44))
    (ho : o.op = .call { callee := .builtin .append, args := #[s, x], argTypes := #[T, T] })
    {base : Nat} {v : Value} {ad : Option Addr} {cap n : Nat} {l m : List Bi} (hs : a.eval s = v) (hx : a.eval x = .slice ad n cap) (hmn : m.length = n) (hown : OwI base w v l) (hy : VwI w ad cap m) (hlen : l.length + m.length ≤ 10000000) (hbase : base ≤ w.heap.size)
    (h : ∀ v' w', OwI base w' v' (l ++ m) → w.grownBy w' v.ownBlock → wpList Tryz.prog ops Q rest (a.put o.dst v') w') : wpList Tryz.prog ops Q (o :: rest) a w := by
  refine BigFrame.wpList_want hw fun K hK => ?_
  subst hmn
  obtain ⟨v', w', hr, h2, h3, -⟩ := run_append_binsT T hT o.type hown hy hlen hbase
  unfold Oper.wp execOp
  simp only [ho, resolve, invoke, builtin, Sem.run_bind, Sem.run_pure, Result.andThen_ok, List.map_toArray, List.map_cons, List.map_nil, hs, hx, hr]
  exact hK _ _ (h v' w' h2 h3)
theorem VwI.grown {w w' : World} {a : Option Addr} {cap : Nat} {l : List Bi} {row : Option Nat} (h : VwI w a cap l) (hg : w.grownBy w' row) (hne : ∀ g o, l ≠ [] → a = some ⟨g, o, none⟩ → row ≠ some g) : VwI w' a cap l := by
  obtain ⟨h1, h2, h3, h4⟩ := h
  refine ⟨h1, h2, h3, fun k c hk => ?_⟩
  obtain ⟨g, o, e, hlt, hc⟩ := h4 k c hk
  exact ⟨g, o, e, Nat.lt_of_lt_of_le hlt hg.size, hc.same (hg.block g hlt (fun e2 => hne g o (fun e3 => by rw [e3] at hk; simp at hk) e e2.symm))⟩
/-- Where a slice of a call's own lies. -/
theorem OwI.blk {B : Nat} {w : World} {a : Option Addr} {n cap : Nat} {l : List Bi} (h : OwI B w (.slice a n cap) l) : ∀ g o, l ≠ [] → a = some ⟨g, o, none⟩ → B ≤ g ∧ g < w.heap.size := fun g o hne ha => by
  obtain ⟨c, r, hc⟩ := List.exists_cons_of_ne_nil hne
  obtain ⟨a', cap', e, -, hf⟩ := h.own
  cases e
  obtain ⟨g', e', -⟩ := hf 0 (by rw [hc]; simp)
  rw [ha] at e'; cases e'
  exact ⟨OwI.lt h g (by rw [ha]; rfl), OwI.low h g (by rw [ha]; rfl)⟩
theorem VwI.at {w : World} {a : Option Addr} {cap : Nat} {l : List Bi} (h : VwI w a cap l) {k : Nat} (hk : k ≤ l.length) : VwI w a cap (l.take k) := h.take hk (Nat.le_trans hk h.1) (Nat.le_refl _) h.2.2.1
set_option maxRecDepth 100000 in
theorem cutI_from (T : TypeId) (hu : Tryz.prog.underlying T = some (.slice (Tryz.prog.elem T))) (he : Tryz.prog.elem T = 44) (a : Option Addr) (n cap k : Nat) (hk : k ≤ n) : ∃ b cb, (∀ w, (Instr.slice T (.slice a n cap) (some (.int .i64 (k : Int))) none none).run Tryz.prog w = .ok (.slice b (n - k) cb) w) ∧
    ∀ w l, VwI w a cap l → l.length = n → VwI w b cb (l.drop k) := by
  refine ⟨_, _, fun w => ?_, fun w l h hl => h.drop (k := k) (by omega)⟩
  have hs : ∀ w, (sizeOf (Tryz.prog.elem T)).run Tryz.prog w = .ok 2 w := fun w => by
    rw [he]; exact Tryz.sizeOf44 w
  rw [run_slice_l w T a n cap hu .i64 (k : Int) (by omega) (by omega), hs]
  rfl
set_option maxRecDepth 100000 in
theorem cutI_to (T : TypeId) (hu : Tryz.prog.underlying T = some (.slice (Tryz.prog.elem T))) (he : Tryz.prog.elem T = 44) (a : Option Addr) (n cap k : Nat) (hk : k ≤ n) (hn : n ≤ cap) (hz : a = none → cap = 0) : (∀ w, (Instr.slice T (.slice a n cap) none (some (.int .i64 (k : Int))) none).run Tryz.prog w = .ok (.slice a k cap) w) ∧
    ∀ w l, VwI w a cap l → l.length = n → VwI w a cap (l.take k) := by
  refine ⟨fun w => ?_, fun w l h hl => h.take (by omega) (by omega) (Nat.le_refl _) hz⟩
  have hs : ∀ w, (sizeOf (Tryz.prog.elem T)).run Tryz.prog w = .ok 2 w := fun w => by
    rw [he]; exact Tryz.sizeOf44 w
  rw [run_slice_h w T a n cap hu .i64 (k : Int) (by omega) (by omega), hs]
  show Result.ok (Value.slice (if cap = 0 then a else a.map (·.add (0 * 2))) (k - 0) (cap - 0)) w = _
  congr 2
  split
  · rfl
  · cases a <;> simp [Addr.add]
set_option maxHeartbeats 2000000 in
set_option maxRecDepth 100000 in
theorem l7Copy_any (w : World) (a : Option Addr) (cap : Nat) (l : List Bi) (n : Nat) (hn : l.length = n) (hv : VwI w a cap l) (hl : n ≤ 4194304) :
    Calls Tryz.prog 50 #[.slice a n cap] w fun e w' => ∃ v, e = .returned v ∧ OwI w.heap.size w' v l ∧ Below w.heap.size w w' := by
  subst hn
  have HV := Lib.hid hv; clear hv
  have hT : Tryz.prog.underlying 25 = some (.slice 44) := Tryz.underlying25
  go_enter Tryz.func50, Tryz.ntmps50
  go_wp2_with (first
    | (at_builtin; refine append_binsT rfl (.tmp 3) (.tmp 4) 25 hT rfl (base := w.heap.size) (l := []) (m := l) rfl rfl rfl (OwI.start (Nat.le_refl _)) (HV.out.below (bel1 _ _)) (by simp; omega) (by simp) ?_; intro v1 w1 hown1 hgrow1))
  go_ret
  exact ⟨_, rfl, hown1, (bel1 w _).grown hgrow1 (by simp) (fun j hj => OwI.lt (OwI.start (Nat.le_refl _)) j hj)⟩
def st7 (l : List Bi) (n : ByteArray) (x : Int) : List Bi × Bool := if isAt n l then (stI l n x, true) else if l.length = 12 then (l, false) else (stI l n x, true)
theorem st7_at {l : List Bi} {n : ByteArray} {x : Int} (h : isAt n l = true) : st7 l n x = (stI l n x, true) := by unfold st7; rw [if_pos h]
theorem st7_full {l : List Bi} {n : ByteArray} {x : Int} (h : isAt n l = false) (h2 : l.length = 12) : st7 l n x = (l, false) := by unfold st7; rw [if_neg (by rw [h]; decide), if_pos h2]
theorem st7_new {l : List Bi} {n : ByteArray} {x : Int} (h : isAt n l = false) (h2 : l.length ≠ 12) : st7 l n x = (stI l n x, true) := by unfold st7; rw [if_neg (by rw [h]; decide), if_neg h2]
theorem st7_sb {l : List Bi} {n : ByteArray} {x : Int} (h : okI l = true) (h2 : (nmB n.data.toList && isW x) = true) : sbP l n x = st7 l n x := by
  have hl := (okI_iff.1 h).1
  have hs := stI_len l n x
  cases ha : isAt n l
  · rw [ha] at hs
    by_cases h12 : l.length = 12
    · rw [st7_full ha h12, sbP_long h (by rw [hs]; simp; omega)]
    · rw [st7_new ha h12, sbP_yes h h2 (by rw [hs]; simp; omega)]
  · rw [ha] at hs
    rw [st7_at ha, sbP_yes h h2 (by rw [hs]; simp; omega)]
/-- What SetBin and l7Set give back. -/
def SbPost (B : Nat) (p : List Bi × Bool) (w : World) (e : Ending) (w' : World) : Prop := ∃ v, e = .returned (.tuple #[v, .bool p.2]) ∧ OwI B w' v p.1 ∧ Below B w w'
set_option maxHeartbeats 4000000 in
set_option maxRecDepth 100000 in
theorem l7Set_any {B : Nat} (w : World) (v : Value) (l : List Bi) (s : ByteArray) (x : Int) (ho : OwI B w v l) (hB : B ≤ w.heap.size) (hl : l.length ≤ 4000) :
    Calls Tryz.prog 60 #[v, .string s, .int .i64 x] w (SbPost B (st7 l s x) w) := by
  have hT : Tryz.prog.underlying 25 = some (.slice 44) := Tryz.underlying25
  obtain ⟨a, cap, rfl, hv, hf⟩ := ho.own
  have HO := Lib.hid ho; clear ho
  have HV := Lib.hid hv
  have HF := Lib.hid hf; clear hf
  obtain ⟨n, hn⟩ : ∃ n, l.length = n := ⟨_, rfl⟩
  have HN := Lib.hid hn
  rw [hn] at HO HF ⊢
  have HFD := Lib.hid (l7Find_any w a cap l n s hn hv (by omega)); clear hv
  have hcl := cntI_le s l
  rw [hn] at hcl
  have hn4 : n ≤ 4000 := by omega
  cases hat : isAt s l
  · have hk0 := hat
    rw [hat] at HFD
    by_cases h12 : n = 12
    · have HE := Lib.hid (st7_full (x := x) hat (by rw [hn]; exact h12))
      have i1 : ((n : Int) == 12) = true := by simp; omega
      clear h12 hn
      go_enter Tryz.func60, Tryz.ntmps60
      go_wp2_with fail
      refine HFD.out.mono ?_; rintro e w1 ⟨rfl, b1⟩
      have B1 := Lib.hid (b1.mono hB)
      have O1 := Lib.hid (HO.out.next b1); clear b1
      go_wp2_with fail
      refine bodyPost_ret (v := .tuple #[.slice a n cap, .bool false]) (by simp [results, Tryz.results60, go_sem]) rfl ⟨.slice a n cap, by rw [HE.out], by rw [HE.out]; exact O1.out, B1.out⟩
    · have HE := Lib.hid (st7_new (x := x) hat (by rw [hn]; exact h12))
      have HBH := Lib.hid (show behI s l = l.drop (cntI s l) by unfold behI; rw [if_neg (by rw [hat]; decide)])
      have i1 : ((n : Int) == 12) = false := by simp; omega
      obtain ⟨b, cb, hr1, hv1⟩ := cutI_from 25 (by kernel_rfl) (by kernel_rfl) a n cap (cntI s l) hcl
      obtain ⟨hr2, hv2⟩ := cutI_to 25 (by kernel_rfl) (by kernel_rfl) a n cap (cntI s l) hcl (by rw [← hn]; exact HV.out.1) HV.out.2.2.1
      have HV1 := Lib.hid (hv1 w l HV.out hn)
      have HV2 := Lib.hid (hv2 w l HV.out hn); clear hv1 hv2
      have HTL := Lib.hid (takeI_len s l)
      have HDL := Lib.hid (show (l.drop (cntI s l)).length = n - cntI s l by rw [List.length_drop, hn])
      have HST := Lib.hid (show stI l s x = (l.take (cntI s l) ++ [⟨s, x⟩]) ++ l.drop (cntI s l) by unfold stI; rw [HBH.out, List.append_assoc])
      generalize l.drop (cntI s l) = dr at *
      generalize l.take (cntI s l) = tk at *
      generalize cntI s l = k at *
      clear h12 hn
      go_enter Tryz.func60, Tryz.ntmps60
      go_wp2_with fail
      refine HFD.out.mono ?_; rintro e w1 ⟨rfl, b1⟩
      have B1 := Lib.hid b1; clear b1
      go_wp2_with fail
      refine (l7Copy_any w1 b cb dr (n - k) HDL.out (HV1.out.below B1.out) (by omega)).mono ?_; rintro e w2 ⟨v2, rfl, o2, b2⟩
      have B2 := Lib.hid (bel_tr B1.out b2 (Nat.le_refl _))
      obtain ⟨va, vc, rfl, hv2⟩ := o2.view
      have V2 := Lib.hid hv2
      have L2 := Lib.hid (OwI.blk o2); clear hv2 o2 b2
      rw [HDL.out]
      go_wp2_with fail
      refine (l7Copy_any w2 a cap tk k HTL.out (HV2.out.below B2.out) (by omega)).mono ?_; rintro e w3 ⟨v3, rfl, o3, b3⟩
      have B3 := Lib.hid (bel_tr B2.out b3 (Nat.le_refl _))
      have Z2 := Lib.hid B2.out.size
      have O3 := Lib.hid (o3.mono (Nat.le_trans hB B2.out.size))
      have V3 := Lib.hid (V2.out.below b3)
      have L3 := Lib.hid (OwI.lt o3); clear b3 o3
      have HLT := Lib.hid (VwI.lit w3 ⟨s, x⟩)
      have HL4 := Lib.hid (bel1 w3 (.cells #[.string s, .int .i64 x] 44))
      have O4 := Lib.hid (O3.out.next HL4.out)
      have Z3 := Lib.hid B3.out.size
      have T1 : tk.length + [(⟨s, x⟩ : Bi)].length ≤ 10000000 := by have := HTL.out; simp; omega
      have T2 : B ≤ (w3.alloc (.cells #[.string s, .int .i64 x] 44)).heap.size := by have := Z2.out; have := Z3.out; have := HL4.out.size; omega
      have TC := Lib.hid (show ∀ v5 w5, OwI B w5 v5 (tk ++ [⟨s, x⟩]) → (w3.alloc (.cells #[.string s, .int .i64 x] 44)).grownBy w5 v3.ownBlock → OwI B w5 v5 (tk ++ [⟨s, x⟩]) ∧ Below B w3 w5 ∧ VwI w5 va vc dr ∧ B ≤ w5.heap.size from fun v5 w5 o5 g5 => by
        have C5 := (HL4.out.mono (show B ≤ w3.heap.size by have := Z2.out; have := Z3.out; omega)).grown g5 T2 (fun j hj => OwI.lt O4.out j hj)
        exact ⟨o5, C5, (V3.out.below HL4.out).grown g5 (fun g o hne e e2 => by have := (L2.out g o hne e).2; have := L3.out g e2; omega), by have := C5.size; have := Z2.out; have := Z3.out; omega⟩)
      have T3 : (tk ++ [(⟨s, x⟩ : Bi)]).length + dr.length ≤ 10000000 := by have := HTL.out; have := HDL.out; simp; omega
      go_wp2_with (first
        | (at_builtin; refine append_binsT rfl (.tmp 35) (.tmp 39) 25 hT rfl (base := B) (l := tk) (m := [⟨s, x⟩]) rfl rfl rfl O4.out HLT.out T1 T2 ?_; intro v5 w5 o5 g5; have G5 := Lib.hid (TC.out _ _ o5 g5); clear o5 g5)
        | (at_builtin; refine append_binsT rfl (.tmp 40) (.tmp 41) 25 hT rfl (base := B) (l := tk ++ [(⟨s, x⟩ : Bi)]) (m := dr) rfl rfl HDL.out G5.out.1 G5.out.2.2.1 T3 G5.out.2.2.2 ?_; intro v6 w6 o6 g6; have G6 := Lib.hid (And.intro o6 g6); clear o6 g6))
      have O6 := Lib.hid G6.out.1
      obtain ⟨v6a, v6c, e6, -⟩ := G6.out.1.view
      have C6 := Lib.hid (G5.out.2.1.grown G6.out.2 G5.out.2.2.2 (fun j hj => OwI.lt G5.out.1 j hj))
      have CF := Lib.hid ((B3.out.mono hB).trans C6.out)
      go_wp2_with fail
      refine bodyPost_ret (v := .tuple #[v6, .bool true]) (by simp [results, Tryz.results60, go_sem]) rfl ⟨v6, by rw [HE.out], by rw [HE.out, HST.out]; exact O6.out, CF.out⟩
  · have HE := Lib.hid (st7_at (x := x) hat)
    have hkl := isAt_lt hat
    obtain ⟨d, hd⟩ : ∃ d, l[cntI s l]? = some d := ⟨l[cntI s l], List.getElem?_eq_getElem hkl⟩
    have HST := Lib.hid (stI_at hd hat x)
    rw [hn] at hkl
    obtain ⟨g, rfl, hg, -⟩ := HF.out (cntI s l) hkl
    have HD := Lib.hid hd; clear hd
    rw [hat] at HFD
    generalize cntI s l = k at *
    go_enter Tryz.func60, Tryz.ntmps60
    go_wp2_with fail
    refine HFD.out.mono ?_; rintro e w1 ⟨rfl, b1⟩
    have B1 := Lib.hid (b1.mono hB)
    have O1 := Lib.hid (HO.out.next b1); clear b1
    obtain ⟨⟨c0, c1⟩, ⟨f0, f1⟩, -, -⟩ := O1.out.at HD.out
    have O2 := Lib.hid (O1.out.setV hn.symm k d HD.out x)
    have B2 := Lib.hid (B1.out.setCell (p := ⟨g, k * 2 + 1, none⟩) hg (.int .i64 x))
    go_wp2_with fail
    refine bodyPost_ret (v := .tuple #[.slice (some ⟨g, 0, none⟩) n cap, .bool true]) (by simp [results, Tryz.results60, go_sem]) rfl ⟨.slice (some ⟨g, 0, none⟩) n cap, by rw [HE.out], by rw [HE.out, HST.out]; exact O2.out, B2.out⟩
set_option maxHeartbeats 4000000 in
set_option maxRecDepth 100000 in
theorem specSet_any (w : World) (a : Option Addr) (cap : Nat) (l : List Bi) (n : Nat) (s : ByteArray) (x : Int) (hn : l.length = n) (hv : VwI w a cap l) (hm : ∀ c ∈ l, c.n.size ≤ 9223372036854775806) (hs : s.size ≤ 9223372036854775806) (hl : n ≤ 4194304) :
    Calls Tryz.prog 25 #[.slice a n cap, .string s, .int .i64 x] w (SbPost w.heap.size (sbP l s x) w) := by
  have HV := Lib.hid hv; clear hv
  cases hok : okI l
  · have HE := Lib.hid (sbP_no (n := s) (v := x) hok)
    have HBK := Lib.hid (specBins2_is hok w a cap n hn HV.out hm hl); clear hok
    go_enter Tryz.func25, Tryz.ntmps25
    go_wp2_with fail
    refine HBK.out.mono ?_; rintro e w1 ⟨rfl, b1⟩
    have B1 := Lib.hid b1; clear b1
    go_wp2_with fail
    refine bodyPost_ret (v := .tuple #[.slice (some ⟨w1.heap.size, 0, none⟩) 0 0, .bool false]) (by simp [results, Tryz.results25, go_sem]) rfl ⟨_, by rw [HE.out], by rw [HE.out]; exact OwI.start B1.out.size, B1.out.alloc B1.out.size _⟩
  · have HOK := Lib.hid hok
    have hl12 : n ≤ 12 := by rw [← hn]; exact (okI_iff.1 hok).1
    have HBK := Lib.hid (specBins2_is hok w a cap n hn HV.out hm hl); clear hok
    cases h1 : nmB s.data.toList
    · have HE := Lib.hid (sbP_bad (n := s) (v := x) HOK.out (by rw [h1]; rfl))
      have H1 := Lib.hid h1; clear h1
      go_enter Tryz.func25, Tryz.ntmps25
      go_wp2_with fail
      refine HBK.out.mono ?_; rintro e w1 ⟨rfl, b1⟩
      have B1 := Lib.hid b1; clear b1
      go_wp2_with fail
      refine (specName_is H1.out _ hs).mono ?_; rintro e w2 ⟨rfl, rfl⟩
      go_wp2_with fail
      refine (l7Copy_any w1 a cap l n hn (HV.out.below B1.out) (by omega)).mono ?_; rintro e w2 ⟨v, rfl, o2, b2⟩
      have B2 := Lib.hid (bel_tr B1.out b2 (Nat.le_refl _))
      have O2 := Lib.hid (o2.mono B1.out.size); clear o2 b2
      go_wp2_with fail
      refine bodyPost_ret (v := .tuple #[v, .bool false]) (by simp [results, Tryz.results25, go_sem]) rfl ⟨v, by rw [HE.out], by rw [HE.out]; exact O2.out, B2.out⟩
    · cases h2 : isW x
      · have HE := Lib.hid (sbP_bad (n := s) (v := x) HOK.out (by rw [h1, h2]; rfl))
        have H1 := Lib.hid h1; clear h1
        have H2 := Lib.hid h2; clear h2
        go_enter Tryz.func25, Tryz.ntmps25
        go_wp2_with fail
        refine HBK.out.mono ?_; rintro e w1 ⟨rfl, b1⟩
        have B1 := Lib.hid b1; clear b1
        go_wp2_with fail
        refine (specName_is H1.out _ hs).mono ?_; rintro e w2 ⟨rfl, rfl⟩
        go_wp2_with fail
        refine (word_is H2.out _).mono ?_; rintro e w2 ⟨rfl, rfl⟩
        go_wp2_with fail
        refine (l7Copy_any w1 a cap l n hn (HV.out.below B1.out) (by omega)).mono ?_; rintro e w2 ⟨v, rfl, o2, b2⟩
        have B2 := Lib.hid (bel_tr B1.out b2 (Nat.le_refl _))
        have O2 := Lib.hid (o2.mono B1.out.size); clear o2 b2
        go_wp2_with fail
        refine bodyPost_ret (v := .tuple #[v, .bool false]) (by simp [results, Tryz.results25, go_sem]) rfl ⟨v, by rw [HE.out], by rw [HE.out]; exact O2.out, B2.out⟩
      · have HE := Lib.hid (st7_sb (n := s) (x := x) HOK.out (by rw [h1, h2]; rfl))
        have H1 := Lib.hid h1; clear h1
        have H2 := Lib.hid h2; clear h2
        go_enter Tryz.func25, Tryz.ntmps25
        go_wp2_with fail
        refine HBK.out.mono ?_; rintro e w1 ⟨rfl, b1⟩
        have B1 := Lib.hid b1; clear b1
        go_wp2_with fail
        refine (specName_is H1.out _ hs).mono ?_; rintro e w2 ⟨rfl, rfl⟩
        go_wp2_with fail
        refine (word_is H2.out _).mono ?_; rintro e w2 ⟨rfl, rfl⟩
        go_wp2_with fail
        refine (l7Copy_any w1 a cap l n hn (HV.out.below B1.out) (by omega)).mono ?_; rintro e w2 ⟨v, rfl, o2, b2⟩
        have B2 := Lib.hid (bel_tr B1.out b2 (Nat.le_refl _))
        have HS := Lib.hid (l7Set_any w2 v l s x (o2.mono B1.out.size) B2.out.size (by omega))
        obtain ⟨va, vc, rfl, -⟩ := o2.view
        clear o2 b2
        rw [hn] at HS ⊢
        go_wp2_with fail
        refine HS.out.mono ?_; rintro e w3 ⟨v3, rfl, o3, b3⟩
        have B3 := Lib.hid (B2.out.trans b3)
        have O3 := Lib.hid o3
        obtain ⟨v3a, v3c, rfl, -⟩ := o3.view
        clear o3 b3
        rw [← HE.out] at O3 ⊢
        generalize (sbP l s x).1.length = L3 at *
        go_wp2_with fail
        refine bodyPost_ret (v := .tuple #[.slice v3a L3 v3c, .bool (sbP l s x).2]) (by simp [results, Tryz.results25, go_sem]) rfl ⟨_, rfl, O3.out, B3.out⟩
theorem ctI_no {l : List Bi} {n : ByteArray} (h : isAt n l = false) : ctI l n = l := by unfold ctI behI; rw [if_neg (by rw [h]; decide)]; exact List.take_append_drop _ _
def CbPost (B : Nat) (p : List Bi) (w : World) (e : Ending) (w' : World) : Prop := ∃ v, e = .returned v ∧ OwI B w' v p ∧ Below B w w'
set_option maxHeartbeats 4000000 in
set_option maxRecDepth 100000 in
theorem l7Cut_any {B : Nat} (w : World) (v : Value) (l : List Bi) (s : ByteArray) (ho : OwI B w v l) (hB : B ≤ w.heap.size) (hl : l.length ≤ 4000) :
    Calls Tryz.prog 61 #[v, .string s] w (CbPost B (ctI l s) w) := by
  have hT : Tryz.prog.underlying 25 = some (.slice 44) := Tryz.underlying25
  obtain ⟨a, cap, rfl, hv⟩ := ho.view
  have HO := Lib.hid ho; clear ho
  have HV := Lib.hid hv
  obtain ⟨n, hn⟩ : ∃ n, l.length = n := ⟨_, rfl⟩
  rw [hn] at HO ⊢
  have HFD := Lib.hid (l7Find_any w a cap l n s hn hv (by omega)); clear hv
  have hcl := cntI_le s l
  have hn4 : n ≤ 4000 := by omega
  rw [hn] at hcl
  cases hat : isAt s l
  · have HE := Lib.hid (ctI_no hat)
    rw [hat] at HFD
    go_enter Tryz.func61, Tryz.ntmps61
    go_wp2_with fail
    refine HFD.out.mono ?_; rintro e w1 ⟨rfl, b1⟩
    have B1 := Lib.hid (b1.mono hB)
    have O1 := Lib.hid (HO.out.next b1); clear b1
    go_wp2_with fail
    go_ret
    exact ⟨_, rfl, by rw [HE.out]; exact O1.out, B1.out⟩
  · have hkl := isAt_lt hat
    rw [hn] at hkl
    have HST := Lib.hid (show ctI l s = l.take (cntI s l) ++ l.drop (cntI s l + 1) by unfold ctI behI; rw [if_pos hat])
    rw [hat] at HFD
    obtain ⟨b, cb, hr1, hv1⟩ := cutI_from 25 (by kernel_rfl) (by kernel_rfl) a n cap (cntI s l + 1) (by omega)
    obtain ⟨hr2, hv2⟩ := cutI_to 25 (by kernel_rfl) (by kernel_rfl) a n cap (cntI s l) hcl (by rw [← hn]; exact HV.out.1) HV.out.2.2.1
    rw [show ((cntI s l + 1 : Nat) : Int) = (cntI s l : Int) + 1 by omega] at hr1
    have HV1 := Lib.hid (hv1 w l HV.out hn)
    have HV2 := Lib.hid (hv2 w l HV.out hn); clear hv1 hv2
    have HTL := Lib.hid (takeI_len s l)
    have HDL := Lib.hid (show (l.drop (cntI s l + 1)).length = n - (cntI s l + 1) by rw [List.length_drop, hn])
    generalize l.drop (cntI s l + 1) = dr at *
    generalize l.take (cntI s l) = tk at *
    generalize cntI s l = k at *
    have T1 : tk.length + dr.length ≤ 10000000 := by have := HTL.out; have := HDL.out; omega
    have i5 : (0 : Int) ≤ (k : Int) := by omega
    have i6 : (k : Int) ≤ 4000 := by omega
    have i7 : IntKind.i64.wrap ((k : Int) + 1) = (k : Int) + 1 := by rw [IntKind.wrap_i64]; omega
    go_enter Tryz.func61, Tryz.ntmps61
    go_wp2_with fail
    refine HFD.out.mono ?_; rintro e w1 ⟨rfl, b1⟩
    have HB1 := Lib.hid b1; clear b1
    go_wp2_with fail
    refine wp_region_held_drew (S := fun z => Below w1.heap.size w1 z) (by kernel_rfl) (Below.refl _ _).drew (fun hHeld => ?_)
    refine wpAnyH_take (i := 0) (v := ?v0k) rfl (by kernel_rfl) (by kernel_rfl) (by kernel_rfl) (fun _ _ _ h => h) (Or.inl ⟨by rfl, ?hy0k⟩) (by assumption) ?rest0k
    case hy0k => (intro zz hSw; (try dsimp only at hSw); go_simp; (try with_reducible rfl))
    change wpAnyH _ _ _ _ _ _ _ (Act.put _ (some 16) _) _
    simp only [Act.put, List.setIfInBounds_toArray, List.set_cons_zero, List.set_cons_succ]
    refine wpAnyH_take (i := 1) (v := ?v1k) rfl (by kernel_rfl) (by kernel_rfl) (by kernel_rfl) (fun _ _ _ h => h) (Or.inl ⟨by rfl, ?hy1k⟩) (by assumption) ?rest1k
    case hy1k => (intro zz hSw; (try dsimp only at hSw); go_simp; (try with_reducible rfl))
    change wpAnyH _ _ _ _ _ _ _ (Act.put _ (some 17) _) _
    simp only [Act.put, List.setIfInBounds_toArray, List.set_cons_zero, List.set_cons_succ]
    refine wpAnyH_take (i := 2) (v := ?v2k) rfl (by kernel_rfl) (by kernel_rfl) (by kernel_rfl) (fun _ _ _ h => h) (Or.inl ⟨by rfl, ?hy2k⟩) (by assumption) ?rest2k
    case hy2k => (intro zz hSw; (try dsimp only at hSw); go_simp; (try with_reducible rfl))
    change wpAnyH _ _ _ _ _ _ _ (Act.put _ (some 18) _) _
    simp only [Act.put, List.setIfInBounds_toArray, List.set_cons_zero, List.set_cons_succ]
    refine wpAnyH_take (i := 4) (v := ?v4k) rfl (by kernel_rfl) (by kernel_rfl) (by kernel_rfl) (fun _ _ _ h => h) (Or.inl ⟨by rfl, ?hy4k⟩) (by assumption) ?rest4k
    case hy4k => (intro zz hSw; (try dsimp only at hSw); go_simp; (try with_reducible rfl))
    change wpAnyH _ _ _ _ _ _ _ (Act.put _ (some 20) _) _
    simp only [Act.put, List.setIfInBounds_toArray, List.set_cons_zero, List.set_cons_succ]
    refine wpAnyH_take (i := 5) (v := ?v5k) rfl (by kernel_rfl) (by kernel_rfl) (by kernel_rfl) (fun _ _ _ h => h) (Or.inl ⟨by rfl, ?hy5k⟩) (by assumption) ?rest5k
    case hy5k => (intro zz hSw; (try dsimp only at hSw); go_simp; (try with_reducible rfl))
    change wpAnyH _ _ _ _ _ _ _ (Act.put _ (some 21) _) _
    simp only [Act.put, List.setIfInBounds_toArray, List.set_cons_zero, List.set_cons_succ]
    refine wpAnyH_take (i := 6) (v := ?v6k) rfl (by kernel_rfl) (by kernel_rfl) (by kernel_rfl) (fun _ _ _ h => h) (Or.inl ⟨by rfl, ?hy6k⟩) (by assumption) ?rest6k
    case hy6k => (intro zz hSw; (try dsimp only at hSw); go_simp; (try with_reducible rfl))
    change wpAnyH _ _ _ _ _ _ _ (Act.put _ (some 22) _) _
    simp only [Act.put, List.setIfInBounds_toArray, List.set_cons_zero, List.set_cons_succ]
    refine wpAnyH_take (i := 7) (v := ?v7k) rfl (by kernel_rfl) (by kernel_rfl) (by kernel_rfl) (fun _ _ _ h => h) (Or.inl ⟨by rfl, ?hy7k⟩) (by assumption) ?rest7k
    case hy7k => (intro zz hSw; (try dsimp only at hSw); go_simp; (try with_reducible rfl))
    change wpAnyH _ _ _ _ _ _ _ (Act.put _ (some 23) _) _
    simp only [Act.put, List.setIfInBounds_toArray, List.set_cons_zero, List.set_cons_succ]
    refine wpAnyH_ready (rs := [3]) (by kernel_rfl) (by simp) (AllReadyH.cons rfl (fun K hK => ?_) (AllReadyH.nil))
    go_simp
    refine (l7Copy_any _ a cap tk k HTL.out (HV2.out.below (HB1.out.trans (hHeld.mono HB1.out.size))) (by omega)).mono ?_; rintro e w4 ⟨v4, rfl, o4, bel⟩
    have O4 := Lib.hid (o4.mono hHeld.size); clear o4
    refine hK.out _ _ (bel_tr hHeld bel (Nat.le_refl _)) (fun hHeld => ?_)
    clear hK K bel
    refine wpAnyH_ready (rs := [8]) (by kernel_rfl) (by simp) (AllReadyH.cons rfl (fun K hK => ?_) (AllReadyH.nil))
    refine step_append_binsT rfl (.tmp 19) (.tmp 23) 25 hT rfl (base := w1.heap.size) (l := tk) (m := dr) rfl rfl HDL.out O4.out (HV1.out.below (HB1.out.trans (hHeld.mono HB1.out.size))) T1 hHeld.size ?_
    intro v6 w6 o6 g6 n6
    have O6 := Lib.hid o6
    refine hK.out _ _ (hHeld.grown g6 hHeld.size (fun j hj => OwI.lt O4.out j hj)) (fun hHeld => ?_)
    clear hK K o6 g6 n6
    change wpAnyH _ _ _ _ _ _ _ (Act.put _ (some 24) _) _
    simp only [Act.put, List.setIfInBounds_toArray, List.set_cons_zero, List.set_cons_succ]
    refine wpAnyH_take (i := 9) (v := ?v9k) rfl (by kernel_rfl) (by kernel_rfl) (by kernel_rfl) (fun _ _ _ h => h) (Or.inl ⟨by rfl, ?hy9k⟩) (by assumption) ?rest9k
    case hy9k => (intro zz hSw; (try dsimp only at hSw); go_simp; (try with_reducible rfl))
    change wpAnyH _ _ _ _ _ _ _ (Act.put _ (some 4) _) _
    simp only [Act.put, List.setIfInBounds_toArray, List.set_cons_zero, List.set_cons_succ]
    refine wpAnyH_done (by kernel_rfl) ?_ _
    have CF := Lib.hid ((HB1.out.mono hB).trans (hHeld.mono (Nat.le_trans hB HB1.out.size))); clear hHeld
    go_wp2_with fail
    go_ret
    exact ⟨_, rfl, by rw [HST.out]; exact O6.out.mono (Nat.le_trans hB HB1.out.size), CF.out⟩
set_option maxHeartbeats 4000000 in
set_option maxRecDepth 100000 in
theorem specCut_any (w : World) (a : Option Addr) (cap : Nat) (l : List Bi) (n : Nat) (s : ByteArray) (hn : l.length = n) (hv : VwI w a cap l) (hm : ∀ c ∈ l, c.n.size ≤ 9223372036854775806) (hl : n ≤ 4194304) :
    Calls Tryz.prog 26 #[.slice a n cap, .string s] w (CbPost w.heap.size (cbP l s) w) := by
  have HV := Lib.hid hv; clear hv
  cases hok : okI l
  · have HE := Lib.hid (cbP_no (n := s) hok)
    have HBK := Lib.hid (specBins2_is hok w a cap n hn HV.out hm hl); clear hok
    go_enter Tryz.func26, Tryz.ntmps26
    go_wp2_with fail
    refine HBK.out.mono ?_; rintro e w1 ⟨rfl, b1⟩
    have B1 := Lib.hid b1; clear b1
    go_wp2_with fail
    go_ret
    exact ⟨_, rfl, by rw [HE.out]; exact OwI.start B1.out.size, B1.out.alloc B1.out.size _⟩
  · have HOK := Lib.hid hok
    have hl12 : n ≤ 12 := by rw [← hn]; exact (okI_iff.1 hok).1
    have HE := Lib.hid (cbP_yes (n := s) hok)
    have HBK := Lib.hid (specBins2_is hok w a cap n hn HV.out hm hl); clear hok
    go_enter Tryz.func26, Tryz.ntmps26
    go_wp2_with fail
    refine HBK.out.mono ?_; rintro e w1 ⟨rfl, b1⟩
    have B1 := Lib.hid b1; clear b1
    go_wp2_with fail
    refine (l7Copy_any w1 a cap l n hn (HV.out.below B1.out) (by omega)).mono ?_; rintro e w2 ⟨v, rfl, o2, b2⟩
    have B2 := Lib.hid (bel_tr B1.out b2 (Nat.le_refl _))
    have HS := Lib.hid (l7Cut_any w2 v l s (o2.mono B1.out.size) B2.out.size (by omega))
    obtain ⟨va, vc, rfl, -⟩ := o2.view
    clear o2 b2
    rw [hn] at HS ⊢
    go_wp2_with fail
    refine HS.out.mono ?_; rintro e w3 ⟨v3, rfl, o3, b3⟩
    have B3 := Lib.hid (B2.out.trans b3)
    have O3 := Lib.hid o3
    obtain ⟨v3a, v3c, rfl, -⟩ := o3.view
    clear o3 b3
    rw [← HE.out] at O3 ⊢
    generalize (cbP l s).length = L3 at *
    go_wp2_with fail
    go_ret
    exact ⟨_, rfl, O3.out, B3.out⟩
end Go.Proofs.YtfnnoehpahdgcaaGreatDoor.Cl
