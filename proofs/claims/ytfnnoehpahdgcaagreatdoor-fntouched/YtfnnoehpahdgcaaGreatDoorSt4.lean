/-
  Texts of mine, joined (part 4 of 11): what the law at hand reaches of them; each text's own words stand in the verifier's repo.
-/
import Derived.Test.YtfnnoehpahdgcaaGreatDoorSt3
import Derived.Test.YtfnnoehpahdgcaaGreatDoorRows
import Derived.WalkKit
import Derived.IntWalk
import Derived.Laws.Bits128
import Derived.Lib.Hide
import Derived.Lib.ParseIntBTie
import Derived.Lib.ParseIntBCases
import Derived.Lib.ItoaMem
import Derived.Lib.IndexMore
import Derived.Lib.Repeat
import Derived.WalkSpells
import Derived.Below
import Derived.Carry
import Derived.WalkSmall
import Derived.Laws.Closers25b
import Derived.Lib.Strings
import Derived.Lib.SmallJoins
import Derived.Lib.AppendIntMem
import Derived.Maps.AppendAt
import Derived.OwnWalk
import Derived.WalkLawsBesides
import Derived.Deep.QuietTactic
import Derived.BigQuiet
import Derived.Deep.RegionHeld3
import Derived.Laws.OwnMore
import Derived.Laws.StructEq
import Derived.BigFrame
import Derived.Deep.Upon
import Derived.Laws.CopyRow
import Derived.Laws.BytesArg
import Derived.RowKit3
import Derived.Shelf.Strconv.Itoa4
import Derived.Shelf.Strconv.ParseIntPublic10
import Derived.Shelf.Strconv.ErrVarParseInt
import Derived.Test.YtfnnoehpahdgcaaGreatDoorProg
import Derived.LaidMore
import Derived.Stop.LaidErr
import Derived.Lib.LaidTab
import Derived.RangeFuncWrites
import Derived.RangeFuncCalls
import Derived.RangeFuncBox
import Derived.RangeFuncNested
import Derived.RangeFuncLeaves
import Derived.Shelf.Abstract
import Derived.Shelf.RegionOpen
import Derived.OwnWalkIn
import Derived.TacticsInMore
import Derived.LoopNIn
import Derived.LoopIn
import Derived.Lib.Bytealg
import Derived.Deep.LoopGhost
import Derived.Lib.AtoiErrMem
import Derived.OpenShut
import Derived.Lib.ConvBytes
import Derived.Deep.RegionLaw
import Derived.Deep.AppendLies
import Derived.Lib.AppendZeros
import Derived.Defers
import Derived.Recover
import Derived.Lib.ItoaLen
import Derived.Sort.Walk0
import Derived.Lib.SlicesCompact
import Derived.ProofKit
import Derived.Handed
import Derived.SizedLaws
import Derived.ShutString
import Derived.Deep.Slices
import Derived.Deep.Fields
import Derived.ChangeSame
namespace Go.Proofs.YtfnnoehpahdgcaaGreatDoor.Cl
set_option linter.unusedVariables false
open Go.RowKit Wd Rp Kp
theorem valL_succ {n : ByteArray} {l : List Bi} {k : Nat} {c : Bi} (hc : l[k]? = some c) (h : ∀ (j : Nat) (d : Bi), j < k → l[j]? = some d → (d.n.toList == n.toList) = false) (hn : (c.n.toList == n.toList) = false) : ∀ (j : Nat) (d : Bi), j < k + 1 → l[j]? = some d → (d.n.toList == n.toList) = false := fun j d hj hd => by
  by_cases e : j = k
  · subst e; rw [hc] at hd; cases hd; exact hn
  · exact h j d (by omega) hd
set_option maxHeartbeats 4000000 in
set_option maxRecDepth 100000 in
theorem specValue_any (w : World) (a : Option Addr) (cap : Nat) (l : List Bi) (n : Nat) (s : ByteArray) (hn : l.length = n) (hv : VwI w a cap l) (hl : n ≤ 4194304) :
    Calls Tryz.prog 23 #[.slice a n cap, .string s] w fun e w' => e = .returned (.tuple #[.int .i64 (valL s l).1, .bool (valL s l).2]) ∧ Below w.heap.size w w' := by
  have HV := Lib.hid hv; clear hv
  have HN := Lib.hid hn; clear hn
  go_enter Tryz.func23, Tryz.ntmps23
  go_wp2_with fail
  go_loopw [6] (fun i wr => ∃ k : Nat, k ≤ n ∧ i = .int .i64 k ∧ (∀ (j : Nat) (d : Bi), j < k → l[j]? = some d → (d.n.toList == s.toList) = false) ∧ Below w.heap.size w wr) (fun i _ => n - intV i)
  case atStart => exact ⟨0, Nat.zero_le _, rfl, (fun j c hj => by omega), Below.refl _ _⟩
  case round =>
    obtain ⟨k, hk, rfl, hlo, hbel⟩ := hrel
    have HB := Lib.hid hbel; clear hbel
    have HLO := Lib.hid hlo; clear hlo
    by_cases hlt : k < n
    · obtain ⟨c, hc⟩ : ∃ c, l[k]? = some c := ⟨l[k]'(by have := HN.out; omega), List.getElem?_eq_getElem _⟩
      obtain ⟨g, o, rfl, hg, h5⟩ := HV.out.2.2.2 k c hc
      obtain ⟨c0, c1⟩ : At2 wr g (o + k * 2) c := h5.same (HB.out.block g hg)
      have HC := Lib.hid hc; clear hc h5 hg
      cases he : (c.n.toList == s.toList)
      · have HL2 := Lib.hid (valL_succ HC.out HLO.out he)
        go_wp2_with fail
        go_roundw
        case rel => exact ⟨k + 1, by omega, by go_num, HL2.out, HB.out⟩
        case measure => simp [intV]; omega
      · have HE := Lib.hid (valL_at HC.out HLO.out he)
        go_wp2_with fail
        refine bodyPost_ret (v := .tuple #[.int .i64 c.v, .bool true]) (by simp [results, Tryz.results23, go_sem]) rfl ⟨by rw [HE.out], HB.out⟩
    · obtain rfl : k = n := by omega
      have HE := Lib.hid (valL_none (n := s) (l := l) fun j d hd => HLO.out j d (by have := (List.getElem?_eq_some_iff.1 hd).1; have := HN.out; omega) hd)
      go_wp2_with fail
      refine bodyPost_ret (v := .tuple #[.int .i64 0, .bool false]) (by simp [results, Tryz.results23, go_sem]) rfl ⟨by rw [HE.out], HB.out⟩
def fstL (n : ByteArray) : List Bi → Bi × Bool
  | [] => (zi, false)
  | c :: r => if c.n.toList == n.toList then (c, true) else fstL n r
theorem fstL_at {n : ByteArray} : ∀ {l : List Bi} {k : Nat} {c : Bi}, l[k]? = some c → (∀ (j : Nat) (d : Bi), j < k → l[j]? = some d → (d.n.toList == n.toList) = false) → (c.n.toList == n.toList) = true → fstL n l = (c, true)
  | [], k, c, h, _, _ => by simp at h
  | d :: r, 0, c, h, _, e => by
    simp at h; subst h
    rw [fstL, if_pos e]
  | d :: r, k + 1, c, h, hn, e => by
    rw [fstL, if_neg (by rw [hn 0 d (by omega) rfl]; decide)]
    exact fstL_at (l := r) (by simpa using h) (fun j x hj hx => hn (j + 1) x (by omega) (by simpa using hx)) e
theorem fstL_none {n : ByteArray} : ∀ {l : List Bi}, (∀ (j : Nat) (d : Bi), l[j]? = some d → (d.n.toList == n.toList) = false) → fstL n l = (zi, false)
  | [], _ => rfl
  | d :: r, h => by
    rw [fstL, if_neg (by rw [h 0 d rfl]; decide)]
    exact fstL_none (l := r) fun j x hx => h (j + 1) x (by simpa using hx)
theorem fstL_val (n : ByteArray) : ∀ l : List Bi, valL n l = ((fstL n l).1.v, (fstL n l).2)
  | [] => rfl
  | c :: r => by
    rw [valL, fstL]; split
    · rfl
    · exact fstL_val n r
set_option maxHeartbeats 4000000 in
set_option maxRecDepth 100000 in
theorem first_any (w : World) (a : Option Addr) (cap : Nat) (l : List Bi) (n : Nat) (s : ByteArray) (hn : l.length = n) (hv : VwI w a cap l) (hl : n ≤ 4194304) :
    Calls Tryz.prog 158 #[.slice a n cap, .string s] w fun e w' => e = .returned (.tuple #[.agg #[.string (fstL s l).1.n, .int .i64 (fstL s l).1.v], .bool (fstL s l).2]) ∧ Below w.heap.size w w' := by
  have HV := Lib.hid hv; clear hv
  have HN := Lib.hid hn; clear hn
  have HZ := Lib.hid (new_of w (.cells #[.string ⟨#[]⟩, .int .i64 0] 44))
  have H0 := Lib.hid (bel1 w (.cells #[.string ⟨#[]⟩, .int .i64 0] 44))
  have hz0 : (w.alloc (.cells #[.string ⟨#[]⟩, .int .i64 0] 44)).heap.size = w.heap.size + 1 := by simp
  go_enter Tryz.func158, Tryz.ntmps158
  go_wp2_with fail
  generalize hq : w.heap.size = q at *
  generalize w.alloc (.cells #[.string ⟨#[]⟩, .int .i64 0] 44) = w0 at *
  go_loopw [11] (fun i wr => ∃ k : Nat, k ≤ n ∧ i = .int .i64 k ∧ (∀ (j : Nat) (d : Bi), j < k → l[j]? = some d → (d.n.toList == s.toList) = false) ∧ Below (q + 1) w0 wr) (fun i _ => n - intV i)
  case atStart => exact ⟨0, Nat.zero_le _, rfl, (fun j c hj => by omega), Below.refl _ _⟩
  case round =>
    obtain ⟨k, hk, rfl, hlo, hbel⟩ := hrel
    have HB := Lib.hid hbel
    have HBB := Lib.hid (H0.out.trans (hbel.mono (by omega))); clear hbel
    have HLO := Lib.hid hlo; clear hlo
    have hz1 : q + 1 ≤ wr.heap.size := by have := HB.out.size; omega
    have HZZ := Lib.hid (show wr.heap[q]? = _ from (HB.out.block q (by omega)).trans HZ.out)
    by_cases hlt : k < n
    · obtain ⟨c, hc⟩ : ∃ c, l[k]? = some c := ⟨l[k]'(by have := HN.out; omega), List.getElem?_eq_getElem _⟩
      obtain ⟨g, o, rfl, hg, h5⟩ := HV.out.2.2.2 k c hc
      obtain ⟨c0, c1⟩ : At2 wr g (o + k * 2) c := h5.same (HBB.out.block g (by omega))
      have HC := Lib.hid hc; clear hc h5 hg
      have HW := Lib.hid (bel1 wr (.cells #[.string c.n, .int .i64 c.v] 44))
      have HX := Lib.hid (new_of wr (.cells #[.string c.n, .int .i64 c.v] 44))
      have hmn := m_name c.n c.v
      have hen := e_name
      cases he : (c.n.toList == s.toList)
      · have HL2 := Lib.hid (valL_succ HC.out HLO.out he)
        go_wp2_with fail
        refine (nameB_any c.n c.v _).mono ?_; rintro e w2 ⟨rfl, b2⟩
        have B2 := Lib.hid (bel_tr HW.out b2 (Nat.le_refl _)); clear b2
        go_wp2_with fail
        go_roundw
        case rel => exact ⟨k + 1, by omega, by go_num, HL2.out, HB.out.trans (B2.out.mono hz1)⟩
        case measure => simp [intV]; omega
      · have HE := Lib.hid (fstL_at HC.out HLO.out he)
        go_wp2_with fail
        refine (nameB_any c.n c.v _).mono ?_; rintro e w2 ⟨rfl, b2⟩
        have B2 := Lib.hid (bel_tr HW.out b2 (Nat.le_refl _))
        obtain ⟨x0, x1, -, -⟩ := two_cells ((b2.block wr.heap.size (by simp)).trans HX.out)
        obtain ⟨z0, z1, f0, f1⟩ := two_cells ((B2.out.block q (by omega)).trans HZZ.out)
        have nn : wr.heap.size ≠ q := by omega
        have hqs : q < w2.heap.size := by have := B2.out.size; omega
        generalize wr.heap.size = wrs at *
        clear b2 c0 c1
        go_wp2_with fail
        refine bodyPost_ret (v := .tuple #[.agg #[.string c.n, .int .i64 c.v], .bool true]) (by simp [results, Tryz.results158, go_sem, z0, z1]) rfl ⟨by rw [HE.out], ?_⟩
        rw [hq]
        exact (HBB.out.trans (B2.out.mono (by omega))).setCell (p := ⟨q, 0, none⟩) (Nat.le_refl _) _ |>.setCell (p := ⟨q, 1, none⟩) (Nat.le_refl _) _
    · obtain rfl : k = n := by omega
      have HE := Lib.hid (fstL_none (n := s) (l := l) fun j d hd => HLO.out j d (by have := (List.getElem?_eq_some_iff.1 hd).1; have := HN.out; omega) hd)
      have HW := Lib.hid (bel1 wr (.cells #[.string ⟨#[]⟩, .int .i64 0] 44))
      obtain ⟨z0, z1, f0, f1⟩ := two_cells ((HW.out.block q (by omega)).trans HZZ.out)
      have nn : wr.heap.size ≠ q := by omega
      go_wp2_with fail
      refine bodyPost_ret (v := .tuple #[.agg #[.string ⟨#[]⟩, .int .i64 0], .bool false]) (by simp [results, Tryz.results158, go_sem, z0, z1]) rfl ⟨by rw [HE.out]; rfl, ?_⟩
      rw [hq]
      exact (HBB.out.trans (HW.out.mono (by omega))).setCell (p := ⟨q, 0, none⟩) (Nat.le_refl _) _ |>.setCell (p := ⟨q, 1, none⟩) (Nat.le_refl _) _
set_option maxHeartbeats 4000000 in
set_option maxRecDepth 100000 in
theorem implValue_any (w : World) (a : Option Addr) (cap : Nat) (l : List Bi) (n : Nat) (s : ByteArray) (hn : l.length = n) (hv : VwI w a cap l) (hl : n ≤ 4194304) :
    Calls Tryz.prog 148 #[.slice a n cap, .string s] w fun e w' => e = .returned (.tuple #[.int .i64 (valL s l).1, .bool (valL s l).2]) ∧ Below w.heap.size w w' := by
  have HF := Lib.hid (first_any w a cap l n s hn hv hl); clear hv
  have HV := Lib.hid (fstL_val s l)
  generalize fstL s l = x at *
  obtain ⟨⟨xn, xv⟩, xb⟩ := x
  go_enter Tryz.func148, Tryz.ntmps148
  go_wp2_with fail
  refine HF.out.mono ?_; rintro e w1 ⟨rfl, b1⟩
  have B1 := Lib.hid (bel_tr b1 (bel1 w1 (.cells #[.string xn, .int .i64 xv] 44)) (Nat.le_refl _)); clear b1
  go_wp2_with fail
  refine bodyPost_ret (v := .tuple #[.int .i64 xv, .bool xb]) (by simp [results, Tryz.results148, go_sem]) rfl ⟨by rw [HV.out], B1.out⟩
set_option maxHeartbeats 4000000 in
set_option maxRecDepth 100000 in
theorem l7Find_any (w : World) (a : Option Addr) (cap : Nat) (l : List Bi) (n : Nat) (s : ByteArray) (hn : l.length = n) (hv : VwI w a cap l) (hl : n ≤ 4194304) :
    Calls Tryz.prog 91 #[.slice a n cap, .string s] w fun e w' => e = .returned (.tuple #[.int .i64 (cntI s l : Nat), .bool (isAt s l)]) ∧ Below w.heap.size w w' := by
  have HV := Lib.hid hv; clear hv
  have HN := Lib.hid hn; clear hn
  go_enter Tryz.func91, Tryz.ntmps91
  go_wp2_with fail
  go_loopw [6] (fun i wr => ∃ k : Nat, k ≤ n ∧ i = .int .i64 k ∧ (∀ (j : Nat) (d : Bi), j < k → l[j]? = some d → Op.bytesLess d.n.toList s.toList = true) ∧ Below w.heap.size w wr) (fun i _ => n - intV i)
  case atStart => exact ⟨0, Nat.zero_le _, rfl, (fun j c hj => by omega), Below.refl _ _⟩
  case round =>
    obtain ⟨k, hk, rfl, hlo, hbel⟩ := hrel
    have HB := Lib.hid hbel; clear hbel
    have HLO := Lib.hid hlo; clear hlo
    by_cases hlt : k < n
    · obtain ⟨c, hc⟩ : ∃ c, l[k]? = some c := ⟨l[k]'(by have := HN.out; omega), List.getElem?_eq_getElem _⟩
      obtain ⟨g, o, rfl, hg, h5⟩ := HV.out.2.2.2 k c hc
      obtain ⟨c0, c1⟩ : At2 wr g (o + k * 2) c := h5.same (HB.out.block g hg)
      have hg' : g < wr.heap.size := Nat.lt_of_lt_of_le hg HB.out.size
      have HC := Lib.hid hc; clear hc h5 hg
      have i1 : (k : Int) < (n : Int) := by omega
      have i2 : (0 : Int) ≤ (k : Int) := by omega
      have i3 : (n : Int) ≤ 4194304 := by omega
      have i4 : decide ((k : Int) < (n : Int)) = true := decide_eq_true i1
      have i5 : decide (k < n) = true := decide_eq_true hlt
      cases he : Op.bytesLess c.n.toList s.toList
      · have HE := Lib.hid (show cntI s l = k from cntI_eq (by rw [HN.out]; exact hk) HLO.out (fun d hd => by rw [HC.out] at hd; cases hd; exact he))
        have HA := Lib.hid (show isAt s l = (c.n.toList == s.toList) from isAt_some (by rw [HE.out]; exact HC.out))
        cases hq : (c.n.toList == s.toList)
        · skip
          rw [hq] at HA
          have SOF := Lib.hid (show ∀ z, Below wr.heap.size wr z → (z.cell? ⟨g, o + k * 2, none⟩ = some (.string c.n) ∧ z.cell? ⟨g, o + k * 2 + 1, none⟩ = some (.int .i64 c.v) ∧ Below wr.heap.size wr z) from fun z hz => ⟨coc hz hg' c0, coc hz hg' c1,  hz⟩)
          go_wp2_with fail
          clear c0 c1
          refine wp_region_held_drew (S := fun z => z.cell? ⟨g, o + k * 2, none⟩ = some (.string c.n) ∧ z.cell? ⟨g, o + k * 2 + 1, none⟩ = some (.int .i64 c.v) ∧ Below wr.heap.size wr z) (by kernel_rfl) (SOF.out _ (Below.refl _ _).drew) (fun hHeld => ?_)
          refine tkI (i := 0) (v := ?v0a) rfl (Or.inl ⟨by rfl, ?hy0a⟩) ?rest0a
          case hy0a => (intro zz hSw; (try dsimp only at hSw); go_simp; (try with_reducible rfl))
          change wpAnyH _ _ _ _ _ _ _ (Act.put _ (some 22) _) _
          simp only [Act.put, List.setIfInBounds_toArray, List.set_cons_zero, List.set_cons_succ]
          refine tkI (i := 1) (v := ?v1a) rfl (Or.inl ⟨by rfl, ?hy1a⟩) ?rest1a
          case hy1a => (intro zz hSw; (try dsimp only at hSw); go_simp; (try with_reducible rfl))
          change wpAnyH _ _ _ _ _ _ _ (Act.put _ (some 23) _) _
          simp only [Act.put, List.setIfInBounds_toArray, List.set_cons_zero, List.set_cons_succ]
          refine tkI (i := 2) (v := ?v2a) rfl (Or.inl ⟨by rfl, ?hy2a⟩) ?rest2a
          case hy2a => (intro zz hSw; (try dsimp only at hSw); go_simp; (try with_reducible rfl))
          change wpAnyH _ _ _ _ _ _ _ (Act.put _ (some 24) _) _
          simp only [Act.put, List.setIfInBounds_toArray, List.set_cons_zero, List.set_cons_succ]
          refine tkI (i := 3) (v := ?v3a) rfl (Or.inl ⟨by rfl, ?hy3a⟩) ?rest3a
          case hy3a => (intro zz hSw; (try dsimp only at hSw); go_simp; (try with_reducible rfl))
          change wpAnyH _ _ _ _ _ _ _ (Act.put _ (some 25) _) _
          simp only [Act.put, List.setIfInBounds_toArray, List.set_cons_zero, List.set_cons_succ]
          refine tkI (i := 4) (v := ?v4a) rfl (Or.inl ⟨by rfl, ?hy4a⟩) ?rest4a
          case hy4a => (intro zz hSw; (try dsimp only at hSw); go_simp; (try with_reducible rfl))
          change wpAnyH _ _ _ _ _ _ _ (Act.put _ (some 26) _) _
          simp only [Act.put, List.setIfInBounds_toArray, List.set_cons_zero, List.set_cons_succ]
          refine tkI (i := 5) (v := ?v5a) rfl (Or.inl ⟨by rfl, ?hy5a⟩) ?rest5a
          case hy5a => (intro zz hSw; (try dsimp only at hSw); go_simp; (try with_reducible rfl))
          change wpAnyH _ _ _ _ _ _ _ (Act.put _ (some 27) _) _
          simp only [Act.put, List.setIfInBounds_toArray, List.set_cons_zero, List.set_cons_succ]
          refine tkI (i := 6) (v := ?v6a) rfl (Or.inl ⟨by rfl, ?hy6a⟩) ?rest6a
          case hy6a => (intro zz hSw; (try dsimp only at hSw); go_simp; (try with_reducible rfl))
          change wpAnyH _ _ _ _ _ _ _ (Act.put _ (some 28) _) _
          simp only [Act.put, List.setIfInBounds_toArray, List.set_cons_zero, List.set_cons_succ]
          refine tkI (i := 7) (v := ?v7a) rfl (Or.inl ⟨by rfl, ?hy7a⟩) ?rest7a
          case hy7a => (intro zz hSw; (try dsimp only at hSw); go_simp; (try with_reducible rfl))
          change wpAnyH _ _ _ _ _ _ _ (Act.put _ (some 29) _) _
          simp only [Act.put, List.setIfInBounds_toArray, List.set_cons_zero, List.set_cons_succ]
          refine tkI (i := 8) (v := ?v8a) rfl (Or.inl ⟨by rfl, ?hy8a⟩) ?rest8a
          case hy8a => (intro zz hSw; (try dsimp only at hSw); go_simp; (try with_reducible rfl))
          change wpAnyH _ _ _ _ _ _ _ (Act.put _ (some 30) _) _
          simp only [Act.put, List.setIfInBounds_toArray, List.set_cons_zero, List.set_cons_succ]
          refine tkI (i := 9) (v := ?v9a) rfl (Or.inl ⟨by rfl, ?hy9a⟩) ?rest9a
          case hy9a => (intro zz hSw; (try dsimp only at hSw); go_simp; (try with_reducible rfl))
          change wpAnyH _ _ _ _ _ _ _ (Act.put _ (some 31) _) _
          simp only [Act.put, List.setIfInBounds_toArray, List.set_cons_zero, List.set_cons_succ]
          refine tkI (i := 10) (v := ?v10a) rfl (Or.inl ⟨by rfl, ?hy10a⟩) ?rest10a
          case hy10a => (intro zz hSw; (try dsimp only at hSw); go_simp; (try with_reducible rfl))
          change wpAnyH _ _ _ _ _ _ _ (Act.put _ (some 32) _) _
          simp only [Act.put, List.setIfInBounds_toArray, List.set_cons_zero, List.set_cons_succ]
          refine tkI (i := 11) (v := ?v11a) rfl (Or.inl ⟨by rfl, ?hy11a⟩) ?rest11a
          case hy11a => (intro zz hSw; (try dsimp only at hSw); go_simp; (try with_reducible rfl))
          change wpAnyH _ _ _ _ _ _ _ (Act.put _ (some 33) _) _
          simp only [Act.put, List.setIfInBounds_toArray, List.set_cons_zero, List.set_cons_succ]
          refine tkI (i := 12) (v := ?v12a) rfl (Or.inl ⟨by rfl, ?hy12a⟩) ?rest12a
          case hy12a => (intro zz hSw; (try dsimp only at hSw); go_simp; (try with_reducible rfl))
          change wpAnyH _ _ _ _ _ _ _ (Act.put _ (some 34) _) _
          simp only [Act.put, List.setIfInBounds_toArray, List.set_cons_zero, List.set_cons_succ]
          refine tkI (i := 13) (v := ?v13a) rfl (Or.inl ⟨by rfl, ?hy13a⟩) ?rest13a
          case hy13a => (intro zz hSw; (try dsimp only at hSw); go_simp; (try with_reducible rfl))
          change wpAnyH _ _ _ _ _ _ _ (Act.put _ (some 35) _) _
          simp only [Act.put, List.setIfInBounds_toArray, List.set_cons_zero, List.set_cons_succ]
          refine tkI (i := 14) (v := ?v14a) rfl (Or.inl ⟨by rfl, ?hy14a⟩) ?rest14a
          case hy14a => (intro zz hSw; (try dsimp only at hSw); go_simp; (try with_reducible rfl))
          change wpAnyH _ _ _ _ _ _ _ (Act.put _ (some 4) _) _
          simp only [Act.put, List.setIfInBounds_toArray, List.set_cons_zero, List.set_cons_succ]
          refine tkI (i := 15) (v := ?v15a) rfl (Or.inl ⟨by rfl, ?hy15a⟩) ?rest15a
          case hy15a => (intro zz hSw; (try dsimp only at hSw); go_simp; (try with_reducible rfl))
          change wpAnyH _ _ _ _ _ _ _ (Act.put _ (some 5) _) _
          simp only [Act.put, List.setIfInBounds_toArray, List.set_cons_zero, List.set_cons_succ]
          refine wpAnyH_done (by kernel_rfl) ?_ _
          have BX := Lib.hid hHeld.2.2; clear hHeld SOF
          generalize wr.drew = w9 at *
          go_wp2_with fail
          refine bodyPost_ret (v := .tuple #[.int .i64 (k : Int), .bool false]) (by simp [results, Tryz.results91, go_sem]) rfl ⟨by rw [HE.out, HA.out], bel_tr HB.out BX.out (Nat.le_refl _)⟩
        · skip
          rw [hq] at HA
          have SOF := Lib.hid (show ∀ z, Below wr.heap.size wr z → (z.cell? ⟨g, o + k * 2, none⟩ = some (.string c.n) ∧ z.cell? ⟨g, o + k * 2 + 1, none⟩ = some (.int .i64 c.v) ∧ Below wr.heap.size wr z) from fun z hz => ⟨coc hz hg' c0, coc hz hg' c1,  hz⟩)
          go_wp2_with fail
          clear c0 c1
          refine wp_region_held_drew (S := fun z => z.cell? ⟨g, o + k * 2, none⟩ = some (.string c.n) ∧ z.cell? ⟨g, o + k * 2 + 1, none⟩ = some (.int .i64 c.v) ∧ Below wr.heap.size wr z) (by kernel_rfl) (SOF.out _ (Below.refl _ _).drew) (fun hHeld => ?_)
          refine tkI (i := 0) (v := ?v0b) rfl (Or.inl ⟨by rfl, ?hy0b⟩) ?rest0b
          case hy0b => (intro zz hSw; (try dsimp only at hSw); go_simp; (try with_reducible rfl))
          change wpAnyH _ _ _ _ _ _ _ (Act.put _ (some 22) _) _
          simp only [Act.put, List.setIfInBounds_toArray, List.set_cons_zero, List.set_cons_succ]
          refine tkI (i := 1) (v := ?v1b) rfl (Or.inl ⟨by rfl, ?hy1b⟩) ?rest1b
          case hy1b => (intro zz hSw; (try dsimp only at hSw); go_simp; (try with_reducible rfl))
          change wpAnyH _ _ _ _ _ _ _ (Act.put _ (some 23) _) _
          simp only [Act.put, List.setIfInBounds_toArray, List.set_cons_zero, List.set_cons_succ]
          refine tkI (i := 2) (v := ?v2b) rfl (Or.inl ⟨by rfl, ?hy2b⟩) ?rest2b
          case hy2b => (intro zz hSw; (try dsimp only at hSw); go_simp; (try with_reducible rfl))
          change wpAnyH _ _ _ _ _ _ _ (Act.put _ (some 24) _) _
          simp only [Act.put, List.setIfInBounds_toArray, List.set_cons_zero, List.set_cons_succ]
          refine tkI (i := 3) (v := ?v3b) rfl (Or.inl ⟨by rfl, ?hy3b⟩) ?rest3b
          case hy3b => (intro zz hSw; (try dsimp only at hSw); go_simp; (try with_reducible rfl))
          change wpAnyH _ _ _ _ _ _ _ (Act.put _ (some 25) _) _
          simp only [Act.put, List.setIfInBounds_toArray, List.set_cons_zero, List.set_cons_succ]
          refine tkI (i := 4) (v := ?v4b) rfl (Or.inl ⟨by rfl, ?hy4b⟩) ?rest4b
          case hy4b => (intro zz hSw; (try dsimp only at hSw); go_simp; (try with_reducible rfl))
          change wpAnyH _ _ _ _ _ _ _ (Act.put _ (some 26) _) _
          simp only [Act.put, List.setIfInBounds_toArray, List.set_cons_zero, List.set_cons_succ]
          refine tkI (i := 5) (v := ?v5b) rfl (Or.inl ⟨by rfl, ?hy5b⟩) ?rest5b
          case hy5b => (intro zz hSw; (try dsimp only at hSw); go_simp; (try with_reducible rfl))
          change wpAnyH _ _ _ _ _ _ _ (Act.put _ (some 27) _) _
          simp only [Act.put, List.setIfInBounds_toArray, List.set_cons_zero, List.set_cons_succ]
          refine tkI (i := 6) (v := ?v6b) rfl (Or.inl ⟨by rfl, ?hy6b⟩) ?rest6b
          case hy6b => (intro zz hSw; (try dsimp only at hSw); go_simp; (try with_reducible rfl))
          change wpAnyH _ _ _ _ _ _ _ (Act.put _ (some 28) _) _
          simp only [Act.put, List.setIfInBounds_toArray, List.set_cons_zero, List.set_cons_succ]
          refine tkI (i := 7) (v := ?v7b) rfl (Or.inl ⟨by rfl, ?hy7b⟩) ?rest7b
          case hy7b => (intro zz hSw; (try dsimp only at hSw); go_simp; (try with_reducible rfl))
          change wpAnyH _ _ _ _ _ _ _ (Act.put _ (some 29) _) _
          simp only [Act.put, List.setIfInBounds_toArray, List.set_cons_zero, List.set_cons_succ]
          refine tkI (i := 8) (v := ?v8b) rfl (Or.inl ⟨by rfl, ?hy8b⟩) ?rest8b
          case hy8b => (intro zz hSw; (try dsimp only at hSw); go_simp; (try with_reducible rfl))
          change wpAnyH _ _ _ _ _ _ _ (Act.put _ (some 30) _) _
          simp only [Act.put, List.setIfInBounds_toArray, List.set_cons_zero, List.set_cons_succ]
          refine tkI (i := 9) (v := ?v9b) rfl (Or.inl ⟨by rfl, ?hy9b⟩) ?rest9b
          case hy9b => (intro zz hSw; (try dsimp only at hSw); go_simp; (try with_reducible rfl))
          change wpAnyH _ _ _ _ _ _ _ (Act.put _ (some 31) _) _
          simp only [Act.put, List.setIfInBounds_toArray, List.set_cons_zero, List.set_cons_succ]
          refine tkI (i := 10) (v := ?v10b) rfl (Or.inl ⟨by rfl, ?hy10b⟩) ?rest10b
          case hy10b => (intro zz hSw; (try dsimp only at hSw); go_simp; (try with_reducible rfl))
          change wpAnyH _ _ _ _ _ _ _ (Act.put _ (some 32) _) _
          simp only [Act.put, List.setIfInBounds_toArray, List.set_cons_zero, List.set_cons_succ]
          refine tkI (i := 11) (v := ?v11b) rfl (Or.inl ⟨by rfl, ?hy11b⟩) ?rest11b
          case hy11b => (intro zz hSw; (try dsimp only at hSw); go_simp; (try with_reducible rfl))
          change wpAnyH _ _ _ _ _ _ _ (Act.put _ (some 33) _) _
          simp only [Act.put, List.setIfInBounds_toArray, List.set_cons_zero, List.set_cons_succ]
          refine tkI (i := 12) (v := ?v12b) rfl (Or.inl ⟨by rfl, ?hy12b⟩) ?rest12b
          case hy12b => (intro zz hSw; (try dsimp only at hSw); go_simp; (try with_reducible rfl))
          change wpAnyH _ _ _ _ _ _ _ (Act.put _ (some 34) _) _
          simp only [Act.put, List.setIfInBounds_toArray, List.set_cons_zero, List.set_cons_succ]
          refine tkI (i := 13) (v := ?v13b) rfl (Or.inl ⟨by rfl, ?hy13b⟩) ?rest13b
          case hy13b => (intro zz hSw; (try dsimp only at hSw); go_simp; (try with_reducible rfl))
          change wpAnyH _ _ _ _ _ _ _ (Act.put _ (some 35) _) _
          simp only [Act.put, List.setIfInBounds_toArray, List.set_cons_zero, List.set_cons_succ]
          refine tkI (i := 14) (v := ?v14b) rfl (Or.inl ⟨by rfl, ?hy14b⟩) ?rest14b
          case hy14b => (intro zz hSw; (try dsimp only at hSw); go_simp; (try with_reducible rfl))
          change wpAnyH _ _ _ _ _ _ _ (Act.put _ (some 4) _) _
          simp only [Act.put, List.setIfInBounds_toArray, List.set_cons_zero, List.set_cons_succ]
          refine tkI (i := 15) (v := ?v15b) rfl (Or.inl ⟨by rfl, ?hy15b⟩) ?rest15b
          case hy15b => (intro zz hSw; (try dsimp only at hSw); go_simp; (try with_reducible rfl))
          change wpAnyH _ _ _ _ _ _ _ (Act.put _ (some 5) _) _
          simp only [Act.put, List.setIfInBounds_toArray, List.set_cons_zero, List.set_cons_succ]
          refine wpAnyH_done (by kernel_rfl) ?_ _
          have BX := Lib.hid hHeld.2.2; clear hHeld SOF
          generalize wr.drew = w9 at *
          go_wp2_with fail
          refine bodyPost_ret (v := .tuple #[.int .i64 (k : Int), .bool true]) (by simp [results, Tryz.results91, go_sem]) rfl ⟨by rw [HE.out, HA.out], bel_tr HB.out BX.out (Nat.le_refl _)⟩
      · have HL2 := Lib.hid (show ∀ (j : Nat) (d : Bi), j < k + 1 → l[j]? = some d → Op.bytesLess d.n.toList s.toList = true from fun j d hj hd => by
          by_cases e : j = k
          · subst e; rw [HC.out] at hd; cases hd; exact he
          · exact HLO.out j d (by omega) hd)
        go_wp2_with fail
        go_roundw
        case rel => exact ⟨k + 1, by omega, by go_num, HL2.out, HB.out⟩
        case measure => simp [intV]; omega
    · obtain rfl : k = n := by omega
      have HE := Lib.hid (show cntI s l = k from cntI_eq (by rw [HN.out]; exact hk) HLO.out (fun d hd => by have := (List.getElem?_eq_some_iff.1 hd).1; have := HN.out; omega))
      have HA := Lib.hid (show isAt s l = false from isAt_none (by rw [HE.out, HN.out]; exact Nat.le_refl _))
      have i1 : ¬ (k : Int) < (k : Int) := by omega
      have i4 : decide ((k : Int) < (k : Int)) = false := decide_eq_false i1
      have i5 : decide (k < k) = false := decide_eq_false hlt
      go_wp2_with fail
      refine wp_region_held_drew (S := fun z => Below wr.heap.size wr z) (by kernel_rfl) (Below.refl _ _).drew (fun hHeld => ?_)
      refine tkI (i := 0) (v := ?v0n) rfl (Or.inl ⟨by rfl, ?hy0n⟩) ?rest0n
      case hy0n => (intro zz hSw; (try dsimp only at hSw); go_simp; (try with_reducible rfl))
      change wpAnyH _ _ _ _ _ _ _ (Act.put _ (some 22) _) _
      simp only [Act.put, List.setIfInBounds_toArray, List.set_cons_zero, List.set_cons_succ]
      refine tkI (i := 1) (v := ?v1n) rfl (Or.inl ⟨by rfl, ?hy1n⟩) ?rest1n
      case hy1n => (intro zz hSw; (try dsimp only at hSw); go_simp; (try with_reducible rfl))
      change wpAnyH _ _ _ _ _ _ _ (Act.put _ (some 23) _) _
      simp only [Act.put, List.setIfInBounds_toArray, List.set_cons_zero, List.set_cons_succ]
      refine tkI (i := 2) (v := ?v2n) rfl (Or.inl ⟨by rfl, ?hy2n⟩) ?rest2n
      case hy2n => (intro zz hSw; (try dsimp only at hSw); go_simp; (try with_reducible rfl))
      change wpAnyH _ _ _ _ _ _ _ (Act.put _ (some 24) _) _
      simp only [Act.put, List.setIfInBounds_toArray, List.set_cons_zero, List.set_cons_succ]
      refine tkI (i := 3) (v := ?v3n) rfl (Or.inl ⟨by rfl, ?hy3n⟩) ?rest3n
      case hy3n => (intro zz hSw; (try dsimp only at hSw); go_simp; (try with_reducible rfl))
      change wpAnyH _ _ _ _ _ _ _ (Act.put _ (some 25) _) _
      simp only [Act.put, List.setIfInBounds_toArray, List.set_cons_zero, List.set_cons_succ]
      refine tkI (i := 4) (v := ?v4n) rfl (Or.inl ⟨by rfl, ?hy4n⟩) ?rest4n
      case hy4n => (intro zz hSw; (try dsimp only at hSw); go_simp; (try with_reducible rfl))
      change wpAnyH _ _ _ _ _ _ _ (Act.put _ (some 26) _) _
      simp only [Act.put, List.setIfInBounds_toArray, List.set_cons_zero, List.set_cons_succ]
      refine tkI (i := 5) (v := ?v5n) rfl (Or.inl ⟨by rfl, ?hy5n⟩) ?rest5n
      case hy5n => (intro zz hSw; (try dsimp only at hSw); go_simp; (try with_reducible rfl))
      change wpAnyH _ _ _ _ _ _ _ (Act.put _ (some 27) _) _
      simp only [Act.put, List.setIfInBounds_toArray, List.set_cons_zero, List.set_cons_succ]
      refine tkI (i := 6) (v := undef) rfl (Or.inr ⟨by rfl, rfl⟩) ?_
      change wpAnyH _ _ _ _ _ _ _ (Act.put _ (some 28) _) _
      simp only [Act.put, List.setIfInBounds_toArray, List.set_cons_zero, List.set_cons_succ]
      refine tkI (i := 7) (v := undef) rfl (Or.inr ⟨by rfl, rfl⟩) ?_
      change wpAnyH _ _ _ _ _ _ _ (Act.put _ (some 29) _) _
      simp only [Act.put, List.setIfInBounds_toArray, List.set_cons_zero, List.set_cons_succ]
      refine tkI (i := 8) (v := undef) rfl (Or.inr ⟨by rfl, rfl⟩) ?_
      change wpAnyH _ _ _ _ _ _ _ (Act.put _ (some 30) _) _
      simp only [Act.put, List.setIfInBounds_toArray, List.set_cons_zero, List.set_cons_succ]
      refine tkI (i := 9) (v := undef) rfl (Or.inr ⟨by rfl, rfl⟩) ?_
      change wpAnyH _ _ _ _ _ _ _ (Act.put _ (some 31) _) _
      simp only [Act.put, List.setIfInBounds_toArray, List.set_cons_zero, List.set_cons_succ]
      refine tkI (i := 10) (v := undef) rfl (Or.inr ⟨by rfl, rfl⟩) ?_
      change wpAnyH _ _ _ _ _ _ _ (Act.put _ (some 32) _) _
      simp only [Act.put, List.setIfInBounds_toArray, List.set_cons_zero, List.set_cons_succ]
      refine tkI (i := 11) (v := undef) rfl (Or.inr ⟨by rfl, rfl⟩) ?_
      change wpAnyH _ _ _ _ _ _ _ (Act.put _ (some 33) _) _
      simp only [Act.put, List.setIfInBounds_toArray, List.set_cons_zero, List.set_cons_succ]
      refine tkI (i := 12) (v := undef) rfl (Or.inr ⟨by rfl, rfl⟩) ?_
      change wpAnyH _ _ _ _ _ _ _ (Act.put _ (some 34) _) _
      simp only [Act.put, List.setIfInBounds_toArray, List.set_cons_zero, List.set_cons_succ]
      refine tkI (i := 13) (v := ?v13n) rfl (Or.inl ⟨by rfl, ?hy13n⟩) ?rest13n
      case hy13n => (intro zz hSw; (try dsimp only at hSw); go_simp; (try with_reducible rfl))
      change wpAnyH _ _ _ _ _ _ _ (Act.put _ (some 35) _) _
      simp only [Act.put, List.setIfInBounds_toArray, List.set_cons_zero, List.set_cons_succ]
      refine tkI (i := 14) (v := ?v14n) rfl (Or.inl ⟨by rfl, ?hy14n⟩) ?rest14n
      case hy14n => (intro zz hSw; (try dsimp only at hSw); go_simp; (try with_reducible rfl))
      change wpAnyH _ _ _ _ _ _ _ (Act.put _ (some 4) _) _
      simp only [Act.put, List.setIfInBounds_toArray, List.set_cons_zero, List.set_cons_succ]
      refine tkI (i := 15) (v := ?v15n) rfl (Or.inl ⟨by rfl, ?hy15n⟩) ?rest15n
      case hy15n => (intro zz hSw; (try dsimp only at hSw); go_simp; (try with_reducible rfl))
      change wpAnyH _ _ _ _ _ _ _ (Act.put _ (some 5) _) _
      simp only [Act.put, List.setIfInBounds_toArray, List.set_cons_zero, List.set_cons_succ]
      refine wpAnyH_done (by kernel_rfl) ?_ _
      have BX := Lib.hid hHeld; clear hHeld
      generalize wr.drew = w9 at *
      go_wp2_with fail
      refine bodyPost_ret (v := .tuple #[.int .i64 (k : Int), .bool false]) (by simp [results, Tryz.results91, go_sem]) rfl ⟨by rw [HE.out, HA.out], bel_tr HB.out BX.out (Nat.le_refl _)⟩
theorem run_append_binsT {w : World} {base : Nat} {v : Value} {a : Option Addr} {cap : Nat} {l m : List Bi} (T : TypeId) (hT : Tryz.prog.underlying T = some (.slice 44)) (ty : TypeId) (hown : OwI base w v l) (hy : VwI w a cap m) (hlen : l.length + m.length ≤ 10000000) (hbase : base ≤ w.heap.size) :
    ∃ v' w', (Builtin.append_ #[T, T] ty #[v, .slice a m.length cap]).run Tryz.prog w = .ok v' w' ∧ OwI base w' v' (l ++ m) ∧ w.grownBy w' v.ownBlock ∧ (v'.ownBlock = v.ownBlock ∨ v'.ownBlock = some w.heap.size) := by
  obtain ⟨i0, hi, hz0, hz1, hz2⟩ := info_parts infoI
  cases a with
  | none =>
    have hc := hy.2.2.1 rfl
    have hm : m = [] := List.length_eq_zero_iff.1 (by have := hy.1; omega)
    subst hm hc
    rw [List.append_nil]
    exact ⟨v, w, run_append_owned_none w base T ty 44 i0 2 hT hi v _ _ hown, hown, World.grownBy.refl _ _, Or.inl rfl⟩
  | some ad =>
    obtain ⟨v', w', hr, h2, h3, h4, h5⟩ := run_append_own_at (P := Tryz.prog) w base T ty 44 i0 _ 2 24 hT hi hz0 hz1 hz2 rfl (by decide) v l.length (flatI l) hown
      ad m.length cap (flatI m) (flatI_len m) (vwI_cells hy) (flatI_one m) (by unfold maxLen; omega) (by omega) hbase
    refine ⟨v', w', hr, ?_, h3, h5⟩
    unfold OwI
    rw [List.length_append, flatI_app]; exact h2
theorem step_append_binsT {ops : Array Oper} {o : Oper} {a : Act} {Q : Exit → Act → World → Prop} {K : Act → World → Prop} {w : World} (hw : Region.wanted o (yielded ops a.tmps) = true) (s x : Operand) (T : TypeId) (hT : Tryz.prog.underlying T = some (.slice 44))
    (ho : o.op = .call { callee := .builtin .append, args := #[s, x], argTypes := #[T, T] })
    {base : Nat} {v : Value} {ad : Option Addr} {cap n : Nat} {l m : List Bi} (hs : a.eval s = v) (hx : a.eval x = .slice ad n cap) (hmn : m.length = n) (hown : OwI base w v l) (hy : VwI w ad cap m) (hlen : l.length + m.length ≤ 10000000) (hbase : base ≤ w.heap.size)
    (h : ∀ v' w', OwI base w' v' (l ++ m) → w.grownBy w' v.ownBlock → (v'.ownBlock = v.ownBlock ∨ v'.ownBlock = some w.heap.size) → K (a.put o.dst v') w') :
    if Region.wanted o (yielded ops a.tmps) = true then Oper.wp Tryz.prog o a w K Q else K (a.put o.dst undef) w := by
  rw [if_pos hw]
  obtain ⟨v', w', hr, h2, h3, h4⟩ := run_append_binsT T hT o.type hown hy hlen hbase
  subst hmn
  unfold Oper.wp execOp
  simp only [ho, resolve, invoke, builtin, Sem.run_bind, Sem.run_pure, Result.andThen_ok, List.map_toArray, List.map_cons, List.map_nil, hs, hx, hr]
  exact h v' w' h2 h3 h4
theorem append_binsT {ops : Array Oper} {rest : List Oper} {o : Oper} {a : Act} {Q : Exit → Act → World → Prop} {w : World} (hw : Region.wanted o (yielded ops a.tmps) = true) (s x : Operand) (T : TypeId) (hT : Tryz.prog.underlying T = some (.slice 44))
    (ho : o.op = .call { callee := .builtin .append, args := #[s, x], argTypes := #[T, T] })
    {base : Nat} {v : Value} {ad : Option Addr} {cap n : Nat} {l m : List Bi} (hs : a.eval s = v) (hx : a.eval x = .slice ad n cap) (hmn : m.length = n) (hown : OwI base w v l) (hy : VwI w ad cap m) (hlen : l.length + m.length ≤ 10000000) (hbase : base ≤ w.heap.size)
    (h : ∀ v' w', OwI base w' v' (l ++ m) → w.grownBy w' v.ownBlock → wpList Tryz.prog ops Q rest (a.put o.dst v') w') : wpList Tryz.prog ops Q (o :: rest) a w := by
  refine BigFrame.wpList_want hw fun K hK => ?_
  subst hmn
  obtain ⟨v', w', hr, h2, h3, -⟩ := run_append_binsT T hT o.type hown hy hlen hbase
  unfold Oper.wp execOp
  simp only [ho, resolve, invoke, builtin, Sem.run_bind, Sem.run_pure, Result.andThen_ok, List.map_toArray, List.map_cons, List.map_nil, hs, hx, hr]
  exact hK _ _ (h v' w' h2 h3)
theorem VwI.grown {w w' : World} {a : Option Addr} {cap : Nat} {l : List Bi} {row : Option Nat} (h : VwI w a cap l) (hg : w.grownBy w' row) (hne : ∀ g o, l ≠ [] → a = some ⟨g, o, none⟩ → row ≠ some g) : VwI w' a cap l := by
  obtain ⟨h1, h2, h3, h4⟩ := h
  refine ⟨h1, h2, h3, fun k c hk => ?_⟩
  obtain ⟨g, o, e, hlt, hc⟩ := h4 k c hk
  exact ⟨g, o, e, Nat.lt_of_lt_of_le hlt hg.size, hc.same (hg.block g hlt (fun e2 => hne g o (fun e3 => by rw [e3] at hk; simp at hk) e e2.symm))⟩
theorem OwI.blk {B : Nat} {w : World} {a : Option Addr} {n cap : Nat} {l : List Bi} (h : OwI B w (.slice a n cap) l) : ∀ g o, l ≠ [] → a = some ⟨g, o, none⟩ → B ≤ g ∧ g < w.heap.size := fun g o hne ha => by
  obtain ⟨c, r, hc⟩ := List.exists_cons_of_ne_nil hne
  obtain ⟨a', cap', e, -, hf⟩ := h.own
  cases e
  obtain ⟨g', e', -⟩ := hf 0 (by rw [hc]; simp)
  rw [ha] at e'; cases e'
  exact ⟨OwI.lt h g (by rw [ha]; rfl), OwI.low h g (by rw [ha]; rfl)⟩
theorem VwI.at {w : World} {a : Option Addr} {cap : Nat} {l : List Bi} (h : VwI w a cap l) {k : Nat} (hk : k ≤ l.length) : VwI w a cap (l.take k) := h.take hk (Nat.le_trans hk h.1) (Nat.le_refl _) h.2.2.1
set_option maxRecDepth 100000 in
theorem cutI_from (T : TypeId) (hu : Tryz.prog.underlying T = some (.slice (Tryz.prog.elem T))) (he : Tryz.prog.elem T = 44) (a : Option Addr) (n cap k : Nat) (hk : k ≤ n) : ∃ b cb, (∀ w, (Instr.slice T (.slice a n cap) (some (.int .i64 (k : Int))) none none).run Tryz.prog w = .ok (.slice b (n - k) cb) w) ∧
    ∀ w l, VwI w a cap l → l.length = n → VwI w b cb (l.drop k) := by
  refine ⟨_, _, fun w => ?_, fun w l h hl => h.drop (k := k) (by omega)⟩
  have hs : ∀ w, (sizeOf (Tryz.prog.elem T)).run Tryz.prog w = .ok 2 w := fun w => by
    rw [he]; exact Tryz.sizeOf44 w
  rw [run_slice_l w T a n cap hu .i64 (k : Int) (by omega) (by omega), hs]
  rfl
set_option maxRecDepth 100000 in
theorem cutI_to (T : TypeId) (hu : Tryz.prog.underlying T = some (.slice (Tryz.prog.elem T))) (he : Tryz.prog.elem T = 44) (a : Option Addr) (n cap k : Nat) (hk : k ≤ n) (hn : n ≤ cap) (hz : a = none → cap = 0) : (∀ w, (Instr.slice T (.slice a n cap) none (some (.int .i64 (k : Int))) none).run Tryz.prog w = .ok (.slice a k cap) w) ∧
    ∀ w l, VwI w a cap l → l.length = n → VwI w a cap (l.take k) := by
  refine ⟨fun w => ?_, fun w l h hl => h.take (by omega) (by omega) (Nat.le_refl _) hz⟩
  have hs : ∀ w, (sizeOf (Tryz.prog.elem T)).run Tryz.prog w = .ok 2 w := fun w => by
    rw [he]; exact Tryz.sizeOf44 w
  rw [run_slice_h w T a n cap hu .i64 (k : Int) (by omega) (by omega), hs]
  show Result.ok (Value.slice (if cap = 0 then a else a.map (·.add (0 * 2))) (k - 0) (cap - 0)) w = _
  congr 2
  split
  · rfl
  · cases a <;> simp [Addr.add]
set_option maxHeartbeats 2000000 in
set_option maxRecDepth 100000 in
theorem l7Copy_any (w : World) (a : Option Addr) (cap : Nat) (l : List Bi) (n : Nat) (hn : l.length = n) (hv : VwI w a cap l) (hl : n ≤ 4194304) :
    Calls Tryz.prog 50 #[.slice a n cap] w fun e w' => ∃ v, e = .returned v ∧ OwI w.heap.size w' v l ∧ Below w.heap.size w w' := by
  subst hn
  have HV := Lib.hid hv; clear hv
  have hT : Tryz.prog.underlying 25 = some (.slice 44) := Tryz.underlying25
  go_enter Tryz.func50, Tryz.ntmps50
  go_wp2_with (first
    | (at_builtin; refine append_binsT rfl (.tmp 3) (.tmp 4) 25 hT rfl (base := w.heap.size) (l := []) (m := l) rfl rfl rfl (OwI.start (Nat.le_refl _)) (HV.out.below (bel1 _ _)) (by simp; omega) (by simp) ?_; intro v1 w1 hown1 hgrow1))
  go_ret
  exact ⟨_, rfl, hown1, (bel1 w _).grown hgrow1 (by simp) (fun j hj => OwI.lt (OwI.start (Nat.le_refl _)) j hj)⟩
def st7 (l : List Bi) (n : ByteArray) (x : Int) : List Bi × Bool := if isAt n l then (stI l n x, true) else if l.length = 12 then (l, false) else (stI l n x, true)
theorem st7_at {l : List Bi} {n : ByteArray} {x : Int} (h : isAt n l = true) : st7 l n x = (stI l n x, true) := by unfold st7; rw [if_pos h]
theorem st7_full {l : List Bi} {n : ByteArray} {x : Int} (h : isAt n l = false) (h2 : l.length = 12) : st7 l n x = (l, false) := by unfold st7; rw [if_neg (by rw [h]; decide), if_pos h2]
theorem st7_new {l : List Bi} {n : ByteArray} {x : Int} (h : isAt n l = false) (h2 : l.length ≠ 12) : st7 l n x = (stI l n x, true) := by unfold st7; rw [if_neg (by rw [h]; decide), if_neg h2]
theorem st7_sb {l : List Bi} {n : ByteArray} {x : Int} (h : okI l = true) (h2 : (nmB n.data.toList && isW x) = true) : sbP l n x = st7 l n x := by
  have hl := (okI_iff.1 h).1
  have hs := stI_len l n x
  cases ha : isAt n l
  · rw [ha] at hs
    by_cases h12 : l.length = 12
    · rw [st7_full ha h12, sbP_long h (by rw [hs]; simp; omega)]
    · rw [st7_new ha h12, sbP_yes h h2 (by rw [hs]; simp; omega)]
  · rw [ha] at hs
    rw [st7_at ha, sbP_yes h h2 (by rw [hs]; simp; omega)]
def SbPost (B : Nat) (p : List Bi × Bool) (w : World) (e : Ending) (w' : World) : Prop := ∃ v, e = .returned (.tuple #[v, .bool p.2]) ∧ OwI B w' v p.1 ∧ Below B w w'
set_option maxHeartbeats 4000000 in
set_option maxRecDepth 100000 in
theorem l7Set_any {B : Nat} (w : World) (v : Value) (l : List Bi) (s : ByteArray) (x : Int) (ho : OwI B w v l) (hB : B ≤ w.heap.size) (hl : l.length ≤ 4000) :
    Calls Tryz.prog 60 #[v, .string s, .int .i64 x] w (SbPost B (st7 l s x) w) := by
  have hT : Tryz.prog.underlying 25 = some (.slice 44) := Tryz.underlying25
  obtain ⟨a, cap, rfl, hv, hf⟩ := ho.own
  have HO := Lib.hid ho; clear ho
  have HV := Lib.hid hv
  have HF := Lib.hid hf; clear hf
  obtain ⟨n, hn⟩ : ∃ n, l.length = n := ⟨_, rfl⟩
  have HN := Lib.hid hn
  rw [hn] at HO HF ⊢
  have HFD := Lib.hid (l7Find_any w a cap l n s hn hv (by omega)); clear hv
  have hcl := cntI_le s l
  rw [hn] at hcl
  have hn4 : n ≤ 4000 := by omega
  cases hat : isAt s l
  · have hk0 := hat
    rw [hat] at HFD
    by_cases h12 : n = 12
    · have HE := Lib.hid (st7_full (x := x) hat (by rw [hn]; exact h12))
      have i1 : ((n : Int) == 12) = true := by simp; omega
      clear h12 hn
      go_enter Tryz.func60, Tryz.ntmps60
      go_wp2_with fail
      refine HFD.out.mono ?_; rintro e w1 ⟨rfl, b1⟩
      have B1 := Lib.hid (b1.mono hB)
      have O1 := Lib.hid (HO.out.next b1); clear b1
      go_wp2_with fail
      refine bodyPost_ret (v := .tuple #[.slice a n cap, .bool false]) (by simp [results, Tryz.results60, go_sem]) rfl ⟨.slice a n cap, by rw [HE.out], by rw [HE.out]; exact O1.out, B1.out⟩
    · have HE := Lib.hid (st7_new (x := x) hat (by rw [hn]; exact h12))
      have HBH := Lib.hid (show behI s l = l.drop (cntI s l) by unfold behI; rw [if_neg (by rw [hat]; decide)])
      have i1 : ((n : Int) == 12) = false := by simp; omega
      obtain ⟨b, cb, hr1, hv1⟩ := cutI_from 25 (by kernel_rfl) (by kernel_rfl) a n cap (cntI s l) hcl
      obtain ⟨hr2, hv2⟩ := cutI_to 25 (by kernel_rfl) (by kernel_rfl) a n cap (cntI s l) hcl (by rw [← hn]; exact HV.out.1) HV.out.2.2.1
      have HV1 := Lib.hid (hv1 w l HV.out hn)
      have HV2 := Lib.hid (hv2 w l HV.out hn); clear hv1 hv2
      have HTL := Lib.hid (takeI_len s l)
      have HDL := Lib.hid (show (l.drop (cntI s l)).length = n - cntI s l by rw [List.length_drop, hn])
      have HST := Lib.hid (show stI l s x = (l.take (cntI s l) ++ [⟨s, x⟩]) ++ l.drop (cntI s l) by unfold stI; rw [HBH.out, List.append_assoc])
      generalize l.drop (cntI s l) = dr at *
      generalize l.take (cntI s l) = tk at *
      generalize cntI s l = k at *
      clear h12 hn
      go_enter Tryz.func60, Tryz.ntmps60
      go_wp2_with fail
      refine HFD.out.mono ?_; rintro e w1 ⟨rfl, b1⟩
      have B1 := Lib.hid b1; clear b1
      go_wp2_with fail
      refine (l7Copy_any w1 b cb dr (n - k) HDL.out (HV1.out.below B1.out) (by omega)).mono ?_; rintro e w2 ⟨v2, rfl, o2, b2⟩
      have B2 := Lib.hid (bel_tr B1.out b2 (Nat.le_refl _))
      obtain ⟨va, vc, rfl, hv2⟩ := o2.view
      have V2 := Lib.hid hv2
      have L2 := Lib.hid (OwI.blk o2); clear hv2 o2 b2
      rw [HDL.out]
      go_wp2_with fail
      refine (l7Copy_any w2 a cap tk k HTL.out (HV2.out.below B2.out) (by omega)).mono ?_; rintro e w3 ⟨v3, rfl, o3, b3⟩
      have B3 := Lib.hid (bel_tr B2.out b3 (Nat.le_refl _))
      have Z2 := Lib.hid B2.out.size
      have O3 := Lib.hid (o3.mono (Nat.le_trans hB B2.out.size))
      have V3 := Lib.hid (V2.out.below b3)
      have L3 := Lib.hid (OwI.lt o3); clear b3 o3
      have HLT := Lib.hid (VwI.lit w3 ⟨s, x⟩)
      have HL4 := Lib.hid (bel1 w3 (.cells #[.string s, .int .i64 x] 44))
      have O4 := Lib.hid (O3.out.next HL4.out)
      have Z3 := Lib.hid B3.out.size
      have T1 : tk.length + [(⟨s, x⟩ : Bi)].length ≤ 10000000 := by have := HTL.out; simp; omega
      have T2 : B ≤ (w3.alloc (.cells #[.string s, .int .i64 x] 44)).heap.size := by have := Z2.out; have := Z3.out; have := HL4.out.size; omega
      have TC := Lib.hid (show ∀ v5 w5, OwI B w5 v5 (tk ++ [⟨s, x⟩]) → (w3.alloc (.cells #[.string s, .int .i64 x] 44)).grownBy w5 v3.ownBlock → OwI B w5 v5 (tk ++ [⟨s, x⟩]) ∧ Below B w3 w5 ∧ VwI w5 va vc dr ∧ B ≤ w5.heap.size from fun v5 w5 o5 g5 => by
        have C5 := (HL4.out.mono (show B ≤ w3.heap.size by have := Z2.out; have := Z3.out; omega)).grown g5 T2 (fun j hj => OwI.lt O4.out j hj)
        exact ⟨o5, C5, (V3.out.below HL4.out).grown g5 (fun g o hne e e2 => by have := (L2.out g o hne e).2; have := L3.out g e2; omega), by have := C5.size; have := Z2.out; have := Z3.out; omega⟩)
      have T3 : (tk ++ [(⟨s, x⟩ : Bi)]).length + dr.length ≤ 10000000 := by have := HTL.out; have := HDL.out; simp; omega
      go_wp2_with (first
        | (at_builtin; refine append_binsT rfl (.tmp 35) (.tmp 39) 25 hT rfl (base := B) (l := tk) (m := [⟨s, x⟩]) rfl rfl rfl O4.out HLT.out T1 T2 ?_; intro v5 w5 o5 g5; have G5 := Lib.hid (TC.out _ _ o5 g5); clear o5 g5)
        | (at_builtin; refine append_binsT rfl (.tmp 40) (.tmp 41) 25 hT rfl (base := B) (l := tk ++ [(⟨s, x⟩ : Bi)]) (m := dr) rfl rfl HDL.out G5.out.1 G5.out.2.2.1 T3 G5.out.2.2.2 ?_; intro v6 w6 o6 g6; have G6 := Lib.hid (And.intro o6 g6); clear o6 g6))
      have O6 := Lib.hid G6.out.1
      obtain ⟨v6a, v6c, e6, -⟩ := G6.out.1.view
      have C6 := Lib.hid (G5.out.2.1.grown G6.out.2 G5.out.2.2.2 (fun j hj => OwI.lt G5.out.1 j hj))
      have CF := Lib.hid ((B3.out.mono hB).trans C6.out)
      go_wp2_with fail
      refine bodyPost_ret (v := .tuple #[v6, .bool true]) (by simp [results, Tryz.results60, go_sem]) rfl ⟨v6, by rw [HE.out], by rw [HE.out, HST.out]; exact O6.out, CF.out⟩
  · have HE := Lib.hid (st7_at (x := x) hat)
    have hkl := isAt_lt hat
    obtain ⟨d, hd⟩ : ∃ d, l[cntI s l]? = some d := ⟨l[cntI s l], List.getElem?_eq_getElem hkl⟩
    have HST := Lib.hid (stI_at hd hat x)
    rw [hn] at hkl
    obtain ⟨g, rfl, hg, -⟩ := HF.out (cntI s l) hkl
    have HD := Lib.hid hd; clear hd
    rw [hat] at HFD
    generalize cntI s l = k at *
    go_enter Tryz.func60, Tryz.ntmps60
    go_wp2_with fail
    refine HFD.out.mono ?_; rintro e w1 ⟨rfl, b1⟩
    have B1 := Lib.hid (b1.mono hB)
    have O1 := Lib.hid (HO.out.next b1); clear b1
    obtain ⟨⟨c0, c1⟩, ⟨f0, f1⟩, -, -⟩ := O1.out.at HD.out
    have O2 := Lib.hid (O1.out.setV hn.symm k d HD.out x)
    have B2 := Lib.hid (B1.out.setCell (p := ⟨g, k * 2 + 1, none⟩) hg (.int .i64 x))
    go_wp2_with fail
    refine bodyPost_ret (v := .tuple #[.slice (some ⟨g, 0, none⟩) n cap, .bool true]) (by simp [results, Tryz.results60, go_sem]) rfl ⟨.slice (some ⟨g, 0, none⟩) n cap, by rw [HE.out], by rw [HE.out, HST.out]; exact O2.out, B2.out⟩
set_option maxHeartbeats 4000000 in
set_option maxRecDepth 100000 in
theorem specSet_any (w : World) (a : Option Addr) (cap : Nat) (l : List Bi) (n : Nat) (s : ByteArray) (x : Int) (hn : l.length = n) (hv : VwI w a cap l) (hm : ∀ c ∈ l, c.n.size ≤ 9223372036854775806) (hs : s.size ≤ 9223372036854775806) (hl : n ≤ 4194304) :
    Calls Tryz.prog 25 #[.slice a n cap, .string s, .int .i64 x] w (SbPost w.heap.size (sbP l s x) w) := by
  have HV := Lib.hid hv; clear hv
  cases hok : okI l
  · have HE := Lib.hid (sbP_no (n := s) (v := x) hok)
    have HBK := Lib.hid (specBins2_is hok w a cap n hn HV.out hm hl); clear hok
    go_enter Tryz.func25, Tryz.ntmps25
    go_wp2_with fail
    refine HBK.out.mono ?_; rintro e w1 ⟨rfl, b1⟩
    have B1 := Lib.hid b1; clear b1
    go_wp2_with fail
    refine bodyPost_ret (v := .tuple #[.slice (some ⟨w1.heap.size, 0, none⟩) 0 0, .bool false]) (by simp [results, Tryz.results25, go_sem]) rfl ⟨_, by rw [HE.out], by rw [HE.out]; exact OwI.start B1.out.size, B1.out.alloc B1.out.size _⟩
  · have HOK := Lib.hid hok
    have hl12 : n ≤ 12 := by rw [← hn]; exact (okI_iff.1 hok).1
    have HBK := Lib.hid (specBins2_is hok w a cap n hn HV.out hm hl); clear hok
    cases h1 : nmB s.data.toList
    · have HE := Lib.hid (sbP_bad (n := s) (v := x) HOK.out (by rw [h1]; rfl))
      have H1 := Lib.hid h1; clear h1
      go_enter Tryz.func25, Tryz.ntmps25
      go_wp2_with fail
      refine HBK.out.mono ?_; rintro e w1 ⟨rfl, b1⟩
      have B1 := Lib.hid b1; clear b1
      go_wp2_with fail
      refine (specName_is H1.out _ hs).mono ?_; rintro e w2 ⟨rfl, rfl⟩
      go_wp2_with fail
      refine (l7Copy_any w1 a cap l n hn (HV.out.below B1.out) (by omega)).mono ?_; rintro e w2 ⟨v, rfl, o2, b2⟩
      have B2 := Lib.hid (bel_tr B1.out b2 (Nat.le_refl _))
      have O2 := Lib.hid (o2.mono B1.out.size); clear o2 b2
      go_wp2_with fail
      refine bodyPost_ret (v := .tuple #[v, .bool false]) (by simp [results, Tryz.results25, go_sem]) rfl ⟨v, by rw [HE.out], by rw [HE.out]; exact O2.out, B2.out⟩
    · cases h2 : isW x
      · have HE := Lib.hid (sbP_bad (n := s) (v := x) HOK.out (by rw [h1, h2]; rfl))
        have H1 := Lib.hid h1; clear h1
        have H2 := Lib.hid h2; clear h2
        go_enter Tryz.func25, Tryz.ntmps25
        go_wp2_with fail
        refine HBK.out.mono ?_; rintro e w1 ⟨rfl, b1⟩
        have B1 := Lib.hid b1; clear b1
        go_wp2_with fail
        refine (specName_is H1.out _ hs).mono ?_; rintro e w2 ⟨rfl, rfl⟩
        go_wp2_with fail
        refine (word_is H2.out _).mono ?_; rintro e w2 ⟨rfl, rfl⟩
        go_wp2_with fail
        refine (l7Copy_any w1 a cap l n hn (HV.out.below B1.out) (by omega)).mono ?_; rintro e w2 ⟨v, rfl, o2, b2⟩
        have B2 := Lib.hid (bel_tr B1.out b2 (Nat.le_refl _))
        have O2 := Lib.hid (o2.mono B1.out.size); clear o2 b2
        go_wp2_with fail
        refine bodyPost_ret (v := .tuple #[v, .bool false]) (by simp [results, Tryz.results25, go_sem]) rfl ⟨v, by rw [HE.out], by rw [HE.out]; exact O2.out, B2.out⟩
      · have HE := Lib.hid (st7_sb (n := s) (x := x) HOK.out (by rw [h1, h2]; rfl))
        have H1 := Lib.hid h1; clear h1
        have H2 := Lib.hid h2; clear h2
        go_enter Tryz.func25, Tryz.ntmps25
        go_wp2_with fail
        refine HBK.out.mono ?_; rintro e w1 ⟨rfl, b1⟩
        have B1 := Lib.hid b1; clear b1
        go_wp2_with fail
        refine (specName_is H1.out _ hs).mono ?_; rintro e w2 ⟨rfl, rfl⟩
        go_wp2_with fail
        refine (word_is H2.out _).mono ?_; rintro e w2 ⟨rfl, rfl⟩
        go_wp2_with fail
        refine (l7Copy_any w1 a cap l n hn (HV.out.below B1.out) (by omega)).mono ?_; rintro e w2 ⟨v, rfl, o2, b2⟩
        have B2 := Lib.hid (bel_tr B1.out b2 (Nat.le_refl _))
        have HS := Lib.hid (l7Set_any w2 v l s x (o2.mono B1.out.size) B2.out.size (by omega))
        obtain ⟨va, vc, rfl, -⟩ := o2.view
        clear o2 b2
        rw [hn] at HS ⊢
        go_wp2_with fail
        refine HS.out.mono ?_; rintro e w3 ⟨v3, rfl, o3, b3⟩
        have B3 := Lib.hid (B2.out.trans b3)
        have O3 := Lib.hid o3
        obtain ⟨v3a, v3c, rfl, -⟩ := o3.view
        clear o3 b3
        rw [← HE.out] at O3 ⊢
        generalize (sbP l s x).1.length = L3 at *
        go_wp2_with fail
        refine bodyPost_ret (v := .tuple #[.slice v3a L3 v3c, .bool (sbP l s x).2]) (by simp [results, Tryz.results25, go_sem]) rfl ⟨_, rfl, O3.out, B3.out⟩
theorem ctI_no {l : List Bi} {n : ByteArray} (h : isAt n l = false) : ctI l n = l := by unfold ctI behI; rw [if_neg (by rw [h]; decide)]; exact List.take_append_drop _ _
def CbPost (B : Nat) (p : List Bi) (w : World) (e : Ending) (w' : World) : Prop := ∃ v, e = .returned v ∧ OwI B w' v p ∧ Below B w w'
set_option maxHeartbeats 4000000 in
set_option maxRecDepth 100000 in
theorem l7Cut_any {B : Nat} (w : World) (v : Value) (l : List Bi) (s : ByteArray) (ho : OwI B w v l) (hB : B ≤ w.heap.size) (hl : l.length ≤ 4000) :
    Calls Tryz.prog 61 #[v, .string s] w (CbPost B (ctI l s) w) := by
  have hT : Tryz.prog.underlying 25 = some (.slice 44) := Tryz.underlying25
  obtain ⟨a, cap, rfl, hv⟩ := ho.view
  have HO := Lib.hid ho; clear ho
  have HV := Lib.hid hv
  obtain ⟨n, hn⟩ : ∃ n, l.length = n := ⟨_, rfl⟩
  rw [hn] at HO ⊢
  have HFD := Lib.hid (l7Find_any w a cap l n s hn hv (by omega)); clear hv
  have hcl := cntI_le s l
  have hn4 : n ≤ 4000 := by omega
  rw [hn] at hcl
  cases hat : isAt s l
  · have HE := Lib.hid (ctI_no hat)
    rw [hat] at HFD
    go_enter Tryz.func61, Tryz.ntmps61
    go_wp2_with fail
    refine HFD.out.mono ?_; rintro e w1 ⟨rfl, b1⟩
    have B1 := Lib.hid (b1.mono hB)
    have O1 := Lib.hid (HO.out.next b1); clear b1
    go_wp2_with fail
    go_ret
    exact ⟨_, rfl, by rw [HE.out]; exact O1.out, B1.out⟩
  · have hkl := isAt_lt hat
    rw [hn] at hkl
    have HST := Lib.hid (show ctI l s = l.take (cntI s l) ++ l.drop (cntI s l + 1) by unfold ctI behI; rw [if_pos hat])
    rw [hat] at HFD
    obtain ⟨b, cb, hr1, hv1⟩ := cutI_from 25 (by kernel_rfl) (by kernel_rfl) a n cap (cntI s l + 1) (by omega)
    obtain ⟨hr2, hv2⟩ := cutI_to 25 (by kernel_rfl) (by kernel_rfl) a n cap (cntI s l) hcl (by rw [← hn]; exact HV.out.1) HV.out.2.2.1
    rw [show ((cntI s l + 1 : Nat) : Int) = (cntI s l : Int) + 1 by omega] at hr1
    have HV1 := Lib.hid (hv1 w l HV.out hn)
    have HV2 := Lib.hid (hv2 w l HV.out hn); clear hv1 hv2
    have HTL := Lib.hid (takeI_len s l)
    have HDL := Lib.hid (show (l.drop (cntI s l + 1)).length = n - (cntI s l + 1) by rw [List.length_drop, hn])
    generalize l.drop (cntI s l + 1) = dr at *
    generalize l.take (cntI s l) = tk at *
    generalize cntI s l = k at *
    have T1 : tk.length + dr.length ≤ 10000000 := by have := HTL.out; have := HDL.out; omega
    have i5 : (0 : Int) ≤ (k : Int) := by omega
    have i6 : (k : Int) ≤ 4000 := by omega
    have i7 : IntKind.i64.wrap ((k : Int) + 1) = (k : Int) + 1 := by rw [IntKind.wrap_i64]; omega
    go_enter Tryz.func61, Tryz.ntmps61
    go_wp2_with fail
    refine HFD.out.mono ?_; rintro e w1 ⟨rfl, b1⟩
    have HB1 := Lib.hid b1; clear b1
    go_wp2_with fail
    refine wp_region_held_drew (S := fun z => Below w1.heap.size w1 z) (by kernel_rfl) (Below.refl _ _).drew (fun hHeld => ?_)
    refine tkI (i := 0) (v := ?v0k) rfl (Or.inl ⟨by rfl, ?hy0k⟩) ?rest0k
    case hy0k => (intro zz hSw; (try dsimp only at hSw); go_simp; (try with_reducible rfl))
    change wpAnyH _ _ _ _ _ _ _ (Act.put _ (some 16) _) _
    simp only [Act.put, List.setIfInBounds_toArray, List.set_cons_zero, List.set_cons_succ]
    refine tkI (i := 1) (v := ?v1k) rfl (Or.inl ⟨by rfl, ?hy1k⟩) ?rest1k
    case hy1k => (intro zz hSw; (try dsimp only at hSw); go_simp; (try with_reducible rfl))
    change wpAnyH _ _ _ _ _ _ _ (Act.put _ (some 17) _) _
    simp only [Act.put, List.setIfInBounds_toArray, List.set_cons_zero, List.set_cons_succ]
    refine tkI (i := 2) (v := ?v2k) rfl (Or.inl ⟨by rfl, ?hy2k⟩) ?rest2k
    case hy2k => (intro zz hSw; (try dsimp only at hSw); go_simp; (try with_reducible rfl))
    change wpAnyH _ _ _ _ _ _ _ (Act.put _ (some 18) _) _
    simp only [Act.put, List.setIfInBounds_toArray, List.set_cons_zero, List.set_cons_succ]
    refine tkI (i := 4) (v := ?v4k) rfl (Or.inl ⟨by rfl, ?hy4k⟩) ?rest4k
    case hy4k => (intro zz hSw; (try dsimp only at hSw); go_simp; (try with_reducible rfl))
    change wpAnyH _ _ _ _ _ _ _ (Act.put _ (some 20) _) _
    simp only [Act.put, List.setIfInBounds_toArray, List.set_cons_zero, List.set_cons_succ]
    refine tkI (i := 5) (v := ?v5k) rfl (Or.inl ⟨by rfl, ?hy5k⟩) ?rest5k
    case hy5k => (intro zz hSw; (try dsimp only at hSw); go_simp; (try with_reducible rfl))
    change wpAnyH _ _ _ _ _ _ _ (Act.put _ (some 21) _) _
    simp only [Act.put, List.setIfInBounds_toArray, List.set_cons_zero, List.set_cons_succ]
    refine tkI (i := 6) (v := ?v6k) rfl (Or.inl ⟨by rfl, ?hy6k⟩) ?rest6k
    case hy6k => (intro zz hSw; (try dsimp only at hSw); go_simp; (try with_reducible rfl))
    change wpAnyH _ _ _ _ _ _ _ (Act.put _ (some 22) _) _
    simp only [Act.put, List.setIfInBounds_toArray, List.set_cons_zero, List.set_cons_succ]
    refine tkI (i := 7) (v := ?v7k) rfl (Or.inl ⟨by rfl, ?hy7k⟩) ?rest7k
    case hy7k => (intro zz hSw; (try dsimp only at hSw); go_simp; (try with_reducible rfl))
    change wpAnyH _ _ _ _ _ _ _ (Act.put _ (some 23) _) _
    simp only [Act.put, List.setIfInBounds_toArray, List.set_cons_zero, List.set_cons_succ]
    refine wpAnyH_ready (rs := [3]) (by kernel_rfl) (by simp) (AllReadyH.cons rfl (fun K hK => ?_) (AllReadyH.nil))
    go_simp
    refine (l7Copy_any _ a cap tk k HTL.out (HV2.out.below (HB1.out.trans (hHeld.mono HB1.out.size))) (by omega)).mono ?_; rintro e w4 ⟨v4, rfl, o4, bel⟩
    have O4 := Lib.hid (o4.mono hHeld.size); clear o4
    refine hK.out _ _ (bel_tr hHeld bel (Nat.le_refl _)) (fun hHeld => ?_)
    clear hK K bel
    refine wpAnyH_ready (rs := [8]) (by kernel_rfl) (by simp) (AllReadyH.cons rfl (fun K hK => ?_) (AllReadyH.nil))
    refine step_append_binsT rfl (.tmp 19) (.tmp 23) 25 hT rfl (base := w1.heap.size) (l := tk) (m := dr) rfl rfl HDL.out O4.out (HV1.out.below (HB1.out.trans (hHeld.mono HB1.out.size))) T1 hHeld.size ?_
    intro v6 w6 o6 g6 n6
    have O6 := Lib.hid o6
    refine hK.out _ _ (hHeld.grown g6 hHeld.size (fun j hj => OwI.lt O4.out j hj)) (fun hHeld => ?_)
    clear hK K o6 g6 n6
    change wpAnyH _ _ _ _ _ _ _ (Act.put _ (some 24) _) _
    simp only [Act.put, List.setIfInBounds_toArray, List.set_cons_zero, List.set_cons_succ]
    refine tkI (i := 9) (v := ?v9k) rfl (Or.inl ⟨by rfl, ?hy9k⟩) ?rest9k
    case hy9k => (intro zz hSw; (try dsimp only at hSw); go_simp; (try with_reducible rfl))
    change wpAnyH _ _ _ _ _ _ _ (Act.put _ (some 4) _) _
    simp only [Act.put, List.setIfInBounds_toArray, List.set_cons_zero, List.set_cons_succ]
    refine wpAnyH_done (by kernel_rfl) ?_ _
    have CF := Lib.hid ((HB1.out.mono hB).trans (hHeld.mono (Nat.le_trans hB HB1.out.size))); clear hHeld
    go_wp2_with fail
    go_ret
    exact ⟨_, rfl, by rw [HST.out]; exact O6.out.mono (Nat.le_trans hB HB1.out.size), CF.out⟩
set_option maxHeartbeats 4000000 in
set_option maxRecDepth 100000 in
theorem specCut_any (w : World) (a : Option Addr) (cap : Nat) (l : List Bi) (n : Nat) (s : ByteArray) (hn : l.length = n) (hv : VwI w a cap l) (hm : ∀ c ∈ l, c.n.size ≤ 9223372036854775806) (hl : n ≤ 4194304) :
    Calls Tryz.prog 26 #[.slice a n cap, .string s] w (CbPost w.heap.size (cbP l s) w) := by
  have HV := Lib.hid hv; clear hv
  cases hok : okI l
  · have HE := Lib.hid (cbP_no (n := s) hok)
    have HBK := Lib.hid (specBins2_is hok w a cap n hn HV.out hm hl); clear hok
    go_enter Tryz.func26, Tryz.ntmps26
    go_wp2_with fail
    refine HBK.out.mono ?_; rintro e w1 ⟨rfl, b1⟩
    have B1 := Lib.hid b1; clear b1
    go_wp2_with fail
    go_ret
    exact ⟨_, rfl, by rw [HE.out]; exact OwI.start B1.out.size, B1.out.alloc B1.out.size _⟩
  · have HOK := Lib.hid hok
    have hl12 : n ≤ 12 := by rw [← hn]; exact (okI_iff.1 hok).1
    have HE := Lib.hid (cbP_yes (n := s) hok)
    have HBK := Lib.hid (specBins2_is hok w a cap n hn HV.out hm hl); clear hok
    go_enter Tryz.func26, Tryz.ntmps26
    go_wp2_with fail
    refine HBK.out.mono ?_; rintro e w1 ⟨rfl, b1⟩
    have B1 := Lib.hid b1; clear b1
    go_wp2_with fail
    refine (l7Copy_any w1 a cap l n hn (HV.out.below B1.out) (by omega)).mono ?_; rintro e w2 ⟨v, rfl, o2, b2⟩
    have B2 := Lib.hid (bel_tr B1.out b2 (Nat.le_refl _))
    have HS := Lib.hid (l7Cut_any w2 v l s (o2.mono B1.out.size) B2.out.size (by omega))
    obtain ⟨va, vc, rfl, -⟩ := o2.view
    clear o2 b2
    rw [hn] at HS ⊢
    go_wp2_with fail
    refine HS.out.mono ?_; rintro e w3 ⟨v3, rfl, o3, b3⟩
    have B3 := Lib.hid (B2.out.trans b3)
    have O3 := Lib.hid o3
    obtain ⟨v3a, v3c, rfl, -⟩ := o3.view
    clear o3 b3
    rw [← HE.out] at O3 ⊢
    generalize (cbP l s).length = L3 at *
    go_wp2_with fail
    go_ret
    exact ⟨_, rfl, O3.out, B3.out⟩
end Go.Proofs.YtfnnoehpahdgcaaGreatDoor.Cl
namespace Go.Proofs.YtfnnoehpahdgcaaGreatDoor.Cl
set_option linter.unusedVariables false
open Go.RowKit Wd Rp Kp
theorem drop_head {l : List Tk} {k : Nat} {s : Tk} {r : List Tk} (h : l.drop k = s :: r) : l[k]? = some s ∧ k < l.length ∧ l.drop (k + 1) = r := by
  have h1 : (l.drop k)[0]? = some s := by rw [h]; rfl
  rw [List.getElem?_drop, Nat.add_zero] at h1
  refine ⟨h1, (List.getElem?_eq_some_iff.1 h1).1, ?_⟩
  rw [← List.drop_drop, h]; rfl
theorem drop_more {l x r : List Tk} {k : Nat} (h : l.drop k = x ++ r) : l.drop (k + x.length) = r := by rw [← List.drop_drop, h, List.drop_left]
theorem su_len {l : List Tk} {i : Int} {u : Su} {r : List Tk} (h0 : 0 ≤ i) (h : l.drop i.toNat = u.fl ++ r) : i + u.fl.length ≤ l.length := by
  have := congrArg List.length h
  rw [List.length_drop, List.length_append] at this
  have := u.pos
  omega
theorem edV_some {l : List Tk} {i : Int} {m : Nat} (h : enA l i = some m) : edV l i = i + m := by unfold edV; rw [h]
theorem edV_none {l : List Tk} {i : Int} (h : enA l i = none) : edV l i = -1 := by unfold edV; rw [h]
theorem kdG_yes {o : Nat} {a b : Int} (ha : a = tkK o) (hb : b = tkK o) : kdG o a b = ylK o := by unfold kdG; rw [if_pos ⟨ha, hb⟩]
theorem kdG_no {o : Nat} {a b : Int} (h : ¬ (a = tkK o ∧ b = tkK o)) : kdG o a b = 0 := by unfold kdG; rw [if_neg h]
theorem vlG_yes {o : Nat} {a b : Int × Bool} (ha : a.2 = true) (hb : b.2 = true) : vlG o a b = (didV o a.1 b.1, didB o a.1 b.1) := by unfold vlG; rw [ha, hb]; rfl
theorem vlG_no1 {o : Nat} {a b : Int × Bool} (ha : a.2 = false) : vlG o a b = (0, false) := by unfold vlG; rw [ha]; rfl
theorem vlG_no2 {o : Nat} {a b : Int × Bool} (ha : b.2 = false) : vlG o a b = (0, false) := by unfold vlG; rw [ha, Bool.and_false]; rfl
set_option maxHeartbeats 4000000 in
set_option maxRecDepth 100000 in
theorem l8Kind_any (a : Option Addr) (cap : Nat) (l : List Tk) (n : Nat) (hn : l.length = n) (hl : n ≤ 4194304) (hm : ∀ s ∈ l, s.length ≤ 4194304) : ∀ (u : Su), u.ok → ∀ (i : Int) (r : List Tk) (w : World), 0 ≤ i → l.drop i.toNat = u.fl ++ r → V1 w a cap (txL l) →
    Calls Tryz.prog 115 #[.slice a n cap, .int .i64 i] w fun e w' => e = .returned (.tuple #[.int .i64 (u.fo kdF kdG), .int .i64 (i + (u.fl.length : Int))]) ∧ Below w.heap.size w w' := by
  intro u
  induction u with
  | one s =>
    intro hu i r w hi hd hv
    have h0 := isL_0 hu
    obtain ⟨hs, hlt, -⟩ := drop_head hd
    obtain ⟨k, rfl⟩ : ∃ k : Nat, i = k := ⟨i.toNat, by omega⟩
    simp only [Int.toNat_natCast] at hs hlt
    obtain ⟨g, o, rfl, hg, c0⟩ := hv.tx hs
    have HO := Lib.hid (fun w => l8Op_any w s)
    have hsl : s.length ≤ 4194304 := hm s (List.mem_of_getElem? hs)
    have hlk : k < n := by omega
    clear hv hs hg hd
    rw [h0] at HO
    generalize tx s = x at *
    go_enter Tryz.func115, Tryz.ntmps115
    go_wp2_with fail
    refine (HO.out _).mono ?_; rintro e w1 ⟨rfl, b1⟩
    have B1 := Lib.hid b1; clear b1
    go_wp2_with fail
    go_ret2
    exact ⟨rfl, B1.out⟩
  | two s x y ihx ihy =>
    intro hu i r w hi hd hv
    rw [Su.fl, List.cons_append, List.append_assoc] at hd
    obtain ⟨hs, hlt, hd2⟩ := drop_head hd
    have hd1 := hd2
    have hd3 := drop_more hd2
    have e1 : i.toNat + 1 = (i + 1).toNat := by omega
    have e3 : i.toNat + 1 + x.fl.length = (i + 1 + x.fl.length).toNat := by omega
    rw [e1] at hd1
    rw [e3] at hd3
    have hlx := su_len (u := x) (by omega) hd1
    have hly := su_len (u := y) (by omega) hd3
    have HX := Lib.hid (fun w h => ihx hu.2.1 (i + 1) (y.fl ++ r) w (by omega) hd1 h)
    have HY := Lib.hid (fun w h => ihy hu.2.2 (i + 1 + x.fl.length) r w (by omega) hd3 h)
    have hon := isO_ne hu.1
    have ho7 := opN_le s
    have hln : ((Su.two s x y).fl.length : Int) = 1 + x.fl.length + y.fl.length := by simp [Su.fl]; omega
    have HLN := Lib.hid hln; clear hln ihx ihy hd hd1 hd2 hd3 e1 e3 hu
    obtain ⟨k, rfl⟩ : ∃ k : Nat, i = k := ⟨i.toNat, by omega⟩
    simp only [Int.toNat_natCast] at hs hlt
    obtain ⟨g, q, rfl, hg, c0⟩ := hv.tx hs
    have HV := Lib.hid hv
    have HO := Lib.hid (fun w => l8Op_any w s)
    have hlk : k < n := by omega
    clear hs hg hv
    have HE := Lib.hid (show Su.fo kdF kdG (.two s x y) = kdG (opN s) (x.fo kdF kdG) (y.fo kdF kdG) from rfl)
    have hp : ((opN s : Int) == 0) = false := by rw [beq_eq_false_iff_ne]; omega
    generalize hlx' : x.fl.length = lx at *
    generalize hly' : y.fl.length = ly at *
    generalize Su.fo kdF kdG (.two s x y) = kr at *
    generalize x.fo kdF kdG = kx at *
    generalize y.fo kdF kdG = ky at *
    generalize opN s = o at *
    generalize (Su.two s x y).fl.length = ll at *
    generalize tx s = xs at *
    clear hlx' hly' hon
    by_cases h7 : o = 7
    · subst h7
      have htk : tkK 7 = 2 := rfl
      by_cases hx : kx = 2
      · by_cases hy : ky = 2
        · subst hx hy
          
          have HE2 := Lib.hid (HE.out.trans ((kdG_yes (o := 7) rfl rfl : _ = (2 : Int)))); clear HE
          go_enter Tryz.func115, Tryz.ntmps115
          go_wp2_with fail
          refine (HO.out _).mono ?_; rintro e w1 ⟨rfl, b1⟩
          have V1' := Lib.hid (HV.out.below b1)
          have B1 := Lib.hid b1; clear b1
          go_wp2_with fail
          refine (HX.out w1 V1'.out).mono ?_; rintro e w2 ⟨rfl, b2⟩
          have V2' := Lib.hid (V1'.out.below b2)
          have B2 := Lib.hid (bel_tr B1.out b2 (Nat.le_refl _)); clear b2
          go_wp2_with fail
          refine (HY.out w2 V2'.out).mono ?_; rintro e w3 ⟨rfl, b3⟩
          have B3 := Lib.hid (bel_tr B2.out b3 (Nat.le_refl _)); clear b3
          go_wp2_with fail
          go_ret2
          refine ⟨?_, B3.out⟩
          rw [HE2.out, HLN.out]
          exact congrArg (fun z => Ending.returned (Value.tuple #[.int .i64 2, .int .i64 z])) (by omega)
        · subst hx
          have q1 : (ky != 2) = true := by simpa using hy
          
          have HE2 := Lib.hid (HE.out.trans (kdG_no (by rintro ⟨-, h⟩; exact hy (h.trans htk)))); clear HE
          go_enter Tryz.func115, Tryz.ntmps115
          go_wp2_with fail
          refine (HO.out _).mono ?_; rintro e w1 ⟨rfl, b1⟩
          have V1' := Lib.hid (HV.out.below b1)
          have B1 := Lib.hid b1; clear b1
          go_wp2_with fail
          refine (HX.out w1 V1'.out).mono ?_; rintro e w2 ⟨rfl, b2⟩
          have V2' := Lib.hid (V1'.out.below b2)
          have B2 := Lib.hid (bel_tr B1.out b2 (Nat.le_refl _)); clear b2
          go_wp2_with fail
          refine (HY.out w2 V2'.out).mono ?_; rintro e w3 ⟨rfl, b3⟩
          have B3 := Lib.hid (bel_tr B2.out b3 (Nat.le_refl _)); clear b3
          go_wp2_with fail
          go_ret2
          refine ⟨?_, B3.out⟩
          rw [HE2.out, HLN.out]
          exact congrArg (fun z => Ending.returned (Value.tuple #[.int .i64 0, .int .i64 z])) (by omega)
      · have q1 : (kx != 2) = true := by simpa using hx
        
        have HE2 := Lib.hid (HE.out.trans (kdG_no (by rintro ⟨h, -⟩; exact hx (h.trans htk)))); clear HE
        go_enter Tryz.func115, Tryz.ntmps115
        go_wp2_with fail
        refine (HO.out _).mono ?_; rintro e w1 ⟨rfl, b1⟩
        have V1' := Lib.hid (HV.out.below b1)
        have B1 := Lib.hid b1; clear b1
        go_wp2_with fail
        refine (HX.out w1 V1'.out).mono ?_; rintro e w2 ⟨rfl, b2⟩
        have V2' := Lib.hid (V1'.out.below b2)
        have B2 := Lib.hid (bel_tr B1.out b2 (Nat.le_refl _)); clear b2
        go_wp2_with fail
        refine (HY.out w2 V2'.out).mono ?_; rintro e w3 ⟨rfl, b3⟩
        have B3 := Lib.hid (bel_tr B2.out b3 (Nat.le_refl _)); clear b3
        go_wp2_with fail
        go_ret2
        refine ⟨?_, B3.out⟩
        rw [HE2.out, HLN.out]
        exact congrArg (fun z => Ending.returned (Value.tuple #[.int .i64 0, .int .i64 z])) (by omega)
    · have htk : tkK o = 1 := by unfold tkK; rw [if_neg h7]
      have q7 : ((o : Int) == 7) = false := by rw [beq_eq_false_iff_ne]; omega
      by_cases hx : kx = 1
      · by_cases hy : ky = 1
        · subst hx hy
          by_cases h5 : 5 ≤ o
          · have p5 : (5 : Int) ≤ (o : Int) := by omega
            
            have HE2 := Lib.hid (HE.out.trans (((kdG_yes htk.symm htk.symm).trans (by unfold ylK; rw [if_pos h5]) : _ = (2 : Int)))); clear HE
            go_enter Tryz.func115, Tryz.ntmps115
            go_wp2_with fail
            refine (HO.out _).mono ?_; rintro e w1 ⟨rfl, b1⟩
            have V1' := Lib.hid (HV.out.below b1)
            have B1 := Lib.hid b1; clear b1
            go_wp2_with fail
            refine (HX.out w1 V1'.out).mono ?_; rintro e w2 ⟨rfl, b2⟩
            have V2' := Lib.hid (V1'.out.below b2)
            have B2 := Lib.hid (bel_tr B1.out b2 (Nat.le_refl _)); clear b2
            go_wp2_with fail
            refine (HY.out w2 V2'.out).mono ?_; rintro e w3 ⟨rfl, b3⟩
            have B3 := Lib.hid (bel_tr B2.out b3 (Nat.le_refl _)); clear b3
            go_wp2_with fail
            go_ret2
            refine ⟨?_, B3.out⟩
            rw [HE2.out, HLN.out]
            exact congrArg (fun z => Ending.returned (Value.tuple #[.int .i64 2, .int .i64 z])) (by omega)
          · have p5 : ¬ (5 : Int) ≤ (o : Int) := by omega
            
            have HE2 := Lib.hid (HE.out.trans (((kdG_yes htk.symm htk.symm).trans (by unfold ylK; rw [if_neg h5]) : _ = (1 : Int)))); clear HE
            go_enter Tryz.func115, Tryz.ntmps115
            go_wp2_with fail
            refine (HO.out _).mono ?_; rintro e w1 ⟨rfl, b1⟩
            have V1' := Lib.hid (HV.out.below b1)
            have B1 := Lib.hid b1; clear b1
            go_wp2_with fail
            refine (HX.out w1 V1'.out).mono ?_; rintro e w2 ⟨rfl, b2⟩
            have V2' := Lib.hid (V1'.out.below b2)
            have B2 := Lib.hid (bel_tr B1.out b2 (Nat.le_refl _)); clear b2
            go_wp2_with fail
            refine (HY.out w2 V2'.out).mono ?_; rintro e w3 ⟨rfl, b3⟩
            have B3 := Lib.hid (bel_tr B2.out b3 (Nat.le_refl _)); clear b3
            go_wp2_with fail
            go_ret2
            refine ⟨?_, B3.out⟩
            rw [HE2.out, HLN.out]
            exact congrArg (fun z => Ending.returned (Value.tuple #[.int .i64 1, .int .i64 z])) (by omega)
        · subst hx
          have q1 : (ky != 1) = true := by simpa using hy
          
          have HE2 := Lib.hid (HE.out.trans (kdG_no (by rintro ⟨-, h⟩; exact hy (h.trans htk)))); clear HE
          go_enter Tryz.func115, Tryz.ntmps115
          go_wp2_with fail
          refine (HO.out _).mono ?_; rintro e w1 ⟨rfl, b1⟩
          have V1' := Lib.hid (HV.out.below b1)
          have B1 := Lib.hid b1; clear b1
          go_wp2_with fail
          refine (HX.out w1 V1'.out).mono ?_; rintro e w2 ⟨rfl, b2⟩
          have V2' := Lib.hid (V1'.out.below b2)
          have B2 := Lib.hid (bel_tr B1.out b2 (Nat.le_refl _)); clear b2
          go_wp2_with fail
          refine (HY.out w2 V2'.out).mono ?_; rintro e w3 ⟨rfl, b3⟩
          have B3 := Lib.hid (bel_tr B2.out b3 (Nat.le_refl _)); clear b3
          go_wp2_with fail
          go_ret2
          refine ⟨?_, B3.out⟩
          rw [HE2.out, HLN.out]
          exact congrArg (fun z => Ending.returned (Value.tuple #[.int .i64 0, .int .i64 z])) (by omega)
      · have q1 : (kx != 1) = true := by simpa using hx
        
        have HE2 := Lib.hid (HE.out.trans (kdG_no (by rintro ⟨h, -⟩; exact hx (h.trans htk)))); clear HE
        go_enter Tryz.func115, Tryz.ntmps115
        go_wp2_with fail
        refine (HO.out _).mono ?_; rintro e w1 ⟨rfl, b1⟩
        have V1' := Lib.hid (HV.out.below b1)
        have B1 := Lib.hid b1; clear b1
        go_wp2_with fail
        refine (HX.out w1 V1'.out).mono ?_; rintro e w2 ⟨rfl, b2⟩
        have V2' := Lib.hid (V1'.out.below b2)
        have B2 := Lib.hid (bel_tr B1.out b2 (Nat.le_refl _)); clear b2
        go_wp2_with fail
        refine (HY.out w2 V2'.out).mono ?_; rintro e w3 ⟨rfl, b3⟩
        have B3 := Lib.hid (bel_tr B2.out b3 (Nat.le_refl _)); clear b3
        go_wp2_with fail
        go_ret2
        refine ⟨?_, B3.out⟩
        rw [HE2.out, HLN.out]
        exact congrArg (fun z => Ending.returned (Value.tuple #[.int .i64 0, .int .i64 z])) (by omega)
set_option maxRecDepth 100000 in
theorem l1Max_any (a b : Int) (w : World) : Calls Tryz.prog 128 #[.int .i64 a, .int .i64 b] w fun e w' => e = .returned (.int .i64 (mxI a b)) ∧ w = w' := by
  by_cases h : b < a
  · have HE := Lib.hid (show mxI a b = a by unfold mxI; rw [if_pos h])
    go_enter Tryz.func128, Tryz.ntmps128
    go_wp2_with fail
    go_ret
    exact ⟨by rw [HE.out]; rfl, rfl⟩
  · have HE := Lib.hid (show mxI a b = b by unfold mxI; rw [if_neg h])
    go_enter Tryz.func128, Tryz.ntmps128
    go_wp2_with fail
    go_ret
    exact ⟨by rw [HE.out]; rfl, rfl⟩
set_option maxHeartbeats 4000000 in
set_option maxRecDepth 100000 in
theorem l8Depth_any (a : Option Addr) (cap : Nat) (l : List Tk) (n : Nat) (hn : l.length = n) (hl : n ≤ 4194304) (hm : ∀ s ∈ l, s.length ≤ 4194304) : ∀ (u : Su), u.ok → ∀ (i : Int) (r : List Tk) (w : World), 0 ≤ i → l.drop i.toNat = u.fl ++ r → V1 w a cap (txL l) →
    Calls Tryz.prog 116 #[.slice a n cap, .int .i64 i] w fun e w' => e = .returned (.tuple #[.int .i64 (u.fo dpF dpG), .int .i64 (i + (u.fl.length : Int))]) ∧ Below w.heap.size w w' := by
  intro u
  induction u with
  | one s =>
    intro hu i r w hi hd hv
    have h0 := isL_0 hu
    obtain ⟨hs, hlt, -⟩ := drop_head hd
    obtain ⟨k, rfl⟩ : ∃ k : Nat, i = k := ⟨i.toNat, by omega⟩
    simp only [Int.toNat_natCast] at hs hlt
    obtain ⟨g, o, rfl, hg, c0⟩ := hv.tx hs
    have HO := Lib.hid (fun w => l8Op_any w s)
    have hsl : s.length ≤ 4194304 := hm s (List.mem_of_getElem? hs)
    have hlk : k < n := by omega
    clear hv hs hg hd
    rw [h0] at HO
    generalize tx s = x at *
    go_enter Tryz.func116, Tryz.ntmps116
    go_wp2_with fail
    refine (HO.out _).mono ?_; rintro e w1 ⟨rfl, b1⟩
    have B1 := Lib.hid b1; clear b1
    go_wp2_with fail
    go_ret2
    exact ⟨rfl, B1.out⟩
  | two s x y ihx ihy =>
    intro hu i r w hi hd hv
    rw [Su.fl, List.cons_append, List.append_assoc] at hd
    obtain ⟨hs, hlt, hd2⟩ := drop_head hd
    have hd1 := hd2
    have hd3 := drop_more hd2
    have e1 : i.toNat + 1 = (i + 1).toNat := by omega
    have e3 : i.toNat + 1 + x.fl.length = (i + 1 + x.fl.length).toNat := by omega
    rw [e1] at hd1
    rw [e3] at hd3
    have hlx := su_len (u := x) (by omega) hd1
    have hly := su_len (u := y) (by omega) hd3
    have HX := Lib.hid (fun w h => ihx hu.2.1 (i + 1) (y.fl ++ r) w (by omega) hd1 h)
    have HY := Lib.hid (fun w h => ihy hu.2.2 (i + 1 + x.fl.length) r w (by omega) hd3 h)
    have hon := isO_ne hu.1
    have ho7 := opN_le s
    have hln : ((Su.two s x y).fl.length : Int) = 1 + x.fl.length + y.fl.length := by simp [Su.fl]; omega
    have HLN := Lib.hid hln; clear hln ihx ihy hd hd1 hd2 hd3 e1 e3 hu
    obtain ⟨k, rfl⟩ : ∃ k : Nat, i = k := ⟨i.toNat, by omega⟩
    simp only [Int.toNat_natCast] at hs hlt
    obtain ⟨g, q, rfl, hg, c0⟩ := hv.tx hs
    have HV := Lib.hid hv
    have HO := Lib.hid (fun w => l8Op_any w s)
    have hlk : k < n := by omega
    clear hs hg hv
    have HE := Lib.hid (show Su.fo dpF dpG (.two s x y) = wrap64 (1 + mxI (x.fo dpF dpG) (y.fo dpF dpG)) from rfl)
    have hp : ((opN s : Int) == 0) = false := by rw [beq_eq_false_iff_ne]; omega
    have HMX := Lib.hid (fun w => l1Max_any (x.fo dpF dpG) (y.fo dpF dpG) w)
    generalize hlx' : x.fl.length = lx at *
    generalize hly' : y.fl.length = ly at *
    generalize Su.fo dpF dpG (.two s x y) = kr at *
    generalize x.fo dpF dpG = kx at *
    generalize y.fo dpF dpG = ky at *
    generalize mxI kx ky = mm at *
    generalize opN s = o at *
    generalize (Su.two s x y).fl.length = ll at *
    generalize tx s = xs at *
    clear hlx' hly' hon
    go_enter Tryz.func116, Tryz.ntmps116
    go_wp2_with fail
    refine (HO.out _).mono ?_; rintro e w1 ⟨rfl, b1⟩
    have V1' := Lib.hid (HV.out.below b1)
    have B1 := Lib.hid b1; clear b1
    go_wp2_with fail
    refine (HX.out w1 V1'.out).mono ?_; rintro e w2 ⟨rfl, b2⟩
    have V2' := Lib.hid (V1'.out.below b2)
    have B2 := Lib.hid (bel_tr B1.out b2 (Nat.le_refl _)); clear b2
    go_wp2_with fail
    refine (HY.out w2 V2'.out).mono ?_; rintro e w3 ⟨rfl, b3⟩
    have B3 := Lib.hid (bel_tr B2.out b3 (Nat.le_refl _)); clear b3
    go_wp2_with fail
    refine (HMX.out _).mono ?_; rintro e w4 ⟨rfl, rfl⟩
    go_wp2_with fail
    go_ret2
    refine ⟨?_, B3.out⟩
    rw [HE.out, HLN.out]
    exact congrArg (fun z => Ending.returned (Value.tuple #[.int .i64 (wrap64 (1 + mm)), .int .i64 z])) (by omega)
set_option maxHeartbeats 4000000 in
set_option maxRecDepth 100000 in
theorem specKind_any (w : World) (a : Option Addr) (cap : Nat) (l : List Tk) (n : Nat) (i : Int) (hi : I64 i) (hn : l.length = n) (hv : V1 w a cap (txL l)) (hl : n ≤ 4194304) (hm : ∀ s ∈ l, s.length ≤ 4194304) :
    Calls Tryz.prog 100 #[.slice a n cap, .int .i64 i] w fun e w' => e = .returned (.int .i64 (kdV l i)) ∧ Below w.heap.size w w' := by
  have HEN := Lib.hid (l8End_any w a cap l n i hi hn hv hl hm)
  cases he : enA l i with
  | none =>
    have HE := Lib.hid (show kdV l i = 0 from foV_none _ _ _ he)
    rw [edV_none he] at HEN
    go_enter Tryz.func100, Tryz.ntmps100
    go_wp2_with fail
    refine HEN.out.mono ?_; rintro e w1 ⟨rfl, b1⟩
    have B1 := Lib.hid b1; clear b1
    go_wp2_with fail
    go_ret
    exact ⟨by rw [HE.out]; rfl, B1.out⟩
  | some m =>
    obtain ⟨u, hu, h0, hm2, hd, hf⟩ := foV_tree kdF kdG 0 he
    have HE := Lib.hid (show kdV l i = u.fo kdF kdG from hf)
    rw [edV_some he] at HEN
    have HV := Lib.hid hv
    have HK := Lib.hid (fun w h => l8Kind_any a cap l n hn hl hm u hu i _ w h0 hd h)
    have p0 : ¬ i + (m : Int) < 0 := by omega
    clear hd hu hf he hv
    generalize (u.fl.length : Int) = ul at *
    generalize u.fo kdF kdG = kr at *
    generalize i + (m : Int) = z at *
    go_enter Tryz.func100, Tryz.ntmps100
    go_wp2_with fail
    refine HEN.out.mono ?_; rintro e w1 ⟨rfl, b1⟩
    have V1' := Lib.hid (HV.out.below b1)
    have B1 := Lib.hid b1; clear b1
    go_wp2_with fail
    refine (HK.out _ V1'.out).mono ?_; rintro e w2 ⟨rfl, b2⟩
    have B2 := Lib.hid (bel_tr B1.out b2 (Nat.le_refl _)); clear b2
    go_wp2_with fail
    go_ret
    exact ⟨by rw [HE.out]; rfl, B2.out⟩
set_option maxHeartbeats 4000000 in
set_option maxRecDepth 100000 in
theorem specDepth_any (w : World) (a : Option Addr) (cap : Nat) (l : List Tk) (n : Nat) (i : Int) (hi : I64 i) (hn : l.length = n) (hv : V1 w a cap (txL l)) (hl : n ≤ 4194304) (hm : ∀ s ∈ l, s.length ≤ 4194304) :
    Calls Tryz.prog 101 #[.slice a n cap, .int .i64 i] w fun e w' => e = .returned (.int .i64 (dpV l i)) ∧ Below w.heap.size w w' := by
  have HEN := Lib.hid (l8End_any w a cap l n i hi hn hv hl hm)
  cases he : enA l i with
  | none =>
    have HE := Lib.hid (show dpV l i = 0 from foV_none _ _ _ he)
    rw [edV_none he] at HEN
    go_enter Tryz.func101, Tryz.ntmps101
    go_wp2_with fail
    refine HEN.out.mono ?_; rintro e w1 ⟨rfl, b1⟩
    have B1 := Lib.hid b1; clear b1
    go_wp2_with fail
    go_ret
    exact ⟨by rw [HE.out]; rfl, B1.out⟩
  | some m =>
    obtain ⟨u, hu, h0, hm2, hd, hf⟩ := foV_tree dpF dpG 0 he
    have HE := Lib.hid (show dpV l i = u.fo dpF dpG from hf)
    rw [edV_some he] at HEN
    have HV := Lib.hid hv
    have HK := Lib.hid (fun w h => l8Depth_any a cap l n hn hl hm u hu i _ w h0 hd h)
    have p0 : ¬ i + (m : Int) < 0 := by omega
    clear hd hu hf he hv
    generalize (u.fl.length : Int) = ul at *
    generalize u.fo dpF dpG = kr at *
    generalize i + (m : Int) = z at *
    go_enter Tryz.func101, Tryz.ntmps101
    go_wp2_with fail
    refine HEN.out.mono ?_; rintro e w1 ⟨rfl, b1⟩
    have V1' := Lib.hid (HV.out.below b1)
    have B1 := Lib.hid b1; clear b1
    go_wp2_with fail
    refine (HK.out _ V1'.out).mono ?_; rintro e w2 ⟨rfl, b2⟩
    have B2 := Lib.hid (bel_tr B1.out b2 (Nat.le_refl _)); clear b2
    go_wp2_with fail
    go_ret
    exact ⟨by rw [HE.out]; rfl, B2.out⟩
theorem thB_bad {gs : List Int} {k : Nat} {v : Int} (hk : gs[k]? = some v) (h : isW v = false) : thB gs = false := by
  unfold thB
  cases ha : gs.all isW with
  | false => rfl
  | true => rw [List.all_eq_true] at ha; rw [ha v (List.mem_of_getElem? hk)] at h; cases h
theorem thB_in {gs : List Int} (h : ∀ (k : Nat) (v : Int), gs[k]? = some v → isW v = true) : thB gs = decide (gs.length = 3) := by
  unfold thB
  rw [List.all_eq_true.2 fun v hv => by obtain ⟨k, hk⟩ := List.mem_iff_getElem?.1 hv; exact h k v hk]; rfl
theorem thB_len {gs : List Int} (h : thB gs = true) : gs.length = 3 := by
  unfold thB at h
  rw [Bool.and_eq_true, decide_eq_true_eq] at h
  exact h.2
theorem len3 {gs : List Int} {n : Nat} (hn : gs.length = n) : decide (gs.length = 3) = ((n : Int) == 3) := by
  subst hn
  rw [Bool.eq_iff_iff, decide_eq_true_eq, beq_iff_eq]; omega
set_option maxHeartbeats 4000000 in
set_option maxRecDepth 100000 in
theorem l8Three_any (w : World) (a : Option Addr) (cap : Nat) (gs : List Int) (n : Nat) (hn : gs.length = n) (hv : V1 w a cap (inL gs)) (hl : n ≤ 4194304) :
    Calls Tryz.prog 51 #[.slice a n cap] w fun e w' => e = .returned (.bool (thB gs)) ∧ w = w' := by
  have HV := Lib.hid hv; clear hv
  have HN := Lib.hid hn
  have HL3 := Lib.hid (len3 hn); clear hn
  go_enter Tryz.func51, Tryz.ntmps51
  go_wp2_with fail
  go_loop [3] (fun i => ∃ k : Nat, k ≤ n ∧ i = .int .i64 k ∧ ∀ (j : Nat) (v : Int), j < k → gs[j]? = some v → isW v = true) (fun i => n - (intOf i).toNat)
  case atStart => exact ⟨0, Nat.zero_le _, rfl, fun j y hj => by omega⟩
  case round =>
    obtain ⟨k, hk, rfl, hno⟩ := hrel
    have HO := Lib.hid hno; clear hno
    by_cases hlt : k < n
    · obtain ⟨c, hc⟩ : ∃ c, gs[k]? = some c := ⟨gs[k]'(by have := HN.out; omega), List.getElem?_eq_getElem _⟩
      obtain ⟨g, o, rfl, hg, c0⟩ := HV.out.iv hc
      have HC := Lib.hid hc
      have HW := Lib.hid (fun w => l1Word_any c w)
      clear hg hc
      cases hb : isW c
      · have HE := Lib.hid (thB_bad HC.out hb)
        rw [hb] at HW
        clear hb
        go_wp2_with fail
        refine (HW.out _).mono ?_; rintro e w1 ⟨rfl, rfl⟩
        go_wp2_with fail
        go_ret
        exact ⟨by rw [HE.out]; rfl, rfl⟩
      · rw [hb] at HW
        have HO2 := Lib.hid (show ∀ (j : Nat) (v : Int), j < k + 1 → gs[j]? = some v → isW v = true from fun j v hj hv => by
          by_cases e : j = k
          · subst e; rw [HC.out] at hv; cases hv; exact hb
          · exact HO.out j v (by omega) hv)
        clear hb
        go_wp2_with fail
        refine (HW.out _).mono ?_; rintro e w1 ⟨rfl, rfl⟩
        go_wp2_with fail
        go_round
        case rel => exact ⟨k + 1, by omega, by go_num, HO2.out⟩
        case measure => simp [intOf]; omega
    · obtain rfl : k = n := by omega
      have HE := Lib.hid (thB_in fun j v hv => HO.out j v (by have := (List.getElem?_eq_some_iff.1 hv).1; have := HN.out; omega) hv)
      go_wp2_with fail
      go_ret
      exact ⟨by rw [HE.out, HL3.out]; rfl, rfl⟩
set_option maxHeartbeats 4000000 in
set_option maxRecDepth 100000 in
theorem givenOk_any (w : World) (a : Option Addr) (cap : Nat) (gs : List Int) (n : Nat) (hn : gs.length = n) (hv : V1 w a cap (inL gs)) (hl : n ≤ 4194304) :
    Calls Tryz.prog 77 #[.slice a n cap] w fun e w' => e = .returned (.bool (thB gs)) ∧ w = w' := by
  have HV := Lib.hid hv; clear hv
  have HN := Lib.hid hn
  have HL3 := Lib.hid (len3 hn); clear hn
  go_enter Tryz.func77, Tryz.ntmps77
  go_wp2_with fail
  go_loop [4, 7] (fun _ i => ∃ k : Nat, k ≤ n ∧ i = .int .i64 k ∧ ∀ (j : Nat) (v : Int), j < k → gs[j]? = some v → isW v = true) (fun _ i => n - (intOf i).toNat)
  case atStart => exact ⟨0, Nat.zero_le _, rfl, fun j y hj => by omega⟩
  case round =>
    obtain ⟨k, hk, rfl, hno⟩ := hrel
    have HO := Lib.hid hno; clear hno
    by_cases hlt : k < n
    · obtain ⟨c, hc⟩ : ∃ c, gs[k]? = some c := ⟨gs[k]'(by have := HN.out; omega), List.getElem?_eq_getElem _⟩
      obtain ⟨g, o, rfl, hg, c0⟩ := HV.out.iv hc
      have HC := Lib.hid hc
      have HW := Lib.hid (fun w => implWordOk_any c w)
      clear hg hc
      cases hb : isW c
      · have HE := Lib.hid (thB_bad HC.out hb)
        rw [hb] at HW
        clear hb
        go_wp2_with fail
        refine (HW.out _).mono ?_; rintro e w1 ⟨rfl, rfl⟩
        go_wp2_with fail
        go_ret
        exact ⟨by rw [HE.out]; rfl, rfl⟩
      · rw [hb] at HW
        have HO2 := Lib.hid (show ∀ (j : Nat) (v : Int), j < k + 1 → gs[j]? = some v → isW v = true from fun j v hj hv => by
          by_cases e : j = k
          · subst e; rw [HC.out] at hv; cases hv; exact hb
          · exact HO.out j v (by omega) hv)
        clear hb
        go_wp2_with fail
        refine (HW.out _).mono ?_; rintro e w1 ⟨rfl, rfl⟩
        go_wp2_with fail
        go_round
        case rel => exact ⟨k + 1, by omega, by go_num, HO2.out⟩
        case measure => simp [intOf]; omega
    · obtain rfl : k = n := by omega
      have HE := Lib.hid (thB_in fun j v hv => HO.out j v (by have := (List.getElem?_eq_some_iff.1 hv).1; have := HN.out; omega) hv)
      go_wp2_with fail
      go_ret
      exact ⟨by rw [HE.out, HL3.out]; rfl, rfl⟩
end Go.Proofs.YtfnnoehpahdgcaaGreatDoor.Cl
namespace Go.Proofs.YtfnnoehpahdgcaaGreatDoor.Cl
set_option linter.unusedVariables false
open Go.RowKit Wd Rp Kp
def tkA (l : List Tk) (i : Int) : Option Tk := if i < 0 then none else l[i.toNat]?
theorem tkA_nat (l : List Tk) (k : Nat) : tkA l (k : Int) = l[k]? := by unfold tkA; rw [if_neg (by omega)]; rfl
theorem tkA_neg {l : List Tk} {i : Int} (h : i < 0) : tkA l i = none := by unfold tkA; rw [if_pos h]
theorem tkA_out {l : List Tk} {i : Int} (h : (l.length : Int) ≤ i) : tkA l i = none := by
  unfold tkA
  rw [if_neg (by omega)]
  exact List.getElem?_eq_none (by omega)
theorem tkA_some {l : List Tk} {i : Int} {s : Tk} (h : tkA l i = some s) : 0 ≤ i ∧ i < l.length ∧ l[i.toNat]? = some s := by
  unfold tkA at h
  split at h
  · cases h
  · have := (List.getElem?_eq_some_iff.1 h).1
    exact ⟨by omega, by omega, h⟩
def nmA (l : List Tk) (i : Int) : Bool := match tkA l i with | some s => nmB s | none => false
def smV (l : List Tk) (kind i : Int) : Int := if edV l i < 0 ∨ kdV l i ≠ kind ∨ 5 < dpV l i then -1 else edV l i
def setT : Tk := [115, 101, 116]
def cutT : Tk := [99, 117, 116]
def stopT : Tk := [115, 116, 111, 112]
def ifT : Tk := [105, 102]
def whT : Tk := [119, 104, 105, 108, 101]
def ddG (l : List Tk) (B : Int → Int) (i : Int) : Int := match tkA l i with
  | none => -1
  | some s => if s = setT then (if nmA l (i + 1) then smV l 1 (i + 2) else -1) else if s = cutT then (if nmA l (i + 1) then i + 2 else -1) else if s = stopT then i + 1
    else if s = ifT then B (B (smV l 2 (i + 1))) else if s = whT then B (smV l 2 (i + 1)) else -1
def blE (l : List Tk) (f : Int → Int) : Nat → Int → Int
  | 0, _ => -1
  | n + 1, i => match tkA l i with | none => -1 | some s => if s = [93] then i + 1 else blE l f n (f i)
def blS (l : List Tk) (f : Int → Int) (i : Int) : Int := if tkA l i = some [91] then blE l f (l.length + 1) (i + 1) else -1
def ddE (l : List Tk) : Nat → Int → Int
  | 0 => ddG l (fun _ => -1)
  | d + 1 => ddG l (blS l (ddE l d))
def Ahd (l : List Tk) (i r : Int) : Prop := r = -1 ∨ (0 ≤ i ∧ i < r ∧ r ≤ l.length)
theorem Ahd.trans {l : List Tk} {i j r : Int} (h : Ahd l i j) (k : Ahd l j r) : Ahd l i r := by unfold Ahd at *; omega
theorem ed_ahd (l : List Tk) (i : Int) : Ahd l i (edV l i) := by
  unfold edV
  cases h : enA l i with
  | none => exact Or.inl rfl
  | some n =>
    right
    unfold enA at h
    split at h
    · cases h
    · have h1 := en_le h
      have h2 := en_pos h
      rw [List.length_drop] at h1
      show 0 ≤ i ∧ i < i + (n : Int) ∧ i + (n : Int) ≤ l.length
      omega
theorem sm_ahd (l : List Tk) (kind i : Int) : Ahd l i (smV l kind i) := by
  unfold smV
  split
  · exact Or.inl rfl
  · exact ed_ahd l i
theorem dd_ahd {l : List Tk} {B : Int → Int} (hB : ∀ i, Ahd l i (B i)) (i : Int) : Ahd l i (ddG l B i) := by
  unfold ddG
  cases h : tkA l i with
  | none => exact Or.inl rfl
  | some s =>
    obtain ⟨h0, h1, -⟩ := tkA_some h
    dsimp only
    split
    · split
      · have := sm_ahd l 1 (i + 2)
        unfold Ahd at *; omega
      · exact Or.inl rfl
    · split
      · split
        · rename_i hn
          unfold nmA at hn
          cases h2 : tkA l (i + 1) with
          | none => rw [h2] at hn; cases hn
          | some t => have := tkA_some h2; right; omega
        · exact Or.inl rfl
      · split
        · right; omega
        · split
          · have h2 := sm_ahd l 2 (i + 1)
            have h3 := (h2.trans (hB _)).trans (hB _)
            unfold Ahd at *; omega
          · split
            · have h2 := sm_ahd l 2 (i + 1)
              have h3 := h2.trans (hB _)
              unfold Ahd at *; omega
            · exact Or.inl rfl
theorem ble_ahd {l : List Tk} {f : Int → Int} (hf : ∀ i, Ahd l i (f i)) : ∀ (n : Nat) (i : Int), Ahd l i (blE l f n i)
  | 0, i => Or.inl rfl
  | n + 1, i => by
    unfold blE
    cases h : tkA l i with
    | none => exact Or.inl rfl
    | some s =>
      obtain ⟨h0, h1, -⟩ := tkA_some h
      dsimp only
      split
      · right; omega
      · exact (hf i).trans (ble_ahd hf n _)
theorem bls_ahd {l : List Tk} {f : Int → Int} (hf : ∀ i, Ahd l i (f i)) (i : Int) : Ahd l i (blS l f i) := by
  unfold blS
  split
  · rename_i h
    have := tkA_some h
    have := ble_ahd hf (l.length + 1) (i + 1)
    unfold Ahd at *; omega
  · exact Or.inl rfl
theorem ddE_ahd (l : List Tk) : ∀ (d : Nat) (i : Int), Ahd l i (ddE l d i)
  | 0, i => dd_ahd (fun _ => Or.inl rfl) i
  | d + 1, i => dd_ahd (bls_ahd (ddE_ahd l d)) i
def dsE (l : List Tk) : Nat → Int → Int
  | 0, i => i
  | n + 1, i => if 0 ≤ i ∧ i < l.length then dsE l n (ddE l 5 i) else i
def rcB (l : List Tk) : Bool := if l.length ≤ 120 then decide (dsE l l.length 0 = l.length) else false
end Go.Proofs.YtfnnoehpahdgcaaGreatDoor.Cl
namespace Go.Proofs.YtfnnoehpahdgcaaGreatDoor.Cl
set_option linter.unusedVariables false
open Go.RowKit Wd Rp Kp
theorem sm_neg {l : List Tk} {kind i : Int} (h : edV l i < 0) : smV l kind i = -1 := by unfold smV; rw [if_pos (Or.inl h)]
theorem sm_kind {l : List Tk} {kind i : Int} (h : kdV l i ≠ kind) : smV l kind i = -1 := by unfold smV; rw [if_pos (Or.inr (Or.inl h))]
theorem sm_deep {l : List Tk} {kind i : Int} (h : 5 < dpV l i) : smV l kind i = -1 := by unfold smV; rw [if_pos (Or.inr (Or.inr h))]
theorem sm_yes {l : List Tk} {kind i : Int} (h1 : ¬ edV l i < 0) (h2 : kdV l i = kind) (h3 : ¬ 5 < dpV l i) : smV l kind i = edV l i := by
  unfold smV; rw [if_neg (by rintro (h | h | h) <;> contradiction)]
def GivesI (x : Int) (w : World) (e : Ending) (w' : World) : Prop := e = .returned (.int .i64 x) ∧ Below w.heap.size w w'
def GivesB (x : Bool) (w : World) (e : Ending) (w' : World) : Prop := e = .returned (.bool x) ∧ Below w.heap.size w w'
set_option maxHeartbeats 4000000 in
set_option maxRecDepth 100000 in
theorem l9Sum_any (w : World) (a : Option Addr) (cap : Nat) (l : List Tk) (n : Nat) (kind i : Int) (hi : I64 i) (hn : l.length = n) (hv : V1 w a cap (txL l)) (hl : n ≤ 4194304) (hm : ∀ s ∈ l, s.length ≤ 4194304) :
    Calls Tryz.prog 85 #[.slice a n cap, .int .i64 i, .int .i64 kind] w (GivesI (smV l kind i) w) := by
  have HE := Lib.hid (l8End_any w a cap l n i hi hn hv hl hm)
  have HK := Lib.hid (fun w h => specKind_any w a cap l n i hi hn h hl hm)
  have HD := Lib.hid (fun w h => specDepth_any w a cap l n i hi hn h hl hm)
  have HV := Lib.hid hv; clear hv hm
  have S1 := Lib.hid (fun h => sm_neg (l := l) (kind := kind) (i := i) h)
  have S2 := Lib.hid (fun h => sm_kind (l := l) (kind := kind) (i := i) h)
  have S3 := Lib.hid (fun h => sm_deep (l := l) (kind := kind) (i := i) h)
  have S4 := Lib.hid (fun h1 h2 h3 => sm_yes (l := l) (kind := kind) (i := i) h1 h2 h3)
  generalize smV l kind i = r at *
  generalize edV l i = x at *
  generalize kdV l i = y at *
  generalize dpV l i = z at *
  go_enter Tryz.func85, Tryz.ntmps85
  go_wp2_with fail
  refine HE.out.mono ?_; rintro e w1 ⟨rfl, b1⟩
  have V1' := Lib.hid (HV.out.below b1)
  have B1 := Lib.hid b1; clear b1
  by_cases hx : x < 0
  · have p0 : decide (x < 0) = true := by simpa using hx
    go_wp2_with fail
    go_ret
    exact ⟨by rw [S1.out hx]; rfl, B1.out⟩
  have p0 : decide (x < 0) = false := by simpa using hx
  have HK1 := Lib.hid (HK.out w1 V1'.out)
  go_wp2_with fail
  refine HK1.out.mono ?_; rintro e w2 ⟨rfl, b2⟩
  have V2' := Lib.hid (V1'.out.below b2)
  have B2 := Lib.hid (bel_tr B1.out b2 (Nat.le_refl _)); clear b2
  by_cases hy : y = kind
  · subst hy
    have HD1 := Lib.hid (HD.out w2 V2'.out)
    go_wp2_with fail
    refine HD1.out.mono ?_; rintro e w3 ⟨rfl, b3⟩
    have B3 := Lib.hid (bel_tr B2.out b3 (Nat.le_refl _)); clear b3
    by_cases hz : 5 < z
    · have q0 : decide (5 < z) = true := by simpa using hz
      go_wp2_with fail
      go_ret
      exact ⟨by rw [S3.out hz]; rfl, B3.out⟩
    · have q0 : decide (5 < z) = false := by simpa using hz
      go_wp2_with fail
      go_ret
      exact ⟨by rw [S4.out hx trivial hz]; rfl, B3.out⟩
  · have p1 : (y == kind) = false := beq_eq_false_iff_ne.2 hy
    go_wp2_with fail
    go_ret
    exact ⟨by rw [S2.out hy]; rfl, B2.out⟩
set_option maxHeartbeats 4000000 in
set_option maxRecDepth 100000 in
theorem l9Name_any (w : World) (a : Option Addr) (cap : Nat) (l : List Tk) (n : Nat) (i : Int) (hn : l.length = n) (hv : V1 w a cap (txL l)) (hl : n ≤ 4194304) (hm : ∀ s ∈ l, s.length ≤ 4194304) :
    Calls Tryz.prog 84 #[.slice a n cap, .int .i64 i] w fun e w' => e = .returned (.bool (nmA l i)) ∧ w = w' := by
  cases h : tkA l i with
  | none =>
    have HR := Lib.hid (show nmA l i = false by unfold nmA; rw [h])
    have hc : i < 0 ∨ (n : Int) ≤ i := by
      by_cases g : i < 0
      · exact Or.inl g
      · right
        unfold tkA at h
        rw [if_neg g] at h
        have := List.getElem?_eq_none_iff.1 h
        omega
    clear h hv hm
    generalize nmA l i = r at *
    rcases hc with h1 | h1
    · have p0 : decide (0 ≤ i) = false := by simpa using h1
      go_enter Tryz.func84, Tryz.ntmps84
      go_wp2_with fail
      go_ret
      exact ⟨by rw [HR.out]; rfl, rfl⟩
    · have p0 : decide (0 ≤ i) = true := by simp; omega
      have p1 : decide (i < (n : Int)) = false := by simpa using h1
      go_enter Tryz.func84, Tryz.ntmps84
      go_wp2_with fail
      go_ret
      exact ⟨by rw [HR.out]; rfl, rfl⟩
  | some s =>
    obtain ⟨h0, h1, hs⟩ := tkA_some h
    have HR := Lib.hid (show nmA l i = nmB s by unfold nmA; rw [h])
    obtain ⟨k, rfl⟩ : ∃ k : Nat, i = k := ⟨i.toNat, by omega⟩
    rw [Int.toNat_natCast] at hs
    obtain ⟨g, o, rfl, hg, c0⟩ := hv.tx hs
    have HN := Lib.hid (nmS_any s w (by have := hm s (List.mem_of_getElem? hs); omega))
    have hk : k < n := by omega
    clear h hv hm hs hg
    generalize nmA l (k : Int) = r at *
    generalize nmB s = q at *
    have p0 : decide (0 ≤ (k : Int)) = true := by simp
    have p1 : decide ((k : Int) < (n : Int)) = true := by simpa using hk
    go_enter Tryz.func84, Tryz.ntmps84
    go_wp2_with fail
    refine HN.out.mono ?_; rintro e w1 ⟨rfl, rfl⟩
    go_wp2_with fail
    go_ret
    exact ⟨by rw [HR.out]; rfl, rfl⟩
end Go.Proofs.YtfnnoehpahdgcaaGreatDoor.Cl
namespace Go.Proofs.YtfnnoehpahdgcaaGreatDoor.Cl
set_option linter.unusedVariables false
open Go.RowKit Wd Rp Kp
theorem tkA_none {l : List Tk} {i : Int} (h : tkA l i = none) : i < 0 ∨ (l.length : Int) ≤ i := by
  by_cases g : i < 0
  · exact Or.inl g
  · right
    unfold tkA at h
    rw [if_neg g] at h
    have := List.getElem?_eq_none_iff.1 h
    omega
def DeedS (a : Option Addr) (n cap : Nat) (l : List Tk) (d : Int) (f : Int → Int) : Prop := ∀ (w : World) (i : Int), I64 i → V1 w a cap (txL l) → Calls Tryz.prog 55 #[.slice a n cap, .int .i64 i, .int .i64 d] w (GivesI (f i) w)
def BlokS (a : Option Addr) (n cap : Nat) (l : List Tk) (d : Int) (f : Int → Int) : Prop := ∀ (w : World) (i : Int), I64 i → V1 w a cap (txL l) → Calls Tryz.prog 86 #[.slice a n cap, .int .i64 i, .int .i64 d] w (GivesI (f i) w)
theorem bls_no {l : List Tk} {f : Int → Int} {i : Int} (h : tkA l i ≠ some [91]) : blS l f i = -1 := by unfold blS; rw [if_neg h]
theorem bls_in {l : List Tk} {f : Int → Int} {i : Int} (h : tkA l i = some [91]) : blS l f i = blE l f (l.length + 1) (i + 1) := by unfold blS; rw [if_pos h]
theorem ble_none {l : List Tk} {f : Int → Int} {i : Int} {k : Nat} (h : tkA l i = none) : blE l f k i = -1 := by
  cases k with
  | zero => rfl
  | succ k => unfold blE; rw [h]
theorem ble_end {l : List Tk} {f : Int → Int} {i : Int} {k : Nat} (h : tkA l i = some [93]) : blE l f (k + 1) i = i + 1 := by unfold blE; rw [h]; rfl
theorem ble_more {l : List Tk} {f : Int → Int} {i : Int} {k : Nat} {s : Tk} (h : tkA l i = some s) (hs : s ≠ [93]) : blE l f (k + 1) i = blE l f k (f i) := by rw [blE, h]; exact if_neg hs
set_option maxHeartbeats 4000000 in
set_option maxRecDepth 100000 in
theorem blok0 (a : Option Addr) (cap : Nat) (l : List Tk) (n : Nat) (hn : l.length = n) (hl : n ≤ 4194304) : BlokS a n cap l 0 (fun _ => -1) := by
  intro w i hi hv
  have HR0 := Lib.hid (show (fun _ => -1 : Int → Int) i = -1 from rfl)
  generalize (fun _ => -1 : Int → Int) i = r at *
  cases h : tkA l i with
  | none =>
    have HR := Lib.hid (show r = -1 from HR0.out)
    have hc := tkA_none h
    rw [hn] at hc
    clear h hv
    rcases hc with h1 | h1
    · have p0 : decide (i < 0) = true := by simpa using h1
      go_enter Tryz.func86, Tryz.ntmps86
      go_wp2_with fail
      go_ret
      exact ⟨by rw [HR.out]; rfl, Below.refl _ _⟩
    · have p0 : decide (i < 0) = false := by simp; omega
      have p1 : decide ((n : Int) ≤ i) = true := by simpa using h1
      go_enter Tryz.func86, Tryz.ntmps86
      go_wp2_with fail
      go_ret
      exact ⟨by rw [HR.out]; rfl, Below.refl _ _⟩
  | some s =>
    obtain ⟨h0, h1, hs⟩ := tkA_some h
    obtain ⟨k, rfl⟩ : ∃ k : Nat, i = k := ⟨i.toNat, by omega⟩
    rw [Int.toNat_natCast] at hs
    have HV := Lib.hid hv
    obtain ⟨g, o, rfl, hg, c0⟩ := hv.tx hs
    have hk : k < n := by omega
    have p0 : decide ((k : Int) < 0) = false := by simp
    have p1 : decide ((n : Int) ≤ (k : Int)) = false := by simpa using hk
    have p1n : ¬ (n : Int) ≤ (k : Int) := by omega
    have p1m : decide (n ≤ k) = false := by simpa using hk
    by_cases hb : s = [91]
    · subst hb
      replace c0 : w.cell? ⟨g, o + k, none⟩ = some (.string ⟨#[91]⟩) := c0
      clear h hs hg hv HV
      go_enter Tryz.func86, Tryz.ntmps86
      go_wp2_with fail
      go_ret
      exact ⟨by rw [HR0.out]; rfl, Below.refl _ _⟩
    · have HR := Lib.hid (show r = -1 from HR0.out)
      have q1 := tx_neL hb
      clear h hs hg hv HV
      go_enter Tryz.func86, Tryz.ntmps86
      go_wp2_with fail
      go_ret
      exact ⟨by rw [HR.out]; rfl, Below.refl _ _⟩
set_option maxHeartbeats 8000000 in
set_option maxRecDepth 100000 in
theorem blok1 (a : Option Addr) (cap : Nat) (l : List Tk) (n : Nat) (hn : l.length = n) (hl : n ≤ 4194304) (d : Int) (hd : 0 < d) (hd2 : d ≤ 1000) (f : Int → Int) (hf : ∀ i, Ahd l i (f i)) (ih : DeedS a n cap l (d - 1) f) : BlokS a n cap l d (blS l f) := by
  intro w i hi hv
  have IH := Lib.hid ih; clear ih
  have HF := Lib.hid hf; clear hf
  have N0 := Lib.hid (fun h => bls_no (l := l) (f := f) (i := i) h)
  have N1 := Lib.hid (fun h => bls_in (l := l) (f := f) (i := i) h)
  generalize blS l f i = r at *
  cases h : tkA l i with
  | none =>
    have HR := Lib.hid (show r = -1 from N0.out (by rw [h]; intro e; cases e))
    have hc := tkA_none h
    rw [hn] at hc
    clear h hv
    rcases hc with h1 | h1
    · have p0 : decide (i < 0) = true := by simpa using h1
      go_enter Tryz.func86, Tryz.ntmps86
      go_wp2_with fail
      go_ret
      exact ⟨by rw [HR.out]; rfl, Below.refl _ _⟩
    · have p0 : decide (i < 0) = false := by simp; omega
      have p1 : decide ((n : Int) ≤ i) = true := by simpa using h1
      go_enter Tryz.func86, Tryz.ntmps86
      go_wp2_with fail
      go_ret
      exact ⟨by rw [HR.out]; rfl, Below.refl _ _⟩
  | some s =>
    obtain ⟨h0, h1, hs⟩ := tkA_some h
    obtain ⟨k, rfl⟩ : ∃ k : Nat, i = k := ⟨i.toNat, by omega⟩
    rw [Int.toNat_natCast] at hs
    have HV := Lib.hid hv
    obtain ⟨g, o, rfl, hg, c0⟩ := hv.tx hs
    have hk : k < n := by omega
    have p0 : decide ((k : Int) < 0) = false := by simp
    have p1 : decide ((n : Int) ≤ (k : Int)) = false := by simpa using hk
    have p1n : ¬ (n : Int) ≤ (k : Int) := by omega
    have p1m : decide (n ≤ k) = false := by simpa using hk
    by_cases hb : s = [91]
    · subst hb
      replace c0 : w.cell? ⟨g, o + k, none⟩ = some (.string ⟨#[91]⟩) := c0
      have HR := Lib.hid (N1.out h)
      have pd : (d == 0) = false := beq_eq_false_iff_ne.2 (by omega)
      have pw : IntKind.i64.wrap (d - 1) = d - 1 := by rw [IntKind.wrap_i64]; omega
      clear h hs hg hv N0 N1
      go_enter Tryz.func86, Tryz.ntmps86
      go_wp2_with fail
      go_loopg [1] (l.length + 1) (fun j q wr => ∃ z : Int, q = .int .i64 z ∧ r = blE l f j z ∧ (z = -1 ∨ (0 ≤ z ∧ z ≤ n ∧ n - z < j)) ∧ Below w.heap.size w wr)
      case atStart => exact ⟨(k : Int) + 1, by go_num, HR.out, Or.inr (by omega), Below.refl _ _⟩
      case round =>
        clear HR
        obtain ⟨z, rfl, hr, hz, hbel⟩ := hrel
        have HR := Lib.hid hr
        have HB := Lib.hid hbel
        have HV1 := Lib.hid (HV.out.below hbel)
        clear hr hbel c0
        cases h : tkA l z with
        | none =>
          have HE := Lib.hid (HR.out.trans (ble_none h))
          have hc := tkA_none h
          rw [hn] at hc
          clear h
          by_cases h1 : z < 0
          · have t0 : decide (0 ≤ z) = false := by simpa using h1
            have t1 : decide (z < 0) = true := by simpa using h1
            go_wp2_with fail
            go_ret
            exact ⟨by rw [HE.out]; rfl, HB.out⟩
          · have t0 : decide (0 ≤ z) = true := by simp; omega
            have t1 : decide (z < 0) = false := by simpa using h1
            have t2 : decide (z < (n : Int)) = false := by simp; omega
            have t3 : decide ((n : Int) ≤ z) = true := by simp; omega
            go_wp2_with fail
            go_ret
            exact ⟨by rw [HE.out]; rfl, HB.out⟩
        | some s =>
          obtain ⟨h0, h1, hs⟩ := tkA_some h
          obtain ⟨m, rfl⟩ : ∃ m : Nat, z = m := ⟨z.toNat, by omega⟩
          rw [Int.toNat_natCast] at hs
          obtain ⟨j, rfl⟩ : ∃ j', gk = j' + 1 := ⟨gk - 1, by omega⟩
          obtain ⟨g', o', e, hg, c0⟩ := HV1.out.tx hs
          cases e
          have hmn : m < n := by omega
          have hj : n - m < j + 1 := by omega
          clear hz h0 h1
          have t0 : decide (0 ≤ (m : Int)) = true := by simp
          have t1 : decide ((m : Int) < 0) = false := by simp
          have t2 : decide ((m : Int) < (n : Int)) = true := by simpa using hmn
          have t3 : decide ((n : Int) ≤ (m : Int)) = false := by simpa using hmn
          have t3n : ¬ (n : Int) ≤ (m : Int) := by omega
          have t3m : decide (n ≤ m) = false := by simpa using hmn
          have t2n : (m : Int) < (n : Int) := by omega
          have t2m : decide (m < n) = true := by simpa using hmn
          by_cases hb : s = [93]
          · subst hb
            replace c0 : wr.cell? ⟨g, o + m, none⟩ = some (.string ⟨#[93]⟩) := c0
            have HE := Lib.hid (HR.out.trans (ble_end h))
            clear h hs hg
            have i1 : (m : Int) + 1 ≤ 9223372036854775807 := by omega
            go_wp2_with fail
            go_ret
            exact ⟨by rw [HE.out]; rfl, HB.out⟩
          · have HE := Lib.hid (HR.out.trans (ble_more h hb))
            have q1 := tx_neL hb
            have HC := Lib.hid (IH.out wr (m : Int) ⟨by omega, by omega⟩ HV1.out)
            have HA := Lib.hid (HF.out (m : Int))
            generalize hy : f (m : Int) = y at HE HC HA
            clear h hs hg hy
            go_wp2_with fail
            refine HC.out.mono ?_; rintro e w1 ⟨rfl, b1⟩
            have B1 := Lib.hid (bel_tr HB.out b1 (Nat.le_refl _)); clear b1
            go_wp2_with fail
            go_roundg j
            case measure => omega
            case rel => exact ⟨y, rfl, HE.out, (by have := HA.out; unfold Ahd at this; omega), B1.out⟩
    · have HR := Lib.hid (show r = -1 from N0.out (by rw [h]; intro e; cases e; exact hb rfl))
      have q1 := tx_neL hb
      clear h hs hg hv HV
      go_enter Tryz.func86, Tryz.ntmps86
      go_wp2_with fail
      go_ret
      exact ⟨by rw [HR.out]; rfl, Below.refl _ _⟩
end Go.Proofs.YtfnnoehpahdgcaaGreatDoor.Cl
namespace Go.Proofs.YtfnnoehpahdgcaaGreatDoor.Cl
set_option linter.unusedVariables false
open Go.RowKit Wd Rp Kp
theorem ddG_none {l : List Tk} {B : Int → Int} {i : Int} (h : tkA l i = none) : ddG l B i = -1 := by unfold ddG; rw [h]
theorem ddG_some {l : List Tk} {B : Int → Int} {i : Int} {s : Tk} (h : tkA l i = some s) : ddG l B i = (if s = setT then (if nmA l (i + 1) then smV l 1 (i + 2) else -1) else if s = cutT then (if nmA l (i + 1) then i + 2 else -1) else if s = stopT then i + 1
    else if s = ifT then B (B (smV l 2 (i + 1))) else if s = whT then B (smV l 2 (i + 1)) else -1) := by unfold ddG; rw [h]
theorem ahd_i64 {l : List Tk} {i r : Int} (h : Ahd l i r) (hl : l.length ≤ 4194304) : I64 r := by unfold Ahd at h; exact ⟨by omega, by omega⟩
set_option maxHeartbeats 8000000 in
set_option maxRecDepth 100000 in
theorem deedS (a : Option Addr) (cap : Nat) (l : List Tk) (n : Nat) (hn : l.length = n) (hl : n ≤ 4194304) (hm : ∀ s ∈ l, s.length ≤ 4194304) (d : Int) (B : Int → Int) (hB : ∀ i, Ahd l i (B i)) (ih : BlokS a n cap l d B) : DeedS a n cap l d (ddG l B) := by
  intro w i hi hv
  have IH := Lib.hid ih; clear ih
  have HA := Lib.hid hB; clear hB
  cases h : tkA l i with
  | none =>
    have HR := Lib.hid (ddG_none (B := B) h)
    generalize ddG l B i = r at *
    have hc := tkA_none h
    rw [hn] at hc
    clear h hv
    rcases hc with h1 | h1
    · have p0 : decide (i < 0) = true := by simpa using h1
      go_enter Tryz.func55, Tryz.ntmps55
      go_wp2_with fail
      go_ret
      exact ⟨by rw [HR.out]; rfl, Below.refl _ _⟩
    · have p0 : decide (i < 0) = false := by simp; omega
      have p1 : decide ((n : Int) ≤ i) = true := by simpa using h1
      go_enter Tryz.func55, Tryz.ntmps55
      go_wp2_with fail
      go_ret
      exact ⟨by rw [HR.out]; rfl, Below.refl _ _⟩
  | some s =>
    obtain ⟨h0, h1, hs⟩ := tkA_some h
    have HM := Lib.hid (ddG_some (B := B) h)
    generalize ddG l B i = r at *
    obtain ⟨k, rfl⟩ : ∃ k : Nat, i = k := ⟨i.toNat, by omega⟩
    rw [Int.toNat_natCast] at hs
    have HV := Lib.hid hv
    have HN := Lib.hid (fun w h => l9Name_any w a cap l n ((k : Int) + 1) hn h hl hm)
    have HS := Lib.hid (fun w kind i hi h => l9Sum_any w a cap l n kind i hi hn h hl hm)
    have HSA := Lib.hid (fun kind i => ahd_i64 (sm_ahd l kind i) (by omega))
    have HBA := Lib.hid (fun i => ahd_i64 (HA.out i) (by omega))
    obtain ⟨g, o, rfl, hg, c0⟩ := hv.tx hs
    have hk : k < n := by omega
    have p0 : decide ((k : Int) < 0) = false := by simp
    have p1 : decide ((n : Int) ≤ (k : Int)) = false := by simpa using hk
    have p1n : ¬ (n : Int) ≤ (k : Int) := by omega
    have p1m : decide (n ≤ k) = false := by simpa using hk
    clear hv hs hg h
    by_cases b0 : s = setT
    · subst b0
      replace HM := Lib.hid (HM.out.trans (if_pos rfl))
      replace c0 : w.cell? ⟨g, o + k, none⟩ = some (.string ⟨#[115, 101, 116]⟩) := c0
      have HN0 := Lib.hid (HN.out w HV.out)
      generalize nmA l ((k : Int) + 1) = nm at *
      have HS0 := Lib.hid (HS.out w 1 ((k : Int) + 2) ⟨by omega, by omega⟩ HV.out)
      generalize smV l 1 ((k : Int) + 2) = x at *
      go_enter Tryz.func55, Tryz.ntmps55
      go_wp2_with fail
      refine HN0.out.mono ?_; rintro e w1 ⟨rfl, rfl⟩
      cases nm
      · go_wp2_with fail
        go_ret
        exact ⟨by rw [HM.out]; rfl, Below.refl _ _⟩
      · go_wp2_with fail
        refine HS0.out.mono ?_; rintro e w2 ⟨rfl, b2⟩
        have B2 := Lib.hid b2; clear b2
        go_wp2_with fail
        go_ret
        exact ⟨by rw [HM.out]; rfl, B2.out⟩
    replace HM := Lib.hid (HM.out.trans (if_neg b0))
    have q0 := tx_neL b0
    unfold setT at q0
    by_cases b1 : s = cutT
    · subst b1
      replace HM := Lib.hid (HM.out.trans (if_pos rfl))
      replace c0 : w.cell? ⟨g, o + k, none⟩ = some (.string ⟨#[99, 117, 116]⟩) := c0
      have HN0 := Lib.hid (HN.out w HV.out)
      generalize nmA l ((k : Int) + 1) = nm at *
      go_enter Tryz.func55, Tryz.ntmps55
      go_wp2_with fail
      refine HN0.out.mono ?_; rintro e w1 ⟨rfl, rfl⟩
      cases nm
      · go_wp2_with fail
        go_ret
        exact ⟨by rw [HM.out]; rfl, Below.refl _ _⟩
      · go_wp2_with fail
        go_ret
        exact ⟨by rw [HM.out]; rfl, Below.refl _ _⟩
    replace HM := Lib.hid (HM.out.trans (if_neg b1))
    have q1 := tx_neL b1
    unfold cutT at q1
    by_cases b2 : s = stopT
    · subst b2
      replace HM := Lib.hid (HM.out.trans (if_pos rfl))
      replace c0 : w.cell? ⟨g, o + k, none⟩ = some (.string ⟨#[115, 116, 111, 112]⟩) := c0
      go_enter Tryz.func55, Tryz.ntmps55
      go_wp2_with fail
      go_ret
      exact ⟨by rw [HM.out]; rfl, Below.refl _ _⟩
    replace HM := Lib.hid (HM.out.trans (if_neg b2))
    have q2 := tx_neL b2
    unfold stopT at q2
    by_cases b3 : s = ifT
    · subst b3
      replace HM := Lib.hid (HM.out.trans (if_pos rfl))
      replace c0 : w.cell? ⟨g, o + k, none⟩ = some (.string ⟨#[105, 102]⟩) := c0
      have HS0 := Lib.hid (HS.out w 2 ((k : Int) + 1) ⟨by omega, by omega⟩ HV.out)
      have HX := Lib.hid (HSA.out 2 ((k : Int) + 1))
      generalize smV l 2 ((k : Int) + 1) = x at *
      have HY := Lib.hid (HBA.out x)
      have HB1 := Lib.hid (fun w h => IH.out w x HX.out h)
      generalize hy : B x = y at HM HY HB1
      clear hy
      have HB2 := Lib.hid (fun w h => IH.out w y HY.out h)
      generalize hz : B y = z at HM HB2
      clear hz
      go_enter Tryz.func55, Tryz.ntmps55
      go_wp2_with fail
      refine HS0.out.mono ?_; rintro e w2 ⟨rfl, b2⟩
      have V2 := Lib.hid (HV.out.below b2)
      have B2 := Lib.hid b2; clear b2
      have HB1' := Lib.hid (HB1.out w2 V2.out)
      go_wp2_with fail
      refine HB1'.out.mono ?_; rintro e w3 ⟨rfl, b3⟩
      have V3 := Lib.hid (V2.out.below b3)
      have B3 := Lib.hid (bel_tr B2.out b3 (Nat.le_refl _)); clear b3
      have HB2' := Lib.hid (HB2.out w3 V3.out)
      go_wp2_with fail
      refine HB2'.out.mono ?_; rintro e w4 ⟨rfl, b4⟩
      have B4 := Lib.hid (bel_tr B3.out b4 (Nat.le_refl _)); clear b4
      go_wp2_with fail
      go_ret
      exact ⟨by rw [HM.out]; rfl, B4.out⟩
    replace HM := Lib.hid (HM.out.trans (if_neg b3))
    have q3 := tx_neL b3
    unfold ifT at q3
    by_cases b4 : s = whT
    · subst b4
      replace HM := Lib.hid (HM.out.trans (if_pos rfl))
      replace c0 : w.cell? ⟨g, o + k, none⟩ = some (.string ⟨#[119, 104, 105, 108, 101]⟩) := c0
      have HS0 := Lib.hid (HS.out w 2 ((k : Int) + 1) ⟨by omega, by omega⟩ HV.out)
      have HX := Lib.hid (HSA.out 2 ((k : Int) + 1))
      generalize smV l 2 ((k : Int) + 1) = x at *
      have HY := Lib.hid (HBA.out x)
      have HB1 := Lib.hid (fun w h => IH.out w x HX.out h)
      generalize hy : B x = y at HM HY HB1
      clear hy
      go_enter Tryz.func55, Tryz.ntmps55
      go_wp2_with fail
      refine HS0.out.mono ?_; rintro e w2 ⟨rfl, b2⟩
      have V2 := Lib.hid (HV.out.below b2)
      have B2 := Lib.hid b2; clear b2
      have HB1' := Lib.hid (HB1.out w2 V2.out)
      go_wp2_with fail
      refine HB1'.out.mono ?_; rintro e w3 ⟨rfl, b3⟩
      have V3 := Lib.hid (V2.out.below b3)
      have B3 := Lib.hid (bel_tr B2.out b3 (Nat.le_refl _)); clear b3
      go_wp2_with fail
      go_ret
      exact ⟨by rw [HM.out]; rfl, B3.out⟩
    replace HM := Lib.hid (HM.out.trans (if_neg b4))
    have q4 := tx_neL b4
    unfold whT at q4
    go_enter Tryz.func55, Tryz.ntmps55
    go_wp2_with fail
    go_ret
    exact ⟨by rw [HM.out]; rfl, Below.refl _ _⟩
theorem deedS_all (a : Option Addr) (cap : Nat) (l : List Tk) (n : Nat) (hn : l.length = n) (hl : n ≤ 4194304) (hm : ∀ s ∈ l, s.length ≤ 4194304) : ∀ d : Nat, d ≤ 100 → DeedS a n cap l d (ddE l d)
  | 0, _ => deedS a cap l n hn hl hm 0 _ (fun _ => Or.inl rfl) (blok0 a cap l n hn hl)
  | d + 1, hd => by
    have h := deedS_all a cap l n hn hl hm d (by omega)
    exact deedS a cap l n hn hl hm ((d + 1 : Nat) : Int) _ (bls_ahd (ddE_ahd l d)) (blok1 a cap l n hn hl _ (by omega) (by omega) _ (ddE_ahd l d) (by rw [show ((d + 1 : Nat) : Int) - 1 = (d : Nat) by omega]; exact h))
theorem dsE_in {l : List Tk} {i : Int} {k : Nat} (h0 : 0 ≤ i) (h1 : i < l.length) : dsE l (k + 1) i = dsE l k (ddE l 5 i) := by rw [dsE, if_pos ⟨h0, h1⟩]
theorem dsE_out {l : List Tk} {i : Int} {k : Nat} (h : i < 0 ∨ (l.length : Int) ≤ i) : dsE l k i = i := by
  cases k with
  | zero => rfl
  | succ k => rw [dsE, if_neg (by omega)]
set_option maxHeartbeats 4000000 in
set_option maxRecDepth 100000 in
theorem specRecipeOk_any (w : World) (a : Option Addr) (cap : Nat) (l : List Tk) (n : Nat) (hn : l.length = n) (hv : V1 w a cap (txL l)) (hl : n ≤ 4194304) (hm : ∀ s ∈ l, s.length ≤ 4194304) :
    Calls Tryz.prog 19 #[.slice a n cap] w (GivesB (rcB l) w) := by
  have HV := Lib.hid hv; clear hv
  have HD := Lib.hid (fun w i hi h => deedS_all a cap l n hn hl hm 5 (by decide) w i hi h)
  have HA := Lib.hid (fun i => ddE_ahd l 5 i)
  by_cases hlong : l.length ≤ 120
  · have HR := Lib.hid (show rcB l = decide (dsE l l.length 0 = l.length) by unfold rcB; rw [if_pos hlong])
    have y0 : decide ((n : Int) ≤ 120) = true := by simp; omega
    have y1 : (n : Int) ≤ 120 := by omega
    have y2 : decide (n ≤ 120) = true := by simp; omega
    generalize rcB l = r at *
    go_enter Tryz.func19, Tryz.ntmps19
    go_wp2_with fail
    go_loopg [3] (l.length + 1) (fun j q wr => ∃ z : Int, q = .int .i64 z ∧ dsE l l.length 0 = dsE l (j - 1) z ∧ (z = -1 ∨ (0 ≤ z ∧ z ≤ n ∧ n - z < j)) ∧ Below w.heap.size w wr)
    case atStart => exact ⟨0, rfl, rfl, Or.inr (by omega), Below.refl _ _⟩
    case round =>
      obtain ⟨z, rfl, hr, hz, hbel⟩ := hrel
      have HE := Lib.hid hr
      have HB := Lib.hid hbel
      have HV1 := Lib.hid (HV.out.below hbel)
      clear hr hbel
      by_cases h0 : z < 0
      · have t0 : decide (0 ≤ z) = false := by simpa using h0
        have HX := Lib.hid (HE.out.trans (dsE_out (Or.inl h0)))
        have t1 : (z == (n : Int)) = false := beq_eq_false_iff_ne.2 (by omega)
        go_wp2_with fail
        go_ret
        exact ⟨by rw [HR.out, HX.out, hn, show decide (z = (n : Int)) = false by simp; omega]; rfl, HB.out⟩
      · have t0 : decide (0 ≤ z) = true := by simp; omega
        by_cases h1 : z < (n : Int)
        · obtain ⟨m, rfl⟩ : ∃ m : Nat, z = m := ⟨z.toNat, by omega⟩
          have hmn : m < n := by omega
          have t1 : decide ((m : Int) < (n : Int)) = true := by simpa using hmn
          have t2 : decide (m < n) = true := by simpa using hmn
          obtain ⟨j, rfl⟩ : ∃ j', gk = j' + 2 := ⟨gk - 2, by omega⟩
          have HX := Lib.hid (HE.out.trans (show dsE l (j + 2 - 1) (m : Int) = dsE l (j + 1 - 1) (ddE l 5 m) from dsE_in (k := j) (by omega) (by omega)))
          have HC := Lib.hid (HD.out wr (m : Int) ⟨by omega, by omega⟩ HV1.out)
          have HY := Lib.hid (HA.out (m : Int))
          generalize hy : ddE l 5 (m : Int) = y at HX HC HY
          clear hy
          go_wp2_with fail
          refine HC.out.mono ?_; rintro e w1 ⟨rfl, b1⟩
          have B1 := Lib.hid (bel_tr HB.out b1 (Nat.le_refl _)); clear b1
          go_wp2_with fail
          go_roundg (j + 1)
          case measure => omega
          case rel => exact ⟨y, rfl, HX.out, (by have := HY.out; unfold Ahd at this; omega), B1.out⟩
        · have t1 : decide (z < (n : Int)) = false := by simpa using h1
          have HX := Lib.hid (HE.out.trans (dsE_out (Or.inr (by omega))))
          have hzn : z = n := by omega
          subst hzn
          go_wp2_with fail
          go_ret
          exact ⟨by rw [HR.out, HX.out, hn]; simp, HB.out⟩
  · have HR := Lib.hid (show rcB l = false by unfold rcB; rw [if_neg hlong])
    have y0 : decide ((n : Int) ≤ 120) = false := by simp; omega
    have y1 : ¬ (n : Int) ≤ 120 := by omega
    have y2 : decide (n ≤ 120) = false := by simp; omega
    have y3 : decide ((0 : Int) < (n : Int)) = true := by simp; omega
    have y4 : decide (0 < n) = true := by simp; omega
    have y5 : ((0 : Int) == (n : Int)) = false := beq_eq_false_iff_ne.2 (by omega)
    generalize rcB l = r at *
    go_enter Tryz.func19, Tryz.ntmps19
    go_wp2_with fail
    go_loopw [3] (fun q wr => q = .int .i64 0 ∧ wr = w) (fun _ _ => 0)
    case atStart => exact ⟨rfl, rfl⟩
    case round =>
      obtain ⟨rfl, rfl⟩ := hrel
      go_wp2_with fail
      go_ret
      exact ⟨by rw [HR.out]; rfl, Below.refl _ _⟩
end Go.Proofs.YtfnnoehpahdgcaaGreatDoor.Cl
namespace Go.Proofs.YtfnnoehpahdgcaaGreatDoor.Cl
set_option linter.unusedVariables false
open Go.RowKit Wd Rp Kp
inductive Scn (l : List Tk) : Int → Prop
  | fin : Scn l (l.length : Int)
  | br {i : Int} {s : Tk} : tkA l i = some s → (s = [91] ∨ s = [93]) → Scn l (i + 1) → Scn l i
  | set {i : Int} : tkA l i = some setT → nmA l (i + 1) = true → smV l 1 (i + 2) ≠ -1 → Scn l (smV l 1 (i + 2)) → Scn l i
  | cut {i : Int} : tkA l i = some cutT → nmA l (i + 1) = true → Scn l (i + 2) → Scn l i
  | stop {i : Int} : tkA l i = some stopT → Scn l (i + 1) → Scn l i
  | iw {i : Int} {s : Tk} : tkA l i = some s → (s = ifT ∨ s = whT) → smV l 2 (i + 1) ≠ -1 → Scn l (smV l 2 (i + 1)) → Scn l i
theorem ahd_neg {l : List Tk} {f : Int → Int} (hf : ∀ i, Ahd l i (f i)) : f (-1) = -1 := by
  have := hf (-1)
  unfold Ahd at this
  omega
def Keeps (l : List Tk) (f : Int → Int) : Prop := ∀ i, f i ≠ -1 → Scn l (f i) → Scn l i
theorem dd_scn {l : List Tk} {B : Int → Int} (hA : ∀ i, Ahd l i (B i)) (hB : Keeps l B) : Keeps l (ddG l B) := by
  intro i hn hs
  cases h : tkA l i with
  | none => unfold ddG at hn; rw [h] at hn; exact absurd rfl hn
  | some s =>
    have he : ddG l B i = (if s = setT then (if nmA l (i + 1) then smV l 1 (i + 2) else -1) else if s = cutT then (if nmA l (i + 1) then i + 2 else -1) else if s = stopT then i + 1
      else if s = ifT then B (B (smV l 2 (i + 1))) else if s = whT then B (smV l 2 (i + 1)) else -1) := by unfold ddG; rw [h]
    rw [he] at hn hs
    by_cases h1 : s = setT
    · subst h1
      rw [if_pos rfl] at hn hs
      by_cases hm : nmA l (i + 1) = true
      · rw [if_pos hm] at hn hs
        exact Scn.set h hm hn hs
      · rw [if_neg hm] at hn; exact absurd rfl hn
    · rw [if_neg h1] at hn hs
      by_cases h2 : s = cutT
      · subst h2
        rw [if_pos rfl] at hn hs
        by_cases hm : nmA l (i + 1) = true
        · rw [if_pos hm] at hs
          exact Scn.cut h hm hs
        · rw [if_neg hm] at hn; exact absurd rfl hn
      · rw [if_neg h2] at hn hs
        by_cases h3 : s = stopT
        · subst h3
          rw [if_pos rfl] at hs
          exact Scn.stop h hs
        · rw [if_neg h3] at hn hs
          by_cases h4 : s = ifT
          · rw [if_pos h4] at hn hs
            have k1 : B (smV l 2 (i + 1)) ≠ -1 := fun e => hn (by rw [e]; exact ahd_neg hA)
            have k2 : smV l 2 (i + 1) ≠ -1 := fun e => k1 (by rw [e]; exact ahd_neg hA)
            exact Scn.iw h (Or.inl h4) k2 (hB _ k1 (hB _ hn hs))
          · rw [if_neg h4] at hn hs
            by_cases h5 : s = whT
            · rw [if_pos h5] at hn hs
              have k2 : smV l 2 (i + 1) ≠ -1 := fun e => hn (by rw [e]; exact ahd_neg hA)
              exact Scn.iw h (Or.inr h5) k2 (hB _ hn hs)
            · rw [if_neg h5] at hn; exact absurd rfl hn
theorem ble_scn {l : List Tk} {f : Int → Int} (hA : ∀ i, Ahd l i (f i)) (hf : Keeps l f) : ∀ n : Nat, Keeps l (blE l f n)
  | 0 => fun i hn _ => absurd rfl hn
  | n + 1 => fun i hn hs => by
    cases h : tkA l i with
    | none => rw [blE, h] at hn; exact absurd rfl hn
    | some s =>
      by_cases hb : s = [93]
      · have he : blE l f (n + 1) i = i + 1 := by rw [blE, h]; exact if_pos hb
        rw [he] at hs
        exact Scn.br h (Or.inr hb) hs
      · have he : blE l f (n + 1) i = blE l f n (f i) := by rw [blE, h]; exact if_neg hb
        rw [he] at hn hs
        have k1 : f i ≠ -1 := fun e => hn (by rw [e]; have := ble_ahd hA n (-1); unfold Ahd at this; omega)
        exact hf i k1 (ble_scn hA hf n _ hn hs)
theorem bls_scn {l : List Tk} {f : Int → Int} (hA : ∀ i, Ahd l i (f i)) (hf : Keeps l f) : Keeps l (blS l f) := by
  intro i hn hs
  by_cases h : tkA l i = some [91]
  · have he : blS l f i = blE l f (l.length + 1) (i + 1) := by unfold blS; rw [if_pos h]
    rw [he] at hn hs
    exact Scn.br h (Or.inl rfl) (ble_scn hA hf _ _ hn hs)
  · have he : blS l f i = -1 := by unfold blS; rw [if_neg h]
    exact absurd he hn
theorem ddE_scn (l : List Tk) : ∀ d : Nat, Keeps l (ddE l d)
  | 0 => dd_scn (fun _ => Or.inl rfl) (fun i hn _ => absurd rfl hn)
  | d + 1 => dd_scn (bls_ahd (ddE_ahd l d)) (bls_scn (ddE_ahd l d) (ddE_scn l d))
theorem dsE_scn (l : List Tk) : ∀ (n : Nat) (i : Int), dsE l n i = l.length → Scn l i
  | 0, i, h => by have : i = l.length := h; rw [this]; exact Scn.fin
  | n + 1, i, h => by
    by_cases hc : 0 ≤ i ∧ i < l.length
    · rw [dsE, if_pos hc] at h
      have hs := dsE_scn l n _ h
      refine ddE_scn l 5 i (fun e => ?_) hs
      rw [e] at h
      cases n with
      | zero => have : (-1 : Int) = l.length := h; omega
      | succ n => rw [dsE, if_neg (by omega)] at h; omega
    · rw [dsE, if_neg hc] at h
      rw [h]; exact Scn.fin
theorem rcB_scn {l : List Tk} (h : rcB l = true) : Scn l 0 := by
  unfold rcB at h
  split at h
  · exact dsE_scn l _ _ (by simpa using h)
  · cases h
end Go.Proofs.YtfnnoehpahdgcaaGreatDoor.Cl
namespace Go.Proofs.YtfnnoehpahdgcaaGreatDoor.Cl
set_option linter.unusedVariables false
open Go.RowKit Wd Rp Kp
abbrev Rc := Tk × List Tk
def tkN (l : List Tk) (i : Int) : Tk := (tkA l i).getD []
def smT (l : List Tk) (i : Int) : List Tk := match enA l i with | some n => (l.drop i.toNat).take n | none => []
def ddQ (l : List Tk) (B : Int → Int) (R : Int → List Rc) (i : Int) : List Rc := match tkA l i with
  | none => []
  | some s => if s = setT then [(tkN l (i + 1), smT l (i + 2))] else if s = cutT then [(tkN l (i + 1), [])] else if s = stopT then [([], [])]
    else if s = ifT then ([], smT l (i + 1)) :: (R (smV l 2 (i + 1)) ++ R (B (smV l 2 (i + 1)))) else if s = whT then ([], smT l (i + 1)) :: R (smV l 2 (i + 1)) else []
def dlE (l : List Tk) (f : Int → Int) : Nat → Int → Int
  | 0, i => i
  | n + 1, i => match tkA l i with | none => i | some s => if s = [93] then i else dlE l f n (f i)
def dlR (l : List Tk) (f : Int → Int) (R : Int → List Rc) : Nat → Int → List Rc
  | 0, _ => []
  | n + 1, i => match tkA l i with | none => [] | some s => if s = [93] then [] else R i ++ dlR l f R n (f i)
def blR (l : List Tk) (f : Int → Int) (R : Int → List Rc) (i : Int) : List Rc := dlR l f R (l.length + 1) (i + 1)
def ddR (l : List Tk) : Nat → Int → List Rc
  | 0 => ddQ l (fun _ => -1) (fun _ => [])
  | d + 1 => ddQ l (blS l (ddE l d)) (blR l (ddE l d) (ddR l d))
def rcR (l : List Tk) : List Rc := dlR l (ddE l 5) (ddR l 5) (l.length + 1) 0
theorem ble_neg (l : List Tk) (f : Int → Int) (n : Nat) {i : Int} (h : i < 0) : blE l f n i = -1 := by
  cases n with
  | zero => rfl
  | succ n => rw [blE, tkA_neg h]
theorem dlE_neg (l : List Tk) (f : Int → Int) (n : Nat) {i : Int} (h : i < 0) : dlE l f n i = i := by
  cases n with
  | zero => rfl
  | succ n => rw [dlE, tkA_neg h]
theorem ble_dl {l : List Tk} {f : Int → Int} (hf : ∀ i, Ahd l i (f i)) : ∀ (n : Nat) (i : Int), (i < 0 ∨ (l.length : Int) - i < n) → blE l f n i = if tkA l (dlE l f n i) = some [93] then dlE l f n i + 1 else -1
  | 0, i, h => by
    have e1 : blE l f 0 i = -1 := rfl
    have e2 : dlE l f 0 i = i := rfl
    rw [e1, e2]
    cases e : tkA l i with
    | none => simp
    | some s => have := tkA_some e; omega
  | n + 1, i, h => by
    cases e : tkA l i with
    | none =>
      have e1 : blE l f (n + 1) i = -1 := by rw [blE, e]
      have e2 : dlE l f (n + 1) i = i := by rw [dlE, e]
      rw [e1, e2, e]; simp
    | some s =>
      by_cases hs : s = [93]
      · have e1 : blE l f (n + 1) i = i + 1 := by rw [blE, e]; exact if_pos hs
        have e2 : dlE l f (n + 1) i = i := by rw [dlE, e]; exact if_pos hs
        rw [e1, e2, e, hs, if_pos rfl]
      · have e1 : blE l f (n + 1) i = blE l f n (f i) := by rw [blE, e]; exact if_neg hs
        have e2 : dlE l f (n + 1) i = dlE l f n (f i) := by rw [dlE, e]; exact if_neg hs
        rw [e1, e2]
        have := tkA_some e
        have := hf i
        unfold Ahd at this
        exact ble_dl hf n (f i) (by omega)
theorem dsE_dl (l : List Tk) : ∀ (n : Nat) (i : Int), (i < 0 ∨ (l.length : Int) - i ≤ n) → ∀ m : Nat, n ≤ m → (dsE l n i = l.length ↔ dlE l (ddE l 5) m i = l.length)
  | 0, i, h, m, _ => by
    have e : dsE l 0 i = i := rfl
    rw [e]
    have : dlE l (ddE l 5) m i = i := by
      cases m with
      | zero => rfl
      | succ m =>
        rw [dlE]
        cases e : tkA l i with
        | none => rfl
        | some s => have := tkA_some e; omega
    rw [this]
  | n + 1, i, h, m, hm => by
    obtain ⟨m, rfl⟩ : ∃ k, m = k + 1 := ⟨m - 1, by omega⟩
    by_cases hi : 0 ≤ i ∧ i < l.length
    · rw [dsE, if_pos hi]
      obtain ⟨s, hs⟩ : ∃ s, tkA l i = some s := by
        unfold tkA
        rw [if_neg (by omega)]
        exact ⟨l[i.toNat]'(by omega), List.getElem?_eq_getElem _⟩
      by_cases hb : s = [93]
      · have e1 : ddE l 5 i = -1 := by
          show ddG l _ i = -1
          unfold ddG
          rw [hs, hb]
          simp [setT, cutT, stopT, ifT, whT]
        have e2 : dlE l (ddE l 5) (m + 1) i = i := by rw [dlE, hs]; exact if_pos hb
        rw [e1, e2, dsE_out (Or.inl (by omega))]
        omega
      · have e2 : dlE l (ddE l 5) (m + 1) i = dlE l (ddE l 5) m (ddE l 5 i) := by rw [dlE, hs]; exact if_neg hb
        rw [e2]
        have := ddE_ahd l 5 i
        unfold Ahd at this
        exact dsE_dl l n (ddE l 5 i) (by omega) m (by omega)
    · rw [dsE, if_neg hi]
      have : dlE l (ddE l 5) (m + 1) i = i := by
        rw [dlE]
        cases e : tkA l i with
        | none => rfl
        | some s => have := tkA_some e; omega
      rw [this]
theorem rcB_dl (l : List Tk) : rcB l = (decide (l.length ≤ 120) && decide (dlE l (ddE l 5) (l.length + 1) 0 = l.length)) := by
  unfold rcB
  split
  · rename_i h
    rw [decide_eq_true h, Bool.true_and]
    exact decide_eq_decide.2 (dsE_dl l l.length 0 (by omega) _ (by omega))
  · rename_i h
    rw [decide_eq_false h, Bool.false_and]
theorem ddQ_some {l : List Tk} {B : Int → Int} {R : Int → List Rc} {i : Int} {s : Tk} (h : tkA l i = some s) : ddQ l B R i = if s = setT then [(tkN l (i + 1), smT l (i + 2))] else if s = cutT then [(tkN l (i + 1), [])] else if s = stopT then [([], [])]
    else if s = ifT then ([], smT l (i + 1)) :: (R (smV l 2 (i + 1)) ++ R (B (smV l 2 (i + 1)))) else if s = whT then ([], smT l (i + 1)) :: R (smV l 2 (i + 1)) else [] := by unfold ddQ; rw [h]
theorem foV_agr {R : Type} (f : Tk → R) (g : Nat → R → R → R) (z : R) {l m : List Tk} {i j : Int} {n : Nat} (h : enA l i = some n) (h2 : enA m j = some n) (hp : (m.drop j.toNat).take n = (l.drop i.toNat).take n) : foV f g z m j = foV f g z l i := by
  unfold foV
  rw [h, h2]
  dsimp only
  rw [hp]
theorem nmB_nil : nmB [] = false := by decide
end Go.Proofs.YtfnnoehpahdgcaaGreatDoor.Cl
namespace Go.Proofs.YtfnnoehpahdgcaaGreatDoor.Cl
set_option linter.unusedVariables false
open Go.RowKit Wd Rp Kp
theorem sm_ed {l : List Tk} {kind i : Int} (h : smV l kind i ≠ -1) : edV l i = smV l kind i := by
  unfold smV at h ⊢
  split at h
  · exact absurd rfl h
  · rename_i g; rw [if_neg g]
end Go.Proofs.YtfnnoehpahdgcaaGreatDoor.Cl
namespace Go.Proofs.YtfnnoehpahdgcaaGreatDoor.Cl
set_option linter.unusedVariables false
open Go.RowKit Wd Rp Kp
inductive ScR (l : List Tk) : Int → List Rc → Prop
  | fin : ScR l (l.length : Int) []
  | br {i : Int} {s : Tk} {F : List Rc} : tkA l i = some s → (s = [91] ∨ s = [93]) → ScR l (i + 1) F → ScR l i F
  | set {i : Int} {F : List Rc} : tkA l i = some setT → nmA l (i + 1) = true → smV l 1 (i + 2) ≠ -1 → ScR l (smV l 1 (i + 2)) F → ScR l i ((tkN l (i + 1), smT l (i + 2)) :: F)
  | cut {i : Int} {F : List Rc} : tkA l i = some cutT → nmA l (i + 1) = true → ScR l (i + 2) F → ScR l i ((tkN l (i + 1), []) :: F)
  | stop {i : Int} {F : List Rc} : tkA l i = some stopT → ScR l (i + 1) F → ScR l i (([], []) :: F)
  | iw {i : Int} {s : Tk} {F : List Rc} : tkA l i = some s → (s = ifT ∨ s = whT) → smV l 2 (i + 1) ≠ -1 → ScR l (smV l 2 (i + 1)) F → ScR l i (([], smT l (i + 1)) :: F)
def KeepR (l : List Tk) (f : Int → Int) (R : Int → List Rc) : Prop := ∀ (i : Int) (F : List Rc), f i ≠ -1 → ScR l (f i) F → ScR l i (R i ++ F)
theorem dd_scr {l : List Tk} {B : Int → Int} {R : Int → List Rc} (hA : ∀ i, Ahd l i (B i)) (hB : KeepR l B R) : KeepR l (ddG l B) (ddQ l B R) := by
  intro i F hn hs
  cases h : tkA l i with
  | none => unfold ddG at hn; rw [h] at hn; exact absurd rfl hn
  | some s =>
    rw [ddG_some h] at hn hs
    rw [ddQ_some h]
    by_cases h1 : s = setT
    · subst h1
      rw [if_pos rfl] at hn hs
      rw [if_pos rfl]
      by_cases hm : nmA l (i + 1) = true
      · rw [if_pos hm] at hn hs
        exact ScR.set h hm hn hs
      · rw [if_neg hm] at hn; exact absurd rfl hn
    · rw [if_neg h1] at hn hs
      rw [if_neg h1]
      by_cases h2 : s = cutT
      · subst h2
        rw [if_pos rfl] at hn hs
        rw [if_pos rfl]
        by_cases hm : nmA l (i + 1) = true
        · rw [if_pos hm] at hs
          exact ScR.cut h hm hs
        · rw [if_neg hm] at hn; exact absurd rfl hn
      · rw [if_neg h2] at hn hs
        rw [if_neg h2]
        by_cases h3 : s = stopT
        · subst h3
          rw [if_pos rfl] at hs
          rw [if_pos rfl]
          exact ScR.stop h hs
        · rw [if_neg h3] at hn hs
          rw [if_neg h3]
          by_cases h4 : s = ifT
          · rw [if_pos h4] at hn hs
            rw [if_pos h4]
            have k1 : B (smV l 2 (i + 1)) ≠ -1 := fun e => hn (by rw [e]; exact ahd_neg hA)
            have k2 : smV l 2 (i + 1) ≠ -1 := fun e => k1 (by rw [e]; exact ahd_neg hA)
            have := ScR.iw h (Or.inl h4) k2 (hB _ _ k1 (hB _ _ hn hs))
            rw [List.cons_append, List.append_assoc]
            exact this
          · rw [if_neg h4] at hn hs
            rw [if_neg h4]
            by_cases h5 : s = whT
            · rw [if_pos h5] at hn hs
              rw [if_pos h5]
              have k2 : smV l 2 (i + 1) ≠ -1 := fun e => hn (by rw [e]; exact ahd_neg hA)
              exact ScR.iw h (Or.inr h5) k2 (hB _ _ hn hs)
            · rw [if_neg h5] at hn; exact absurd rfl hn
theorem ble_scr {l : List Tk} {f : Int → Int} {R : Int → List Rc} (hA : ∀ i, Ahd l i (f i)) (hf : KeepR l f R) : ∀ n : Nat, KeepR l (blE l f n) (dlR l f R n)
  | 0 => fun i F hn _ => absurd rfl hn
  | n + 1 => fun i F hn hs => by
    cases h : tkA l i with
    | none => rw [blE, h] at hn; exact absurd rfl hn
    | some s =>
      rw [dlR, h]
      dsimp only
      by_cases hb : s = [93]
      · have he : blE l f (n + 1) i = i + 1 := by rw [blE, h]; exact if_pos hb
        rw [he] at hs
        rw [if_pos hb]
        exact ScR.br h (Or.inr hb) hs
      · have he : blE l f (n + 1) i = blE l f n (f i) := by rw [blE, h]; exact if_neg hb
        rw [he] at hn hs
        rw [if_neg hb, List.append_assoc]
        have k1 : f i ≠ -1 := fun e => hn (by rw [e]; have := ble_ahd hA n (-1); unfold Ahd at this; omega)
        exact hf i _ k1 (ble_scr hA hf n _ _ hn hs)
theorem bls_scr {l : List Tk} {f : Int → Int} {R : Int → List Rc} (hA : ∀ i, Ahd l i (f i)) (hf : KeepR l f R) : KeepR l (blS l f) (blR l f R) := by
  intro i F hn hs
  by_cases h : tkA l i = some [91]
  · have he : blS l f i = blE l f (l.length + 1) (i + 1) := by unfold blS; rw [if_pos h]
    rw [he] at hn hs
    exact ScR.br h (Or.inl rfl) (ble_scr hA hf _ _ _ hn hs)
  · have he : blS l f i = -1 := by unfold blS; rw [if_neg h]
    exact absurd he hn
theorem ddE_scr (l : List Tk) : ∀ d : Nat, KeepR l (ddE l d) (ddR l d)
  | 0 => dd_scr (fun _ => Or.inl rfl) (fun i F hn _ => absurd rfl hn)
  | d + 1 => dd_scr (bls_ahd (ddE_ahd l d)) (bls_scr (ddE_ahd l d) (ddE_scr l d))
theorem dlE_scr (l : List Tk) : ∀ (n : Nat) (i : Int), dlE l (ddE l 5) n i = l.length → ScR l i (dlR l (ddE l 5) (ddR l 5) n i)
  | 0, i, h => by have : i = l.length := h; rw [this]; exact ScR.fin
  | n + 1, i, h => by
    cases e : tkA l i with
    | none => rw [dlE, e] at h; rw [dlR, e]; have : i = l.length := h; rw [this]; exact ScR.fin
    | some s =>
      by_cases hb : s = [93]
      · have e2 : dlE l (ddE l 5) (n + 1) i = i := by rw [dlE, e]; exact if_pos hb
        have := tkA_some e
        omega
      · have e2 : dlE l (ddE l 5) (n + 1) i = dlE l (ddE l 5) n (ddE l 5 i) := by rw [dlE, e]; exact if_neg hb
        rw [e2] at h
        have e3 : dlR l (ddE l 5) (ddR l 5) (n + 1) i = ddR l 5 i ++ dlR l (ddE l 5) (ddR l 5) n (ddE l 5 i) := by rw [dlR, e]; exact if_neg hb
        rw [e3]
        refine ddE_scr l 5 i _ (fun g => ?_) (dlE_scr l n _ h)
        rw [g, dlE_neg _ _ _ (by omega)] at h
        omega
theorem rcB_scr {l : List Tk} (h : rcB l = true) : ScR l 0 (rcR l) := by
  rw [rcB_dl] at h
  simp only [Bool.and_eq_true, decide_eq_true_eq] at h
  exact dlE_scr l _ 0 h.2
theorem ScR.at {l : List Tk} {i : Int} {F : List Rc} (h : ScR l i F) : 0 ≤ i ∧ i ≤ l.length := by
  cases h with
  | fin => omega
  | br h _ _ => have := tkA_some h; omega
  | set h _ _ _ => have := tkA_some h; omega
  | cut h _ _ => have := tkA_some h; omega
  | stop h _ => have := tkA_some h; omega
  | iw h _ _ _ => have := tkA_some h; omega
theorem sm_ahead {l : List Tk} {kind i : Int} (h : smV l kind i ≠ -1) : i < smV l kind i ∧ edV l i = smV l kind i := by
  have := sm_ahd l kind i
  unfold Ahd at this
  exact ⟨by omega, sm_ed h⟩
end Go.Proofs.YtfnnoehpahdgcaaGreatDoor.Cl
