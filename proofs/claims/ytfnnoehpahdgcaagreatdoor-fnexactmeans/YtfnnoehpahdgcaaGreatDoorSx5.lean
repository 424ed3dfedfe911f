/-
  Texts of mine, joined (part 5 of 9): what the law at hand reaches of them; each text's own words stand in the verifier's repo.
-/
import Derived.Test.YtfnnoehpahdgcaaGreatDoorSx4
import Derived.Test.YtfnnoehpahdgcaaGreatDoorRows
import Derived.WalkKit
import Derived.IntWalk
import Derived.Laws.Bits128
import Derived.Lib.Hide
import Derived.Lib.ParseIntBTie
import Derived.Lib.ParseIntBCases
import Derived.Lib.ItoaMem
import Derived.Lib.IndexMore
import Derived.Lib.Repeat
import Derived.WalkSpells
import Derived.Below
import Derived.Carry
import Derived.WalkSmall
import Derived.Laws.Closers25b
import Derived.Lib.Strings
import Derived.Lib.SmallJoins
import Derived.Lib.AppendIntMem
import Derived.Maps.AppendAt
import Derived.OwnWalk
import Derived.WalkLawsBesides
import Derived.Deep.QuietTactic
import Derived.BigQuiet
import Derived.Deep.RegionHeld3
import Derived.Laws.OwnMore
import Derived.Laws.StructEq
import Derived.BigFrame
import Derived.Deep.Upon
import Derived.Laws.CopyRow
import Derived.Laws.BytesArg
import Derived.RowKit3
import Derived.Shelf.Strconv.Itoa4
import Derived.Shelf.Strconv.ParseIntPublic10
import Derived.Shelf.Strconv.ErrVarParseInt
import Derived.Test.YtfnnoehpahdgcaaGreatDoorProg
import Derived.LaidMore
import Derived.Stop.LaidErr
import Derived.Lib.LaidTab
import Derived.RangeFuncWrites
import Derived.RangeFuncCalls
import Derived.RangeFuncBox
import Derived.RangeFuncNested
import Derived.RangeFuncLeaves
import Derived.Shelf.Abstract
import Derived.Shelf.RegionOpen
import Derived.OwnWalkIn
import Derived.TacticsInMore
import Derived.LoopNIn
import Derived.LoopIn
import Derived.Lib.Bytealg
import Derived.Deep.LoopGhost
import Derived.Lib.AtoiErrMem
import Derived.OpenShut
import Derived.Lib.ConvBytes
import Derived.Deep.RegionLaw
import Derived.Deep.AppendLies
import Derived.Lib.AppendZeros
import Derived.Defers
import Derived.Recover
import Derived.ProofKit
import Derived.Handed
import Derived.SizedLaws
import Derived.ShutString
import Derived.Deep.Slices
import Derived.Deep.Fields
import Derived.ChangeSame
namespace Go.Proofs.YtfnnoehpahdgcaaGreatDoor.Cl
set_option linter.unusedVariables false
open Go.RowKit Wd Rp Kp
theorem valL_succ {n : ByteArray} {l : List Bi} {k : Nat} {c : Bi} (hc : l[k]? = some c) (h : ∀ (j : Nat) (d : Bi), j < k → l[j]? = some d → (d.n.toList == n.toList) = false) (hn : (c.n.toList == n.toList) = false) : ∀ (j : Nat) (d : Bi), j < k + 1 → l[j]? = some d → (d.n.toList == n.toList) = false := fun j d hj hd => by
  by_cases e : j = k
  · subst e; rw [hc] at hd; cases hd; exact hn
  · exact h j d (by omega) hd
set_option maxHeartbeats 4000000 in
set_option maxRecDepth 100000 in
theorem specValue_any (w : World) (a : Option Addr) (cap : Nat) (l : List Bi) (n : Nat) (s : ByteArray) (hn : l.length = n) (hv : VwI w a cap l) (hl : n ≤ 4194304) :
    Calls Tryz.prog 23 #[.slice a n cap, .string s] w fun e w' => e = .returned (.tuple #[.int .i64 (valL s l).1, .bool (valL s l).2]) ∧ Below w.heap.size w w' := by
  have HV := Lib.hid hv; clear hv
  have HN := Lib.hid hn; clear hn
  go_enter Tryz.func23, Tryz.ntmps23
  go_wp2_with fail
  go_loopw [6] (fun i wr => ∃ k : Nat, k ≤ n ∧ i = .int .i64 k ∧ (∀ (j : Nat) (d : Bi), j < k → l[j]? = some d → (d.n.toList == s.toList) = false) ∧ Below w.heap.size w wr) (fun i _ => n - intV i)
  case atStart => exact ⟨0, Nat.zero_le _, rfl, (fun j c hj => by omega), Below.refl _ _⟩
  case round =>
    obtain ⟨k, hk, rfl, hlo, hbel⟩ := hrel
    have HB := Lib.hid hbel; clear hbel
    have HLO := Lib.hid hlo; clear hlo
    by_cases hlt : k < n
    · obtain ⟨c, hc⟩ : ∃ c, l[k]? = some c := ⟨l[k]'(by have := HN.out; omega), List.getElem?_eq_getElem _⟩
      obtain ⟨g, o, rfl, hg, h5⟩ := HV.out.2.2.2 k c hc
      obtain ⟨c0, c1⟩ : At2 wr g (o + k * 2) c := h5.same (HB.out.block g hg)
      have HC := Lib.hid hc; clear hc h5 hg
      cases he : (c.n.toList == s.toList)
      · have HL2 := Lib.hid (valL_succ HC.out HLO.out he)
        go_wp2_with fail
        go_roundw
        case rel => exact ⟨k + 1, by omega, by go_num, HL2.out, HB.out⟩
        case measure => simp [intV]; omega
      · have HE := Lib.hid (valL_at HC.out HLO.out he)
        go_wp2_with fail
        refine bodyPost_ret (v := .tuple #[.int .i64 c.v, .bool true]) (by simp [results, Tryz.results23, go_sem]) rfl ⟨by rw [HE.out], HB.out⟩
    · obtain rfl : k = n := by omega
      have HE := Lib.hid (valL_none (n := s) (l := l) fun j d hd => HLO.out j d (by have := (List.getElem?_eq_some_iff.1 hd).1; have := HN.out; omega) hd)
      go_wp2_with fail
      refine bodyPost_ret (v := .tuple #[.int .i64 0, .bool false]) (by simp [results, Tryz.results23, go_sem]) rfl ⟨by rw [HE.out], HB.out⟩
def fstL (n : ByteArray) : List Bi → Bi × Bool
  | [] => (zi, false)
  | c :: r => if c.n.toList == n.toList then (c, true) else fstL n r
theorem fstL_at {n : ByteArray} : ∀ {l : List Bi} {k : Nat} {c : Bi}, l[k]? = some c → (∀ (j : Nat) (d : Bi), j < k → l[j]? = some d → (d.n.toList == n.toList) = false) → (c.n.toList == n.toList) = true → fstL n l = (c, true)
  | [], k, c, h, _, _ => by simp at h
  | d :: r, 0, c, h, _, e => by
    simp at h; subst h
    rw [fstL, if_pos e]
  | d :: r, k + 1, c, h, hn, e => by
    rw [fstL, if_neg (by rw [hn 0 d (by omega) rfl]; decide)]
    exact fstL_at (l := r) (by simpa using h) (fun j x hj hx => hn (j + 1) x (by omega) (by simpa using hx)) e
theorem fstL_none {n : ByteArray} : ∀ {l : List Bi}, (∀ (j : Nat) (d : Bi), l[j]? = some d → (d.n.toList == n.toList) = false) → fstL n l = (zi, false)
  | [], _ => rfl
  | d :: r, h => by
    rw [fstL, if_neg (by rw [h 0 d rfl]; decide)]
    exact fstL_none (l := r) fun j x hx => h (j + 1) x (by simpa using hx)
theorem fstL_val (n : ByteArray) : ∀ l : List Bi, valL n l = ((fstL n l).1.v, (fstL n l).2)
  | [] => rfl
  | c :: r => by
    rw [valL, fstL]; split
    · rfl
    · exact fstL_val n r
set_option maxHeartbeats 4000000 in
set_option maxRecDepth 100000 in
theorem first_any (w : World) (a : Option Addr) (cap : Nat) (l : List Bi) (n : Nat) (s : ByteArray) (hn : l.length = n) (hv : VwI w a cap l) (hl : n ≤ 4194304) :
    Calls Tryz.prog 158 #[.slice a n cap, .string s] w fun e w' => e = .returned (.tuple #[.agg #[.string (fstL s l).1.n, .int .i64 (fstL s l).1.v], .bool (fstL s l).2]) ∧ Below w.heap.size w w' := by
  have HV := Lib.hid hv; clear hv
  have HN := Lib.hid hn; clear hn
  have HZ := Lib.hid (new_of w (.cells #[.string ⟨#[]⟩, .int .i64 0] 44))
  have H0 := Lib.hid (bel1 w (.cells #[.string ⟨#[]⟩, .int .i64 0] 44))
  have hz0 : (w.alloc (.cells #[.string ⟨#[]⟩, .int .i64 0] 44)).heap.size = w.heap.size + 1 := by simp
  go_enter Tryz.func158, Tryz.ntmps158
  go_wp2_with fail
  generalize hq : w.heap.size = q at *
  generalize w.alloc (.cells #[.string ⟨#[]⟩, .int .i64 0] 44) = w0 at *
  go_loopw [11] (fun i wr => ∃ k : Nat, k ≤ n ∧ i = .int .i64 k ∧ (∀ (j : Nat) (d : Bi), j < k → l[j]? = some d → (d.n.toList == s.toList) = false) ∧ Below (q + 1) w0 wr) (fun i _ => n - intV i)
  case atStart => exact ⟨0, Nat.zero_le _, rfl, (fun j c hj => by omega), Below.refl _ _⟩
  case round =>
    obtain ⟨k, hk, rfl, hlo, hbel⟩ := hrel
    have HB := Lib.hid hbel
    have HBB := Lib.hid (H0.out.trans (hbel.mono (by omega))); clear hbel
    have HLO := Lib.hid hlo; clear hlo
    have hz1 : q + 1 ≤ wr.heap.size := by have := HB.out.size; omega
    have HZZ := Lib.hid (show wr.heap[q]? = _ from (HB.out.block q (by omega)).trans HZ.out)
    by_cases hlt : k < n
    · obtain ⟨c, hc⟩ : ∃ c, l[k]? = some c := ⟨l[k]'(by have := HN.out; omega), List.getElem?_eq_getElem _⟩
      obtain ⟨g, o, rfl, hg, h5⟩ := HV.out.2.2.2 k c hc
      obtain ⟨c0, c1⟩ : At2 wr g (o + k * 2) c := h5.same (HBB.out.block g (by omega))
      have HC := Lib.hid hc; clear hc h5 hg
      have HW := Lib.hid (bel1 wr (.cells #[.string c.n, .int .i64 c.v] 44))
      have HX := Lib.hid (new_of wr (.cells #[.string c.n, .int .i64 c.v] 44))
      have hmn := m_name c.n c.v
      have hen := e_name
      cases he : (c.n.toList == s.toList)
      · have HL2 := Lib.hid (valL_succ HC.out HLO.out he)
        go_wp2_with fail
        refine (nameB_any c.n c.v _).mono ?_; rintro e w2 ⟨rfl, b2⟩
        have B2 := Lib.hid (bel_tr HW.out b2 (Nat.le_refl _)); clear b2
        go_wp2_with fail
        go_roundw
        case rel => exact ⟨k + 1, by omega, by go_num, HL2.out, HB.out.trans (B2.out.mono hz1)⟩
        case measure => simp [intV]; omega
      · have HE := Lib.hid (fstL_at HC.out HLO.out he)
        go_wp2_with fail
        refine (nameB_any c.n c.v _).mono ?_; rintro e w2 ⟨rfl, b2⟩
        have B2 := Lib.hid (bel_tr HW.out b2 (Nat.le_refl _))
        obtain ⟨x0, x1, -, -⟩ := two_cells ((b2.block wr.heap.size (by simp)).trans HX.out)
        obtain ⟨z0, z1, f0, f1⟩ := two_cells ((B2.out.block q (by omega)).trans HZZ.out)
        have nn : wr.heap.size ≠ q := by omega
        have hqs : q < w2.heap.size := by have := B2.out.size; omega
        generalize wr.heap.size = wrs at *
        clear b2 c0 c1
        go_wp2_with fail
        refine bodyPost_ret (v := .tuple #[.agg #[.string c.n, .int .i64 c.v], .bool true]) (by simp [results, Tryz.results158, go_sem, z0, z1]) rfl ⟨by rw [HE.out], ?_⟩
        rw [hq]
        exact (HBB.out.trans (B2.out.mono (by omega))).setCell (p := ⟨q, 0, none⟩) (Nat.le_refl _) _ |>.setCell (p := ⟨q, 1, none⟩) (Nat.le_refl _) _
    · obtain rfl : k = n := by omega
      have HE := Lib.hid (fstL_none (n := s) (l := l) fun j d hd => HLO.out j d (by have := (List.getElem?_eq_some_iff.1 hd).1; have := HN.out; omega) hd)
      have HW := Lib.hid (bel1 wr (.cells #[.string ⟨#[]⟩, .int .i64 0] 44))
      obtain ⟨z0, z1, f0, f1⟩ := two_cells ((HW.out.block q (by omega)).trans HZZ.out)
      have nn : wr.heap.size ≠ q := by omega
      go_wp2_with fail
      refine bodyPost_ret (v := .tuple #[.agg #[.string ⟨#[]⟩, .int .i64 0], .bool false]) (by simp [results, Tryz.results158, go_sem, z0, z1]) rfl ⟨by rw [HE.out]; rfl, ?_⟩
      rw [hq]
      exact (HBB.out.trans (HW.out.mono (by omega))).setCell (p := ⟨q, 0, none⟩) (Nat.le_refl _) _ |>.setCell (p := ⟨q, 1, none⟩) (Nat.le_refl _) _
set_option maxHeartbeats 4000000 in
set_option maxRecDepth 100000 in
theorem implValue_any (w : World) (a : Option Addr) (cap : Nat) (l : List Bi) (n : Nat) (s : ByteArray) (hn : l.length = n) (hv : VwI w a cap l) (hl : n ≤ 4194304) :
    Calls Tryz.prog 148 #[.slice a n cap, .string s] w fun e w' => e = .returned (.tuple #[.int .i64 (valL s l).1, .bool (valL s l).2]) ∧ Below w.heap.size w w' := by
  have HF := Lib.hid (first_any w a cap l n s hn hv hl); clear hv
  have HV := Lib.hid (fstL_val s l)
  generalize fstL s l = x at *
  obtain ⟨⟨xn, xv⟩, xb⟩ := x
  go_enter Tryz.func148, Tryz.ntmps148
  go_wp2_with fail
  refine HF.out.mono ?_; rintro e w1 ⟨rfl, b1⟩
  have B1 := Lib.hid (bel_tr b1 (bel1 w1 (.cells #[.string xn, .int .i64 xv] 44)) (Nat.le_refl _)); clear b1
  go_wp2_with fail
  refine bodyPost_ret (v := .tuple #[.int .i64 xv, .bool xb]) (by simp [results, Tryz.results148, go_sem]) rfl ⟨by rw [HV.out], B1.out⟩
set_option maxHeartbeats 4000000 in
set_option maxRecDepth 100000 in
theorem l7Find_any (w : World) (a : Option Addr) (cap : Nat) (l : List Bi) (n : Nat) (s : ByteArray) (hn : l.length = n) (hv : VwI w a cap l) (hl : n ≤ 4194304) :
    Calls Tryz.prog 91 #[.slice a n cap, .string s] w fun e w' => e = .returned (.tuple #[.int .i64 (cntI s l : Nat), .bool (isAt s l)]) ∧ Below w.heap.size w w' := by
  have HV := Lib.hid hv; clear hv
  have HN := Lib.hid hn; clear hn
  go_enter Tryz.func91, Tryz.ntmps91
  go_wp2_with fail
  go_loopw [6] (fun i wr => ∃ k : Nat, k ≤ n ∧ i = .int .i64 k ∧ (∀ (j : Nat) (d : Bi), j < k → l[j]? = some d → Op.bytesLess d.n.toList s.toList = true) ∧ Below w.heap.size w wr) (fun i _ => n - intV i)
  case atStart => exact ⟨0, Nat.zero_le _, rfl, (fun j c hj => by omega), Below.refl _ _⟩
  case round =>
    obtain ⟨k, hk, rfl, hlo, hbel⟩ := hrel
    have HB := Lib.hid hbel; clear hbel
    have HLO := Lib.hid hlo; clear hlo
    by_cases hlt : k < n
    · obtain ⟨c, hc⟩ : ∃ c, l[k]? = some c := ⟨l[k]'(by have := HN.out; omega), List.getElem?_eq_getElem _⟩
      obtain ⟨g, o, rfl, hg, h5⟩ := HV.out.2.2.2 k c hc
      obtain ⟨c0, c1⟩ : At2 wr g (o + k * 2) c := h5.same (HB.out.block g hg)
      have hg' : g < wr.heap.size := Nat.lt_of_lt_of_le hg HB.out.size
      have HC := Lib.hid hc; clear hc h5 hg
      have i1 : (k : Int) < (n : Int) := by omega
      have i2 : (0 : Int) ≤ (k : Int) := by omega
      have i3 : (n : Int) ≤ 4194304 := by omega
      have i4 : decide ((k : Int) < (n : Int)) = true := decide_eq_true i1
      have i5 : decide (k < n) = true := decide_eq_true hlt
      cases he : Op.bytesLess c.n.toList s.toList
      · have HE := Lib.hid (show cntI s l = k from cntI_eq (by rw [HN.out]; exact hk) HLO.out (fun d hd => by rw [HC.out] at hd; cases hd; exact he))
        have HA := Lib.hid (show isAt s l = (c.n.toList == s.toList) from isAt_some (by rw [HE.out]; exact HC.out))
        cases hq : (c.n.toList == s.toList)
        · skip
          rw [hq] at HA
          have SOF := Lib.hid (show ∀ z, Below wr.heap.size wr z → (z.cell? ⟨g, o + k * 2, none⟩ = some (.string c.n) ∧ z.cell? ⟨g, o + k * 2 + 1, none⟩ = some (.int .i64 c.v) ∧ Below wr.heap.size wr z) from fun z hz => ⟨coc hz hg' c0, coc hz hg' c1,  hz⟩)
          go_wp2_with fail
          clear c0 c1
          refine wp_region_held_drew (S := fun z => z.cell? ⟨g, o + k * 2, none⟩ = some (.string c.n) ∧ z.cell? ⟨g, o + k * 2 + 1, none⟩ = some (.int .i64 c.v) ∧ Below wr.heap.size wr z) (by kernel_rfl) (SOF.out _ (Below.refl _ _).drew) (fun hHeld => ?_)
          refine wpAnyH_take (i := 0) (v := ?v0a) rfl (by kernel_rfl) (by kernel_rfl) (by kernel_rfl) (fun _ _ _ h => h) (Or.inl ⟨by rfl, ?hy0a⟩) (by assumption) ?rest0a
          case hy0a => (intro zz hSw; (try dsimp only at hSw); go_simp; (try with_reducible rfl))
          change wpAnyH _ _ _ _ _ _ _ (Act.put _ (some 22) _) _
          simp only [Act.put, List.setIfInBounds_toArray, List.set_cons_zero, List.set_cons_succ]
          refine wpAnyH_take (i := 1) (v := ?v1a) rfl (by kernel_rfl) (by kernel_rfl) (by kernel_rfl) (fun _ _ _ h => h) (Or.inl ⟨by rfl, ?hy1a⟩) (by assumption) ?rest1a
          case hy1a => (intro zz hSw; (try dsimp only at hSw); go_simp; (try with_reducible rfl))
          change wpAnyH _ _ _ _ _ _ _ (Act.put _ (some 23) _) _
          simp only [Act.put, List.setIfInBounds_toArray, List.set_cons_zero, List.set_cons_succ]
          refine wpAnyH_take (i := 2) (v := ?v2a) rfl (by kernel_rfl) (by kernel_rfl) (by kernel_rfl) (fun _ _ _ h => h) (Or.inl ⟨by rfl, ?hy2a⟩) (by assumption) ?rest2a
          case hy2a => (intro zz hSw; (try dsimp only at hSw); go_simp; (try with_reducible rfl))
          change wpAnyH _ _ _ _ _ _ _ (Act.put _ (some 24) _) _
          simp only [Act.put, List.setIfInBounds_toArray, List.set_cons_zero, List.set_cons_succ]
          refine wpAnyH_take (i := 3) (v := ?v3a) rfl (by kernel_rfl) (by kernel_rfl) (by kernel_rfl) (fun _ _ _ h => h) (Or.inl ⟨by rfl, ?hy3a⟩) (by assumption) ?rest3a
          case hy3a => (intro zz hSw; (try dsimp only at hSw); go_simp; (try with_reducible rfl))
          change wpAnyH _ _ _ _ _ _ _ (Act.put _ (some 25) _) _
          simp only [Act.put, List.setIfInBounds_toArray, List.set_cons_zero, List.set_cons_succ]
          refine wpAnyH_take (i := 4) (v := ?v4a) rfl (by kernel_rfl) (by kernel_rfl) (by kernel_rfl) (fun _ _ _ h => h) (Or.inl ⟨by rfl, ?hy4a⟩) (by assumption) ?rest4a
          case hy4a => (intro zz hSw; (try dsimp only at hSw); go_simp; (try with_reducible rfl))
          change wpAnyH _ _ _ _ _ _ _ (Act.put _ (some 26) _) _
          simp only [Act.put, List.setIfInBounds_toArray, List.set_cons_zero, List.set_cons_succ]
          refine wpAnyH_take (i := 5) (v := ?v5a) rfl (by kernel_rfl) (by kernel_rfl) (by kernel_rfl) (fun _ _ _ h => h) (Or.inl ⟨by rfl, ?hy5a⟩) (by assumption) ?rest5a
          case hy5a => (intro zz hSw; (try dsimp only at hSw); go_simp; (try with_reducible rfl))
          change wpAnyH _ _ _ _ _ _ _ (Act.put _ (some 27) _) _
          simp only [Act.put, List.setIfInBounds_toArray, List.set_cons_zero, List.set_cons_succ]
          refine wpAnyH_take (i := 6) (v := ?v6a) rfl (by kernel_rfl) (by kernel_rfl) (by kernel_rfl) (fun _ _ _ h => h) (Or.inl ⟨by rfl, ?hy6a⟩) (by assumption) ?rest6a
          case hy6a => (intro zz hSw; (try dsimp only at hSw); go_simp; (try with_reducible rfl))
          change wpAnyH _ _ _ _ _ _ _ (Act.put _ (some 28) _) _
          simp only [Act.put, List.setIfInBounds_toArray, List.set_cons_zero, List.set_cons_succ]
          refine wpAnyH_take (i := 7) (v := ?v7a) rfl (by kernel_rfl) (by kernel_rfl) (by kernel_rfl) (fun _ _ _ h => h) (Or.inl ⟨by rfl, ?hy7a⟩) (by assumption) ?rest7a
          case hy7a => (intro zz hSw; (try dsimp only at hSw); go_simp; (try with_reducible rfl))
          change wpAnyH _ _ _ _ _ _ _ (Act.put _ (some 29) _) _
          simp only [Act.put, List.setIfInBounds_toArray, List.set_cons_zero, List.set_cons_succ]
          refine wpAnyH_take (i := 8) (v := ?v8a) rfl (by kernel_rfl) (by kernel_rfl) (by kernel_rfl) (fun _ _ _ h => h) (Or.inl ⟨by rfl, ?hy8a⟩) (by assumption) ?rest8a
          case hy8a => (intro zz hSw; (try dsimp only at hSw); go_simp; (try with_reducible rfl))
          change wpAnyH _ _ _ _ _ _ _ (Act.put _ (some 30) _) _
          simp only [Act.put, List.setIfInBounds_toArray, List.set_cons_zero, List.set_cons_succ]
          refine wpAnyH_take (i := 9) (v := ?v9a) rfl (by kernel_rfl) (by kernel_rfl) (by kernel_rfl) (fun _ _ _ h => h) (Or.inl ⟨by rfl, ?hy9a⟩) (by assumption) ?rest9a
          case hy9a => (intro zz hSw; (try dsimp only at hSw); go_simp; (try with_reducible rfl))
          change wpAnyH _ _ _ _ _ _ _ (Act.put _ (some 31) _) _
          simp only [Act.put, List.setIfInBounds_toArray, List.set_cons_zero, List.set_cons_succ]
          refine wpAnyH_take (i := 10) (v := ?v10a) rfl (by kernel_rfl) (by kernel_rfl) (by kernel_rfl) (fun _ _ _ h => h) (Or.inl ⟨by rfl, ?hy10a⟩) (by assumption) ?rest10a
          case hy10a => (intro zz hSw; (try dsimp only at hSw); go_simp; (try with_reducible rfl))
          change wpAnyH _ _ _ _ _ _ _ (Act.put _ (some 32) _) _
          simp only [Act.put, List.setIfInBounds_toArray, List.set_cons_zero, List.set_cons_succ]
          refine wpAnyH_take (i := 11) (v := ?v11a) rfl (by kernel_rfl) (by kernel_rfl) (by kernel_rfl) (fun _ _ _ h => h) (Or.inl ⟨by rfl, ?hy11a⟩) (by assumption) ?rest11a
          case hy11a => (intro zz hSw; (try dsimp only at hSw); go_simp; (try with_reducible rfl))
          change wpAnyH _ _ _ _ _ _ _ (Act.put _ (some 33) _) _
          simp only [Act.put, List.setIfInBounds_toArray, List.set_cons_zero, List.set_cons_succ]
          refine wpAnyH_take (i := 12) (v := ?v12a) rfl (by kernel_rfl) (by kernel_rfl) (by kernel_rfl) (fun _ _ _ h => h) (Or.inl ⟨by rfl, ?hy12a⟩) (by assumption) ?rest12a
          case hy12a => (intro zz hSw; (try dsimp only at hSw); go_simp; (try with_reducible rfl))
          change wpAnyH _ _ _ _ _ _ _ (Act.put _ (some 34) _) _
          simp only [Act.put, List.setIfInBounds_toArray, List.set_cons_zero, List.set_cons_succ]
          refine wpAnyH_take (i := 13) (v := ?v13a) rfl (by kernel_rfl) (by kernel_rfl) (by kernel_rfl) (fun _ _ _ h => h) (Or.inl ⟨by rfl, ?hy13a⟩) (by assumption) ?rest13a
          case hy13a => (intro zz hSw; (try dsimp only at hSw); go_simp; (try with_reducible rfl))
          change wpAnyH _ _ _ _ _ _ _ (Act.put _ (some 35) _) _
          simp only [Act.put, List.setIfInBounds_toArray, List.set_cons_zero, List.set_cons_succ]
          refine wpAnyH_take (i := 14) (v := ?v14a) rfl (by kernel_rfl) (by kernel_rfl) (by kernel_rfl) (fun _ _ _ h => h) (Or.inl ⟨by rfl, ?hy14a⟩) (by assumption) ?rest14a
          case hy14a => (intro zz hSw; (try dsimp only at hSw); go_simp; (try with_reducible rfl))
          change wpAnyH _ _ _ _ _ _ _ (Act.put _ (some 4) _) _
          simp only [Act.put, List.setIfInBounds_toArray, List.set_cons_zero, List.set_cons_succ]
          refine wpAnyH_take (i := 15) (v := ?v15a) rfl (by kernel_rfl) (by kernel_rfl) (by kernel_rfl) (fun _ _ _ h => h) (Or.inl ⟨by rfl, ?hy15a⟩) (by assumption) ?rest15a
          case hy15a => (intro zz hSw; (try dsimp only at hSw); go_simp; (try with_reducible rfl))
          change wpAnyH _ _ _ _ _ _ _ (Act.put _ (some 5) _) _
          simp only [Act.put, List.setIfInBounds_toArray, List.set_cons_zero, List.set_cons_succ]
          refine wpAnyH_done (by kernel_rfl) ?_ _
          have BX := Lib.hid hHeld.2.2; clear hHeld SOF
          generalize wr.drew = w9 at *
          go_wp2_with fail
          refine bodyPost_ret (v := .tuple #[.int .i64 (k : Int), .bool false]) (by simp [results, Tryz.results91, go_sem]) rfl ⟨by rw [HE.out, HA.out], bel_tr HB.out BX.out (Nat.le_refl _)⟩
        · skip
          rw [hq] at HA
          have SOF := Lib.hid (show ∀ z, Below wr.heap.size wr z → (z.cell? ⟨g, o + k * 2, none⟩ = some (.string c.n) ∧ z.cell? ⟨g, o + k * 2 + 1, none⟩ = some (.int .i64 c.v) ∧ Below wr.heap.size wr z) from fun z hz => ⟨coc hz hg' c0, coc hz hg' c1,  hz⟩)
          go_wp2_with fail
          clear c0 c1
          refine wp_region_held_drew (S := fun z => z.cell? ⟨g, o + k * 2, none⟩ = some (.string c.n) ∧ z.cell? ⟨g, o + k * 2 + 1, none⟩ = some (.int .i64 c.v) ∧ Below wr.heap.size wr z) (by kernel_rfl) (SOF.out _ (Below.refl _ _).drew) (fun hHeld => ?_)
          refine wpAnyH_take (i := 0) (v := ?v0b) rfl (by kernel_rfl) (by kernel_rfl) (by kernel_rfl) (fun _ _ _ h => h) (Or.inl ⟨by rfl, ?hy0b⟩) (by assumption) ?rest0b
          case hy0b => (intro zz hSw; (try dsimp only at hSw); go_simp; (try with_reducible rfl))
          change wpAnyH _ _ _ _ _ _ _ (Act.put _ (some 22) _) _
          simp only [Act.put, List.setIfInBounds_toArray, List.set_cons_zero, List.set_cons_succ]
          refine wpAnyH_take (i := 1) (v := ?v1b) rfl (by kernel_rfl) (by kernel_rfl) (by kernel_rfl) (fun _ _ _ h => h) (Or.inl ⟨by rfl, ?hy1b⟩) (by assumption) ?rest1b
          case hy1b => (intro zz hSw; (try dsimp only at hSw); go_simp; (try with_reducible rfl))
          change wpAnyH _ _ _ _ _ _ _ (Act.put _ (some 23) _) _
          simp only [Act.put, List.setIfInBounds_toArray, List.set_cons_zero, List.set_cons_succ]
          refine wpAnyH_take (i := 2) (v := ?v2b) rfl (by kernel_rfl) (by kernel_rfl) (by kernel_rfl) (fun _ _ _ h => h) (Or.inl ⟨by rfl, ?hy2b⟩) (by assumption) ?rest2b
          case hy2b => (intro zz hSw; (try dsimp only at hSw); go_simp; (try with_reducible rfl))
          change wpAnyH _ _ _ _ _ _ _ (Act.put _ (some 24) _) _
          simp only [Act.put, List.setIfInBounds_toArray, List.set_cons_zero, List.set_cons_succ]
          refine wpAnyH_take (i := 3) (v := ?v3b) rfl (by kernel_rfl) (by kernel_rfl) (by kernel_rfl) (fun _ _ _ h => h) (Or.inl ⟨by rfl, ?hy3b⟩) (by assumption) ?rest3b
          case hy3b => (intro zz hSw; (try dsimp only at hSw); go_simp; (try with_reducible rfl))
          change wpAnyH _ _ _ _ _ _ _ (Act.put _ (some 25) _) _
          simp only [Act.put, List.setIfInBounds_toArray, List.set_cons_zero, List.set_cons_succ]
          refine wpAnyH_take (i := 4) (v := ?v4b) rfl (by kernel_rfl) (by kernel_rfl) (by kernel_rfl) (fun _ _ _ h => h) (Or.inl ⟨by rfl, ?hy4b⟩) (by assumption) ?rest4b
          case hy4b => (intro zz hSw; (try dsimp only at hSw); go_simp; (try with_reducible rfl))
          change wpAnyH _ _ _ _ _ _ _ (Act.put _ (some 26) _) _
          simp only [Act.put, List.setIfInBounds_toArray, List.set_cons_zero, List.set_cons_succ]
          refine wpAnyH_take (i := 5) (v := ?v5b) rfl (by kernel_rfl) (by kernel_rfl) (by kernel_rfl) (fun _ _ _ h => h) (Or.inl ⟨by rfl, ?hy5b⟩) (by assumption) ?rest5b
          case hy5b => (intro zz hSw; (try dsimp only at hSw); go_simp; (try with_reducible rfl))
          change wpAnyH _ _ _ _ _ _ _ (Act.put _ (some 27) _) _
          simp only [Act.put, List.setIfInBounds_toArray, List.set_cons_zero, List.set_cons_succ]
          refine wpAnyH_take (i := 6) (v := ?v6b) rfl (by kernel_rfl) (by kernel_rfl) (by kernel_rfl) (fun _ _ _ h => h) (Or.inl ⟨by rfl, ?hy6b⟩) (by assumption) ?rest6b
          case hy6b => (intro zz hSw; (try dsimp only at hSw); go_simp; (try with_reducible rfl))
          change wpAnyH _ _ _ _ _ _ _ (Act.put _ (some 28) _) _
          simp only [Act.put, List.setIfInBounds_toArray, List.set_cons_zero, List.set_cons_succ]
          refine wpAnyH_take (i := 7) (v := ?v7b) rfl (by kernel_rfl) (by kernel_rfl) (by kernel_rfl) (fun _ _ _ h => h) (Or.inl ⟨by rfl, ?hy7b⟩) (by assumption) ?rest7b
          case hy7b => (intro zz hSw; (try dsimp only at hSw); go_simp; (try with_reducible rfl))
          change wpAnyH _ _ _ _ _ _ _ (Act.put _ (some 29) _) _
          simp only [Act.put, List.setIfInBounds_toArray, List.set_cons_zero, List.set_cons_succ]
          refine wpAnyH_take (i := 8) (v := ?v8b) rfl (by kernel_rfl) (by kernel_rfl) (by kernel_rfl) (fun _ _ _ h => h) (Or.inl ⟨by rfl, ?hy8b⟩) (by assumption) ?rest8b
          case hy8b => (intro zz hSw; (try dsimp only at hSw); go_simp; (try with_reducible rfl))
          change wpAnyH _ _ _ _ _ _ _ (Act.put _ (some 30) _) _
          simp only [Act.put, List.setIfInBounds_toArray, List.set_cons_zero, List.set_cons_succ]
          refine wpAnyH_take (i := 9) (v := ?v9b) rfl (by kernel_rfl) (by kernel_rfl) (by kernel_rfl) (fun _ _ _ h => h) (Or.inl ⟨by rfl, ?hy9b⟩) (by assumption) ?rest9b
          case hy9b => (intro zz hSw; (try dsimp only at hSw); go_simp; (try with_reducible rfl))
          change wpAnyH _ _ _ _ _ _ _ (Act.put _ (some 31) _) _
          simp only [Act.put, List.setIfInBounds_toArray, List.set_cons_zero, List.set_cons_succ]
          refine wpAnyH_take (i := 10) (v := ?v10b) rfl (by kernel_rfl) (by kernel_rfl) (by kernel_rfl) (fun _ _ _ h => h) (Or.inl ⟨by rfl, ?hy10b⟩) (by assumption) ?rest10b
          case hy10b => (intro zz hSw; (try dsimp only at hSw); go_simp; (try with_reducible rfl))
          change wpAnyH _ _ _ _ _ _ _ (Act.put _ (some 32) _) _
          simp only [Act.put, List.setIfInBounds_toArray, List.set_cons_zero, List.set_cons_succ]
          refine wpAnyH_take (i := 11) (v := ?v11b) rfl (by kernel_rfl) (by kernel_rfl) (by kernel_rfl) (fun _ _ _ h => h) (Or.inl ⟨by rfl, ?hy11b⟩) (by assumption) ?rest11b
          case hy11b => (intro zz hSw; (try dsimp only at hSw); go_simp; (try with_reducible rfl))
          change wpAnyH _ _ _ _ _ _ _ (Act.put _ (some 33) _) _
          simp only [Act.put, List.setIfInBounds_toArray, List.set_cons_zero, List.set_cons_succ]
          refine wpAnyH_take (i := 12) (v := ?v12b) rfl (by kernel_rfl) (by kernel_rfl) (by kernel_rfl) (fun _ _ _ h => h) (Or.inl ⟨by rfl, ?hy12b⟩) (by assumption) ?rest12b
          case hy12b => (intro zz hSw; (try dsimp only at hSw); go_simp; (try with_reducible rfl))
          change wpAnyH _ _ _ _ _ _ _ (Act.put _ (some 34) _) _
          simp only [Act.put, List.setIfInBounds_toArray, List.set_cons_zero, List.set_cons_succ]
          refine wpAnyH_take (i := 13) (v := ?v13b) rfl (by kernel_rfl) (by kernel_rfl) (by kernel_rfl) (fun _ _ _ h => h) (Or.inl ⟨by rfl, ?hy13b⟩) (by assumption) ?rest13b
          case hy13b => (intro zz hSw; (try dsimp only at hSw); go_simp; (try with_reducible rfl))
          change wpAnyH _ _ _ _ _ _ _ (Act.put _ (some 35) _) _
          simp only [Act.put, List.setIfInBounds_toArray, List.set_cons_zero, List.set_cons_succ]
          refine wpAnyH_take (i := 14) (v := ?v14b) rfl (by kernel_rfl) (by kernel_rfl) (by kernel_rfl) (fun _ _ _ h => h) (Or.inl ⟨by rfl, ?hy14b⟩) (by assumption) ?rest14b
          case hy14b => (intro zz hSw; (try dsimp only at hSw); go_simp; (try with_reducible rfl))
          change wpAnyH _ _ _ _ _ _ _ (Act.put _ (some 4) _) _
          simp only [Act.put, List.setIfInBounds_toArray, List.set_cons_zero, List.set_cons_succ]
          refine wpAnyH_take (i := 15) (v := ?v15b) rfl (by kernel_rfl) (by kernel_rfl) (by kernel_rfl) (fun _ _ _ h => h) (Or.inl ⟨by rfl, ?hy15b⟩) (by assumption) ?rest15b
          case hy15b => (intro zz hSw; (try dsimp only at hSw); go_simp; (try with_reducible rfl))
          change wpAnyH _ _ _ _ _ _ _ (Act.put _ (some 5) _) _
          simp only [Act.put, List.setIfInBounds_toArray, List.set_cons_zero, List.set_cons_succ]
          refine wpAnyH_done (by kernel_rfl) ?_ _
          have BX := Lib.hid hHeld.2.2; clear hHeld SOF
          generalize wr.drew = w9 at *
          go_wp2_with fail
          refine bodyPost_ret (v := .tuple #[.int .i64 (k : Int), .bool true]) (by simp [results, Tryz.results91, go_sem]) rfl ⟨by rw [HE.out, HA.out], bel_tr HB.out BX.out (Nat.le_refl _)⟩
      · have HL2 := Lib.hid (show ∀ (j : Nat) (d : Bi), j < k + 1 → l[j]? = some d → Op.bytesLess d.n.toList s.toList = true from fun j d hj hd => by
          by_cases e : j = k
          · subst e; rw [HC.out] at hd; cases hd; exact he
          · exact HLO.out j d (by omega) hd)
        go_wp2_with fail
        go_roundw
        case rel => exact ⟨k + 1, by omega, by go_num, HL2.out, HB.out⟩
        case measure => simp [intV]; omega
    · obtain rfl : k = n := by omega
      have HE := Lib.hid (show cntI s l = k from cntI_eq (by rw [HN.out]; exact hk) HLO.out (fun d hd => by have := (List.getElem?_eq_some_iff.1 hd).1; have := HN.out; omega))
      have HA := Lib.hid (show isAt s l = false from isAt_none (by rw [HE.out, HN.out]; exact Nat.le_refl _))
      have i1 : ¬ (k : Int) < (k : Int) := by omega
      have i4 : decide ((k : Int) < (k : Int)) = false := decide_eq_false i1
      have i5 : decide (k < k) = false := decide_eq_false hlt
      go_wp2_with fail
      refine wp_region_held_drew (S := fun z => Below wr.heap.size wr z) (by kernel_rfl) (Below.refl _ _).drew (fun hHeld => ?_)
      refine wpAnyH_take (i := 0) (v := ?v0n) rfl (by kernel_rfl) (by kernel_rfl) (by kernel_rfl) (fun _ _ _ h => h) (Or.inl ⟨by rfl, ?hy0n⟩) (by assumption) ?rest0n
      case hy0n => (intro zz hSw; (try dsimp only at hSw); go_simp; (try with_reducible rfl))
      change wpAnyH _ _ _ _ _ _ _ (Act.put _ (some 22) _) _
      simp only [Act.put, List.setIfInBounds_toArray, List.set_cons_zero, List.set_cons_succ]
      refine wpAnyH_take (i := 1) (v := ?v1n) rfl (by kernel_rfl) (by kernel_rfl) (by kernel_rfl) (fun _ _ _ h => h) (Or.inl ⟨by rfl, ?hy1n⟩) (by assumption) ?rest1n
      case hy1n => (intro zz hSw; (try dsimp only at hSw); go_simp; (try with_reducible rfl))
      change wpAnyH _ _ _ _ _ _ _ (Act.put _ (some 23) _) _
      simp only [Act.put, List.setIfInBounds_toArray, List.set_cons_zero, List.set_cons_succ]
      refine wpAnyH_take (i := 2) (v := ?v2n) rfl (by kernel_rfl) (by kernel_rfl) (by kernel_rfl) (fun _ _ _ h => h) (Or.inl ⟨by rfl, ?hy2n⟩) (by assumption) ?rest2n
      case hy2n => (intro zz hSw; (try dsimp only at hSw); go_simp; (try with_reducible rfl))
      change wpAnyH _ _ _ _ _ _ _ (Act.put _ (some 24) _) _
      simp only [Act.put, List.setIfInBounds_toArray, List.set_cons_zero, List.set_cons_succ]
      refine wpAnyH_take (i := 3) (v := ?v3n) rfl (by kernel_rfl) (by kernel_rfl) (by kernel_rfl) (fun _ _ _ h => h) (Or.inl ⟨by rfl, ?hy3n⟩) (by assumption) ?rest3n
      case hy3n => (intro zz hSw; (try dsimp only at hSw); go_simp; (try with_reducible rfl))
      change wpAnyH _ _ _ _ _ _ _ (Act.put _ (some 25) _) _
      simp only [Act.put, List.setIfInBounds_toArray, List.set_cons_zero, List.set_cons_succ]
      refine wpAnyH_take (i := 4) (v := ?v4n) rfl (by kernel_rfl) (by kernel_rfl) (by kernel_rfl) (fun _ _ _ h => h) (Or.inl ⟨by rfl, ?hy4n⟩) (by assumption) ?rest4n
      case hy4n => (intro zz hSw; (try dsimp only at hSw); go_simp; (try with_reducible rfl))
      change wpAnyH _ _ _ _ _ _ _ (Act.put _ (some 26) _) _
      simp only [Act.put, List.setIfInBounds_toArray, List.set_cons_zero, List.set_cons_succ]
      refine wpAnyH_take (i := 5) (v := ?v5n) rfl (by kernel_rfl) (by kernel_rfl) (by kernel_rfl) (fun _ _ _ h => h) (Or.inl ⟨by rfl, ?hy5n⟩) (by assumption) ?rest5n
      case hy5n => (intro zz hSw; (try dsimp only at hSw); go_simp; (try with_reducible rfl))
      change wpAnyH _ _ _ _ _ _ _ (Act.put _ (some 27) _) _
      simp only [Act.put, List.setIfInBounds_toArray, List.set_cons_zero, List.set_cons_succ]
      refine wpAnyH_take (i := 6) (v := undef) rfl (by kernel_rfl) (by kernel_rfl) (by kernel_rfl) (fun _ _ _ h => h) (Or.inr ⟨by rfl, rfl⟩) (by assumption) ?_
      change wpAnyH _ _ _ _ _ _ _ (Act.put _ (some 28) _) _
      simp only [Act.put, List.setIfInBounds_toArray, List.set_cons_zero, List.set_cons_succ]
      refine wpAnyH_take (i := 7) (v := undef) rfl (by kernel_rfl) (by kernel_rfl) (by kernel_rfl) (fun _ _ _ h => h) (Or.inr ⟨by rfl, rfl⟩) (by assumption) ?_
      change wpAnyH _ _ _ _ _ _ _ (Act.put _ (some 29) _) _
      simp only [Act.put, List.setIfInBounds_toArray, List.set_cons_zero, List.set_cons_succ]
      refine wpAnyH_take (i := 8) (v := undef) rfl (by kernel_rfl) (by kernel_rfl) (by kernel_rfl) (fun _ _ _ h => h) (Or.inr ⟨by rfl, rfl⟩) (by assumption) ?_
      change wpAnyH _ _ _ _ _ _ _ (Act.put _ (some 30) _) _
      simp only [Act.put, List.setIfInBounds_toArray, List.set_cons_zero, List.set_cons_succ]
      refine wpAnyH_take (i := 9) (v := undef) rfl (by kernel_rfl) (by kernel_rfl) (by kernel_rfl) (fun _ _ _ h => h) (Or.inr ⟨by rfl, rfl⟩) (by assumption) ?_
      change wpAnyH _ _ _ _ _ _ _ (Act.put _ (some 31) _) _
      simp only [Act.put, List.setIfInBounds_toArray, List.set_cons_zero, List.set_cons_succ]
      refine wpAnyH_take (i := 10) (v := undef) rfl (by kernel_rfl) (by kernel_rfl) (by kernel_rfl) (fun _ _ _ h => h) (Or.inr ⟨by rfl, rfl⟩) (by assumption) ?_
      change wpAnyH _ _ _ _ _ _ _ (Act.put _ (some 32) _) _
      simp only [Act.put, List.setIfInBounds_toArray, List.set_cons_zero, List.set_cons_succ]
      refine wpAnyH_take (i := 11) (v := undef) rfl (by kernel_rfl) (by kernel_rfl) (by kernel_rfl) (fun _ _ _ h => h) (Or.inr ⟨by rfl, rfl⟩) (by assumption) ?_
      change wpAnyH _ _ _ _ _ _ _ (Act.put _ (some 33) _) _
      simp only [Act.put, List.setIfInBounds_toArray, List.set_cons_zero, List.set_cons_succ]
      refine wpAnyH_take (i := 12) (v := undef) rfl (by kernel_rfl) (by kernel_rfl) (by kernel_rfl) (fun _ _ _ h => h) (Or.inr ⟨by rfl, rfl⟩) (by assumption) ?_
      change wpAnyH _ _ _ _ _ _ _ (Act.put _ (some 34) _) _
      simp only [Act.put, List.setIfInBounds_toArray, List.set_cons_zero, List.set_cons_succ]
      refine wpAnyH_take (i := 13) (v := ?v13n) rfl (by kernel_rfl) (by kernel_rfl) (by kernel_rfl) (fun _ _ _ h => h) (Or.inl ⟨by rfl, ?hy13n⟩) (by assumption) ?rest13n
      case hy13n => (intro zz hSw; (try dsimp only at hSw); go_simp; (try with_reducible rfl))
      change wpAnyH _ _ _ _ _ _ _ (Act.put _ (some 35) _) _
      simp only [Act.put, List.setIfInBounds_toArray, List.set_cons_zero, List.set_cons_succ]
      refine wpAnyH_take (i := 14) (v := ?v14n) rfl (by kernel_rfl) (by kernel_rfl) (by kernel_rfl) (fun _ _ _ h => h) (Or.inl ⟨by rfl, ?hy14n⟩) (by assumption) ?rest14n
      case hy14n => (intro zz hSw; (try dsimp only at hSw); go_simp; (try with_reducible rfl))
      change wpAnyH _ _ _ _ _ _ _ (Act.put _ (some 4) _) _
      simp only [Act.put, List.setIfInBounds_toArray, List.set_cons_zero, List.set_cons_succ]
      refine wpAnyH_take (i := 15) (v := ?v15n) rfl (by kernel_rfl) (by kernel_rfl) (by kernel_rfl) (fun _ _ _ h => h) (Or.inl ⟨by rfl, ?hy15n⟩) (by assumption) ?rest15n
      case hy15n => (intro zz hSw; (try dsimp only at hSw); go_simp; (try with_reducible rfl))
      change wpAnyH _ _ _ _ _ _ _ (Act.put _ (some 5) _) _
      simp only [Act.put, List.setIfInBounds_toArray, List.set_cons_zero, List.set_cons_succ]
      refine wpAnyH_done (by kernel_rfl) ?_ _
      have BX := Lib.hid hHeld; clear hHeld
      generalize wr.drew = w9 at *
      go_wp2_with fail
      refine bodyPost_ret (v := .tuple #[.int .i64 (k : Int), .bool false]) (by simp [results, Tryz.results91, go_sem]) rfl ⟨by rw [HE.out, HA.out], bel_tr HB.out BX.out (Nat.le_refl _)⟩
theorem run_append_binsT {w : World} {base : Nat} {v : Value} {a : Option Addr} {cap : Nat} {l m : List Bi} (T : TypeId) (hT : Tryz.prog.underlying T = some (.slice 44)) (ty : TypeId) (hown : OwI base w v l) (hy : VwI w a cap m) (hlen : l.length + m.length ≤ 10000000) (hbase : base ≤ w.heap.size) :
    ∃ v' w', (Builtin.append_ #[T, T] ty #[v, .slice a m.length cap]).run Tryz.prog w = .ok v' w' ∧ OwI base w' v' (l ++ m) ∧ w.grownBy w' v.ownBlock ∧ (v'.ownBlock = v.ownBlock ∨ v'.ownBlock = some w.heap.size) := by
  obtain ⟨i0, hi, hz0, hz1, hz2⟩ := info_parts infoI
  cases a with
  | none =>
    have hc := hy.2.2.1 rfl
    have hm : m = [] := List.length_eq_zero_iff.1 (by have := hy.1; omega)
    subst hm hc
    rw [List.append_nil]
    exact ⟨v, w, run_append_owned_none w base T ty 44 i0 2 hT hi v _ _ hown, hown, World.grownBy.refl _ _, Or.inl rfl⟩
  | some ad =>
    obtain ⟨v', w', hr, h2, h3, h4, h5⟩ := run_append_own_at (P := Tryz.prog) w base T ty 44 i0 _ 2 24 hT hi hz0 hz1 hz2 rfl (by decide) v l.length (flatI l) hown
      ad m.length cap (flatI m) (flatI_len m) (vwI_cells hy) (flatI_one m) (by unfold maxLen; omega) (by omega) hbase
    refine ⟨v', w', hr, ?_, h3, h5⟩
    unfold OwI
    rw [List.length_append, flatI_app]; exact h2
theorem step_append_binsT {ops : Array Oper} {o : Oper} {a : Act} {Q : Exit → Act → World → Prop} {K : Act → World → Prop} {w : World} (hw : Region.wanted o (yielded ops a.tmps) = true) (s x : Operand) (T : TypeId) (hT : Tryz.prog.underlying T = some (.slice 44))
    (ho : o.op = .call { callee := .builtin .append, args := #[s, x], argTypes := #[T, T] })
    {base : Nat} {v : Value} {ad : Option Addr} {cap n : Nat} {l m : List Bi} (hs : a.eval s = v) (hx : a.eval x = .slice ad n cap) (hmn : m.length = n) (hown : OwI base w v l) (hy : VwI w ad cap m) (hlen : l.length + m.length ≤ 10000000) (hbase : base ≤ w.heap.size)
    (h : ∀ v' w', OwI base w' v' (l ++ m) → w.grownBy w' v.ownBlock → (v'.ownBlock = v.ownBlock ∨ v'.ownBlock = some w.heap.size) → K (a.put o.dst v') w') :
    if Region.wanted o (yielded ops a.tmps) = true then Oper.wp Tryz.prog o a w K Q else K (a.put o.dst undef) w := by
  rw [if_pos hw]
  obtain ⟨v', w', hr, h2, h3, h4⟩ := run_append_binsT T hT o.type hown hy hlen hbase
  subst hmn
  unfold Oper.wp execOp
  simp only [ho, resolve, invoke, builtin, Sem.run_bind, Sem.run_pure, Result.andThen_ok, List.map_toArray, List.map_cons, List.map_nil, hs, hx, hr]
  exact h v' w' h2 h3 h4
theorem append_binsT {ops : Array Oper} {rest : List Oper} {o : Oper} {a : Act} {Q : Exit → Act → World → Prop} {w : World} (hw : Region.wanted o (yielded ops a.tmps) = true) (s x : Operand) (T : TypeId) (hT : Tryz.prog.underlying T = some (.slice 44))
    (ho : o.op = .call { callee := .builtin .append, args := #[s, x], argTypes := #[T, T] })
    {base : Nat} {v : Value} {ad : Option Addr} {cap n : Nat} {l m : List Bi} (hs : a.eval s = v) (hx : a.eval x = .slice ad n cap) (hmn : m.length = n) (hown : OwI base w v l) (hy : VwI w ad cap m) (hlen : l.length + m.length ≤ 10000000) (hbase : base ≤ w.heap.size)
    (h : ∀ v' w', OwI base w' v' (l ++ m) → w.grownBy w' v.ownBlock → wpList Tryz.prog ops Q rest (a.put o.dst v') w') : wpList Tryz.prog ops Q (o :: rest) a w := by
  refine BigFrame.wpList_want hw fun K hK => ?_
  subst hmn
  obtain ⟨v', w', hr, h2, h3, -⟩ := run_append_binsT T hT o.type hown hy hlen hbase
  unfold Oper.wp execOp
  simp only [ho, resolve, invoke, builtin, Sem.run_bind, Sem.run_pure, Result.andThen_ok, List.map_toArray, List.map_cons, List.map_nil, hs, hx, hr]
  exact hK _ _ (h v' w' h2 h3)
theorem VwI.grown {w w' : World} {a : Option Addr} {cap : Nat} {l : List Bi} {row : Option Nat} (h : VwI w a cap l) (hg : w.grownBy w' row) (hne : ∀ g o, l ≠ [] → a = some ⟨g, o, none⟩ → row ≠ some g) : VwI w' a cap l := by
  obtain ⟨h1, h2, h3, h4⟩ := h
  refine ⟨h1, h2, h3, fun k c hk => ?_⟩
  obtain ⟨g, o, e, hlt, hc⟩ := h4 k c hk
  exact ⟨g, o, e, Nat.lt_of_lt_of_le hlt hg.size, hc.same (hg.block g hlt (fun e2 => hne g o (fun e3 => by rw [e3] at hk; simp at hk) e e2.symm))⟩
theorem OwI.blk {B : Nat} {w : World} {a : Option Addr} {n cap : Nat} {l : List Bi} (h : OwI B w (.slice a n cap) l) : ∀ g o, l ≠ [] → a = some ⟨g, o, none⟩ → B ≤ g ∧ g < w.heap.size := fun g o hne ha => by
  obtain ⟨c, r, hc⟩ := List.exists_cons_of_ne_nil hne
  obtain ⟨a', cap', e, -, hf⟩ := h.own
  cases e
  obtain ⟨g', e', -⟩ := hf 0 (by rw [hc]; simp)
  rw [ha] at e'; cases e'
  exact ⟨OwI.lt h g (by rw [ha]; rfl), OwI.low h g (by rw [ha]; rfl)⟩
theorem VwI.at {w : World} {a : Option Addr} {cap : Nat} {l : List Bi} (h : VwI w a cap l) {k : Nat} (hk : k ≤ l.length) : VwI w a cap (l.take k) := h.take hk (Nat.le_trans hk h.1) (Nat.le_refl _) h.2.2.1
set_option maxRecDepth 100000 in
theorem cutI_from (T : TypeId) (hu : Tryz.prog.underlying T = some (.slice (Tryz.prog.elem T))) (he : Tryz.prog.elem T = 44) (a : Option Addr) (n cap k : Nat) (hk : k ≤ n) : ∃ b cb, (∀ w, (Instr.slice T (.slice a n cap) (some (.int .i64 (k : Int))) none none).run Tryz.prog w = .ok (.slice b (n - k) cb) w) ∧
    ∀ w l, VwI w a cap l → l.length = n → VwI w b cb (l.drop k) := by
  refine ⟨_, _, fun w => ?_, fun w l h hl => h.drop (k := k) (by omega)⟩
  have hs : ∀ w, (sizeOf (Tryz.prog.elem T)).run Tryz.prog w = .ok 2 w := fun w => by
    rw [he]; exact Tryz.sizeOf44 w
  rw [run_slice_l w T a n cap hu .i64 (k : Int) (by omega) (by omega), hs]
  rfl
set_option maxRecDepth 100000 in
theorem cutI_to (T : TypeId) (hu : Tryz.prog.underlying T = some (.slice (Tryz.prog.elem T))) (he : Tryz.prog.elem T = 44) (a : Option Addr) (n cap k : Nat) (hk : k ≤ n) (hn : n ≤ cap) (hz : a = none → cap = 0) : (∀ w, (Instr.slice T (.slice a n cap) none (some (.int .i64 (k : Int))) none).run Tryz.prog w = .ok (.slice a k cap) w) ∧
    ∀ w l, VwI w a cap l → l.length = n → VwI w a cap (l.take k) := by
  refine ⟨fun w => ?_, fun w l h hl => h.take (by omega) (by omega) (Nat.le_refl _) hz⟩
  have hs : ∀ w, (sizeOf (Tryz.prog.elem T)).run Tryz.prog w = .ok 2 w := fun w => by
    rw [he]; exact Tryz.sizeOf44 w
  rw [run_slice_h w T a n cap hu .i64 (k : Int) (by omega) (by omega), hs]
  show Result.ok (Value.slice (if cap = 0 then a else a.map (·.add (0 * 2))) (k - 0) (cap - 0)) w = _
  congr 2
  split
  · rfl
  · cases a <;> simp [Addr.add]
set_option maxHeartbeats 2000000 in
set_option maxRecDepth 100000 in
theorem l7Copy_any (w : World) (a : Option Addr) (cap : Nat) (l : List Bi) (n : Nat) (hn : l.length = n) (hv : VwI w a cap l) (hl : n ≤ 4194304) :
    Calls Tryz.prog 50 #[.slice a n cap] w fun e w' => ∃ v, e = .returned v ∧ OwI w.heap.size w' v l ∧ Below w.heap.size w w' := by
  subst hn
  have HV := Lib.hid hv; clear hv
  have hT : Tryz.prog.underlying 25 = some (.slice 44) := Tryz.underlying25
  go_enter Tryz.func50, Tryz.ntmps50
  go_wp2_with (first
    | (at_builtin; refine append_binsT rfl (.tmp 3) (.tmp 4) 25 hT rfl (base := w.heap.size) (l := []) (m := l) rfl rfl rfl (OwI.start (Nat.le_refl _)) (HV.out.below (bel1 _ _)) (by simp; omega) (by simp) ?_; intro v1 w1 hown1 hgrow1))
  go_ret
  exact ⟨_, rfl, hown1, (bel1 w _).grown hgrow1 (by simp) (fun j hj => OwI.lt (OwI.start (Nat.le_refl _)) j hj)⟩
def st7 (l : List Bi) (n : ByteArray) (x : Int) : List Bi × Bool := if isAt n l then (stI l n x, true) else if l.length = 12 then (l, false) else (stI l n x, true)
theorem st7_at {l : List Bi} {n : ByteArray} {x : Int} (h : isAt n l = true) : st7 l n x = (stI l n x, true) := by unfold st7; rw [if_pos h]
theorem st7_full {l : List Bi} {n : ByteArray} {x : Int} (h : isAt n l = false) (h2 : l.length = 12) : st7 l n x = (l, false) := by unfold st7; rw [if_neg (by rw [h]; decide), if_pos h2]
theorem st7_new {l : List Bi} {n : ByteArray} {x : Int} (h : isAt n l = false) (h2 : l.length ≠ 12) : st7 l n x = (stI l n x, true) := by unfold st7; rw [if_neg (by rw [h]; decide), if_neg h2]
def SbPost (B : Nat) (p : List Bi × Bool) (w : World) (e : Ending) (w' : World) : Prop := ∃ v, e = .returned (.tuple #[v, .bool p.2]) ∧ OwI B w' v p.1 ∧ Below B w w'
theorem ctI_no {l : List Bi} {n : ByteArray} (h : isAt n l = false) : ctI l n = l := by unfold ctI behI; rw [if_neg (by rw [h]; decide)]; exact List.take_append_drop _ _
def CbPost (B : Nat) (p : List Bi) (w : World) (e : Ending) (w' : World) : Prop := ∃ v, e = .returned v ∧ OwI B w' v p ∧ Below B w w'
end Go.Proofs.YtfnnoehpahdgcaaGreatDoor.Cl
namespace Go.Proofs.YtfnnoehpahdgcaaGreatDoor.Cl
set_option linter.unusedVariables false
open Go.RowKit Wd Rp Kp
theorem drop_head {l : List Tk} {k : Nat} {s : Tk} {r : List Tk} (h : l.drop k = s :: r) : l[k]? = some s ∧ k < l.length ∧ l.drop (k + 1) = r := by
  have h1 : (l.drop k)[0]? = some s := by rw [h]; rfl
  rw [List.getElem?_drop, Nat.add_zero] at h1
  refine ⟨h1, (List.getElem?_eq_some_iff.1 h1).1, ?_⟩
  rw [← List.drop_drop, h]; rfl
theorem drop_more {l x r : List Tk} {k : Nat} (h : l.drop k = x ++ r) : l.drop (k + x.length) = r := by rw [← List.drop_drop, h, List.drop_left]
theorem su_len {l : List Tk} {i : Int} {u : Su} {r : List Tk} (h0 : 0 ≤ i) (h : l.drop i.toNat = u.fl ++ r) : i + u.fl.length ≤ l.length := by
  have := congrArg List.length h
  rw [List.length_drop, List.length_append] at this
  have := u.pos
  omega
theorem edV_some {l : List Tk} {i : Int} {m : Nat} (h : enA l i = some m) : edV l i = i + m := by unfold edV; rw [h]
theorem edV_none {l : List Tk} {i : Int} (h : enA l i = none) : edV l i = -1 := by unfold edV; rw [h]
theorem kdG_yes {o : Nat} {a b : Int} (ha : a = tkK o) (hb : b = tkK o) : kdG o a b = ylK o := by unfold kdG; rw [if_pos ⟨ha, hb⟩]
theorem kdG_no {o : Nat} {a b : Int} (h : ¬ (a = tkK o ∧ b = tkK o)) : kdG o a b = 0 := by unfold kdG; rw [if_neg h]
theorem vlG_yes {o : Nat} {a b : Int × Bool} (ha : a.2 = true) (hb : b.2 = true) : vlG o a b = (didV o a.1 b.1, didB o a.1 b.1) := by unfold vlG; rw [ha, hb]; rfl
theorem vlG_no1 {o : Nat} {a b : Int × Bool} (ha : a.2 = false) : vlG o a b = (0, false) := by unfold vlG; rw [ha]; rfl
theorem vlG_no2 {o : Nat} {a b : Int × Bool} (ha : b.2 = false) : vlG o a b = (0, false) := by unfold vlG; rw [ha, Bool.and_false]; rfl
set_option maxHeartbeats 4000000 in
set_option maxRecDepth 100000 in
theorem l8Kind_any (a : Option Addr) (cap : Nat) (l : List Tk) (n : Nat) (hn : l.length = n) (hl : n ≤ 4194304) (hm : ∀ s ∈ l, s.length ≤ 4194304) : ∀ (u : Su), u.ok → ∀ (i : Int) (r : List Tk) (w : World), 0 ≤ i → l.drop i.toNat = u.fl ++ r → V1 w a cap (txL l) →
    Calls Tryz.prog 115 #[.slice a n cap, .int .i64 i] w fun e w' => e = .returned (.tuple #[.int .i64 (u.fo kdF kdG), .int .i64 (i + (u.fl.length : Int))]) ∧ Below w.heap.size w w' := by
  intro u
  induction u with
  | one s =>
    intro hu i r w hi hd hv
    have h0 := isL_0 hu
    obtain ⟨hs, hlt, -⟩ := drop_head hd
    obtain ⟨k, rfl⟩ : ∃ k : Nat, i = k := ⟨i.toNat, by omega⟩
    simp only [Int.toNat_natCast] at hs hlt
    obtain ⟨g, o, rfl, hg, c0⟩ := hv.tx hs
    have HO := Lib.hid (fun w => l8Op_any w s)
    have hsl : s.length ≤ 4194304 := hm s (List.mem_of_getElem? hs)
    have hlk : k < n := by omega
    clear hv hs hg hd
    rw [h0] at HO
    generalize tx s = x at *
    go_enter Tryz.func115, Tryz.ntmps115
    go_wp2_with fail
    refine (HO.out _).mono ?_; rintro e w1 ⟨rfl, b1⟩
    have B1 := Lib.hid b1; clear b1
    go_wp2_with fail
    go_ret2
    exact ⟨rfl, B1.out⟩
  | two s x y ihx ihy =>
    intro hu i r w hi hd hv
    rw [Su.fl, List.cons_append, List.append_assoc] at hd
    obtain ⟨hs, hlt, hd2⟩ := drop_head hd
    have hd1 := hd2
    have hd3 := drop_more hd2
    have e1 : i.toNat + 1 = (i + 1).toNat := by omega
    have e3 : i.toNat + 1 + x.fl.length = (i + 1 + x.fl.length).toNat := by omega
    rw [e1] at hd1
    rw [e3] at hd3
    have hlx := su_len (u := x) (by omega) hd1
    have hly := su_len (u := y) (by omega) hd3
    have HX := Lib.hid (fun w h => ihx hu.2.1 (i + 1) (y.fl ++ r) w (by omega) hd1 h)
    have HY := Lib.hid (fun w h => ihy hu.2.2 (i + 1 + x.fl.length) r w (by omega) hd3 h)
    have hon := isO_ne hu.1
    have ho7 := opN_le s
    have hln : ((Su.two s x y).fl.length : Int) = 1 + x.fl.length + y.fl.length := by simp [Su.fl]; omega
    have HLN := Lib.hid hln; clear hln ihx ihy hd hd1 hd2 hd3 e1 e3 hu
    obtain ⟨k, rfl⟩ : ∃ k : Nat, i = k := ⟨i.toNat, by omega⟩
    simp only [Int.toNat_natCast] at hs hlt
    obtain ⟨g, q, rfl, hg, c0⟩ := hv.tx hs
    have HV := Lib.hid hv
    have HO := Lib.hid (fun w => l8Op_any w s)
    have hlk : k < n := by omega
    clear hs hg hv
    have HE := Lib.hid (show Su.fo kdF kdG (.two s x y) = kdG (opN s) (x.fo kdF kdG) (y.fo kdF kdG) from rfl)
    have hp : ((opN s : Int) == 0) = false := by rw [beq_eq_false_iff_ne]; omega
    generalize hlx' : x.fl.length = lx at *
    generalize hly' : y.fl.length = ly at *
    generalize Su.fo kdF kdG (.two s x y) = kr at *
    generalize x.fo kdF kdG = kx at *
    generalize y.fo kdF kdG = ky at *
    generalize opN s = o at *
    generalize (Su.two s x y).fl.length = ll at *
    generalize tx s = xs at *
    clear hlx' hly' hon
    by_cases h7 : o = 7
    · subst h7
      have htk : tkK 7 = 2 := rfl
      by_cases hx : kx = 2
      · by_cases hy : ky = 2
        · subst hx hy
          
          have HE2 := Lib.hid (HE.out.trans ((kdG_yes (o := 7) rfl rfl : _ = (2 : Int)))); clear HE
          go_enter Tryz.func115, Tryz.ntmps115
          go_wp2_with fail
          refine (HO.out _).mono ?_; rintro e w1 ⟨rfl, b1⟩
          have V1' := Lib.hid (HV.out.below b1)
          have B1 := Lib.hid b1; clear b1
          go_wp2_with fail
          refine (HX.out w1 V1'.out).mono ?_; rintro e w2 ⟨rfl, b2⟩
          have V2' := Lib.hid (V1'.out.below b2)
          have B2 := Lib.hid (bel_tr B1.out b2 (Nat.le_refl _)); clear b2
          go_wp2_with fail
          refine (HY.out w2 V2'.out).mono ?_; rintro e w3 ⟨rfl, b3⟩
          have B3 := Lib.hid (bel_tr B2.out b3 (Nat.le_refl _)); clear b3
          go_wp2_with fail
          go_ret2
          refine ⟨?_, B3.out⟩
          rw [HE2.out, HLN.out]
          exact congrArg (fun z => Ending.returned (Value.tuple #[.int .i64 2, .int .i64 z])) (by omega)
        · subst hx
          have q1 : (ky != 2) = true := by simpa using hy
          
          have HE2 := Lib.hid (HE.out.trans (kdG_no (by rintro ⟨-, h⟩; exact hy (h.trans htk)))); clear HE
          go_enter Tryz.func115, Tryz.ntmps115
          go_wp2_with fail
          refine (HO.out _).mono ?_; rintro e w1 ⟨rfl, b1⟩
          have V1' := Lib.hid (HV.out.below b1)
          have B1 := Lib.hid b1; clear b1
          go_wp2_with fail
          refine (HX.out w1 V1'.out).mono ?_; rintro e w2 ⟨rfl, b2⟩
          have V2' := Lib.hid (V1'.out.below b2)
          have B2 := Lib.hid (bel_tr B1.out b2 (Nat.le_refl _)); clear b2
          go_wp2_with fail
          refine (HY.out w2 V2'.out).mono ?_; rintro e w3 ⟨rfl, b3⟩
          have B3 := Lib.hid (bel_tr B2.out b3 (Nat.le_refl _)); clear b3
          go_wp2_with fail
          go_ret2
          refine ⟨?_, B3.out⟩
          rw [HE2.out, HLN.out]
          exact congrArg (fun z => Ending.returned (Value.tuple #[.int .i64 0, .int .i64 z])) (by omega)
      · have q1 : (kx != 2) = true := by simpa using hx
        
        have HE2 := Lib.hid (HE.out.trans (kdG_no (by rintro ⟨h, -⟩; exact hx (h.trans htk)))); clear HE
        go_enter Tryz.func115, Tryz.ntmps115
        go_wp2_with fail
        refine (HO.out _).mono ?_; rintro e w1 ⟨rfl, b1⟩
        have V1' := Lib.hid (HV.out.below b1)
        have B1 := Lib.hid b1; clear b1
        go_wp2_with fail
        refine (HX.out w1 V1'.out).mono ?_; rintro e w2 ⟨rfl, b2⟩
        have V2' := Lib.hid (V1'.out.below b2)
        have B2 := Lib.hid (bel_tr B1.out b2 (Nat.le_refl _)); clear b2
        go_wp2_with fail
        refine (HY.out w2 V2'.out).mono ?_; rintro e w3 ⟨rfl, b3⟩
        have B3 := Lib.hid (bel_tr B2.out b3 (Nat.le_refl _)); clear b3
        go_wp2_with fail
        go_ret2
        refine ⟨?_, B3.out⟩
        rw [HE2.out, HLN.out]
        exact congrArg (fun z => Ending.returned (Value.tuple #[.int .i64 0, .int .i64 z])) (by omega)
    · have htk : tkK o = 1 := by unfold tkK; rw [if_neg h7]
      have q7 : ((o : Int) == 7) = false := by rw [beq_eq_false_iff_ne]; omega
      by_cases hx : kx = 1
      · by_cases hy : ky = 1
        · subst hx hy
          by_cases h5 : 5 ≤ o
          · have p5 : (5 : Int) ≤ (o : Int) := by omega
            
            have HE2 := Lib.hid (HE.out.trans (((kdG_yes htk.symm htk.symm).trans (by unfold ylK; rw [if_pos h5]) : _ = (2 : Int)))); clear HE
            go_enter Tryz.func115, Tryz.ntmps115
            go_wp2_with fail
            refine (HO.out _).mono ?_; rintro e w1 ⟨rfl, b1⟩
            have V1' := Lib.hid (HV.out.below b1)
            have B1 := Lib.hid b1; clear b1
            go_wp2_with fail
            refine (HX.out w1 V1'.out).mono ?_; rintro e w2 ⟨rfl, b2⟩
            have V2' := Lib.hid (V1'.out.below b2)
            have B2 := Lib.hid (bel_tr B1.out b2 (Nat.le_refl _)); clear b2
            go_wp2_with fail
            refine (HY.out w2 V2'.out).mono ?_; rintro e w3 ⟨rfl, b3⟩
            have B3 := Lib.hid (bel_tr B2.out b3 (Nat.le_refl _)); clear b3
            go_wp2_with fail
            go_ret2
            refine ⟨?_, B3.out⟩
            rw [HE2.out, HLN.out]
            exact congrArg (fun z => Ending.returned (Value.tuple #[.int .i64 2, .int .i64 z])) (by omega)
          · have p5 : ¬ (5 : Int) ≤ (o : Int) := by omega
            
            have HE2 := Lib.hid (HE.out.trans (((kdG_yes htk.symm htk.symm).trans (by unfold ylK; rw [if_neg h5]) : _ = (1 : Int)))); clear HE
            go_enter Tryz.func115, Tryz.ntmps115
            go_wp2_with fail
            refine (HO.out _).mono ?_; rintro e w1 ⟨rfl, b1⟩
            have V1' := Lib.hid (HV.out.below b1)
            have B1 := Lib.hid b1; clear b1
            go_wp2_with fail
            refine (HX.out w1 V1'.out).mono ?_; rintro e w2 ⟨rfl, b2⟩
            have V2' := Lib.hid (V1'.out.below b2)
            have B2 := Lib.hid (bel_tr B1.out b2 (Nat.le_refl _)); clear b2
            go_wp2_with fail
            refine (HY.out w2 V2'.out).mono ?_; rintro e w3 ⟨rfl, b3⟩
            have B3 := Lib.hid (bel_tr B2.out b3 (Nat.le_refl _)); clear b3
            go_wp2_with fail
            go_ret2
            refine ⟨?_, B3.out⟩
            rw [HE2.out, HLN.out]
            exact congrArg (fun z => Ending.returned (Value.tuple #[.int .i64 1, .int .i64 z])) (by omega)
        · subst hx
          have q1 : (ky != 1) = true := by simpa using hy
          
          have HE2 := Lib.hid (HE.out.trans (kdG_no (by rintro ⟨-, h⟩; exact hy (h.trans htk)))); clear HE
          go_enter Tryz.func115, Tryz.ntmps115
          go_wp2_with fail
          refine (HO.out _).mono ?_; rintro e w1 ⟨rfl, b1⟩
          have V1' := Lib.hid (HV.out.below b1)
          have B1 := Lib.hid b1; clear b1
          go_wp2_with fail
          refine (HX.out w1 V1'.out).mono ?_; rintro e w2 ⟨rfl, b2⟩
          have V2' := Lib.hid (V1'.out.below b2)
          have B2 := Lib.hid (bel_tr B1.out b2 (Nat.le_refl _)); clear b2
          go_wp2_with fail
          refine (HY.out w2 V2'.out).mono ?_; rintro e w3 ⟨rfl, b3⟩
          have B3 := Lib.hid (bel_tr B2.out b3 (Nat.le_refl _)); clear b3
          go_wp2_with fail
          go_ret2
          refine ⟨?_, B3.out⟩
          rw [HE2.out, HLN.out]
          exact congrArg (fun z => Ending.returned (Value.tuple #[.int .i64 0, .int .i64 z])) (by omega)
      · have q1 : (kx != 1) = true := by simpa using hx
        
        have HE2 := Lib.hid (HE.out.trans (kdG_no (by rintro ⟨h, -⟩; exact hx (h.trans htk)))); clear HE
        go_enter Tryz.func115, Tryz.ntmps115
        go_wp2_with fail
        refine (HO.out _).mono ?_; rintro e w1 ⟨rfl, b1⟩
        have V1' := Lib.hid (HV.out.below b1)
        have B1 := Lib.hid b1; clear b1
        go_wp2_with fail
        refine (HX.out w1 V1'.out).mono ?_; rintro e w2 ⟨rfl, b2⟩
        have V2' := Lib.hid (V1'.out.below b2)
        have B2 := Lib.hid (bel_tr B1.out b2 (Nat.le_refl _)); clear b2
        go_wp2_with fail
        refine (HY.out w2 V2'.out).mono ?_; rintro e w3 ⟨rfl, b3⟩
        have B3 := Lib.hid (bel_tr B2.out b3 (Nat.le_refl _)); clear b3
        go_wp2_with fail
        go_ret2
        refine ⟨?_, B3.out⟩
        rw [HE2.out, HLN.out]
        exact congrArg (fun z => Ending.returned (Value.tuple #[.int .i64 0, .int .i64 z])) (by omega)
set_option maxRecDepth 100000 in
theorem l1Max_any (a b : Int) (w : World) : Calls Tryz.prog 128 #[.int .i64 a, .int .i64 b] w fun e w' => e = .returned (.int .i64 (mxI a b)) ∧ w = w' := by
  by_cases h : b < a
  · have HE := Lib.hid (show mxI a b = a by unfold mxI; rw [if_pos h])
    go_enter Tryz.func128, Tryz.ntmps128
    go_wp2_with fail
    go_ret
    exact ⟨by rw [HE.out]; rfl, rfl⟩
  · have HE := Lib.hid (show mxI a b = b by unfold mxI; rw [if_neg h])
    go_enter Tryz.func128, Tryz.ntmps128
    go_wp2_with fail
    go_ret
    exact ⟨by rw [HE.out]; rfl, rfl⟩
set_option maxHeartbeats 4000000 in
set_option maxRecDepth 100000 in
theorem l8Depth_any (a : Option Addr) (cap : Nat) (l : List Tk) (n : Nat) (hn : l.length = n) (hl : n ≤ 4194304) (hm : ∀ s ∈ l, s.length ≤ 4194304) : ∀ (u : Su), u.ok → ∀ (i : Int) (r : List Tk) (w : World), 0 ≤ i → l.drop i.toNat = u.fl ++ r → V1 w a cap (txL l) →
    Calls Tryz.prog 116 #[.slice a n cap, .int .i64 i] w fun e w' => e = .returned (.tuple #[.int .i64 (u.fo dpF dpG), .int .i64 (i + (u.fl.length : Int))]) ∧ Below w.heap.size w w' := by
  intro u
  induction u with
  | one s =>
    intro hu i r w hi hd hv
    have h0 := isL_0 hu
    obtain ⟨hs, hlt, -⟩ := drop_head hd
    obtain ⟨k, rfl⟩ : ∃ k : Nat, i = k := ⟨i.toNat, by omega⟩
    simp only [Int.toNat_natCast] at hs hlt
    obtain ⟨g, o, rfl, hg, c0⟩ := hv.tx hs
    have HO := Lib.hid (fun w => l8Op_any w s)
    have hsl : s.length ≤ 4194304 := hm s (List.mem_of_getElem? hs)
    have hlk : k < n := by omega
    clear hv hs hg hd
    rw [h0] at HO
    generalize tx s = x at *
    go_enter Tryz.func116, Tryz.ntmps116
    go_wp2_with fail
    refine (HO.out _).mono ?_; rintro e w1 ⟨rfl, b1⟩
    have B1 := Lib.hid b1; clear b1
    go_wp2_with fail
    go_ret2
    exact ⟨rfl, B1.out⟩
  | two s x y ihx ihy =>
    intro hu i r w hi hd hv
    rw [Su.fl, List.cons_append, List.append_assoc] at hd
    obtain ⟨hs, hlt, hd2⟩ := drop_head hd
    have hd1 := hd2
    have hd3 := drop_more hd2
    have e1 : i.toNat + 1 = (i + 1).toNat := by omega
    have e3 : i.toNat + 1 + x.fl.length = (i + 1 + x.fl.length).toNat := by omega
    rw [e1] at hd1
    rw [e3] at hd3
    have hlx := su_len (u := x) (by omega) hd1
    have hly := su_len (u := y) (by omega) hd3
    have HX := Lib.hid (fun w h => ihx hu.2.1 (i + 1) (y.fl ++ r) w (by omega) hd1 h)
    have HY := Lib.hid (fun w h => ihy hu.2.2 (i + 1 + x.fl.length) r w (by omega) hd3 h)
    have hon := isO_ne hu.1
    have ho7 := opN_le s
    have hln : ((Su.two s x y).fl.length : Int) = 1 + x.fl.length + y.fl.length := by simp [Su.fl]; omega
    have HLN := Lib.hid hln; clear hln ihx ihy hd hd1 hd2 hd3 e1 e3 hu
    obtain ⟨k, rfl⟩ : ∃ k : Nat, i = k := ⟨i.toNat, by omega⟩
    simp only [Int.toNat_natCast] at hs hlt
    obtain ⟨g, q, rfl, hg, c0⟩ := hv.tx hs
    have HV := Lib.hid hv
    have HO := Lib.hid (fun w => l8Op_any w s)
    have hlk : k < n := by omega
    clear hs hg hv
    have HE := Lib.hid (show Su.fo dpF dpG (.two s x y) = wrap64 (1 + mxI (x.fo dpF dpG) (y.fo dpF dpG)) from rfl)
    have hp : ((opN s : Int) == 0) = false := by rw [beq_eq_false_iff_ne]; omega
    have HMX := Lib.hid (fun w => l1Max_any (x.fo dpF dpG) (y.fo dpF dpG) w)
    generalize hlx' : x.fl.length = lx at *
    generalize hly' : y.fl.length = ly at *
    generalize Su.fo dpF dpG (.two s x y) = kr at *
    generalize x.fo dpF dpG = kx at *
    generalize y.fo dpF dpG = ky at *
    generalize mxI kx ky = mm at *
    generalize opN s = o at *
    generalize (Su.two s x y).fl.length = ll at *
    generalize tx s = xs at *
    clear hlx' hly' hon
    go_enter Tryz.func116, Tryz.ntmps116
    go_wp2_with fail
    refine (HO.out _).mono ?_; rintro e w1 ⟨rfl, b1⟩
    have V1' := Lib.hid (HV.out.below b1)
    have B1 := Lib.hid b1; clear b1
    go_wp2_with fail
    refine (HX.out w1 V1'.out).mono ?_; rintro e w2 ⟨rfl, b2⟩
    have V2' := Lib.hid (V1'.out.below b2)
    have B2 := Lib.hid (bel_tr B1.out b2 (Nat.le_refl _)); clear b2
    go_wp2_with fail
    refine (HY.out w2 V2'.out).mono ?_; rintro e w3 ⟨rfl, b3⟩
    have B3 := Lib.hid (bel_tr B2.out b3 (Nat.le_refl _)); clear b3
    go_wp2_with fail
    refine (HMX.out _).mono ?_; rintro e w4 ⟨rfl, rfl⟩
    go_wp2_with fail
    go_ret2
    refine ⟨?_, B3.out⟩
    rw [HE.out, HLN.out]
    exact congrArg (fun z => Ending.returned (Value.tuple #[.int .i64 (wrap64 (1 + mm)), .int .i64 z])) (by omega)
set_option maxHeartbeats 4000000 in
set_option maxRecDepth 100000 in
theorem specKind_any (w : World) (a : Option Addr) (cap : Nat) (l : List Tk) (n : Nat) (i : Int) (hi : I64 i) (hn : l.length = n) (hv : V1 w a cap (txL l)) (hl : n ≤ 4194304) (hm : ∀ s ∈ l, s.length ≤ 4194304) :
    Calls Tryz.prog 100 #[.slice a n cap, .int .i64 i] w fun e w' => e = .returned (.int .i64 (kdV l i)) ∧ Below w.heap.size w w' := by
  have HEN := Lib.hid (l8End_any w a cap l n i hi hn hv hl hm)
  cases he : enA l i with
  | none =>
    have HE := Lib.hid (show kdV l i = 0 from foV_none _ _ _ he)
    rw [edV_none he] at HEN
    go_enter Tryz.func100, Tryz.ntmps100
    go_wp2_with fail
    refine HEN.out.mono ?_; rintro e w1 ⟨rfl, b1⟩
    have B1 := Lib.hid b1; clear b1
    go_wp2_with fail
    go_ret
    exact ⟨by rw [HE.out]; rfl, B1.out⟩
  | some m =>
    obtain ⟨u, hu, h0, hm2, hd, hf⟩ := foV_tree kdF kdG 0 he
    have HE := Lib.hid (show kdV l i = u.fo kdF kdG from hf)
    rw [edV_some he] at HEN
    have HV := Lib.hid hv
    have HK := Lib.hid (fun w h => l8Kind_any a cap l n hn hl hm u hu i _ w h0 hd h)
    have p0 : ¬ i + (m : Int) < 0 := by omega
    clear hd hu hf he hv
    generalize (u.fl.length : Int) = ul at *
    generalize u.fo kdF kdG = kr at *
    generalize i + (m : Int) = z at *
    go_enter Tryz.func100, Tryz.ntmps100
    go_wp2_with fail
    refine HEN.out.mono ?_; rintro e w1 ⟨rfl, b1⟩
    have V1' := Lib.hid (HV.out.below b1)
    have B1 := Lib.hid b1; clear b1
    go_wp2_with fail
    refine (HK.out _ V1'.out).mono ?_; rintro e w2 ⟨rfl, b2⟩
    have B2 := Lib.hid (bel_tr B1.out b2 (Nat.le_refl _)); clear b2
    go_wp2_with fail
    go_ret
    exact ⟨by rw [HE.out]; rfl, B2.out⟩
set_option maxHeartbeats 4000000 in
set_option maxRecDepth 100000 in
theorem specDepth_any (w : World) (a : Option Addr) (cap : Nat) (l : List Tk) (n : Nat) (i : Int) (hi : I64 i) (hn : l.length = n) (hv : V1 w a cap (txL l)) (hl : n ≤ 4194304) (hm : ∀ s ∈ l, s.length ≤ 4194304) :
    Calls Tryz.prog 101 #[.slice a n cap, .int .i64 i] w fun e w' => e = .returned (.int .i64 (dpV l i)) ∧ Below w.heap.size w w' := by
  have HEN := Lib.hid (l8End_any w a cap l n i hi hn hv hl hm)
  cases he : enA l i with
  | none =>
    have HE := Lib.hid (show dpV l i = 0 from foV_none _ _ _ he)
    rw [edV_none he] at HEN
    go_enter Tryz.func101, Tryz.ntmps101
    go_wp2_with fail
    refine HEN.out.mono ?_; rintro e w1 ⟨rfl, b1⟩
    have B1 := Lib.hid b1; clear b1
    go_wp2_with fail
    go_ret
    exact ⟨by rw [HE.out]; rfl, B1.out⟩
  | some m =>
    obtain ⟨u, hu, h0, hm2, hd, hf⟩ := foV_tree dpF dpG 0 he
    have HE := Lib.hid (show dpV l i = u.fo dpF dpG from hf)
    rw [edV_some he] at HEN
    have HV := Lib.hid hv
    have HK := Lib.hid (fun w h => l8Depth_any a cap l n hn hl hm u hu i _ w h0 hd h)
    have p0 : ¬ i + (m : Int) < 0 := by omega
    clear hd hu hf he hv
    generalize (u.fl.length : Int) = ul at *
    generalize u.fo dpF dpG = kr at *
    generalize i + (m : Int) = z at *
    go_enter Tryz.func101, Tryz.ntmps101
    go_wp2_with fail
    refine HEN.out.mono ?_; rintro e w1 ⟨rfl, b1⟩
    have V1' := Lib.hid (HV.out.below b1)
    have B1 := Lib.hid b1; clear b1
    go_wp2_with fail
    refine (HK.out _ V1'.out).mono ?_; rintro e w2 ⟨rfl, b2⟩
    have B2 := Lib.hid (bel_tr B1.out b2 (Nat.le_refl _)); clear b2
    go_wp2_with fail
    go_ret
    exact ⟨by rw [HE.out]; rfl, B2.out⟩
theorem thB_bad {gs : List Int} {k : Nat} {v : Int} (hk : gs[k]? = some v) (h : isW v = false) : thB gs = false := by
  unfold thB
  cases ha : gs.all isW with
  | false => rfl
  | true => rw [List.all_eq_true] at ha; rw [ha v (List.mem_of_getElem? hk)] at h; cases h
theorem thB_in {gs : List Int} (h : ∀ (k : Nat) (v : Int), gs[k]? = some v → isW v = true) : thB gs = decide (gs.length = 3) := by
  unfold thB
  rw [List.all_eq_true.2 fun v hv => by obtain ⟨k, hk⟩ := List.mem_iff_getElem?.1 hv; exact h k v hk]; rfl
theorem thB_len {gs : List Int} (h : thB gs = true) : gs.length = 3 := by
  unfold thB at h
  rw [Bool.and_eq_true, decide_eq_true_eq] at h
  exact h.2
theorem len3 {gs : List Int} {n : Nat} (hn : gs.length = n) : decide (gs.length = 3) = ((n : Int) == 3) := by
  subst hn
  rw [Bool.eq_iff_iff, decide_eq_true_eq, beq_iff_eq]; omega
set_option maxHeartbeats 4000000 in
set_option maxRecDepth 100000 in
theorem l8Three_any (w : World) (a : Option Addr) (cap : Nat) (gs : List Int) (n : Nat) (hn : gs.length = n) (hv : V1 w a cap (inL gs)) (hl : n ≤ 4194304) :
    Calls Tryz.prog 51 #[.slice a n cap] w fun e w' => e = .returned (.bool (thB gs)) ∧ w = w' := by
  have HV := Lib.hid hv; clear hv
  have HN := Lib.hid hn
  have HL3 := Lib.hid (len3 hn); clear hn
  go_enter Tryz.func51, Tryz.ntmps51
  go_wp2_with fail
  go_loop [3] (fun i => ∃ k : Nat, k ≤ n ∧ i = .int .i64 k ∧ ∀ (j : Nat) (v : Int), j < k → gs[j]? = some v → isW v = true) (fun i => n - (intOf i).toNat)
  case atStart => exact ⟨0, Nat.zero_le _, rfl, fun j y hj => by omega⟩
  case round =>
    obtain ⟨k, hk, rfl, hno⟩ := hrel
    have HO := Lib.hid hno; clear hno
    by_cases hlt : k < n
    · obtain ⟨c, hc⟩ : ∃ c, gs[k]? = some c := ⟨gs[k]'(by have := HN.out; omega), List.getElem?_eq_getElem _⟩
      obtain ⟨g, o, rfl, hg, c0⟩ := HV.out.iv hc
      have HC := Lib.hid hc
      have HW := Lib.hid (fun w => l1Word_any c w)
      clear hg hc
      cases hb : isW c
      · have HE := Lib.hid (thB_bad HC.out hb)
        rw [hb] at HW
        clear hb
        go_wp2_with fail
        refine (HW.out _).mono ?_; rintro e w1 ⟨rfl, rfl⟩
        go_wp2_with fail
        go_ret
        exact ⟨by rw [HE.out]; rfl, rfl⟩
      · rw [hb] at HW
        have HO2 := Lib.hid (show ∀ (j : Nat) (v : Int), j < k + 1 → gs[j]? = some v → isW v = true from fun j v hj hv => by
          by_cases e : j = k
          · subst e; rw [HC.out] at hv; cases hv; exact hb
          · exact HO.out j v (by omega) hv)
        clear hb
        go_wp2_with fail
        refine (HW.out _).mono ?_; rintro e w1 ⟨rfl, rfl⟩
        go_wp2_with fail
        go_round
        case rel => exact ⟨k + 1, by omega, by go_num, HO2.out⟩
        case measure => simp [intOf]; omega
    · obtain rfl : k = n := by omega
      have HE := Lib.hid (thB_in fun j v hv => HO.out j v (by have := (List.getElem?_eq_some_iff.1 hv).1; have := HN.out; omega) hv)
      go_wp2_with fail
      go_ret
      exact ⟨by rw [HE.out, HL3.out]; rfl, rfl⟩
set_option maxHeartbeats 4000000 in
set_option maxRecDepth 100000 in
theorem givenOk_any (w : World) (a : Option Addr) (cap : Nat) (gs : List Int) (n : Nat) (hn : gs.length = n) (hv : V1 w a cap (inL gs)) (hl : n ≤ 4194304) :
    Calls Tryz.prog 77 #[.slice a n cap] w fun e w' => e = .returned (.bool (thB gs)) ∧ w = w' := by
  have HV := Lib.hid hv; clear hv
  have HN := Lib.hid hn
  have HL3 := Lib.hid (len3 hn); clear hn
  go_enter Tryz.func77, Tryz.ntmps77
  go_wp2_with fail
  go_loop [4, 7] (fun _ i => ∃ k : Nat, k ≤ n ∧ i = .int .i64 k ∧ ∀ (j : Nat) (v : Int), j < k → gs[j]? = some v → isW v = true) (fun _ i => n - (intOf i).toNat)
  case atStart => exact ⟨0, Nat.zero_le _, rfl, fun j y hj => by omega⟩
  case round =>
    obtain ⟨k, hk, rfl, hno⟩ := hrel
    have HO := Lib.hid hno; clear hno
    by_cases hlt : k < n
    · obtain ⟨c, hc⟩ : ∃ c, gs[k]? = some c := ⟨gs[k]'(by have := HN.out; omega), List.getElem?_eq_getElem _⟩
      obtain ⟨g, o, rfl, hg, c0⟩ := HV.out.iv hc
      have HC := Lib.hid hc
      have HW := Lib.hid (fun w => implWordOk_any c w)
      clear hg hc
      cases hb : isW c
      · have HE := Lib.hid (thB_bad HC.out hb)
        rw [hb] at HW
        clear hb
        go_wp2_with fail
        refine (HW.out _).mono ?_; rintro e w1 ⟨rfl, rfl⟩
        go_wp2_with fail
        go_ret
        exact ⟨by rw [HE.out]; rfl, rfl⟩
      · rw [hb] at HW
        have HO2 := Lib.hid (show ∀ (j : Nat) (v : Int), j < k + 1 → gs[j]? = some v → isW v = true from fun j v hj hv => by
          by_cases e : j = k
          · subst e; rw [HC.out] at hv; cases hv; exact hb
          · exact HO.out j v (by omega) hv)
        clear hb
        go_wp2_with fail
        refine (HW.out _).mono ?_; rintro e w1 ⟨rfl, rfl⟩
        go_wp2_with fail
        go_round
        case rel => exact ⟨k + 1, by omega, by go_num, HO2.out⟩
        case measure => simp [intOf]; omega
    · obtain rfl : k = n := by omega
      have HE := Lib.hid (thB_in fun j v hv => HO.out j v (by have := (List.getElem?_eq_some_iff.1 hv).1; have := HN.out; omega) hv)
      go_wp2_with fail
      go_ret
      exact ⟨by rw [HE.out, HL3.out]; rfl, rfl⟩
end Go.Proofs.YtfnnoehpahdgcaaGreatDoor.Cl
namespace Go.Proofs.YtfnnoehpahdgcaaGreatDoor.Cl
set_option linter.unusedVariables false
open Go.RowKit Wd Rp Kp
def tkA (l : List Tk) (i : Int) : Option Tk := if i < 0 then none else l[i.toNat]?
theorem tkA_nat (l : List Tk) (k : Nat) : tkA l (k : Int) = l[k]? := by unfold tkA; rw [if_neg (by omega)]; rfl
theorem tkA_neg {l : List Tk} {i : Int} (h : i < 0) : tkA l i = none := by unfold tkA; rw [if_pos h]
theorem tkA_out {l : List Tk} {i : Int} (h : (l.length : Int) ≤ i) : tkA l i = none := by
  unfold tkA
  rw [if_neg (by omega)]
  exact List.getElem?_eq_none (by omega)
theorem tkA_some {l : List Tk} {i : Int} {s : Tk} (h : tkA l i = some s) : 0 ≤ i ∧ i < l.length ∧ l[i.toNat]? = some s := by
  unfold tkA at h
  split at h
  · cases h
  · have := (List.getElem?_eq_some_iff.1 h).1
    exact ⟨by omega, by omega, h⟩
def nmA (l : List Tk) (i : Int) : Bool := match tkA l i with | some s => nmB s | none => false
def smV (l : List Tk) (kind i : Int) : Int := if edV l i < 0 ∨ kdV l i ≠ kind ∨ 5 < dpV l i then -1 else edV l i
def setT : Tk := [115, 101, 116]
def cutT : Tk := [99, 117, 116]
def stopT : Tk := [115, 116, 111, 112]
def ifT : Tk := [105, 102]
def whT : Tk := [119, 104, 105, 108, 101]
def ddG (l : List Tk) (B : Int → Int) (i : Int) : Int := match tkA l i with
  | none => -1
  | some s => if s = setT then (if nmA l (i + 1) then smV l 1 (i + 2) else -1) else if s = cutT then (if nmA l (i + 1) then i + 2 else -1) else if s = stopT then i + 1
    else if s = ifT then B (B (smV l 2 (i + 1))) else if s = whT then B (smV l 2 (i + 1)) else -1
def blE (l : List Tk) (f : Int → Int) : Nat → Int → Int
  | 0, _ => -1
  | n + 1, i => match tkA l i with | none => -1 | some s => if s = [93] then i + 1 else blE l f n (f i)
def blS (l : List Tk) (f : Int → Int) (i : Int) : Int := if tkA l i = some [91] then blE l f (l.length + 1) (i + 1) else -1
def ddE (l : List Tk) : Nat → Int → Int
  | 0 => ddG l (fun _ => -1)
  | d + 1 => ddG l (blS l (ddE l d))
def Ahd (l : List Tk) (i r : Int) : Prop := r = -1 ∨ (0 ≤ i ∧ i < r ∧ r ≤ l.length)
theorem Ahd.trans {l : List Tk} {i j r : Int} (h : Ahd l i j) (k : Ahd l j r) : Ahd l i r := by unfold Ahd at *; omega
theorem ed_ahd (l : List Tk) (i : Int) : Ahd l i (edV l i) := by
  unfold edV
  cases h : enA l i with
  | none => exact Or.inl rfl
  | some n =>
    right
    unfold enA at h
    split at h
    · cases h
    · have h1 := en_le h
      have h2 := en_pos h
      rw [List.length_drop] at h1
      show 0 ≤ i ∧ i < i + (n : Int) ∧ i + (n : Int) ≤ l.length
      omega
theorem sm_ahd (l : List Tk) (kind i : Int) : Ahd l i (smV l kind i) := by
  unfold smV
  split
  · exact Or.inl rfl
  · exact ed_ahd l i
theorem dd_ahd {l : List Tk} {B : Int → Int} (hB : ∀ i, Ahd l i (B i)) (i : Int) : Ahd l i (ddG l B i) := by
  unfold ddG
  cases h : tkA l i with
  | none => exact Or.inl rfl
  | some s =>
    obtain ⟨h0, h1, -⟩ := tkA_some h
    dsimp only
    split
    · split
      · have := sm_ahd l 1 (i + 2)
        unfold Ahd at *; omega
      · exact Or.inl rfl
    · split
      · split
        · rename_i hn
          unfold nmA at hn
          cases h2 : tkA l (i + 1) with
          | none => rw [h2] at hn; cases hn
          | some t => have := tkA_some h2; right; omega
        · exact Or.inl rfl
      · split
        · right; omega
        · split
          · have h2 := sm_ahd l 2 (i + 1)
            have h3 := (h2.trans (hB _)).trans (hB _)
            unfold Ahd at *; omega
          · split
            · have h2 := sm_ahd l 2 (i + 1)
              have h3 := h2.trans (hB _)
              unfold Ahd at *; omega
            · exact Or.inl rfl
theorem ble_ahd {l : List Tk} {f : Int → Int} (hf : ∀ i, Ahd l i (f i)) : ∀ (n : Nat) (i : Int), Ahd l i (blE l f n i)
  | 0, i => Or.inl rfl
  | n + 1, i => by
    unfold blE
    cases h : tkA l i with
    | none => exact Or.inl rfl
    | some s =>
      obtain ⟨h0, h1, -⟩ := tkA_some h
      dsimp only
      split
      · right; omega
      · exact (hf i).trans (ble_ahd hf n _)
theorem bls_ahd {l : List Tk} {f : Int → Int} (hf : ∀ i, Ahd l i (f i)) (i : Int) : Ahd l i (blS l f i) := by
  unfold blS
  split
  · rename_i h
    have := tkA_some h
    have := ble_ahd hf (l.length + 1) (i + 1)
    unfold Ahd at *; omega
  · exact Or.inl rfl
theorem ddE_ahd (l : List Tk) : ∀ (d : Nat) (i : Int), Ahd l i (ddE l d i)
  | 0, i => dd_ahd (fun _ => Or.inl rfl) i
  | d + 1, i => dd_ahd (bls_ahd (ddE_ahd l d)) i
def dsE (l : List Tk) : Nat → Int → Int
  | 0, i => i
  | n + 1, i => if 0 ≤ i ∧ i < l.length then dsE l n (ddE l 5 i) else i
def rcB (l : List Tk) : Bool := if l.length ≤ 120 then decide (dsE l l.length 0 = l.length) else false
end Go.Proofs.YtfnnoehpahdgcaaGreatDoor.Cl
namespace Go.Proofs.YtfnnoehpahdgcaaGreatDoor.Cl
set_option linter.unusedVariables false
open Go.RowKit Wd Rp Kp
theorem sm_neg {l : List Tk} {kind i : Int} (h : edV l i < 0) : smV l kind i = -1 := by unfold smV; rw [if_pos (Or.inl h)]
theorem sm_kind {l : List Tk} {kind i : Int} (h : kdV l i ≠ kind) : smV l kind i = -1 := by unfold smV; rw [if_pos (Or.inr (Or.inl h))]
theorem sm_deep {l : List Tk} {kind i : Int} (h : 5 < dpV l i) : smV l kind i = -1 := by unfold smV; rw [if_pos (Or.inr (Or.inr h))]
theorem sm_yes {l : List Tk} {kind i : Int} (h1 : ¬ edV l i < 0) (h2 : kdV l i = kind) (h3 : ¬ 5 < dpV l i) : smV l kind i = edV l i := by
  unfold smV; rw [if_neg (by rintro (h | h | h) <;> contradiction)]
def GivesI (x : Int) (w : World) (e : Ending) (w' : World) : Prop := e = .returned (.int .i64 x) ∧ Below w.heap.size w w'
def GivesB (x : Bool) (w : World) (e : Ending) (w' : World) : Prop := e = .returned (.bool x) ∧ Below w.heap.size w w'
set_option maxHeartbeats 4000000 in
set_option maxRecDepth 100000 in
theorem l9Sum_any (w : World) (a : Option Addr) (cap : Nat) (l : List Tk) (n : Nat) (kind i : Int) (hi : I64 i) (hn : l.length = n) (hv : V1 w a cap (txL l)) (hl : n ≤ 4194304) (hm : ∀ s ∈ l, s.length ≤ 4194304) :
    Calls Tryz.prog 85 #[.slice a n cap, .int .i64 i, .int .i64 kind] w (GivesI (smV l kind i) w) := by
  have HE := Lib.hid (l8End_any w a cap l n i hi hn hv hl hm)
  have HK := Lib.hid (fun w h => specKind_any w a cap l n i hi hn h hl hm)
  have HD := Lib.hid (fun w h => specDepth_any w a cap l n i hi hn h hl hm)
  have HV := Lib.hid hv; clear hv hm
  have S1 := Lib.hid (fun h => sm_neg (l := l) (kind := kind) (i := i) h)
  have S2 := Lib.hid (fun h => sm_kind (l := l) (kind := kind) (i := i) h)
  have S3 := Lib.hid (fun h => sm_deep (l := l) (kind := kind) (i := i) h)
  have S4 := Lib.hid (fun h1 h2 h3 => sm_yes (l := l) (kind := kind) (i := i) h1 h2 h3)
  generalize smV l kind i = r at *
  generalize edV l i = x at *
  generalize kdV l i = y at *
  generalize dpV l i = z at *
  go_enter Tryz.func85, Tryz.ntmps85
  go_wp2_with fail
  refine HE.out.mono ?_; rintro e w1 ⟨rfl, b1⟩
  have V1' := Lib.hid (HV.out.below b1)
  have B1 := Lib.hid b1; clear b1
  by_cases hx : x < 0
  · have p0 : decide (x < 0) = true := by simpa using hx
    go_wp2_with fail
    go_ret
    exact ⟨by rw [S1.out hx]; rfl, B1.out⟩
  have p0 : decide (x < 0) = false := by simpa using hx
  have HK1 := Lib.hid (HK.out w1 V1'.out)
  go_wp2_with fail
  refine HK1.out.mono ?_; rintro e w2 ⟨rfl, b2⟩
  have V2' := Lib.hid (V1'.out.below b2)
  have B2 := Lib.hid (bel_tr B1.out b2 (Nat.le_refl _)); clear b2
  by_cases hy : y = kind
  · subst hy
    have HD1 := Lib.hid (HD.out w2 V2'.out)
    go_wp2_with fail
    refine HD1.out.mono ?_; rintro e w3 ⟨rfl, b3⟩
    have B3 := Lib.hid (bel_tr B2.out b3 (Nat.le_refl _)); clear b3
    by_cases hz : 5 < z
    · have q0 : decide (5 < z) = true := by simpa using hz
      go_wp2_with fail
      go_ret
      exact ⟨by rw [S3.out hz]; rfl, B3.out⟩
    · have q0 : decide (5 < z) = false := by simpa using hz
      go_wp2_with fail
      go_ret
      exact ⟨by rw [S4.out hx trivial hz]; rfl, B3.out⟩
  · have p1 : (y == kind) = false := beq_eq_false_iff_ne.2 hy
    go_wp2_with fail
    go_ret
    exact ⟨by rw [S2.out hy]; rfl, B2.out⟩
set_option maxHeartbeats 4000000 in
set_option maxRecDepth 100000 in
theorem l9Name_any (w : World) (a : Option Addr) (cap : Nat) (l : List Tk) (n : Nat) (i : Int) (hn : l.length = n) (hv : V1 w a cap (txL l)) (hl : n ≤ 4194304) (hm : ∀ s ∈ l, s.length ≤ 4194304) :
    Calls Tryz.prog 84 #[.slice a n cap, .int .i64 i] w fun e w' => e = .returned (.bool (nmA l i)) ∧ w = w' := by
  cases h : tkA l i with
  | none =>
    have HR := Lib.hid (show nmA l i = false by unfold nmA; rw [h])
    have hc : i < 0 ∨ (n : Int) ≤ i := by
      by_cases g : i < 0
      · exact Or.inl g
      · right
        unfold tkA at h
        rw [if_neg g] at h
        have := List.getElem?_eq_none_iff.1 h
        omega
    clear h hv hm
    generalize nmA l i = r at *
    rcases hc with h1 | h1
    · have p0 : decide (0 ≤ i) = false := by simpa using h1
      go_enter Tryz.func84, Tryz.ntmps84
      go_wp2_with fail
      go_ret
      exact ⟨by rw [HR.out]; rfl, rfl⟩
    · have p0 : decide (0 ≤ i) = true := by simp; omega
      have p1 : decide (i < (n : Int)) = false := by simpa using h1
      go_enter Tryz.func84, Tryz.ntmps84
      go_wp2_with fail
      go_ret
      exact ⟨by rw [HR.out]; rfl, rfl⟩
  | some s =>
    obtain ⟨h0, h1, hs⟩ := tkA_some h
    have HR := Lib.hid (show nmA l i = nmB s by unfold nmA; rw [h])
    obtain ⟨k, rfl⟩ : ∃ k : Nat, i = k := ⟨i.toNat, by omega⟩
    rw [Int.toNat_natCast] at hs
    obtain ⟨g, o, rfl, hg, c0⟩ := hv.tx hs
    have HN := Lib.hid (nmS_any s w (by have := hm s (List.mem_of_getElem? hs); omega))
    have hk : k < n := by omega
    clear h hv hm hs hg
    generalize nmA l (k : Int) = r at *
    generalize nmB s = q at *
    have p0 : decide (0 ≤ (k : Int)) = true := by simp
    have p1 : decide ((k : Int) < (n : Int)) = true := by simpa using hk
    go_enter Tryz.func84, Tryz.ntmps84
    go_wp2_with fail
    refine HN.out.mono ?_; rintro e w1 ⟨rfl, rfl⟩
    go_wp2_with fail
    go_ret
    exact ⟨by rw [HR.out]; rfl, rfl⟩
end Go.Proofs.YtfnnoehpahdgcaaGreatDoor.Cl
namespace Go.Proofs.YtfnnoehpahdgcaaGreatDoor.Cl
set_option linter.unusedVariables false
open Go.RowKit Wd Rp Kp
theorem tkA_none {l : List Tk} {i : Int} (h : tkA l i = none) : i < 0 ∨ (l.length : Int) ≤ i := by
  by_cases g : i < 0
  · exact Or.inl g
  · right
    unfold tkA at h
    rw [if_neg g] at h
    have := List.getElem?_eq_none_iff.1 h
    omega
def DeedS (a : Option Addr) (n cap : Nat) (l : List Tk) (d : Int) (f : Int → Int) : Prop := ∀ (w : World) (i : Int), I64 i → V1 w a cap (txL l) → Calls Tryz.prog 55 #[.slice a n cap, .int .i64 i, .int .i64 d] w (GivesI (f i) w)
def BlokS (a : Option Addr) (n cap : Nat) (l : List Tk) (d : Int) (f : Int → Int) : Prop := ∀ (w : World) (i : Int), I64 i → V1 w a cap (txL l) → Calls Tryz.prog 86 #[.slice a n cap, .int .i64 i, .int .i64 d] w (GivesI (f i) w)
theorem bls_no {l : List Tk} {f : Int → Int} {i : Int} (h : tkA l i ≠ some [91]) : blS l f i = -1 := by unfold blS; rw [if_neg h]
theorem bls_in {l : List Tk} {f : Int → Int} {i : Int} (h : tkA l i = some [91]) : blS l f i = blE l f (l.length + 1) (i + 1) := by unfold blS; rw [if_pos h]
theorem ble_none {l : List Tk} {f : Int → Int} {i : Int} {k : Nat} (h : tkA l i = none) : blE l f k i = -1 := by
  cases k with
  | zero => rfl
  | succ k => unfold blE; rw [h]
theorem ble_end {l : List Tk} {f : Int → Int} {i : Int} {k : Nat} (h : tkA l i = some [93]) : blE l f (k + 1) i = i + 1 := by unfold blE; rw [h]; rfl
theorem ble_more {l : List Tk} {f : Int → Int} {i : Int} {k : Nat} {s : Tk} (h : tkA l i = some s) (hs : s ≠ [93]) : blE l f (k + 1) i = blE l f k (f i) := by rw [blE, h]; exact if_neg hs
set_option maxHeartbeats 4000000 in
set_option maxRecDepth 100000 in
theorem blok0 (a : Option Addr) (cap : Nat) (l : List Tk) (n : Nat) (hn : l.length = n) (hl : n ≤ 4194304) : BlokS a n cap l 0 (fun _ => -1) := by
  intro w i hi hv
  have HR0 := Lib.hid (show (fun _ => -1 : Int → Int) i = -1 from rfl)
  generalize (fun _ => -1 : Int → Int) i = r at *
  cases h : tkA l i with
  | none =>
    have HR := Lib.hid (show r = -1 from HR0.out)
    have hc := tkA_none h
    rw [hn] at hc
    clear h hv
    rcases hc with h1 | h1
    · have p0 : decide (i < 0) = true := by simpa using h1
      go_enter Tryz.func86, Tryz.ntmps86
      go_wp2_with fail
      go_ret
      exact ⟨by rw [HR.out]; rfl, Below.refl _ _⟩
    · have p0 : decide (i < 0) = false := by simp; omega
      have p1 : decide ((n : Int) ≤ i) = true := by simpa using h1
      go_enter Tryz.func86, Tryz.ntmps86
      go_wp2_with fail
      go_ret
      exact ⟨by rw [HR.out]; rfl, Below.refl _ _⟩
  | some s =>
    obtain ⟨h0, h1, hs⟩ := tkA_some h
    obtain ⟨k, rfl⟩ : ∃ k : Nat, i = k := ⟨i.toNat, by omega⟩
    rw [Int.toNat_natCast] at hs
    have HV := Lib.hid hv
    obtain ⟨g, o, rfl, hg, c0⟩ := hv.tx hs
    have hk : k < n := by omega
    have p0 : decide ((k : Int) < 0) = false := by simp
    have p1 : decide ((n : Int) ≤ (k : Int)) = false := by simpa using hk
    have p1n : ¬ (n : Int) ≤ (k : Int) := by omega
    have p1m : decide (n ≤ k) = false := by simpa using hk
    by_cases hb : s = [91]
    · subst hb
      replace c0 : w.cell? ⟨g, o + k, none⟩ = some (.string ⟨#[91]⟩) := c0
      clear h hs hg hv HV
      go_enter Tryz.func86, Tryz.ntmps86
      go_wp2_with fail
      go_ret
      exact ⟨by rw [HR0.out]; rfl, Below.refl _ _⟩
    · have HR := Lib.hid (show r = -1 from HR0.out)
      have q1 := tx_neL hb
      clear h hs hg hv HV
      go_enter Tryz.func86, Tryz.ntmps86
      go_wp2_with fail
      go_ret
      exact ⟨by rw [HR.out]; rfl, Below.refl _ _⟩
set_option maxHeartbeats 8000000 in
set_option maxRecDepth 100000 in
theorem blok1 (a : Option Addr) (cap : Nat) (l : List Tk) (n : Nat) (hn : l.length = n) (hl : n ≤ 4194304) (d : Int) (hd : 0 < d) (hd2 : d ≤ 1000) (f : Int → Int) (hf : ∀ i, Ahd l i (f i)) (ih : DeedS a n cap l (d - 1) f) : BlokS a n cap l d (blS l f) := by
  intro w i hi hv
  have IH := Lib.hid ih; clear ih
  have HF := Lib.hid hf; clear hf
  have N0 := Lib.hid (fun h => bls_no (l := l) (f := f) (i := i) h)
  have N1 := Lib.hid (fun h => bls_in (l := l) (f := f) (i := i) h)
  generalize blS l f i = r at *
  cases h : tkA l i with
  | none =>
    have HR := Lib.hid (show r = -1 from N0.out (by rw [h]; intro e; cases e))
    have hc := tkA_none h
    rw [hn] at hc
    clear h hv
    rcases hc with h1 | h1
    · have p0 : decide (i < 0) = true := by simpa using h1
      go_enter Tryz.func86, Tryz.ntmps86
      go_wp2_with fail
      go_ret
      exact ⟨by rw [HR.out]; rfl, Below.refl _ _⟩
    · have p0 : decide (i < 0) = false := by simp; omega
      have p1 : decide ((n : Int) ≤ i) = true := by simpa using h1
      go_enter Tryz.func86, Tryz.ntmps86
      go_wp2_with fail
      go_ret
      exact ⟨by rw [HR.out]; rfl, Below.refl _ _⟩
  | some s =>
    obtain ⟨h0, h1, hs⟩ := tkA_some h
    obtain ⟨k, rfl⟩ : ∃ k : Nat, i = k := ⟨i.toNat, by omega⟩
    rw [Int.toNat_natCast] at hs
    have HV := Lib.hid hv
    obtain ⟨g, o, rfl, hg, c0⟩ := hv.tx hs
    have hk : k < n := by omega
    have p0 : decide ((k : Int) < 0) = false := by simp
    have p1 : decide ((n : Int) ≤ (k : Int)) = false := by simpa using hk
    have p1n : ¬ (n : Int) ≤ (k : Int) := by omega
    have p1m : decide (n ≤ k) = false := by simpa using hk
    by_cases hb : s = [91]
    · subst hb
      replace c0 : w.cell? ⟨g, o + k, none⟩ = some (.string ⟨#[91]⟩) := c0
      have HR := Lib.hid (N1.out h)
      have pd : (d == 0) = false := beq_eq_false_iff_ne.2 (by omega)
      have pw : IntKind.i64.wrap (d - 1) = d - 1 := by rw [IntKind.wrap_i64]; omega
      clear h hs hg hv N0 N1
      go_enter Tryz.func86, Tryz.ntmps86
      go_wp2_with fail
      go_loopg [1] (l.length + 1) (fun j q wr => ∃ z : Int, q = .int .i64 z ∧ r = blE l f j z ∧ (z = -1 ∨ (0 ≤ z ∧ z ≤ n ∧ n - z < j)) ∧ Below w.heap.size w wr)
      case atStart => exact ⟨(k : Int) + 1, by go_num, HR.out, Or.inr (by omega), Below.refl _ _⟩
      case round =>
        clear HR
        obtain ⟨z, rfl, hr, hz, hbel⟩ := hrel
        have HR := Lib.hid hr
        have HB := Lib.hid hbel
        have HV1 := Lib.hid (HV.out.below hbel)
        clear hr hbel c0
        cases h : tkA l z with
        | none =>
          have HE := Lib.hid (HR.out.trans (ble_none h))
          have hc := tkA_none h
          rw [hn] at hc
          clear h
          by_cases h1 : z < 0
          · have t0 : decide (0 ≤ z) = false := by simpa using h1
            have t1 : decide (z < 0) = true := by simpa using h1
            go_wp2_with fail
            go_ret
            exact ⟨by rw [HE.out]; rfl, HB.out⟩
          · have t0 : decide (0 ≤ z) = true := by simp; omega
            have t1 : decide (z < 0) = false := by simpa using h1
            have t2 : decide (z < (n : Int)) = false := by simp; omega
            have t3 : decide ((n : Int) ≤ z) = true := by simp; omega
            go_wp2_with fail
            go_ret
            exact ⟨by rw [HE.out]; rfl, HB.out⟩
        | some s =>
          obtain ⟨h0, h1, hs⟩ := tkA_some h
          obtain ⟨m, rfl⟩ : ∃ m : Nat, z = m := ⟨z.toNat, by omega⟩
          rw [Int.toNat_natCast] at hs
          obtain ⟨j, rfl⟩ : ∃ j', gk = j' + 1 := ⟨gk - 1, by omega⟩
          obtain ⟨g', o', e, hg, c0⟩ := HV1.out.tx hs
          cases e
          have hmn : m < n := by omega
          have hj : n - m < j + 1 := by omega
          clear hz h0 h1
          have t0 : decide (0 ≤ (m : Int)) = true := by simp
          have t1 : decide ((m : Int) < 0) = false := by simp
          have t2 : decide ((m : Int) < (n : Int)) = true := by simpa using hmn
          have t3 : decide ((n : Int) ≤ (m : Int)) = false := by simpa using hmn
          have t3n : ¬ (n : Int) ≤ (m : Int) := by omega
          have t3m : decide (n ≤ m) = false := by simpa using hmn
          have t2n : (m : Int) < (n : Int) := by omega
          have t2m : decide (m < n) = true := by simpa using hmn
          by_cases hb : s = [93]
          · subst hb
            replace c0 : wr.cell? ⟨g, o + m, none⟩ = some (.string ⟨#[93]⟩) := c0
            have HE := Lib.hid (HR.out.trans (ble_end h))
            clear h hs hg
            have i1 : (m : Int) + 1 ≤ 9223372036854775807 := by omega
            go_wp2_with fail
            go_ret
            exact ⟨by rw [HE.out]; rfl, HB.out⟩
          · have HE := Lib.hid (HR.out.trans (ble_more h hb))
            have q1 := tx_neL hb
            have HC := Lib.hid (IH.out wr (m : Int) ⟨by omega, by omega⟩ HV1.out)
            have HA := Lib.hid (HF.out (m : Int))
            generalize hy : f (m : Int) = y at HE HC HA
            clear h hs hg hy
            go_wp2_with fail
            refine HC.out.mono ?_; rintro e w1 ⟨rfl, b1⟩
            have B1 := Lib.hid (bel_tr HB.out b1 (Nat.le_refl _)); clear b1
            go_wp2_with fail
            go_roundg j
            case measure => omega
            case rel => exact ⟨y, rfl, HE.out, (by have := HA.out; unfold Ahd at this; omega), B1.out⟩
    · have HR := Lib.hid (show r = -1 from N0.out (by rw [h]; intro e; cases e; exact hb rfl))
      have q1 := tx_neL hb
      clear h hs hg hv HV
      go_enter Tryz.func86, Tryz.ntmps86
      go_wp2_with fail
      go_ret
      exact ⟨by rw [HR.out]; rfl, Below.refl _ _⟩
end Go.Proofs.YtfnnoehpahdgcaaGreatDoor.Cl
namespace Go.Proofs.YtfnnoehpahdgcaaGreatDoor.Cl
set_option linter.unusedVariables false
open Go.RowKit Wd Rp Kp
theorem ddG_none {l : List Tk} {B : Int → Int} {i : Int} (h : tkA l i = none) : ddG l B i = -1 := by unfold ddG; rw [h]
theorem ddG_some {l : List Tk} {B : Int → Int} {i : Int} {s : Tk} (h : tkA l i = some s) : ddG l B i = (if s = setT then (if nmA l (i + 1) then smV l 1 (i + 2) else -1) else if s = cutT then (if nmA l (i + 1) then i + 2 else -1) else if s = stopT then i + 1
    else if s = ifT then B (B (smV l 2 (i + 1))) else if s = whT then B (smV l 2 (i + 1)) else -1) := by unfold ddG; rw [h]
theorem ahd_i64 {l : List Tk} {i r : Int} (h : Ahd l i r) (hl : l.length ≤ 4194304) : I64 r := by unfold Ahd at h; exact ⟨by omega, by omega⟩
set_option maxHeartbeats 8000000 in
set_option maxRecDepth 100000 in
theorem deedS (a : Option Addr) (cap : Nat) (l : List Tk) (n : Nat) (hn : l.length = n) (hl : n ≤ 4194304) (hm : ∀ s ∈ l, s.length ≤ 4194304) (d : Int) (B : Int → Int) (hB : ∀ i, Ahd l i (B i)) (ih : BlokS a n cap l d B) : DeedS a n cap l d (ddG l B) := by
  intro w i hi hv
  have IH := Lib.hid ih; clear ih
  have HA := Lib.hid hB; clear hB
  cases h : tkA l i with
  | none =>
    have HR := Lib.hid (ddG_none (B := B) h)
    generalize ddG l B i = r at *
    have hc := tkA_none h
    rw [hn] at hc
    clear h hv
    rcases hc with h1 | h1
    · have p0 : decide (i < 0) = true := by simpa using h1
      go_enter Tryz.func55, Tryz.ntmps55
      go_wp2_with fail
      go_ret
      exact ⟨by rw [HR.out]; rfl, Below.refl _ _⟩
    · have p0 : decide (i < 0) = false := by simp; omega
      have p1 : decide ((n : Int) ≤ i) = true := by simpa using h1
      go_enter Tryz.func55, Tryz.ntmps55
      go_wp2_with fail
      go_ret
      exact ⟨by rw [HR.out]; rfl, Below.refl _ _⟩
  | some s =>
    obtain ⟨h0, h1, hs⟩ := tkA_some h
    have HM := Lib.hid (ddG_some (B := B) h)
    generalize ddG l B i = r at *
    obtain ⟨k, rfl⟩ : ∃ k : Nat, i = k := ⟨i.toNat, by omega⟩
    rw [Int.toNat_natCast] at hs
    have HV := Lib.hid hv
    have HN := Lib.hid (fun w h => l9Name_any w a cap l n ((k : Int) + 1) hn h hl hm)
    have HS := Lib.hid (fun w kind i hi h => l9Sum_any w a cap l n kind i hi hn h hl hm)
    have HSA := Lib.hid (fun kind i => ahd_i64 (sm_ahd l kind i) (by omega))
    have HBA := Lib.hid (fun i => ahd_i64 (HA.out i) (by omega))
    obtain ⟨g, o, rfl, hg, c0⟩ := hv.tx hs
    have hk : k < n := by omega
    have p0 : decide ((k : Int) < 0) = false := by simp
    have p1 : decide ((n : Int) ≤ (k : Int)) = false := by simpa using hk
    have p1n : ¬ (n : Int) ≤ (k : Int) := by omega
    have p1m : decide (n ≤ k) = false := by simpa using hk
    clear hv hs hg h
    by_cases b0 : s = setT
    · subst b0
      replace HM := Lib.hid (HM.out.trans (if_pos rfl))
      replace c0 : w.cell? ⟨g, o + k, none⟩ = some (.string ⟨#[115, 101, 116]⟩) := c0
      have HN0 := Lib.hid (HN.out w HV.out)
      generalize nmA l ((k : Int) + 1) = nm at *
      have HS0 := Lib.hid (HS.out w 1 ((k : Int) + 2) ⟨by omega, by omega⟩ HV.out)
      generalize smV l 1 ((k : Int) + 2) = x at *
      go_enter Tryz.func55, Tryz.ntmps55
      go_wp2_with fail
      refine HN0.out.mono ?_; rintro e w1 ⟨rfl, rfl⟩
      cases nm
      · go_wp2_with fail
        go_ret
        exact ⟨by rw [HM.out]; rfl, Below.refl _ _⟩
      · go_wp2_with fail
        refine HS0.out.mono ?_; rintro e w2 ⟨rfl, b2⟩
        have B2 := Lib.hid b2; clear b2
        go_wp2_with fail
        go_ret
        exact ⟨by rw [HM.out]; rfl, B2.out⟩
    replace HM := Lib.hid (HM.out.trans (if_neg b0))
    have q0 := tx_neL b0
    unfold setT at q0
    by_cases b1 : s = cutT
    · subst b1
      replace HM := Lib.hid (HM.out.trans (if_pos rfl))
      replace c0 : w.cell? ⟨g, o + k, none⟩ = some (.string ⟨#[99, 117, 116]⟩) := c0
      have HN0 := Lib.hid (HN.out w HV.out)
      generalize nmA l ((k : Int) + 1) = nm at *
      go_enter Tryz.func55, Tryz.ntmps55
      go_wp2_with fail
      refine HN0.out.mono ?_; rintro e w1 ⟨rfl, rfl⟩
      cases nm
      · go_wp2_with fail
        go_ret
        exact ⟨by rw [HM.out]; rfl, Below.refl _ _⟩
      · go_wp2_with fail
        go_ret
        exact ⟨by rw [HM.out]; rfl, Below.refl _ _⟩
    replace HM := Lib.hid (HM.out.trans (if_neg b1))
    have q1 := tx_neL b1
    unfold cutT at q1
    by_cases b2 : s = stopT
    · subst b2
      replace HM := Lib.hid (HM.out.trans (if_pos rfl))
      replace c0 : w.cell? ⟨g, o + k, none⟩ = some (.string ⟨#[115, 116, 111, 112]⟩) := c0
      go_enter Tryz.func55, Tryz.ntmps55
      go_wp2_with fail
      go_ret
      exact ⟨by rw [HM.out]; rfl, Below.refl _ _⟩
    replace HM := Lib.hid (HM.out.trans (if_neg b2))
    have q2 := tx_neL b2
    unfold stopT at q2
    by_cases b3 : s = ifT
    · subst b3
      replace HM := Lib.hid (HM.out.trans (if_pos rfl))
      replace c0 : w.cell? ⟨g, o + k, none⟩ = some (.string ⟨#[105, 102]⟩) := c0
      have HS0 := Lib.hid (HS.out w 2 ((k : Int) + 1) ⟨by omega, by omega⟩ HV.out)
      have HX := Lib.hid (HSA.out 2 ((k : Int) + 1))
      generalize smV l 2 ((k : Int) + 1) = x at *
      have HY := Lib.hid (HBA.out x)
      have HB1 := Lib.hid (fun w h => IH.out w x HX.out h)
      generalize hy : B x = y at HM HY HB1
      clear hy
      have HB2 := Lib.hid (fun w h => IH.out w y HY.out h)
      generalize hz : B y = z at HM HB2
      clear hz
      go_enter Tryz.func55, Tryz.ntmps55
      go_wp2_with fail
      refine HS0.out.mono ?_; rintro e w2 ⟨rfl, b2⟩
      have V2 := Lib.hid (HV.out.below b2)
      have B2 := Lib.hid b2; clear b2
      have HB1' := Lib.hid (HB1.out w2 V2.out)
      go_wp2_with fail
      refine HB1'.out.mono ?_; rintro e w3 ⟨rfl, b3⟩
      have V3 := Lib.hid (V2.out.below b3)
      have B3 := Lib.hid (bel_tr B2.out b3 (Nat.le_refl _)); clear b3
      have HB2' := Lib.hid (HB2.out w3 V3.out)
      go_wp2_with fail
      refine HB2'.out.mono ?_; rintro e w4 ⟨rfl, b4⟩
      have B4 := Lib.hid (bel_tr B3.out b4 (Nat.le_refl _)); clear b4
      go_wp2_with fail
      go_ret
      exact ⟨by rw [HM.out]; rfl, B4.out⟩
    replace HM := Lib.hid (HM.out.trans (if_neg b3))
    have q3 := tx_neL b3
    unfold ifT at q3
    by_cases b4 : s = whT
    · subst b4
      replace HM := Lib.hid (HM.out.trans (if_pos rfl))
      replace c0 : w.cell? ⟨g, o + k, none⟩ = some (.string ⟨#[119, 104, 105, 108, 101]⟩) := c0
      have HS0 := Lib.hid (HS.out w 2 ((k : Int) + 1) ⟨by omega, by omega⟩ HV.out)
      have HX := Lib.hid (HSA.out 2 ((k : Int) + 1))
      generalize smV l 2 ((k : Int) + 1) = x at *
      have HY := Lib.hid (HBA.out x)
      have HB1 := Lib.hid (fun w h => IH.out w x HX.out h)
      generalize hy : B x = y at HM HY HB1
      clear hy
      go_enter Tryz.func55, Tryz.ntmps55
      go_wp2_with fail
      refine HS0.out.mono ?_; rintro e w2 ⟨rfl, b2⟩
      have V2 := Lib.hid (HV.out.below b2)
      have B2 := Lib.hid b2; clear b2
      have HB1' := Lib.hid (HB1.out w2 V2.out)
      go_wp2_with fail
      refine HB1'.out.mono ?_; rintro e w3 ⟨rfl, b3⟩
      have V3 := Lib.hid (V2.out.below b3)
      have B3 := Lib.hid (bel_tr B2.out b3 (Nat.le_refl _)); clear b3
      go_wp2_with fail
      go_ret
      exact ⟨by rw [HM.out]; rfl, B3.out⟩
    replace HM := Lib.hid (HM.out.trans (if_neg b4))
    have q4 := tx_neL b4
    unfold whT at q4
    go_enter Tryz.func55, Tryz.ntmps55
    go_wp2_with fail
    go_ret
    exact ⟨by rw [HM.out]; rfl, Below.refl _ _⟩
theorem deedS_all (a : Option Addr) (cap : Nat) (l : List Tk) (n : Nat) (hn : l.length = n) (hl : n ≤ 4194304) (hm : ∀ s ∈ l, s.length ≤ 4194304) : ∀ d : Nat, d ≤ 100 → DeedS a n cap l d (ddE l d)
  | 0, _ => deedS a cap l n hn hl hm 0 _ (fun _ => Or.inl rfl) (blok0 a cap l n hn hl)
  | d + 1, hd => by
    have h := deedS_all a cap l n hn hl hm d (by omega)
    exact deedS a cap l n hn hl hm ((d + 1 : Nat) : Int) _ (bls_ahd (ddE_ahd l d)) (blok1 a cap l n hn hl _ (by omega) (by omega) _ (ddE_ahd l d) (by rw [show ((d + 1 : Nat) : Int) - 1 = (d : Nat) by omega]; exact h))
theorem dsE_in {l : List Tk} {i : Int} {k : Nat} (h0 : 0 ≤ i) (h1 : i < l.length) : dsE l (k + 1) i = dsE l k (ddE l 5 i) := by rw [dsE, if_pos ⟨h0, h1⟩]
theorem dsE_out {l : List Tk} {i : Int} {k : Nat} (h : i < 0 ∨ (l.length : Int) ≤ i) : dsE l k i = i := by
  cases k with
  | zero => rfl
  | succ k => rw [dsE, if_neg (by omega)]
set_option maxHeartbeats 4000000 in
set_option maxRecDepth 100000 in
theorem specRecipeOk_any (w : World) (a : Option Addr) (cap : Nat) (l : List Tk) (n : Nat) (hn : l.length = n) (hv : V1 w a cap (txL l)) (hl : n ≤ 4194304) (hm : ∀ s ∈ l, s.length ≤ 4194304) :
    Calls Tryz.prog 19 #[.slice a n cap] w (GivesB (rcB l) w) := by
  have HV := Lib.hid hv; clear hv
  have HD := Lib.hid (fun w i hi h => deedS_all a cap l n hn hl hm 5 (by decide) w i hi h)
  have HA := Lib.hid (fun i => ddE_ahd l 5 i)
  by_cases hlong : l.length ≤ 120
  · have HR := Lib.hid (show rcB l = decide (dsE l l.length 0 = l.length) by unfold rcB; rw [if_pos hlong])
    have y0 : decide ((n : Int) ≤ 120) = true := by simp; omega
    have y1 : (n : Int) ≤ 120 := by omega
    have y2 : decide (n ≤ 120) = true := by simp; omega
    generalize rcB l = r at *
    go_enter Tryz.func19, Tryz.ntmps19
    go_wp2_with fail
    go_loopg [3] (l.length + 1) (fun j q wr => ∃ z : Int, q = .int .i64 z ∧ dsE l l.length 0 = dsE l (j - 1) z ∧ (z = -1 ∨ (0 ≤ z ∧ z ≤ n ∧ n - z < j)) ∧ Below w.heap.size w wr)
    case atStart => exact ⟨0, rfl, rfl, Or.inr (by omega), Below.refl _ _⟩
    case round =>
      obtain ⟨z, rfl, hr, hz, hbel⟩ := hrel
      have HE := Lib.hid hr
      have HB := Lib.hid hbel
      have HV1 := Lib.hid (HV.out.below hbel)
      clear hr hbel
      by_cases h0 : z < 0
      · have t0 : decide (0 ≤ z) = false := by simpa using h0
        have HX := Lib.hid (HE.out.trans (dsE_out (Or.inl h0)))
        have t1 : (z == (n : Int)) = false := beq_eq_false_iff_ne.2 (by omega)
        go_wp2_with fail
        go_ret
        exact ⟨by rw [HR.out, HX.out, hn, show decide (z = (n : Int)) = false by simp; omega]; rfl, HB.out⟩
      · have t0 : decide (0 ≤ z) = true := by simp; omega
        by_cases h1 : z < (n : Int)
        · obtain ⟨m, rfl⟩ : ∃ m : Nat, z = m := ⟨z.toNat, by omega⟩
          have hmn : m < n := by omega
          have t1 : decide ((m : Int) < (n : Int)) = true := by simpa using hmn
          have t2 : decide (m < n) = true := by simpa using hmn
          obtain ⟨j, rfl⟩ : ∃ j', gk = j' + 2 := ⟨gk - 2, by omega⟩
          have HX := Lib.hid (HE.out.trans (show dsE l (j + 2 - 1) (m : Int) = dsE l (j + 1 - 1) (ddE l 5 m) from dsE_in (k := j) (by omega) (by omega)))
          have HC := Lib.hid (HD.out wr (m : Int) ⟨by omega, by omega⟩ HV1.out)
          have HY := Lib.hid (HA.out (m : Int))
          generalize hy : ddE l 5 (m : Int) = y at HX HC HY
          clear hy
          go_wp2_with fail
          refine HC.out.mono ?_; rintro e w1 ⟨rfl, b1⟩
          have B1 := Lib.hid (bel_tr HB.out b1 (Nat.le_refl _)); clear b1
          go_wp2_with fail
          go_roundg (j + 1)
          case measure => omega
          case rel => exact ⟨y, rfl, HX.out, (by have := HY.out; unfold Ahd at this; omega), B1.out⟩
        · have t1 : decide (z < (n : Int)) = false := by simpa using h1
          have HX := Lib.hid (HE.out.trans (dsE_out (Or.inr (by omega))))
          have hzn : z = n := by omega
          subst hzn
          go_wp2_with fail
          go_ret
          exact ⟨by rw [HR.out, HX.out, hn]; simp, HB.out⟩
  · have HR := Lib.hid (show rcB l = false by unfold rcB; rw [if_neg hlong])
    have y0 : decide ((n : Int) ≤ 120) = false := by simp; omega
    have y1 : ¬ (n : Int) ≤ 120 := by omega
    have y2 : decide (n ≤ 120) = false := by simp; omega
    have y3 : decide ((0 : Int) < (n : Int)) = true := by simp; omega
    have y4 : decide (0 < n) = true := by simp; omega
    have y5 : ((0 : Int) == (n : Int)) = false := beq_eq_false_iff_ne.2 (by omega)
    generalize rcB l = r at *
    go_enter Tryz.func19, Tryz.ntmps19
    go_wp2_with fail
    go_loopw [3] (fun q wr => q = .int .i64 0 ∧ wr = w) (fun _ _ => 0)
    case atStart => exact ⟨rfl, rfl⟩
    case round =>
      obtain ⟨rfl, rfl⟩ := hrel
      go_wp2_with fail
      go_ret
      exact ⟨by rw [HR.out]; rfl, Below.refl _ _⟩
end Go.Proofs.YtfnnoehpahdgcaaGreatDoor.Cl
namespace Go.Proofs.YtfnnoehpahdgcaaGreatDoor.Cl
set_option linter.unusedVariables false
open Go.RowKit Wd Rp Kp
theorem ahd_neg {l : List Tk} {f : Int → Int} (hf : ∀ i, Ahd l i (f i)) : f (-1) = -1 := by
  have := hf (-1)
  unfold Ahd at this
  omega
end Go.Proofs.YtfnnoehpahdgcaaGreatDoor.Cl
namespace Go.Proofs.YtfnnoehpahdgcaaGreatDoor.Cl
set_option linter.unusedVariables false
open Go.RowKit Wd Rp Kp
abbrev Rc := Tk × List Tk
def tkN (l : List Tk) (i : Int) : Tk := (tkA l i).getD []
def smT (l : List Tk) (i : Int) : List Tk := match enA l i with | some n => (l.drop i.toNat).take n | none => []
def ddQ (l : List Tk) (B : Int → Int) (R : Int → List Rc) (i : Int) : List Rc := match tkA l i with
  | none => []
  | some s => if s = setT then [(tkN l (i + 1), smT l (i + 2))] else if s = cutT then [(tkN l (i + 1), [])] else if s = stopT then [([], [])]
    else if s = ifT then ([], smT l (i + 1)) :: (R (smV l 2 (i + 1)) ++ R (B (smV l 2 (i + 1)))) else if s = whT then ([], smT l (i + 1)) :: R (smV l 2 (i + 1)) else []
def dlE (l : List Tk) (f : Int → Int) : Nat → Int → Int
  | 0, i => i
  | n + 1, i => match tkA l i with | none => i | some s => if s = [93] then i else dlE l f n (f i)
def dlR (l : List Tk) (f : Int → Int) (R : Int → List Rc) : Nat → Int → List Rc
  | 0, _ => []
  | n + 1, i => match tkA l i with | none => [] | some s => if s = [93] then [] else R i ++ dlR l f R n (f i)
def blR (l : List Tk) (f : Int → Int) (R : Int → List Rc) (i : Int) : List Rc := dlR l f R (l.length + 1) (i + 1)
def ddR (l : List Tk) : Nat → Int → List Rc
  | 0 => ddQ l (fun _ => -1) (fun _ => [])
  | d + 1 => ddQ l (blS l (ddE l d)) (blR l (ddE l d) (ddR l d))
def rcR (l : List Tk) : List Rc := dlR l (ddE l 5) (ddR l 5) (l.length + 1) 0
theorem ble_neg (l : List Tk) (f : Int → Int) (n : Nat) {i : Int} (h : i < 0) : blE l f n i = -1 := by
  cases n with
  | zero => rfl
  | succ n => rw [blE, tkA_neg h]
theorem dlE_neg (l : List Tk) (f : Int → Int) (n : Nat) {i : Int} (h : i < 0) : dlE l f n i = i := by
  cases n with
  | zero => rfl
  | succ n => rw [dlE, tkA_neg h]
theorem ble_dl {l : List Tk} {f : Int → Int} (hf : ∀ i, Ahd l i (f i)) : ∀ (n : Nat) (i : Int), (i < 0 ∨ (l.length : Int) - i < n) → blE l f n i = if tkA l (dlE l f n i) = some [93] then dlE l f n i + 1 else -1
  | 0, i, h => by
    have e1 : blE l f 0 i = -1 := rfl
    have e2 : dlE l f 0 i = i := rfl
    rw [e1, e2]
    cases e : tkA l i with
    | none => simp
    | some s => have := tkA_some e; omega
  | n + 1, i, h => by
    cases e : tkA l i with
    | none =>
      have e1 : blE l f (n + 1) i = -1 := by rw [blE, e]
      have e2 : dlE l f (n + 1) i = i := by rw [dlE, e]
      rw [e1, e2, e]; simp
    | some s =>
      by_cases hs : s = [93]
      · have e1 : blE l f (n + 1) i = i + 1 := by rw [blE, e]; exact if_pos hs
        have e2 : dlE l f (n + 1) i = i := by rw [dlE, e]; exact if_pos hs
        rw [e1, e2, e, hs, if_pos rfl]
      · have e1 : blE l f (n + 1) i = blE l f n (f i) := by rw [blE, e]; exact if_neg hs
        have e2 : dlE l f (n + 1) i = dlE l f n (f i) := by rw [dlE, e]; exact if_neg hs
        rw [e1, e2]
        have := tkA_some e
        have := hf i
        unfold Ahd at this
        exact ble_dl hf n (f i) (by omega)
theorem dsE_dl (l : List Tk) : ∀ (n : Nat) (i : Int), (i < 0 ∨ (l.length : Int) - i ≤ n) → ∀ m : Nat, n ≤ m → (dsE l n i = l.length ↔ dlE l (ddE l 5) m i = l.length)
  | 0, i, h, m, _ => by
    have e : dsE l 0 i = i := rfl
    rw [e]
    have : dlE l (ddE l 5) m i = i := by
      cases m with
      | zero => rfl
      | succ m =>
        rw [dlE]
        cases e : tkA l i with
        | none => rfl
        | some s => have := tkA_some e; omega
    rw [this]
  | n + 1, i, h, m, hm => by
    obtain ⟨m, rfl⟩ : ∃ k, m = k + 1 := ⟨m - 1, by omega⟩
    by_cases hi : 0 ≤ i ∧ i < l.length
    · rw [dsE, if_pos hi]
      obtain ⟨s, hs⟩ : ∃ s, tkA l i = some s := by
        unfold tkA
        rw [if_neg (by omega)]
        exact ⟨l[i.toNat]'(by omega), List.getElem?_eq_getElem _⟩
      by_cases hb : s = [93]
      · have e1 : ddE l 5 i = -1 := by
          show ddG l _ i = -1
          unfold ddG
          rw [hs, hb]
          simp [setT, cutT, stopT, ifT, whT]
        have e2 : dlE l (ddE l 5) (m + 1) i = i := by rw [dlE, hs]; exact if_pos hb
        rw [e1, e2, dsE_out (Or.inl (by omega))]
        omega
      · have e2 : dlE l (ddE l 5) (m + 1) i = dlE l (ddE l 5) m (ddE l 5 i) := by rw [dlE, hs]; exact if_neg hb
        rw [e2]
        have := ddE_ahd l 5 i
        unfold Ahd at this
        exact dsE_dl l n (ddE l 5 i) (by omega) m (by omega)
    · rw [dsE, if_neg hi]
      have : dlE l (ddE l 5) (m + 1) i = i := by
        rw [dlE]
        cases e : tkA l i with
        | none => rfl
        | some s => have := tkA_some e; omega
      rw [this]
theorem rcB_dl (l : List Tk) : rcB l = (decide (l.length ≤ 120) && decide (dlE l (ddE l 5) (l.length + 1) 0 = l.length)) := by
  unfold rcB
  split
  · rename_i h
    rw [decide_eq_true h, Bool.true_and]
    exact decide_eq_decide.2 (dsE_dl l l.length 0 (by omega) _ (by omega))
  · rename_i h
    rw [decide_eq_false h, Bool.false_and]
theorem ddQ_some {l : List Tk} {B : Int → Int} {R : Int → List Rc} {i : Int} {s : Tk} (h : tkA l i = some s) : ddQ l B R i = if s = setT then [(tkN l (i + 1), smT l (i + 2))] else if s = cutT then [(tkN l (i + 1), [])] else if s = stopT then [([], [])]
    else if s = ifT then ([], smT l (i + 1)) :: (R (smV l 2 (i + 1)) ++ R (B (smV l 2 (i + 1)))) else if s = whT then ([], smT l (i + 1)) :: R (smV l 2 (i + 1)) else [] := by unfold ddQ; rw [h]
theorem foV_agr {R : Type} (f : Tk → R) (g : Nat → R → R → R) (z : R) {l m : List Tk} {i j : Int} {n : Nat} (h : enA l i = some n) (h2 : enA m j = some n) (hp : (m.drop j.toNat).take n = (l.drop i.toNat).take n) : foV f g z m j = foV f g z l i := by
  unfold foV
  rw [h, h2]
  dsimp only
  rw [hp]
theorem nmB_nil : nmB [] = false := by decide
end Go.Proofs.YtfnnoehpahdgcaaGreatDoor.Cl
namespace Go.Proofs.YtfnnoehpahdgcaaGreatDoor.Cl
set_option linter.unusedVariables false
open Go.RowKit Wd Rp Kp
end Go.Proofs.YtfnnoehpahdgcaaGreatDoor.Cl
namespace Go.Proofs.YtfnnoehpahdgcaaGreatDoor.Cl
set_option linter.unusedVariables false
open Go.RowKit Wd Rp Kp
inductive ScR (l : List Tk) : Int → List Rc → Prop
  | fin : ScR l (l.length : Int) []
  | br {i : Int} {s : Tk} {F : List Rc} : tkA l i = some s → (s = [91] ∨ s = [93]) → ScR l (i + 1) F → ScR l i F
  | set {i : Int} {F : List Rc} : tkA l i = some setT → nmA l (i + 1) = true → smV l 1 (i + 2) ≠ -1 → ScR l (smV l 1 (i + 2)) F → ScR l i ((tkN l (i + 1), smT l (i + 2)) :: F)
  | cut {i : Int} {F : List Rc} : tkA l i = some cutT → nmA l (i + 1) = true → ScR l (i + 2) F → ScR l i ((tkN l (i + 1), []) :: F)
  | stop {i : Int} {F : List Rc} : tkA l i = some stopT → ScR l (i + 1) F → ScR l i (([], []) :: F)
  | iw {i : Int} {s : Tk} {F : List Rc} : tkA l i = some s → (s = ifT ∨ s = whT) → smV l 2 (i + 1) ≠ -1 → ScR l (smV l 2 (i + 1)) F → ScR l i (([], smT l (i + 1)) :: F)
theorem ScR.at {l : List Tk} {i : Int} {F : List Rc} (h : ScR l i F) : 0 ≤ i ∧ i ≤ l.length := by
  cases h with
  | fin => omega
  | br h _ _ => have := tkA_some h; omega
  | set h _ _ _ => have := tkA_some h; omega
  | cut h _ _ => have := tkA_some h; omega
  | stop h _ => have := tkA_some h; omega
  | iw h _ _ _ => have := tkA_some h; omega
end Go.Proofs.YtfnnoehpahdgcaaGreatDoor.Cl
namespace Go.Proofs.YtfnnoehpahdgcaaGreatDoor.Cu
set_option linter.unusedVariables false
open Go.RowKit
structure But (b : Nat) (w w' : World) : Prop where
  os : w'.os = w.os
  tape : w'.tape = w.tape
  output : w'.output = w.output
  size : w.heap.size ≤ w'.heap.size
  block : ∀ k, k < w.heap.size → k ≠ b → w'.heap[k]? = w.heap[k]?
theorem But.refl (b : Nat) (w : World) : But b w w := ⟨rfl, rfl, rfl, Nat.le_refl _, fun _ _ _ => rfl⟩
theorem But.trans {b : Nat} {x y z : World} (h : But b x y) (k : But b y z) : But b x z :=
  ⟨k.os.trans h.os, k.tape.trans h.tape, k.output.trans h.output, Nat.le_trans h.size k.size, fun i hi hb => (k.block i (Nat.lt_of_lt_of_le hi h.size) hb).trans (h.block i hi hb)⟩
theorem But.drew {b : Nat} {x w : World} (h : But b x w) : But b x w.drew := ⟨h.os, h.tape, h.output, h.size, h.block⟩
theorem But.drewN {b : Nat} {x w : World} (h : But b x w) (n : Nat) : But b x (w.drewN n) := ⟨h.os, h.tape, h.output, h.size, h.block⟩
theorem But.setCell {b : Nat} {x w : World} (h : But b x w) {p : Addr} (hp : p.block = b) (u : Value) : But b x (w.setCell p u) :=
  h.trans ⟨rfl, rfl, rfl, by simp [World.setCell], fun k _ hk => Below.heap_setCell _ _ _ _ (by omega)⟩
theorem But.alloc {b : Nat} {x w : World} (h : But b x w) (o : Obj) : But b x (w.alloc o) :=
  h.trans ⟨rfl, rfl, rfl, by simp, fun k hk _ => Below.heap_alloc _ _ _ hk⟩
theorem But.below {b B : Nat} {w w' : World} (h : But b w w') (hB : B ≤ b) (hs : B ≤ w.heap.size) : Below B w w' :=
  ⟨h.os, h.tape, h.output, h.size, fun k hk => h.block k (by omega) (by omega)⟩
theorem But.cell {b : Nat} {w w' : World} (h : But b w w') {p : Addr} (hp : p.block < w.heap.size) (hb : p.block ≠ b) : w'.cell? p = w.cell? p := World.cell?_of_block (w := w) (h.block p.block hp hb)
theorem But.frozen {b : Nat} {w w' : World} (h : But b w w') {p : Addr} (hp : p.block < w.heap.size) (hb : p.block ≠ b) : w'.frozen? p = w.frozen? p := World.frozen?_of_block (w := w) (h.block p.block hp hb)

def Bytes (w : World) (B : Nat) (a : Option Addr) (len : Nat) : Prop :=
  0 < len → ∃ ab ao, a = some ⟨ab, ao, none⟩ ∧ ab < B ∧ ∀ k, k < len → ∃ z : Int, w.cell? ⟨ab, ao + k, none⟩ = some (.int .u8 z) ∧ 0 ≤ z ∧ z ≤ 255
theorem Bytes.carry {w w' : World} {B : Nat} {a : Option Addr} {len : Nat} (h : Bytes w B a len) (hb : ∀ k, k < B → w'.heap[k]? = w.heap[k]?) : Bytes w' B a len := by
  intro hl
  obtain ⟨ab, ao, h1, h2, h3⟩ := h hl
  refine ⟨ab, ao, h1, h2, fun k hk => ?_⟩
  obtain ⟨z, h4, h5⟩ := h3 k hk
  exact ⟨z, (World.cell?_of_block (w := w) (hb ab h2)).trans h4, h5⟩
def Cur (B b : Nat) (w : World) : Prop :=
  B ≤ b ∧ ∃ (a : Option Addr) (len cap : Nat) (i h : Int), 0 ≤ i ∧ i ≤ len ∧ len ≤ 9223372036854775806 ∧ Bytes w B a len ∧
    w.heap[b]? = some (.cells #[.slice a len cap, .int .i64 i, .int .i64 h] 83 (0, 0))
theorem Cur.carry {B b : Nat} {w w' : World} (h : Cur B b w) (hb : ∀ k, k < B → w'.heap[k]? = w.heap[k]?) (hc : w'.heap[b]? = w.heap[b]?) : Cur B b w' := by
  obtain ⟨h1, a, len, cap, i, h, h2, h3, h4, h5, h6⟩ := h
  exact ⟨h1, a, len, cap, i, h, h2, h3, h4, h5.carry hb, hc.trans h6⟩
theorem Cur.lt {B b : Nat} {w : World} (h : Cur B b w) : b < w.heap.size := by
  obtain ⟨_, a, len, cap, i, h, _, _, _, _, h6⟩ := h
  exact (Array.getElem?_eq_some_iff.1 h6).1
theorem Cur.le {B b : Nat} {w : World} (h : Cur B b w) : B ≤ b := h.1
theorem Cur.alloc {B b : Nat} {w : World} (h : Cur B b w) (o : Obj) : Cur B b (w.alloc o) :=
  h.carry (fun k hk => Below.heap_alloc _ _ _ (by have := h.lt; have := h.le; omega)) (Below.heap_alloc _ _ _ h.lt)
theorem Cur.drew {B b : Nat} {w : World} (h : Cur B b w) : Cur B b w.drew := h.carry (fun _ _ => rfl) rfl
theorem Cur.drewN {B b : Nat} {w : World} (h : Cur B b w) (n : Nat) : Cur B b (w.drewN n) := h.carry (fun _ _ => rfl) rfl

end Go.Proofs.YtfnnoehpahdgcaaGreatDoor.Cu
namespace Go.Proofs.YtfnnoehpahdgcaaGreatDoor.Cu
set_option linter.unusedVariables false
open Go.RowKit
end Go.Proofs.YtfnnoehpahdgcaaGreatDoor.Cu
namespace Go.Proofs.YtfnnoehpahdgcaaGreatDoor.Cu
set_option linter.unusedVariables false
open Go.RowKit
end Go.Proofs.YtfnnoehpahdgcaaGreatDoor.Cu
namespace Go.Proofs.YtfnnoehpahdgcaaGreatDoor.Cu
set_option linter.unusedVariables false
open Go.RowKit
end Go.Proofs.YtfnnoehpahdgcaaGreatDoor.Cu
namespace Go.Proofs.YtfnnoehpahdgcaaGreatDoor.Cu
set_option linter.unusedVariables false
open Go.RowKit
end Go.Proofs.YtfnnoehpahdgcaaGreatDoor.Cu
namespace Go.Proofs.YtfnnoehpahdgcaaGreatDoor.Cu
set_option linter.unusedVariables false
open Go.RowKit
theorem But.setNew {b : Nat} {x w : World} (h : But b x w) {p : Addr} (hp : x.heap.size ≤ p.block) (u : Value) : But b x (w.setCell p u) :=
  ⟨h.os, h.tape, h.output, by have := h.size; simpa [World.setCell] using this, fun k hk hb => (Below.heap_setCell _ _ _ _ (by omega)).trans (h.block k hk hb)⟩
theorem But.grown {b : Nat} {x w w' : World} {row : Option Nat} (h : But b x w) (hg : w.grownBy w' row) (hr : ∀ k, row = some k → x.heap.size ≤ k) : But b x w' :=
  ⟨hg.os.trans h.os, hg.tape.trans h.tape, hg.output.trans h.output, Nat.le_trans h.size hg.size, fun k hk hb => (hg.block k (Nat.lt_of_lt_of_le hk h.size) (fun e => by have := hr k e.symm; omega)).trans (h.block k hk hb)⟩
theorem But.below' {b : Nat} {x w w' : World} (h : But b x w) (hw : Below w.heap.size w w') : But b x w' :=
  ⟨hw.os.trans h.os, hw.tape.trans h.tape, hw.output.trans h.output, Nat.le_trans h.size hw.size, fun k hk hb => (hw.block k (Nat.lt_of_lt_of_le hk h.size)).trans (h.block k hk hb)⟩

structure St (w0 : World) (B b : Nat) (w : World) : Prop where
  but : But b w0 w
  cur : Cur B b w
  lt : b < w0.heap.size
theorem St.alloc {w0 w : World} {B b : Nat} (h : St w0 B b w) (o : Obj) : St w0 B b (w.alloc o) := ⟨h.but.alloc o, h.cur.alloc o, h.lt⟩
theorem St.drew {w0 w : World} {B b : Nat} (h : St w0 B b w) : St w0 B b w.drew := ⟨h.but.drew, h.cur.drew, h.lt⟩
theorem St.drewN {w0 w : World} {B b : Nat} (h : St w0 B b w) (n : Nat) : St w0 B b (w.drewN n) := ⟨h.but.drewN n, h.cur.drewN n, h.lt⟩
theorem St.setNew {w0 w : World} {B b : Nat} (h : St w0 B b w) {p : Addr} (hp : w0.heap.size ≤ p.block) (u : Value) : St w0 B b (w.setCell p u) :=
  ⟨h.but.setNew hp u, h.cur.carry (fun k hk => Below.heap_setCell _ _ _ _ (by have := h.cur.le; have := h.lt; omega)) (Below.heap_setCell _ _ _ _ (by have := h.lt; omega)), h.lt⟩
theorem St.grown {w0 w w' : World} {B b : Nat} {row : Option Nat} (h : St w0 B b w) (hg : w.grownBy w' row) (hr : ∀ k, row = some k → w0.heap.size ≤ k) : St w0 B b w' :=
  ⟨h.but.grown hg hr, h.cur.carry (fun k hk => hg.block k (by have := h.cur.le; have := h.cur.lt; omega) (fun e => by have := hr k e.symm; have := h.cur.le; have := h.lt; omega)) (hg.block b h.cur.lt (fun e => by have := hr b e.symm; have := h.lt; omega)), h.lt⟩
theorem St.size {w0 w : World} {B b : Nat} (h : St w0 B b w) : w0.heap.size ≤ w.heap.size := h.but.size

def Src (w : World) (ad : Addr) (m : Nat) : Prop := ∀ j, j < m → ∃ z : Int, w.cell? (ad.add j) = some (.int .u8 z) ∧ 0 ≤ z ∧ z ≤ 255
def IsB (u : Value) : Prop := ∃ z : Int, u = .int .u8 z ∧ 0 ≤ z ∧ z ≤ 255
theorem Src.carry {w w' : World} {ad : Addr} {m : Nat} (h : Src w ad m) (hb : w'.heap[ad.block]? = w.heap[ad.block]?) : Src w' ad m := fun j hj => by
  obtain ⟨z, hz, hr⟩ := h j hj
  have hbl : (ad.add j).block = ad.block := by unfold Addr.add; split <;> rfl
  exact ⟨z, (World.cell?_of_block (w := w) (by rw [hbl]; exact hb)).trans hz, hr⟩

def OwnB (w0 w : World) (v : Value) (n : Nat) : Prop := v ≠ .slice none 0 0 ∧ ∃ xs, w.ownsRow w0.heap.size 5 1 v n xs ∧ ∀ u ∈ xs, IsB u
theorem OwnB.carry {w0 w w' : World} {v : Value} {n : Nat} {row : Option Nat} (h : OwnB w0 w v n) (hg : w.grownBy w' row) (hne : v.ownBlock ≠ row) : OwnB w0 w' v n := by
  obtain ⟨h0, xs, h1, h2⟩ := h
  exact ⟨h0, xs, h1.kept hg (Or.inr hne), h2⟩
theorem But.grownBy {b : Nat} {w w' : World} (h : But b w w') : w.grownBy w' (some b) := ⟨h.os, h.tape, h.output, h.size, fun k hk hne => h.block k hk (fun e => hne (by rw [e]))⟩
theorem OwnB.alloc {w0 w : World} {v : Value} {n : Nat} (h : OwnB w0 w v n) (o : Obj) : OwnB w0 (w.alloc o) v n := by
  obtain ⟨h0, xs, h1, h2⟩ := h
  exact ⟨h0, xs, h1.alloc o, h2⟩
theorem OwnB.drew {w0 w : World} {v : Value} {n : Nat} (h : OwnB w0 w v n) : OwnB w0 w.drew v n := h
theorem OwnB.drewN {w0 w : World} {v : Value} {n : Nat} (h : OwnB w0 w v n) (k : Nat) : OwnB w0 (w.drewN k) v n := h
theorem OwnB.start {w0 w : World} (h : w0.heap.size ≤ w.heap.size) : OwnB w0 (w.alloc (.cells #[] 5)) (.slice (some ⟨w.heap.size, 0, none⟩) 0 0) 0 :=
  ⟨(fun e => by cases e), [], World.ownsRow_made w #[] 0 h (by decide) rfl, fun u hu => by cases hu⟩
theorem OwnB.form {w0 w : World} {v : Value} {n : Nat} (h : OwnB w0 w v n) : ∃ g cap, v = .slice (some ⟨g, 0, none⟩) n cap ∧ w0.heap.size ≤ g ∧ g < w.heap.size ∧ n ≤ cap ∧ cap ≤ maxLen ∧ ∀ k, k < n → (∃ z : Int, w.cell? ⟨g, k, none⟩ = some (.int .u8 z) ∧ 0 ≤ z ∧ z ≤ 255) ∧ w.frozen? ⟨g, k, none⟩ = false := by
  obtain ⟨h0, xs, ⟨hl, h1⟩, h2⟩ := h
  rcases h1 with ⟨rfl, _⟩ | ⟨g, cap, cur, rfl, hb, hg, hn, hc, hsz, hxs⟩
  · exact absurd rfl h0
  · refine ⟨g, cap, rfl, hb, (Array.getElem?_eq_some_iff.1 hg).1, hn, hc, fun k hk => ⟨?_, by simp [World.frozen?, hg]⟩⟩
    have hk' : k < xs.length := by omega
    have hm := h2 _ (List.getElem_mem hk')
    obtain ⟨z, hz, z0, z1⟩ := hm
    refine ⟨z, ?_, z0, z1⟩
    have e1 : xs[k]? = some (.int .u8 z) := by rw [List.getElem?_eq_getElem hk', hz]
    rw [← hxs, List.getElem?_take_of_lt (by omega)] at e1
    simpa [World.cell?, hg] using e1

end Go.Proofs.YtfnnoehpahdgcaaGreatDoor.Cu
