/-
  Texts of mine, joined (part 10 of 11): what the law at hand reaches of them; each text's own words stand in the verifier's repo.
-/
import Derived.Test.YtfnnoehpahdgcaaGreatDoorSm9
import Derived.Test.YtfnnoehpahdgcaaGreatDoorRows
import Derived.WalkKit
import Derived.IntWalk
import Derived.Laws.Bits128
import Derived.Lib.Hide
import Derived.Lib.ParseIntBTie
import Derived.Lib.ParseIntBCases
import Derived.Lib.ItoaMem
import Derived.Lib.IndexMore
import Derived.Lib.Repeat
import Derived.WalkSpells
import Derived.Below
import Derived.Carry
import Derived.WalkSmall
import Derived.Laws.Closers25b
import Derived.Lib.Strings
import Derived.Lib.SmallJoins
import Derived.Lib.AppendIntMem
import Derived.Maps.AppendAt
import Derived.OwnWalk
import Derived.WalkLawsBesides
import Derived.Deep.QuietTactic
import Derived.BigQuiet
import Derived.Deep.RegionHeld3
import Derived.Laws.OwnMore
import Derived.Laws.StructEq
import Derived.BigFrame
import Derived.Deep.Upon
import Derived.Laws.CopyRow
import Derived.Laws.BytesArg
import Derived.RowKit3
import Derived.Shelf.Strconv.Itoa4
import Derived.Shelf.Strconv.ParseIntPublic10
import Derived.Shelf.Strconv.ErrVarParseInt
import Derived.Test.YtfnnoehpahdgcaaGreatDoorProg
import Derived.LaidMore
import Derived.Stop.LaidErr
import Derived.Lib.LaidTab
import Derived.RangeFuncWrites
import Derived.RangeFuncCalls
import Derived.RangeFuncBox
import Derived.RangeFuncNested
import Derived.RangeFuncLeaves
import Derived.Shelf.Abstract
import Derived.Shelf.RegionOpen
import Derived.OwnWalkIn
import Derived.TacticsInMore
import Derived.LoopNIn
import Derived.LoopIn
import Derived.Lib.Bytealg
import Derived.Deep.LoopGhost
import Derived.Lib.AtoiErrMem
import Derived.OpenShut
import Derived.Lib.ConvBytes
import Derived.Deep.RegionLaw
import Derived.Deep.AppendLies
import Derived.Lib.AppendZeros
import Derived.Defers
import Derived.Recover
import Derived.Lib.ItoaLen
import Derived.ProofKit
import Derived.Handed
import Derived.SizedLaws
import Derived.ShutString
import Derived.Deep.Slices
import Derived.Deep.Fields
import Derived.ChangeSame
namespace Go.Proofs.YtfnnoehpahdgcaaGreatDoor.Cl
set_option linter.unusedVariables false
open Go.RowKit Wd Rp Cu Kp Lc
def DrawsV (B b : Nat) (w : World) (lo hi : Int) (s : S) (e : Ending) (w' : World) : Prop := ∃ x : Int, e = .returned (.int .i64 x) ∧ lo ≤ x ∧ x ≤ hi ∧ CurE B b s w' ∧ But b w w'
def DrawsNE (B b : Nat) (w : World) (s : S) (e : Ending) (w' : World) : Prop := ∃ t : ByteArray, e = .returned (.string t) ∧ nmB t.data.toList = true ∧ CurE B b s w' ∧ But b w w'
def DrawsXE (n : Nat) (B b : Nat) (w : World) (r : Nat × S) (e : Ending) (w' : World) : Prop := ∃ (v : Value) (l : List Tk), e = .returned v ∧ OT w.heap.size w' v l ∧ l.length ≤ n ∧ l.length = r.1 ∧ SmT l ∧ CurE B b r.2 w' ∧ But b w w'
structure StE (w0 : World) (B b : Nat) (s : S) (w : World) : Prop where
  but : But b w0 w
  cur : CurE B b s w
  lt : b < w0.heap.size
theorem StE.st {w0 w : World} {B b : Nat} {s : S} (h : StE w0 B b s w) : St w0 B b w := ⟨h.but, h.cur.cur, h.lt⟩
theorem StE.alloc {w0 w : World} {B b : Nat} {s : S} (h : StE w0 B b s w) (o : Obj) : StE w0 B b s (w.alloc o) := ⟨h.but.alloc o, h.cur.alloc o, h.lt⟩
theorem StE.draws {w0 w w' : World} {B b : Nat} {s s' : S} (h : StE w0 B b s w) (hb : But b w w') (hc : CurE B b s' w') : StE w0 B b s' w' := ⟨h.but.trans hb, hc, h.lt⟩
theorem StE.size {w0 w : World} {B b : Nat} {s : S} (h : StE w0 B b s w) : w0.heap.size ≤ w.heap.size := h.but.size
theorem StE.grown {w0 w w' : World} {B b : Nat} {s : S} {row : Option Nat} (h : StE w0 B b s w) (hg : w.grownBy w' row) (hr : ∀ k, row = some k → w0.heap.size ≤ k) : StE w0 B b s w' :=
  ⟨h.but.grown hg hr, h.cur.carry (fun k hk => hg.block k (by have := h.cur.le; have := h.cur.lt; omega) (fun e => by have := hr k e.symm; have := h.cur.le; have := h.lt; omega)) (hg.block b h.cur.lt (fun e => by have := hr b e.symm; have := h.lt; omega)), h.lt⟩
theorem StE.below {w0 w w' : World} {B b : Nat} {s : S} (h : StE w0 B b s w) (hb : Below w.heap.size w w') : StE w0 B b s w' :=
  ⟨h.but.below' hb, h.cur.carry (fun k hk => hb.block k (by have := h.cur.le; have := h.cur.lt; omega)) (hb.block b h.cur.lt), h.lt⟩
set_option maxRecDepth 100000 in
set_option maxHeartbeats 1000000 in
theorem wordE (B b : Nat) (s : S) (w : World) (hc : CurE B b s w) : Calls Tryz.prog 72 #[.pointer (some ⟨b, 0, none⟩)] w (DrawsV B b w (-2147483648) 2147483647 (wordM s)) := by
  have HC := Lib.hid (belowE B b 5 s w hc (by decide) (by decide)); clear hc
  have HM := Lib.hid (show wordM s = (let a := belowM 5 s; if a.1 = 0 then (belowM 6 a.2).2 else if a.1 = 1 then (belowM 4294967296 a.2).2 else (belowM 12 a.2).2) from rfl)
  generalize wordM s = r at *
  generalize belowM 5 s = q at *
  obtain ⟨x, s1⟩ := q
  dsimp only at HM
  go_enter Tryz.func72, Tryz.ntmps72
  go_wp2_with fail
  refine HC.out.mono ?_; rintro e w1 ⟨rfl, hc1, hw1⟩
  dsimp only at hc1
  by_cases h0 : x = 0
  · subst h0
    replace HM := Lib.hid (HM.out.trans (if_pos rfl))
    go_wp2_with fail
    have hlt := hc1.lt
    have R := belowM_range (n := 6) (by decide) s1
    refine (belowE B b _ s1 _ (hc1.alloc _) (by decide) (by decide)).mono ?_; rintro e w2 ⟨rfl, hc2, hw2⟩
    generalize belowM 6 s1 = q at *
    obtain ⟨y, s2⟩ := q
    dsimp only at HM R hc2 hw2
    obtain ⟨n, rfl⟩ := Int.eq_ofNat_of_zero_le R.1
    obtain ⟨v, hv, v0, v1⟩ := pick_cell (lo := -2147483648) (hi := 2147483647) hlt hw2 (fun k hk => by
      have hk : k < 6 := hk
      match k, hk with
      | 0, _ => exact ⟨_, rfl, by decide, by decide⟩
      | 1, _ => exact ⟨_, rfl, by decide, by decide⟩
      | 2, _ => exact ⟨_, rfl, by decide, by decide⟩
      | 3, _ => exact ⟨_, rfl, by decide, by decide⟩
      | 4, _ => exact ⟨_, rfl, by decide, by decide⟩
      | 5, _ => exact ⟨_, rfl, by decide, by decide⟩) n (by show n < 6; omega)
    have n1 : (n : Int) < 6 := by omega
    go_wp2_with fail
    go_ret
    exact ⟨_, rfl, v0, v1, by rw [HM.out]; exact hc2, hw1.trans (((But.refl b w1).alloc _).trans hw2)⟩
  replace HM := Lib.hid (HM.out.trans (if_neg h0))
  by_cases h1 : x = 1
  · subst h1
    replace HM := Lib.hid (HM.out.trans (if_pos rfl))
    go_wp2_with fail
    have R := belowM_range (n := 4294967296) (by decide) s1
    refine (belowE B b _ s1 _ hc1 (by decide) (by decide)).mono ?_; rintro e w2 ⟨rfl, hc2, hw2⟩
    generalize belowM 4294967296 s1 = q at *
    obtain ⟨y, s2⟩ := q
    dsimp only at HM R hc2 hw2
    go_wp2_with fail
    go_ret
    exact ⟨_, rfl, by omega, by omega, by rw [HM.out]; exact hc2, hw1.trans hw2⟩
  · replace HM := Lib.hid (HM.out.trans (if_neg h1))
    have e0 : (x == 0) = false := beq_eq_false_iff_ne.2 h0
    have e1 : (x == 1) = false := beq_eq_false_iff_ne.2 h1
    go_wp2_with fail
    have R := belowM_range (n := 12) (by decide) s1
    refine (belowE B b _ s1 _ hc1 (by decide) (by decide)).mono ?_; rintro e w2 ⟨rfl, hc2, hw2⟩
    generalize belowM 12 s1 = q at *
    obtain ⟨y, s2⟩ := q
    dsimp only at HM R hc2 hw2
    go_wp2_with fail
    go_ret
    exact ⟨_, rfl, by omega, by omega, by rw [HM.out]; exact hc2, hw1.trans hw2⟩
set_option maxRecDepth 100000 in
set_option maxHeartbeats 1000000 in
theorem nameE (B b : Nat) (s : S) (w : World) (hc : CurE B b s w) : Calls Tryz.prog 81 #[.pointer (some ⟨b, 0, none⟩)] w (DrawsNE B b w (belowM 6 s).2) := by
  have hlt := hc.lt
  have HC := Lib.hid hc; clear hc
  have R := belowM_range (n := 6) (by decide) s
  go_enter Tryz.func81, Tryz.ntmps81
  go_wp2_with fail
  refine (belowE B b _ s _ (HC.out.alloc _) (by decide) (by decide)).mono ?_; rintro e w2 ⟨rfl, hc2, hw2⟩
  generalize belowM 6 s = q at *
  obtain ⟨y, s2⟩ := q
  dsimp only at R hc2 hw2
  obtain ⟨n, rfl⟩ := Int.eq_ofNat_of_zero_le R.1
  have hp := pick_any hlt hw2 n
  obtain ⟨s, hs, hnm⟩ : ∃ s : ByteArray, w2.cell? ⟨w.heap.size, n, none⟩ = some (.string s) ∧ nmB s.data.toList = true := by
    have hn : n < 6 := by omega
    match n, hn, hp with
    | 0, _, hp => exact ⟨_, hp, by decide⟩
    | 1, _, hp => exact ⟨_, hp, by decide⟩
    | 2, _, hp => exact ⟨_, hp, by decide⟩
    | 3, _, hp => exact ⟨_, hp, by decide⟩
    | 4, _, hp => exact ⟨_, hp, by decide⟩
    | 5, _, hp => exact ⟨_, hp, by decide⟩
  clear hp
  have n1 : (n : Int) < 6 := by omega
  have HP := Lib.hid (And.intro hnm (And.intro hc2 (((But.refl b w).alloc _).trans hw2))); clear hnm hc2 hw2
  go_wp2_with fail
  go_ret
  exact ⟨s, rfl, HP.out⟩
def SumE (n : Nat) (kind dep : Int) (f : S → Nat × S) : Prop := ∀ (B b : Nat) (s : S) (w : World), CurE B b s w →
    Calls Tryz.prog 104 #[.pointer (some ⟨b, 0, none⟩), .int .i64 kind, .int .i64 dep] w (DrawsXE n B b w (f s))
set_option maxHeartbeats 16000000 in
set_option maxRecDepth 100000 in
theorem sumE_leaf (dep : Int) (hdep : dep ≤ 0) (hlo : -1000 ≤ dep) : SumE 1 1 dep (numM 0) := by
  intro B b s w hc
  have HM := Lib.hid (show numM 0 s = (1, leafM s) from rfl)
  generalize numM 0 s = r at *
  have hlt := hc.lt
  have HS0 := Lib.hid (⟨But.refl b w, hc, hlt⟩ : StE w B b s w); clear hc
  have hp : 1 ≤ 1 := by decide
  have k0 : decide (dep ≤ 0) = true := by simpa using hdep
  go_enter Tryz.func104, Tryz.ntmps104
  have HU := Lib.hid (show leafM s = (let a := belowM 4 s; if a.1 = 0 then wordM a.2 else if a.1 = 1 then (belowM 3 a.2).2 else (belowM 6 a.2).2) from rfl)
  generalize leafM s = r1 at *
  have HB := Lib.hid (belowE B b 4 s w HS0.out.cur (by decide) (by decide))
  have RB := belowM_range (n := 4) (by decide) s
  generalize belowM 4 s = q at *
  obtain ⟨y, sa⟩ := q
  dsimp only at RB HU
  go_wp2_with fail
  refine HB.out.mono ?_; rintro e wa ⟨rfl, hc, hw⟩
  have HSa := Lib.hid (HS0.out.draws hw hc); clear hc hw HB HS0
  dsimp only at HSa
  by_cases e0 : y = 0
  · subst e0
    replace HU := Lib.hid (HU.out.trans (if_pos rfl))
    go_wp2_with fail
    refine (wordE B b sa _ HSa.out.cur).mono ?_; rintro e wb ⟨v, rfl, v0, v1, hcb, hwb⟩
    have HSb := Lib.hid (HSa.out.draws hwb hcb); clear hwb hcb HSa
    go_wp2_with fail
    refine (l1Int_any v wb (by omega) (by omega)).mono ?_; rintro e wc ⟨rfl, bc⟩
    have HSc := Lib.hid (HSb.out.below bc); clear bc HSb
    have HL := Lib.hid (lit1 (B := w.heap.size) wc (Lib.itoa v) HSc.out.size)
    have HLN := Lib.hid (Lib.itoa_length_le v (by omega) (by omega))
    go_wp2_with fail
    go_ret
    exact ⟨_, [Lib.itoa v], rfl, HL.out, hp, by rw [HM.out]; rfl, SmT.one (by have := HLN.out; omega), by rw [HM.out, HU.out]; exact (HSc.out.alloc _).cur, (HSc.out.alloc _).but⟩
  have k1 : (y == 0) = false := by rw [beq_eq_false_iff_ne]; exact e0
  replace HU := Lib.hid (HU.out.trans (if_neg e0))
  by_cases e1 : y = 1
  · subst e1
    replace HU := Lib.hid (HU.out.trans (if_pos rfl))
    have HB := Lib.hid (belowE B b 3 sa wa HSa.out.cur (by decide) (by decide))
    have RB := belowM_range (n := 3) (by decide) sa
    generalize belowM 3 sa = q at *
    obtain ⟨v, sb⟩ := q
    dsimp only at RB HU
    go_wp2_with fail
    refine HB.out.mono ?_; rintro e wb ⟨rfl, hc, hw⟩
    have HSb := Lib.hid (HSa.out.draws hw hc); clear hc hw HB HSa
    dsimp only at HSb
    go_wp2_with fail
    refine (l1Int_any v wb (by omega) (by omega)).mono ?_; rintro e wc ⟨rfl, bc⟩
    have HSc := Lib.hid (HSb.out.below bc); clear bc HSb
    have hsz : (⟨(Lib.itoa v).toArray⟩ : ByteArray).size ≤ 21 := by have := Lib.itoa_length_le v (by omega) (by omega); rw [tx_itoa, tx_size]; exact this
    generalize (⟨(Lib.itoa v).toArray⟩ : ByteArray) = t at *
    have hcat : ¬ 9223372036854775807 < (⟨#[64]⟩ : ByteArray).size + t.size := by show ¬ 9223372036854775807 < 1 + t.size; omega
    have HAT := Lib.hid (at_app t)
    have HL := Lib.hid (lit1 (B := w.heap.size) wc (64 :: t.data.toList) HSc.out.size)
    rw [← HAT.out] at HL
    have HLN := Lib.hid hsz
    go_wp2_with fail
    go_ret
    exact ⟨_, [64 :: t.data.toList], rfl, HL.out, hp, by rw [HM.out]; rfl, SmT.one (by have := HLN.out; have := llen t; simp only [List.length_cons]; omega), by rw [HM.out, HU.out]; exact (HSc.out.alloc _).cur, (HSc.out.alloc _).but⟩
  have k2 : (y == 1) = false := by rw [beq_eq_false_iff_ne]; exact e1
  replace HU := Lib.hid (HU.out.trans (if_neg e1))
  go_wp2_with fail
  refine (nameE B b sa _ HSa.out.cur).mono ?_; rintro e wb ⟨s', rfl, hnm, hcb, hwb⟩
  have HSb := Lib.hid (HSa.out.draws hwb hcb); clear hwb hcb HSa
  obtain ⟨t, rfl⟩ : ∃ t, s' = tx t := ⟨_, (tx_of s').symm⟩
  rw [tx_data] at hnm
  have HLN := Lib.hid (nm_len hnm); clear hnm
  have HL := Lib.hid (lit1 (B := w.heap.size) wb t HSb.out.size)
  go_wp2_with fail
  go_ret
  exact ⟨_, [t], rfl, HL.out, hp, by rw [HM.out]; rfl, SmT.one (by have := HLN.out; omega), by rw [HM.out, HU.out]; exact (HSb.out.alloc _).cur, (HSb.out.alloc _).but⟩
set_option maxHeartbeats 16000000 in
set_option maxRecDepth 100000 in
theorem sumE_num (d n : Nat) (hn : n ≤ 100000) (dep : Int) (hdep : 0 < dep) (hhi : dep ≤ 1000) (ih : SumE n 1 (dep - 1) (numM d)) : SumE (1 + n + n) 1 dep (numM (d + 1)) := by
  intro B b s w hc
  have HM := Lib.hid (show numM (d + 1) s = (let a := belowM 2 s; if a.1 = 0 then (1, leafM a.2) else twoM (numM d) (belowM 4 a.2).2) from rfl)
  generalize numM (d + 1) s = r at *
  have hlt := hc.lt
  have HB0 := Lib.hid (onceE B b 2 s w hc (by decide) (by decide))
  generalize belowM 2 s = q at *
  obtain ⟨x, s1⟩ := q
  dsimp only at HM
  have HS0 := Lib.hid (⟨But.refl b w, hc, hlt⟩ : StE w B b s w); clear hc
  have IH1 := Lib.hid ih; clear ih
  have hp : 1 ≤ 1 + n + n := by omega
  have k0 : decide (dep ≤ 0) = false := by simpa using hdep
  go_enter Tryz.func104, Tryz.ntmps104
  go_wp2_with fail
  refine HB0.out.mono ?_; rintro e w1 ⟨rfl, hc1, hw1⟩
  dsimp only at hc1
  have HS1 := Lib.hid (HS0.out.draws hw1 hc1); clear hw1 hc1 HS0 HB0
  by_cases x0 : x = 0
  · subst x0
    replace HM := Lib.hid (HM.out.trans (if_pos rfl))
    clear IH1
    have HU := Lib.hid (show leafM s1 = (let a := belowM 4 s1; if a.1 = 0 then wordM a.2 else if a.1 = 1 then (belowM 3 a.2).2 else (belowM 6 a.2).2) from rfl)
    generalize leafM s1 = r1 at *
    have HB := Lib.hid (belowE B b 4 s1 w1 HS1.out.cur (by decide) (by decide))
    have RB := belowM_range (n := 4) (by decide) s1
    generalize belowM 4 s1 = q at *
    obtain ⟨y, sa⟩ := q
    dsimp only at RB HU
    go_wp2_with fail
    refine HB.out.mono ?_; rintro e wa ⟨rfl, hc, hw⟩
    have HSa := Lib.hid (HS1.out.draws hw hc); clear hc hw HB HS1
    dsimp only at HSa
    by_cases e0 : y = 0
    · subst e0
      replace HU := Lib.hid (HU.out.trans (if_pos rfl))
      go_wp2_with fail
      refine (wordE B b sa _ HSa.out.cur).mono ?_; rintro e wb ⟨v, rfl, v0, v1, hcb, hwb⟩
      have HSb := Lib.hid (HSa.out.draws hwb hcb); clear hwb hcb HSa
      go_wp2_with fail
      refine (l1Int_any v wb (by omega) (by omega)).mono ?_; rintro e wc ⟨rfl, bc⟩
      have HSc := Lib.hid (HSb.out.below bc); clear bc HSb
      have HL := Lib.hid (lit1 (B := w.heap.size) wc (Lib.itoa v) HSc.out.size)
      have HLN := Lib.hid (Lib.itoa_length_le v (by omega) (by omega))
      go_wp2_with fail
      go_ret
      exact ⟨_, [Lib.itoa v], rfl, HL.out, hp, by rw [HM.out]; rfl, SmT.one (by have := HLN.out; omega), by rw [HM.out, HU.out]; exact (HSc.out.alloc _).cur, (HSc.out.alloc _).but⟩
    have k1 : (y == 0) = false := by rw [beq_eq_false_iff_ne]; exact e0
    replace HU := Lib.hid (HU.out.trans (if_neg e0))
    by_cases e1 : y = 1
    · subst e1
      replace HU := Lib.hid (HU.out.trans (if_pos rfl))
      have HB := Lib.hid (belowE B b 3 sa wa HSa.out.cur (by decide) (by decide))
      have RB := belowM_range (n := 3) (by decide) sa
      generalize belowM 3 sa = q at *
      obtain ⟨v, sb⟩ := q
      dsimp only at RB HU
      go_wp2_with fail
      refine HB.out.mono ?_; rintro e wb ⟨rfl, hc, hw⟩
      have HSb := Lib.hid (HSa.out.draws hw hc); clear hc hw HB HSa
      dsimp only at HSb
      go_wp2_with fail
      refine (l1Int_any v wb (by omega) (by omega)).mono ?_; rintro e wc ⟨rfl, bc⟩
      have HSc := Lib.hid (HSb.out.below bc); clear bc HSb
      have hsz : (⟨(Lib.itoa v).toArray⟩ : ByteArray).size ≤ 21 := by have := Lib.itoa_length_le v (by omega) (by omega); rw [tx_itoa, tx_size]; exact this
      generalize (⟨(Lib.itoa v).toArray⟩ : ByteArray) = t at *
      have hcat : ¬ 9223372036854775807 < (⟨#[64]⟩ : ByteArray).size + t.size := by show ¬ 9223372036854775807 < 1 + t.size; omega
      have HAT := Lib.hid (at_app t)
      have HL := Lib.hid (lit1 (B := w.heap.size) wc (64 :: t.data.toList) HSc.out.size)
      rw [← HAT.out] at HL
      have HLN := Lib.hid hsz
      go_wp2_with fail
      go_ret
      exact ⟨_, [64 :: t.data.toList], rfl, HL.out, hp, by rw [HM.out]; rfl, SmT.one (by have := HLN.out; have := llen t; simp only [List.length_cons]; omega), by rw [HM.out, HU.out]; exact (HSc.out.alloc _).cur, (HSc.out.alloc _).but⟩
    have k2 : (y == 1) = false := by rw [beq_eq_false_iff_ne]; exact e1
    replace HU := Lib.hid (HU.out.trans (if_neg e1))
    go_wp2_with fail
    refine (nameE B b sa _ HSa.out.cur).mono ?_; rintro e wb ⟨s', rfl, hnm, hcb, hwb⟩
    have HSb := Lib.hid (HSa.out.draws hwb hcb); clear hwb hcb HSa
    obtain ⟨t, rfl⟩ : ∃ t, s' = tx t := ⟨_, (tx_of s').symm⟩
    rw [tx_data] at hnm
    have HLN := Lib.hid (nm_len hnm); clear hnm
    have HL := Lib.hid (lit1 (B := w.heap.size) wb t HSb.out.size)
    go_wp2_with fail
    go_ret
    exact ⟨_, [t], rfl, HL.out, hp, by rw [HM.out]; rfl, SmT.one (by have := HLN.out; omega), by rw [HM.out, HU.out]; exact (HSb.out.alloc _).cur, (HSb.out.alloc _).but⟩
  · have x1 : (x == 0) = false := beq_eq_false_iff_ne.2 x0
    replace HM := Lib.hid (HM.out.trans (if_neg x0))
    have HLB := Lib.hid (fun o => HS1.out.alloc o)
    go_wp2_with fail
    have R := belowM_range (n := 4) (by decide) s1
    refine (belowE B b _ s1 _ (HLB.out _).cur (by decide) (by decide)).mono ?_; rintro e w2 ⟨rfl, hc2, hw2⟩
    generalize belowM 4 s1 = q at *
    obtain ⟨y, s2⟩ := q
    dsimp only at HM R hc2 hw2
    obtain ⟨m, rfl⟩ := Int.eq_ofNat_of_zero_le R.1
    obtain ⟨s', hs, c0⟩ := pick_tx (ts := [[43], [45], [42], [47]]) HS1.out.cur.lt hw2 (k := m) (by simp; omega)
    have hsl := mem_short hs (by decide)
    have HS2 := Lib.hid ((HLB.out _).draws hw2 hc2); clear hw2 hc2 hs HLB
    have hm4 : m < 4 := by omega
    have HT := Lib.hid (show twoM (numM d) s2 = (1 + (numM d s2).1 + (numM d (numM d s2).2).1, (numM d (numM d s2).2).2) from rfl)
    rw [HT.out] at HM; clear HT
    have HK := Lib.hid (lit1 (B := w.heap.size) w2 s' HS2.out.size)
    have HSa := Lib.hid (HS2.out.alloc (.cells #[.string (tx s')] 9)); clear HS2
    have HC1 := Lib.hid (IH1.out B b s2 _ HSa.out.cur)
    generalize numM d s2 = q1 at *
    obtain ⟨m1, t1⟩ := q1
    dsimp only at HM HC1
    go_wp2_with fail
    refine HC1.out.mono ?_; rintro e x1 ⟨v1, l1, rfl, o1, n1, q1, s1, hd1, hx1⟩
    dsimp only at q1 hd1
    have Q1 := Lib.hid q1; clear q1
    have HK1 := Lib.hid (HK.out.but hx1 hlt)
    have HX1 := Lib.hid (HSa.out.draws hx1 hd1); clear hx1 hd1 HSa HK HC1
    obtain ⟨a1, c1, rfl, hv1⟩ := o1.form
    have HV1 := Lib.hid hv1
    have HM1 := Lib.hid s1
    clear o1 hv1 s1
    go_wp2_with (first
      | (at_builtin; refine append_tx rfl (.tmp 69) (.tmp 74) rfl (base := w.heap.size) (l := [s']) (m := l1) rfl rfl rfl HK1.out HV1.out (by simp; omega) HX1.out.size ?_; intro v2 x2 o2 g2; have O2 := Lib.hid (And.intro o2 g2); clear o2 g2))
    have HX2 := Lib.hid (HX1.out.grown O2.out.2 (fun k hk => OT.lt HK1.out k hk))
    have HC2 := Lib.hid (IH1.out B b t1 _ HX2.out.cur)
    generalize numM d t1 = q2 at *
    obtain ⟨m2, t2⟩ := q2
    dsimp only at HM HC2
    refine HC2.out.mono ?_; rintro e x3 ⟨v3, l3, rfl, o3, n3, q3, s3, hd3, hx3⟩
    dsimp only at q3 hd3
    have Q3 := Lib.hid q3; clear q3
    have HK3 := Lib.hid (O2.out.1.but hx3 hlt)
    have HX3 := Lib.hid (HX2.out.draws hx3 hd3); clear hx3 hd3 HX1 HX2 HC2
    obtain ⟨a3, c3, rfl, hv3⟩ := o3.form
    have HV3 := Lib.hid hv3
    have HM3 := Lib.hid s3
    clear o3 hv3 s3
    go_wp2_with (first
      | (at_builtin; refine append_tx rfl (.tmp 75) (.tmp 80) rfl (base := w.heap.size) (l := [s'] ++ l1) (m := l3) rfl rfl rfl HK3.out HV3.out (by simp; omega) HX3.out.size ?_; intro v4 x4 o4 g4; have O4 := Lib.hid (And.intro o4 g4); clear o4 g4))
    have HX4 := Lib.hid (HX3.out.grown O4.out.2 (fun k hk => OT.lt HK3.out k hk))
    go_ret
    exact ⟨_, _, rfl, O4.out.1, by simp; omega, by rw [HM.out]; have := Q1.out; have := Q3.out; simp; omega, ((SmT.one hsl).app HM1.out).app HM3.out, by rw [HM.out]; exact HX4.out.cur, HX4.out.but⟩
set_option maxHeartbeats 16000000 in
set_option maxRecDepth 100000 in
theorem sumE_tru (n : Nat) (hn : n ≤ 100000) (f g : S → Nat × S) (fM : S → Nat × S) (dep : Int) (hlo : -1000 ≤ dep) (hhi : dep ≤ 1000)
    (hf : ∀ s, fM s = (let a := belowM 4 s; if a.1 = 3 then twoM f a.2 else twoM g a.2)) (ih2 : 1 < dep → SumE n 2 (dep - 1) f) (ih1 : SumE n 1 (dep - 1) g) (he : ¬ 1 < dep → f = g) : SumE (1 + n + n) 2 dep fM := by
  intro B b s w hc
  have HM := Lib.hid (hf s); clear hf
  generalize fM s = r at *
  have hlt := hc.lt
  have R := belowM_range (n := 4) (by decide) s
  have HS0 := Lib.hid (⟨But.refl b w, hc, hlt⟩ : StE w B b s w); clear hc
  have IH1 := Lib.hid ih1; clear ih1
  have IHT := Lib.hid ih2; clear ih2
  have HE := Lib.hid he; clear he
  have HLB := Lib.hid (fun o => HS0.out.alloc o)
  go_enter Tryz.func104, Tryz.ntmps104
  go_wp2_with fail
  refine (belowE B b _ s _ (HLB.out _).cur (by decide) (by decide)).mono ?_; rintro e w2 ⟨rfl, hc2, hw2⟩
  generalize belowM 4 s = q at *
  obtain ⟨y, s2⟩ := q
  dsimp only at HM R hc2 hw2
  obtain ⟨m, rfl⟩ := Int.eq_ofNat_of_zero_le R.1
  obtain ⟨s', hs, c0⟩ := pick_tx (ts := [[60], [60], [61], [38]]) hlt hw2 (k := m) (by simp; omega)
  have hsl := mem_short hs (by decide)
  have HS2 := Lib.hid ((HLB.out _).draws hw2 hc2); clear hw2 hc2 HLB HS0
  have hm4 : m < 4 := by omega
  by_cases h3 : m = 3
  · obtain rfl : s' = [38] := by subst h3; simpa using hs.symm
    clear hs
    replace HM := Lib.hid (HM.out.trans (if_pos (by omega)))
    clear h3
    replace c0 : w2.cell? ⟨w.heap.size, m, none⟩ = some (.string ⟨#[38]⟩) := c0
    by_cases hd1 : 1 < dep
    · have k0 : decide (1 < dep) = true := by simpa using hd1
      have IH2 := Lib.hid (IHT.out hd1); clear IHT HE
      have HT := Lib.hid (show twoM (f) s2 = (1 + (f s2).1 + (f (f s2).2).1, (f (f s2).2).2) from rfl)
      rw [HT.out] at HM; clear HT
      have HK := Lib.hid (lit1 (B := w.heap.size) w2 [38] HS2.out.size)
      have HSa := Lib.hid (HS2.out.alloc (.cells #[.string (tx [38])] 9)); clear HS2
      have HC1 := Lib.hid (IH2.out B b s2 _ HSa.out.cur)
      generalize f s2 = q1 at *
      obtain ⟨m1, t1⟩ := q1
      dsimp only at HM HC1
      go_wp2_with fail
      refine HC1.out.mono ?_; rintro e x1 ⟨v1, l1, rfl, o1, n1, q1, s1, hd1, hx1⟩
      dsimp only at q1 hd1
      have Q1 := Lib.hid q1; clear q1
      have HK1 := Lib.hid (HK.out.but hx1 hlt)
      have HX1 := Lib.hid (HSa.out.draws hx1 hd1); clear hx1 hd1 HSa HK HC1
      obtain ⟨a1, c1, rfl, hv1⟩ := o1.form
      have HV1 := Lib.hid hv1
      have HM1 := Lib.hid s1
      clear o1 hv1 s1
      go_wp2_with (first
        | (at_builtin; refine append_tx rfl (.tmp 26) (.tmp 31) rfl (base := w.heap.size) (l := [[38]]) (m := l1) rfl rfl rfl HK1.out HV1.out (by simp; omega) HX1.out.size ?_; intro v2 x2 o2 g2; have O2 := Lib.hid (And.intro o2 g2); clear o2 g2))
      have HX2 := Lib.hid (HX1.out.grown O2.out.2 (fun k hk => OT.lt HK1.out k hk))
      have HC2 := Lib.hid (IH2.out B b t1 _ HX2.out.cur)
      generalize f t1 = q2 at *
      obtain ⟨m2, t2⟩ := q2
      dsimp only at HM HC2
      refine HC2.out.mono ?_; rintro e x3 ⟨v3, l3, rfl, o3, n3, q3, s3, hd3, hx3⟩
      dsimp only at q3 hd3
      have Q3 := Lib.hid q3; clear q3
      have HK3 := Lib.hid (O2.out.1.but hx3 hlt)
      have HX3 := Lib.hid (HX2.out.draws hx3 hd3); clear hx3 hd3 HX1 HX2 HC2
      obtain ⟨a3, c3, rfl, hv3⟩ := o3.form
      have HV3 := Lib.hid hv3
      have HM3 := Lib.hid s3
      clear o3 hv3 s3
      go_wp2_with (first
        | (at_builtin; refine append_tx rfl (.tmp 32) (.tmp 37) rfl (base := w.heap.size) (l := [[38]] ++ l1) (m := l3) rfl rfl rfl HK3.out HV3.out (by simp; omega) HX3.out.size ?_; intro v4 x4 o4 g4; have O4 := Lib.hid (And.intro o4 g4); clear o4 g4))
      have HX4 := Lib.hid (HX3.out.grown O4.out.2 (fun k hk => OT.lt HK3.out k hk))
      go_ret
      exact ⟨_, _, rfl, O4.out.1, by simp; omega, by rw [HM.out]; have := Q1.out; have := Q3.out; simp; omega, ((SmT.one (by decide)).app HM1.out).app HM3.out, by rw [HM.out]; exact HX4.out.cur, HX4.out.but⟩
    · have k0 : decide (1 < dep) = false := by simpa using hd1
      rw [HE.out (by omega)] at HM
      clear HE IHT
      have HT := Lib.hid (show twoM (g) s2 = (1 + (g s2).1 + (g (g s2).2).1, (g (g s2).2).2) from rfl)
      rw [HT.out] at HM; clear HT
      have HK := Lib.hid (lit1 (B := w.heap.size) w2 [60] HS2.out.size)
      have HSa := Lib.hid (HS2.out.alloc (.cells #[.string (tx [60])] 9)); clear HS2
      have HC1 := Lib.hid (IH1.out B b s2 _ HSa.out.cur)
      generalize g s2 = q1 at *
      obtain ⟨m1, t1⟩ := q1
      dsimp only at HM HC1
      go_wp2_with fail
      refine HC1.out.mono ?_; rintro e x1 ⟨v1, l1, rfl, o1, n1, q1, s1, hd1, hx1⟩
      dsimp only at q1 hd1
      have Q1 := Lib.hid q1; clear q1
      have HK1 := Lib.hid (HK.out.but hx1 hlt)
      have HX1 := Lib.hid (HSa.out.draws hx1 hd1); clear hx1 hd1 HSa HK HC1
      obtain ⟨a1, c1, rfl, hv1⟩ := o1.form
      have HV1 := Lib.hid hv1
      have HM1 := Lib.hid s1
      clear o1 hv1 s1
      go_wp2_with (first
        | (at_builtin; refine append_tx rfl (.tmp 26) (.tmp 31) rfl (base := w.heap.size) (l := [[60]]) (m := l1) rfl rfl rfl HK1.out HV1.out (by simp; omega) HX1.out.size ?_; intro v2 x2 o2 g2; have O2 := Lib.hid (And.intro o2 g2); clear o2 g2))
      have HX2 := Lib.hid (HX1.out.grown O2.out.2 (fun k hk => OT.lt HK1.out k hk))
      have HC2 := Lib.hid (IH1.out B b t1 _ HX2.out.cur)
      generalize g t1 = q2 at *
      obtain ⟨m2, t2⟩ := q2
      dsimp only at HM HC2
      refine HC2.out.mono ?_; rintro e x3 ⟨v3, l3, rfl, o3, n3, q3, s3, hd3, hx3⟩
      dsimp only at q3 hd3
      have Q3 := Lib.hid q3; clear q3
      have HK3 := Lib.hid (O2.out.1.but hx3 hlt)
      have HX3 := Lib.hid (HX2.out.draws hx3 hd3); clear hx3 hd3 HX1 HX2 HC2
      obtain ⟨a3, c3, rfl, hv3⟩ := o3.form
      have HV3 := Lib.hid hv3
      have HM3 := Lib.hid s3
      clear o3 hv3 s3
      go_wp2_with (first
        | (at_builtin; refine append_tx rfl (.tmp 32) (.tmp 37) rfl (base := w.heap.size) (l := [[60]] ++ l1) (m := l3) rfl rfl rfl HK3.out HV3.out (by simp; omega) HX3.out.size ?_; intro v4 x4 o4 g4; have O4 := Lib.hid (And.intro o4 g4); clear o4 g4))
      have HX4 := Lib.hid (HX3.out.grown O4.out.2 (fun k hk => OT.lt HK3.out k hk))
      go_ret
      exact ⟨_, _, rfl, O4.out.1, by simp; omega, by rw [HM.out]; have := Q1.out; have := Q3.out; simp; omega, ((SmT.one (by decide)).app HM1.out).app HM3.out, by rw [HM.out]; exact HX4.out.cur, HX4.out.but⟩
  · replace HM := Lib.hid (HM.out.trans (if_neg (by omega)))
    have h38 : s' ≠ [38] := by
      rintro rfl
      have : m = 0 ∨ m = 1 ∨ m = 2 := by omega
      rcases this with rfl | rfl | rfl <;> simp at hs
    clear hs IHT HE h3
    have q1 := tx_neL h38
    have HT := Lib.hid (show twoM (g) s2 = (1 + (g s2).1 + (g (g s2).2).1, (g (g s2).2).2) from rfl)
    rw [HT.out] at HM; clear HT
    have HK := Lib.hid (lit1 (B := w.heap.size) w2 s' HS2.out.size)
    have HSa := Lib.hid (HS2.out.alloc (.cells #[.string (tx s')] 9)); clear HS2
    have HC1 := Lib.hid (IH1.out B b s2 _ HSa.out.cur)
    generalize g s2 = q1 at *
    obtain ⟨m1, t1⟩ := q1
    dsimp only at HM HC1
    go_wp2_with fail
    refine HC1.out.mono ?_; rintro e x1 ⟨v1, l1, rfl, o1, n1, q1, s1, hd1, hx1⟩
    dsimp only at q1 hd1
    have Q1 := Lib.hid q1; clear q1
    have HK1 := Lib.hid (HK.out.but hx1 hlt)
    have HX1 := Lib.hid (HSa.out.draws hx1 hd1); clear hx1 hd1 HSa HK HC1
    obtain ⟨a1, c1, rfl, hv1⟩ := o1.form
    have HV1 := Lib.hid hv1
    have HM1 := Lib.hid s1
    clear o1 hv1 s1
    go_wp2_with (first
      | (at_builtin; refine append_tx rfl (.tmp 26) (.tmp 31) rfl (base := w.heap.size) (l := [s']) (m := l1) rfl rfl rfl HK1.out HV1.out (by simp; omega) HX1.out.size ?_; intro v2 x2 o2 g2; have O2 := Lib.hid (And.intro o2 g2); clear o2 g2))
    have HX2 := Lib.hid (HX1.out.grown O2.out.2 (fun k hk => OT.lt HK1.out k hk))
    have HC2 := Lib.hid (IH1.out B b t1 _ HX2.out.cur)
    generalize g t1 = q2 at *
    obtain ⟨m2, t2⟩ := q2
    dsimp only at HM HC2
    refine HC2.out.mono ?_; rintro e x3 ⟨v3, l3, rfl, o3, n3, q3, s3, hd3, hx3⟩
    dsimp only at q3 hd3
    have Q3 := Lib.hid q3; clear q3
    have HK3 := Lib.hid (O2.out.1.but hx3 hlt)
    have HX3 := Lib.hid (HX2.out.draws hx3 hd3); clear hx3 hd3 HX1 HX2 HC2
    obtain ⟨a3, c3, rfl, hv3⟩ := o3.form
    have HV3 := Lib.hid hv3
    have HM3 := Lib.hid s3
    clear o3 hv3 s3
    go_wp2_with (first
      | (at_builtin; refine append_tx rfl (.tmp 32) (.tmp 37) rfl (base := w.heap.size) (l := [s'] ++ l1) (m := l3) rfl rfl rfl HK3.out HV3.out (by simp; omega) HX3.out.size ?_; intro v4 x4 o4 g4; have O4 := Lib.hid (And.intro o4 g4); clear o4 g4))
    have HX4 := Lib.hid (HX3.out.grown O4.out.2 (fun k hk => OT.lt HK3.out k hk))
    go_ret
    exact ⟨_, _, rfl, O4.out.1, by simp; omega, by rw [HM.out]; have := Q1.out; have := Q3.out; simp; omega, ((SmT.one hsl).app HM1.out).app HM3.out, by rw [HM.out]; exact HX4.out.cur, HX4.out.but⟩
theorem sumE_num1 : SumE 3 1 1 (numM 1) := sumE_num 0 1 (by decide) 1 (by decide) (by decide) (sumE_leaf _ (by decide) (by decide))
theorem sumE_num2 : SumE 7 1 2 (numM 2) := sumE_num 1 3 (by decide) 2 (by decide) (by decide) sumE_num1
theorem sumE_tru1 : SumE 3 2 1 (truM 1) := sumE_tru 1 (by decide) (numM 0) (numM 0) (truM 1) 1 (by decide) (by decide) (fun s => by show twoM (numM 0) (belowM 4 s).2 = _; dsimp only; split <;> rfl) (fun h => absurd h (by decide)) (sumE_leaf _ (by decide) (by decide)) (fun _ => rfl)
theorem sumE_tru2 : SumE 7 2 2 (truM 2) := sumE_tru 3 (by decide) (truM 1) (numM 1) (truM 2) 2 (by decide) (by decide) (fun s => rfl) (fun _ => sumE_tru1) sumE_num1 (fun h => absurd (show (1 : Int) < 2 by decide) h)
end Go.Proofs.YtfnnoehpahdgcaaGreatDoor.Cl
namespace Go.Proofs.YtfnnoehpahdgcaaGreatDoor.Cl
set_option linter.unusedVariables false
open Go.RowKit Wd Rp Cu Kp Lc
theorem litV (w : World) (ts : List Tk) (h : ts.length ≤ 100) : V1 (w.alloc (.cells (ts.map tv).toArray 9)) (some ⟨w.heap.size, 0, none⟩) ts.length (txL ts) := by
  have h1 := O1.lit (T := 9) (B := 0) (w := w) (Nat.zero_le _) (ts.map tv).toArray (by unfold maxLen; simp; omega)
  have h2 := O1.vw h1
  simp only [List.size_toArray, List.length_map] at h2
  exact h2
def DL (w : World) (B b : Nat) (f : S → Nat × S) (M tot : Nat) (r : Nat × S) (v : Value) (k : Nat) (wr : World) : Prop :=
  ∃ (l : List Tk) (st : S), OT w.heap.size wr v l ∧ SmT l ∧ l.length + k * M ≤ tot ∧ r = (l.length + (loopM f k st).1, (loopM f k st).2) ∧ StE w B b st wr
theorem DL.step {w : World} {B b : Nat} {f : S → Nat × S} {M tot : Nat} {r q : Nat × S} {v' : Value} {k : Nat} {wr' : World} {l L' : List Tk} {st : S} (hk : 0 < k) (hq : f st = q) (ho : OT w.heap.size wr' v' L') (hs : SmT L')
    (hlen : L'.length = l.length + q.1) (hM : q.1 ≤ M) (hl : l.length + k * M ≤ tot) (hr : r = (l.length + (loopM f k st).1, (loopM f k st).2)) (hst : StE w B b q.2 wr') : DL w B b f M tot r v' (k - 1) wr' := by
  obtain ⟨k, rfl⟩ : ∃ j, k = j + 1 := ⟨k - 1, by omega⟩
  refine ⟨L', q.2, ho, hs, ?_, ?_, hst⟩
  · rw [Nat.add_sub_cancel]
    rw [Nat.succ_mul] at hl
    omega
  · rw [hr, Nat.add_sub_cancel]
    show (l.length + ((f st).1 + (loopM f k (f st).2).1), (loopM f k (f st).2).2) = _
    rw [hq, hlen, Nat.add_assoc]
def DeedsC (N : Nat) (dep most : Int) (f : S → Nat × S) : Prop := ∀ (B b : Nat) (s : S) (w : World), CurE B b s w →
    Calls Tryz.prog 92 #[.pointer (some ⟨b, 0, none⟩), .int .i64 dep, .int .i64 most] w (DrawsXE N B b w (f s))
set_option maxHeartbeats 32000000 in
set_option maxRecDepth 100000 in
theorem deeds0E (dep : Int) (hdep : dep ≤ 0) (hlo : -1000 ≤ dep) (M : Nat) (hM : M = 9) (most : Int) (h1 : 1 ≤ most) (h5 : most ≤ 5) :
    DeedsC (4 * M) dep most (fun s => loopM (deedM none) (belowM most s).1.toNat (belowM most s).2) := by
  intro B b s w hc
  have hlt := hc.lt
  have HB0 := Lib.hid (belowE B b most s _ (hc.alloc (.cells #[] 9)) (by omega) (by omega))
  have RB0 := belowM_range h1 s
  have HR0 := Lib.hid (show (fun s => loopM (deedM none) (belowM most s).1.toNat (belowM most s).2) s = loopM (deedM none) (belowM most s).1.toNat (belowM most s).2 from rfl)
  generalize (fun s => loopM (deedM none) (belowM most s).1.toNat (belowM most s).2) s = r at *
  generalize belowM most s = qq at *
  obtain ⟨n0, st0⟩ := qq
  dsimp only at RB0 HR0
  have HS := Lib.hid (StE.alloc ⟨But.refl b w, hc, hlt⟩ : ∀ o, StE w B b s (w.alloc o)); clear hc
  have HO := Lib.hid (show OT w.heap.size (w.alloc (.cells #[] 9)) (.slice (some ⟨w.heap.size, 0, none⟩) 0 0) [] from O1.start (Nat.le_refl _))
  obtain ⟨k0, rfl⟩ := Int.eq_ofNat_of_zero_le RB0.1
  rw [Int.toNat_natCast] at HR0
  go_enter Tryz.func92, Tryz.ntmps92
  go_wp2_with fail
  refine HB0.out.mono ?_; rintro e w0 ⟨rfl, hc, hw⟩
  dsimp only at hc
  have HSW := Lib.hid ((HS.out _).draws hw hc)
  have HOW := Lib.hid (HO.out.but hw hlt)
  clear hc hw HS HO HB0
  go_wp2_with fail
  go_loopw [7, 8, 9] (fun v n _ wr => ∃ k : Nat, k ≤ 4 ∧ n = .int .i64 (k : Int) ∧ DL w B b (deedM none) M (4 * M) r v k wr) (fun _ n _ _ => intV n)
  case atStart => exact ⟨k0, by omega, rfl, [], st0, HOW.out, (fun c hc => by cases hc), (by have : k0 * M ≤ 4 * M := Nat.mul_le_mul_right _ (by omega); simpa using this), by rw [HR0.out] <;> simp, HSW.out⟩
  case round =>
    clear HSW HOW HR0
    obtain ⟨k, hk4, rfl, l, st, ho, hsm, hlk, hr, hst⟩ := hrel
    have HO := Lib.hid ho
    have HSM := Lib.hid hsm
    have HLK := Lib.hid hlk
    have HR := Lib.hid hr
    have HS := Lib.hid hst
    have hl0 : l.length ≤ 4 * M := by omega
    clear ho hsm hlk hr hst
    by_cases hp : 0 < k
    · have i1 : (0 : Int) < (k : Int) := by omega
      have HF := Lib.hid (show deedM none st = deedM none st from rfl)
      have HM := Lib.hid (show deedM none st = (let a := belowM 8 st; if a.1 = 0 then (2, (belowM 6 a.2).2) else if a.1 = 1 then (let b := belowM 4 a.2; (if b.1 = 0 then 1 else 0, b.2)) else if a.1 = 2 ∨ a.1 = 3 then (0, a.2) else if a.1 = 4 then (0, a.2) else (let b := numM 2 (belowM 6 a.2).2; (2 + b.1, b.2))) from rfl)
      generalize hq : deedM none st = q at HM
      replace HF := Lib.hid hq; clear hq
      have HB1 := Lib.hid (belowE B b 8 st wr HS.out.cur (by decide) (by decide))
      have RB1 := belowM_range (n := 8) (by decide) st
      generalize belowM 8 st = qq at *
      obtain ⟨x, st1⟩ := qq
      dsimp only at RB1 HM
      go_wp2_with fail
      refine HB1.out.mono ?_; rintro e w1 ⟨rfl, hc, hw⟩
      dsimp only at hc
      have HS1 := Lib.hid (HS.out.draws hw hc)
      have HO1 := Lib.hid (HO.out.but hw hlt)
      clear hc hw
      clear HB1
      by_cases x0 : x = 0
      · subst x0
        replace HM := Lib.hid (HM.out.trans (if_pos rfl))
        have HB2 := Lib.hid (nameE B b st1 w1 HS1.out.cur)
        generalize belowM 6 st1 = qq at *
        obtain ⟨ny2, st2⟩ := qq
        dsimp only at HM HB2
        go_wp2_with fail
        refine HB2.out.mono ?_; rintro e w2 ⟨tt, rfl, hnm, hc, hw⟩
        obtain ⟨t, rfl⟩ : ∃ t, tt = tx t := ⟨_, (tx_of tt).symm⟩
        rw [tx_data] at hnm
        have HNt := Lib.hid (nm_len hnm); clear hnm HB2
        have HS2 := Lib.hid (HS1.out.draws hw hc)
        have HO2 := Lib.hid (HO1.out.but hw hlt)
        clear hc hw
        have HV3 := Lib.hid (litV w2 [[99, 117, 116], t] (by simp))
        have HP3 := Lib.hid (HS2.out.alloc (.cells ([[99, 117, 116], t].map tv).toArray 9))
        have HQ3 := Lib.hid (HO2.out.next (bel1 w2 (.cells ([[99, 117, 116], t].map tv).toArray 9)))
        go_wp2_with (first
          | (at_builtin; refine append_tx rfl (.tmp 31) (.tmp 34) rfl (base := w.heap.size) (l := l) (m := [[99, 117, 116], t]) rfl rfl rfl HQ3.out HV3.out (by simp; omega) HP3.out.size ?_; intro v3 w3 oo gg; have HS3 := Lib.hid (HP3.out.grown gg (fun k hk => OT.lt HQ3.out k hk)); have HO3 := Lib.hid oo; clear oo gg))
        have i2 : (k : Int) - 1 = ((k - 1 : Nat) : Int) := by omega
        go_roundw
        case rel => exact ⟨k - 1, by omega, by go_num, DL.step hp HF.out HO3.out (SmT.app HSM.out ((SmT.one (by decide)).app (SmT.one (by have := HNt.out; omega)))) (by rw [HM.out]; simp <;> omega) (by rw [HM.out]; (try dsimp only) <;> omega) HLK.out HR.out (by rw [HM.out]; exact HS3.out)⟩
        case measure => simp [intV]; omega
      have e0 : (x == 0) = false := beq_eq_false_iff_ne.2 x0
      replace HM := Lib.hid (HM.out.trans (if_neg x0))
      by_cases x1 : x = 1
      · subst x1
        replace HM := Lib.hid (HM.out.trans (if_pos rfl))
        have HB2 := Lib.hid (onceE B b 4 st1 w1 HS1.out.cur (by decide) (by decide))
        have RB2 := belowM_range (n := 4) (by decide) st1
        generalize belowM 4 st1 = qq at *
        obtain ⟨y, st2⟩ := qq
        dsimp only at RB2 HM
        go_wp2_with fail
        refine HB2.out.mono ?_; rintro e w2 ⟨rfl, hc, hw⟩
        dsimp only at hc
        have HS2 := Lib.hid (HS1.out.draws hw hc)
        have HO2 := Lib.hid (HO1.out.but hw hlt)
        clear hc hw
        clear HB2
        by_cases y0 : y = 0
        · subst y0
          have HV3 := Lib.hid (litV w2 [[115, 116, 111, 112]] (by simp))
          have HP3 := Lib.hid (HS2.out.alloc (.cells ([[115, 116, 111, 112]].map tv).toArray 9))
          have HQ3 := Lib.hid (HO2.out.next (bel1 w2 (.cells ([[115, 116, 111, 112]].map tv).toArray 9)))
          go_wp2_with (first
            | (at_builtin; refine append_tx rfl (.tmp 40) (.tmp 41) rfl (base := w.heap.size) (l := l) (m := [[115, 116, 111, 112]]) rfl rfl rfl HQ3.out HV3.out (by simp; omega) HP3.out.size ?_; intro v3 w3 oo gg; have HS3 := Lib.hid (HP3.out.grown gg (fun k hk => OT.lt HQ3.out k hk)); have HO3 := Lib.hid oo; clear oo gg))
          replace HM := Lib.hid (show q = (1, st2) by rw [HM.out]; simp)
          have i2 : (k : Int) - 1 = ((k - 1 : Nat) : Int) := by omega
          go_roundw
          case rel => exact ⟨k - 1, by omega, by go_num, DL.step hp HF.out HO3.out (SmT.app HSM.out (SmT.one (by decide))) (by rw [HM.out]; simp <;> omega) (by rw [HM.out]; (try dsimp only) <;> omega) HLK.out HR.out (by rw [HM.out]; exact HS3.out)⟩
          case measure => simp [intV]; omega
        · have f0 : (y == 0) = false := beq_eq_false_iff_ne.2 y0
          replace HM := Lib.hid (show q = (0, st2) by rw [HM.out, if_neg y0])
          go_wp2_with fail
          have i2 : (k : Int) - 1 = ((k - 1 : Nat) : Int) := by omega
          go_roundw
          case rel => exact ⟨k - 1, by omega, by go_num, DL.step hp HF.out HO2.out HSM.out (by rw [HM.out]; simp <;> omega) (by rw [HM.out]; (try dsimp only) <;> omega) HLK.out HR.out (by rw [HM.out]; exact HS2.out)⟩
          case measure => simp [intV]; omega
      have e1 : (x == 1) = false := beq_eq_false_iff_ne.2 x1
      replace HM := Lib.hid (HM.out.trans (if_neg x1))
      by_cases x2 : x = 2
      · subst x2
        replace HM := Lib.hid (HM.out.trans (if_pos (Or.inl rfl)))
        try dsimp only at HM
        have d0 : decide (0 < dep) = false := by simpa using hdep
        go_wp2_with fail
        have i2 : (k : Int) - 1 = ((k - 1 : Nat) : Int) := by omega
        go_roundw
        case rel => exact ⟨k - 1, by omega, by go_num, DL.step hp HF.out HO1.out HSM.out (by rw [HM.out]; simp <;> omega) (by rw [HM.out]; (try dsimp only) <;> omega) HLK.out HR.out (by rw [HM.out]; exact HS1.out)⟩
        case measure => simp [intV]; omega
      have e2 : (x == 2) = false := beq_eq_false_iff_ne.2 x2
      by_cases x3 : x = 3
      · subst x3
        replace HM := Lib.hid (HM.out.trans (if_pos (Or.inr rfl)))
        try dsimp only at HM
        have d0 : decide (0 < dep) = false := by simpa using hdep
        go_wp2_with fail
        have i2 : (k : Int) - 1 = ((k - 1 : Nat) : Int) := by omega
        go_roundw
        case rel => exact ⟨k - 1, by omega, by go_num, DL.step hp HF.out HO1.out HSM.out (by rw [HM.out]; simp <;> omega) (by rw [HM.out]; (try dsimp only) <;> omega) HLK.out HR.out (by rw [HM.out]; exact HS1.out)⟩
        case measure => simp [intV]; omega
      have e3 : (x == 3) = false := beq_eq_false_iff_ne.2 x3
      replace HM := Lib.hid (HM.out.trans (if_neg (by omega)))
      by_cases x4 : x = 4
      · subst x4
        replace HM := Lib.hid (HM.out.trans (if_pos rfl))
        try dsimp only at HM
        have d0 : decide (0 < dep) = false := by simpa using hdep
        go_wp2_with fail
        have i2 : (k : Int) - 1 = ((k - 1 : Nat) : Int) := by omega
        go_roundw
        case rel => exact ⟨k - 1, by omega, by go_num, DL.step hp HF.out HO1.out HSM.out (by rw [HM.out]; simp <;> omega) (by rw [HM.out]; (try dsimp only) <;> omega) HLK.out HR.out (by rw [HM.out]; exact HS1.out)⟩
        case measure => simp [intV]; omega
      have e4 : (x == 4) = false := beq_eq_false_iff_ne.2 x4
      replace HM := Lib.hid (HM.out.trans (if_neg x4))
      try dsimp only at HM
      have HB2 := Lib.hid (nameE B b st1 w1 HS1.out.cur)
      generalize belowM 6 st1 = qq at *
      obtain ⟨ny2, st2⟩ := qq
      dsimp only at HM HB2
      go_wp2_with fail
      refine HB2.out.mono ?_; rintro e w2 ⟨tt, rfl, hnm, hc, hw⟩
      obtain ⟨t, rfl⟩ : ∃ t, tt = tx t := ⟨_, (tx_of tt).symm⟩
      rw [tx_data] at hnm
      have HNt := Lib.hid (nm_len hnm); clear hnm HB2
      have HS2 := Lib.hid (HS1.out.draws hw hc)
      have HO2 := Lib.hid (HO1.out.but hw hlt)
      clear hc hw
      have HV3 := Lib.hid (litV w2 [[115, 101, 116], t] (by simp))
      have HP3 := Lib.hid (HS2.out.alloc (.cells ([[115, 101, 116], t].map tv).toArray 9))
      have HQ3 := Lib.hid (HO2.out.next (bel1 w2 (.cells ([[115, 101, 116], t].map tv).toArray 9)))
      go_wp2_with (first
        | (at_builtin; refine append_tx rfl (.tmp 20) (.tmp 23) rfl (base := w.heap.size) (l := l) (m := [[115, 101, 116], t]) rfl rfl rfl HQ3.out HV3.out (by simp; omega) HP3.out.size ?_; intro v3 w3 oo gg; have HS3 := Lib.hid (HP3.out.grown gg (fun k hk => OT.lt HQ3.out k hk)); have HO3 := Lib.hid oo; clear oo gg))
      have HB4 := Lib.hid (sumE_num2 B b st2 w3 HS3.out.cur)
      generalize numM 2 st2 = qq at *
      obtain ⟨m4, st4⟩ := qq
      dsimp only at HM HB4
      refine HB4.out.mono ?_; rintro e w4 ⟨dv4, dl4, rfl, od, nd4, qd, sd, hc, hw⟩
      dsimp only at qd hc
      have QD4 := Lib.hid qd
      have SD4 := Lib.hid sd
      obtain ⟨da4, dc4, rfl, hvd⟩ := od.form
      have HV4 := Lib.hid hvd
      clear qd sd od hvd HB4
      have HS4 := Lib.hid (HS3.out.draws hw hc)
      have HO4 := Lib.hid (HO3.out.but hw hlt)
      clear hc hw
      go_wp2_with (first
        | (at_builtin; refine append_tx rfl (.tmp 25) (.tmp 27) rfl (base := w.heap.size) (l := (l ++ [[115, 101, 116], t])) (m := dl4) rfl rfl rfl HO4.out HV4.out (by simp; omega) HS4.out.size ?_; intro v5 w5 oo gg; have HS5 := Lib.hid (HS4.out.grown gg (fun k hk => OT.lt HO4.out k hk)); have HO5 := Lib.hid oo; clear oo gg))
      have i2 : (k : Int) - 1 = ((k - 1 : Nat) : Int) := by omega
      go_roundw
      case rel => exact ⟨k - 1, by omega, by go_num, DL.step hp HF.out HO5.out (SmT.app (SmT.app HSM.out ((SmT.one (by decide)).app (SmT.one (by have := HNt.out; omega)))) SD4.out) (by rw [HM.out]; have := QD4.out; simp <;> omega) (by rw [HM.out]; have := QD4.out; (try dsimp only) <;> omega) HLK.out HR.out (by rw [HM.out]; exact HS5.out)⟩
      case measure => simp [intV]; omega
    · obtain rfl : k = 0 := by omega
      go_wp2_with fail
      go_ret
      exact ⟨_, l, rfl, HO.out, hl0, by rw [HR.out]; rfl, HSM.out, by rw [HR.out]; exact HS.out.cur, HS.out.but⟩
set_option maxHeartbeats 32000000 in
set_option maxRecDepth 100000 in
theorem deeds1E (N : Nat) (hN : N ≤ 10000) (dep : Int) (hdep : 0 < dep) (hhi : dep ≤ 1000) (D : Int → S → Nat × S) (ih3 : DeedsC N (dep - 1) 3 (D 3)) (ih2 : DeedsC N (dep - 1) 2 (D 2)) (M : Nat) (hM : M = 12 + 2 * N) (most : Int) (h1 : 1 ≤ most) (h5 : most ≤ 5) :
    DeedsC (4 * M) dep most (fun s => loopM (deedM (some D)) (belowM most s).1.toNat (belowM most s).2) := by
  intro B b s w hc
  have hlt := hc.lt
  have HB0 := Lib.hid (belowE B b most s _ (hc.alloc (.cells #[] 9)) (by omega) (by omega))
  have RB0 := belowM_range h1 s
  have HR0 := Lib.hid (show (fun s => loopM (deedM (some D)) (belowM most s).1.toNat (belowM most s).2) s = loopM (deedM (some D)) (belowM most s).1.toNat (belowM most s).2 from rfl)
  generalize (fun s => loopM (deedM (some D)) (belowM most s).1.toNat (belowM most s).2) s = r at *
  generalize belowM most s = qq at *
  obtain ⟨n0, st0⟩ := qq
  dsimp only at RB0 HR0
  have HS := Lib.hid (StE.alloc ⟨But.refl b w, hc, hlt⟩ : ∀ o, StE w B b s (w.alloc o)); clear hc
  have HO := Lib.hid (show OT w.heap.size (w.alloc (.cells #[] 9)) (.slice (some ⟨w.heap.size, 0, none⟩) 0 0) [] from O1.start (Nat.le_refl _))
  have IH3 := Lib.hid ih3; clear ih3
  have IH2 := Lib.hid ih2; clear ih2
  obtain ⟨k0, rfl⟩ := Int.eq_ofNat_of_zero_le RB0.1
  rw [Int.toNat_natCast] at HR0
  go_enter Tryz.func92, Tryz.ntmps92
  go_wp2_with fail
  refine HB0.out.mono ?_; rintro e w0 ⟨rfl, hc, hw⟩
  dsimp only at hc
  have HSW := Lib.hid ((HS.out _).draws hw hc)
  have HOW := Lib.hid (HO.out.but hw hlt)
  clear hc hw HS HO HB0
  go_wp2_with fail
  go_loopw [7, 8, 9] (fun v n _ wr => ∃ k : Nat, k ≤ 4 ∧ n = .int .i64 (k : Int) ∧ DL w B b (deedM (some D)) M (4 * M) r v k wr) (fun _ n _ _ => intV n)
  case atStart => exact ⟨k0, by omega, rfl, [], st0, HOW.out, (fun c hc => by cases hc), (by have : k0 * M ≤ 4 * M := Nat.mul_le_mul_right _ (by omega); simpa using this), by rw [HR0.out] <;> simp, HSW.out⟩
  case round =>
    clear HSW HOW HR0
    obtain ⟨k, hk4, rfl, l, st, ho, hsm, hlk, hr, hst⟩ := hrel
    have HO := Lib.hid ho
    have HSM := Lib.hid hsm
    have HLK := Lib.hid hlk
    have HR := Lib.hid hr
    have HS := Lib.hid hst
    have hl0 : l.length ≤ 4 * M := by omega
    clear ho hsm hlk hr hst
    by_cases hp : 0 < k
    · have i1 : (0 : Int) < (k : Int) := by omega
      have HF := Lib.hid (show deedM (some D) st = deedM (some D) st from rfl)
      have HM := Lib.hid (show deedM (some D) st = (let a := belowM 8 st; if a.1 = 0 then (2, (belowM 6 a.2).2) else if a.1 = 1 then (let b := belowM 4 a.2; (if b.1 = 0 then 1 else 0, b.2)) else if a.1 = 2 ∨ a.1 = 3 then (let t := truM 2 a.2; let b := D 3 t.2; let c := D 3 b.2; (1 + t.1 + 1 + b.1 + 2 + c.1 + 1, c.2)) else if a.1 = 4 then (let b := D 2 (belowM 12 (belowM 6 a.2).2).2; (5 + b.1 + 6, b.2)) else (let b := numM 2 (belowM 6 a.2).2; (2 + b.1, b.2))) from rfl)
      generalize hq : deedM (some D) st = q at HM
      replace HF := Lib.hid hq; clear hq
      have HB1 := Lib.hid (belowE B b 8 st wr HS.out.cur (by decide) (by decide))
      have RB1 := belowM_range (n := 8) (by decide) st
      generalize belowM 8 st = qq at *
      obtain ⟨x, st1⟩ := qq
      dsimp only at RB1 HM
      go_wp2_with fail
      refine HB1.out.mono ?_; rintro e w1 ⟨rfl, hc, hw⟩
      dsimp only at hc
      have HS1 := Lib.hid (HS.out.draws hw hc)
      have HO1 := Lib.hid (HO.out.but hw hlt)
      clear hc hw
      clear HB1
      by_cases x0 : x = 0
      · subst x0
        replace HM := Lib.hid (HM.out.trans (if_pos rfl))
        have HB2 := Lib.hid (nameE B b st1 w1 HS1.out.cur)
        generalize belowM 6 st1 = qq at *
        obtain ⟨ny2, st2⟩ := qq
        dsimp only at HM HB2
        go_wp2_with fail
        refine HB2.out.mono ?_; rintro e w2 ⟨tt, rfl, hnm, hc, hw⟩
        obtain ⟨t, rfl⟩ : ∃ t, tt = tx t := ⟨_, (tx_of tt).symm⟩
        rw [tx_data] at hnm
        have HNt := Lib.hid (nm_len hnm); clear hnm HB2
        have HS2 := Lib.hid (HS1.out.draws hw hc)
        have HO2 := Lib.hid (HO1.out.but hw hlt)
        clear hc hw
        have HV3 := Lib.hid (litV w2 [[99, 117, 116], t] (by simp))
        have HP3 := Lib.hid (HS2.out.alloc (.cells ([[99, 117, 116], t].map tv).toArray 9))
        have HQ3 := Lib.hid (HO2.out.next (bel1 w2 (.cells ([[99, 117, 116], t].map tv).toArray 9)))
        go_wp2_with (first
          | (at_builtin; refine append_tx rfl (.tmp 31) (.tmp 34) rfl (base := w.heap.size) (l := l) (m := [[99, 117, 116], t]) rfl rfl rfl HQ3.out HV3.out (by simp; omega) HP3.out.size ?_; intro v3 w3 oo gg; have HS3 := Lib.hid (HP3.out.grown gg (fun k hk => OT.lt HQ3.out k hk)); have HO3 := Lib.hid oo; clear oo gg))
        have i2 : (k : Int) - 1 = ((k - 1 : Nat) : Int) := by omega
        go_roundw
        case rel => exact ⟨k - 1, by omega, by go_num, DL.step hp HF.out HO3.out (SmT.app HSM.out ((SmT.one (by decide)).app (SmT.one (by have := HNt.out; omega)))) (by rw [HM.out]; simp <;> omega) (by rw [HM.out]; (try dsimp only) <;> omega) HLK.out HR.out (by rw [HM.out]; exact HS3.out)⟩
        case measure => simp [intV]; omega
      have e0 : (x == 0) = false := beq_eq_false_iff_ne.2 x0
      replace HM := Lib.hid (HM.out.trans (if_neg x0))
      by_cases x1 : x = 1
      · subst x1
        replace HM := Lib.hid (HM.out.trans (if_pos rfl))
        have HB2 := Lib.hid (onceE B b 4 st1 w1 HS1.out.cur (by decide) (by decide))
        have RB2 := belowM_range (n := 4) (by decide) st1
        generalize belowM 4 st1 = qq at *
        obtain ⟨y, st2⟩ := qq
        dsimp only at RB2 HM
        go_wp2_with fail
        refine HB2.out.mono ?_; rintro e w2 ⟨rfl, hc, hw⟩
        dsimp only at hc
        have HS2 := Lib.hid (HS1.out.draws hw hc)
        have HO2 := Lib.hid (HO1.out.but hw hlt)
        clear hc hw
        clear HB2
        by_cases y0 : y = 0
        · subst y0
          have HV3 := Lib.hid (litV w2 [[115, 116, 111, 112]] (by simp))
          have HP3 := Lib.hid (HS2.out.alloc (.cells ([[115, 116, 111, 112]].map tv).toArray 9))
          have HQ3 := Lib.hid (HO2.out.next (bel1 w2 (.cells ([[115, 116, 111, 112]].map tv).toArray 9)))
          go_wp2_with (first
            | (at_builtin; refine append_tx rfl (.tmp 40) (.tmp 41) rfl (base := w.heap.size) (l := l) (m := [[115, 116, 111, 112]]) rfl rfl rfl HQ3.out HV3.out (by simp; omega) HP3.out.size ?_; intro v3 w3 oo gg; have HS3 := Lib.hid (HP3.out.grown gg (fun k hk => OT.lt HQ3.out k hk)); have HO3 := Lib.hid oo; clear oo gg))
          replace HM := Lib.hid (show q = (1, st2) by rw [HM.out]; simp)
          have i2 : (k : Int) - 1 = ((k - 1 : Nat) : Int) := by omega
          go_roundw
          case rel => exact ⟨k - 1, by omega, by go_num, DL.step hp HF.out HO3.out (SmT.app HSM.out (SmT.one (by decide))) (by rw [HM.out]; simp <;> omega) (by rw [HM.out]; (try dsimp only) <;> omega) HLK.out HR.out (by rw [HM.out]; exact HS3.out)⟩
          case measure => simp [intV]; omega
        · have f0 : (y == 0) = false := beq_eq_false_iff_ne.2 y0
          replace HM := Lib.hid (show q = (0, st2) by rw [HM.out, if_neg y0])
          go_wp2_with fail
          have i2 : (k : Int) - 1 = ((k - 1 : Nat) : Int) := by omega
          go_roundw
          case rel => exact ⟨k - 1, by omega, by go_num, DL.step hp HF.out HO2.out HSM.out (by rw [HM.out]; simp <;> omega) (by rw [HM.out]; (try dsimp only) <;> omega) HLK.out HR.out (by rw [HM.out]; exact HS2.out)⟩
          case measure => simp [intV]; omega
      have e1 : (x == 1) = false := beq_eq_false_iff_ne.2 x1
      replace HM := Lib.hid (HM.out.trans (if_neg x1))
      by_cases x2 : x = 2
      · subst x2
        replace HM := Lib.hid (HM.out.trans (if_pos (Or.inl rfl)))
        try dsimp only at HM
        have d0 : decide (0 < dep) = true := by simpa using hdep
        have d1 : IntKind.i64.wrap (dep - 1) = dep - 1 := by rw [IntKind.wrap_i64]; omega
        have HV2 := Lib.hid (litV w1 [[105, 102]] (by simp))
        have HP2 := Lib.hid (HS1.out.alloc (.cells ([[105, 102]].map tv).toArray 9))
        have HQ2 := Lib.hid (HO1.out.next (bel1 w1 (.cells ([[105, 102]].map tv).toArray 9)))
        go_wp2_with (first
          | (at_builtin; refine append_tx rfl (.tmp 48) (.tmp 49) rfl (base := w.heap.size) (l := l) (m := [[105, 102]]) rfl rfl rfl HQ2.out HV2.out (by simp; omega) HP2.out.size ?_; intro v2 w2 oo gg; have HS2 := Lib.hid (HP2.out.grown gg (fun k hk => OT.lt HQ2.out k hk)); have HO2 := Lib.hid oo; clear oo gg))
        have HB3 := Lib.hid (sumE_tru2 B b st1 w2 HS2.out.cur)
        generalize truM 2 st1 = qq at *
        obtain ⟨m3, st3⟩ := qq
        dsimp only at HM HB3
        refine HB3.out.mono ?_; rintro e w3 ⟨dv3, dl3, rfl, od, nd3, qd, sd, hc, hw⟩
        dsimp only at qd hc
        have QD3 := Lib.hid qd
        have SD3 := Lib.hid sd
        obtain ⟨da3, dc3, rfl, hvd⟩ := od.form
        have HV3 := Lib.hid hvd
        clear qd sd od hvd HB3
        have HS3 := Lib.hid (HS2.out.draws hw hc)
        have HO3 := Lib.hid (HO2.out.but hw hlt)
        clear hc hw
        go_wp2_with (first
          | (at_builtin; refine append_tx rfl (.tmp 51) (.tmp 53) rfl (base := w.heap.size) (l := (l ++ [[105, 102]])) (m := dl3) rfl rfl rfl HO3.out HV3.out (by simp; omega) HS3.out.size ?_; intro v4 w4 oo gg; have HS4 := Lib.hid (HS3.out.grown gg (fun k hk => OT.lt HO3.out k hk)); have HO4 := Lib.hid oo; clear oo gg; have HV5 := Lib.hid (litV w4 [[91]] (by simp)); have HP5 := Lib.hid (HS4.out.alloc (.cells ([[91]].map tv).toArray 9)); have HQ5 := Lib.hid (HO4.out.next (bel1 w4 (.cells ([[91]].map tv).toArray 9))))
          | (at_builtin; refine append_tx rfl (.tmp 55) (.tmp 56) rfl (base := w.heap.size) (l := ((l ++ [[105, 102]]) ++ dl3)) (m := [[91]]) rfl rfl rfl HQ5.out HV5.out (by simp; omega) HP5.out.size ?_; intro v5 w5 oo gg; have HS5 := Lib.hid (HP5.out.grown gg (fun k hk => OT.lt HQ5.out k hk)); have HO5 := Lib.hid oo; clear oo gg))
        have HB6 := Lib.hid (IH3.out B b st3 w5 HS5.out.cur)
        generalize D 3 st3 = qq at *
        obtain ⟨m6, st6⟩ := qq
        dsimp only at HM HB6
        refine HB6.out.mono ?_; rintro e w6 ⟨dv6, dl6, rfl, od, nd6, qd, sd, hc, hw⟩
        dsimp only at qd hc
        have QD6 := Lib.hid qd
        have SD6 := Lib.hid sd
        obtain ⟨da6, dc6, rfl, hvd⟩ := od.form
        have HV6 := Lib.hid hvd
        clear qd sd od hvd HB6
        have HS6 := Lib.hid (HS5.out.draws hw hc)
        have HO6 := Lib.hid (HO5.out.but hw hlt)
        clear hc hw
        go_wp2_with (first
          | (at_builtin; refine append_tx rfl (.tmp 57) (.tmp 61) rfl (base := w.heap.size) (l := (((l ++ [[105, 102]]) ++ dl3) ++ [[91]])) (m := dl6) rfl rfl rfl HO6.out HV6.out (by simp; omega) HS6.out.size ?_; intro v7 w7 oo gg; have HS7 := Lib.hid (HS6.out.grown gg (fun k hk => OT.lt HO6.out k hk)); have HO7 := Lib.hid oo; clear oo gg; have HV8 := Lib.hid (litV w7 [[93], [91]] (by simp)); have HP8 := Lib.hid (HS7.out.alloc (.cells ([[93], [91]].map tv).toArray 9)); have HQ8 := Lib.hid (HO7.out.next (bel1 w7 (.cells ([[93], [91]].map tv).toArray 9))))
          | (at_builtin; refine append_tx rfl (.tmp 62) (.tmp 63) rfl (base := w.heap.size) (l := ((((l ++ [[105, 102]]) ++ dl3) ++ [[91]]) ++ dl6)) (m := [[93], [91]]) rfl rfl rfl HQ8.out HV8.out (by simp; omega) HP8.out.size ?_; intro v8 w8 oo gg; have HS8 := Lib.hid (HP8.out.grown gg (fun k hk => OT.lt HQ8.out k hk)); have HO8 := Lib.hid oo; clear oo gg))
        have HB9 := Lib.hid (IH3.out B b st6 w8 HS8.out.cur)
        generalize D 3 st6 = qq at *
        obtain ⟨m9, st9⟩ := qq
        dsimp only at HM HB9
        refine HB9.out.mono ?_; rintro e w9 ⟨dv9, dl9, rfl, od, nd9, qd, sd, hc, hw⟩
        dsimp only at qd hc
        have QD9 := Lib.hid qd
        have SD9 := Lib.hid sd
        obtain ⟨da9, dc9, rfl, hvd⟩ := od.form
        have HV9 := Lib.hid hvd
        clear qd sd od hvd HB9
        have HS9 := Lib.hid (HS8.out.draws hw hc)
        have HO9 := Lib.hid (HO8.out.but hw hlt)
        clear hc hw
        go_wp2_with (first
          | (at_builtin; refine append_tx rfl (.tmp 65) (.tmp 69) rfl (base := w.heap.size) (l := (((((l ++ [[105, 102]]) ++ dl3) ++ [[91]]) ++ dl6) ++ [[93], [91]])) (m := dl9) rfl rfl rfl HO9.out HV9.out (by simp; omega) HS9.out.size ?_; intro v10 w10 oo gg; have HS10 := Lib.hid (HS9.out.grown gg (fun k hk => OT.lt HO9.out k hk)); have HO10 := Lib.hid oo; clear oo gg; have HV11 := Lib.hid (litV w10 [[93]] (by simp)); have HP11 := Lib.hid (HS10.out.alloc (.cells ([[93]].map tv).toArray 9)); have HQ11 := Lib.hid (HO10.out.next (bel1 w10 (.cells ([[93]].map tv).toArray 9))))
          | (at_builtin; refine append_tx rfl (.tmp 70) (.tmp 71) rfl (base := w.heap.size) (l := ((((((l ++ [[105, 102]]) ++ dl3) ++ [[91]]) ++ dl6) ++ [[93], [91]]) ++ dl9)) (m := [[93]]) rfl rfl rfl HQ11.out HV11.out (by simp; omega) HP11.out.size ?_; intro v11 w11 oo gg; have HS11 := Lib.hid (HP11.out.grown gg (fun k hk => OT.lt HQ11.out k hk)); have HO11 := Lib.hid oo; clear oo gg))
        have i2 : (k : Int) - 1 = ((k - 1 : Nat) : Int) := by omega
        go_roundw
        case rel => exact ⟨k - 1, by omega, by go_num, DL.step hp HF.out HO11.out (SmT.app (SmT.app (SmT.app (SmT.app (SmT.app (SmT.app (SmT.app HSM.out (SmT.one (by decide))) SD3.out) (SmT.one (by decide))) SD6.out) ((SmT.one (by decide)).app (SmT.one (by decide)))) SD9.out) (SmT.one (by decide))) (by rw [HM.out]; have := QD3.out; have := QD6.out; have := QD9.out; simp <;> omega) (by rw [HM.out]; have := QD3.out; have := QD6.out; have := QD9.out; (try dsimp only) <;> omega) HLK.out HR.out (by rw [HM.out]; exact HS11.out)⟩
        case measure => simp [intV]; omega
      have e2 : (x == 2) = false := beq_eq_false_iff_ne.2 x2
      by_cases x3 : x = 3
      · subst x3
        replace HM := Lib.hid (HM.out.trans (if_pos (Or.inr rfl)))
        try dsimp only at HM
        have d0 : decide (0 < dep) = true := by simpa using hdep
        have d1 : IntKind.i64.wrap (dep - 1) = dep - 1 := by rw [IntKind.wrap_i64]; omega
        have HV2 := Lib.hid (litV w1 [[105, 102]] (by simp))
        have HP2 := Lib.hid (HS1.out.alloc (.cells ([[105, 102]].map tv).toArray 9))
        have HQ2 := Lib.hid (HO1.out.next (bel1 w1 (.cells ([[105, 102]].map tv).toArray 9)))
        go_wp2_with (first
          | (at_builtin; refine append_tx rfl (.tmp 48) (.tmp 49) rfl (base := w.heap.size) (l := l) (m := [[105, 102]]) rfl rfl rfl HQ2.out HV2.out (by simp; omega) HP2.out.size ?_; intro v2 w2 oo gg; have HS2 := Lib.hid (HP2.out.grown gg (fun k hk => OT.lt HQ2.out k hk)); have HO2 := Lib.hid oo; clear oo gg))
        have HB3 := Lib.hid (sumE_tru2 B b st1 w2 HS2.out.cur)
        generalize truM 2 st1 = qq at *
        obtain ⟨m3, st3⟩ := qq
        dsimp only at HM HB3
        refine HB3.out.mono ?_; rintro e w3 ⟨dv3, dl3, rfl, od, nd3, qd, sd, hc, hw⟩
        dsimp only at qd hc
        have QD3 := Lib.hid qd
        have SD3 := Lib.hid sd
        obtain ⟨da3, dc3, rfl, hvd⟩ := od.form
        have HV3 := Lib.hid hvd
        clear qd sd od hvd HB3
        have HS3 := Lib.hid (HS2.out.draws hw hc)
        have HO3 := Lib.hid (HO2.out.but hw hlt)
        clear hc hw
        go_wp2_with (first
          | (at_builtin; refine append_tx rfl (.tmp 51) (.tmp 53) rfl (base := w.heap.size) (l := (l ++ [[105, 102]])) (m := dl3) rfl rfl rfl HO3.out HV3.out (by simp; omega) HS3.out.size ?_; intro v4 w4 oo gg; have HS4 := Lib.hid (HS3.out.grown gg (fun k hk => OT.lt HO3.out k hk)); have HO4 := Lib.hid oo; clear oo gg; have HV5 := Lib.hid (litV w4 [[91]] (by simp)); have HP5 := Lib.hid (HS4.out.alloc (.cells ([[91]].map tv).toArray 9)); have HQ5 := Lib.hid (HO4.out.next (bel1 w4 (.cells ([[91]].map tv).toArray 9))))
          | (at_builtin; refine append_tx rfl (.tmp 55) (.tmp 56) rfl (base := w.heap.size) (l := ((l ++ [[105, 102]]) ++ dl3)) (m := [[91]]) rfl rfl rfl HQ5.out HV5.out (by simp; omega) HP5.out.size ?_; intro v5 w5 oo gg; have HS5 := Lib.hid (HP5.out.grown gg (fun k hk => OT.lt HQ5.out k hk)); have HO5 := Lib.hid oo; clear oo gg))
        have HB6 := Lib.hid (IH3.out B b st3 w5 HS5.out.cur)
        generalize D 3 st3 = qq at *
        obtain ⟨m6, st6⟩ := qq
        dsimp only at HM HB6
        refine HB6.out.mono ?_; rintro e w6 ⟨dv6, dl6, rfl, od, nd6, qd, sd, hc, hw⟩
        dsimp only at qd hc
        have QD6 := Lib.hid qd
        have SD6 := Lib.hid sd
        obtain ⟨da6, dc6, rfl, hvd⟩ := od.form
        have HV6 := Lib.hid hvd
        clear qd sd od hvd HB6
        have HS6 := Lib.hid (HS5.out.draws hw hc)
        have HO6 := Lib.hid (HO5.out.but hw hlt)
        clear hc hw
        go_wp2_with (first
          | (at_builtin; refine append_tx rfl (.tmp 57) (.tmp 61) rfl (base := w.heap.size) (l := (((l ++ [[105, 102]]) ++ dl3) ++ [[91]])) (m := dl6) rfl rfl rfl HO6.out HV6.out (by simp; omega) HS6.out.size ?_; intro v7 w7 oo gg; have HS7 := Lib.hid (HS6.out.grown gg (fun k hk => OT.lt HO6.out k hk)); have HO7 := Lib.hid oo; clear oo gg; have HV8 := Lib.hid (litV w7 [[93], [91]] (by simp)); have HP8 := Lib.hid (HS7.out.alloc (.cells ([[93], [91]].map tv).toArray 9)); have HQ8 := Lib.hid (HO7.out.next (bel1 w7 (.cells ([[93], [91]].map tv).toArray 9))))
          | (at_builtin; refine append_tx rfl (.tmp 62) (.tmp 63) rfl (base := w.heap.size) (l := ((((l ++ [[105, 102]]) ++ dl3) ++ [[91]]) ++ dl6)) (m := [[93], [91]]) rfl rfl rfl HQ8.out HV8.out (by simp; omega) HP8.out.size ?_; intro v8 w8 oo gg; have HS8 := Lib.hid (HP8.out.grown gg (fun k hk => OT.lt HQ8.out k hk)); have HO8 := Lib.hid oo; clear oo gg))
        have HB9 := Lib.hid (IH3.out B b st6 w8 HS8.out.cur)
        generalize D 3 st6 = qq at *
        obtain ⟨m9, st9⟩ := qq
        dsimp only at HM HB9
        refine HB9.out.mono ?_; rintro e w9 ⟨dv9, dl9, rfl, od, nd9, qd, sd, hc, hw⟩
        dsimp only at qd hc
        have QD9 := Lib.hid qd
        have SD9 := Lib.hid sd
        obtain ⟨da9, dc9, rfl, hvd⟩ := od.form
        have HV9 := Lib.hid hvd
        clear qd sd od hvd HB9
        have HS9 := Lib.hid (HS8.out.draws hw hc)
        have HO9 := Lib.hid (HO8.out.but hw hlt)
        clear hc hw
        go_wp2_with (first
          | (at_builtin; refine append_tx rfl (.tmp 65) (.tmp 69) rfl (base := w.heap.size) (l := (((((l ++ [[105, 102]]) ++ dl3) ++ [[91]]) ++ dl6) ++ [[93], [91]])) (m := dl9) rfl rfl rfl HO9.out HV9.out (by simp; omega) HS9.out.size ?_; intro v10 w10 oo gg; have HS10 := Lib.hid (HS9.out.grown gg (fun k hk => OT.lt HO9.out k hk)); have HO10 := Lib.hid oo; clear oo gg; have HV11 := Lib.hid (litV w10 [[93]] (by simp)); have HP11 := Lib.hid (HS10.out.alloc (.cells ([[93]].map tv).toArray 9)); have HQ11 := Lib.hid (HO10.out.next (bel1 w10 (.cells ([[93]].map tv).toArray 9))))
          | (at_builtin; refine append_tx rfl (.tmp 70) (.tmp 71) rfl (base := w.heap.size) (l := ((((((l ++ [[105, 102]]) ++ dl3) ++ [[91]]) ++ dl6) ++ [[93], [91]]) ++ dl9)) (m := [[93]]) rfl rfl rfl HQ11.out HV11.out (by simp; omega) HP11.out.size ?_; intro v11 w11 oo gg; have HS11 := Lib.hid (HP11.out.grown gg (fun k hk => OT.lt HQ11.out k hk)); have HO11 := Lib.hid oo; clear oo gg))
        have i2 : (k : Int) - 1 = ((k - 1 : Nat) : Int) := by omega
        go_roundw
        case rel => exact ⟨k - 1, by omega, by go_num, DL.step hp HF.out HO11.out (SmT.app (SmT.app (SmT.app (SmT.app (SmT.app (SmT.app (SmT.app HSM.out (SmT.one (by decide))) SD3.out) (SmT.one (by decide))) SD6.out) ((SmT.one (by decide)).app (SmT.one (by decide)))) SD9.out) (SmT.one (by decide))) (by rw [HM.out]; have := QD3.out; have := QD6.out; have := QD9.out; simp <;> omega) (by rw [HM.out]; have := QD3.out; have := QD6.out; have := QD9.out; (try dsimp only) <;> omega) HLK.out HR.out (by rw [HM.out]; exact HS11.out)⟩
        case measure => simp [intV]; omega
      have e3 : (x == 3) = false := beq_eq_false_iff_ne.2 x3
      replace HM := Lib.hid (HM.out.trans (if_neg (by omega)))
      by_cases x4 : x = 4
      · subst x4
        replace HM := Lib.hid (HM.out.trans (if_pos rfl))
        try dsimp only at HM
        have d0 : decide (0 < dep) = true := by simpa using hdep
        have d1 : IntKind.i64.wrap (dep - 1) = dep - 1 := by rw [IntKind.wrap_i64]; omega
        have HB2 := Lib.hid (nameE B b st1 w1 HS1.out.cur)
        generalize belowM 6 st1 = qq at *
        obtain ⟨ny2, st2⟩ := qq
        dsimp only at HM HB2
        go_wp2_with fail
        refine HB2.out.mono ?_; rintro e w2 ⟨tt, rfl, hnm, hc, hw⟩
        obtain ⟨t, rfl⟩ : ∃ t, tt = tx t := ⟨_, (tx_of tt).symm⟩
        rw [tx_data] at hnm
        have HNt := Lib.hid (nm_len hnm); clear hnm HB2
        have HS2 := Lib.hid (HS1.out.draws hw hc)
        have HO2 := Lib.hid (HO1.out.but hw hlt)
        clear hc hw
        have HB3 := Lib.hid (belowE B b 12 st2 w2 HS2.out.cur (by decide) (by decide))
        have RB3 := belowM_range (n := 12) (by decide) st2
        generalize belowM 12 st2 = qq at *
        obtain ⟨y, st3⟩ := qq
        dsimp only at RB3 HM
        go_wp2_with fail
        refine HB3.out.mono ?_; rintro e w3 ⟨rfl, hc, hw⟩
        dsimp only at hc
        have HS3 := Lib.hid (HS2.out.draws hw hc)
        have HO3 := Lib.hid (HO2.out.but hw hlt)
        clear hc hw
        clear HB3
        go_wp2_with fail
        refine (l1Int_any y w3 (by omega) (by omega)).mono ?_; rintro e w4 ⟨rfl, bc⟩
        have HS4 := Lib.hid (HS3.out.below bc)
        have HO4 := Lib.hid (HO3.out.next bc)
        clear bc
        have HNi := Lib.hid (Lib.itoa_length_le y (by omega) (by omega))
        have HV5 := Lib.hid (litV w4 [[119, 104, 105, 108, 101], [60], t, Lib.itoa y, [91]] (by simp))
        have HP5 := Lib.hid (HS4.out.alloc (.cells ([[119, 104, 105, 108, 101], [60], t, Lib.itoa y, [91]].map tv).toArray 9))
        have HQ5 := Lib.hid (HO4.out.next (bel1 w4 (.cells ([[119, 104, 105, 108, 101], [60], t, Lib.itoa y, [91]].map tv).toArray 9)))
        go_wp2_with (first
          | (at_builtin; refine append_tx rfl (.tmp 79) (.tmp 84) rfl (base := w.heap.size) (l := l) (m := [[119, 104, 105, 108, 101], [60], t, Lib.itoa y, [91]]) rfl rfl rfl HQ5.out HV5.out (by simp; omega) HP5.out.size ?_; intro v5 w5 oo gg; have HS5 := Lib.hid (HP5.out.grown gg (fun k hk => OT.lt HQ5.out k hk)); have HO5 := Lib.hid oo; clear oo gg))
        have HB6 := Lib.hid (IH2.out B b st3 w5 HS5.out.cur)
        generalize D 2 st3 = qq at *
        obtain ⟨m6, st6⟩ := qq
        dsimp only at HM HB6
        refine HB6.out.mono ?_; rintro e w6 ⟨dv6, dl6, rfl, od, nd6, qd, sd, hc, hw⟩
        dsimp only at qd hc
        have QD6 := Lib.hid qd
        have SD6 := Lib.hid sd
        obtain ⟨da6, dc6, rfl, hvd⟩ := od.form
        have HV6 := Lib.hid hvd
        clear qd sd od hvd HB6
        have HS6 := Lib.hid (HS5.out.draws hw hc)
        have HO6 := Lib.hid (HO5.out.but hw hlt)
        clear hc hw
        go_wp2_with (first
          | (at_builtin; refine append_tx rfl (.tmp 86) (.tmp 90) rfl (base := w.heap.size) (l := (l ++ [[119, 104, 105, 108, 101], [60], t, Lib.itoa y, [91]])) (m := dl6) rfl rfl rfl HO6.out HV6.out (by simp; omega) HS6.out.size ?_; intro v7 w7 oo gg; have HS7 := Lib.hid (HS6.out.grown gg (fun k hk => OT.lt HO6.out k hk)); have HO7 := Lib.hid oo; clear oo gg; have HV8 := Lib.hid (litV w7 [[115, 101, 116], t, [43], t, [49], [93]] (by simp)); have HP8 := Lib.hid (HS7.out.alloc (.cells ([[115, 101, 116], t, [43], t, [49], [93]].map tv).toArray 9)); have HQ8 := Lib.hid (HO7.out.next (bel1 w7 (.cells ([[115, 101, 116], t, [43], t, [49], [93]].map tv).toArray 9))))
          | (at_builtin; refine append_tx rfl (.tmp 92) (.tmp 95) rfl (base := w.heap.size) (l := ((l ++ [[119, 104, 105, 108, 101], [60], t, Lib.itoa y, [91]]) ++ dl6)) (m := [[115, 101, 116], t, [43], t, [49], [93]]) rfl rfl rfl HQ8.out HV8.out (by simp; omega) HP8.out.size ?_; intro v8 w8 oo gg; have HS8 := Lib.hid (HP8.out.grown gg (fun k hk => OT.lt HQ8.out k hk)); have HO8 := Lib.hid oo; clear oo gg))
        have i2 : (k : Int) - 1 = ((k - 1 : Nat) : Int) := by omega
        go_roundw
        case rel => exact ⟨k - 1, by omega, by go_num, DL.step hp HF.out HO8.out (SmT.app (SmT.app (SmT.app HSM.out (((((SmT.one (by decide)).app (SmT.one (by decide))).app (SmT.one (by have := HNt.out; omega))).app (SmT.one (by have := HNi.out; omega))).app (SmT.one (by decide)))) SD6.out) ((((((SmT.one (by decide)).app (SmT.one (by have := HNt.out; omega))).app (SmT.one (by decide))).app (SmT.one (by have := HNt.out; omega))).app (SmT.one (by decide))).app (SmT.one (by decide)))) (by rw [HM.out]; have := QD6.out; simp <;> omega) (by rw [HM.out]; have := QD6.out; (try dsimp only) <;> omega) HLK.out HR.out (by rw [HM.out]; exact HS8.out)⟩
        case measure => simp [intV]; omega
      have e4 : (x == 4) = false := beq_eq_false_iff_ne.2 x4
      replace HM := Lib.hid (HM.out.trans (if_neg x4))
      try dsimp only at HM
      have HB2 := Lib.hid (nameE B b st1 w1 HS1.out.cur)
      generalize belowM 6 st1 = qq at *
      obtain ⟨ny2, st2⟩ := qq
      dsimp only at HM HB2
      go_wp2_with fail
      refine HB2.out.mono ?_; rintro e w2 ⟨tt, rfl, hnm, hc, hw⟩
      obtain ⟨t, rfl⟩ : ∃ t, tt = tx t := ⟨_, (tx_of tt).symm⟩
      rw [tx_data] at hnm
      have HNt := Lib.hid (nm_len hnm); clear hnm HB2
      have HS2 := Lib.hid (HS1.out.draws hw hc)
      have HO2 := Lib.hid (HO1.out.but hw hlt)
      clear hc hw
      have HV3 := Lib.hid (litV w2 [[115, 101, 116], t] (by simp))
      have HP3 := Lib.hid (HS2.out.alloc (.cells ([[115, 101, 116], t].map tv).toArray 9))
      have HQ3 := Lib.hid (HO2.out.next (bel1 w2 (.cells ([[115, 101, 116], t].map tv).toArray 9)))
      go_wp2_with (first
        | (at_builtin; refine append_tx rfl (.tmp 20) (.tmp 23) rfl (base := w.heap.size) (l := l) (m := [[115, 101, 116], t]) rfl rfl rfl HQ3.out HV3.out (by simp; omega) HP3.out.size ?_; intro v3 w3 oo gg; have HS3 := Lib.hid (HP3.out.grown gg (fun k hk => OT.lt HQ3.out k hk)); have HO3 := Lib.hid oo; clear oo gg))
      have HB4 := Lib.hid (sumE_num2 B b st2 w3 HS3.out.cur)
      generalize numM 2 st2 = qq at *
      obtain ⟨m4, st4⟩ := qq
      dsimp only at HM HB4
      refine HB4.out.mono ?_; rintro e w4 ⟨dv4, dl4, rfl, od, nd4, qd, sd, hc, hw⟩
      dsimp only at qd hc
      have QD4 := Lib.hid qd
      have SD4 := Lib.hid sd
      obtain ⟨da4, dc4, rfl, hvd⟩ := od.form
      have HV4 := Lib.hid hvd
      clear qd sd od hvd HB4
      have HS4 := Lib.hid (HS3.out.draws hw hc)
      have HO4 := Lib.hid (HO3.out.but hw hlt)
      clear hc hw
      go_wp2_with (first
        | (at_builtin; refine append_tx rfl (.tmp 25) (.tmp 27) rfl (base := w.heap.size) (l := (l ++ [[115, 101, 116], t])) (m := dl4) rfl rfl rfl HO4.out HV4.out (by simp; omega) HS4.out.size ?_; intro v5 w5 oo gg; have HS5 := Lib.hid (HS4.out.grown gg (fun k hk => OT.lt HO4.out k hk)); have HO5 := Lib.hid oo; clear oo gg))
      have i2 : (k : Int) - 1 = ((k - 1 : Nat) : Int) := by omega
      go_roundw
      case rel => exact ⟨k - 1, by omega, by go_num, DL.step hp HF.out HO5.out (SmT.app (SmT.app HSM.out ((SmT.one (by decide)).app (SmT.one (by have := HNt.out; omega)))) SD4.out) (by rw [HM.out]; have := QD4.out; simp <;> omega) (by rw [HM.out]; have := QD4.out; (try dsimp only) <;> omega) HLK.out HR.out (by rw [HM.out]; exact HS5.out)⟩
      case measure => simp [intV]; omega
    · obtain rfl : k = 0 := by omega
      go_wp2_with fail
      go_ret
      exact ⟨_, l, rfl, HO.out, hl0, by rw [HR.out]; rfl, HSM.out, by rw [HR.out]; exact HS.out.cur, HS.out.but⟩
theorem deeds0 (most : Int) (h1 : 1 ≤ most) (h5 : most ≤ 5) : DeedsC 36 0 most (deedsM 0 most) := deeds0E 0 (by decide) (by decide) 9 rfl most h1 h5
theorem deeds1 (most : Int) (h1 : 1 ≤ most) (h5 : most ≤ 5) : DeedsC 336 1 most (deedsM 1 most) := deeds1E 36 (by decide) 1 (by decide) (by decide) (deedsM 0) (deeds0 3 (by decide) (by decide)) (deeds0 2 (by decide) (by decide)) 84 rfl most h1 h5
theorem deeds2 (most : Int) (h1 : 1 ≤ most) (h5 : most ≤ 5) : DeedsC 2736 2 most (deedsM 2 most) := deeds1E 336 (by decide) 2 (by decide) (by decide) (deedsM 1) (deeds1 3 (by decide) (by decide)) (deeds1 2 (by decide) (by decide)) 684 rfl most h1 h5
end Go.Proofs.YtfnnoehpahdgcaaGreatDoor.Cl
namespace Go.Proofs.YtfnnoehpahdgcaaGreatDoor.Cl
set_option linter.unusedVariables false
open Go.RowKit Wd Rp Cu Kp Lc
def lenV : Value → Nat | .slice _ n _ => n | _ => 0
set_option maxHeartbeats 4000000 in
set_option maxRecDepth 100000 in
theorem draw9_any (B b : Nat) (w : World) (hc : Cur B b w) : Calls Tryz.prog 67 #[.pointer (some ⟨b, 0, none⟩)] w (DrawsX 120 B b w) := by
  have hlt := hc.lt
  obtain ⟨s, hc⟩ := hc.exact
  obtain ⟨mu, hmu⟩ := falls
  have HF := Lib.hid hmu; clear hmu
  have HC := Lib.hid (deeds2 5 (by decide) (by decide) B b s w hc)
  have HS := Lib.hid (⟨But.refl b w, hc, hlt⟩ : StE w B b s w); clear hc
  generalize deedsM 2 5 s = q at *
  obtain ⟨m0, s0⟩ := q
  go_enter Tryz.func67, Tryz.ntmps67
  go_wp2_with fail
  refine HC.out.mono ?_; rintro e w0 ⟨v0, l0, rfl, o0, n0, q0, sm0, hc, hw⟩
  dsimp only at hc
  have HO0 := Lib.hid o0
  have HM0 := Lib.hid sm0
  have HS0 := Lib.hid (HS.out.draws hw hc); clear hc hw o0 sm0 q0 HS HC
  go_wp2_with fail
  go_loopg [3] (1 + mu s0) (fun k v wr => ∃ (l : List Tk) (st : S), OT w.heap.size wr v l ∧ SmT l ∧ l.length ≤ 2736 ∧ (l.length ≤ 120 ∨ 1 + mu st ≤ k) ∧ StE w B b st wr)
  case atStart => exact ⟨l0, s0, HO0.out, HM0.out, n0, Or.inr (Nat.le_refl _), HS0.out⟩
  case round =>
    clear HO0 HM0 HS0
    obtain ⟨l, st, ho, hsm, hl, hk, hst⟩ := hrel
    have HO := Lib.hid ho
    have HM := Lib.hid hsm
    have HS := Lib.hid hst
    have HK := Lib.hid hk
    obtain ⟨a, cap, rfl, hv⟩ := ho.form
    clear ho hsm hst hk hv
    by_cases hp : 120 < l.length
    · have i1 : decide ((120 : Int) < (l.length : Int)) = true := by simp; omega
      have hk : 1 + mu st ≤ gk := by rcases HK.out with h | h <;> omega
      have HD := Lib.hid (deeds1 4 (by decide) (by decide) B b st wr HS.out.cur)
      have HG := Lib.hid (show ¬ (deedsM 1 4 st).1 ≤ 120 → mu (deedsM 1 4 st).2 < mu st from HF.out st)
      generalize deedsM 1 4 st = q at *
      obtain ⟨m1, s1⟩ := q
      dsimp only at HG
      generalize hn : l.length = n at *
      go_wp2_with fail
      refine HD.out.mono ?_; rintro e w1 ⟨v1, l1, rfl, o1, n1, q1, sm1, hc, hw⟩
      dsimp only at q1 hc
      have HO1 := Lib.hid (o1.mono HS.out.size)
      have HM1 := Lib.hid sm1
      have HS1 := Lib.hid (HS.out.draws hw hc)
      have HQ := Lib.hid q1
      clear hc hw o1 sm1 q1
      go_wp2_with fail
      go_roundg (gk - 1)
      case measure => omega
      case rel =>
        refine ⟨l1, s1, HO1.out, HM1.out, by omega, ?_, HS1.out⟩
        have h1 := HG.out
        have h2 := HQ.out
        by_cases hg : m1 ≤ 120
        · exact Or.inl (by omega)
        · have := h1 hg
          exact Or.inr (by omega)
    · have i1 : decide ((120 : Int) < (l.length : Int)) = false := by simp; omega
      go_wp2_with fail
      go_ret
      exact ⟨_, l, rfl, HO.out, by omega, HM.out, HS.out.cur.cur, HS.out.but⟩
set_option maxHeartbeats 8000000 in
set_option maxRecDepth 100000 in
theorem draw9Any_any (B b : Nat) (w : World) (hc : Cur B b w) : Calls Tryz.prog 42 #[.pointer (some ⟨b, 0, none⟩)] w (DrawsX 121 B b w) := by
  have hlt := hc.lt
  have HS := Lib.hid (⟨But.refl b w, hc, hlt⟩ : St w B b w); clear hc
  go_enter Tryz.func42, Tryz.ntmps42
  go_wp2_with fail
  refine (draw9_any B b _ HS.out.cur).mono ?_; rintro e w1 ⟨v1, l1, rfl, o1, n1, sm1, hc, hw⟩
  have HO1 := Lib.hid o1
  have HM1 := Lib.hid sm1
  have HS1 := Lib.hid (HS.out.draws hw hc); clear hc hw o1 sm1 HS
  go_wp2_with fail
  refine (once_any B b _ _ HS1.out.cur (by decide) (by decide)).mono ?_; rintro e w2 ⟨t, rfl, hc, hw⟩
  have HO2 := Lib.hid (HO1.out.but hw hlt)
  have HS2 := Lib.hid (HS1.out.draws hw hc); clear hc hw HO1 HS1
  cases t
  · go_wp2_with fail
    refine (once_any B b _ _ HS2.out.cur (by decide) (by decide)).mono ?_; rintro e w3 ⟨t, rfl, hc, hw⟩
    have HO3 := Lib.hid (HO2.out.but hw hlt)
    have HS3 := Lib.hid (HS2.out.draws hw hc); clear hc hw HO2 HS2
    cases t
    · go_wp2_with fail
      go_ret
      exact ⟨_, l1, rfl, HO3.out, by omega, HM1.out, HS3.out.cur, HS3.out.but⟩
    · have HO4 := Lib.hid (show OT w.heap.size (w3.alloc (.cells #[] 9)) (.slice (some ⟨w3.heap.size, 0, none⟩) 0 0) [] from O1.start HS3.out.size)
      have HS4 := Lib.hid (HS3.out.alloc (.cells #[] 9))
      clear HO3
      go_wp2_with fail
      go_loopw [3] (fun v wr => ∃ (l : List Tk), OT w.heap.size wr v l ∧ SmT l ∧ l.length ≤ 121 ∧ St w B b wr) (fun v _ => 121 - lenV v)
      case atStart => exact ⟨[], HO4.out, (fun c hc => by cases hc), by simp, HS4.out⟩
      case round =>
        clear HO4 HS4 HM1 HS3
        obtain ⟨l, ho, hsm, hl, hst⟩ := hrel
        have HS := Lib.hid hst
        obtain ⟨a, cap, rfl, hv⟩ := ho.form
        have HO := Lib.hid ho
        have HM := Lib.hid hsm
        clear ho hsm hst hv
        generalize hn : l.length = n at *
        have HBL := Lib.hid (below_any B b 2 wr HS.out.cur (by decide) (by decide))
        go_wp2_with fail
        refine HBL.out.mono ?_; rintro e w5 ⟨y, rfl, y0, y1, hc, hw⟩
        have HO5 := Lib.hid (HO.out.but hw hlt)
        have HS5 := Lib.hid (HS.out.draws hw hc); clear hc hw HO HS HBL
        by_cases hp : (n : Int) < 120 + y
        · have i1 : decide ((n : Int) < 120 + y) = true := by simpa using hp
          have HV := Lib.hid (litV w5 [[115, 116, 111, 112]] (by simp))
          have HP := Lib.hid (HS5.out.alloc (.cells ([[115, 116, 111, 112]].map tv).toArray 9))
          have HQ := Lib.hid (HO5.out.next (bel1 w5 (.cells ([[115, 116, 111, 112]].map tv).toArray 9)))
          have HN := Lib.hid hn
          go_wp2_with (first
            | (at_builtin; refine append_tx rfl (.tmp 20) (.tmp 21) rfl (base := w.heap.size) (l := l) (m := [[115, 116, 111, 112]]) rfl rfl rfl HQ.out HV.out (by simp; omega) HP.out.size ?_; intro v6 w6 oo gg; have HS6 := Lib.hid (HP.out.grown gg (fun k hk => OT.lt HQ.out k hk)); have HO6 := Lib.hid oo; clear oo gg))
          obtain ⟨a6, c6, e6, -⟩ := HO6.out.form
          subst e6
          go_roundw
          case rel => exact ⟨_, HO6.out, HM.out.app (SmT.one (by decide)), by have := HN.out; simp; omega, HS6.out⟩
          case measure => have := HN.out; simp [lenV]; omega
        · have i1 : decide ((n : Int) < 120 + y) = false := by simpa using hp
          go_wp2_with fail
          go_ret
          exact ⟨_, l, rfl, HO5.out, by omega, HM.out, HS5.out.cur, HS5.out.but⟩
  · obtain ⟨a, cap, rfl, hv⟩ := HO2.out.form
    have HV := Lib.hid hv
    have HBB := Lib.hid (bend_any B b w2 HS2.out.cur a cap l1 l1.length rfl hv (by omega) HM1.out); clear hv
    generalize hn : l1.length = n at *
    go_wp2_with fail
    refine HBB.out.mono ?_; rintro e w2 ⟨v1, l1, rfl, o1, n1, sm1, hc, hw⟩
    have HO1 := Lib.hid (o1.mono HS2.out.size)
    have HM1 := Lib.hid sm1
    have HS1 := Lib.hid (HS2.out.draws hw hc); clear hc hw o1 sm1 HS2 HV HBB HO2 hn
    have HO2 := HO1
    have HS2 := HS1
    clear HO1 HS1
    go_wp2_with fail
    refine (once_any B b _ _ HS2.out.cur (by decide) (by decide)).mono ?_; rintro e w3 ⟨t, rfl, hc, hw⟩
    have HO3 := Lib.hid (HO2.out.but hw hlt)
    have HS3 := Lib.hid (HS2.out.draws hw hc); clear hc hw HO2 HS2
    cases t
    · go_wp2_with fail
      go_ret
      exact ⟨_, l1, rfl, HO3.out, by omega, HM1.out, HS3.out.cur, HS3.out.but⟩
    · have HO4 := Lib.hid (show OT w.heap.size (w3.alloc (.cells #[] 9)) (.slice (some ⟨w3.heap.size, 0, none⟩) 0 0) [] from O1.start HS3.out.size)
      have HS4 := Lib.hid (HS3.out.alloc (.cells #[] 9))
      clear HO3
      go_wp2_with fail
      go_loopw [3] (fun v wr => ∃ (l : List Tk), OT w.heap.size wr v l ∧ SmT l ∧ l.length ≤ 121 ∧ St w B b wr) (fun v _ => 121 - lenV v)
      case atStart => exact ⟨[], HO4.out, (fun c hc => by cases hc), by simp, HS4.out⟩
      case round =>
        clear HO4 HS4 HM1 HS3
        obtain ⟨l, ho, hsm, hl, hst⟩ := hrel
        have HS := Lib.hid hst
        obtain ⟨a, cap, rfl, hv⟩ := ho.form
        have HO := Lib.hid ho
        have HM := Lib.hid hsm
        clear ho hsm hst hv
        generalize hn : l.length = n at *
        have HBL := Lib.hid (below_any B b 2 wr HS.out.cur (by decide) (by decide))
        go_wp2_with fail
        refine HBL.out.mono ?_; rintro e w5 ⟨y, rfl, y0, y1, hc, hw⟩
        have HO5 := Lib.hid (HO.out.but hw hlt)
        have HS5 := Lib.hid (HS.out.draws hw hc); clear hc hw HO HS HBL
        by_cases hp : (n : Int) < 120 + y
        · have i1 : decide ((n : Int) < 120 + y) = true := by simpa using hp
          have HV := Lib.hid (litV w5 [[115, 116, 111, 112]] (by simp))
          have HP := Lib.hid (HS5.out.alloc (.cells ([[115, 116, 111, 112]].map tv).toArray 9))
          have HQ := Lib.hid (HO5.out.next (bel1 w5 (.cells ([[115, 116, 111, 112]].map tv).toArray 9)))
          have HN := Lib.hid hn
          go_wp2_with (first
            | (at_builtin; refine append_tx rfl (.tmp 20) (.tmp 21) rfl (base := w.heap.size) (l := l) (m := [[115, 116, 111, 112]]) rfl rfl rfl HQ.out HV.out (by simp; omega) HP.out.size ?_; intro v6 w6 oo gg; have HS6 := Lib.hid (HP.out.grown gg (fun k hk => OT.lt HQ.out k hk)); have HO6 := Lib.hid oo; clear oo gg))
          obtain ⟨a6, c6, e6, -⟩ := HO6.out.form
          subst e6
          go_roundw
          case rel => exact ⟨_, HO6.out, HM.out.app (SmT.one (by decide)), by have := HN.out; simp; omega, HS6.out⟩
          case measure => have := HN.out; simp [lenV]; omega
        · have i1 : decide ((n : Int) < 120 + y) = false := by simpa using hp
          go_wp2_with fail
          go_ret
          exact ⟨_, l, rfl, HO5.out, by omega, HM.out, HS5.out.cur, HS5.out.but⟩
end Go.Proofs.YtfnnoehpahdgcaaGreatDoor.Cl
namespace Go.Proofs.YtfnnoehpahdgcaaGreatDoor.Cl
set_option linter.unusedVariables false
open Go.RowKit Wd Rp Kp Cu
set_option maxRecDepth 100000 in
set_option maxHeartbeats 1000000 in
theorem drawFuel_any (B b : Nat) (w : World) (hc : Cur B b w) : Calls Tryz.prog 45 #[.pointer (some ⟨b, 0, none⟩)] w (Draws B b w (-1) 401) := by
  have HC := Lib.hid hc; clear hc
  go_enter Tryz.func45, Tryz.ntmps45
  go_wp2_with fail
  refine (once_any B b _ _ HC.out (by decide) (by decide)).mono ?_; rintro e w1 ⟨t, rfl, hc1, hw1⟩
  cases t
  · go_wp2_with fail
    refine (below_any B b _ _ hc1 (by decide) (by decide)).mono ?_; rintro e w2 ⟨y, rfl, y0, y1, hc2, hw2⟩
    go_wp2_with fail
    go_ret
    exact ⟨_, rfl, by omega, by omega, hc2, hw1.trans hw2⟩
  · go_wp2_with fail
    have hlt := hc1.lt
    refine (below_any B b _ _ (hc1.alloc _) (by decide) (by decide)).mono ?_; rintro e w2 ⟨y, rfl, y0, y1, hc2, hw2⟩
    obtain ⟨n, rfl⟩ := Int.eq_ofNat_of_zero_le y0
    obtain ⟨v, hv, v0, v1⟩ := pick_cell (lo := -1) (hi := 401) hlt hw2 (fun k hk => by
      have hk : k < 4 := hk
      match k, hk with
      | 0, _ => exact ⟨_, rfl, by decide, by decide⟩
      | 1, _ => exact ⟨_, rfl, by decide, by decide⟩
      | 2, _ => exact ⟨_, rfl, by decide, by decide⟩
      | 3, _ => exact ⟨_, rfl, by decide, by decide⟩) n (by show n < 4; omega)
    have n1 : (n : Int) < 4 := by omega
    go_wp2_with fail
    go_ret
    exact ⟨_, rfl, v0, v1, hc2, hw1.trans (((But.refl b w1).alloc _).trans hw2)⟩
def DrewMe (w : World) (e : Ending) (w' : World) : Prop := ∃ (v : Value) (l : List Tk) (bv : Value) (bs : List Bi) (ga : Option Addr) (gn gc : Nat) (gs : List Int) (f : Int), e = .returned (.tuple #[v, bv, .slice ga gn gc, .int .i64 f]) ∧ OT w.heap.size w' v l ∧ l.length ≤ 121 ∧ SmT l ∧ OwI w.heap.size w' bv bs ∧ bs.length ≤ 20 ∧ SmI bs ∧ gs.length = gn ∧ V1 w' ga gc (inL gs) ∧ gn ≤ 4 ∧ I64s gs ∧ -1 ≤ f ∧ f ≤ 401 ∧ Below w.heap.size w w'
set_option maxHeartbeats 4000000 in
set_option maxRecDepth 100000 in
theorem drawMeans_any (w : World) (a : Option Addr) (len cap : Nat) (hb : IsBytes w a len) (hl : len ≤ 4096) : Calls Tryz.prog 8 #[.slice a len cap] w (DrewMe w) := by
  have HB := Lib.hid hb; clear hb
  go_enter Tryz.func8, Tryz.ntmps8
  go_wp2_with fail
  refine (new_any _ a len cap HB.out hl).mono ?_; rintro e w1 ⟨b, rfl, hc1, hw1⟩
  have hbw : w.heap.size ≤ b := hc1.le
  have B1 := Lib.hid hw1
  have HS := Lib.hid (show Cu.St w1 _ b w1 from ⟨But.refl b w1, hc1, hc1.lt⟩); clear hw1 hc1
  have HLT := Lib.hid (show b < w1.heap.size from HS.out.lt)
  go_wp2_with fail
  refine (draw9Any_any _ b _ HS.out.cur).mono ?_; rintro e w2 ⟨v, l, rfl, o2, n2, s2, hc2, hw2⟩
  have HS2 := Lib.hid (HS.out.draws hw2 hc2)
  have HM := Lib.hid s2
  have HO2 := Lib.hid o2; clear o2 s2 hc2 hw2 HS
  go_wp2_with fail
  refine (drawAnyI_any _ b _ HS2.out.cur).mono ?_; rintro e w3 ⟨bv, bs, rfl, o3, n3, s3, hc3, hw3⟩
  have HO3 := Lib.hid (HO2.out.but hw3 HLT.out)
  have HB3 := Lib.hid (o3.mono HS2.out.size)
  have HS3 := Lib.hid (HS2.out.draws hw3 hc3)
  have HMB := Lib.hid s3; clear o3 s3 hc3 hw3 HS2 HO2
  go_wp2_with fail
  refine (drawGiven_any _ b _ HS3.out.cur).mono ?_; rintro e w4 ⟨ga, gn, gc, gs, rfl, hgn, hgo, hg4, hgi, hc4, hw4⟩
  have HO4 := Lib.hid (HO3.out.but hw4 HLT.out)
  have HB4 := Lib.hid (HB3.out.but hw4 HLT.out)
  have HS4 := Lib.hid (HS3.out.draws hw4 hc4)
  have HG := Lib.hid (And.intro hgn (And.intro hgo hgi))
  have HL3 := Lib.hid (show b < w3.heap.size from Nat.lt_of_lt_of_le HLT.out HS3.out.size); clear hc4 hw4 hgn hgo hgi HS3 HO3 HB3
  go_wp2_with fail
  refine (drawFuel_any _ b _ HS4.out.cur).mono ?_; rintro e w5 ⟨f, rfl, f0, f1, hc5, hw5⟩
  have HO5 := Lib.hid ((HO4.out.but hw5 HLT.out).mono B1.out.size)
  have HB5 := Lib.hid ((HB4.out.but hw5 HLT.out).mono B1.out.size)
  have HG5 := Lib.hid (show V1 w5 ga gc (inL gs) by
    obtain ⟨_, _, e2, hv⟩ := (ON.but HG.out.2.1 hw5 HL3.out).form
    cases e2; exact hv)
  have HS5 := Lib.hid (HS4.out.draws hw5 hc5); clear hc5 hw5
  have HF := Lib.hid (B1.out.trans (HS5.out.but.below (B := w.heap.size) hbw B1.out.size))
  go_wp2_with fail
  refine bodyPost_ret (v := .tuple #[v, bv, .slice ga gn gc, .int .i64 f]) (by simp [results, Tryz.results8, go_sem]) rfl ⟨v, l, bv, bs, ga, gn, gc, gs, f, rfl, HO5.out, n2, HM.out, HB5.out, n3, HMB.out, HG.out.1, HG5.out, hg4, HG.out.2.2, f0, f1, HF.out⟩
end Go.Proofs.YtfnnoehpahdgcaaGreatDoor.Cl
