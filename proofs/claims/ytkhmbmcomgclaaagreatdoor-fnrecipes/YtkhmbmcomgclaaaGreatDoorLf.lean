/-
  Exact draws of words, names, expressions: how many tokens, and the cursor's state (Lc.S) behind them. (Made by gen_lf.py.)
-/
import Derived.Test.YtkhmbmcomgclaaaGreatDoorYp
import Derived.Test.YtkhmbmcomgclaaaGreatDoorLe
namespace Go.Proofs.YtkhmbmcomgclaaaGreatDoor.Cl
open Go.RowKit Wd Rp Cu Kp Lc
set_option linter.unusedVariables false
/-- A number from lo to hi, this state behind it. -/
def DrawsV (B b : Nat) (w : World) (lo hi : Int) (s : S) (e : Ending) (w' : World) : Prop := ∃ x : Int, e = .returned (.int .i64 x) ∧ lo ≤ x ∧ x ≤ hi ∧ CurE B b s w' ∧ But b w w'
/-- A name, this state behind it. -/
def DrawsNE (B b : Nat) (w : World) (s : S) (e : Ending) (w' : World) : Prop := ∃ t : ByteArray, e = .returned (.string t) ∧ nmB t.data.toList = true ∧ CurE B b s w' ∧ But b w w'
/-- Texts, at most n, so many, this state behind them. -/
def DrawsXE (n : Nat) (B b : Nat) (w : World) (r : Nat × S) (e : Ending) (w' : World) : Prop := ∃ (v : Value) (l : List Tk), e = .returned v ∧ OT w.heap.size w' v l ∧ l.length ≤ n ∧ l.length = r.1 ∧ SmT l ∧ CurE B b r.2 w' ∧ But b w w'
/-- Where a call stands that began in w0, its cursor in this state. -/
structure StE (w0 : World) (B b : Nat) (s : S) (w : World) : Prop where
  but : But b w0 w
  cur : CurE B b s w
  lt : b < w0.heap.size
theorem StE.st {w0 w : World} {B b : Nat} {s : S} (h : StE w0 B b s w) : St w0 B b w := ⟨h.but, h.cur.cur, h.lt⟩
theorem StE.alloc {w0 w : World} {B b : Nat} {s : S} (h : StE w0 B b s w) (o : Obj) : StE w0 B b s (w.alloc o) := ⟨h.but.alloc o, h.cur.alloc o, h.lt⟩
theorem StE.draws {w0 w w' : World} {B b : Nat} {s s' : S} (h : StE w0 B b s w) (hb : But b w w') (hc : CurE B b s' w') : StE w0 B b s' w' := ⟨h.but.trans hb, hc, h.lt⟩
theorem StE.size {w0 w : World} {B b : Nat} {s : S} (h : StE w0 B b s w) : w0.heap.size ≤ w.heap.size := h.but.size
theorem StE.grown {w0 w w' : World} {B b : Nat} {s : S} {row : Option Nat} (h : StE w0 B b s w) (hg : w.grownBy w' row) (hr : ∀ k, row = some k → w0.heap.size ≤ k) : StE w0 B b s w' :=
  ⟨h.but.grown hg hr, h.cur.carry (fun k hk => hg.block k (by have := h.cur.le; have := h.cur.lt; omega) (fun e => by have := hr k e.symm; have := h.cur.le; have := h.lt; omega)) (hg.block b h.cur.lt (fun e => by have := hr b e.symm; have := h.lt; omega)), h.lt⟩
theorem StE.below {w0 w w' : World} {B b : Nat} {s : S} (h : StE w0 B b s w) (hb : Below w.heap.size w w') : StE w0 B b s w' :=
  ⟨h.but.below' hb, h.cur.carry (fun k hk => hb.block k (by have := h.cur.le; have := h.cur.lt; omega)) (hb.block b h.cur.lt), h.lt⟩
set_option maxRecDepth 100000 in
set_option maxHeartbeats 1000000 in
theorem wordE (B b : Nat) (s : S) (w : World) (hc : CurE B b s w) : Calls Tryz.prog 130 #[.pointer (some ⟨b, 0, none⟩)] w (DrawsV B b w (-2147483648) 2147483647 (wordM s)) := by
  have HC := Lib.hid (belowE B b 5 s w hc (by decide) (by decide)); clear hc
  have HM := Lib.hid (show wordM s = (let a := belowM 5 s; if a.1 = 0 then (belowM 6 a.2).2 else if a.1 = 1 then (belowM 4294967296 a.2).2 else (belowM 12 a.2).2) from rfl)
  generalize wordM s = r at *
  generalize belowM 5 s = q at *
  obtain ⟨x, s1⟩ := q
  dsimp only at HM
  go_enter Tryz.func130, Tryz.ntmps130
  go_wp2_with fail
  refine HC.out.mono ?_; rintro e w1 ⟨rfl, hc1, hw1⟩
  dsimp only at hc1
  by_cases h0 : x = 0
  · subst h0
    replace HM := Lib.hid (HM.out.trans (if_pos rfl))
    go_wp2_with fail
    have hlt := hc1.lt
    have R := belowM_range (n := 6) (by decide) s1
    refine (belowE B b _ s1 _ (hc1.alloc _) (by decide) (by decide)).mono ?_; rintro e w2 ⟨rfl, hc2, hw2⟩
    generalize belowM 6 s1 = q at *
    obtain ⟨y, s2⟩ := q
    dsimp only at HM R hc2 hw2
    obtain ⟨n, rfl⟩ := Int.eq_ofNat_of_zero_le R.1
    obtain ⟨v, hv, v0, v1⟩ := pick_cell (lo := -2147483648) (hi := 2147483647) hlt hw2 (fun k hk => by
      have hk : k < 6 := hk
      match k, hk with
      | 0, _ => exact ⟨_, rfl, by decide, by decide⟩
      | 1, _ => exact ⟨_, rfl, by decide, by decide⟩
      | 2, _ => exact ⟨_, rfl, by decide, by decide⟩
      | 3, _ => exact ⟨_, rfl, by decide, by decide⟩
      | 4, _ => exact ⟨_, rfl, by decide, by decide⟩
      | 5, _ => exact ⟨_, rfl, by decide, by decide⟩) n (by show n < 6; omega)
    have n1 : (n : Int) < 6 := by omega
    go_wp2_with fail
    go_ret
    exact ⟨_, rfl, v0, v1, by rw [HM.out]; exact hc2, hw1.trans (((But.refl b w1).alloc _).trans hw2)⟩
  replace HM := Lib.hid (HM.out.trans (if_neg h0))
  by_cases h1 : x = 1
  · subst h1
    replace HM := Lib.hid (HM.out.trans (if_pos rfl))
    go_wp2_with fail
    have R := belowM_range (n := 4294967296) (by decide) s1
    refine (belowE B b _ s1 _ hc1 (by decide) (by decide)).mono ?_; rintro e w2 ⟨rfl, hc2, hw2⟩
    generalize belowM 4294967296 s1 = q at *
    obtain ⟨y, s2⟩ := q
    dsimp only at HM R hc2 hw2
    go_wp2_with fail
    go_ret
    exact ⟨_, rfl, by omega, by omega, by rw [HM.out]; exact hc2, hw1.trans hw2⟩
  · replace HM := Lib.hid (HM.out.trans (if_neg h1))
    have e0 : (x == 0) = false := beq_eq_false_iff_ne.2 h0
    have e1 : (x == 1) = false := beq_eq_false_iff_ne.2 h1
    go_wp2_with fail
    have R := belowM_range (n := 12) (by decide) s1
    refine (belowE B b _ s1 _ hc1 (by decide) (by decide)).mono ?_; rintro e w2 ⟨rfl, hc2, hw2⟩
    generalize belowM 12 s1 = q at *
    obtain ⟨y, s2⟩ := q
    dsimp only at HM R hc2 hw2
    go_wp2_with fail
    go_ret
    exact ⟨_, rfl, by omega, by omega, by rw [HM.out]; exact hc2, hw1.trans hw2⟩
set_option maxRecDepth 100000 in
set_option maxHeartbeats 1000000 in
theorem nameE (B b : Nat) (s : S) (w : World) (hc : CurE B b s w) : Calls Tryz.prog 107 #[.pointer (some ⟨b, 0, none⟩)] w (DrawsNE B b w (belowM 6 s).2) := by
  have hlt := hc.lt
  have HC := Lib.hid hc; clear hc
  have R := belowM_range (n := 6) (by decide) s
  go_enter Tryz.func107, Tryz.ntmps107
  go_wp2_with fail
  refine (belowE B b _ s _ (HC.out.alloc _) (by decide) (by decide)).mono ?_; rintro e w2 ⟨rfl, hc2, hw2⟩
  generalize belowM 6 s = q at *
  obtain ⟨y, s2⟩ := q
  dsimp only at R hc2 hw2
  obtain ⟨n, rfl⟩ := Int.eq_ofNat_of_zero_le R.1
  have hp := pick_any hlt hw2 n
  obtain ⟨s, hs, hnm⟩ : ∃ s : ByteArray, w2.cell? ⟨w.heap.size, n, none⟩ = some (.string s) ∧ nmB s.data.toList = true := by
    have hn : n < 6 := by omega
    match n, hn, hp with
    | 0, _, hp => exact ⟨_, hp, by decide⟩
    | 1, _, hp => exact ⟨_, hp, by decide⟩
    | 2, _, hp => exact ⟨_, hp, by decide⟩
    | 3, _, hp => exact ⟨_, hp, by decide⟩
    | 4, _, hp => exact ⟨_, hp, by decide⟩
    | 5, _, hp => exact ⟨_, hp, by decide⟩
  clear hp
  have n1 : (n : Int) < 6 := by omega
  have HP := Lib.hid (And.intro hnm (And.intro hc2 (((But.refl b w).alloc _).trans hw2))); clear hnm hc2 hw2
  go_wp2_with fail
  go_ret
  exact ⟨s, rfl, HP.out⟩
/-- The contract of a drawn expression. -/
def SumE (n : Nat) (kind dep : Int) (f : S → Nat × S) : Prop := ∀ (B b : Nat) (s : S) (w : World), CurE B b s w →
    Calls Tryz.prog 108 #[.pointer (some ⟨b, 0, none⟩), .int .i64 kind, .int .i64 dep] w (DrawsXE n B b w (f s))
set_option maxHeartbeats 16000000 in
set_option maxRecDepth 100000 in
theorem sumE_leaf (dep : Int) (hdep : dep ≤ 0) (hlo : -1000 ≤ dep) : SumE 1 1 dep (numM 0) := by
  intro B b s w hc
  have HM := Lib.hid (show numM 0 s = (1, leafM s) from rfl)
  generalize numM 0 s = r at *
  have hlt := hc.lt
  have HS0 := Lib.hid (⟨But.refl b w, hc, hlt⟩ : StE w B b s w); clear hc
  have hp : 1 ≤ 1 := by decide
  have k0 : decide (dep ≤ 0) = true := by simpa using hdep
  go_enter Tryz.func108, Tryz.ntmps108
  have HU := Lib.hid (show leafM s = (let a := belowM 4 s; if a.1 = 0 then wordM a.2 else if a.1 = 1 then (belowM 3 a.2).2 else (belowM 6 a.2).2) from rfl)
  generalize leafM s = r1 at *
  have HB := Lib.hid (belowE B b 4 s w HS0.out.cur (by decide) (by decide))
  have RB := belowM_range (n := 4) (by decide) s
  generalize belowM 4 s = q at *
  obtain ⟨y, sa⟩ := q
  dsimp only at RB HU
  go_wp2_with fail
  refine HB.out.mono ?_; rintro e wa ⟨rfl, hc, hw⟩
  have HSa := Lib.hid (HS0.out.draws hw hc); clear hc hw HB HS0
  dsimp only at HSa
  by_cases e0 : y = 0
  · subst e0
    replace HU := Lib.hid (HU.out.trans (if_pos rfl))
    go_wp2_with fail
    refine (wordE B b sa _ HSa.out.cur).mono ?_; rintro e wb ⟨v, rfl, v0, v1, hcb, hwb⟩
    have HSb := Lib.hid (HSa.out.draws hwb hcb); clear hwb hcb HSa
    go_wp2_with fail
    refine (l1Int_any v wb (by omega) (by omega)).mono ?_; rintro e wc ⟨rfl, bc⟩
    have HSc := Lib.hid (HSb.out.below bc); clear bc HSb
    have HL := Lib.hid (lit1 (B := w.heap.size) wc (Lib.itoa v) HSc.out.size)
    have HLN := Lib.hid (Lib.itoa_length_le v (by omega) (by omega))
    go_wp2_with fail
    go_ret
    exact ⟨_, [Lib.itoa v], rfl, HL.out, hp, by rw [HM.out]; rfl, SmT.one (by have := HLN.out; omega), by rw [HM.out, HU.out]; exact (HSc.out.alloc _).cur, (HSc.out.alloc _).but⟩
  have k1 : (y == 0) = false := by rw [beq_eq_false_iff_ne]; exact e0
  replace HU := Lib.hid (HU.out.trans (if_neg e0))
  by_cases e1 : y = 1
  · subst e1
    replace HU := Lib.hid (HU.out.trans (if_pos rfl))
    have HB := Lib.hid (belowE B b 3 sa wa HSa.out.cur (by decide) (by decide))
    have RB := belowM_range (n := 3) (by decide) sa
    generalize belowM 3 sa = q at *
    obtain ⟨v, sb⟩ := q
    dsimp only at RB HU
    go_wp2_with fail
    refine HB.out.mono ?_; rintro e wb ⟨rfl, hc, hw⟩
    have HSb := Lib.hid (HSa.out.draws hw hc); clear hc hw HB HSa
    dsimp only at HSb
    go_wp2_with fail
    refine (l1Int_any v wb (by omega) (by omega)).mono ?_; rintro e wc ⟨rfl, bc⟩
    have HSc := Lib.hid (HSb.out.below bc); clear bc HSb
    have hsz : (⟨(Lib.itoa v).toArray⟩ : ByteArray).size ≤ 21 := by have := Lib.itoa_length_le v (by omega) (by omega); rw [tx_itoa, tx_size]; exact this
    generalize (⟨(Lib.itoa v).toArray⟩ : ByteArray) = t at *
    have hcat : ¬ 9223372036854775807 < (⟨#[64]⟩ : ByteArray).size + t.size := by show ¬ 9223372036854775807 < 1 + t.size; omega
    have HAT := Lib.hid (at_app t)
    have HL := Lib.hid (lit1 (B := w.heap.size) wc (64 :: t.data.toList) HSc.out.size)
    rw [← HAT.out] at HL
    have HLN := Lib.hid hsz
    go_wp2_with fail
    go_ret
    exact ⟨_, [64 :: t.data.toList], rfl, HL.out, hp, by rw [HM.out]; rfl, SmT.one (by have := HLN.out; have := llen t; simp only [List.length_cons]; omega), by rw [HM.out, HU.out]; exact (HSc.out.alloc _).cur, (HSc.out.alloc _).but⟩
  have k2 : (y == 1) = false := by rw [beq_eq_false_iff_ne]; exact e1
  replace HU := Lib.hid (HU.out.trans (if_neg e1))
  go_wp2_with fail
  refine (nameE B b sa _ HSa.out.cur).mono ?_; rintro e wb ⟨s', rfl, hnm, hcb, hwb⟩
  have HSb := Lib.hid (HSa.out.draws hwb hcb); clear hwb hcb HSa
  obtain ⟨t, rfl⟩ : ∃ t, s' = tx t := ⟨_, (tx_of s').symm⟩
  rw [tx_data] at hnm
  have HLN := Lib.hid (nm_len hnm); clear hnm
  have HL := Lib.hid (lit1 (B := w.heap.size) wb t HSb.out.size)
  go_wp2_with fail
  go_ret
  exact ⟨_, [t], rfl, HL.out, hp, by rw [HM.out]; rfl, SmT.one (by have := HLN.out; omega), by rw [HM.out, HU.out]; exact (HSb.out.alloc _).cur, (HSb.out.alloc _).but⟩
set_option maxHeartbeats 16000000 in
set_option maxRecDepth 100000 in
theorem sumE_num (d n : Nat) (hn : n ≤ 100000) (dep : Int) (hdep : 0 < dep) (hhi : dep ≤ 1000) (ih : SumE n 1 (dep - 1) (numM d)) : SumE (1 + n + n) 1 dep (numM (d + 1)) := by
  intro B b s w hc
  have HM := Lib.hid (show numM (d + 1) s = (let a := belowM 2 s; if a.1 = 0 then (1, leafM a.2) else twoM (numM d) (belowM 4 a.2).2) from rfl)
  generalize numM (d + 1) s = r at *
  have hlt := hc.lt
  have HB0 := Lib.hid (onceE B b 2 s w hc (by decide) (by decide))
  generalize belowM 2 s = q at *
  obtain ⟨x, s1⟩ := q
  dsimp only at HM
  have HS0 := Lib.hid (⟨But.refl b w, hc, hlt⟩ : StE w B b s w); clear hc
  have IH1 := Lib.hid ih; clear ih
  have hp : 1 ≤ 1 + n + n := by omega
  have k0 : decide (dep ≤ 0) = false := by simpa using hdep
  go_enter Tryz.func108, Tryz.ntmps108
  go_wp2_with fail
  refine HB0.out.mono ?_; rintro e w1 ⟨rfl, hc1, hw1⟩
  dsimp only at hc1
  have HS1 := Lib.hid (HS0.out.draws hw1 hc1); clear hw1 hc1 HS0 HB0
  by_cases x0 : x = 0
  · subst x0
    replace HM := Lib.hid (HM.out.trans (if_pos rfl))
    clear IH1
    have HU := Lib.hid (show leafM s1 = (let a := belowM 4 s1; if a.1 = 0 then wordM a.2 else if a.1 = 1 then (belowM 3 a.2).2 else (belowM 6 a.2).2) from rfl)
    generalize leafM s1 = r1 at *
    have HB := Lib.hid (belowE B b 4 s1 w1 HS1.out.cur (by decide) (by decide))
    have RB := belowM_range (n := 4) (by decide) s1
    generalize belowM 4 s1 = q at *
    obtain ⟨y, sa⟩ := q
    dsimp only at RB HU
    go_wp2_with fail
    refine HB.out.mono ?_; rintro e wa ⟨rfl, hc, hw⟩
    have HSa := Lib.hid (HS1.out.draws hw hc); clear hc hw HB HS1
    dsimp only at HSa
    by_cases e0 : y = 0
    · subst e0
      replace HU := Lib.hid (HU.out.trans (if_pos rfl))
      go_wp2_with fail
      refine (wordE B b sa _ HSa.out.cur).mono ?_; rintro e wb ⟨v, rfl, v0, v1, hcb, hwb⟩
      have HSb := Lib.hid (HSa.out.draws hwb hcb); clear hwb hcb HSa
      go_wp2_with fail
      refine (l1Int_any v wb (by omega) (by omega)).mono ?_; rintro e wc ⟨rfl, bc⟩
      have HSc := Lib.hid (HSb.out.below bc); clear bc HSb
      have HL := Lib.hid (lit1 (B := w.heap.size) wc (Lib.itoa v) HSc.out.size)
      have HLN := Lib.hid (Lib.itoa_length_le v (by omega) (by omega))
      go_wp2_with fail
      go_ret
      exact ⟨_, [Lib.itoa v], rfl, HL.out, hp, by rw [HM.out]; rfl, SmT.one (by have := HLN.out; omega), by rw [HM.out, HU.out]; exact (HSc.out.alloc _).cur, (HSc.out.alloc _).but⟩
    have k1 : (y == 0) = false := by rw [beq_eq_false_iff_ne]; exact e0
    replace HU := Lib.hid (HU.out.trans (if_neg e0))
    by_cases e1 : y = 1
    · subst e1
      replace HU := Lib.hid (HU.out.trans (if_pos rfl))
      have HB := Lib.hid (belowE B b 3 sa wa HSa.out.cur (by decide) (by decide))
      have RB := belowM_range (n := 3) (by decide) sa
      generalize belowM 3 sa = q at *
      obtain ⟨v, sb⟩ := q
      dsimp only at RB HU
      go_wp2_with fail
      refine HB.out.mono ?_; rintro e wb ⟨rfl, hc, hw⟩
      have HSb := Lib.hid (HSa.out.draws hw hc); clear hc hw HB HSa
      dsimp only at HSb
      go_wp2_with fail
      refine (l1Int_any v wb (by omega) (by omega)).mono ?_; rintro e wc ⟨rfl, bc⟩
      have HSc := Lib.hid (HSb.out.below bc); clear bc HSb
      have hsz : (⟨(Lib.itoa v).toArray⟩ : ByteArray).size ≤ 21 := by have := Lib.itoa_length_le v (by omega) (by omega); rw [tx_itoa, tx_size]; exact this
      generalize (⟨(Lib.itoa v).toArray⟩ : ByteArray) = t at *
      have hcat : ¬ 9223372036854775807 < (⟨#[64]⟩ : ByteArray).size + t.size := by show ¬ 9223372036854775807 < 1 + t.size; omega
      have HAT := Lib.hid (at_app t)
      have HL := Lib.hid (lit1 (B := w.heap.size) wc (64 :: t.data.toList) HSc.out.size)
      rw [← HAT.out] at HL
      have HLN := Lib.hid hsz
      go_wp2_with fail
      go_ret
      exact ⟨_, [64 :: t.data.toList], rfl, HL.out, hp, by rw [HM.out]; rfl, SmT.one (by have := HLN.out; have := llen t; simp only [List.length_cons]; omega), by rw [HM.out, HU.out]; exact (HSc.out.alloc _).cur, (HSc.out.alloc _).but⟩
    have k2 : (y == 1) = false := by rw [beq_eq_false_iff_ne]; exact e1
    replace HU := Lib.hid (HU.out.trans (if_neg e1))
    go_wp2_with fail
    refine (nameE B b sa _ HSa.out.cur).mono ?_; rintro e wb ⟨s', rfl, hnm, hcb, hwb⟩
    have HSb := Lib.hid (HSa.out.draws hwb hcb); clear hwb hcb HSa
    obtain ⟨t, rfl⟩ : ∃ t, s' = tx t := ⟨_, (tx_of s').symm⟩
    rw [tx_data] at hnm
    have HLN := Lib.hid (nm_len hnm); clear hnm
    have HL := Lib.hid (lit1 (B := w.heap.size) wb t HSb.out.size)
    go_wp2_with fail
    go_ret
    exact ⟨_, [t], rfl, HL.out, hp, by rw [HM.out]; rfl, SmT.one (by have := HLN.out; omega), by rw [HM.out, HU.out]; exact (HSb.out.alloc _).cur, (HSb.out.alloc _).but⟩
  · have x1 : (x == 0) = false := beq_eq_false_iff_ne.2 x0
    replace HM := Lib.hid (HM.out.trans (if_neg x0))
    have HLB := Lib.hid (fun o => HS1.out.alloc o)
    go_wp2_with fail
    have R := belowM_range (n := 4) (by decide) s1
    refine (belowE B b _ s1 _ (HLB.out _).cur (by decide) (by decide)).mono ?_; rintro e w2 ⟨rfl, hc2, hw2⟩
    generalize belowM 4 s1 = q at *
    obtain ⟨y, s2⟩ := q
    dsimp only at HM R hc2 hw2
    obtain ⟨m, rfl⟩ := Int.eq_ofNat_of_zero_le R.1
    obtain ⟨s', hs, c0⟩ := pick_tx (ts := [[43], [45], [42], [47]]) HS1.out.cur.lt hw2 (k := m) (by simp; omega)
    have hsl := mem_short hs (by decide)
    have HS2 := Lib.hid ((HLB.out _).draws hw2 hc2); clear hw2 hc2 hs HLB
    have hm4 : m < 4 := by omega
    have HT := Lib.hid (show twoM (numM d) s2 = (1 + (numM d s2).1 + (numM d (numM d s2).2).1, (numM d (numM d s2).2).2) from rfl)
    rw [HT.out] at HM; clear HT
    have HK := Lib.hid (lit1 (B := w.heap.size) w2 s' HS2.out.size)
    have HSa := Lib.hid (HS2.out.alloc (.cells #[.string (tx s')] 9)); clear HS2
    have HC1 := Lib.hid (IH1.out B b s2 _ HSa.out.cur)
    generalize numM d s2 = q1 at *
    obtain ⟨m1, t1⟩ := q1
    dsimp only at HM HC1
    go_wp2_with fail
    refine HC1.out.mono ?_; rintro e x1 ⟨v1, l1, rfl, o1, n1, q1, s1, hd1, hx1⟩
    dsimp only at q1 hd1
    have Q1 := Lib.hid q1; clear q1
    have HK1 := Lib.hid (HK.out.but hx1 hlt)
    have HX1 := Lib.hid (HSa.out.draws hx1 hd1); clear hx1 hd1 HSa HK HC1
    obtain ⟨a1, c1, rfl, hv1⟩ := o1.form
    have HV1 := Lib.hid hv1
    have HM1 := Lib.hid s1
    clear o1 hv1 s1
    go_wp2_with (first
      | (at_builtin; refine append_tx rfl (.tmp 69) (.tmp 74) rfl (base := w.heap.size) (l := [s']) (m := l1) rfl rfl rfl HK1.out HV1.out (by simp; omega) HX1.out.size ?_; intro v2 x2 o2 g2; have O2 := Lib.hid (And.intro o2 g2); clear o2 g2))
    have HX2 := Lib.hid (HX1.out.grown O2.out.2 (fun k hk => OT.lt HK1.out k hk))
    have HC2 := Lib.hid (IH1.out B b t1 _ HX2.out.cur)
    generalize numM d t1 = q2 at *
    obtain ⟨m2, t2⟩ := q2
    dsimp only at HM HC2
    refine HC2.out.mono ?_; rintro e x3 ⟨v3, l3, rfl, o3, n3, q3, s3, hd3, hx3⟩
    dsimp only at q3 hd3
    have Q3 := Lib.hid q3; clear q3
    have HK3 := Lib.hid (O2.out.1.but hx3 hlt)
    have HX3 := Lib.hid (HX2.out.draws hx3 hd3); clear hx3 hd3 HX1 HX2 HC2
    obtain ⟨a3, c3, rfl, hv3⟩ := o3.form
    have HV3 := Lib.hid hv3
    have HM3 := Lib.hid s3
    clear o3 hv3 s3
    go_wp2_with (first
      | (at_builtin; refine append_tx rfl (.tmp 75) (.tmp 80) rfl (base := w.heap.size) (l := [s'] ++ l1) (m := l3) rfl rfl rfl HK3.out HV3.out (by simp; omega) HX3.out.size ?_; intro v4 x4 o4 g4; have O4 := Lib.hid (And.intro o4 g4); clear o4 g4))
    have HX4 := Lib.hid (HX3.out.grown O4.out.2 (fun k hk => OT.lt HK3.out k hk))
    go_ret
    exact ⟨_, _, rfl, O4.out.1, by simp; omega, by rw [HM.out]; have := Q1.out; have := Q3.out; simp; omega, ((SmT.one hsl).app HM1.out).app HM3.out, by rw [HM.out]; exact HX4.out.cur, HX4.out.but⟩
set_option maxHeartbeats 16000000 in
set_option maxRecDepth 100000 in
theorem sumE_tru (n : Nat) (hn : n ≤ 100000) (f g : S → Nat × S) (fM : S → Nat × S) (dep : Int) (hlo : -1000 ≤ dep) (hhi : dep ≤ 1000)
    (hf : ∀ s, fM s = (let a := belowM 4 s; if a.1 = 3 then twoM f a.2 else twoM g a.2)) (ih2 : 1 < dep → SumE n 2 (dep - 1) f) (ih1 : SumE n 1 (dep - 1) g) (he : ¬ 1 < dep → f = g) : SumE (1 + n + n) 2 dep fM := by
  intro B b s w hc
  have HM := Lib.hid (hf s); clear hf
  generalize fM s = r at *
  have hlt := hc.lt
  have R := belowM_range (n := 4) (by decide) s
  have HS0 := Lib.hid (⟨But.refl b w, hc, hlt⟩ : StE w B b s w); clear hc
  have IH1 := Lib.hid ih1; clear ih1
  have IHT := Lib.hid ih2; clear ih2
  have HE := Lib.hid he; clear he
  have HLB := Lib.hid (fun o => HS0.out.alloc o)
  go_enter Tryz.func108, Tryz.ntmps108
  go_wp2_with fail
  refine (belowE B b _ s _ (HLB.out _).cur (by decide) (by decide)).mono ?_; rintro e w2 ⟨rfl, hc2, hw2⟩
  generalize belowM 4 s = q at *
  obtain ⟨y, s2⟩ := q
  dsimp only at HM R hc2 hw2
  obtain ⟨m, rfl⟩ := Int.eq_ofNat_of_zero_le R.1
  obtain ⟨s', hs, c0⟩ := pick_tx (ts := [[60], [60], [61], [38]]) hlt hw2 (k := m) (by simp; omega)
  have hsl := mem_short hs (by decide)
  have HS2 := Lib.hid ((HLB.out _).draws hw2 hc2); clear hw2 hc2 HLB HS0
  have hm4 : m < 4 := by omega
  by_cases h3 : m = 3
  · obtain rfl : s' = [38] := by subst h3; simpa using hs.symm
    clear hs
    replace HM := Lib.hid (HM.out.trans (if_pos (by omega)))
    clear h3
    replace c0 : w2.cell? ⟨w.heap.size, m, none⟩ = some (.string ⟨#[38]⟩) := c0
    by_cases hd1 : 1 < dep
    · have k0 : decide (1 < dep) = true := by simpa using hd1
      have IH2 := Lib.hid (IHT.out hd1); clear IHT HE
      have HT := Lib.hid (show twoM (f) s2 = (1 + (f s2).1 + (f (f s2).2).1, (f (f s2).2).2) from rfl)
      rw [HT.out] at HM; clear HT
      have HK := Lib.hid (lit1 (B := w.heap.size) w2 [38] HS2.out.size)
      have HSa := Lib.hid (HS2.out.alloc (.cells #[.string (tx [38])] 9)); clear HS2
      have HC1 := Lib.hid (IH2.out B b s2 _ HSa.out.cur)
      generalize f s2 = q1 at *
      obtain ⟨m1, t1⟩ := q1
      dsimp only at HM HC1
      go_wp2_with fail
      refine HC1.out.mono ?_; rintro e x1 ⟨v1, l1, rfl, o1, n1, q1, s1, hd1, hx1⟩
      dsimp only at q1 hd1
      have Q1 := Lib.hid q1; clear q1
      have HK1 := Lib.hid (HK.out.but hx1 hlt)
      have HX1 := Lib.hid (HSa.out.draws hx1 hd1); clear hx1 hd1 HSa HK HC1
      obtain ⟨a1, c1, rfl, hv1⟩ := o1.form
      have HV1 := Lib.hid hv1
      have HM1 := Lib.hid s1
      clear o1 hv1 s1
      go_wp2_with (first
        | (at_builtin; refine append_tx rfl (.tmp 26) (.tmp 31) rfl (base := w.heap.size) (l := [[38]]) (m := l1) rfl rfl rfl HK1.out HV1.out (by simp; omega) HX1.out.size ?_; intro v2 x2 o2 g2; have O2 := Lib.hid (And.intro o2 g2); clear o2 g2))
      have HX2 := Lib.hid (HX1.out.grown O2.out.2 (fun k hk => OT.lt HK1.out k hk))
      have HC2 := Lib.hid (IH2.out B b t1 _ HX2.out.cur)
      generalize f t1 = q2 at *
      obtain ⟨m2, t2⟩ := q2
      dsimp only at HM HC2
      refine HC2.out.mono ?_; rintro e x3 ⟨v3, l3, rfl, o3, n3, q3, s3, hd3, hx3⟩
      dsimp only at q3 hd3
      have Q3 := Lib.hid q3; clear q3
      have HK3 := Lib.hid (O2.out.1.but hx3 hlt)
      have HX3 := Lib.hid (HX2.out.draws hx3 hd3); clear hx3 hd3 HX1 HX2 HC2
      obtain ⟨a3, c3, rfl, hv3⟩ := o3.form
      have HV3 := Lib.hid hv3
      have HM3 := Lib.hid s3
      clear o3 hv3 s3
      go_wp2_with (first
        | (at_builtin; refine append_tx rfl (.tmp 32) (.tmp 37) rfl (base := w.heap.size) (l := [[38]] ++ l1) (m := l3) rfl rfl rfl HK3.out HV3.out (by simp; omega) HX3.out.size ?_; intro v4 x4 o4 g4; have O4 := Lib.hid (And.intro o4 g4); clear o4 g4))
      have HX4 := Lib.hid (HX3.out.grown O4.out.2 (fun k hk => OT.lt HK3.out k hk))
      go_ret
      exact ⟨_, _, rfl, O4.out.1, by simp; omega, by rw [HM.out]; have := Q1.out; have := Q3.out; simp; omega, ((SmT.one (by decide)).app HM1.out).app HM3.out, by rw [HM.out]; exact HX4.out.cur, HX4.out.but⟩
    · have k0 : decide (1 < dep) = false := by simpa using hd1
      rw [HE.out (by omega)] at HM
      clear HE IHT
      have HT := Lib.hid (show twoM (g) s2 = (1 + (g s2).1 + (g (g s2).2).1, (g (g s2).2).2) from rfl)
      rw [HT.out] at HM; clear HT
      have HK := Lib.hid (lit1 (B := w.heap.size) w2 [60] HS2.out.size)
      have HSa := Lib.hid (HS2.out.alloc (.cells #[.string (tx [60])] 9)); clear HS2
      have HC1 := Lib.hid (IH1.out B b s2 _ HSa.out.cur)
      generalize g s2 = q1 at *
      obtain ⟨m1, t1⟩ := q1
      dsimp only at HM HC1
      go_wp2_with fail
      refine HC1.out.mono ?_; rintro e x1 ⟨v1, l1, rfl, o1, n1, q1, s1, hd1, hx1⟩
      dsimp only at q1 hd1
      have Q1 := Lib.hid q1; clear q1
      have HK1 := Lib.hid (HK.out.but hx1 hlt)
      have HX1 := Lib.hid (HSa.out.draws hx1 hd1); clear hx1 hd1 HSa HK HC1
      obtain ⟨a1, c1, rfl, hv1⟩ := o1.form
      have HV1 := Lib.hid hv1
      have HM1 := Lib.hid s1
      clear o1 hv1 s1
      go_wp2_with (first
        | (at_builtin; refine append_tx rfl (.tmp 26) (.tmp 31) rfl (base := w.heap.size) (l := [[60]]) (m := l1) rfl rfl rfl HK1.out HV1.out (by simp; omega) HX1.out.size ?_; intro v2 x2 o2 g2; have O2 := Lib.hid (And.intro o2 g2); clear o2 g2))
      have HX2 := Lib.hid (HX1.out.grown O2.out.2 (fun k hk => OT.lt HK1.out k hk))
      have HC2 := Lib.hid (IH1.out B b t1 _ HX2.out.cur)
      generalize g t1 = q2 at *
      obtain ⟨m2, t2⟩ := q2
      dsimp only at HM HC2
      refine HC2.out.mono ?_; rintro e x3 ⟨v3, l3, rfl, o3, n3, q3, s3, hd3, hx3⟩
      dsimp only at q3 hd3
      have Q3 := Lib.hid q3; clear q3
      have HK3 := Lib.hid (O2.out.1.but hx3 hlt)
      have HX3 := Lib.hid (HX2.out.draws hx3 hd3); clear hx3 hd3 HX1 HX2 HC2
      obtain ⟨a3, c3, rfl, hv3⟩ := o3.form
      have HV3 := Lib.hid hv3
      have HM3 := Lib.hid s3
      clear o3 hv3 s3
      go_wp2_with (first
        | (at_builtin; refine append_tx rfl (.tmp 32) (.tmp 37) rfl (base := w.heap.size) (l := [[60]] ++ l1) (m := l3) rfl rfl rfl HK3.out HV3.out (by simp; omega) HX3.out.size ?_; intro v4 x4 o4 g4; have O4 := Lib.hid (And.intro o4 g4); clear o4 g4))
      have HX4 := Lib.hid (HX3.out.grown O4.out.2 (fun k hk => OT.lt HK3.out k hk))
      go_ret
      exact ⟨_, _, rfl, O4.out.1, by simp; omega, by rw [HM.out]; have := Q1.out; have := Q3.out; simp; omega, ((SmT.one (by decide)).app HM1.out).app HM3.out, by rw [HM.out]; exact HX4.out.cur, HX4.out.but⟩
  · replace HM := Lib.hid (HM.out.trans (if_neg (by omega)))
    have h38 : s' ≠ [38] := by
      rintro rfl
      have : m = 0 ∨ m = 1 ∨ m = 2 := by omega
      rcases this with rfl | rfl | rfl <;> simp at hs
    clear hs IHT HE h3
    have q1 := tx_neL h38
    have HT := Lib.hid (show twoM (g) s2 = (1 + (g s2).1 + (g (g s2).2).1, (g (g s2).2).2) from rfl)
    rw [HT.out] at HM; clear HT
    have HK := Lib.hid (lit1 (B := w.heap.size) w2 s' HS2.out.size)
    have HSa := Lib.hid (HS2.out.alloc (.cells #[.string (tx s')] 9)); clear HS2
    have HC1 := Lib.hid (IH1.out B b s2 _ HSa.out.cur)
    generalize g s2 = q1 at *
    obtain ⟨m1, t1⟩ := q1
    dsimp only at HM HC1
    go_wp2_with fail
    refine HC1.out.mono ?_; rintro e x1 ⟨v1, l1, rfl, o1, n1, q1, s1, hd1, hx1⟩
    dsimp only at q1 hd1
    have Q1 := Lib.hid q1; clear q1
    have HK1 := Lib.hid (HK.out.but hx1 hlt)
    have HX1 := Lib.hid (HSa.out.draws hx1 hd1); clear hx1 hd1 HSa HK HC1
    obtain ⟨a1, c1, rfl, hv1⟩ := o1.form
    have HV1 := Lib.hid hv1
    have HM1 := Lib.hid s1
    clear o1 hv1 s1
    go_wp2_with (first
      | (at_builtin; refine append_tx rfl (.tmp 26) (.tmp 31) rfl (base := w.heap.size) (l := [s']) (m := l1) rfl rfl rfl HK1.out HV1.out (by simp; omega) HX1.out.size ?_; intro v2 x2 o2 g2; have O2 := Lib.hid (And.intro o2 g2); clear o2 g2))
    have HX2 := Lib.hid (HX1.out.grown O2.out.2 (fun k hk => OT.lt HK1.out k hk))
    have HC2 := Lib.hid (IH1.out B b t1 _ HX2.out.cur)
    generalize g t1 = q2 at *
    obtain ⟨m2, t2⟩ := q2
    dsimp only at HM HC2
    refine HC2.out.mono ?_; rintro e x3 ⟨v3, l3, rfl, o3, n3, q3, s3, hd3, hx3⟩
    dsimp only at q3 hd3
    have Q3 := Lib.hid q3; clear q3
    have HK3 := Lib.hid (O2.out.1.but hx3 hlt)
    have HX3 := Lib.hid (HX2.out.draws hx3 hd3); clear hx3 hd3 HX1 HX2 HC2
    obtain ⟨a3, c3, rfl, hv3⟩ := o3.form
    have HV3 := Lib.hid hv3
    have HM3 := Lib.hid s3
    clear o3 hv3 s3
    go_wp2_with (first
      | (at_builtin; refine append_tx rfl (.tmp 32) (.tmp 37) rfl (base := w.heap.size) (l := [s'] ++ l1) (m := l3) rfl rfl rfl HK3.out HV3.out (by simp; omega) HX3.out.size ?_; intro v4 x4 o4 g4; have O4 := Lib.hid (And.intro o4 g4); clear o4 g4))
    have HX4 := Lib.hid (HX3.out.grown O4.out.2 (fun k hk => OT.lt HK3.out k hk))
    go_ret
    exact ⟨_, _, rfl, O4.out.1, by simp; omega, by rw [HM.out]; have := Q1.out; have := Q3.out; simp; omega, ((SmT.one hsl).app HM1.out).app HM3.out, by rw [HM.out]; exact HX4.out.cur, HX4.out.but⟩
theorem sumE_num1 : SumE 3 1 1 (numM 1) := sumE_num 0 1 (by decide) 1 (by decide) (by decide) (sumE_leaf _ (by decide) (by decide))
theorem sumE_num2 : SumE 7 1 2 (numM 2) := sumE_num 1 3 (by decide) 2 (by decide) (by decide) sumE_num1
theorem sumE_tru1 : SumE 3 2 1 (truM 1) := sumE_tru 1 (by decide) (numM 0) (numM 0) (truM 1) 1 (by decide) (by decide) (fun s => by show twoM (numM 0) (belowM 4 s).2 = _; dsimp only; split <;> rfl) (fun h => absurd h (by decide)) (sumE_leaf _ (by decide) (by decide)) (fun _ => rfl)
theorem sumE_tru2 : SumE 7 2 2 (truM 2) := sumE_tru 3 (by decide) (truM 1) (numM 1) (truM 2) 2 (by decide) (by decide) (fun s => rfl) (fun _ => sumE_tru1) sumE_num1 (fun h => absurd (show (1 : Int) < 2 by decide) h)
end Go.Proofs.YtkhmbmcomgclaaaGreatDoor.Cl
