/-
  Draws of recipes: spec.l9Draw (its loop ends: Lc.falls), l9DrawAny, DrawRecipeOk, DrawShowRecipe, DrawNamesIn, DrawDeedsIn, DrawDeedEnd. (Made by gen_lh.py.)
-/
import Derived.Test.YtkhmbmcomgclaaaGreatDoorLg
import Derived.Test.YtkhmbmcomgclaaaGreatDoorYq
import Derived.Deep.LoopGhost
namespace Go.Proofs.YtkhmbmcomgclaaaGreatDoor.Cl
open Go.RowKit Wd Rp Cu Kp Lc
set_option linter.unusedVariables false
def lenV : Value → Nat | .slice _ n _ => n | _ => 0
set_option maxHeartbeats 4000000 in
set_option maxRecDepth 100000 in
theorem draw9_any (B b : Nat) (w : World) (hc : Cur B b w) : Calls Tryz.prog 55 #[.pointer (some ⟨b, 0, none⟩)] w (DrawsX 120 B b w) := by
  have hlt := hc.lt
  obtain ⟨s, hc⟩ := hc.exact
  obtain ⟨mu, hmu⟩ := falls
  have HF := Lib.hid hmu; clear hmu
  have HC := Lib.hid (deeds2 5 (by decide) (by decide) B b s w hc)
  have HS := Lib.hid (⟨But.refl b w, hc, hlt⟩ : StE w B b s w); clear hc
  generalize deedsM 2 5 s = q at *
  obtain ⟨m0, s0⟩ := q
  go_enter Tryz.func55, Tryz.ntmps55
  go_wp2_with fail
  refine HC.out.mono ?_; rintro e w0 ⟨v0, l0, rfl, o0, n0, q0, sm0, hc, hw⟩
  dsimp only at hc
  have HO0 := Lib.hid o0
  have HM0 := Lib.hid sm0
  have HS0 := Lib.hid (HS.out.draws hw hc); clear hc hw o0 sm0 q0 HS HC
  go_wp2_with fail
  go_loopg [3] (1 + mu s0) (fun k v wr => ∃ (l : List Tk) (st : S), OT w.heap.size wr v l ∧ SmT l ∧ l.length ≤ 2736 ∧ (l.length ≤ 120 ∨ 1 + mu st ≤ k) ∧ StE w B b st wr)
  case atStart => exact ⟨l0, s0, HO0.out, HM0.out, n0, Or.inr (Nat.le_refl _), HS0.out⟩
  case round =>
    clear HO0 HM0 HS0
    obtain ⟨l, st, ho, hsm, hl, hk, hst⟩ := hrel
    have HO := Lib.hid ho
    have HM := Lib.hid hsm
    have HS := Lib.hid hst
    have HK := Lib.hid hk
    obtain ⟨a, cap, rfl, hv⟩ := ho.form
    clear ho hsm hst hk hv
    by_cases hp : 120 < l.length
    · have i1 : decide ((120 : Int) < (l.length : Int)) = true := by simp; omega
      have hk : 1 + mu st ≤ gk := by rcases HK.out with h | h <;> omega
      have HD := Lib.hid (deeds1 4 (by decide) (by decide) B b st wr HS.out.cur)
      have HG := Lib.hid (show ¬ (deedsM 1 4 st).1 ≤ 120 → mu (deedsM 1 4 st).2 < mu st from HF.out st)
      generalize deedsM 1 4 st = q at *
      obtain ⟨m1, s1⟩ := q
      dsimp only at HG
      generalize hn : l.length = n at *
      go_wp2_with fail
      refine HD.out.mono ?_; rintro e w1 ⟨v1, l1, rfl, o1, n1, q1, sm1, hc, hw⟩
      dsimp only at q1 hc
      have HO1 := Lib.hid (o1.mono HS.out.size)
      have HM1 := Lib.hid sm1
      have HS1 := Lib.hid (HS.out.draws hw hc)
      have HQ := Lib.hid q1
      clear hc hw o1 sm1 q1
      go_wp2_with fail
      go_roundg (gk - 1)
      case measure => omega
      case rel =>
        refine ⟨l1, s1, HO1.out, HM1.out, by omega, ?_, HS1.out⟩
        have h1 := HG.out
        have h2 := HQ.out
        by_cases hg : m1 ≤ 120
        · exact Or.inl (by omega)
        · have := h1 hg
          exact Or.inr (by omega)
    · have i1 : decide ((120 : Int) < (l.length : Int)) = false := by simp; omega
      go_wp2_with fail
      go_ret
      exact ⟨_, l, rfl, HO.out, by omega, HM.out, HS.out.cur.cur, HS.out.but⟩
set_option maxHeartbeats 8000000 in
set_option maxRecDepth 100000 in
theorem draw9Any_any (B b : Nat) (w : World) (hc : Cur B b w) : Calls Tryz.prog 34 #[.pointer (some ⟨b, 0, none⟩)] w (DrawsX 121 B b w) := by
  have hlt := hc.lt
  have HS := Lib.hid (⟨But.refl b w, hc, hlt⟩ : St w B b w); clear hc
  go_enter Tryz.func34, Tryz.ntmps34
  go_wp2_with fail
  refine (draw9_any B b _ HS.out.cur).mono ?_; rintro e w1 ⟨v1, l1, rfl, o1, n1, sm1, hc, hw⟩
  have HO1 := Lib.hid o1
  have HM1 := Lib.hid sm1
  have HS1 := Lib.hid (HS.out.draws hw hc); clear hc hw o1 sm1 HS
  go_wp2_with fail
  refine (once_any B b _ _ HS1.out.cur (by decide) (by decide)).mono ?_; rintro e w2 ⟨t, rfl, hc, hw⟩
  have HO2 := Lib.hid (HO1.out.but hw hlt)
  have HS2 := Lib.hid (HS1.out.draws hw hc); clear hc hw HO1 HS1
  cases t
  · go_wp2_with fail
    refine (once_any B b _ _ HS2.out.cur (by decide) (by decide)).mono ?_; rintro e w3 ⟨t, rfl, hc, hw⟩
    have HO3 := Lib.hid (HO2.out.but hw hlt)
    have HS3 := Lib.hid (HS2.out.draws hw hc); clear hc hw HO2 HS2
    cases t
    · go_wp2_with fail
      go_ret
      exact ⟨_, l1, rfl, HO3.out, by omega, HM1.out, HS3.out.cur, HS3.out.but⟩
    · have HO4 := Lib.hid (show OT w.heap.size (w3.alloc (.cells #[] 9)) (.slice (some ⟨w3.heap.size, 0, none⟩) 0 0) [] from O1.start HS3.out.size)
      have HS4 := Lib.hid (HS3.out.alloc (.cells #[] 9))
      clear HO3
      go_wp2_with fail
      go_loopw [3] (fun v wr => ∃ (l : List Tk), OT w.heap.size wr v l ∧ SmT l ∧ l.length ≤ 121 ∧ St w B b wr) (fun v _ => 121 - lenV v)
      case atStart => exact ⟨[], HO4.out, (fun c hc => by cases hc), by simp, HS4.out⟩
      case round =>
        clear HO4 HS4 HM1 HS3
        obtain ⟨l, ho, hsm, hl, hst⟩ := hrel
        have HS := Lib.hid hst
        obtain ⟨a, cap, rfl, hv⟩ := ho.form
        have HO := Lib.hid ho
        have HM := Lib.hid hsm
        clear ho hsm hst hv
        generalize hn : l.length = n at *
        have HBL := Lib.hid (below_any B b 2 wr HS.out.cur (by decide) (by decide))
        go_wp2_with fail
        refine HBL.out.mono ?_; rintro e w5 ⟨y, rfl, y0, y1, hc, hw⟩
        have HO5 := Lib.hid (HO.out.but hw hlt)
        have HS5 := Lib.hid (HS.out.draws hw hc); clear hc hw HO HS HBL
        by_cases hp : (n : Int) < 120 + y
        · have i1 : decide ((n : Int) < 120 + y) = true := by simpa using hp
          have HV := Lib.hid (litV w5 [[115, 116, 111, 112]] (by simp))
          have HP := Lib.hid (HS5.out.alloc (.cells ([[115, 116, 111, 112]].map tv).toArray 9))
          have HQ := Lib.hid (HO5.out.next (bel1 w5 (.cells ([[115, 116, 111, 112]].map tv).toArray 9)))
          have HN := Lib.hid hn
          go_wp2_with (first
            | (at_builtin; refine append_tx rfl (.tmp 20) (.tmp 21) rfl (base := w.heap.size) (l := l) (m := [[115, 116, 111, 112]]) rfl rfl rfl HQ.out HV.out (by simp; omega) HP.out.size ?_; intro v6 w6 oo gg; have HS6 := Lib.hid (HP.out.grown gg (fun k hk => OT.lt HQ.out k hk)); have HO6 := Lib.hid oo; clear oo gg))
          obtain ⟨a6, c6, e6, -⟩ := HO6.out.form
          subst e6
          go_roundw
          case rel => exact ⟨_, HO6.out, HM.out.app (SmT.one (by decide)), by have := HN.out; simp; omega, HS6.out⟩
          case measure => have := HN.out; simp [lenV]; omega
        · have i1 : decide ((n : Int) < 120 + y) = false := by simpa using hp
          go_wp2_with fail
          go_ret
          exact ⟨_, l, rfl, HO5.out, by omega, HM.out, HS5.out.cur, HS5.out.but⟩
  · obtain ⟨a, cap, rfl, hv⟩ := HO2.out.form
    have HV := Lib.hid hv
    have HBB := Lib.hid (bend_any B b w2 HS2.out.cur a cap l1 l1.length rfl hv (by omega) HM1.out); clear hv
    generalize hn : l1.length = n at *
    go_wp2_with fail
    refine HBB.out.mono ?_; rintro e w2 ⟨v1, l1, rfl, o1, n1, sm1, hc, hw⟩
    have HO1 := Lib.hid (o1.mono HS2.out.size)
    have HM1 := Lib.hid sm1
    have HS1 := Lib.hid (HS2.out.draws hw hc); clear hc hw o1 sm1 HS2 HV HBB HO2 hn
    have HO2 := HO1
    have HS2 := HS1
    clear HO1 HS1
    go_wp2_with fail
    refine (once_any B b _ _ HS2.out.cur (by decide) (by decide)).mono ?_; rintro e w3 ⟨t, rfl, hc, hw⟩
    have HO3 := Lib.hid (HO2.out.but hw hlt)
    have HS3 := Lib.hid (HS2.out.draws hw hc); clear hc hw HO2 HS2
    cases t
    · go_wp2_with fail
      go_ret
      exact ⟨_, l1, rfl, HO3.out, by omega, HM1.out, HS3.out.cur, HS3.out.but⟩
    · have HO4 := Lib.hid (show OT w.heap.size (w3.alloc (.cells #[] 9)) (.slice (some ⟨w3.heap.size, 0, none⟩) 0 0) [] from O1.start HS3.out.size)
      have HS4 := Lib.hid (HS3.out.alloc (.cells #[] 9))
      clear HO3
      go_wp2_with fail
      go_loopw [3] (fun v wr => ∃ (l : List Tk), OT w.heap.size wr v l ∧ SmT l ∧ l.length ≤ 121 ∧ St w B b wr) (fun v _ => 121 - lenV v)
      case atStart => exact ⟨[], HO4.out, (fun c hc => by cases hc), by simp, HS4.out⟩
      case round =>
        clear HO4 HS4 HM1 HS3
        obtain ⟨l, ho, hsm, hl, hst⟩ := hrel
        have HS := Lib.hid hst
        obtain ⟨a, cap, rfl, hv⟩ := ho.form
        have HO := Lib.hid ho
        have HM := Lib.hid hsm
        clear ho hsm hst hv
        generalize hn : l.length = n at *
        have HBL := Lib.hid (below_any B b 2 wr HS.out.cur (by decide) (by decide))
        go_wp2_with fail
        refine HBL.out.mono ?_; rintro e w5 ⟨y, rfl, y0, y1, hc, hw⟩
        have HO5 := Lib.hid (HO.out.but hw hlt)
        have HS5 := Lib.hid (HS.out.draws hw hc); clear hc hw HO HS HBL
        by_cases hp : (n : Int) < 120 + y
        · have i1 : decide ((n : Int) < 120 + y) = true := by simpa using hp
          have HV := Lib.hid (litV w5 [[115, 116, 111, 112]] (by simp))
          have HP := Lib.hid (HS5.out.alloc (.cells ([[115, 116, 111, 112]].map tv).toArray 9))
          have HQ := Lib.hid (HO5.out.next (bel1 w5 (.cells ([[115, 116, 111, 112]].map tv).toArray 9)))
          have HN := Lib.hid hn
          go_wp2_with (first
            | (at_builtin; refine append_tx rfl (.tmp 20) (.tmp 21) rfl (base := w.heap.size) (l := l) (m := [[115, 116, 111, 112]]) rfl rfl rfl HQ.out HV.out (by simp; omega) HP.out.size ?_; intro v6 w6 oo gg; have HS6 := Lib.hid (HP.out.grown gg (fun k hk => OT.lt HQ.out k hk)); have HO6 := Lib.hid oo; clear oo gg))
          obtain ⟨a6, c6, e6, -⟩ := HO6.out.form
          subst e6
          go_roundw
          case rel => exact ⟨_, HO6.out, HM.out.app (SmT.one (by decide)), by have := HN.out; simp; omega, HS6.out⟩
          case measure => have := HN.out; simp [lenV]; omega
        · have i1 : decide ((n : Int) < 120 + y) = false := by simpa using hp
          go_wp2_with fail
          go_ret
          exact ⟨_, l, rfl, HO5.out, by omega, HM.out, HS5.out.cur, HS5.out.but⟩
/-- Texts that a draw of its own cursor leaves, at most 121. -/
def Drew9 (w : World) (e : Ending) (w' : World) : Prop := ∃ (v : Value) (l : List Tk), e = .returned v ∧ OT w.heap.size w' v l ∧ l.length ≤ 121 ∧ SmT l ∧ Below w.heap.size w w'
set_option maxRecDepth 100000 in
theorem drawRecipe_any (w : World) (a : Option Addr) (len cap : Nat) (hb : IsBytes w a len) (hl : len ≤ 4096) : Calls Tryz.prog 30 #[.slice a len cap] w (Drew9 w) := by
  have HB := Lib.hid hb; clear hb
  go_enter Tryz.func30, Tryz.ntmps30
  go_wp2_with fail
  refine (new_any w a len cap HB.out hl).mono ?_; rintro e w1 ⟨b, rfl, hc, hw1⟩
  have HW := Lib.hid (And.intro hc hw1); clear hc hw1
  go_wp2_with fail
  refine (draw9Any_any _ b _ HW.out.1).mono ?_; rintro e w2 ⟨v, l, rfl, o, n, sm, hc, hw⟩
  have HP := Lib.hid (show OT w.heap.size w2 v l ∧ Below w.heap.size w w2 from ⟨o.mono HW.out.2.size, HW.out.2.trans (hw.below HW.out.1.le HW.out.2.size)⟩); clear o hc hw
  have HM := Lib.hid sm; clear sm
  go_wp2_with fail
  go_ret
  exact ⟨_, l, rfl, HP.out.1, n, HM.out, HP.out.2⟩
set_option maxRecDepth 100000 in
theorem drawShowRecipe_any (w : World) (a : Option Addr) (len cap : Nat) (hb : IsBytes w a len) (hl : len ≤ 4096) : Calls Tryz.prog 7 #[.slice a len cap] w (Drew9 w) := by
  have HB := Lib.hid hb; clear hb
  go_enter Tryz.func7, Tryz.ntmps7
  go_wp2_with fail
  refine (drawRecipe_any w a len cap HB.out hl).mono ?_; rintro e w2 ⟨v, l, rfl, o, n, sm, hw⟩
  have HP := Lib.hid (And.intro o (And.intro sm hw)); clear o sm hw
  go_wp2_with fail
  go_ret
  exact ⟨_, l, rfl, HP.out.1, n, HP.out.2.1, HP.out.2.2⟩
set_option maxRecDepth 100000 in
theorem drawDeedsIn_any (w : World) (a : Option Addr) (len cap : Nat) (hb : IsBytes w a len) (hl : len ≤ 4096) : Calls Tryz.prog 17 #[.slice a len cap] w (Drew9 w) := by
  have HB := Lib.hid hb; clear hb
  go_enter Tryz.func17, Tryz.ntmps17
  go_wp2_with fail
  refine (drawRecipe_any w a len cap HB.out hl).mono ?_; rintro e w2 ⟨v, l, rfl, o, n, sm, hw⟩
  have HP := Lib.hid (And.intro o (And.intro sm hw)); clear o sm hw
  go_wp2_with fail
  go_ret
  exact ⟨_, l, rfl, HP.out.1, n, HP.out.2.1, HP.out.2.2⟩
/-- A recipe drawn and a place. -/
def Drew9A (w : World) (e : Ending) (w' : World) : Prop := ∃ (v : Value) (l : List Tk) (at_ : Int), e = .returned (.tuple #[v, .int .i64 at_]) ∧ OT w.heap.size w' v l ∧ l.length ≤ 121 ∧ SmT l ∧ -1 ≤ at_ ∧ at_ ≤ 121 ∧ Below w.heap.size w w'
set_option maxRecDepth 100000 in
set_option maxHeartbeats 4000000 in
theorem drawDeedEnd_any (w : World) (a : Option Addr) (len cap : Nat) (hb : IsBytes w a len) (hl : len ≤ 4096) : Calls Tryz.prog 16 #[.slice a len cap] w (Drew9A w) := by
  have HB := Lib.hid hb; clear hb
  go_enter Tryz.func16, Tryz.ntmps16
  go_wp2_with fail
  refine (new_any w a len cap HB.out hl).mono ?_; rintro e w1 ⟨b, rfl, hc, hw1⟩
  have HW := Lib.hid hw1
  have hbn : w.heap.size ≤ b := hc.le
  have hb1 : b < w1.heap.size := hc.lt
  have HS1 := Lib.hid (show St w1 _ b w1 from ⟨But.refl b w1, hc, hc.lt⟩); clear hc hw1
  go_wp2_with fail
  refine (draw9Any_any _ b _ HS1.out.cur).mono ?_; rintro e w2 ⟨v, l, rfl, o, n, sm, hc, hw⟩
  have HO2 := Lib.hid o
  have HM := Lib.hid sm
  have HS2 := Lib.hid (HS1.out.draws hw hc); clear o sm hc hw HS1
  go_wp2_with fail
  refine (once_any _ b _ _ HS2.out.cur (by decide) (by decide)).mono ?_; rintro e w3 ⟨t, rfl, hc, hw⟩
  have HO3 := Lib.hid (HO2.out.but hw hb1)
  have HS3 := Lib.hid (HS2.out.draws hw hc); clear hc hw HO2 HS2
  obtain ⟨va, vc, rfl, hv⟩ := HO3.out.form
  clear hv
  cases t
  · have HFM := Lib.hid (from_any _ b (-1) (l.length : Int) w3 HS3.out.cur (by omega) (by omega) (by omega))
    generalize hn : l.length = k at *
    go_wp2_with fail
    refine HFM.out.mono ?_; rintro e w4 ⟨y, rfl, y0, y1, hc, hw⟩
    have HO4 := Lib.hid (HO3.out.but hw hb1)
    have HS4 := Lib.hid (HS3.out.draws hw hc); clear hc hw HO3 HS3
    have HL := Lib.hid (HW.out.trans (HS4.out.but.below (B := w.heap.size) hbn HW.out.size))
    go_wp2_with fail
    refine bodyPost_ret (v := .tuple #[.slice va k vc, .int .i64 y]) (by simp [results, Tryz.results16, go_sem]) rfl ⟨_, l, y, rfl, HO4.out.mono HW.out.size, by omega, HM.out, y0, by omega, HL.out⟩
  · have HL := Lib.hid (HW.out.trans (HS3.out.but.below (B := w.heap.size) hbn HW.out.size))
    generalize hn : l.length = k at *
    go_wp2_with fail
    refine bodyPost_ret (v := .tuple #[.slice va k vc, .int .i64 0]) (by simp [results, Tryz.results16, go_sem]) rfl ⟨_, l, 0, rfl, HO3.out.mono HW.out.size, by omega, HM.out, by omega, by omega, HL.out⟩
end Go.Proofs.YtkhmbmcomgclaaaGreatDoor.Cl
