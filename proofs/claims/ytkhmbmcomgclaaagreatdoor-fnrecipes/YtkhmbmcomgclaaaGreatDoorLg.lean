/-
  Exact draws of recipes: contracts of spec.l9DrawDeeds (how many tokens, and the cursor's state behind them) and of spec.l9Draw, whose loop ends. (Made by gen_lg.py.)
-/
import Derived.Test.YtkhmbmcomgclaaaGreatDoorLf
namespace Go.Proofs.YtkhmbmcomgclaaaGreatDoor.Cl
open Go.RowKit Wd Rp Cu Kp Lc
set_option linter.unusedVariables false
theorem litV (w : World) (ts : List Tk) (h : ts.length ≤ 100) : V1 (w.alloc (.cells (ts.map tv).toArray 9)) (some ⟨w.heap.size, 0, none⟩) ts.length (txL ts) := by
  have h1 := O1.lit (T := 9) (B := 0) (w := w) (Nat.zero_le _) (ts.map tv).toArray (by unfold maxLen; simp; omega)
  have h2 := O1.vw h1
  simp only [List.size_toArray, List.length_map] at h2
  exact h2
/-- Where l9DrawDeeds' loop stands, k rounds ahead. -/
def DL (w : World) (B b : Nat) (f : S → Nat × S) (M tot : Nat) (r : Nat × S) (v : Value) (k : Nat) (wr : World) : Prop :=
  ∃ (l : List Tk) (st : S), OT w.heap.size wr v l ∧ SmT l ∧ l.length + k * M ≤ tot ∧ r = (l.length + (loopM f k st).1, (loopM f k st).2) ∧ StE w B b st wr
theorem DL.step {w : World} {B b : Nat} {f : S → Nat × S} {M tot : Nat} {r q : Nat × S} {v' : Value} {k : Nat} {wr' : World} {l L' : List Tk} {st : S} (hk : 0 < k) (hq : f st = q) (ho : OT w.heap.size wr' v' L') (hs : SmT L')
    (hlen : L'.length = l.length + q.1) (hM : q.1 ≤ M) (hl : l.length + k * M ≤ tot) (hr : r = (l.length + (loopM f k st).1, (loopM f k st).2)) (hst : StE w B b q.2 wr') : DL w B b f M tot r v' (k - 1) wr' := by
  obtain ⟨k, rfl⟩ : ∃ j, k = j + 1 := ⟨k - 1, by omega⟩
  refine ⟨L', q.2, ho, hs, ?_, ?_, hst⟩
  · rw [Nat.add_sub_cancel]
    rw [Nat.succ_mul] at hl
    omega
  · rw [hr, Nat.add_sub_cancel]
    show (l.length + ((f st).1 + (loopM f k (f st).2).1), (loopM f k (f st).2).2) = _
    rw [hq, hlen, Nat.add_assoc]
/-- The contract of l9DrawDeeds. -/
def DeedsC (N : Nat) (dep most : Int) (f : S → Nat × S) : Prop := ∀ (B b : Nat) (s : S) (w : World), CurE B b s w →
    Calls Tryz.prog 79 #[.pointer (some ⟨b, 0, none⟩), .int .i64 dep, .int .i64 most] w (DrawsXE N B b w (f s))
set_option maxHeartbeats 32000000 in
set_option maxRecDepth 100000 in
theorem deeds0E (dep : Int) (hdep : dep ≤ 0) (hlo : -1000 ≤ dep) (M : Nat) (hM : M = 9) (most : Int) (h1 : 1 ≤ most) (h5 : most ≤ 5) :
    DeedsC (4 * M) dep most (fun s => loopM (deedM none) (belowM most s).1.toNat (belowM most s).2) := by
  intro B b s w hc
  have hlt := hc.lt
  have HB0 := Lib.hid (belowE B b most s _ (hc.alloc (.cells #[] 9)) (by omega) (by omega))
  have RB0 := belowM_range h1 s
  have HR0 := Lib.hid (show (fun s => loopM (deedM none) (belowM most s).1.toNat (belowM most s).2) s = loopM (deedM none) (belowM most s).1.toNat (belowM most s).2 from rfl)
  generalize (fun s => loopM (deedM none) (belowM most s).1.toNat (belowM most s).2) s = r at *
  generalize belowM most s = qq at *
  obtain ⟨n0, st0⟩ := qq
  dsimp only at RB0 HR0
  have HS := Lib.hid (StE.alloc ⟨But.refl b w, hc, hlt⟩ : ∀ o, StE w B b s (w.alloc o)); clear hc
  have HO := Lib.hid (show OT w.heap.size (w.alloc (.cells #[] 9)) (.slice (some ⟨w.heap.size, 0, none⟩) 0 0) [] from O1.start (Nat.le_refl _))
  obtain ⟨k0, rfl⟩ := Int.eq_ofNat_of_zero_le RB0.1
  rw [Int.toNat_natCast] at HR0
  go_enter Tryz.func79, Tryz.ntmps79
  go_wp2_with fail
  refine HB0.out.mono ?_; rintro e w0 ⟨rfl, hc, hw⟩
  dsimp only at hc
  have HSW := Lib.hid ((HS.out _).draws hw hc)
  have HOW := Lib.hid (HO.out.but hw hlt)
  clear hc hw HS HO HB0
  go_wp2_with fail
  go_loopw [7, 8, 9] (fun v n _ wr => ∃ k : Nat, k ≤ 4 ∧ n = .int .i64 (k : Int) ∧ DL w B b (deedM none) M (4 * M) r v k wr) (fun _ n _ _ => intV n)
  case atStart => exact ⟨k0, by omega, rfl, [], st0, HOW.out, (fun c hc => by cases hc), (by have : k0 * M ≤ 4 * M := Nat.mul_le_mul_right _ (by omega); simpa using this), by rw [HR0.out] <;> simp, HSW.out⟩
  case round =>
    clear HSW HOW HR0
    obtain ⟨k, hk4, rfl, l, st, ho, hsm, hlk, hr, hst⟩ := hrel
    have HO := Lib.hid ho
    have HSM := Lib.hid hsm
    have HLK := Lib.hid hlk
    have HR := Lib.hid hr
    have HS := Lib.hid hst
    have hl0 : l.length ≤ 4 * M := by omega
    clear ho hsm hlk hr hst
    by_cases hp : 0 < k
    · have i1 : (0 : Int) < (k : Int) := by omega
      have HF := Lib.hid (show deedM none st = deedM none st from rfl)
      have HM := Lib.hid (show deedM none st = (let a := belowM 8 st; if a.1 = 0 then (2, (belowM 6 a.2).2) else if a.1 = 1 then (let b := belowM 4 a.2; (if b.1 = 0 then 1 else 0, b.2)) else if a.1 = 2 ∨ a.1 = 3 then (0, a.2) else if a.1 = 4 then (0, a.2) else (let b := numM 2 (belowM 6 a.2).2; (2 + b.1, b.2))) from rfl)
      generalize hq : deedM none st = q at HM
      replace HF := Lib.hid hq; clear hq
      have HB1 := Lib.hid (belowE B b 8 st wr HS.out.cur (by decide) (by decide))
      have RB1 := belowM_range (n := 8) (by decide) st
      generalize belowM 8 st = qq at *
      obtain ⟨x, st1⟩ := qq
      dsimp only at RB1 HM
      go_wp2_with fail
      refine HB1.out.mono ?_; rintro e w1 ⟨rfl, hc, hw⟩
      dsimp only at hc
      have HS1 := Lib.hid (HS.out.draws hw hc)
      have HO1 := Lib.hid (HO.out.but hw hlt)
      clear hc hw
      clear HB1
      by_cases x0 : x = 0
      · subst x0
        replace HM := Lib.hid (HM.out.trans (if_pos rfl))
        have HB2 := Lib.hid (nameE B b st1 w1 HS1.out.cur)
        generalize belowM 6 st1 = qq at *
        obtain ⟨ny2, st2⟩ := qq
        dsimp only at HM HB2
        go_wp2_with fail
        refine HB2.out.mono ?_; rintro e w2 ⟨tt, rfl, hnm, hc, hw⟩
        obtain ⟨t, rfl⟩ : ∃ t, tt = tx t := ⟨_, (tx_of tt).symm⟩
        rw [tx_data] at hnm
        have HNt := Lib.hid (nm_len hnm); clear hnm HB2
        have HS2 := Lib.hid (HS1.out.draws hw hc)
        have HO2 := Lib.hid (HO1.out.but hw hlt)
        clear hc hw
        have HV3 := Lib.hid (litV w2 [[99, 117, 116], t] (by simp))
        have HP3 := Lib.hid (HS2.out.alloc (.cells ([[99, 117, 116], t].map tv).toArray 9))
        have HQ3 := Lib.hid (HO2.out.next (bel1 w2 (.cells ([[99, 117, 116], t].map tv).toArray 9)))
        go_wp2_with (first
          | (at_builtin; refine append_tx rfl (.tmp 31) (.tmp 34) rfl (base := w.heap.size) (l := l) (m := [[99, 117, 116], t]) rfl rfl rfl HQ3.out HV3.out (by simp; omega) HP3.out.size ?_; intro v3 w3 oo gg; have HS3 := Lib.hid (HP3.out.grown gg (fun k hk => OT.lt HQ3.out k hk)); have HO3 := Lib.hid oo; clear oo gg))
        have i2 : (k : Int) - 1 = ((k - 1 : Nat) : Int) := by omega
        go_roundw
        case rel => exact ⟨k - 1, by omega, by go_num, DL.step hp HF.out HO3.out (SmT.app HSM.out ((SmT.one (by decide)).app (SmT.one (by have := HNt.out; omega)))) (by rw [HM.out]; simp <;> omega) (by rw [HM.out]; (try dsimp only) <;> omega) HLK.out HR.out (by rw [HM.out]; exact HS3.out)⟩
        case measure => simp [intV]; omega
      have e0 : (x == 0) = false := beq_eq_false_iff_ne.2 x0
      replace HM := Lib.hid (HM.out.trans (if_neg x0))
      by_cases x1 : x = 1
      · subst x1
        replace HM := Lib.hid (HM.out.trans (if_pos rfl))
        have HB2 := Lib.hid (onceE B b 4 st1 w1 HS1.out.cur (by decide) (by decide))
        have RB2 := belowM_range (n := 4) (by decide) st1
        generalize belowM 4 st1 = qq at *
        obtain ⟨y, st2⟩ := qq
        dsimp only at RB2 HM
        go_wp2_with fail
        refine HB2.out.mono ?_; rintro e w2 ⟨rfl, hc, hw⟩
        dsimp only at hc
        have HS2 := Lib.hid (HS1.out.draws hw hc)
        have HO2 := Lib.hid (HO1.out.but hw hlt)
        clear hc hw
        clear HB2
        by_cases y0 : y = 0
        · subst y0
          have HV3 := Lib.hid (litV w2 [[115, 116, 111, 112]] (by simp))
          have HP3 := Lib.hid (HS2.out.alloc (.cells ([[115, 116, 111, 112]].map tv).toArray 9))
          have HQ3 := Lib.hid (HO2.out.next (bel1 w2 (.cells ([[115, 116, 111, 112]].map tv).toArray 9)))
          go_wp2_with (first
            | (at_builtin; refine append_tx rfl (.tmp 40) (.tmp 41) rfl (base := w.heap.size) (l := l) (m := [[115, 116, 111, 112]]) rfl rfl rfl HQ3.out HV3.out (by simp; omega) HP3.out.size ?_; intro v3 w3 oo gg; have HS3 := Lib.hid (HP3.out.grown gg (fun k hk => OT.lt HQ3.out k hk)); have HO3 := Lib.hid oo; clear oo gg))
          replace HM := Lib.hid (show q = (1, st2) by rw [HM.out]; simp)
          have i2 : (k : Int) - 1 = ((k - 1 : Nat) : Int) := by omega
          go_roundw
          case rel => exact ⟨k - 1, by omega, by go_num, DL.step hp HF.out HO3.out (SmT.app HSM.out (SmT.one (by decide))) (by rw [HM.out]; simp <;> omega) (by rw [HM.out]; (try dsimp only) <;> omega) HLK.out HR.out (by rw [HM.out]; exact HS3.out)⟩
          case measure => simp [intV]; omega
        · have f0 : (y == 0) = false := beq_eq_false_iff_ne.2 y0
          replace HM := Lib.hid (show q = (0, st2) by rw [HM.out, if_neg y0])
          go_wp2_with fail
          have i2 : (k : Int) - 1 = ((k - 1 : Nat) : Int) := by omega
          go_roundw
          case rel => exact ⟨k - 1, by omega, by go_num, DL.step hp HF.out HO2.out HSM.out (by rw [HM.out]; simp <;> omega) (by rw [HM.out]; (try dsimp only) <;> omega) HLK.out HR.out (by rw [HM.out]; exact HS2.out)⟩
          case measure => simp [intV]; omega
      have e1 : (x == 1) = false := beq_eq_false_iff_ne.2 x1
      replace HM := Lib.hid (HM.out.trans (if_neg x1))
      by_cases x2 : x = 2
      · subst x2
        replace HM := Lib.hid (HM.out.trans (if_pos (Or.inl rfl)))
        try dsimp only at HM
        have d0 : decide (0 < dep) = false := by simpa using hdep
        go_wp2_with fail
        have i2 : (k : Int) - 1 = ((k - 1 : Nat) : Int) := by omega
        go_roundw
        case rel => exact ⟨k - 1, by omega, by go_num, DL.step hp HF.out HO1.out HSM.out (by rw [HM.out]; simp <;> omega) (by rw [HM.out]; (try dsimp only) <;> omega) HLK.out HR.out (by rw [HM.out]; exact HS1.out)⟩
        case measure => simp [intV]; omega
      have e2 : (x == 2) = false := beq_eq_false_iff_ne.2 x2
      by_cases x3 : x = 3
      · subst x3
        replace HM := Lib.hid (HM.out.trans (if_pos (Or.inr rfl)))
        try dsimp only at HM
        have d0 : decide (0 < dep) = false := by simpa using hdep
        go_wp2_with fail
        have i2 : (k : Int) - 1 = ((k - 1 : Nat) : Int) := by omega
        go_roundw
        case rel => exact ⟨k - 1, by omega, by go_num, DL.step hp HF.out HO1.out HSM.out (by rw [HM.out]; simp <;> omega) (by rw [HM.out]; (try dsimp only) <;> omega) HLK.out HR.out (by rw [HM.out]; exact HS1.out)⟩
        case measure => simp [intV]; omega
      have e3 : (x == 3) = false := beq_eq_false_iff_ne.2 x3
      replace HM := Lib.hid (HM.out.trans (if_neg (by omega)))
      by_cases x4 : x = 4
      · subst x4
        replace HM := Lib.hid (HM.out.trans (if_pos rfl))
        try dsimp only at HM
        have d0 : decide (0 < dep) = false := by simpa using hdep
        go_wp2_with fail
        have i2 : (k : Int) - 1 = ((k - 1 : Nat) : Int) := by omega
        go_roundw
        case rel => exact ⟨k - 1, by omega, by go_num, DL.step hp HF.out HO1.out HSM.out (by rw [HM.out]; simp <;> omega) (by rw [HM.out]; (try dsimp only) <;> omega) HLK.out HR.out (by rw [HM.out]; exact HS1.out)⟩
        case measure => simp [intV]; omega
      have e4 : (x == 4) = false := beq_eq_false_iff_ne.2 x4
      replace HM := Lib.hid (HM.out.trans (if_neg x4))
      try dsimp only at HM
      have HB2 := Lib.hid (nameE B b st1 w1 HS1.out.cur)
      generalize belowM 6 st1 = qq at *
      obtain ⟨ny2, st2⟩ := qq
      dsimp only at HM HB2
      go_wp2_with fail
      refine HB2.out.mono ?_; rintro e w2 ⟨tt, rfl, hnm, hc, hw⟩
      obtain ⟨t, rfl⟩ : ∃ t, tt = tx t := ⟨_, (tx_of tt).symm⟩
      rw [tx_data] at hnm
      have HNt := Lib.hid (nm_len hnm); clear hnm HB2
      have HS2 := Lib.hid (HS1.out.draws hw hc)
      have HO2 := Lib.hid (HO1.out.but hw hlt)
      clear hc hw
      have HV3 := Lib.hid (litV w2 [[115, 101, 116], t] (by simp))
      have HP3 := Lib.hid (HS2.out.alloc (.cells ([[115, 101, 116], t].map tv).toArray 9))
      have HQ3 := Lib.hid (HO2.out.next (bel1 w2 (.cells ([[115, 101, 116], t].map tv).toArray 9)))
      go_wp2_with (first
        | (at_builtin; refine append_tx rfl (.tmp 20) (.tmp 23) rfl (base := w.heap.size) (l := l) (m := [[115, 101, 116], t]) rfl rfl rfl HQ3.out HV3.out (by simp; omega) HP3.out.size ?_; intro v3 w3 oo gg; have HS3 := Lib.hid (HP3.out.grown gg (fun k hk => OT.lt HQ3.out k hk)); have HO3 := Lib.hid oo; clear oo gg))
      have HB4 := Lib.hid (sumE_num2 B b st2 w3 HS3.out.cur)
      generalize numM 2 st2 = qq at *
      obtain ⟨m4, st4⟩ := qq
      dsimp only at HM HB4
      refine HB4.out.mono ?_; rintro e w4 ⟨dv4, dl4, rfl, od, nd4, qd, sd, hc, hw⟩
      dsimp only at qd hc
      have QD4 := Lib.hid qd
      have SD4 := Lib.hid sd
      obtain ⟨da4, dc4, rfl, hvd⟩ := od.form
      have HV4 := Lib.hid hvd
      clear qd sd od hvd HB4
      have HS4 := Lib.hid (HS3.out.draws hw hc)
      have HO4 := Lib.hid (HO3.out.but hw hlt)
      clear hc hw
      go_wp2_with (first
        | (at_builtin; refine append_tx rfl (.tmp 25) (.tmp 27) rfl (base := w.heap.size) (l := (l ++ [[115, 101, 116], t])) (m := dl4) rfl rfl rfl HO4.out HV4.out (by simp; omega) HS4.out.size ?_; intro v5 w5 oo gg; have HS5 := Lib.hid (HS4.out.grown gg (fun k hk => OT.lt HO4.out k hk)); have HO5 := Lib.hid oo; clear oo gg))
      have i2 : (k : Int) - 1 = ((k - 1 : Nat) : Int) := by omega
      go_roundw
      case rel => exact ⟨k - 1, by omega, by go_num, DL.step hp HF.out HO5.out (SmT.app (SmT.app HSM.out ((SmT.one (by decide)).app (SmT.one (by have := HNt.out; omega)))) SD4.out) (by rw [HM.out]; have := QD4.out; simp <;> omega) (by rw [HM.out]; have := QD4.out; (try dsimp only) <;> omega) HLK.out HR.out (by rw [HM.out]; exact HS5.out)⟩
      case measure => simp [intV]; omega
    · obtain rfl : k = 0 := by omega
      go_wp2_with fail
      go_ret
      exact ⟨_, l, rfl, HO.out, hl0, by rw [HR.out]; rfl, HSM.out, by rw [HR.out]; exact HS.out.cur, HS.out.but⟩
set_option maxHeartbeats 32000000 in
set_option maxRecDepth 100000 in
theorem deeds1E (N : Nat) (hN : N ≤ 10000) (dep : Int) (hdep : 0 < dep) (hhi : dep ≤ 1000) (D : Int → S → Nat × S) (ih3 : DeedsC N (dep - 1) 3 (D 3)) (ih2 : DeedsC N (dep - 1) 2 (D 2)) (M : Nat) (hM : M = 12 + 2 * N) (most : Int) (h1 : 1 ≤ most) (h5 : most ≤ 5) :
    DeedsC (4 * M) dep most (fun s => loopM (deedM (some D)) (belowM most s).1.toNat (belowM most s).2) := by
  intro B b s w hc
  have hlt := hc.lt
  have HB0 := Lib.hid (belowE B b most s _ (hc.alloc (.cells #[] 9)) (by omega) (by omega))
  have RB0 := belowM_range h1 s
  have HR0 := Lib.hid (show (fun s => loopM (deedM (some D)) (belowM most s).1.toNat (belowM most s).2) s = loopM (deedM (some D)) (belowM most s).1.toNat (belowM most s).2 from rfl)
  generalize (fun s => loopM (deedM (some D)) (belowM most s).1.toNat (belowM most s).2) s = r at *
  generalize belowM most s = qq at *
  obtain ⟨n0, st0⟩ := qq
  dsimp only at RB0 HR0
  have HS := Lib.hid (StE.alloc ⟨But.refl b w, hc, hlt⟩ : ∀ o, StE w B b s (w.alloc o)); clear hc
  have HO := Lib.hid (show OT w.heap.size (w.alloc (.cells #[] 9)) (.slice (some ⟨w.heap.size, 0, none⟩) 0 0) [] from O1.start (Nat.le_refl _))
  have IH3 := Lib.hid ih3; clear ih3
  have IH2 := Lib.hid ih2; clear ih2
  obtain ⟨k0, rfl⟩ := Int.eq_ofNat_of_zero_le RB0.1
  rw [Int.toNat_natCast] at HR0
  go_enter Tryz.func79, Tryz.ntmps79
  go_wp2_with fail
  refine HB0.out.mono ?_; rintro e w0 ⟨rfl, hc, hw⟩
  dsimp only at hc
  have HSW := Lib.hid ((HS.out _).draws hw hc)
  have HOW := Lib.hid (HO.out.but hw hlt)
  clear hc hw HS HO HB0
  go_wp2_with fail
  go_loopw [7, 8, 9] (fun v n _ wr => ∃ k : Nat, k ≤ 4 ∧ n = .int .i64 (k : Int) ∧ DL w B b (deedM (some D)) M (4 * M) r v k wr) (fun _ n _ _ => intV n)
  case atStart => exact ⟨k0, by omega, rfl, [], st0, HOW.out, (fun c hc => by cases hc), (by have : k0 * M ≤ 4 * M := Nat.mul_le_mul_right _ (by omega); simpa using this), by rw [HR0.out] <;> simp, HSW.out⟩
  case round =>
    clear HSW HOW HR0
    obtain ⟨k, hk4, rfl, l, st, ho, hsm, hlk, hr, hst⟩ := hrel
    have HO := Lib.hid ho
    have HSM := Lib.hid hsm
    have HLK := Lib.hid hlk
    have HR := Lib.hid hr
    have HS := Lib.hid hst
    have hl0 : l.length ≤ 4 * M := by omega
    clear ho hsm hlk hr hst
    by_cases hp : 0 < k
    · have i1 : (0 : Int) < (k : Int) := by omega
      have HF := Lib.hid (show deedM (some D) st = deedM (some D) st from rfl)
      have HM := Lib.hid (show deedM (some D) st = (let a := belowM 8 st; if a.1 = 0 then (2, (belowM 6 a.2).2) else if a.1 = 1 then (let b := belowM 4 a.2; (if b.1 = 0 then 1 else 0, b.2)) else if a.1 = 2 ∨ a.1 = 3 then (let t := truM 2 a.2; let b := D 3 t.2; let c := D 3 b.2; (1 + t.1 + 1 + b.1 + 2 + c.1 + 1, c.2)) else if a.1 = 4 then (let b := D 2 (belowM 12 (belowM 6 a.2).2).2; (5 + b.1 + 6, b.2)) else (let b := numM 2 (belowM 6 a.2).2; (2 + b.1, b.2))) from rfl)
      generalize hq : deedM (some D) st = q at HM
      replace HF := Lib.hid hq; clear hq
      have HB1 := Lib.hid (belowE B b 8 st wr HS.out.cur (by decide) (by decide))
      have RB1 := belowM_range (n := 8) (by decide) st
      generalize belowM 8 st = qq at *
      obtain ⟨x, st1⟩ := qq
      dsimp only at RB1 HM
      go_wp2_with fail
      refine HB1.out.mono ?_; rintro e w1 ⟨rfl, hc, hw⟩
      dsimp only at hc
      have HS1 := Lib.hid (HS.out.draws hw hc)
      have HO1 := Lib.hid (HO.out.but hw hlt)
      clear hc hw
      clear HB1
      by_cases x0 : x = 0
      · subst x0
        replace HM := Lib.hid (HM.out.trans (if_pos rfl))
        have HB2 := Lib.hid (nameE B b st1 w1 HS1.out.cur)
        generalize belowM 6 st1 = qq at *
        obtain ⟨ny2, st2⟩ := qq
        dsimp only at HM HB2
        go_wp2_with fail
        refine HB2.out.mono ?_; rintro e w2 ⟨tt, rfl, hnm, hc, hw⟩
        obtain ⟨t, rfl⟩ : ∃ t, tt = tx t := ⟨_, (tx_of tt).symm⟩
        rw [tx_data] at hnm
        have HNt := Lib.hid (nm_len hnm); clear hnm HB2
        have HS2 := Lib.hid (HS1.out.draws hw hc)
        have HO2 := Lib.hid (HO1.out.but hw hlt)
        clear hc hw
        have HV3 := Lib.hid (litV w2 [[99, 117, 116], t] (by simp))
        have HP3 := Lib.hid (HS2.out.alloc (.cells ([[99, 117, 116], t].map tv).toArray 9))
        have HQ3 := Lib.hid (HO2.out.next (bel1 w2 (.cells ([[99, 117, 116], t].map tv).toArray 9)))
        go_wp2_with (first
          | (at_builtin; refine append_tx rfl (.tmp 31) (.tmp 34) rfl (base := w.heap.size) (l := l) (m := [[99, 117, 116], t]) rfl rfl rfl HQ3.out HV3.out (by simp; omega) HP3.out.size ?_; intro v3 w3 oo gg; have HS3 := Lib.hid (HP3.out.grown gg (fun k hk => OT.lt HQ3.out k hk)); have HO3 := Lib.hid oo; clear oo gg))
        have i2 : (k : Int) - 1 = ((k - 1 : Nat) : Int) := by omega
        go_roundw
        case rel => exact ⟨k - 1, by omega, by go_num, DL.step hp HF.out HO3.out (SmT.app HSM.out ((SmT.one (by decide)).app (SmT.one (by have := HNt.out; omega)))) (by rw [HM.out]; simp <;> omega) (by rw [HM.out]; (try dsimp only) <;> omega) HLK.out HR.out (by rw [HM.out]; exact HS3.out)⟩
        case measure => simp [intV]; omega
      have e0 : (x == 0) = false := beq_eq_false_iff_ne.2 x0
      replace HM := Lib.hid (HM.out.trans (if_neg x0))
      by_cases x1 : x = 1
      · subst x1
        replace HM := Lib.hid (HM.out.trans (if_pos rfl))
        have HB2 := Lib.hid (onceE B b 4 st1 w1 HS1.out.cur (by decide) (by decide))
        have RB2 := belowM_range (n := 4) (by decide) st1
        generalize belowM 4 st1 = qq at *
        obtain ⟨y, st2⟩ := qq
        dsimp only at RB2 HM
        go_wp2_with fail
        refine HB2.out.mono ?_; rintro e w2 ⟨rfl, hc, hw⟩
        dsimp only at hc
        have HS2 := Lib.hid (HS1.out.draws hw hc)
        have HO2 := Lib.hid (HO1.out.but hw hlt)
        clear hc hw
        clear HB2
        by_cases y0 : y = 0
        · subst y0
          have HV3 := Lib.hid (litV w2 [[115, 116, 111, 112]] (by simp))
          have HP3 := Lib.hid (HS2.out.alloc (.cells ([[115, 116, 111, 112]].map tv).toArray 9))
          have HQ3 := Lib.hid (HO2.out.next (bel1 w2 (.cells ([[115, 116, 111, 112]].map tv).toArray 9)))
          go_wp2_with (first
            | (at_builtin; refine append_tx rfl (.tmp 40) (.tmp 41) rfl (base := w.heap.size) (l := l) (m := [[115, 116, 111, 112]]) rfl rfl rfl HQ3.out HV3.out (by simp; omega) HP3.out.size ?_; intro v3 w3 oo gg; have HS3 := Lib.hid (HP3.out.grown gg (fun k hk => OT.lt HQ3.out k hk)); have HO3 := Lib.hid oo; clear oo gg))
          replace HM := Lib.hid (show q = (1, st2) by rw [HM.out]; simp)
          have i2 : (k : Int) - 1 = ((k - 1 : Nat) : Int) := by omega
          go_roundw
          case rel => exact ⟨k - 1, by omega, by go_num, DL.step hp HF.out HO3.out (SmT.app HSM.out (SmT.one (by decide))) (by rw [HM.out]; simp <;> omega) (by rw [HM.out]; (try dsimp only) <;> omega) HLK.out HR.out (by rw [HM.out]; exact HS3.out)⟩
          case measure => simp [intV]; omega
        · have f0 : (y == 0) = false := beq_eq_false_iff_ne.2 y0
          replace HM := Lib.hid (show q = (0, st2) by rw [HM.out, if_neg y0])
          go_wp2_with fail
          have i2 : (k : Int) - 1 = ((k - 1 : Nat) : Int) := by omega
          go_roundw
          case rel => exact ⟨k - 1, by omega, by go_num, DL.step hp HF.out HO2.out HSM.out (by rw [HM.out]; simp <;> omega) (by rw [HM.out]; (try dsimp only) <;> omega) HLK.out HR.out (by rw [HM.out]; exact HS2.out)⟩
          case measure => simp [intV]; omega
      have e1 : (x == 1) = false := beq_eq_false_iff_ne.2 x1
      replace HM := Lib.hid (HM.out.trans (if_neg x1))
      by_cases x2 : x = 2
      · subst x2
        replace HM := Lib.hid (HM.out.trans (if_pos (Or.inl rfl)))
        try dsimp only at HM
        have d0 : decide (0 < dep) = true := by simpa using hdep
        have d1 : IntKind.i64.wrap (dep - 1) = dep - 1 := by rw [IntKind.wrap_i64]; omega
        have HV2 := Lib.hid (litV w1 [[105, 102]] (by simp))
        have HP2 := Lib.hid (HS1.out.alloc (.cells ([[105, 102]].map tv).toArray 9))
        have HQ2 := Lib.hid (HO1.out.next (bel1 w1 (.cells ([[105, 102]].map tv).toArray 9)))
        go_wp2_with (first
          | (at_builtin; refine append_tx rfl (.tmp 48) (.tmp 49) rfl (base := w.heap.size) (l := l) (m := [[105, 102]]) rfl rfl rfl HQ2.out HV2.out (by simp; omega) HP2.out.size ?_; intro v2 w2 oo gg; have HS2 := Lib.hid (HP2.out.grown gg (fun k hk => OT.lt HQ2.out k hk)); have HO2 := Lib.hid oo; clear oo gg))
        have HB3 := Lib.hid (sumE_tru2 B b st1 w2 HS2.out.cur)
        generalize truM 2 st1 = qq at *
        obtain ⟨m3, st3⟩ := qq
        dsimp only at HM HB3
        refine HB3.out.mono ?_; rintro e w3 ⟨dv3, dl3, rfl, od, nd3, qd, sd, hc, hw⟩
        dsimp only at qd hc
        have QD3 := Lib.hid qd
        have SD3 := Lib.hid sd
        obtain ⟨da3, dc3, rfl, hvd⟩ := od.form
        have HV3 := Lib.hid hvd
        clear qd sd od hvd HB3
        have HS3 := Lib.hid (HS2.out.draws hw hc)
        have HO3 := Lib.hid (HO2.out.but hw hlt)
        clear hc hw
        go_wp2_with (first
          | (at_builtin; refine append_tx rfl (.tmp 51) (.tmp 53) rfl (base := w.heap.size) (l := (l ++ [[105, 102]])) (m := dl3) rfl rfl rfl HO3.out HV3.out (by simp; omega) HS3.out.size ?_; intro v4 w4 oo gg; have HS4 := Lib.hid (HS3.out.grown gg (fun k hk => OT.lt HO3.out k hk)); have HO4 := Lib.hid oo; clear oo gg; have HV5 := Lib.hid (litV w4 [[91]] (by simp)); have HP5 := Lib.hid (HS4.out.alloc (.cells ([[91]].map tv).toArray 9)); have HQ5 := Lib.hid (HO4.out.next (bel1 w4 (.cells ([[91]].map tv).toArray 9))))
          | (at_builtin; refine append_tx rfl (.tmp 55) (.tmp 56) rfl (base := w.heap.size) (l := ((l ++ [[105, 102]]) ++ dl3)) (m := [[91]]) rfl rfl rfl HQ5.out HV5.out (by simp; omega) HP5.out.size ?_; intro v5 w5 oo gg; have HS5 := Lib.hid (HP5.out.grown gg (fun k hk => OT.lt HQ5.out k hk)); have HO5 := Lib.hid oo; clear oo gg))
        have HB6 := Lib.hid (IH3.out B b st3 w5 HS5.out.cur)
        generalize D 3 st3 = qq at *
        obtain ⟨m6, st6⟩ := qq
        dsimp only at HM HB6
        refine HB6.out.mono ?_; rintro e w6 ⟨dv6, dl6, rfl, od, nd6, qd, sd, hc, hw⟩
        dsimp only at qd hc
        have QD6 := Lib.hid qd
        have SD6 := Lib.hid sd
        obtain ⟨da6, dc6, rfl, hvd⟩ := od.form
        have HV6 := Lib.hid hvd
        clear qd sd od hvd HB6
        have HS6 := Lib.hid (HS5.out.draws hw hc)
        have HO6 := Lib.hid (HO5.out.but hw hlt)
        clear hc hw
        go_wp2_with (first
          | (at_builtin; refine append_tx rfl (.tmp 57) (.tmp 61) rfl (base := w.heap.size) (l := (((l ++ [[105, 102]]) ++ dl3) ++ [[91]])) (m := dl6) rfl rfl rfl HO6.out HV6.out (by simp; omega) HS6.out.size ?_; intro v7 w7 oo gg; have HS7 := Lib.hid (HS6.out.grown gg (fun k hk => OT.lt HO6.out k hk)); have HO7 := Lib.hid oo; clear oo gg; have HV8 := Lib.hid (litV w7 [[93], [91]] (by simp)); have HP8 := Lib.hid (HS7.out.alloc (.cells ([[93], [91]].map tv).toArray 9)); have HQ8 := Lib.hid (HO7.out.next (bel1 w7 (.cells ([[93], [91]].map tv).toArray 9))))
          | (at_builtin; refine append_tx rfl (.tmp 62) (.tmp 63) rfl (base := w.heap.size) (l := ((((l ++ [[105, 102]]) ++ dl3) ++ [[91]]) ++ dl6)) (m := [[93], [91]]) rfl rfl rfl HQ8.out HV8.out (by simp; omega) HP8.out.size ?_; intro v8 w8 oo gg; have HS8 := Lib.hid (HP8.out.grown gg (fun k hk => OT.lt HQ8.out k hk)); have HO8 := Lib.hid oo; clear oo gg))
        have HB9 := Lib.hid (IH3.out B b st6 w8 HS8.out.cur)
        generalize D 3 st6 = qq at *
        obtain ⟨m9, st9⟩ := qq
        dsimp only at HM HB9
        refine HB9.out.mono ?_; rintro e w9 ⟨dv9, dl9, rfl, od, nd9, qd, sd, hc, hw⟩
        dsimp only at qd hc
        have QD9 := Lib.hid qd
        have SD9 := Lib.hid sd
        obtain ⟨da9, dc9, rfl, hvd⟩ := od.form
        have HV9 := Lib.hid hvd
        clear qd sd od hvd HB9
        have HS9 := Lib.hid (HS8.out.draws hw hc)
        have HO9 := Lib.hid (HO8.out.but hw hlt)
        clear hc hw
        go_wp2_with (first
          | (at_builtin; refine append_tx rfl (.tmp 65) (.tmp 69) rfl (base := w.heap.size) (l := (((((l ++ [[105, 102]]) ++ dl3) ++ [[91]]) ++ dl6) ++ [[93], [91]])) (m := dl9) rfl rfl rfl HO9.out HV9.out (by simp; omega) HS9.out.size ?_; intro v10 w10 oo gg; have HS10 := Lib.hid (HS9.out.grown gg (fun k hk => OT.lt HO9.out k hk)); have HO10 := Lib.hid oo; clear oo gg; have HV11 := Lib.hid (litV w10 [[93]] (by simp)); have HP11 := Lib.hid (HS10.out.alloc (.cells ([[93]].map tv).toArray 9)); have HQ11 := Lib.hid (HO10.out.next (bel1 w10 (.cells ([[93]].map tv).toArray 9))))
          | (at_builtin; refine append_tx rfl (.tmp 70) (.tmp 71) rfl (base := w.heap.size) (l := ((((((l ++ [[105, 102]]) ++ dl3) ++ [[91]]) ++ dl6) ++ [[93], [91]]) ++ dl9)) (m := [[93]]) rfl rfl rfl HQ11.out HV11.out (by simp; omega) HP11.out.size ?_; intro v11 w11 oo gg; have HS11 := Lib.hid (HP11.out.grown gg (fun k hk => OT.lt HQ11.out k hk)); have HO11 := Lib.hid oo; clear oo gg))
        have i2 : (k : Int) - 1 = ((k - 1 : Nat) : Int) := by omega
        go_roundw
        case rel => exact ⟨k - 1, by omega, by go_num, DL.step hp HF.out HO11.out (SmT.app (SmT.app (SmT.app (SmT.app (SmT.app (SmT.app (SmT.app HSM.out (SmT.one (by decide))) SD3.out) (SmT.one (by decide))) SD6.out) ((SmT.one (by decide)).app (SmT.one (by decide)))) SD9.out) (SmT.one (by decide))) (by rw [HM.out]; have := QD3.out; have := QD6.out; have := QD9.out; simp <;> omega) (by rw [HM.out]; have := QD3.out; have := QD6.out; have := QD9.out; (try dsimp only) <;> omega) HLK.out HR.out (by rw [HM.out]; exact HS11.out)⟩
        case measure => simp [intV]; omega
      have e2 : (x == 2) = false := beq_eq_false_iff_ne.2 x2
      by_cases x3 : x = 3
      · subst x3
        replace HM := Lib.hid (HM.out.trans (if_pos (Or.inr rfl)))
        try dsimp only at HM
        have d0 : decide (0 < dep) = true := by simpa using hdep
        have d1 : IntKind.i64.wrap (dep - 1) = dep - 1 := by rw [IntKind.wrap_i64]; omega
        have HV2 := Lib.hid (litV w1 [[105, 102]] (by simp))
        have HP2 := Lib.hid (HS1.out.alloc (.cells ([[105, 102]].map tv).toArray 9))
        have HQ2 := Lib.hid (HO1.out.next (bel1 w1 (.cells ([[105, 102]].map tv).toArray 9)))
        go_wp2_with (first
          | (at_builtin; refine append_tx rfl (.tmp 48) (.tmp 49) rfl (base := w.heap.size) (l := l) (m := [[105, 102]]) rfl rfl rfl HQ2.out HV2.out (by simp; omega) HP2.out.size ?_; intro v2 w2 oo gg; have HS2 := Lib.hid (HP2.out.grown gg (fun k hk => OT.lt HQ2.out k hk)); have HO2 := Lib.hid oo; clear oo gg))
        have HB3 := Lib.hid (sumE_tru2 B b st1 w2 HS2.out.cur)
        generalize truM 2 st1 = qq at *
        obtain ⟨m3, st3⟩ := qq
        dsimp only at HM HB3
        refine HB3.out.mono ?_; rintro e w3 ⟨dv3, dl3, rfl, od, nd3, qd, sd, hc, hw⟩
        dsimp only at qd hc
        have QD3 := Lib.hid qd
        have SD3 := Lib.hid sd
        obtain ⟨da3, dc3, rfl, hvd⟩ := od.form
        have HV3 := Lib.hid hvd
        clear qd sd od hvd HB3
        have HS3 := Lib.hid (HS2.out.draws hw hc)
        have HO3 := Lib.hid (HO2.out.but hw hlt)
        clear hc hw
        go_wp2_with (first
          | (at_builtin; refine append_tx rfl (.tmp 51) (.tmp 53) rfl (base := w.heap.size) (l := (l ++ [[105, 102]])) (m := dl3) rfl rfl rfl HO3.out HV3.out (by simp; omega) HS3.out.size ?_; intro v4 w4 oo gg; have HS4 := Lib.hid (HS3.out.grown gg (fun k hk => OT.lt HO3.out k hk)); have HO4 := Lib.hid oo; clear oo gg; have HV5 := Lib.hid (litV w4 [[91]] (by simp)); have HP5 := Lib.hid (HS4.out.alloc (.cells ([[91]].map tv).toArray 9)); have HQ5 := Lib.hid (HO4.out.next (bel1 w4 (.cells ([[91]].map tv).toArray 9))))
          | (at_builtin; refine append_tx rfl (.tmp 55) (.tmp 56) rfl (base := w.heap.size) (l := ((l ++ [[105, 102]]) ++ dl3)) (m := [[91]]) rfl rfl rfl HQ5.out HV5.out (by simp; omega) HP5.out.size ?_; intro v5 w5 oo gg; have HS5 := Lib.hid (HP5.out.grown gg (fun k hk => OT.lt HQ5.out k hk)); have HO5 := Lib.hid oo; clear oo gg))
        have HB6 := Lib.hid (IH3.out B b st3 w5 HS5.out.cur)
        generalize D 3 st3 = qq at *
        obtain ⟨m6, st6⟩ := qq
        dsimp only at HM HB6
        refine HB6.out.mono ?_; rintro e w6 ⟨dv6, dl6, rfl, od, nd6, qd, sd, hc, hw⟩
        dsimp only at qd hc
        have QD6 := Lib.hid qd
        have SD6 := Lib.hid sd
        obtain ⟨da6, dc6, rfl, hvd⟩ := od.form
        have HV6 := Lib.hid hvd
        clear qd sd od hvd HB6
        have HS6 := Lib.hid (HS5.out.draws hw hc)
        have HO6 := Lib.hid (HO5.out.but hw hlt)
        clear hc hw
        go_wp2_with (first
          | (at_builtin; refine append_tx rfl (.tmp 57) (.tmp 61) rfl (base := w.heap.size) (l := (((l ++ [[105, 102]]) ++ dl3) ++ [[91]])) (m := dl6) rfl rfl rfl HO6.out HV6.out (by simp; omega) HS6.out.size ?_; intro v7 w7 oo gg; have HS7 := Lib.hid (HS6.out.grown gg (fun k hk => OT.lt HO6.out k hk)); have HO7 := Lib.hid oo; clear oo gg; have HV8 := Lib.hid (litV w7 [[93], [91]] (by simp)); have HP8 := Lib.hid (HS7.out.alloc (.cells ([[93], [91]].map tv).toArray 9)); have HQ8 := Lib.hid (HO7.out.next (bel1 w7 (.cells ([[93], [91]].map tv).toArray 9))))
          | (at_builtin; refine append_tx rfl (.tmp 62) (.tmp 63) rfl (base := w.heap.size) (l := ((((l ++ [[105, 102]]) ++ dl3) ++ [[91]]) ++ dl6)) (m := [[93], [91]]) rfl rfl rfl HQ8.out HV8.out (by simp; omega) HP8.out.size ?_; intro v8 w8 oo gg; have HS8 := Lib.hid (HP8.out.grown gg (fun k hk => OT.lt HQ8.out k hk)); have HO8 := Lib.hid oo; clear oo gg))
        have HB9 := Lib.hid (IH3.out B b st6 w8 HS8.out.cur)
        generalize D 3 st6 = qq at *
        obtain ⟨m9, st9⟩ := qq
        dsimp only at HM HB9
        refine HB9.out.mono ?_; rintro e w9 ⟨dv9, dl9, rfl, od, nd9, qd, sd, hc, hw⟩
        dsimp only at qd hc
        have QD9 := Lib.hid qd
        have SD9 := Lib.hid sd
        obtain ⟨da9, dc9, rfl, hvd⟩ := od.form
        have HV9 := Lib.hid hvd
        clear qd sd od hvd HB9
        have HS9 := Lib.hid (HS8.out.draws hw hc)
        have HO9 := Lib.hid (HO8.out.but hw hlt)
        clear hc hw
        go_wp2_with (first
          | (at_builtin; refine append_tx rfl (.tmp 65) (.tmp 69) rfl (base := w.heap.size) (l := (((((l ++ [[105, 102]]) ++ dl3) ++ [[91]]) ++ dl6) ++ [[93], [91]])) (m := dl9) rfl rfl rfl HO9.out HV9.out (by simp; omega) HS9.out.size ?_; intro v10 w10 oo gg; have HS10 := Lib.hid (HS9.out.grown gg (fun k hk => OT.lt HO9.out k hk)); have HO10 := Lib.hid oo; clear oo gg; have HV11 := Lib.hid (litV w10 [[93]] (by simp)); have HP11 := Lib.hid (HS10.out.alloc (.cells ([[93]].map tv).toArray 9)); have HQ11 := Lib.hid (HO10.out.next (bel1 w10 (.cells ([[93]].map tv).toArray 9))))
          | (at_builtin; refine append_tx rfl (.tmp 70) (.tmp 71) rfl (base := w.heap.size) (l := ((((((l ++ [[105, 102]]) ++ dl3) ++ [[91]]) ++ dl6) ++ [[93], [91]]) ++ dl9)) (m := [[93]]) rfl rfl rfl HQ11.out HV11.out (by simp; omega) HP11.out.size ?_; intro v11 w11 oo gg; have HS11 := Lib.hid (HP11.out.grown gg (fun k hk => OT.lt HQ11.out k hk)); have HO11 := Lib.hid oo; clear oo gg))
        have i2 : (k : Int) - 1 = ((k - 1 : Nat) : Int) := by omega
        go_roundw
        case rel => exact ⟨k - 1, by omega, by go_num, DL.step hp HF.out HO11.out (SmT.app (SmT.app (SmT.app (SmT.app (SmT.app (SmT.app (SmT.app HSM.out (SmT.one (by decide))) SD3.out) (SmT.one (by decide))) SD6.out) ((SmT.one (by decide)).app (SmT.one (by decide)))) SD9.out) (SmT.one (by decide))) (by rw [HM.out]; have := QD3.out; have := QD6.out; have := QD9.out; simp <;> omega) (by rw [HM.out]; have := QD3.out; have := QD6.out; have := QD9.out; (try dsimp only) <;> omega) HLK.out HR.out (by rw [HM.out]; exact HS11.out)⟩
        case measure => simp [intV]; omega
      have e3 : (x == 3) = false := beq_eq_false_iff_ne.2 x3
      replace HM := Lib.hid (HM.out.trans (if_neg (by omega)))
      by_cases x4 : x = 4
      · subst x4
        replace HM := Lib.hid (HM.out.trans (if_pos rfl))
        try dsimp only at HM
        have d0 : decide (0 < dep) = true := by simpa using hdep
        have d1 : IntKind.i64.wrap (dep - 1) = dep - 1 := by rw [IntKind.wrap_i64]; omega
        have HB2 := Lib.hid (nameE B b st1 w1 HS1.out.cur)
        generalize belowM 6 st1 = qq at *
        obtain ⟨ny2, st2⟩ := qq
        dsimp only at HM HB2
        go_wp2_with fail
        refine HB2.out.mono ?_; rintro e w2 ⟨tt, rfl, hnm, hc, hw⟩
        obtain ⟨t, rfl⟩ : ∃ t, tt = tx t := ⟨_, (tx_of tt).symm⟩
        rw [tx_data] at hnm
        have HNt := Lib.hid (nm_len hnm); clear hnm HB2
        have HS2 := Lib.hid (HS1.out.draws hw hc)
        have HO2 := Lib.hid (HO1.out.but hw hlt)
        clear hc hw
        have HB3 := Lib.hid (belowE B b 12 st2 w2 HS2.out.cur (by decide) (by decide))
        have RB3 := belowM_range (n := 12) (by decide) st2
        generalize belowM 12 st2 = qq at *
        obtain ⟨y, st3⟩ := qq
        dsimp only at RB3 HM
        go_wp2_with fail
        refine HB3.out.mono ?_; rintro e w3 ⟨rfl, hc, hw⟩
        dsimp only at hc
        have HS3 := Lib.hid (HS2.out.draws hw hc)
        have HO3 := Lib.hid (HO2.out.but hw hlt)
        clear hc hw
        clear HB3
        go_wp2_with fail
        refine (l1Int_any y w3 (by omega) (by omega)).mono ?_; rintro e w4 ⟨rfl, bc⟩
        have HS4 := Lib.hid (HS3.out.below bc)
        have HO4 := Lib.hid (HO3.out.next bc)
        clear bc
        have HNi := Lib.hid (Lib.itoa_length_le y (by omega) (by omega))
        have HV5 := Lib.hid (litV w4 [[119, 104, 105, 108, 101], [60], t, Lib.itoa y, [91]] (by simp))
        have HP5 := Lib.hid (HS4.out.alloc (.cells ([[119, 104, 105, 108, 101], [60], t, Lib.itoa y, [91]].map tv).toArray 9))
        have HQ5 := Lib.hid (HO4.out.next (bel1 w4 (.cells ([[119, 104, 105, 108, 101], [60], t, Lib.itoa y, [91]].map tv).toArray 9)))
        go_wp2_with (first
          | (at_builtin; refine append_tx rfl (.tmp 79) (.tmp 84) rfl (base := w.heap.size) (l := l) (m := [[119, 104, 105, 108, 101], [60], t, Lib.itoa y, [91]]) rfl rfl rfl HQ5.out HV5.out (by simp; omega) HP5.out.size ?_; intro v5 w5 oo gg; have HS5 := Lib.hid (HP5.out.grown gg (fun k hk => OT.lt HQ5.out k hk)); have HO5 := Lib.hid oo; clear oo gg))
        have HB6 := Lib.hid (IH2.out B b st3 w5 HS5.out.cur)
        generalize D 2 st3 = qq at *
        obtain ⟨m6, st6⟩ := qq
        dsimp only at HM HB6
        refine HB6.out.mono ?_; rintro e w6 ⟨dv6, dl6, rfl, od, nd6, qd, sd, hc, hw⟩
        dsimp only at qd hc
        have QD6 := Lib.hid qd
        have SD6 := Lib.hid sd
        obtain ⟨da6, dc6, rfl, hvd⟩ := od.form
        have HV6 := Lib.hid hvd
        clear qd sd od hvd HB6
        have HS6 := Lib.hid (HS5.out.draws hw hc)
        have HO6 := Lib.hid (HO5.out.but hw hlt)
        clear hc hw
        go_wp2_with (first
          | (at_builtin; refine append_tx rfl (.tmp 86) (.tmp 90) rfl (base := w.heap.size) (l := (l ++ [[119, 104, 105, 108, 101], [60], t, Lib.itoa y, [91]])) (m := dl6) rfl rfl rfl HO6.out HV6.out (by simp; omega) HS6.out.size ?_; intro v7 w7 oo gg; have HS7 := Lib.hid (HS6.out.grown gg (fun k hk => OT.lt HO6.out k hk)); have HO7 := Lib.hid oo; clear oo gg; have HV8 := Lib.hid (litV w7 [[115, 101, 116], t, [43], t, [49], [93]] (by simp)); have HP8 := Lib.hid (HS7.out.alloc (.cells ([[115, 101, 116], t, [43], t, [49], [93]].map tv).toArray 9)); have HQ8 := Lib.hid (HO7.out.next (bel1 w7 (.cells ([[115, 101, 116], t, [43], t, [49], [93]].map tv).toArray 9))))
          | (at_builtin; refine append_tx rfl (.tmp 92) (.tmp 95) rfl (base := w.heap.size) (l := ((l ++ [[119, 104, 105, 108, 101], [60], t, Lib.itoa y, [91]]) ++ dl6)) (m := [[115, 101, 116], t, [43], t, [49], [93]]) rfl rfl rfl HQ8.out HV8.out (by simp; omega) HP8.out.size ?_; intro v8 w8 oo gg; have HS8 := Lib.hid (HP8.out.grown gg (fun k hk => OT.lt HQ8.out k hk)); have HO8 := Lib.hid oo; clear oo gg))
        have i2 : (k : Int) - 1 = ((k - 1 : Nat) : Int) := by omega
        go_roundw
        case rel => exact ⟨k - 1, by omega, by go_num, DL.step hp HF.out HO8.out (SmT.app (SmT.app (SmT.app HSM.out (((((SmT.one (by decide)).app (SmT.one (by decide))).app (SmT.one (by have := HNt.out; omega))).app (SmT.one (by have := HNi.out; omega))).app (SmT.one (by decide)))) SD6.out) ((((((SmT.one (by decide)).app (SmT.one (by have := HNt.out; omega))).app (SmT.one (by decide))).app (SmT.one (by have := HNt.out; omega))).app (SmT.one (by decide))).app (SmT.one (by decide)))) (by rw [HM.out]; have := QD6.out; simp <;> omega) (by rw [HM.out]; have := QD6.out; (try dsimp only) <;> omega) HLK.out HR.out (by rw [HM.out]; exact HS8.out)⟩
        case measure => simp [intV]; omega
      have e4 : (x == 4) = false := beq_eq_false_iff_ne.2 x4
      replace HM := Lib.hid (HM.out.trans (if_neg x4))
      try dsimp only at HM
      have HB2 := Lib.hid (nameE B b st1 w1 HS1.out.cur)
      generalize belowM 6 st1 = qq at *
      obtain ⟨ny2, st2⟩ := qq
      dsimp only at HM HB2
      go_wp2_with fail
      refine HB2.out.mono ?_; rintro e w2 ⟨tt, rfl, hnm, hc, hw⟩
      obtain ⟨t, rfl⟩ : ∃ t, tt = tx t := ⟨_, (tx_of tt).symm⟩
      rw [tx_data] at hnm
      have HNt := Lib.hid (nm_len hnm); clear hnm HB2
      have HS2 := Lib.hid (HS1.out.draws hw hc)
      have HO2 := Lib.hid (HO1.out.but hw hlt)
      clear hc hw
      have HV3 := Lib.hid (litV w2 [[115, 101, 116], t] (by simp))
      have HP3 := Lib.hid (HS2.out.alloc (.cells ([[115, 101, 116], t].map tv).toArray 9))
      have HQ3 := Lib.hid (HO2.out.next (bel1 w2 (.cells ([[115, 101, 116], t].map tv).toArray 9)))
      go_wp2_with (first
        | (at_builtin; refine append_tx rfl (.tmp 20) (.tmp 23) rfl (base := w.heap.size) (l := l) (m := [[115, 101, 116], t]) rfl rfl rfl HQ3.out HV3.out (by simp; omega) HP3.out.size ?_; intro v3 w3 oo gg; have HS3 := Lib.hid (HP3.out.grown gg (fun k hk => OT.lt HQ3.out k hk)); have HO3 := Lib.hid oo; clear oo gg))
      have HB4 := Lib.hid (sumE_num2 B b st2 w3 HS3.out.cur)
      generalize numM 2 st2 = qq at *
      obtain ⟨m4, st4⟩ := qq
      dsimp only at HM HB4
      refine HB4.out.mono ?_; rintro e w4 ⟨dv4, dl4, rfl, od, nd4, qd, sd, hc, hw⟩
      dsimp only at qd hc
      have QD4 := Lib.hid qd
      have SD4 := Lib.hid sd
      obtain ⟨da4, dc4, rfl, hvd⟩ := od.form
      have HV4 := Lib.hid hvd
      clear qd sd od hvd HB4
      have HS4 := Lib.hid (HS3.out.draws hw hc)
      have HO4 := Lib.hid (HO3.out.but hw hlt)
      clear hc hw
      go_wp2_with (first
        | (at_builtin; refine append_tx rfl (.tmp 25) (.tmp 27) rfl (base := w.heap.size) (l := (l ++ [[115, 101, 116], t])) (m := dl4) rfl rfl rfl HO4.out HV4.out (by simp; omega) HS4.out.size ?_; intro v5 w5 oo gg; have HS5 := Lib.hid (HS4.out.grown gg (fun k hk => OT.lt HO4.out k hk)); have HO5 := Lib.hid oo; clear oo gg))
      have i2 : (k : Int) - 1 = ((k - 1 : Nat) : Int) := by omega
      go_roundw
      case rel => exact ⟨k - 1, by omega, by go_num, DL.step hp HF.out HO5.out (SmT.app (SmT.app HSM.out ((SmT.one (by decide)).app (SmT.one (by have := HNt.out; omega)))) SD4.out) (by rw [HM.out]; have := QD4.out; simp <;> omega) (by rw [HM.out]; have := QD4.out; (try dsimp only) <;> omega) HLK.out HR.out (by rw [HM.out]; exact HS5.out)⟩
      case measure => simp [intV]; omega
    · obtain rfl : k = 0 := by omega
      go_wp2_with fail
      go_ret
      exact ⟨_, l, rfl, HO.out, hl0, by rw [HR.out]; rfl, HSM.out, by rw [HR.out]; exact HS.out.cur, HS.out.but⟩
theorem deeds0 (most : Int) (h1 : 1 ≤ most) (h5 : most ≤ 5) : DeedsC 36 0 most (deedsM 0 most) := deeds0E 0 (by decide) (by decide) 9 rfl most h1 h5
theorem deeds1 (most : Int) (h1 : 1 ≤ most) (h5 : most ≤ 5) : DeedsC 336 1 most (deedsM 1 most) := deeds1E 36 (by decide) 1 (by decide) (by decide) (deedsM 0) (deeds0 3 (by decide) (by decide)) (deeds0 2 (by decide) (by decide)) 84 rfl most h1 h5
theorem deeds2 (most : Int) (h1 : 1 ≤ most) (h5 : most ≤ 5) : DeedsC 2736 2 most (deedsM 2 most) := deeds1E 336 (by decide) 2 (by decide) (by decide) (deedsM 1) (deeds1 3 (by decide) (by decide)) (deeds1 2 (by decide) (by decide)) 684 rfl most h1 h5
end Go.Proofs.YtkhmbmcomgclaaaGreatDoor.Cl
