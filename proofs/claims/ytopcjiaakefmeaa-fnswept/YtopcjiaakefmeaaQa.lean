/-
  The contract of impl.keptCount: 'kept'. (Made by gen_qa.py.)
  The contracts of impl.versionCount and impl.Thinned: 'grp', 'thP'. (Made by gen_qb.py.)
-/
import Derived.Test.YtopcjiaakefmeaaMa
import Derived.Test.YtopcjiaakefmeaaCe
import Derived.Test.YtopcjiaakefmeaaCn
namespace Go.Proofs.Ytopcjiaakefmeaa.Cl
open Go.RowKit Wd Rp Kp
set_option linter.unusedVariables false
def slM : Value → Nat
  | .slice _ n _ => n
  | _ => 0
theorem slcM {a : Option Addr} {n m cap : Nat} (h : n = m) : Value.slice a n cap = .slice a m cap := by rw [h]
theorem okLM {l : List Cel} (h : okL l = true) : l.length ≤ 200 := (okL_iff.1 h).2
theorem okLS {l : List Cel} (h : okL l = true) : Srt l := okL_pair h
set_option maxHeartbeats 4000000 in
set_option maxRecDepth 100000 in
theorem keptCount_any (w : World) (a : Option Addr) (cap : Nat) (l : List Cel) (n k : Nat) (f : Int) (hn : l.length = n) (hv : Vw w a cap l) (hl : n ≤ 4194304) (hk : k ≤ 9) :
    Calls Try.prog 108 #[.slice a n cap, .int .i64 (k : Int), .int .i64 f] w fun e w' => e = .returned (.int .i64 (kept l k f : Nat)) ∧ w = w' := by
  have HV := Lib.hid hv; clear hv
  go_enter Try.func108, Try.ntmps108
  go_wp2_with fail
  go_loop [7] (fun x => ∃ i : Nat, x = .int .i64 (i : Int) ∧ i ≤ n ∧ (∀ m c, m < i → l[m]? = some c → decide (f < c.t) = true)) (fun x => n - intV x)
  case atStart => exact ⟨0, rfl, Nat.zero_le _, fun m c hm => by omega⟩
  case round =>
    obtain ⟨i, rfl, hi, hlo⟩ := hrel
    by_cases hlt : i < n
    · obtain ⟨c, hc⟩ : ∃ c, l[i]? = some c := ⟨l[i]'(by omega), List.getElem?_eq_getElem _⟩
      obtain ⟨g, o, e1, -, c0, c1, c2, c3, c4⟩ := HV.out.2.2.2 i c hc
      obtain rfl := e1
      have HC := Lib.hid hc; clear hc
      have HLO := Lib.hid hlo; clear hlo
      clear c0 c1 c3 c4
      have j1 : (i : Int) < (n : Int) := by omega
      have j2 : (0 : Int) ≤ (i : Int) := by omega
      have j3 : (n : Int) ≤ 4194304 := by omega
      by_cases hft : f < c.t
      · go_wp2_with fail
        go_round
        case rel =>
          refine ⟨i + 1, by go_num, by omega, fun m d hm hd => ?_⟩
          by_cases em : m = i
          · subst em; rw [HC.out] at hd; cases hd; simpa using hft
          · exact HLO.out m d (by omega) hd
        case measure => simp [intV]; omega
      · have hnf : decide (f < c.t) = false := by simpa using hft
        have HLAT := Lib.hid (show lat l f = i from cntP_eq (by omega) HLO.out (fun d hd => by rw [HC.out] at hd; cases hd; exact hnf))
        have hln : i ≤ n := hi
        have HMIN := Lib.hid (show kept l k f = trim l i (min (i + k) n) by unfold kept; rw [HLAT.out, hn])
        by_cases hmi : i + k ≤ n
        · have hmz : (i : Int) + (k : Int) ≤ (n : Int) := by omega
          have hmn : min (i + k) n = i + k := by omega
          have HMN := Lib.hid hmn; clear hmn
          go_wp2_with fail
          go_loop [8] (fun x => ∃ j : Nat, x = .int .i64 (j : Int) ∧ i ≤ j ∧ j ≤ n ∧ trim l i j = kept l k f) (fun x => intV x)
          case atStart => exact ⟨i + k, by go_num, by omega, by omega, by rw [HMIN.out, HMN.out]⟩
          case round =>
            obtain ⟨j, rfl, hj1, hj2, htr⟩ := hrel
            by_cases hlt : i < j
            · obtain ⟨j', rfl⟩ : ∃ j', j = j' + 1 := ⟨j - 1, by omega⟩
              obtain ⟨d, hd⟩ : ∃ d, l[j']? = some d := ⟨l[j']'(by omega), List.getElem?_eq_getElem _⟩
              obtain ⟨g2, o2, e2, -, d0, d1, d2, d3, d4⟩ := HV.out.2.2.2 j' d hd
              cases e2
              have HTS := Lib.hid (show trim l i (j' + 1) = if d.g = true then trim l i j' else j' + 1 by
                rw [trim]; unfold isGone; rw [hd]
                by_cases e : d.g = true
                · rw [if_pos e, if_pos ⟨by omega, e⟩]
                · rw [if_neg e, if_neg (fun h => e h.2)])
              have HTR := Lib.hid htr
              clear htr hd
              have i1 : (i : Int) < (j' : Int) + 1 := by omega
              have i2 : (0 : Int) ≤ (j' : Int) := by omega
              have i3 : (j' : Int) < (n : Int) := by omega
              have i4 : (n : Int) ≤ 4194304 := by omega
              cases hg : d.g
              · rw [hg] at d4 HTS
                clear hg
                go_wp2_with fail
                go_ret
                exact ⟨by rw [← HTR.out, HTS.out]; rfl, rfl⟩
              · rw [hg] at d4 HTS
                clear hg
                go_wp2_with fail
                go_round
                case rel => exact ⟨j', by go_num, by omega, by omega, by rw [← HTR.out, HTS.out]; rfl⟩
                case measure => simp [intV]
            · obtain rfl : i = j := by omega
              have HF := Lib.hid (show kept l k f = i by rw [← htr]; exact trim_id (Or.inl rfl))
              clear htr
              go_wp2_with fail
              go_ret
              exact ⟨by rw [HF.out]; rfl, rfl⟩
        · have hmz : ¬ (i : Int) + (k : Int) ≤ (n : Int) := by omega
          have hmn : min (i + k) n = n := by omega
          have HMN := Lib.hid hmn; clear hmn
          go_wp2_with fail
          go_loop [8] (fun x => ∃ j : Nat, x = .int .i64 (j : Int) ∧ i ≤ j ∧ j ≤ n ∧ trim l i j = kept l k f) (fun x => intV x)
          case atStart => exact ⟨n, rfl, by omega, by omega, by rw [HMIN.out, HMN.out]⟩
          case round =>
            obtain ⟨j, rfl, hj1, hj2, htr⟩ := hrel
            by_cases hlt : i < j
            · obtain ⟨j', rfl⟩ : ∃ j', j = j' + 1 := ⟨j - 1, by omega⟩
              obtain ⟨d, hd⟩ : ∃ d, l[j']? = some d := ⟨l[j']'(by omega), List.getElem?_eq_getElem _⟩
              obtain ⟨g2, o2, e2, -, d0, d1, d2, d3, d4⟩ := HV.out.2.2.2 j' d hd
              cases e2
              have HTS := Lib.hid (show trim l i (j' + 1) = if d.g = true then trim l i j' else j' + 1 by
                rw [trim]; unfold isGone; rw [hd]
                by_cases e : d.g = true
                · rw [if_pos e, if_pos ⟨by omega, e⟩]
                · rw [if_neg e, if_neg (fun h => e h.2)])
              have HTR := Lib.hid htr
              clear htr hd
              have i1 : (i : Int) < (j' : Int) + 1 := by omega
              have i2 : (0 : Int) ≤ (j' : Int) := by omega
              have i3 : (j' : Int) < (n : Int) := by omega
              have i4 : (n : Int) ≤ 4194304 := by omega
              cases hg : d.g
              · rw [hg] at d4 HTS
                clear hg
                go_wp2_with fail
                go_ret
                exact ⟨by rw [← HTR.out, HTS.out]; rfl, rfl⟩
              · rw [hg] at d4 HTS
                clear hg
                go_wp2_with fail
                go_round
                case rel => exact ⟨j', by go_num, by omega, by omega, by rw [← HTR.out, HTS.out]; rfl⟩
                case measure => simp [intV]
            · obtain rfl : i = j := by omega
              have HF := Lib.hid (show kept l k f = i by rw [← htr]; exact trim_id (Or.inl rfl))
              clear htr
              go_wp2_with fail
              go_ret
              exact ⟨by rw [HF.out]; rfl, rfl⟩
    · have j1 : ¬ (i : Int) < (n : Int) := by omega
      have j3 : (n : Int) ≤ 4194304 := by omega
      have HLAT := Lib.hid (show lat l f = i from cntP_eq (by omega) hlo (fun d hd => by have := (List.getElem?_eq_some_iff.1 hd).1; omega))
      have hln : i ≤ n := hi
      clear hlo
      have HMIN := Lib.hid (show kept l k f = trim l i (min (i + k) n) by unfold kept; rw [HLAT.out, hn])
      by_cases hmi : i + k ≤ n
      · have hmz : (i : Int) + (k : Int) ≤ (n : Int) := by omega
        have hmn : min (i + k) n = i + k := by omega
        have HMN := Lib.hid hmn; clear hmn
        go_wp2_with fail
        go_loop [8] (fun x => ∃ j : Nat, x = .int .i64 (j : Int) ∧ i ≤ j ∧ j ≤ n ∧ trim l i j = kept l k f) (fun x => intV x)
        case atStart => exact ⟨i + k, by go_num, by omega, by omega, by rw [HMIN.out, HMN.out]⟩
        case round =>
          obtain ⟨j, rfl, hj1, hj2, htr⟩ := hrel
          by_cases hlt : i < j
          · exact absurd hlt (by omega)
          · obtain rfl : i = j := by omega
            have HF := Lib.hid (show kept l k f = i by rw [← htr]; exact trim_id (Or.inl rfl))
            clear htr
            go_wp2_with fail
            go_ret
            exact ⟨by rw [HF.out]; rfl, rfl⟩
      · have hmz : ¬ (i : Int) + (k : Int) ≤ (n : Int) := by omega
        have hmn : min (i + k) n = n := by omega
        have HMN := Lib.hid hmn; clear hmn
        go_wp2_with fail
        go_loop [8] (fun x => ∃ j : Nat, x = .int .i64 (j : Int) ∧ i ≤ j ∧ j ≤ n ∧ trim l i j = kept l k f) (fun x => intV x)
        case atStart => exact ⟨n, rfl, by omega, by omega, by rw [HMIN.out, HMN.out]⟩
        case round =>
          obtain ⟨j, rfl, hj1, hj2, htr⟩ := hrel
          by_cases hlt : i < j
          · exact absurd hlt (by omega)
          · obtain rfl : i = j := by omega
            have HF := Lib.hid (show kept l k f = i by rw [← htr]; exact trim_id (Or.inl rfl))
            clear htr
            go_wp2_with fail
            go_ret
            exact ⟨by rw [HF.out]; rfl, rfl⟩
end Go.Proofs.Ytopcjiaakefmeaa.Cl
namespace Go.Proofs.Ytopcjiaakefmeaa.Cl
open Go.RowKit Wd Rp Kp
set_option linter.unusedVariables false
theorem grp_is {c : Cel} {r : List Cel} {x : Nat} (h1 : 1 ≤ x) (hx : x ≤ (c :: r).length) (hy : ∀ m d, 1 ≤ m → m < x → (c :: r)[m]? = some d → d.al c = true) (hn : ∀ d, (c :: r)[x]? = some d → d.al c = false) : grp (c :: r) = x := by
  have : cntP (fun d => d.al c) r = x - 1 := by
    refine cntP_eq (by rw [List.length_cons] at hx; omega) (fun m d hm hd => hy (m + 1) d (by omega) (by omega) (by simpa using hd)) (fun d hd => hn d ?_)
    rw [show x = (x - 1) + 1 by omega]; simpa using hd
  rw [grp, this]; omega
theorem plEqT {c d : Cel} {x : Bool} (h : c.al d = x) (w : World) : (Op.equalIn 10000 95 (.agg #[.string c.r, .string c.b]) (.agg #[.string d.r, .string d.b])).run Try.prog w = .ok x w := by
  rw [plEq]; exact congrArg (fun y => Result.ok y w) h
set_option maxHeartbeats 4000000 in
set_option maxRecDepth 100000 in
theorem versionCount_any (w : World) (a : Option Addr) (cap : Nat) (c : Cel) (r : List Cel) (n : Nat) (hn : (c :: r).length = n) (hv : Vw w a cap (c :: r)) (hl : n ≤ 4194304) :
    Calls Try.prog 107 #[.slice a n cap] w fun e w' => e = .returned (.int .i64 (grp (c :: r) : Nat)) ∧ Below w.heap.size w w' := by
  obtain ⟨g, o, rfl, hg, h5⟩ := hv.2.2.2 0 c rfl
  rw [Nat.zero_mul, Nat.add_zero] at h5
  have HC := Lib.hid h5; clear h5
  have HV := Lib.hid hv; clear hv
  have HN := Lib.hid hn
  have hn1 : 1 ≤ n := by rw [← hn]; simp
  clear hn
  go_enter Try.func107, Try.ntmps107
  go_wp2_with fail
  go_loopw [3] (fun s wr => ∃ x : Nat, s = .int .i64 (x : Int) ∧ 1 ≤ x ∧ x ≤ n ∧ (∀ m d, 1 ≤ m → m < x → (c :: r)[m]? = some d → d.al c = true) ∧ Below w.heap.size w wr) (fun s _ => n - intV s)
  case atStart => exact ⟨1, rfl, Nat.le_refl _, hn1, (fun m d h1 h2 => by omega), Below.refl _ _⟩
  case round =>
    obtain ⟨x, rfl, hx1, hxn, hlo, hbel⟩ := hrel
    have HB := Lib.hid hbel; clear hbel
    have HLO := Lib.hid hlo; clear hlo
    have hg' : g < wr.heap.size := Nat.lt_of_lt_of_le hg HB.out.size
    by_cases hlt : x < n
    · obtain ⟨d, hd⟩ : ∃ d, (c :: r)[x]? = some d := ⟨(c :: r)[x]'(by rw [HN.out]; exact hlt), List.getElem?_eq_getElem _⟩
      obtain ⟨g2, o2, e2, -, h5⟩ := HV.out.2.2.2 x d hd
      cases e2
      have HD := Lib.hid hd; clear hd
      obtain ⟨d0, d1, d2, -, -⟩ : At5 wr g (o + x * 5) d := h5.same (HB.out.block g hg)
      obtain ⟨c0, c1, c2, -, -⟩ : At5 wr g o c := HC.out.same (HB.out.block g hg)
      have SOF := Lib.hid (show ∀ z, Below wr.heap.size wr z → (z.cell? ⟨g, o + x * 5, none⟩ = some (.string d.r) ∧ z.cell? ⟨g, o + x * 5 + 1, none⟩ = some (.string d.b) ∧ z.cell? ⟨g, o + x * 5 + 2, none⟩ = some (.int .i64 d.t) ∧ z.cell? ⟨g, o, none⟩ = some (.string c.r) ∧ z.cell? ⟨g, o + 1, none⟩ = some (.string c.b) ∧ z.cell? ⟨g, o + 2, none⟩ = some (.int .i64 c.t) ∧ Below wr.heap.size wr z) from fun z hz => ⟨coc hz hg' d0, coc hz hg' d1, coc hz hg' d2, coc hz hg' c0, coc hz hg' c1, coc hz hg' c2,  hz⟩)
      clear c0 c1 c2 d0 d1 d2 h5
      have j1 : (x : Int) < (n : Int) := by omega
      have j2 : (0 : Int) ≤ (x : Int) := by omega
      have j3 : (n : Int) ≤ 4194304 := by omega
      have j4 : (0 : Int) < (n : Int) := by omega
      have j5 : decide ((x : Int) < (n : Int)) = true := decide_eq_true j1
      have j6 : decide (x < n) = true := decide_eq_true hlt
      have j7 : 0 < n := by omega
      cases hal : d.al c
      · have heq := plEqT hal
        have HE := Lib.hid (show grp (c :: r) = x from grp_is hx1 (by rw [HN.out]; exact hxn) HLO.out (fun e he => by rw [HD.out] at he; cases he; exact hal))
        clear hal
        go_wp2_with fail
        refine wp_region_held_drew (S := fun z => z.cell? ⟨g, o + x * 5, none⟩ = some (.string d.r) ∧ z.cell? ⟨g, o + x * 5 + 1, none⟩ = some (.string d.b) ∧ z.cell? ⟨g, o + x * 5 + 2, none⟩ = some (.int .i64 d.t) ∧ z.cell? ⟨g, o, none⟩ = some (.string c.r) ∧ z.cell? ⟨g, o + 1, none⟩ = some (.string c.b) ∧ z.cell? ⟨g, o + 2, none⟩ = some (.int .i64 c.t) ∧ Below wr.heap.size wr z) (by kernel_rfl) (SOF.out _ (Below.refl _ _).drew) (fun hHeld => ?_)
        refine wpAnyH_take (i := 0) (v := ?v0f) rfl (by kernel_rfl) (by kernel_rfl) (by kernel_rfl) (fun _ _ _ h => h) (Or.inl ⟨by rfl, ?hy0f⟩) (by assumption) ?rest0f
        case hy0f => (intro zz hSw; (try dsimp only at hSw); go_simp; (try with_reducible rfl))
        change wpAnyH _ _ _ _ _ _ _ (Act.put _ (some 4) _) _
        simp only [Act.put, List.setIfInBounds_toArray, List.set_cons_zero, List.set_cons_succ]
        refine wpAnyH_take (i := 1) (v := ?v1f) rfl (by kernel_rfl) (by kernel_rfl) (by kernel_rfl) (fun _ _ _ h => h) (Or.inl ⟨by rfl, ?hy1f⟩) (by assumption) ?rest1f
        case hy1f => (intro zz hSw; (try dsimp only at hSw); go_simp; (try with_reducible rfl))
        change wpAnyH _ _ _ _ _ _ _ (Act.put _ (some 5) _) _
        simp only [Act.put, List.setIfInBounds_toArray, List.set_cons_zero, List.set_cons_succ]
        refine wpAnyH_take (i := 2) (v := ?v2f) rfl (by kernel_rfl) (by kernel_rfl) (by kernel_rfl) (fun _ _ _ h => h) (Or.inl ⟨by rfl, ?hy2f⟩) (by assumption) ?rest2f
        case hy2f => (intro zz hSw; (try dsimp only at hSw); go_simp; (try with_reducible rfl))
        change wpAnyH _ _ _ _ _ _ _ (Act.put _ (some 6) _) _
        simp only [Act.put, List.setIfInBounds_toArray, List.set_cons_zero, List.set_cons_succ]
        refine wpAnyH_take (i := 3) (v := ?v3f) rfl (by kernel_rfl) (by kernel_rfl) (by kernel_rfl) (fun _ _ _ h => h) (Or.inl ⟨by rfl, ?hy3f⟩) (by assumption) ?rest3f
        case hy3f => (intro zz hSw; (try dsimp only at hSw); go_simp; (try with_reducible rfl))
        change wpAnyH _ _ _ _ _ _ _ (Act.put _ (some 7) _) _
        simp only [Act.put, List.setIfInBounds_toArray, List.set_cons_zero, List.set_cons_succ]
        refine wpAnyH_take (i := 4) (v := ?v4f) rfl (by kernel_rfl) (by kernel_rfl) (by kernel_rfl) (fun _ _ _ h => h) (Or.inl ⟨by rfl, ?hy4f⟩) (by assumption) ?rest4f
        case hy4f => (intro zz hSw; (try dsimp only at hSw); go_simp; (try with_reducible rfl))
        change wpAnyH _ _ _ _ _ _ _ (Act.put _ (some 8) _) _
        simp only [Act.put, List.setIfInBounds_toArray, List.set_cons_zero, List.set_cons_succ]
        refine wpAnyH_take (i := 5) (v := ?v5f) rfl (by kernel_rfl) (by kernel_rfl) (by kernel_rfl) (fun _ _ _ h => h) (Or.inl ⟨by rfl, ?hy5f⟩) (by assumption) ?rest5f
        case hy5f => (intro zz hSw; (try dsimp only at hSw); go_simp; (try with_reducible rfl))
        change wpAnyH _ _ _ _ _ _ _ (Act.put _ (some 9) _) _
        simp only [Act.put, List.setIfInBounds_toArray, List.set_cons_zero, List.set_cons_succ]
        refine wpAnyH_take (i := 6) (v := ?v6f) rfl (by kernel_rfl) (by kernel_rfl) (by kernel_rfl) (fun _ _ _ h => h) (Or.inl ⟨by rfl, ?hy6f⟩) (by assumption) ?rest6f
        case hy6f => (intro zz hSw; (try dsimp only at hSw); go_simp; (try with_reducible rfl))
        change wpAnyH _ _ _ _ _ _ _ (Act.put _ (some 10) _) _
        simp only [Act.put, List.setIfInBounds_toArray, List.set_cons_zero, List.set_cons_succ]
        refine wpAnyH_take (i := 7) (v := ?v7f) rfl (by kernel_rfl) (by kernel_rfl) (by kernel_rfl) (fun _ _ _ h => h) (Or.inl ⟨by rfl, ?hy7f⟩) (by assumption) ?rest7f
        case hy7f => (intro zz hSw; (try dsimp only at hSw); go_simp; (try with_reducible rfl))
        change wpAnyH _ _ _ _ _ _ _ (Act.put _ (some 11) _) _
        simp only [Act.put, List.setIfInBounds_toArray, List.set_cons_zero, List.set_cons_succ]
        refine wpAnyH_take (i := 8) (v := ?v8f) rfl (by kernel_rfl) (by kernel_rfl) (by kernel_rfl) (fun _ _ _ h => h) (Or.inl ⟨by rfl, ?hy8f⟩) (by assumption) ?rest8f
        case hy8f => (intro zz hSw; (try dsimp only at hSw); go_simp; (try with_reducible rfl))
        change wpAnyH _ _ _ _ _ _ _ (Act.put _ (some 12) _) _
        simp only [Act.put, List.setIfInBounds_toArray, List.set_cons_zero, List.set_cons_succ]
        refine wpAnyH_take (i := 9) (v := ?v9f) rfl (by kernel_rfl) (by kernel_rfl) (by kernel_rfl) (fun _ _ _ h => h) (Or.inl ⟨by rfl, ?hy9f⟩) (by assumption) ?rest9f
        case hy9f => (intro zz hSw; (try dsimp only at hSw); go_simp; (try with_reducible rfl))
        change wpAnyH _ _ _ _ _ _ _ (Act.put _ (some 13) _) _
        simp only [Act.put, List.setIfInBounds_toArray, List.set_cons_zero, List.set_cons_succ]
        refine wpAnyH_take (i := 11) (v := ?v11f) rfl (by kernel_rfl) (by kernel_rfl) (by kernel_rfl) (fun _ _ _ h => h) (Or.inl ⟨by rfl, ?hy11f⟩) (by assumption) ?rest11f
        case hy11f => (intro zz hSw; (try dsimp only at hSw); go_simp; (try with_reducible rfl))
        change wpAnyH _ _ _ _ _ _ _ (Act.put _ (some 15) _) _
        simp only [Act.put, List.setIfInBounds_toArray, List.set_cons_zero, List.set_cons_succ]
        refine wpAnyH_take (i := 12) (v := ?v12f) rfl (by kernel_rfl) (by kernel_rfl) (by kernel_rfl) (fun _ _ _ h => h) (Or.inl ⟨by rfl, ?hy12f⟩) (by assumption) ?rest12f
        case hy12f => (intro zz hSw; (try dsimp only at hSw); go_simp; (try with_reducible rfl))
        change wpAnyH _ _ _ _ _ _ _ (Act.put _ (some 16) _) _
        simp only [Act.put, List.setIfInBounds_toArray, List.set_cons_zero, List.set_cons_succ]
        refine wpAnyH_take (i := 13) (v := ?v13f) rfl (by kernel_rfl) (by kernel_rfl) (by kernel_rfl) (fun _ _ _ h => h) (Or.inl ⟨by rfl, ?hy13f⟩) (by assumption) ?rest13f
        case hy13f => (intro zz hSw; (try dsimp only at hSw); go_simp; (try with_reducible rfl))
        change wpAnyH _ _ _ _ _ _ _ (Act.put _ (some 17) _) _
        simp only [Act.put, List.setIfInBounds_toArray, List.set_cons_zero, List.set_cons_succ]
        refine wpAnyH_take (i := 14) (v := ?v14f) rfl (by kernel_rfl) (by kernel_rfl) (by kernel_rfl) (fun _ _ _ h => h) (Or.inl ⟨by rfl, ?hy14f⟩) (by assumption) ?rest14f
        case hy14f => (intro zz hSw; (try dsimp only at hSw); go_simp; (try with_reducible rfl))
        change wpAnyH _ _ _ _ _ _ _ (Act.put _ (some 18) _) _
        simp only [Act.put, List.setIfInBounds_toArray, List.set_cons_zero, List.set_cons_succ]
        refine wpAnyH_ready (rs := [10]) (by kernel_rfl) (by simp) (AllReadyH.cons rfl (fun K hK => ?_) AllReadyH.nil)
        go_simp
        refine (placeOf_bel _ _ _ _).mono ?_; rintro e w7 ⟨rfl, bel⟩
        refine hK.out _ _ (SOF.out _ (bel_tr hHeld.2.2.2.2.2.2 bel (Nat.le_refl _))) (fun hHeld => ?_)
        clear hK K bel
        refine wpAnyH_ready (rs := [15]) (by kernel_rfl) (by simp) (AllReadyH.cons rfl (fun K hK => ?_) AllReadyH.nil)
        go_simp
        refine (placeOf_bel _ _ _ _).mono ?_; rintro e w8 ⟨rfl, bel⟩
        refine hK.out _ _ (SOF.out _ (bel_tr hHeld.2.2.2.2.2.2 bel (Nat.le_refl _))) (fun hHeld => ?_)
        clear hK K bel
        refine wpAnyH_take (i := 16) (v := ?v16f) rfl (by kernel_rfl) (by kernel_rfl) (by kernel_rfl) (fun _ _ _ h => h) (Or.inl ⟨by rfl, ?hy16f⟩) (by assumption) ?rest16f
        case hy16f => (intro zz hSw; (try dsimp only at hSw); go_simp; (try with_reducible rfl))
        change wpAnyH _ _ _ _ _ _ _ (Act.put _ (some 20) _) _
        simp only [Act.put, List.setIfInBounds_toArray, List.set_cons_zero, List.set_cons_succ]
        refine wpAnyH_take (i := 17) (v := ?v17f) rfl (by kernel_rfl) (by kernel_rfl) (by kernel_rfl) (fun _ _ _ h => h) (Or.inl ⟨by rfl, ?hy17f⟩) (by assumption) ?rest17f
        case hy17f => (intro zz hSw; (try dsimp only at hSw); go_simp; (try with_reducible rfl))
        change wpAnyH _ _ _ _ _ _ _ (Act.put _ (some 21) _) _
        simp only [Act.put, List.setIfInBounds_toArray, List.set_cons_zero, List.set_cons_succ]
        refine wpAnyH_done (by kernel_rfl) ?_ _
        have BX := Lib.hid hHeld.2.2.2.2.2.2; clear hHeld SOF heq
        go_wp2_with fail
        go_ret
        exact ⟨by rw [HE.out]; rfl, bel_tr HB.out BX.out (Nat.le_refl _)⟩
      · have heq := plEqT hal
        have HLO2 := Lib.hid (show ∀ m e, 1 ≤ m → m < x + 1 → (c :: r)[m]? = some e → e.al c = true from fun m e h1 h2 he => by
          by_cases em : m = x
          · subst em; rw [HD.out] at he; cases he; exact hal
          · exact HLO.out m e h1 (by omega) he)
        clear hal
        go_wp2_with fail
        refine wp_region_held_drew (S := fun z => z.cell? ⟨g, o + x * 5, none⟩ = some (.string d.r) ∧ z.cell? ⟨g, o + x * 5 + 1, none⟩ = some (.string d.b) ∧ z.cell? ⟨g, o + x * 5 + 2, none⟩ = some (.int .i64 d.t) ∧ z.cell? ⟨g, o, none⟩ = some (.string c.r) ∧ z.cell? ⟨g, o + 1, none⟩ = some (.string c.b) ∧ z.cell? ⟨g, o + 2, none⟩ = some (.int .i64 c.t) ∧ Below wr.heap.size wr z) (by kernel_rfl) (SOF.out _ (Below.refl _ _).drew) (fun hHeld => ?_)
        refine wpAnyH_take (i := 0) (v := ?v0t) rfl (by kernel_rfl) (by kernel_rfl) (by kernel_rfl) (fun _ _ _ h => h) (Or.inl ⟨by rfl, ?hy0t⟩) (by assumption) ?rest0t
        case hy0t => (intro zz hSw; (try dsimp only at hSw); go_simp; (try with_reducible rfl))
        change wpAnyH _ _ _ _ _ _ _ (Act.put _ (some 4) _) _
        simp only [Act.put, List.setIfInBounds_toArray, List.set_cons_zero, List.set_cons_succ]
        refine wpAnyH_take (i := 1) (v := ?v1t) rfl (by kernel_rfl) (by kernel_rfl) (by kernel_rfl) (fun _ _ _ h => h) (Or.inl ⟨by rfl, ?hy1t⟩) (by assumption) ?rest1t
        case hy1t => (intro zz hSw; (try dsimp only at hSw); go_simp; (try with_reducible rfl))
        change wpAnyH _ _ _ _ _ _ _ (Act.put _ (some 5) _) _
        simp only [Act.put, List.setIfInBounds_toArray, List.set_cons_zero, List.set_cons_succ]
        refine wpAnyH_take (i := 2) (v := ?v2t) rfl (by kernel_rfl) (by kernel_rfl) (by kernel_rfl) (fun _ _ _ h => h) (Or.inl ⟨by rfl, ?hy2t⟩) (by assumption) ?rest2t
        case hy2t => (intro zz hSw; (try dsimp only at hSw); go_simp; (try with_reducible rfl))
        change wpAnyH _ _ _ _ _ _ _ (Act.put _ (some 6) _) _
        simp only [Act.put, List.setIfInBounds_toArray, List.set_cons_zero, List.set_cons_succ]
        refine wpAnyH_take (i := 3) (v := ?v3t) rfl (by kernel_rfl) (by kernel_rfl) (by kernel_rfl) (fun _ _ _ h => h) (Or.inl ⟨by rfl, ?hy3t⟩) (by assumption) ?rest3t
        case hy3t => (intro zz hSw; (try dsimp only at hSw); go_simp; (try with_reducible rfl))
        change wpAnyH _ _ _ _ _ _ _ (Act.put _ (some 7) _) _
        simp only [Act.put, List.setIfInBounds_toArray, List.set_cons_zero, List.set_cons_succ]
        refine wpAnyH_take (i := 4) (v := ?v4t) rfl (by kernel_rfl) (by kernel_rfl) (by kernel_rfl) (fun _ _ _ h => h) (Or.inl ⟨by rfl, ?hy4t⟩) (by assumption) ?rest4t
        case hy4t => (intro zz hSw; (try dsimp only at hSw); go_simp; (try with_reducible rfl))
        change wpAnyH _ _ _ _ _ _ _ (Act.put _ (some 8) _) _
        simp only [Act.put, List.setIfInBounds_toArray, List.set_cons_zero, List.set_cons_succ]
        refine wpAnyH_take (i := 5) (v := ?v5t) rfl (by kernel_rfl) (by kernel_rfl) (by kernel_rfl) (fun _ _ _ h => h) (Or.inl ⟨by rfl, ?hy5t⟩) (by assumption) ?rest5t
        case hy5t => (intro zz hSw; (try dsimp only at hSw); go_simp; (try with_reducible rfl))
        change wpAnyH _ _ _ _ _ _ _ (Act.put _ (some 9) _) _
        simp only [Act.put, List.setIfInBounds_toArray, List.set_cons_zero, List.set_cons_succ]
        refine wpAnyH_take (i := 6) (v := ?v6t) rfl (by kernel_rfl) (by kernel_rfl) (by kernel_rfl) (fun _ _ _ h => h) (Or.inl ⟨by rfl, ?hy6t⟩) (by assumption) ?rest6t
        case hy6t => (intro zz hSw; (try dsimp only at hSw); go_simp; (try with_reducible rfl))
        change wpAnyH _ _ _ _ _ _ _ (Act.put _ (some 10) _) _
        simp only [Act.put, List.setIfInBounds_toArray, List.set_cons_zero, List.set_cons_succ]
        refine wpAnyH_take (i := 7) (v := ?v7t) rfl (by kernel_rfl) (by kernel_rfl) (by kernel_rfl) (fun _ _ _ h => h) (Or.inl ⟨by rfl, ?hy7t⟩) (by assumption) ?rest7t
        case hy7t => (intro zz hSw; (try dsimp only at hSw); go_simp; (try with_reducible rfl))
        change wpAnyH _ _ _ _ _ _ _ (Act.put _ (some 11) _) _
        simp only [Act.put, List.setIfInBounds_toArray, List.set_cons_zero, List.set_cons_succ]
        refine wpAnyH_take (i := 8) (v := ?v8t) rfl (by kernel_rfl) (by kernel_rfl) (by kernel_rfl) (fun _ _ _ h => h) (Or.inl ⟨by rfl, ?hy8t⟩) (by assumption) ?rest8t
        case hy8t => (intro zz hSw; (try dsimp only at hSw); go_simp; (try with_reducible rfl))
        change wpAnyH _ _ _ _ _ _ _ (Act.put _ (some 12) _) _
        simp only [Act.put, List.setIfInBounds_toArray, List.set_cons_zero, List.set_cons_succ]
        refine wpAnyH_take (i := 9) (v := ?v9t) rfl (by kernel_rfl) (by kernel_rfl) (by kernel_rfl) (fun _ _ _ h => h) (Or.inl ⟨by rfl, ?hy9t⟩) (by assumption) ?rest9t
        case hy9t => (intro zz hSw; (try dsimp only at hSw); go_simp; (try with_reducible rfl))
        change wpAnyH _ _ _ _ _ _ _ (Act.put _ (some 13) _) _
        simp only [Act.put, List.setIfInBounds_toArray, List.set_cons_zero, List.set_cons_succ]
        refine wpAnyH_take (i := 11) (v := ?v11t) rfl (by kernel_rfl) (by kernel_rfl) (by kernel_rfl) (fun _ _ _ h => h) (Or.inl ⟨by rfl, ?hy11t⟩) (by assumption) ?rest11t
        case hy11t => (intro zz hSw; (try dsimp only at hSw); go_simp; (try with_reducible rfl))
        change wpAnyH _ _ _ _ _ _ _ (Act.put _ (some 15) _) _
        simp only [Act.put, List.setIfInBounds_toArray, List.set_cons_zero, List.set_cons_succ]
        refine wpAnyH_take (i := 12) (v := ?v12t) rfl (by kernel_rfl) (by kernel_rfl) (by kernel_rfl) (fun _ _ _ h => h) (Or.inl ⟨by rfl, ?hy12t⟩) (by assumption) ?rest12t
        case hy12t => (intro zz hSw; (try dsimp only at hSw); go_simp; (try with_reducible rfl))
        change wpAnyH _ _ _ _ _ _ _ (Act.put _ (some 16) _) _
        simp only [Act.put, List.setIfInBounds_toArray, List.set_cons_zero, List.set_cons_succ]
        refine wpAnyH_take (i := 13) (v := ?v13t) rfl (by kernel_rfl) (by kernel_rfl) (by kernel_rfl) (fun _ _ _ h => h) (Or.inl ⟨by rfl, ?hy13t⟩) (by assumption) ?rest13t
        case hy13t => (intro zz hSw; (try dsimp only at hSw); go_simp; (try with_reducible rfl))
        change wpAnyH _ _ _ _ _ _ _ (Act.put _ (some 17) _) _
        simp only [Act.put, List.setIfInBounds_toArray, List.set_cons_zero, List.set_cons_succ]
        refine wpAnyH_take (i := 14) (v := ?v14t) rfl (by kernel_rfl) (by kernel_rfl) (by kernel_rfl) (fun _ _ _ h => h) (Or.inl ⟨by rfl, ?hy14t⟩) (by assumption) ?rest14t
        case hy14t => (intro zz hSw; (try dsimp only at hSw); go_simp; (try with_reducible rfl))
        change wpAnyH _ _ _ _ _ _ _ (Act.put _ (some 18) _) _
        simp only [Act.put, List.setIfInBounds_toArray, List.set_cons_zero, List.set_cons_succ]
        refine wpAnyH_ready (rs := [10]) (by kernel_rfl) (by simp) (AllReadyH.cons rfl (fun K hK => ?_) AllReadyH.nil)
        go_simp
        refine (placeOf_bel _ _ _ _).mono ?_; rintro e w7 ⟨rfl, bel⟩
        refine hK.out _ _ (SOF.out _ (bel_tr hHeld.2.2.2.2.2.2 bel (Nat.le_refl _))) (fun hHeld => ?_)
        clear hK K bel
        refine wpAnyH_ready (rs := [15]) (by kernel_rfl) (by simp) (AllReadyH.cons rfl (fun K hK => ?_) AllReadyH.nil)
        go_simp
        refine (placeOf_bel _ _ _ _).mono ?_; rintro e w8 ⟨rfl, bel⟩
        refine hK.out _ _ (SOF.out _ (bel_tr hHeld.2.2.2.2.2.2 bel (Nat.le_refl _))) (fun hHeld => ?_)
        clear hK K bel
        refine wpAnyH_take (i := 16) (v := ?v16t) rfl (by kernel_rfl) (by kernel_rfl) (by kernel_rfl) (fun _ _ _ h => h) (Or.inl ⟨by rfl, ?hy16t⟩) (by assumption) ?rest16t
        case hy16t => (intro zz hSw; (try dsimp only at hSw); go_simp; (try with_reducible rfl))
        change wpAnyH _ _ _ _ _ _ _ (Act.put _ (some 20) _) _
        simp only [Act.put, List.setIfInBounds_toArray, List.set_cons_zero, List.set_cons_succ]
        refine wpAnyH_take (i := 17) (v := ?v17t) rfl (by kernel_rfl) (by kernel_rfl) (by kernel_rfl) (fun _ _ _ h => h) (Or.inl ⟨by rfl, ?hy17t⟩) (by assumption) ?rest17t
        case hy17t => (intro zz hSw; (try dsimp only at hSw); go_simp; (try with_reducible rfl))
        change wpAnyH _ _ _ _ _ _ _ (Act.put _ (some 21) _) _
        simp only [Act.put, List.setIfInBounds_toArray, List.set_cons_zero, List.set_cons_succ]
        refine wpAnyH_done (by kernel_rfl) ?_ _
        have BX := Lib.hid hHeld.2.2.2.2.2.2; clear hHeld SOF heq
        go_wp2_with fail
        go_roundw
        case rel => exact ⟨x + 1, by go_num, by omega, by omega, HLO2.out, bel_tr HB.out BX.out (Nat.le_refl _)⟩
        case measure => simp [intV]; omega
    · have hxe : x = n := by omega
      have HE := Lib.hid (show grp (c :: r) = x from grp_is hx1 (by rw [HN.out]; exact hxn) HLO.out (fun e he => by have := (List.getElem?_eq_some_iff.1 he).1; rw [HN.out] at this; omega))
      clear hxe
      have j1 : ¬ (x : Int) < (n : Int) := by omega
      have j5 : decide ((x : Int) < (n : Int)) = false := decide_eq_false j1
      have j6 : decide (x < n) = false := decide_eq_false hlt
      go_wp2_with fail
      refine wp_region_held_drew (S := fun z => Below wr.heap.size wr z) (by kernel_rfl) (Below.refl _ _).drew (fun hHeld => ?_)
      refine wpAnyH_take (i := 0) (v := ?v0n) rfl (by kernel_rfl) (by kernel_rfl) (by kernel_rfl) (fun _ _ _ h => h) (Or.inl ⟨by rfl, ?hy0n⟩) (by assumption) ?rest0n
      case hy0n => (intro zz hSw; (try dsimp only at hSw); go_simp; (try with_reducible rfl))
      change wpAnyH _ _ _ _ _ _ _ (Act.put _ (some 4) _) _
      simp only [Act.put, List.setIfInBounds_toArray, List.set_cons_zero, List.set_cons_succ]
      refine wpAnyH_take (i := 1) (v := ?v1n) rfl (by kernel_rfl) (by kernel_rfl) (by kernel_rfl) (fun _ _ _ h => h) (Or.inl ⟨by rfl, ?hy1n⟩) (by assumption) ?rest1n
      case hy1n => (intro zz hSw; (try dsimp only at hSw); go_simp; (try with_reducible rfl))
      change wpAnyH _ _ _ _ _ _ _ (Act.put _ (some 5) _) _
      simp only [Act.put, List.setIfInBounds_toArray, List.set_cons_zero, List.set_cons_succ]
      refine wpAnyH_take (i := 2) (v := ?v2n) rfl (by kernel_rfl) (by kernel_rfl) (by kernel_rfl) (fun _ _ _ h => h) (Or.inl ⟨by rfl, ?hy2n⟩) (by assumption) ?rest2n
      case hy2n => (intro zz hSw; (try dsimp only at hSw); go_simp; (try with_reducible rfl))
      change wpAnyH _ _ _ _ _ _ _ (Act.put _ (some 6) _) _
      simp only [Act.put, List.setIfInBounds_toArray, List.set_cons_zero, List.set_cons_succ]
      refine wpAnyH_take (i := 3) (v := ?v3n) rfl (by kernel_rfl) (by kernel_rfl) (by kernel_rfl) (fun _ _ _ h => h) (Or.inl ⟨by rfl, ?hy3n⟩) (by assumption) ?rest3n
      case hy3n => (intro zz hSw; (try dsimp only at hSw); go_simp; (try with_reducible rfl))
      change wpAnyH _ _ _ _ _ _ _ (Act.put _ (some 7) _) _
      simp only [Act.put, List.setIfInBounds_toArray, List.set_cons_zero, List.set_cons_succ]
      refine wpAnyH_take (i := 4) (v := ?v4n) rfl (by kernel_rfl) (by kernel_rfl) (by kernel_rfl) (fun _ _ _ h => h) (Or.inl ⟨by rfl, ?hy4n⟩) (by assumption) ?rest4n
      case hy4n => (intro zz hSw; (try dsimp only at hSw); go_simp; (try with_reducible rfl))
      change wpAnyH _ _ _ _ _ _ _ (Act.put _ (some 8) _) _
      simp only [Act.put, List.setIfInBounds_toArray, List.set_cons_zero, List.set_cons_succ]
      refine wpAnyH_take (i := 5) (v := undef) rfl (by kernel_rfl) (by kernel_rfl) (by kernel_rfl) (fun _ _ _ h => h) (Or.inr ⟨by rfl, rfl⟩) (by assumption) ?_
      change wpAnyH _ _ _ _ _ _ _ (Act.put _ (some 9) _) _
      simp only [Act.put, List.setIfInBounds_toArray, List.set_cons_zero, List.set_cons_succ]
      refine wpAnyH_take (i := 6) (v := undef) rfl (by kernel_rfl) (by kernel_rfl) (by kernel_rfl) (fun _ _ _ h => h) (Or.inr ⟨by rfl, rfl⟩) (by assumption) ?_
      change wpAnyH _ _ _ _ _ _ _ (Act.put _ (some 10) _) _
      simp only [Act.put, List.setIfInBounds_toArray, List.set_cons_zero, List.set_cons_succ]
      refine wpAnyH_take (i := 7) (v := undef) rfl (by kernel_rfl) (by kernel_rfl) (by kernel_rfl) (fun _ _ _ h => h) (Or.inr ⟨by rfl, rfl⟩) (by assumption) ?_
      change wpAnyH _ _ _ _ _ _ _ (Act.put _ (some 11) _) _
      simp only [Act.put, List.setIfInBounds_toArray, List.set_cons_zero, List.set_cons_succ]
      refine wpAnyH_take (i := 8) (v := undef) rfl (by kernel_rfl) (by kernel_rfl) (by kernel_rfl) (fun _ _ _ h => h) (Or.inr ⟨by rfl, rfl⟩) (by assumption) ?_
      change wpAnyH _ _ _ _ _ _ _ (Act.put _ (some 12) _) _
      simp only [Act.put, List.setIfInBounds_toArray, List.set_cons_zero, List.set_cons_succ]
      refine wpAnyH_take (i := 9) (v := undef) rfl (by kernel_rfl) (by kernel_rfl) (by kernel_rfl) (fun _ _ _ h => h) (Or.inr ⟨by rfl, rfl⟩) (by assumption) ?_
      change wpAnyH _ _ _ _ _ _ _ (Act.put _ (some 13) _) _
      simp only [Act.put, List.setIfInBounds_toArray, List.set_cons_zero, List.set_cons_succ]
      refine wpAnyH_take (i := 10) (v := undef) rfl (by kernel_rfl) (by kernel_rfl) (by kernel_rfl) (fun _ _ _ h => h) (Or.inr ⟨by rfl, rfl⟩) (by assumption) ?_
      change wpAnyH _ _ _ _ _ _ _ (Act.put _ (some 14) _) _
      simp only [Act.put, List.setIfInBounds_toArray, List.set_cons_zero, List.set_cons_succ]
      refine wpAnyH_take (i := 11) (v := undef) rfl (by kernel_rfl) (by kernel_rfl) (by kernel_rfl) (fun _ _ _ h => h) (Or.inr ⟨by rfl, rfl⟩) (by assumption) ?_
      change wpAnyH _ _ _ _ _ _ _ (Act.put _ (some 15) _) _
      simp only [Act.put, List.setIfInBounds_toArray, List.set_cons_zero, List.set_cons_succ]
      refine wpAnyH_take (i := 12) (v := undef) rfl (by kernel_rfl) (by kernel_rfl) (by kernel_rfl) (fun _ _ _ h => h) (Or.inr ⟨by rfl, rfl⟩) (by assumption) ?_
      change wpAnyH _ _ _ _ _ _ _ (Act.put _ (some 16) _) _
      simp only [Act.put, List.setIfInBounds_toArray, List.set_cons_zero, List.set_cons_succ]
      refine wpAnyH_take (i := 13) (v := undef) rfl (by kernel_rfl) (by kernel_rfl) (by kernel_rfl) (fun _ _ _ h => h) (Or.inr ⟨by rfl, rfl⟩) (by assumption) ?_
      change wpAnyH _ _ _ _ _ _ _ (Act.put _ (some 17) _) _
      simp only [Act.put, List.setIfInBounds_toArray, List.set_cons_zero, List.set_cons_succ]
      refine wpAnyH_take (i := 14) (v := undef) rfl (by kernel_rfl) (by kernel_rfl) (by kernel_rfl) (fun _ _ _ h => h) (Or.inr ⟨by rfl, rfl⟩) (by assumption) ?_
      change wpAnyH _ _ _ _ _ _ _ (Act.put _ (some 18) _) _
      simp only [Act.put, List.setIfInBounds_toArray, List.set_cons_zero, List.set_cons_succ]
      refine wpAnyH_take (i := 15) (v := undef) rfl (by kernel_rfl) (by kernel_rfl) (by kernel_rfl) (fun _ _ _ h => h) (Or.inr ⟨by rfl, rfl⟩) (by assumption) ?_
      change wpAnyH _ _ _ _ _ _ _ (Act.put _ (some 19) _) _
      simp only [Act.put, List.setIfInBounds_toArray, List.set_cons_zero, List.set_cons_succ]
      refine wpAnyH_take (i := 16) (v := undef) rfl (by kernel_rfl) (by kernel_rfl) (by kernel_rfl) (fun _ _ _ h => h) (Or.inr ⟨by rfl, rfl⟩) (by assumption) ?_
      change wpAnyH _ _ _ _ _ _ _ (Act.put _ (some 20) _) _
      simp only [Act.put, List.setIfInBounds_toArray, List.set_cons_zero, List.set_cons_succ]
      refine wpAnyH_take (i := 17) (v := ?v17n) rfl (by kernel_rfl) (by kernel_rfl) (by kernel_rfl) (fun _ _ _ h => h) (Or.inl ⟨by rfl, ?hy17n⟩) (by assumption) ?rest17n
      case hy17n => (intro zz hSw; (try dsimp only at hSw); go_simp; (try with_reducible rfl))
      change wpAnyH _ _ _ _ _ _ _ (Act.put _ (some 21) _) _
      simp only [Act.put, List.setIfInBounds_toArray, List.set_cons_zero, List.set_cons_succ]
      refine wpAnyH_done (by kernel_rfl) ?_ _
      have BX := Lib.hid hHeld; clear hHeld
      generalize wr.drew = w9 at BX ⊢
      go_wp2_with fail
      go_ret
      exact ⟨by rw [HE.out]; rfl, bel_tr HB.out BX.out (Nat.le_refl _)⟩
/-- What Thinned gives. -/
def thP (l : List Cel) (k f : Int) : List Cel := if okL l && (decide (1 ≤ k) && (decide (k ≤ 9) && (decide (0 ≤ f) && decide (f ≤ 1000000)))) then thinL k.toNat f l else []
def thB (k f : Int) : Bool := decide (1 ≤ k) && (decide (k ≤ 9) && (decide (0 ≤ f) && decide (f ≤ 1000000)))
theorem thB_iff {k f : Int} : thB k f = true ↔ 1 ≤ k ∧ k ≤ 9 ∧ 0 ≤ f ∧ f ≤ 1000000 := by unfold thB; simp
theorem thP_no {l : List Cel} {k f : Int} (h : okL l = false) : thP l k f = [] := by unfold thP; rw [h]; rfl
theorem thP_bad {l : List Cel} {k f : Int} (h : ¬ (1 ≤ k ∧ k ≤ 9 ∧ 0 ≤ f ∧ f ≤ 1000000)) : thP l k f = [] := by
  have : thB k f = false := by
    cases e : thB k f with
    | false => rfl
    | true => exact absurd (thB_iff.1 e) h
  unfold thP; unfold thB at this; rw [this, Bool.and_false]; rfl
theorem thP_yes {l : List Cel} {k f : Int} (h : okL l = true) (h2 : 1 ≤ k ∧ k ≤ 9 ∧ 0 ≤ f ∧ f ≤ 1000000) : thP l k f = thinL k.toNat f l := by
  have := thB_iff.2 h2
  unfold thP; unfold thB at this; rw [h, this]; rfl
theorem thP_len (l : List Cel) (k f : Int) : (thP l k f).length ≤ l.length := by
  unfold thP; split
  · exact (thin_subl _ _ _).length_le
  · simp
def ThPost (l : List Cel) (k f : Int) (w : World) (e : Ending) (w' : World) : Prop := ∃ v, e = .returned v ∧ OwC w.heap.size w' v (thP l k f) ∧ Below w.heap.size w w'
/-- In the midst of thinning. -/
def Thinning (w : World) (l : List Cel) (k : Nat) (f : Int) (s7 s8 : Value) (wr : World) : Prop :=
  ∃ x cx lr o, s8 = .slice x lr.length cx ∧ Vw w x cx lr ∧ OwC w.heap.size wr s7 o ∧ o ++ thinL k f lr = thinL k f l ∧ Below w.heap.size w wr ∧ o.length + lr.length ≤ 4000
set_option maxHeartbeats 4000000 in
set_option maxRecDepth 100000 in
theorem thinnedCells_any (w : World) (a : Option Addr) (cap : Nat) (l : List Cel) (n K : Nat) (f : Int) (hn : l.length = n) (hv : Vw w a cap l) (hl : n ≤ 4000) (hK1 : 1 ≤ K) (hK : K ≤ 9) :
    Calls Try.prog 63 #[.slice a n cap, .int .i64 (K : Int), .int .i64 f] w fun e w' => ∃ v, e = .returned v ∧ OwC w.heap.size w' v (thinL K f l) ∧ Below w.heap.size w w' := by
  have HST := Lib.hid (show Thinning w l K f (.slice none 0 0) (.slice a n cap) w from ⟨a, cap, l, [], by rw [hn], hv, OwC.nothing _ _, rfl, Below.refl _ _, by simp; omega⟩)
  have q5 : (K : Int) ≤ 9 := by omega
  clear hv
  go_enter Try.func63, Try.ntmps63
  go_wp2_with fail
  go_loopw [7, 8, 9] (fun s7 s8 _ wr => Thinning w l K f s7 s8 wr) (fun _ s8 _ _ => slM s8)
  case atStart => exact HST.out
  case round =>
    clear HST
    obtain ⟨x, cx, lr, o, rfl, hvr, ho, heq, hbel, hlen⟩ := hrel
    have HR := Lib.hid hvr; clear hvr
    have HO := Lib.hid ho; clear ho
    have HB := Lib.hid hbel; clear hbel
    cases lr with
    | nil =>
      have HE := Lib.hid (show o = thinL K f l by rw [← heq, thinL_nil, List.append_nil]); clear heq
      go_wp2_with fail
      go_ret
      exact ⟨_, rfl, by rw [← HE.out]; exact HO.out, HB.out⟩
    | cons c r =>
      have hgp := grp_pos (l := c :: r) (by simp)
      have hgl := grp_le (c :: r)
      have hkl := kept_le ((c :: r).take (grp (c :: r))) K f
      have HEQ := Lib.hid (show (o ++ thinG ((c :: r).take (grp (c :: r))) K f) ++ thinL K f ((c :: r).drop (grp (c :: r))) = thinL K f l by rw [← heq, thinL_cons (l := c :: r) (by simp), List.append_assoc]); clear heq
      have HVC := Lib.hid (fun z (hz : Below w.heap.size w z) => versionCount_any z x cx c r (c :: r).length rfl (HR.out.below hz) (by omega))
      have hlt : ((c :: r).take (grp (c :: r))).length = grp (c :: r) := by rw [List.length_take]; omega
      have hld : ((c :: r).drop (grp (c :: r))).length = (c :: r).length - grp (c :: r) := by rw [List.length_drop]
      have hlg : (thinG ((c :: r).take (grp (c :: r))) K f).length = kept ((c :: r).take (grp (c :: r))) K f := by unfold thinG; rw [List.length_take]; omega
      have HTG := Lib.hid (show thinG ((c :: r).take (grp (c :: r))) K f = ((c :: r).take (grp (c :: r))).take (kept ((c :: r).take (grp (c :: r))) K f) from rfl)
      rw [hlt] at hkl
      have HCL := Lib.hid (show (c :: r).length = r.length + 1 by simp)
      generalize thinG ((c :: r).take (grp (c :: r))) K f = tg at *
      generalize hdr : (c :: r).drop (grp (c :: r)) = dr at *
      generalize htk : (c :: r).take (grp (c :: r)) = tk at *
      generalize hGG : grp (c :: r) = GG at *
      generalize hkk : kept tk K f = kk at *
      generalize hLL : (c :: r).length = LL at *
      have HLL := Lib.hid hLL
      obtain ⟨hr1, hv1⟩ := cut_to x LL cx GG hgl (by rw [← hLL]; exact HR.out.1) HR.out.2.2.1
      have HVT := Lib.hid (show Vw w x cx tk by have := hv1 w (c :: r) HR.out hLL; rwa [htk] at this)
      obtain ⟨hr2, hv2⟩ := cut_to x GG cx kk hkl (by have := HVT.out.1; omega) HR.out.2.2.1
      have HVK := Lib.hid (show Vw w x cx tg by rw [HTG.out]; exact hv2 w tk HVT.out hlt)
      obtain ⟨y, cy, hr3, hv3⟩ := cut_from x LL cx GG hgl
      have HVD := Lib.hid (show Vw w y cy dr by have := hv3 w (c :: r) HR.out hLL; rwa [hdr] at this)
      have HKC := Lib.hid (fun z (hz : Below w.heap.size w z) => keptCount_any z x cx tk GG K f hlt (HVT.out.below hz) (by omega) hK)
      have HKK := Lib.hid hkk
      have HLD := Lib.hid hld
      have HLG := Lib.hid hlg
      clear hv1 hv2 hv3 hLL htk hdr hGG hkk hlt hld hlg
      have z0 : (0 : Int) < (LL : Int) := by omega
      go_wp2_with fail
      refine (HVC.out _ HB.out).mono ?_; rintro e w2 ⟨rfl, b2⟩
      have B2 := Lib.hid (bel_tr HB.out b2 (Nat.le_refl _))
      have O2 := Lib.hid (HO.out.next b2); clear b2
      go_wp2_with fail
      refine (HKC.out _ B2.out).mono ?_; rintro e w' ⟨rfl, rfl⟩
      rw [HKK.out]
      go_wp2_with (first
        | (at_builtin; refine append_cells rfl (.tmp 18) (.tmp 24) rfl (base := w.heap.size) (l := o) (m := tg) rfl rfl HLG.out O2.out (HVK.out.below B2.out) (by rw [HLG.out]; omega) B2.out.size ?_; intro v5 w5 o5 g5))
      have B5 := Lib.hid (B2.out.grown g5 B2.out.size (fun j hj => OwC.lt O2.out j hj))
      have O5 := Lib.hid o5; clear o5 g5
      go_wp2_with fail
      go_roundw
      case rel => exact ⟨y, cy, dr, o ++ tg, slcM HLD.out.symm, HVD.out, O5.out, HEQ.out, B5.out, by rw [List.length_append, HLG.out, HLD.out]; omega⟩
      case measure => simp [slM]; omega
theorem thB_no {k f : Int} (h : thB k f = false) : ¬ (1 ≤ k ∧ k ≤ 9 ∧ 0 ≤ f ∧ f ≤ 1000000) := fun h2 => by rw [thB_iff.2 h2] at h; cases h
set_option maxRecDepth 100000 in
set_option maxHeartbeats 1000000 in
theorem thinningOk_any (k f : Int) (w : World) : Calls Try.prog 62 #[.int .i64 k, .int .i64 f] w fun e w' => e = .returned (.bool (thB k f)) ∧ w = w' := by
  by_cases q1 : 1 ≤ k
  · by_cases q2 : k ≤ 9
    · by_cases q3 : 0 ≤ f
      · by_cases q4 : f ≤ 1000000
        · have HT := Lib.hid (thB_iff.2 ⟨q1, q2, q3, q4⟩)
          go_enter Try.func62, Try.ntmps62
          go_wp2
          go_ret
          exact ⟨by rw [HT.out]; rfl, rfl⟩
        · have HT := Lib.hid (show thB k f = false by unfold thB; simp [q4])
          go_enter Try.func62, Try.ntmps62
          go_wp2
          go_ret
          exact ⟨by rw [HT.out]; rfl, rfl⟩
      · have HT := Lib.hid (show thB k f = false by unfold thB; simp [q3])
        go_enter Try.func62, Try.ntmps62
        go_wp2
        go_ret
        exact ⟨by rw [HT.out]; rfl, rfl⟩
    · have HT := Lib.hid (show thB k f = false by unfold thB; simp [q2])
      go_enter Try.func62, Try.ntmps62
      go_wp2
      go_ret
      exact ⟨by rw [HT.out]; rfl, rfl⟩
  · have HT := Lib.hid (show thB k f = false by unfold thB; simp [q1])
    go_enter Try.func62, Try.ntmps62
    go_wp2
    go_ret
    exact ⟨by rw [HT.out]; rfl, rfl⟩
theorem thinOk_is {k f : Int} {x : Bool} (h : thB k f = x) (w : World) : Calls Try.prog 62 #[.int .i64 k, .int .i64 f] w fun e w' => e = .returned (.bool x) ∧ w = w' := by
  rw [← h]; exact thinningOk_any k f w
set_option maxHeartbeats 4000000 in
set_option maxRecDepth 100000 in
theorem implThinned_any (w : World) (a : Option Addr) (cap : Nat) (l : List Cel) (n : Nat) (k f : Int) (hn : l.length = n) (hv : Vw w a cap l) (hl : n ≤ 4194304) :
    Calls Try.prog 16 #[.slice a n cap, .int .i64 k, .int .i64 f] w (ThPost l k f w) := by
  have HV := Lib.hid hv; clear hv
  cases h1 : okL l
  · have HP := Lib.hid (thP_no (k := k) (f := f) h1)
    have H1 := Lib.hid h1; clear h1
    go_enter Try.func16, Try.ntmps16
    go_wp2_with fail
    refine (implCells_is H1.out _ a cap n hn HV.out hl).mono ?_; rintro e w1 ⟨rfl, b1⟩
    have B1 := Lib.hid b1; clear b1
    go_wp2_with fail
    go_ret
    exact ⟨_, rfl, by rw [HP.out]; exact OwC.nothing _ _, B1.out⟩
  · have H1 := Lib.hid h1
    have hl2 : n ≤ 200 := by rw [← hn]; exact okLM h1
    cases h2 : thB k f
    · have HP := Lib.hid (thP_bad (l := l) (thB_no h2))
      have H2 := Lib.hid (thinOk_is h2); clear h1 h2
      go_enter Try.func16, Try.ntmps16
      go_wp2_with fail
      refine (implCells_is H1.out _ a cap n hn HV.out hl).mono ?_; rintro e w1 ⟨rfl, b1⟩
      have B1 := Lib.hid b1; clear b1
      go_wp2_with fail
      refine (H2.out _).mono ?_; rintro e w' ⟨rfl, rfl⟩
      go_wp2_with fail
      go_ret
      exact ⟨_, rfl, by rw [HP.out]; exact OwC.nothing _ _, B1.out⟩
    · obtain ⟨k1, k2, f1, f2⟩ := thB_iff.1 h2
      have HP := Lib.hid (thP_yes h1 ⟨k1, k2, f1, f2⟩)
      have H2 := Lib.hid (thinOk_is h2); clear h1 h2
      obtain ⟨K, rfl⟩ := Int.eq_ofNat_of_zero_le (show 0 ≤ k by omega)
      rw [Int.toNat_natCast] at HP
      go_enter Try.func16, Try.ntmps16
      go_wp2_with fail
      refine (implCells_is H1.out _ a cap n hn HV.out hl).mono ?_; rintro e w1 ⟨rfl, b1⟩
      have B1 := Lib.hid b1; clear b1
      go_wp2_with fail
      refine (H2.out _).mono ?_; rintro e w' ⟨rfl, rfl⟩
      go_wp2_with fail
      refine (thinnedCells_any _ a cap l n K f hn (HV.out.below B1.out) (by omega) (by omega) (by omega)).mono ?_; rintro e w2 ⟨v, rfl, o2, b2⟩
      have B2 := Lib.hid (bel_tr B1.out b2 (Nat.le_refl _))
      have O2 := Lib.hid (o2.mono B1.out.size); clear o2 b2
      go_wp2_with fail
      go_ret
      exact ⟨_, rfl, by rw [HP.out]; exact O2.out, B2.out⟩
end Go.Proofs.Ytopcjiaakefmeaa.Cl
