/-
  The contract of impl.keptCount: 'kept'. (Made by gen_qa.py.)
-/
import Derived.Test.YtefhdhblcaopiaaTh
import Derived.Test.YtefhdhblcaopiaaCi
namespace Go.Proofs.Ytefhdhblcaopiaa.Cl
open Go.RowKit Wd Rp Kp
set_option linter.unusedVariables false
def slM : Value → Nat
  | .slice _ n _ => n
  | _ => 0
theorem slcM {a : Option Addr} {n m cap : Nat} (h : n = m) : Value.slice a n cap = .slice a m cap := by rw [h]
theorem okLM {l : List Cel} (h : okL l = true) : l.length ≤ 200 := (okL_iff.1 h).2
theorem okLS {l : List Cel} (h : okL l = true) : Srt l := okL_pair h
set_option maxHeartbeats 4000000 in
set_option maxRecDepth 100000 in
theorem keptCount_any (w : World) (a : Option Addr) (cap : Nat) (l : List Cel) (n k : Nat) (f : Int) (hn : l.length = n) (hv : Vw w a cap l) (hl : n ≤ 4194304) (hk : k ≤ 9) :
    Calls Try.prog 124 #[.slice a n cap, .int .i64 (k : Int), .int .i64 f] w fun e w' => e = .returned (.int .i64 (kept l k f : Nat)) ∧ w = w' := by
  have HV := Lib.hid hv; clear hv
  go_enter Try.func124, Try.ntmps124
  go_wp2_with fail
  go_loop [7] (fun x => ∃ i : Nat, x = .int .i64 (i : Int) ∧ i ≤ n ∧ (∀ m c, m < i → l[m]? = some c → decide (f < c.t) = true)) (fun x => n - intV x)
  case atStart => exact ⟨0, rfl, Nat.zero_le _, fun m c hm => by omega⟩
  case round =>
    obtain ⟨i, rfl, hi, hlo⟩ := hrel
    by_cases hlt : i < n
    · obtain ⟨c, hc⟩ : ∃ c, l[i]? = some c := ⟨l[i]'(by omega), List.getElem?_eq_getElem _⟩
      obtain ⟨g, o, e1, -, c0, c1, c2, c3, c4⟩ := HV.out.2.2.2 i c hc
      obtain rfl := e1
      have HC := Lib.hid hc; clear hc
      have HLO := Lib.hid hlo; clear hlo
      clear c0 c1 c3 c4
      have j1 : (i : Int) < (n : Int) := by omega
      have j2 : (0 : Int) ≤ (i : Int) := by omega
      have j3 : (n : Int) ≤ 4194304 := by omega
      by_cases hft : f < c.t
      · go_wp2_with fail
        go_round
        case rel =>
          refine ⟨i + 1, by go_num, by omega, fun m d hm hd => ?_⟩
          by_cases em : m = i
          · subst em; rw [HC.out] at hd; cases hd; simpa using hft
          · exact HLO.out m d (by omega) hd
        case measure => simp [intV]; omega
      · have hnf : decide (f < c.t) = false := by simpa using hft
        have HLAT := Lib.hid (show lat l f = i from cntP_eq (by omega) HLO.out (fun d hd => by rw [HC.out] at hd; cases hd; exact hnf))
        have hln : i ≤ n := hi
        have HMIN := Lib.hid (show kept l k f = trim l i (min (i + k) n) by unfold kept; rw [HLAT.out, hn])
        by_cases hmi : i + k ≤ n
        · have hmz : (i : Int) + (k : Int) ≤ (n : Int) := by omega
          have hmn : min (i + k) n = i + k := by omega
          have HMN := Lib.hid hmn; clear hmn
          go_wp2_with fail
          go_loop [8] (fun x => ∃ j : Nat, x = .int .i64 (j : Int) ∧ i ≤ j ∧ j ≤ n ∧ trim l i j = kept l k f) (fun x => intV x)
          case atStart => exact ⟨i + k, by go_num, by omega, by omega, by rw [HMIN.out, HMN.out]⟩
          case round =>
            obtain ⟨j, rfl, hj1, hj2, htr⟩ := hrel
            by_cases hlt : i < j
            · obtain ⟨j', rfl⟩ : ∃ j', j = j' + 1 := ⟨j - 1, by omega⟩
              obtain ⟨d, hd⟩ : ∃ d, l[j']? = some d := ⟨l[j']'(by omega), List.getElem?_eq_getElem _⟩
              obtain ⟨g2, o2, e2, -, d0, d1, d2, d3, d4⟩ := HV.out.2.2.2 j' d hd
              cases e2
              have HTS := Lib.hid (show trim l i (j' + 1) = if d.g = true then trim l i j' else j' + 1 by
                rw [trim]; unfold isGone; rw [hd]
                by_cases e : d.g = true
                · rw [if_pos e, if_pos ⟨by omega, e⟩]
                · rw [if_neg e, if_neg (fun h => e h.2)])
              have HTR := Lib.hid htr
              clear htr hd
              have i1 : (i : Int) < (j' : Int) + 1 := by omega
              have i2 : (0 : Int) ≤ (j' : Int) := by omega
              have i3 : (j' : Int) < (n : Int) := by omega
              have i4 : (n : Int) ≤ 4194304 := by omega
              cases hg : d.g
              · rw [hg] at d4 HTS
                clear hg
                go_wp2_with fail
                go_ret
                exact ⟨by rw [← HTR.out, HTS.out]; rfl, rfl⟩
              · rw [hg] at d4 HTS
                clear hg
                go_wp2_with fail
                go_round
                case rel => exact ⟨j', by go_num, by omega, by omega, by rw [← HTR.out, HTS.out]; rfl⟩
                case measure => simp [intV]
            · obtain rfl : i = j := by omega
              have HF := Lib.hid (show kept l k f = i by rw [← htr]; exact trim_id (Or.inl rfl))
              clear htr
              go_wp2_with fail
              go_ret
              exact ⟨by rw [HF.out]; rfl, rfl⟩
        · have hmz : ¬ (i : Int) + (k : Int) ≤ (n : Int) := by omega
          have hmn : min (i + k) n = n := by omega
          have HMN := Lib.hid hmn; clear hmn
          go_wp2_with fail
          go_loop [8] (fun x => ∃ j : Nat, x = .int .i64 (j : Int) ∧ i ≤ j ∧ j ≤ n ∧ trim l i j = kept l k f) (fun x => intV x)
          case atStart => exact ⟨n, rfl, by omega, by omega, by rw [HMIN.out, HMN.out]⟩
          case round =>
            obtain ⟨j, rfl, hj1, hj2, htr⟩ := hrel
            by_cases hlt : i < j
            · obtain ⟨j', rfl⟩ : ∃ j', j = j' + 1 := ⟨j - 1, by omega⟩
              obtain ⟨d, hd⟩ : ∃ d, l[j']? = some d := ⟨l[j']'(by omega), List.getElem?_eq_getElem _⟩
              obtain ⟨g2, o2, e2, -, d0, d1, d2, d3, d4⟩ := HV.out.2.2.2 j' d hd
              cases e2
              have HTS := Lib.hid (show trim l i (j' + 1) = if d.g = true then trim l i j' else j' + 1 by
                rw [trim]; unfold isGone; rw [hd]
                by_cases e : d.g = true
                · rw [if_pos e, if_pos ⟨by omega, e⟩]
                · rw [if_neg e, if_neg (fun h => e h.2)])
              have HTR := Lib.hid htr
              clear htr hd
              have i1 : (i : Int) < (j' : Int) + 1 := by omega
              have i2 : (0 : Int) ≤ (j' : Int) := by omega
              have i3 : (j' : Int) < (n : Int) := by omega
              have i4 : (n : Int) ≤ 4194304 := by omega
              cases hg : d.g
              · rw [hg] at d4 HTS
                clear hg
                go_wp2_with fail
                go_ret
                exact ⟨by rw [← HTR.out, HTS.out]; rfl, rfl⟩
              · rw [hg] at d4 HTS
                clear hg
                go_wp2_with fail
                go_round
                case rel => exact ⟨j', by go_num, by omega, by omega, by rw [← HTR.out, HTS.out]; rfl⟩
                case measure => simp [intV]
            · obtain rfl : i = j := by omega
              have HF := Lib.hid (show kept l k f = i by rw [← htr]; exact trim_id (Or.inl rfl))
              clear htr
              go_wp2_with fail
              go_ret
              exact ⟨by rw [HF.out]; rfl, rfl⟩
    · have j1 : ¬ (i : Int) < (n : Int) := by omega
      have j3 : (n : Int) ≤ 4194304 := by omega
      have HLAT := Lib.hid (show lat l f = i from cntP_eq (by omega) hlo (fun d hd => by have := (List.getElem?_eq_some_iff.1 hd).1; omega))
      have hln : i ≤ n := hi
      clear hlo
      have HMIN := Lib.hid (show kept l k f = trim l i (min (i + k) n) by unfold kept; rw [HLAT.out, hn])
      by_cases hmi : i + k ≤ n
      · have hmz : (i : Int) + (k : Int) ≤ (n : Int) := by omega
        have hmn : min (i + k) n = i + k := by omega
        have HMN := Lib.hid hmn; clear hmn
        go_wp2_with fail
        go_loop [8] (fun x => ∃ j : Nat, x = .int .i64 (j : Int) ∧ i ≤ j ∧ j ≤ n ∧ trim l i j = kept l k f) (fun x => intV x)
        case atStart => exact ⟨i + k, by go_num, by omega, by omega, by rw [HMIN.out, HMN.out]⟩
        case round =>
          obtain ⟨j, rfl, hj1, hj2, htr⟩ := hrel
          by_cases hlt : i < j
          · exact absurd hlt (by omega)
          · obtain rfl : i = j := by omega
            have HF := Lib.hid (show kept l k f = i by rw [← htr]; exact trim_id (Or.inl rfl))
            clear htr
            go_wp2_with fail
            go_ret
            exact ⟨by rw [HF.out]; rfl, rfl⟩
      · have hmz : ¬ (i : Int) + (k : Int) ≤ (n : Int) := by omega
        have hmn : min (i + k) n = n := by omega
        have HMN := Lib.hid hmn; clear hmn
        go_wp2_with fail
        go_loop [8] (fun x => ∃ j : Nat, x = .int .i64 (j : Int) ∧ i ≤ j ∧ j ≤ n ∧ trim l i j = kept l k f) (fun x => intV x)
        case atStart => exact ⟨n, rfl, by omega, by omega, by rw [HMIN.out, HMN.out]⟩
        case round =>
          obtain ⟨j, rfl, hj1, hj2, htr⟩ := hrel
          by_cases hlt : i < j
          · exact absurd hlt (by omega)
          · obtain rfl : i = j := by omega
            have HF := Lib.hid (show kept l k f = i by rw [← htr]; exact trim_id (Or.inl rfl))
            clear htr
            go_wp2_with fail
            go_ret
            exact ⟨by rw [HF.out]; rfl, rfl⟩
end Go.Proofs.Ytefhdhblcaopiaa.Cl
