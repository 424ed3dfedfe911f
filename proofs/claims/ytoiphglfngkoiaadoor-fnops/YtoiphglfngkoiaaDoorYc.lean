/-
  Signs of tokens: contracts of spec.l1At, l8Ops, l8Op, l8Given and of impl.operatorOf, signOf; ReadWord and NameOk of a token.
-/
import Derived.Test.YtoiphglfngkoiaaDoorYb
import Derived.Test.YtoiphglfngkoiaaDoorRl
import Derived.Test.YtoiphglfngkoiaaDoorNm
namespace Go.Proofs.YtoiphglfngkoiaaDoor.Cl
open Go.RowKit Wd Rp Kp
set_option linter.unusedVariables false
theorem tx_inj {a b : Tk} (h : tx a = tx b) : a = b := by rw [← tx_data a, ← tx_data b, h]
theorem tx_ne {a b : Tk} (h : ¬ a = b) : ((tx a).toList == (tx b).toList) = false := lists_ne fun e => h (tx_inj e)
theorem tx_beq (a : Tk) : ((tx a).toList == (tx a).toList) = true := by simp
set_option maxHeartbeats 4000000 in
set_option maxRecDepth 100000 in
theorem l1At_any (w : World) (a : Option Addr) (cap : Nat) (l : List Tk) (n : Nat) (s : Tk) (hn : l.length = n) (hv : V1 w a cap (txL l)) (hl : n ≤ 4194304) :
    Calls Tryd.prog 29 #[.slice a n cap, .string (tx s)] w fun e w' => e = .returned (.int .i64 (atI l s)) ∧ w = w' := by
  have HV := Lib.hid hv; clear hv
  have HN := Lib.hid hn; clear hn
  go_enter Tryd.func29, Tryd.ntmps29
  go_wp2_with fail
  go_loop [5] (fun i => ∃ k : Nat, k ≤ n ∧ i = .int .i64 k ∧ ∀ (j : Nat) (y : Tk), j < k → l[j]? = some y → y ≠ s) (fun i => n - (intOf i).toNat)
  case atStart => exact ⟨0, Nat.zero_le _, rfl, fun j y hj => by omega⟩
  case round =>
    obtain ⟨k, hk, rfl, hno⟩ := hrel
    have HO := Lib.hid hno; clear hno
    by_cases hlt : k < n
    · obtain ⟨c, hc⟩ : ∃ c, l[k]? = some c := ⟨l[k]'(by have := HN.out; omega), List.getElem?_eq_getElem _⟩
      obtain ⟨g, o, rfl, hg, c0⟩ := HV.out.tx hc
      have HC := Lib.hid hc; clear hc hg
      by_cases he : c = s
      · subst he
        have HA := Lib.hid (show atI l c = (k : Int) by unfold atI; rw [at?_at HC.out HO.out])
        have q1 := tx_beq c
        generalize tx c = x at *
        go_wp2_with fail
        go_ret
        exact ⟨by rw [HA.out]; rfl, rfl⟩
      · have q1 := tx_ne he
        generalize tx c = x at *
        generalize tx s = y at *
        go_wp2_with fail
        go_round
        case rel =>
          refine ⟨k + 1, by omega, by go_num, fun j z hj hz => ?_⟩
          by_cases e : j = k
          · subst e
            rw [HC.out] at hz; cases hz; exact he
          · exact HO.out j z (by omega) hz
        case measure => simp [intOf]; omega
    · obtain rfl : k = n := by omega
      have HA := Lib.hid (show atI l s = -1 by unfold atI; rw [at?_none fun j y hy => HO.out j y (by have := (List.getElem?_eq_some_iff.1 hy).1; have := HN.out; omega) hy])
      go_wp2_with fail
      go_ret
      exact ⟨by rw [HA.out]; rfl, rfl⟩
theorem litT {B : Nat} (w : World) (l : List Tk) (hl : l.length ≤ 1000) : V1 (w.alloc (.cells (l.map tv).toArray 9)) (some ⟨w.heap.size, 0, none⟩) l.length (txL l) := by
  have h := O1.lit (T := 9) (Nat.zero_le w.heap.size) (l.map tv).toArray (by unfold maxLen; simp; omega)
  rw [show (l.map tv).toArray.size = l.length by simp] at h
  exact h.vw
theorem rdS_any (s : Tk) (w : World) (hs : s.length ≤ 9223372036854775807) : Calls Tryd.prog 32 #[.string (tx s)] w fun e w' => e = .returned (.tuple #[.int .i64 (rdV s), .bool (rdB s)]) ∧ w = w' := by
  have h := specRead_any (tx s) w (by rw [tx_size]; exact hs)
  unfold RdPost at h
  rw [tx_data] at h; exact h
theorem rdI_any (s : Tk) (w : World) (hL : Lib3 w) (hs : s.length ≤ 281474976710656) : Calls Tryd.prog 27 #[.string (tx s)] w fun e w' => e = .returned (.tuple #[.int .i64 (rdV s), .bool (rdB s)]) ∧ Below w.heap.size w w' := by
  have h := implRead_any (tx s) w hL (by rw [tx_size]; exact hs)
  unfold RdGrown at h
  rw [tx_data] at h; exact h
theorem nmS_any (s : Tk) (w : World) (hs : s.length ≤ 9223372036854775806) : Calls Tryd.prog 38 #[.string (tx s)] w fun e w' => e = .returned (.bool (nmB s)) ∧ w = w' := by
  have h := specName_any (tx s) w (by rw [tx_size]; exact hs)
  unfold NmPost at h
  rw [tx_data] at h; exact h
theorem nmI_any (s : Tk) (w : World) : Calls Tryd.prog 35 #[.string (tx s)] w fun e w' => e = .returned (.bool (nmB s)) ∧ w = w' := by
  have h := implName_any (tx s) w
  unfold NmPost at h
  rw [tx_data] at h; exact h
end Go.Proofs.YtoiphglfngkoiaaDoor.Cl
