/-
  Signs of tokens: contracts of spec.l1At, l8Ops, l8Op, l8Given and of impl.operatorOf, signOf; ReadWord and NameOk of a token.
-/
import Derived.Test.YtfnnoehpahdgcaaGreatDoorYb
import Derived.Test.YtfnnoehpahdgcaaGreatDoorRl
import Derived.Test.YtfnnoehpahdgcaaGreatDoorNm
namespace Go.Proofs.YtfnnoehpahdgcaaGreatDoor.Cl
open Go.RowKit Wd Rp Kp
set_option linter.unusedVariables false
theorem tx_inj {a b : Tk} (h : tx a = tx b) : a = b := by rw [← tx_data a, ← tx_data b, h]
theorem tx_ne {a b : Tk} (h : ¬ a = b) : ((tx a).toList == (tx b).toList) = false := lists_ne fun e => h (tx_inj e)
theorem tx_beq (a : Tk) : ((tx a).toList == (tx a).toList) = true := by simp
set_option maxHeartbeats 4000000 in
set_option maxRecDepth 100000 in
theorem l1At_any (w : World) (a : Option Addr) (cap : Nat) (l : List Tk) (n : Nat) (s : Tk) (hn : l.length = n) (hv : V1 w a cap (txL l)) (hl : n ≤ 4194304) :
    Calls Tryz.prog 102 #[.slice a n cap, .string (tx s)] w fun e w' => e = .returned (.int .i64 (atI l s)) ∧ w = w' := by
  have HV := Lib.hid hv; clear hv
  have HN := Lib.hid hn; clear hn
  go_enter Tryz.func102, Tryz.ntmps102
  go_wp2_with fail
  go_loop [5] (fun i => ∃ k : Nat, k ≤ n ∧ i = .int .i64 k ∧ ∀ (j : Nat) (y : Tk), j < k → l[j]? = some y → y ≠ s) (fun i => n - (intOf i).toNat)
  case atStart => exact ⟨0, Nat.zero_le _, rfl, fun j y hj => by omega⟩
  case round =>
    obtain ⟨k, hk, rfl, hno⟩ := hrel
    have HO := Lib.hid hno; clear hno
    by_cases hlt : k < n
    · obtain ⟨c, hc⟩ : ∃ c, l[k]? = some c := ⟨l[k]'(by have := HN.out; omega), List.getElem?_eq_getElem _⟩
      obtain ⟨g, o, rfl, hg, c0⟩ := HV.out.tx hc
      have HC := Lib.hid hc; clear hc hg
      by_cases he : c = s
      · subst he
        have HA := Lib.hid (show atI l c = (k : Int) by unfold atI; rw [at?_at HC.out HO.out])
        have q1 := tx_beq c
        generalize tx c = x at *
        go_wp2_with fail
        go_ret
        exact ⟨by rw [HA.out]; rfl, rfl⟩
      · have q1 := tx_ne he
        generalize tx c = x at *
        generalize tx s = y at *
        go_wp2_with fail
        go_round
        case rel =>
          refine ⟨k + 1, by omega, by go_num, fun j z hj hz => ?_⟩
          by_cases e : j = k
          · subst e
            rw [HC.out] at hz; cases hz; exact he
          · exact HO.out j z (by omega) hz
        case measure => simp [intOf]; omega
    · obtain rfl : k = n := by omega
      have HA := Lib.hid (show atI l s = -1 by unfold atI; rw [at?_none fun j y hy => HO.out j y (by have := (List.getElem?_eq_some_iff.1 hy).1; have := HN.out; omega) hy])
      go_wp2_with fail
      go_ret
      exact ⟨by rw [HA.out]; rfl, rfl⟩
theorem litT {B : Nat} (w : World) (l : List Tk) (hl : l.length ≤ 1000) : V1 (w.alloc (.cells (l.map tv).toArray 9)) (some ⟨w.heap.size, 0, none⟩) l.length (txL l) := by
  have h := O1.lit (T := 9) (Nat.zero_le w.heap.size) (l.map tv).toArray (by unfold maxLen; simp; omega)
  rw [show (l.map tv).toArray.size = l.length by simp] at h
  exact h.vw
set_option maxRecDepth 100000 in
theorem l8Ops_any (w : World) : Calls Tryz.prog 103 #[] w fun e w' => e = .returned (.slice (some ⟨w.heap.size, 0, none⟩) 7 7) ∧ w' = w.alloc (.cells #[.string ⟨#[43]⟩, .string ⟨#[45]⟩, .string ⟨#[42]⟩, .string ⟨#[47]⟩, .string ⟨#[60]⟩, .string ⟨#[61]⟩, .string ⟨#[38]⟩] 9) := by
  go_enter Tryz.func103, Tryz.ntmps103
  go_wp2_with fail
  go_ret
  exact ⟨rfl, rfl⟩
set_option maxRecDepth 100000 in
theorem l8Op_any (w : World) (s : Tk) : Calls Tryz.prog 89 #[.string (tx s)] w fun e w' => e = .returned (.int .i64 (opN s)) ∧ Below w.heap.size w w' := by
  have HB := Lib.hid (bel1 w)
  have HA := Lib.hid (l1At_any (w.alloc (.cells #[.string ⟨#[43]⟩, .string ⟨#[45]⟩, .string ⟨#[42]⟩, .string ⟨#[47]⟩, .string ⟨#[60]⟩, .string ⟨#[61]⟩, .string ⟨#[38]⟩] 9)) (some ⟨w.heap.size, 0, none⟩) 7 opsL 7 s rfl (litT (B := 0) w opsL (by decide)) (by decide))
  have HI := Lib.hid (opN_I s)
  have HL := Lib.hid (opN_le s)
  have hlo : 0 ≤ atI opsL s + 1 := by rw [HI.out]; omega
  have hhi : atI opsL s + 1 ≤ 7 := by rw [HI.out]; have := HL.out; omega
  generalize atI opsL s = m at *
  generalize tx s = x at *
  go_enter Tryz.func89, Tryz.ntmps89
  go_wp2_with fail
  refine (l8Ops_any _).mono ?_; rintro e w1 ⟨rfl, rfl⟩
  go_wp2_with fail
  refine HA.out.mono ?_; rintro e w1 ⟨rfl, rfl⟩
  go_wp2_with fail
  go_ret
  exact ⟨by rw [← HI.out]; rfl, HB.out _⟩
set_option maxRecDepth 100000 in
theorem l8Given_any (w : World) (s : Tk) : Calls Tryz.prog 90 #[.string (tx s)] w fun e w' => e = .returned (.int .i64 ((gvN s : Int) - 1)) ∧ Below w.heap.size w w' := by
  have HB := Lib.hid (bel1 w)
  have HA := Lib.hid (l1At_any (w.alloc (.cells #[.string ⟨#[64, 48]⟩, .string ⟨#[64, 49]⟩, .string ⟨#[64, 50]⟩] 9)) (some ⟨w.heap.size, 0, none⟩) 3 gvsL 3 s rfl (litT (B := 0) w gvsL (by decide)) (by decide))
  have HI := Lib.hid (show atI gvsL s = (gvN s : Int) - 1 by have := gvN_I s; omega)
  generalize atI gvsL s = m at *
  generalize tx s = x at *
  go_enter Tryz.func90, Tryz.ntmps90
  go_wp2_with fail
  refine HA.out.mono ?_; rintro e w1 ⟨rfl, rfl⟩
  go_wp2_with fail
  go_ret
  exact ⟨by rw [← HI.out]; rfl, HB.out _⟩
theorem rdS_any (s : Tk) (w : World) (hs : s.length ≤ 9223372036854775807) : Calls Tryz.prog 88 #[.string (tx s)] w fun e w' => e = .returned (.tuple #[.int .i64 (rdV s), .bool (rdB s)]) ∧ w = w' := by
  have h := specRead_any (tx s) w (by rw [tx_size]; exact hs)
  unfold RdPost at h
  rw [tx_data] at h; exact h
theorem rdI_any (s : Tk) (w : World) (hL : Lib3 w) (hs : s.length ≤ 281474976710656) : Calls Tryz.prog 161 #[.string (tx s)] w fun e w' => e = .returned (.tuple #[.int .i64 (rdV s), .bool (rdB s)]) ∧ Below w.heap.size w w' := by
  have h := implRead_any (tx s) w hL (by rw [tx_size]; exact hs)
  unfold RdGrown at h
  rw [tx_data] at h; exact h
theorem nmS_any (s : Tk) (w : World) (hs : s.length ≤ 9223372036854775806) : Calls Tryz.prog 56 #[.string (tx s)] w fun e w' => e = .returned (.bool (nmB s)) ∧ w = w' := by
  have h := specName_any (tx s) w (by rw [tx_size]; exact hs)
  unfold NmPost at h
  rw [tx_data] at h; exact h
theorem nmI_any (s : Tk) (w : World) : Calls Tryz.prog 107 #[.string (tx s)] w fun e w' => e = .returned (.bool (nmB s)) ∧ w = w' := by
  have h := implName_any (tx s) w
  unfold NmPost at h
  rw [tx_data] at h; exact h
theorem ta_op (v : Value) (w : World) : (Instr.typeAssert (.iface 150 v) 142 150 true).run Tryz.prog w = .ok (.tuple #[v, .bool true]) w := by kernel_rfl
theorem ta_op_gv (v : Value) (w : World) : (Instr.typeAssert (.iface 158 v) 142 150 true).run Tryz.prog w = .ok (.tuple #[.int .i64 0, .bool false]) w := by kernel_rfl
theorem ta_op_nm (v : Value) (w : World) : (Instr.typeAssert (.iface 159 v) 142 150 true).run Tryz.prog w = .ok (.tuple #[.int .i64 0, .bool false]) w := by kernel_rfl
theorem ta_op_wd (v : Value) (w : World) : (Instr.typeAssert (.iface 134 v) 142 150 true).run Tryz.prog w = .ok (.tuple #[.int .i64 0, .bool false]) w := by kernel_rfl
theorem nn_if (T : TypeId) (v : Value) (w : World) : (binOp BinOp.eql 142 (.iface T v) .nilIface).run Tryz.prog w = .ok (.bool false) w := by kernel_rfl
theorem nn_nil (w : World) : (binOp BinOp.eql 142 .nilIface .nilIface).run Tryz.prog w = .ok (.bool true) w := by kernel_rfl
end Go.Proofs.YtfnnoehpahdgcaaGreatDoor.Cl
