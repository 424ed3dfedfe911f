/-
  ShowOp: contracts of spec.ShowOp, impl.ShowOp ('shO' of the instruction); kindOfOp over the table of heads. (Made by gen_ow.py.)
-/
import Derived.Test.YtoiphglfngkoiaaDoorOi
import Derived.Test.YtoiphglfngkoiaaDoorOt
import Derived.Test.YtoiphglfngkoiaaDoorCt
import Derived.Test.YtoiphglfngkoiaaDoorYc
import Derived.Test.YtoiphglfngkoiaaDoorYd
import Derived.Lib.LaidTab
import Derived.LaidSub
namespace Go.Proofs.YtoiphglfngkoiaaDoor.Cl
open Go.RowKit Wd Rp Kp Go.ChangeShapes
set_option linter.unusedVariables false
set_option linter.unusedSimpArgs false
/-- The heads by kind. -/
def hdO : List Tk := [] :: wdO
def HdO (w : World) : Prop := (∀ (k : Nat) (x : Tk), hdO[k]? = some x → w.cell? ⟨0, k, none⟩ = some (.string (tx x))) ∧ 0 < w.heap.size
theorem HdO.next {w w' : World} (h : HdO w) (hb : Below w.heap.size w w') : HdO w' := by
  have e : w'.heap[0]? = w.heap[0]? := hb.block _ h.2
  exact ⟨fun k x hx => (World.cell?_of_block (w := w) e).trans (h.1 k x hx), Nat.lt_of_lt_of_le h.2 hb.size⟩
/-- An array of texts that reads as the table holds the table's texts. -/
theorem cells_of_txs {P : Program} {w : World} {base : Nat} {sp : Nat → Bool} {held : Bool} {fuel : Nat} {t e : TypeId} {n : Nat} {cs : List Value} {zs : List Tk} {p : List MemPlace}
    (ht : P.underlying t = some (.array n e)) (he : P.underlying e = some .string) (hce : P.cellsOf e = 1) (hct : P.cellsOf t = n)
    (h : DataW.trod (fun _ => ()) P w base sp held fuel t cs = some (.agg (zs.map fun z => .lit (.string z)), p)) : cs = zs.map fun z => Value.string (tx z) := by
  cases fuel with
  | zero => simp [DataW.trod] at h
  | succ fuel =>
    simp only [DataW.trod, ht, hce, hct, Nat.mul_one] at h
    split at h
    · rename_i hl
      obtain ⟨xs, hm, hx⟩ := Option.map_eq_some_iff.1 h
      have hxs : xs.map (·.1) = zs.map fun z => (DataW.lit (.string z) : DataW Unit) := by
        have := congrArg Prod.fst hx
        simpa using this
      have hxl : xs.length = n := by simpa using Lib.mapM_length hm
      have hzl : zs.length = n := by
        have := congrArg List.length hxs
        simp at this
        omega
      apply List.ext_getElem?
      intro i
      by_cases hi : i < n
      · obtain ⟨b, hb, hf⟩ := Lib.mapM_at hm i i (by simp [hi])
        obtain ⟨z, hc, rfl, _⟩ := DataW.trod_string he hf
        have h1 : cs[i]? = some (.string z) := by
          have := congrArg (·[0]?) hc
          simpa [List.getElem?_take, List.getElem?_drop] using this
        have h2 : (xs.map (·.1))[i]? = some (DataW.lit (.string z.data.toList) : DataW Unit) := by simp [hb]
        rw [hxs] at h2
        simp only [List.getElem?_map, Option.map_eq_some_iff, DataW.lit.injEq, Lit.string.injEq] at h2
        obtain ⟨z', hz', e'⟩ := h2
        simp only [h1, List.getElem?_map, hz', Option.map_some, e']
        rfl
      · rw [List.getElem?_eq_none (by omega), List.getElem?_eq_none (by simp; omega)]
    · cases h
theorem heads_of {W : World} {rest : List (String × DataW Unit)} (h : laidMet Tryd.prog (("loop.example/g00526/impl.opHeads", Rows.laid_loop_example_g00526_impl_opHeads) :: rest) W) : HdO W := by
  obtain ⟨ps, ⟨g', t', cs, fuel, p, q, hg', ht', hvar, hd, _, _⟩, _⟩ := h
  obtain rfl := Option.some.inj ((by kernel_rfl : Tryd.prog.globalNamed "loop.example/g00526/impl.opHeads" = some 0).symm.trans hg')
  obtain rfl := Option.some.inj ((by kernel_rfl : (Tryd.prog.globals[0]?).map (·.type) = some 38).symm.trans ht')
  have e := cells_of_txs (zs := hdO) Tryd.underlying38 Tryd.underlying9 (by kernel_rfl) (by kernel_rfl) hd
  have hc : ∀ (k : Nat) (x : Tk), hdO[k]? = some x → W.cell? ⟨0, k, none⟩ = some (.string (tx x)) := fun k x hx => by
    have h1 := World.var?_cell hg' hvar k
    rw [h1, ← Array.getElem?_toList, e, List.getElem?_map, hx]; rfl
  exact ⟨hc, Lib.lt_of_cell (hc 0 [] rfl)⟩
theorem at_no {s : Tk} (h : ∀ (j : Nat) (y : Tk), hdO[j]? = some y → y ≠ s) : atI wdO s + 1 = 0 := by
  unfold atI
  rw [at?_none fun j y hy => h (j + 1) y hy]; rfl
set_option maxHeartbeats 8000000 in
set_option maxRecDepth 100000 in
theorem kindOfOp_any (s : Tk) (w : World) (hH : HdO w) : Calls Tryd.prog 26 #[.string (tx s)] w fun e w' => e = .returned (.int .i64 (atI wdO s + 1)) ∧ w = w' := by
  have c0 : w.cell? ⟨0, 0, none⟩ = some (.string ⟨#[]⟩) := hH.1 0 [] rfl
  have c1 : w.cell? ⟨0, 1, none⟩ = some (.string ⟨#[112, 117, 115, 104]⟩) := hH.1 1 [112, 117, 115, 104] rfl
  have c2 : w.cell? ⟨0, 2, none⟩ = some (.string ⟨#[103, 105, 118, 101, 110]⟩) := hH.1 2 [103, 105, 118, 101, 110] rfl
  have c3 : w.cell? ⟨0, 3, none⟩ = some (.string ⟨#[108, 111, 97, 100]⟩) := hH.1 3 [108, 111, 97, 100] rfl
  have c4 : w.cell? ⟨0, 4, none⟩ = some (.string ⟨#[100, 111]⟩) := hH.1 4 [100, 111] rfl
  have c5 : w.cell? ⟨0, 5, none⟩ = some (.string ⟨#[115, 101, 116]⟩) := hH.1 5 [115, 101, 116] rfl
  have c6 : w.cell? ⟨0, 6, none⟩ = some (.string ⟨#[99, 117, 116]⟩) := hH.1 6 [99, 117, 116] rfl
  have c7 : w.cell? ⟨0, 7, none⟩ = some (.string ⟨#[103, 111]⟩) := hH.1 7 [103, 111] rfl
  have c8 : w.cell? ⟨0, 8, none⟩ = some (.string ⟨#[117, 110, 108, 101, 115, 115]⟩) := hH.1 8 [117, 110, 108, 101, 115, 115] rfl
  have c9 : w.cell? ⟨0, 9, none⟩ = some (.string ⟨#[116, 105, 99, 107]⟩) := hH.1 9 [116, 105, 99, 107] rfl
  have c10 : w.cell? ⟨0, 10, none⟩ = some (.string ⟨#[115, 116, 111, 112]⟩) := hH.1 10 [115, 116, 111, 112] rfl
  have c11 : w.cell? ⟨0, 11, none⟩ = some (.string ⟨#[101, 110, 100]⟩) := hH.1 11 [101, 110, 100] rfl
  clear hH
  go_enter Tryd.func26, Tryd.ntmps26
  go_wp2_with fail
  clear c0 c1 c2 c3 c4 c5 c6 c7 c8 c9 c10 c11
  go_loop [6] (fun i => ∃ k : Nat, k ≤ 12 ∧ i = .int .i64 k ∧ ∀ (j : Nat) (y : Tk), j < k → hdO[j]? = some y → y ≠ s) (fun i => 12 - (intOf i).toNat)
  case atStart => exact ⟨0, Nat.zero_le _, rfl, fun j y hj => by omega⟩
  case round =>
    obtain ⟨k, hk, rfl, hno⟩ := hrel
    have HO := Lib.hid hno; clear hno
    match k, hk with
    | 0, _ =>
      have ix : ∀ w, (Instr.index 38 (.agg #[.string ⟨#[]⟩, .string ⟨#[112, 117, 115, 104]⟩, .string ⟨#[103, 105, 118, 101, 110]⟩, .string ⟨#[108, 111, 97, 100]⟩, .string ⟨#[100, 111]⟩, .string ⟨#[115, 101, 116]⟩, .string ⟨#[99, 117, 116]⟩, .string ⟨#[103, 111]⟩, .string ⟨#[117, 110, 108, 101, 115, 115]⟩, .string ⟨#[116, 105, 99, 107]⟩, .string ⟨#[115, 116, 111, 112]⟩, .string ⟨#[101, 110, 100]⟩]) (.int .i64 0)).run Tryd.prog w = .ok (.string ⟨#[]⟩) w := fun _ => by kernel_rfl
      by_cases he : [] = s
      · have HE := Lib.hid (show atI wdO s + 1 = 0 by rw [← he]; decide)
        rw [show tx s = ⟨#[]⟩ by rw [← he]; rfl]
        clear he HO
        go_wp2_with fail
        go_ret
        exact ⟨by rw [HE.out]; rfl, rfl⟩
      · have q2 : (tx s).toList.isEmpty = false := by rw [Lib.toList_data, tx_data]; cases s with
        | nil => exact absurd rfl he
        | cons _ _ => rfl
        have HN := Lib.hid (show ∀ (j : Nat) (y : Tk), j < 1 → hdO[j]? = some y → y ≠ s from fun j y hj hy => by
          by_cases e : j = 0
          · subst e
            cases hy; exact he
          · exact HO.out j y (by omega) hy)
        clear he HO
        generalize tx s = x at *
        go_wp2_with fail
        go_round
        case rel => exact ⟨1, by omega, by go_num, HN.out⟩
        case measure => simp [intOf]
    | 1, _ =>
      have ix : ∀ w, (Instr.index 38 (.agg #[.string ⟨#[]⟩, .string ⟨#[112, 117, 115, 104]⟩, .string ⟨#[103, 105, 118, 101, 110]⟩, .string ⟨#[108, 111, 97, 100]⟩, .string ⟨#[100, 111]⟩, .string ⟨#[115, 101, 116]⟩, .string ⟨#[99, 117, 116]⟩, .string ⟨#[103, 111]⟩, .string ⟨#[117, 110, 108, 101, 115, 115]⟩, .string ⟨#[116, 105, 99, 107]⟩, .string ⟨#[115, 116, 111, 112]⟩, .string ⟨#[101, 110, 100]⟩]) (.int .i64 1)).run Tryd.prog w = .ok (.string ⟨#[112, 117, 115, 104]⟩) w := fun _ => by kernel_rfl
      by_cases he : [112, 117, 115, 104] = s
      · have HE := Lib.hid (show atI wdO s + 1 = 1 by rw [← he]; decide)
        rw [show tx s = ⟨#[112, 117, 115, 104]⟩ by rw [← he]; rfl]
        clear he HO
        go_wp2_with fail
        go_ret
        exact ⟨by rw [HE.out]; rfl, rfl⟩
      · have q2 : (([112, 117, 115, 104] : List UInt8) == (tx s).toList) = false := by rw [Lib.toList_data, tx_data]; exact beq_eq_false_iff_ne.2 he
        have HN := Lib.hid (show ∀ (j : Nat) (y : Tk), j < 2 → hdO[j]? = some y → y ≠ s from fun j y hj hy => by
          by_cases e : j = 1
          · subst e
            cases hy; exact he
          · exact HO.out j y (by omega) hy)
        clear he HO
        generalize tx s = x at *
        go_wp2_with fail
        go_round
        case rel => exact ⟨2, by omega, by go_num, HN.out⟩
        case measure => simp [intOf]
    | 2, _ =>
      have ix : ∀ w, (Instr.index 38 (.agg #[.string ⟨#[]⟩, .string ⟨#[112, 117, 115, 104]⟩, .string ⟨#[103, 105, 118, 101, 110]⟩, .string ⟨#[108, 111, 97, 100]⟩, .string ⟨#[100, 111]⟩, .string ⟨#[115, 101, 116]⟩, .string ⟨#[99, 117, 116]⟩, .string ⟨#[103, 111]⟩, .string ⟨#[117, 110, 108, 101, 115, 115]⟩, .string ⟨#[116, 105, 99, 107]⟩, .string ⟨#[115, 116, 111, 112]⟩, .string ⟨#[101, 110, 100]⟩]) (.int .i64 2)).run Tryd.prog w = .ok (.string ⟨#[103, 105, 118, 101, 110]⟩) w := fun _ => by kernel_rfl
      by_cases he : [103, 105, 118, 101, 110] = s
      · have HE := Lib.hid (show atI wdO s + 1 = 2 by rw [← he]; decide)
        rw [show tx s = ⟨#[103, 105, 118, 101, 110]⟩ by rw [← he]; rfl]
        clear he HO
        go_wp2_with fail
        go_ret
        exact ⟨by rw [HE.out]; rfl, rfl⟩
      · have q2 : (([103, 105, 118, 101, 110] : List UInt8) == (tx s).toList) = false := by rw [Lib.toList_data, tx_data]; exact beq_eq_false_iff_ne.2 he
        have HN := Lib.hid (show ∀ (j : Nat) (y : Tk), j < 3 → hdO[j]? = some y → y ≠ s from fun j y hj hy => by
          by_cases e : j = 2
          · subst e
            cases hy; exact he
          · exact HO.out j y (by omega) hy)
        clear he HO
        generalize tx s = x at *
        go_wp2_with fail
        go_round
        case rel => exact ⟨3, by omega, by go_num, HN.out⟩
        case measure => simp [intOf]
    | 3, _ =>
      have ix : ∀ w, (Instr.index 38 (.agg #[.string ⟨#[]⟩, .string ⟨#[112, 117, 115, 104]⟩, .string ⟨#[103, 105, 118, 101, 110]⟩, .string ⟨#[108, 111, 97, 100]⟩, .string ⟨#[100, 111]⟩, .string ⟨#[115, 101, 116]⟩, .string ⟨#[99, 117, 116]⟩, .string ⟨#[103, 111]⟩, .string ⟨#[117, 110, 108, 101, 115, 115]⟩, .string ⟨#[116, 105, 99, 107]⟩, .string ⟨#[115, 116, 111, 112]⟩, .string ⟨#[101, 110, 100]⟩]) (.int .i64 3)).run Tryd.prog w = .ok (.string ⟨#[108, 111, 97, 100]⟩) w := fun _ => by kernel_rfl
      by_cases he : [108, 111, 97, 100] = s
      · have HE := Lib.hid (show atI wdO s + 1 = 3 by rw [← he]; decide)
        rw [show tx s = ⟨#[108, 111, 97, 100]⟩ by rw [← he]; rfl]
        clear he HO
        go_wp2_with fail
        go_ret
        exact ⟨by rw [HE.out]; rfl, rfl⟩
      · have q2 : (([108, 111, 97, 100] : List UInt8) == (tx s).toList) = false := by rw [Lib.toList_data, tx_data]; exact beq_eq_false_iff_ne.2 he
        have HN := Lib.hid (show ∀ (j : Nat) (y : Tk), j < 4 → hdO[j]? = some y → y ≠ s from fun j y hj hy => by
          by_cases e : j = 3
          · subst e
            cases hy; exact he
          · exact HO.out j y (by omega) hy)
        clear he HO
        generalize tx s = x at *
        go_wp2_with fail
        go_round
        case rel => exact ⟨4, by omega, by go_num, HN.out⟩
        case measure => simp [intOf]
    | 4, _ =>
      have ix : ∀ w, (Instr.index 38 (.agg #[.string ⟨#[]⟩, .string ⟨#[112, 117, 115, 104]⟩, .string ⟨#[103, 105, 118, 101, 110]⟩, .string ⟨#[108, 111, 97, 100]⟩, .string ⟨#[100, 111]⟩, .string ⟨#[115, 101, 116]⟩, .string ⟨#[99, 117, 116]⟩, .string ⟨#[103, 111]⟩, .string ⟨#[117, 110, 108, 101, 115, 115]⟩, .string ⟨#[116, 105, 99, 107]⟩, .string ⟨#[115, 116, 111, 112]⟩, .string ⟨#[101, 110, 100]⟩]) (.int .i64 4)).run Tryd.prog w = .ok (.string ⟨#[100, 111]⟩) w := fun _ => by kernel_rfl
      by_cases he : [100, 111] = s
      · have HE := Lib.hid (show atI wdO s + 1 = 4 by rw [← he]; decide)
        rw [show tx s = ⟨#[100, 111]⟩ by rw [← he]; rfl]
        clear he HO
        go_wp2_with fail
        go_ret
        exact ⟨by rw [HE.out]; rfl, rfl⟩
      · have q2 : (([100, 111] : List UInt8) == (tx s).toList) = false := by rw [Lib.toList_data, tx_data]; exact beq_eq_false_iff_ne.2 he
        have HN := Lib.hid (show ∀ (j : Nat) (y : Tk), j < 5 → hdO[j]? = some y → y ≠ s from fun j y hj hy => by
          by_cases e : j = 4
          · subst e
            cases hy; exact he
          · exact HO.out j y (by omega) hy)
        clear he HO
        generalize tx s = x at *
        go_wp2_with fail
        go_round
        case rel => exact ⟨5, by omega, by go_num, HN.out⟩
        case measure => simp [intOf]
    | 5, _ =>
      have ix : ∀ w, (Instr.index 38 (.agg #[.string ⟨#[]⟩, .string ⟨#[112, 117, 115, 104]⟩, .string ⟨#[103, 105, 118, 101, 110]⟩, .string ⟨#[108, 111, 97, 100]⟩, .string ⟨#[100, 111]⟩, .string ⟨#[115, 101, 116]⟩, .string ⟨#[99, 117, 116]⟩, .string ⟨#[103, 111]⟩, .string ⟨#[117, 110, 108, 101, 115, 115]⟩, .string ⟨#[116, 105, 99, 107]⟩, .string ⟨#[115, 116, 111, 112]⟩, .string ⟨#[101, 110, 100]⟩]) (.int .i64 5)).run Tryd.prog w = .ok (.string ⟨#[115, 101, 116]⟩) w := fun _ => by kernel_rfl
      by_cases he : [115, 101, 116] = s
      · have HE := Lib.hid (show atI wdO s + 1 = 5 by rw [← he]; decide)
        rw [show tx s = ⟨#[115, 101, 116]⟩ by rw [← he]; rfl]
        clear he HO
        go_wp2_with fail
        go_ret
        exact ⟨by rw [HE.out]; rfl, rfl⟩
      · have q2 : (([115, 101, 116] : List UInt8) == (tx s).toList) = false := by rw [Lib.toList_data, tx_data]; exact beq_eq_false_iff_ne.2 he
        have HN := Lib.hid (show ∀ (j : Nat) (y : Tk), j < 6 → hdO[j]? = some y → y ≠ s from fun j y hj hy => by
          by_cases e : j = 5
          · subst e
            cases hy; exact he
          · exact HO.out j y (by omega) hy)
        clear he HO
        generalize tx s = x at *
        go_wp2_with fail
        go_round
        case rel => exact ⟨6, by omega, by go_num, HN.out⟩
        case measure => simp [intOf]
    | 6, _ =>
      have ix : ∀ w, (Instr.index 38 (.agg #[.string ⟨#[]⟩, .string ⟨#[112, 117, 115, 104]⟩, .string ⟨#[103, 105, 118, 101, 110]⟩, .string ⟨#[108, 111, 97, 100]⟩, .string ⟨#[100, 111]⟩, .string ⟨#[115, 101, 116]⟩, .string ⟨#[99, 117, 116]⟩, .string ⟨#[103, 111]⟩, .string ⟨#[117, 110, 108, 101, 115, 115]⟩, .string ⟨#[116, 105, 99, 107]⟩, .string ⟨#[115, 116, 111, 112]⟩, .string ⟨#[101, 110, 100]⟩]) (.int .i64 6)).run Tryd.prog w = .ok (.string ⟨#[99, 117, 116]⟩) w := fun _ => by kernel_rfl
      by_cases he : [99, 117, 116] = s
      · have HE := Lib.hid (show atI wdO s + 1 = 6 by rw [← he]; decide)
        rw [show tx s = ⟨#[99, 117, 116]⟩ by rw [← he]; rfl]
        clear he HO
        go_wp2_with fail
        go_ret
        exact ⟨by rw [HE.out]; rfl, rfl⟩
      · have q2 : (([99, 117, 116] : List UInt8) == (tx s).toList) = false := by rw [Lib.toList_data, tx_data]; exact beq_eq_false_iff_ne.2 he
        have HN := Lib.hid (show ∀ (j : Nat) (y : Tk), j < 7 → hdO[j]? = some y → y ≠ s from fun j y hj hy => by
          by_cases e : j = 6
          · subst e
            cases hy; exact he
          · exact HO.out j y (by omega) hy)
        clear he HO
        generalize tx s = x at *
        go_wp2_with fail
        go_round
        case rel => exact ⟨7, by omega, by go_num, HN.out⟩
        case measure => simp [intOf]
    | 7, _ =>
      have ix : ∀ w, (Instr.index 38 (.agg #[.string ⟨#[]⟩, .string ⟨#[112, 117, 115, 104]⟩, .string ⟨#[103, 105, 118, 101, 110]⟩, .string ⟨#[108, 111, 97, 100]⟩, .string ⟨#[100, 111]⟩, .string ⟨#[115, 101, 116]⟩, .string ⟨#[99, 117, 116]⟩, .string ⟨#[103, 111]⟩, .string ⟨#[117, 110, 108, 101, 115, 115]⟩, .string ⟨#[116, 105, 99, 107]⟩, .string ⟨#[115, 116, 111, 112]⟩, .string ⟨#[101, 110, 100]⟩]) (.int .i64 7)).run Tryd.prog w = .ok (.string ⟨#[103, 111]⟩) w := fun _ => by kernel_rfl
      by_cases he : [103, 111] = s
      · have HE := Lib.hid (show atI wdO s + 1 = 7 by rw [← he]; decide)
        rw [show tx s = ⟨#[103, 111]⟩ by rw [← he]; rfl]
        clear he HO
        go_wp2_with fail
        go_ret
        exact ⟨by rw [HE.out]; rfl, rfl⟩
      · have q2 : (([103, 111] : List UInt8) == (tx s).toList) = false := by rw [Lib.toList_data, tx_data]; exact beq_eq_false_iff_ne.2 he
        have HN := Lib.hid (show ∀ (j : Nat) (y : Tk), j < 8 → hdO[j]? = some y → y ≠ s from fun j y hj hy => by
          by_cases e : j = 7
          · subst e
            cases hy; exact he
          · exact HO.out j y (by omega) hy)
        clear he HO
        generalize tx s = x at *
        go_wp2_with fail
        go_round
        case rel => exact ⟨8, by omega, by go_num, HN.out⟩
        case measure => simp [intOf]
    | 8, _ =>
      have ix : ∀ w, (Instr.index 38 (.agg #[.string ⟨#[]⟩, .string ⟨#[112, 117, 115, 104]⟩, .string ⟨#[103, 105, 118, 101, 110]⟩, .string ⟨#[108, 111, 97, 100]⟩, .string ⟨#[100, 111]⟩, .string ⟨#[115, 101, 116]⟩, .string ⟨#[99, 117, 116]⟩, .string ⟨#[103, 111]⟩, .string ⟨#[117, 110, 108, 101, 115, 115]⟩, .string ⟨#[116, 105, 99, 107]⟩, .string ⟨#[115, 116, 111, 112]⟩, .string ⟨#[101, 110, 100]⟩]) (.int .i64 8)).run Tryd.prog w = .ok (.string ⟨#[117, 110, 108, 101, 115, 115]⟩) w := fun _ => by kernel_rfl
      by_cases he : [117, 110, 108, 101, 115, 115] = s
      · have HE := Lib.hid (show atI wdO s + 1 = 8 by rw [← he]; decide)
        rw [show tx s = ⟨#[117, 110, 108, 101, 115, 115]⟩ by rw [← he]; rfl]
        clear he HO
        go_wp2_with fail
        go_ret
        exact ⟨by rw [HE.out]; rfl, rfl⟩
      · have q2 : (([117, 110, 108, 101, 115, 115] : List UInt8) == (tx s).toList) = false := by rw [Lib.toList_data, tx_data]; exact beq_eq_false_iff_ne.2 he
        have HN := Lib.hid (show ∀ (j : Nat) (y : Tk), j < 9 → hdO[j]? = some y → y ≠ s from fun j y hj hy => by
          by_cases e : j = 8
          · subst e
            cases hy; exact he
          · exact HO.out j y (by omega) hy)
        clear he HO
        generalize tx s = x at *
        go_wp2_with fail
        go_round
        case rel => exact ⟨9, by omega, by go_num, HN.out⟩
        case measure => simp [intOf]
    | 9, _ =>
      have ix : ∀ w, (Instr.index 38 (.agg #[.string ⟨#[]⟩, .string ⟨#[112, 117, 115, 104]⟩, .string ⟨#[103, 105, 118, 101, 110]⟩, .string ⟨#[108, 111, 97, 100]⟩, .string ⟨#[100, 111]⟩, .string ⟨#[115, 101, 116]⟩, .string ⟨#[99, 117, 116]⟩, .string ⟨#[103, 111]⟩, .string ⟨#[117, 110, 108, 101, 115, 115]⟩, .string ⟨#[116, 105, 99, 107]⟩, .string ⟨#[115, 116, 111, 112]⟩, .string ⟨#[101, 110, 100]⟩]) (.int .i64 9)).run Tryd.prog w = .ok (.string ⟨#[116, 105, 99, 107]⟩) w := fun _ => by kernel_rfl
      by_cases he : [116, 105, 99, 107] = s
      · have HE := Lib.hid (show atI wdO s + 1 = 9 by rw [← he]; decide)
        rw [show tx s = ⟨#[116, 105, 99, 107]⟩ by rw [← he]; rfl]
        clear he HO
        go_wp2_with fail
        go_ret
        exact ⟨by rw [HE.out]; rfl, rfl⟩
      · have q2 : (([116, 105, 99, 107] : List UInt8) == (tx s).toList) = false := by rw [Lib.toList_data, tx_data]; exact beq_eq_false_iff_ne.2 he
        have HN := Lib.hid (show ∀ (j : Nat) (y : Tk), j < 10 → hdO[j]? = some y → y ≠ s from fun j y hj hy => by
          by_cases e : j = 9
          · subst e
            cases hy; exact he
          · exact HO.out j y (by omega) hy)
        clear he HO
        generalize tx s = x at *
        go_wp2_with fail
        go_round
        case rel => exact ⟨10, by omega, by go_num, HN.out⟩
        case measure => simp [intOf]
    | 10, _ =>
      have ix : ∀ w, (Instr.index 38 (.agg #[.string ⟨#[]⟩, .string ⟨#[112, 117, 115, 104]⟩, .string ⟨#[103, 105, 118, 101, 110]⟩, .string ⟨#[108, 111, 97, 100]⟩, .string ⟨#[100, 111]⟩, .string ⟨#[115, 101, 116]⟩, .string ⟨#[99, 117, 116]⟩, .string ⟨#[103, 111]⟩, .string ⟨#[117, 110, 108, 101, 115, 115]⟩, .string ⟨#[116, 105, 99, 107]⟩, .string ⟨#[115, 116, 111, 112]⟩, .string ⟨#[101, 110, 100]⟩]) (.int .i64 10)).run Tryd.prog w = .ok (.string ⟨#[115, 116, 111, 112]⟩) w := fun _ => by kernel_rfl
      by_cases he : [115, 116, 111, 112] = s
      · have HE := Lib.hid (show atI wdO s + 1 = 10 by rw [← he]; decide)
        rw [show tx s = ⟨#[115, 116, 111, 112]⟩ by rw [← he]; rfl]
        clear he HO
        go_wp2_with fail
        go_ret
        exact ⟨by rw [HE.out]; rfl, rfl⟩
      · have q2 : (([115, 116, 111, 112] : List UInt8) == (tx s).toList) = false := by rw [Lib.toList_data, tx_data]; exact beq_eq_false_iff_ne.2 he
        have HN := Lib.hid (show ∀ (j : Nat) (y : Tk), j < 11 → hdO[j]? = some y → y ≠ s from fun j y hj hy => by
          by_cases e : j = 10
          · subst e
            cases hy; exact he
          · exact HO.out j y (by omega) hy)
        clear he HO
        generalize tx s = x at *
        go_wp2_with fail
        go_round
        case rel => exact ⟨11, by omega, by go_num, HN.out⟩
        case measure => simp [intOf]
    | 11, _ =>
      have ix : ∀ w, (Instr.index 38 (.agg #[.string ⟨#[]⟩, .string ⟨#[112, 117, 115, 104]⟩, .string ⟨#[103, 105, 118, 101, 110]⟩, .string ⟨#[108, 111, 97, 100]⟩, .string ⟨#[100, 111]⟩, .string ⟨#[115, 101, 116]⟩, .string ⟨#[99, 117, 116]⟩, .string ⟨#[103, 111]⟩, .string ⟨#[117, 110, 108, 101, 115, 115]⟩, .string ⟨#[116, 105, 99, 107]⟩, .string ⟨#[115, 116, 111, 112]⟩, .string ⟨#[101, 110, 100]⟩]) (.int .i64 11)).run Tryd.prog w = .ok (.string ⟨#[101, 110, 100]⟩) w := fun _ => by kernel_rfl
      by_cases he : [101, 110, 100] = s
      · have HE := Lib.hid (show atI wdO s + 1 = 11 by rw [← he]; decide)
        rw [show tx s = ⟨#[101, 110, 100]⟩ by rw [← he]; rfl]
        clear he HO
        go_wp2_with fail
        go_ret
        exact ⟨by rw [HE.out]; rfl, rfl⟩
      · have q2 : (([101, 110, 100] : List UInt8) == (tx s).toList) = false := by rw [Lib.toList_data, tx_data]; exact beq_eq_false_iff_ne.2 he
        have HN := Lib.hid (show ∀ (j : Nat) (y : Tk), j < 12 → hdO[j]? = some y → y ≠ s from fun j y hj hy => by
          by_cases e : j = 11
          · subst e
            cases hy; exact he
          · exact HO.out j y (by omega) hy)
        clear he HO
        generalize tx s = x at *
        go_wp2_with fail
        go_round
        case rel => exact ⟨12, by omega, by go_num, HN.out⟩
        case measure => simp [intOf]
    | 12, _ =>
      have HE := Lib.hid (at_no (s := s) fun j y hy => HO.out j y (by have := (List.getElem?_eq_some_iff.1 hy).1; exact this) hy)
      go_wp2_with fail
      go_ret
      exact ⟨by rw [HE.out]; rfl, rfl⟩
    | (m + 13), h => exact absurd h (by omega)
theorem odK_of {k : Int} (h : k = 1 ∨ k = 2 ∨ k = 4 ∨ k = 7 ∨ k = 8) : odK k = 1 := by rcases h with rfl | rfl | rfl | rfl | rfl <;> decide
theorem odK_x {k : Int} (h : k < 1 ∨ 8 < k) : odK k = 0 := by
  unfold odK isNu isNm
  simp only [decide_eq_false (by omega : ¬ k = 3), decide_eq_false (by omega : ¬ k = 5), decide_eq_false (by omega : ¬ k = 6)]
  rcases h with h | h
  · rw [decide_eq_false (by omega : ¬ 1 ≤ k)]; simp
  · rw [decide_eq_false (by omega : ¬ k ≤ 8)]; simp
theorem operandOf_any (k : Int) (w : World) : Calls Tryd.prog 19 #[.int .i64 k] w fun e w' => e = .returned (.int .i64 (odK k)) ∧ w = w' := by
  by_cases hk : k < 1 ∨ 8 < k
  · rw [odK_x hk]; exact operandOf_x k hk w
  · have : k = 1 ∨ k = 2 ∨ k = 3 ∨ k = 4 ∨ k = 5 ∨ k = 6 ∨ k = 7 ∨ k = 8 := by omega
    rcases this with rfl | rfl | rfl | rfl | rfl | rfl | rfl | rfl
    · exact operandOf_1 w
    · exact operandOf_2 w
    · exact operandOf_3 w
    · exact operandOf_4 w
    · exact operandOf_5 w
    · exact operandOf_6 w
    · exact operandOf_7 w
    · exact operandOf_8 w
/-- What an instruction that OpOk takes is made of. -/
theorem op_kind {k n : Int} {m : Tk} (h : opB ⟨k, n, m⟩ = true) : (1 ≤ k ∧ k ≤ 11) ∧ ((odK k = 1 ∧ isNu k = true ∧ isNm k = false ∧ -9223372036854775808 ≤ n ∧ n ≤ 9223372036854775807 ∧ m = []) ∨ (odK k = 2 ∧ isNu k = false ∧ isNm k = true ∧ n = 0 ∧ nmB m = true) ∨ (odK k = 0 ∧ isNu k = false ∧ isNm k = false ∧ n = 0 ∧ m = [])) := by
  unfold opB at h
  dsimp only at h
  split at h
  · rename_i e; subst e
    rw [Bool.and_eq_true] at h
    have := (isW_iff n).1 h.1
    exact ⟨by decide, Or.inl ⟨by decide, by decide, by decide, by omega, by omega, mt_of h.2⟩⟩
  · split at h
    · rename_i e; subst e
      rw [Bool.and_eq_true, inB_11] at h
      exact ⟨by decide, Or.inl ⟨by decide, by decide, by decide, by omega, by omega, mt_of h.2⟩⟩
    · split at h
      · rename_i e
        rw [Bool.and_eq_true, decide_eq_true_eq] at h
        obtain ⟨h1, rfl⟩ := h
        unfold isNm at e
        rw [Bool.or_eq_true, Bool.or_eq_true, decide_eq_true_eq, decide_eq_true_eq, decide_eq_true_eq] at e
        rcases e with rfl | rfl | rfl <;> exact ⟨by decide, Or.inr (Or.inl ⟨by decide, by decide, by decide, rfl, h1⟩)⟩
      · split at h
        · rename_i e; subst e
          rw [Bool.and_eq_true, inB_11] at h
          exact ⟨by decide, Or.inl ⟨by decide, by decide, by decide, by omega, by omega, mt_of h.2⟩⟩
        · split at h
          · rename_i e
            rw [Bool.and_eq_true, inB_11] at h
            rcases e with rfl | rfl <;> exact ⟨by decide, Or.inl ⟨by decide, by decide, by decide, by omega, by omega, mt_of h.2⟩⟩
          · rw [Bool.and_eq_true, Bool.and_eq_true, inB_11, decide_eq_true_eq] at h
            obtain ⟨h1, rfl, h2⟩ := h
            have : k = 9 ∨ k = 10 ∨ k = 11 := by omega
            rcases this with rfl | rfl | rfl <;> exact ⟨by decide, Or.inr (Or.inr ⟨by decide, by decide, by decide, rfl, mt_of h2⟩)⟩
/-- The head of a kind. -/
theorem wd_at {k : Int} (h : 1 ≤ k ∧ k ≤ 11) : ∃ (j : Nat) (c : Tk), k = (j : Int) + 1 ∧ j < 11 ∧ wdO[j]? = some c ∧ hdO[j + 1]? = some c ∧ wdO.getD (k - 1).toNat [] = c := by
  obtain ⟨j, rfl⟩ : ∃ j : Nat, k = (j : Int) + 1 := ⟨(k - 1).toNat, by omega⟩
  have hj : j < 11 := by omega
  have hl : wdO.length = 11 := rfl
  refine ⟨j, wdO[j]'(by omega), rfl, hj, List.getElem?_eq_getElem _, ?_, ?_⟩
  · show (([] : Tk) :: wdO)[j + 1]? = _
    rw [List.getElem?_cons_succ]; exact List.getElem?_eq_getElem _
  · rw [show ((j : Int) + 1 - 1).toNat = j by omega, List.getD_eq_getElem?_getD, List.getElem?_eq_getElem (by omega : j < wdO.length)]; rfl
theorem sh_num {k n : Int} {m c : Tk} (h : opB ⟨k, n, m⟩ = true) (hc : wdO.getD (k - 1).toNat [] = c) (hu : isNu k = true) : (tx c ++ (⟨#[32]⟩ : ByteArray)) ++ tx (Lib.itoa n) = tx (shO ⟨k, n, m⟩) := by
  rw [shO_yes h]
  unfold odO
  dsimp only
  rw [hc, if_pos hu]
  apply tx_eq
  simp only [Joins.data_append, tx_data]
  simp
theorem sh_nam {k n : Int} {m c : Tk} (h : opB ⟨k, n, m⟩ = true) (hc : wdO.getD (k - 1).toNat [] = c) (hu : isNu k = false) (hm : isNm k = true) : (tx c ++ (⟨#[32]⟩ : ByteArray)) ++ tx m = tx (shO ⟨k, n, m⟩) := by
  rw [shO_yes h]
  unfold odO
  dsimp only
  rw [hc, hu, hm]
  apply tx_eq
  simp only [Joins.data_append, tx_data]
  simp
theorem sh_non {k n : Int} {m c : Tk} (h : opB ⟨k, n, m⟩ = true) (hc : wdO.getD (k - 1).toNat [] = c) (hu : isNu k = false) (hm : isNm k = false) : tx c = tx (shO ⟨k, n, m⟩) := by
  rw [shO_yes h]
  unfold odO
  dsimp only
  rw [hc, hu, hm]
  simp
theorem wd_size {j : Nat} {c : Tk} (h : wdO[j]? = some c) : (tx c).size ≤ 6 := by
  rw [tx_size]
  have := wd_len j
  rw [List.getD_eq_getElem?_getD, h] at this
  exact this
set_option maxHeartbeats 8000000 in
set_option maxRecDepth 100000 in
theorem implShowOp_any (k n : Int) (m : Tk) (w : World) (hm : m.length ≤ 9223372036854775806) (hT : LibT w) (hH : HdO w) :
    Calls Tryd.prog 8 #[.agg #[.int .i64 k, .int .i64 n, .string (tx m)]] w fun e w' => e = .returned (.string (tx (shO ⟨k, n, m⟩))) ∧ Below w.heap.size w w' := by
  have HT := Lib.hid hT; clear hT
  have HH := Lib.hid hH; clear hH
  have HQ := Lib.hid (Q3.made k n m w 25)
  have HB := Lib.hid (bel1 w (.cells #[.int .i64 k, .int .i64 n, .string (tx m)] 25))
  cases ho : opB ⟨k, n, m⟩
  · have HK := Lib.hid (shO_no ho)
    have HC := Lib.hid (fun w => implOp_any k n m w hm)
    rw [ho] at HC; clear ho
    go_enter Tryd.func8, Tryd.ntmps8
    go_wp2_with fail
    refine (HC.out _).mono ?_; rintro e w2 ⟨rfl, b2⟩
    have B2 := Lib.hid (bel_tr HB.out b2 (Nat.le_refl _)); clear b2
    go_wp2_with fail
    go_ret
    exact ⟨by rw [HK.out]; rfl, B2.out⟩
  · have HC := Lib.hid (fun w => implOp_any k n m w hm)
    rw [ho] at HC
    obtain ⟨hk, hw⟩ := op_kind ho
    obtain ⟨j, c, rfl, hj, hc, hc', hg⟩ := wd_at hk
    have hsz := wd_size hc
    have hd2 := fun {w} (h : HdO w) => h.1 _ _ hc'
    have HP := Lib.hid (fun w => operandOf_any ((j : Int) + 1) w)
    clear hc hc' hk
    rcases hw with ⟨hod, hu, hn, n0, n1, -⟩ | ⟨hod, hu, hn, -, hnm⟩ | ⟨hod, hu, hn, -, -⟩
    · have HE := Lib.hid (sh_num ho hg hu)
      rw [hod] at HP
      clear ho hg hod hu hn
      have hz2 := itoa_size n n0 n1
      have hcut := fun {w} (h : HdO w) => hd2 h
      generalize tx (shO ⟨(j : Int) + 1, n, m⟩) = S at *
      generalize tx c = C at *
      go_enter Tryd.func8, Tryd.ntmps8
      go_wp2_with fail
      refine (HC.out _).mono ?_; rintro e w2 ⟨rfl, b2⟩
      have B2 := Lib.hid (bel_tr HB.out b2 (Nat.le_refl _))
      have Q2 := Lib.hid (HQ.out.next b2); clear b2
      have hcc : w2.cell? ⟨0, j + 1, none⟩ = some (.string C) := hd2 (HH.out.next B2.out)
      obtain ⟨x0, x1, x2, -, -, -, -⟩ := id Q2.out
      go_wp2_with fail
      refine (HP.out _).mono ?_; rintro e w3 ⟨rfl, rfl⟩
      go_wp2_with fail
      refine (fmt_is n n0 n1 _ (HT.out.next B2.out)).mono ?_; rintro e w3 ⟨rfl, b3⟩
      have B3 := Lib.hid (bel_tr B2.out b3 (Nat.le_refl _)); clear b3
      go_wp2_with fail
      go_ret
      exact ⟨by rw [← HE.out]; rfl, B3.out⟩
    · have HE := Lib.hid (sh_nam ho hg hu hn)
      rw [hod] at HP
      clear ho hg hod hu hn
      have hz2 : (tx m).size ≤ 8 := by rw [tx_size]; have := nm_len hnm; omega
      clear hnm
      have hcut := fun {w} (h : HdO w) => hd2 h
      generalize tx (shO ⟨(j : Int) + 1, n, m⟩) = S at *
      generalize tx c = C at *
      go_enter Tryd.func8, Tryd.ntmps8
      go_wp2_with fail
      refine (HC.out _).mono ?_; rintro e w2 ⟨rfl, b2⟩
      have B2 := Lib.hid (bel_tr HB.out b2 (Nat.le_refl _))
      have Q2 := Lib.hid (HQ.out.next b2); clear b2
      have hcc : w2.cell? ⟨0, j + 1, none⟩ = some (.string C) := hd2 (HH.out.next B2.out)
      obtain ⟨x0, x1, x2, -, -, -, -⟩ := id Q2.out
      go_wp2_with fail
      refine (HP.out _).mono ?_; rintro e w3 ⟨rfl, rfl⟩
      go_wp2_with fail
      go_ret
      exact ⟨by rw [← HE.out]; rfl, B2.out⟩
    · have HE := Lib.hid (sh_non ho hg hu hn)
      rw [hod] at HP
      clear ho hg hod hu hn
      have hcut := fun {w} (h : HdO w) => hd2 h
      generalize tx (shO ⟨(j : Int) + 1, n, m⟩) = S at *
      generalize tx c = C at *
      go_enter Tryd.func8, Tryd.ntmps8
      go_wp2_with fail
      refine (HC.out _).mono ?_; rintro e w2 ⟨rfl, b2⟩
      have B2 := Lib.hid (bel_tr HB.out b2 (Nat.le_refl _))
      have Q2 := Lib.hid (HQ.out.next b2); clear b2
      have hcc : w2.cell? ⟨0, j + 1, none⟩ = some (.string C) := hd2 (HH.out.next B2.out)
      obtain ⟨x0, x1, x2, -, -, -, -⟩ := id Q2.out
      go_wp2_with fail
      refine (HP.out _).mono ?_; rintro e w3 ⟨rfl, rfl⟩
      go_wp2_with fail
      go_ret
      exact ⟨by rw [← HE.out]; rfl, B2.out⟩
theorem belD (w : World) : Below w.heap.size w w.drew := Below.drew (Below.refl _ _)
theorem l11Words_any (w : World) : Calls Tryd.prog 30 #[] w fun e w' => ∃ b, e = .returned (.slice (some ⟨b, 0, none⟩) 11 11) ∧ w.heap.size ≤ b ∧ V1 w' (some ⟨b, 0, none⟩) 11 (txL wdO) ∧ (∀ (i : Nat) (c : Tk), wdO[i]? = some c → w'.cell? ⟨b, i, none⟩ = some (.string (tx c))) ∧ Below w.heap.size w w' := by
  have HV := Lib.hid (litT (B := 0) w wdO (by decide))
  have HB := Lib.hid (bel1 w (.cells (wdO.map tv).toArray 9))
  have HC := Lib.hid (show ∀ (i : Nat) (c : Tk), wdO[i]? = some c → (w.alloc (.cells (wdO.map tv).toArray 9)).cell? ⟨w.heap.size, i, none⟩ = some (.string (tx c)) from fun i c hc => by
    obtain ⟨g, o, e, -, h⟩ := HV.out.tx hc
    cases e
    simpa using h)
  go_enter Tryd.func30, Tryd.ntmps30
  go_wp2_with fail
  go_ret
  exact ⟨_, rfl, Nat.le_refl _, HV.out, HC.out, HB.out⟩
theorem l11Tells_any (k : Int) (w : World) : Calls Tryd.prog 31 #[.int .i64 k] w fun e w' => e = .returned (.tuple #[.bool (isNu k), .bool (isNm k)]) ∧ w = w' := by
  by_cases h3 : k = 3
  · subst h3
    go_enter Tryd.func31, Tryd.ntmps31
    go_wp2_with fail
    refine bodyPost_ret (v := .tuple #[.bool false, .bool true]) (by simp [results, Tryd.results31, go_sem]) rfl ⟨rfl, rfl⟩
  by_cases h5 : k = 5
  · subst h5
    go_enter Tryd.func31, Tryd.ntmps31
    go_wp2_with fail
    refine bodyPost_ret (v := .tuple #[.bool false, .bool true]) (by simp [results, Tryd.results31, go_sem]) rfl ⟨rfl, rfl⟩
  by_cases h6 : k = 6
  · subst h6
    go_enter Tryd.func31, Tryd.ntmps31
    go_wp2_with fail
    refine bodyPost_ret (v := .tuple #[.bool false, .bool true]) (by simp [results, Tryd.results31, go_sem]) rfl ⟨rfl, rfl⟩
  have HE := Lib.hid (show isNm k = false by unfold isNm; rw [decide_eq_false h3, decide_eq_false h5, decide_eq_false h6]; rfl)
  have HU := Lib.hid (show isNu k = decide (k ≤ 8) by unfold isNu; rw [HE.out]; rfl)
  have q3 : (k == 3) = false := beq_eq_false_iff_ne.2 h3
  have q5 : (k == 5) = false := beq_eq_false_iff_ne.2 h5
  have q6 : (k == 6) = false := beq_eq_false_iff_ne.2 h6
  clear h3 h5 h6
  rw [HE.out, HU.out]
  clear HE HU
  by_cases h8 : k ≤ 8
  · rw [decide_eq_true h8]
    go_enter Tryd.func31, Tryd.ntmps31
    go_wp2_with fail
    refine bodyPost_ret (v := .tuple #[.bool true, .bool false]) (by simp [results, Tryd.results31, go_sem]) rfl ⟨rfl, rfl⟩
  · rw [decide_eq_false h8]
    go_enter Tryd.func31, Tryd.ntmps31
    go_wp2_with fail
    refine bodyPost_ret (v := .tuple #[.bool false, .bool false]) (by simp [results, Tryd.results31, go_sem]) rfl ⟨rfl, rfl⟩
set_option maxHeartbeats 8000000 in
set_option maxRecDepth 100000 in
theorem specShowOp_any (k n : Int) (m : Tk) (w : World) (hm : m.length ≤ 9223372036854775806) :
    Calls Tryd.prog 12 #[.agg #[.int .i64 k, .int .i64 n, .string (tx m)]] w fun e w' => e = .returned (.string (tx (shO ⟨k, n, m⟩))) ∧ Below w.heap.size w w' := by
  have HQ := Lib.hid (Q3.made k n m w 25)
  have HB := Lib.hid (bel1 w (.cells #[.int .i64 k, .int .i64 n, .string (tx m)] 25))
  cases ho : opB ⟨k, n, m⟩
  · have HK := Lib.hid (shO_no ho)
    have HC := Lib.hid (fun w => specOp_any k n m w hm)
    rw [ho] at HC; clear ho
    go_enter Tryd.func12, Tryd.ntmps12
    go_wp2_with fail
    refine (HC.out _).mono ?_; rintro e w2 ⟨rfl, b2⟩
    have B2 := Lib.hid (bel_tr HB.out b2 (Nat.le_refl _)); clear b2
    go_wp2_with fail
    go_ret
    exact ⟨by rw [HK.out]; rfl, B2.out⟩
  · have HC := Lib.hid (fun w => specOp_any k n m w hm)
    rw [ho] at HC
    obtain ⟨hk, hw⟩ := op_kind ho
    obtain ⟨j, c, rfl, hj, hc, -, hg⟩ := wd_at hk
    have hsz := wd_size hc
    have HT := Lib.hid (fun w => l11Tells_any ((j : Int) + 1) w)
    have hj2 : ((j : Int) + 1 - 1) = (j : Int) := by omega
    have hwj : IntKind.i64.wrap (j : Int) = (j : Int) := by rw [IntKind.wrap_i64]; omega
    have hj3 : (0 : Int) ≤ (j : Int) := by omega
    have hj4 : (j : Int) < 11 := by omega
    clear hk
    rcases hw with ⟨hod, hu, hn, n0, n1, -⟩ | ⟨hod, hu, hn, -, hnm⟩ | ⟨hod, hu, hn, -, -⟩
    · have HE := Lib.hid (sh_num ho hg hu)
      rw [hu, hn] at HT
      clear ho hg hod hu hn
      have hz2 := itoa_size n n0 n1
      generalize tx (shO ⟨(j : Int) + 1, n, m⟩) = S at *
      go_enter Tryd.func12, Tryd.ntmps12
      go_wp2_with fail
      refine (HC.out _).mono ?_; rintro e w2 ⟨rfl, b2⟩
      have B2 := Lib.hid (bel_tr HB.out b2 (Nat.le_refl _))
      have Q2 := Lib.hid (HQ.out.next b2); clear b2
      have B2 := Lib.hid (bel_tr B2.out (belD w2) (Nat.le_refl _))
      have Q2d := Lib.hid (Q2.out.next (belD w2))
      go_wp2_with fail
      refine wp_region_held_drew (S := fun z => Q3 w.heap.size ((j : Int) + 1) n m z) (by kernel_rfl) Q2d.out (fun hHeld => ?_)
      refine wpAnyH_take (i := 1) (v := ?v1snum) rfl (by kernel_rfl) (by kernel_rfl) (by kernel_rfl) (fun _ _ _ h => h) (Or.inl ⟨by rfl, ?hy1snum⟩) (by assumption) ?rest1snum
      case hy1snum => (intro zz hSw; (try dsimp only at hSw); go_simp; (try with_reducible rfl))
      change wpAnyH _ _ _ _ _ _ _ (Act.put _ (some 10) _) _
      simp only [Act.put, List.setIfInBounds_toArray, List.set_cons_zero, List.set_cons_succ]
      refine wpAnyH_take (i := 2) (v := ?v2snum) rfl (by kernel_rfl) (by kernel_rfl) (by kernel_rfl) (fun _ _ _ h => h) (Or.inl ⟨by rfl, ?hy2snum⟩) (by assumption) ?rest2snum
      case hy2snum => (intro zz hSw; (try dsimp only at hSw); obtain ⟨x0, -, -, -, -, -, -⟩ := hSw; go_simp; (try with_reducible rfl))
      change wpAnyH _ _ _ _ _ _ _ (Act.put _ (some 11) _) _
      simp only [Act.put, List.setIfInBounds_toArray, List.set_cons_zero, List.set_cons_succ]
      refine wpAnyH_take (i := 3) (v := ?v3snum) rfl (by kernel_rfl) (by kernel_rfl) (by kernel_rfl) (fun _ _ _ h => h) (Or.inl ⟨by rfl, ?hy3snum⟩) (by assumption) ?rest3snum
      case hy3snum => (intro zz hSw; (try dsimp only at hSw); go_simp; (try with_reducible rfl))
      change wpAnyH _ _ _ _ _ _ _ (Act.put _ (some 12) _) _
      simp only [Act.put, List.setIfInBounds_toArray, List.set_cons_zero, List.set_cons_succ]
      refine wpAnyH_ready (rs := [0]) (by kernel_rfl) (by simp) (AllReadyH.cons rfl (fun K hK => ?_) (AllReadyH.nil))
      go_simp
      refine (l11Words_any _).mono ?_; rintro e w3 ⟨b, rfl, hb3, -, hcs, b3⟩
      have B3 := Lib.hid (bel_tr B2.out b3 (Nat.le_refl _))
      have Q3' := Lib.hid (Q2d.out.next b3); clear b3
      have cc := hcs _ _ hc
      clear hcs
      refine hK.out _ _ Q3'.out (fun hHeld => ?_)
      clear hK K
      refine wpAnyH_take (i := 4) (v := ?v4snum) rfl (by kernel_rfl) (by kernel_rfl) (by kernel_rfl) (fun _ _ _ h => h) (Or.inl ⟨by rfl, ?hy4snum⟩) (by assumption) ?rest4snum
      case hy4snum => (intro zz hSw; (try dsimp only at hSw); go_simp; (try with_reducible rfl))
      change wpAnyH _ _ _ _ _ _ _ (Act.put _ (some 13) _) _
      simp only [Act.put, List.setIfInBounds_toArray, List.set_cons_zero, List.set_cons_succ]
      refine wpAnyH_ready (rs := [5]) (by kernel_rfl) (by simp) (AllReadyH.cons rfl (fun K hK => ?_) (AllReadyH.nil))
      go_simp
      refine hK.out _ _ hHeld (fun hHeld => ?_)
      clear hK K
      refine wpAnyH_take (i := 6) (v := ?v6snum) rfl (by kernel_rfl) (by kernel_rfl) (by kernel_rfl) (fun _ _ _ h => h) (Or.inl ⟨by rfl, ?hy6snum⟩) (by assumption) ?rest6snum
      case hy6snum => (intro zz hSw; (try dsimp only at hSw); go_simp; (try with_reducible rfl))
      change wpAnyH _ _ _ _ _ _ _ (Act.put _ (some 3) _) _
      simp only [Act.put, List.setIfInBounds_toArray, List.set_cons_zero, List.set_cons_succ]
      refine wpAnyH_done (by kernel_rfl) ?_ _
      generalize tx c = C at *
      obtain ⟨x0, x1, x2, -, -, -, -⟩ := id hHeld
      go_wp2_with fail
      refine (HT.out _).mono ?_; rintro e w4 ⟨rfl, rfl⟩
      go_wp2_with fail
      refine (l1Int_is n n0 n1 _).mono ?_; rintro e w5 ⟨rfl, b5⟩
      have B5 := Lib.hid (bel_tr B3.out b5 (Nat.le_refl _)); clear b5
      go_wp2_with fail
      go_ret
      exact ⟨by rw [← HE.out]; rfl, B5.out⟩
    · have HE := Lib.hid (sh_nam ho hg hu hn)
      rw [hu, hn] at HT
      clear ho hg hod hu hn
      have hz2 : (tx m).size ≤ 8 := by rw [tx_size]; have := nm_len hnm; omega
      clear hnm
      generalize tx (shO ⟨(j : Int) + 1, n, m⟩) = S at *
      go_enter Tryd.func12, Tryd.ntmps12
      go_wp2_with fail
      refine (HC.out _).mono ?_; rintro e w2 ⟨rfl, b2⟩
      have B2 := Lib.hid (bel_tr HB.out b2 (Nat.le_refl _))
      have Q2 := Lib.hid (HQ.out.next b2); clear b2
      have B2 := Lib.hid (bel_tr B2.out (belD w2) (Nat.le_refl _))
      have Q2d := Lib.hid (Q2.out.next (belD w2))
      go_wp2_with fail
      refine wp_region_held_drew (S := fun z => Q3 w.heap.size ((j : Int) + 1) n m z) (by kernel_rfl) Q2d.out (fun hHeld => ?_)
      refine wpAnyH_take (i := 1) (v := ?v1snam) rfl (by kernel_rfl) (by kernel_rfl) (by kernel_rfl) (fun _ _ _ h => h) (Or.inl ⟨by rfl, ?hy1snam⟩) (by assumption) ?rest1snam
      case hy1snam => (intro zz hSw; (try dsimp only at hSw); go_simp; (try with_reducible rfl))
      change wpAnyH _ _ _ _ _ _ _ (Act.put _ (some 10) _) _
      simp only [Act.put, List.setIfInBounds_toArray, List.set_cons_zero, List.set_cons_succ]
      refine wpAnyH_take (i := 2) (v := ?v2snam) rfl (by kernel_rfl) (by kernel_rfl) (by kernel_rfl) (fun _ _ _ h => h) (Or.inl ⟨by rfl, ?hy2snam⟩) (by assumption) ?rest2snam
      case hy2snam => (intro zz hSw; (try dsimp only at hSw); obtain ⟨x0, -, -, -, -, -, -⟩ := hSw; go_simp; (try with_reducible rfl))
      change wpAnyH _ _ _ _ _ _ _ (Act.put _ (some 11) _) _
      simp only [Act.put, List.setIfInBounds_toArray, List.set_cons_zero, List.set_cons_succ]
      refine wpAnyH_take (i := 3) (v := ?v3snam) rfl (by kernel_rfl) (by kernel_rfl) (by kernel_rfl) (fun _ _ _ h => h) (Or.inl ⟨by rfl, ?hy3snam⟩) (by assumption) ?rest3snam
      case hy3snam => (intro zz hSw; (try dsimp only at hSw); go_simp; (try with_reducible rfl))
      change wpAnyH _ _ _ _ _ _ _ (Act.put _ (some 12) _) _
      simp only [Act.put, List.setIfInBounds_toArray, List.set_cons_zero, List.set_cons_succ]
      refine wpAnyH_ready (rs := [0]) (by kernel_rfl) (by simp) (AllReadyH.cons rfl (fun K hK => ?_) (AllReadyH.nil))
      go_simp
      refine (l11Words_any _).mono ?_; rintro e w3 ⟨b, rfl, hb3, -, hcs, b3⟩
      have B3 := Lib.hid (bel_tr B2.out b3 (Nat.le_refl _))
      have Q3' := Lib.hid (Q2d.out.next b3); clear b3
      have cc := hcs _ _ hc
      clear hcs
      refine hK.out _ _ Q3'.out (fun hHeld => ?_)
      clear hK K
      refine wpAnyH_take (i := 4) (v := ?v4snam) rfl (by kernel_rfl) (by kernel_rfl) (by kernel_rfl) (fun _ _ _ h => h) (Or.inl ⟨by rfl, ?hy4snam⟩) (by assumption) ?rest4snam
      case hy4snam => (intro zz hSw; (try dsimp only at hSw); go_simp; (try with_reducible rfl))
      change wpAnyH _ _ _ _ _ _ _ (Act.put _ (some 13) _) _
      simp only [Act.put, List.setIfInBounds_toArray, List.set_cons_zero, List.set_cons_succ]
      refine wpAnyH_ready (rs := [5]) (by kernel_rfl) (by simp) (AllReadyH.cons rfl (fun K hK => ?_) (AllReadyH.nil))
      go_simp
      refine hK.out _ _ hHeld (fun hHeld => ?_)
      clear hK K
      refine wpAnyH_take (i := 6) (v := ?v6snam) rfl (by kernel_rfl) (by kernel_rfl) (by kernel_rfl) (fun _ _ _ h => h) (Or.inl ⟨by rfl, ?hy6snam⟩) (by assumption) ?rest6snam
      case hy6snam => (intro zz hSw; (try dsimp only at hSw); go_simp; (try with_reducible rfl))
      change wpAnyH _ _ _ _ _ _ _ (Act.put _ (some 3) _) _
      simp only [Act.put, List.setIfInBounds_toArray, List.set_cons_zero, List.set_cons_succ]
      refine wpAnyH_done (by kernel_rfl) ?_ _
      generalize tx c = C at *
      obtain ⟨x0, x1, x2, -, -, -, -⟩ := id hHeld
      go_wp2_with fail
      refine (HT.out _).mono ?_; rintro e w4 ⟨rfl, rfl⟩
      go_wp2_with fail
      go_ret
      exact ⟨by rw [← HE.out]; rfl, B3.out⟩
    · have HE := Lib.hid (sh_non ho hg hu hn)
      rw [hu, hn] at HT
      clear ho hg hod hu hn
      generalize tx (shO ⟨(j : Int) + 1, n, m⟩) = S at *
      go_enter Tryd.func12, Tryd.ntmps12
      go_wp2_with fail
      refine (HC.out _).mono ?_; rintro e w2 ⟨rfl, b2⟩
      have B2 := Lib.hid (bel_tr HB.out b2 (Nat.le_refl _))
      have Q2 := Lib.hid (HQ.out.next b2); clear b2
      have B2 := Lib.hid (bel_tr B2.out (belD w2) (Nat.le_refl _))
      have Q2d := Lib.hid (Q2.out.next (belD w2))
      go_wp2_with fail
      refine wp_region_held_drew (S := fun z => Q3 w.heap.size ((j : Int) + 1) n m z) (by kernel_rfl) Q2d.out (fun hHeld => ?_)
      refine wpAnyH_take (i := 1) (v := ?v1snon) rfl (by kernel_rfl) (by kernel_rfl) (by kernel_rfl) (fun _ _ _ h => h) (Or.inl ⟨by rfl, ?hy1snon⟩) (by assumption) ?rest1snon
      case hy1snon => (intro zz hSw; (try dsimp only at hSw); go_simp; (try with_reducible rfl))
      change wpAnyH _ _ _ _ _ _ _ (Act.put _ (some 10) _) _
      simp only [Act.put, List.setIfInBounds_toArray, List.set_cons_zero, List.set_cons_succ]
      refine wpAnyH_take (i := 2) (v := ?v2snon) rfl (by kernel_rfl) (by kernel_rfl) (by kernel_rfl) (fun _ _ _ h => h) (Or.inl ⟨by rfl, ?hy2snon⟩) (by assumption) ?rest2snon
      case hy2snon => (intro zz hSw; (try dsimp only at hSw); obtain ⟨x0, -, -, -, -, -, -⟩ := hSw; go_simp; (try with_reducible rfl))
      change wpAnyH _ _ _ _ _ _ _ (Act.put _ (some 11) _) _
      simp only [Act.put, List.setIfInBounds_toArray, List.set_cons_zero, List.set_cons_succ]
      refine wpAnyH_take (i := 3) (v := ?v3snon) rfl (by kernel_rfl) (by kernel_rfl) (by kernel_rfl) (fun _ _ _ h => h) (Or.inl ⟨by rfl, ?hy3snon⟩) (by assumption) ?rest3snon
      case hy3snon => (intro zz hSw; (try dsimp only at hSw); go_simp; (try with_reducible rfl))
      change wpAnyH _ _ _ _ _ _ _ (Act.put _ (some 12) _) _
      simp only [Act.put, List.setIfInBounds_toArray, List.set_cons_zero, List.set_cons_succ]
      refine wpAnyH_ready (rs := [0]) (by kernel_rfl) (by simp) (AllReadyH.cons rfl (fun K hK => ?_) (AllReadyH.nil))
      go_simp
      refine (l11Words_any _).mono ?_; rintro e w3 ⟨b, rfl, hb3, -, hcs, b3⟩
      have B3 := Lib.hid (bel_tr B2.out b3 (Nat.le_refl _))
      have Q3' := Lib.hid (Q2d.out.next b3); clear b3
      have cc := hcs _ _ hc
      clear hcs
      refine hK.out _ _ Q3'.out (fun hHeld => ?_)
      clear hK K
      refine wpAnyH_take (i := 4) (v := ?v4snon) rfl (by kernel_rfl) (by kernel_rfl) (by kernel_rfl) (fun _ _ _ h => h) (Or.inl ⟨by rfl, ?hy4snon⟩) (by assumption) ?rest4snon
      case hy4snon => (intro zz hSw; (try dsimp only at hSw); go_simp; (try with_reducible rfl))
      change wpAnyH _ _ _ _ _ _ _ (Act.put _ (some 13) _) _
      simp only [Act.put, List.setIfInBounds_toArray, List.set_cons_zero, List.set_cons_succ]
      refine wpAnyH_ready (rs := [5]) (by kernel_rfl) (by simp) (AllReadyH.cons rfl (fun K hK => ?_) (AllReadyH.nil))
      go_simp
      refine hK.out _ _ hHeld (fun hHeld => ?_)
      clear hK K
      refine wpAnyH_take (i := 6) (v := ?v6snon) rfl (by kernel_rfl) (by kernel_rfl) (by kernel_rfl) (fun _ _ _ h => h) (Or.inl ⟨by rfl, ?hy6snon⟩) (by assumption) ?rest6snon
      case hy6snon => (intro zz hSw; (try dsimp only at hSw); go_simp; (try with_reducible rfl))
      change wpAnyH _ _ _ _ _ _ _ (Act.put _ (some 3) _) _
      simp only [Act.put, List.setIfInBounds_toArray, List.set_cons_zero, List.set_cons_succ]
      refine wpAnyH_done (by kernel_rfl) ?_ _
      generalize tx c = C at *
      obtain ⟨x0, x1, x2, -, -, -, -⟩ := id hHeld
      go_wp2_with fail
      refine (HT.out _).mono ?_; rintro e w4 ⟨rfl, rfl⟩
      go_wp2_with fail
      go_ret
      exact ⟨by rw [← HE.out]; rfl, B3.out⟩
end Go.Proofs.YtoiphglfngkoiaaDoor.Cl
