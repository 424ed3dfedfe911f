/-
  The specification's texts of recipes: contracts of spec.l1Words, ShowRecipe, ReadRecipe.
  The specification's ShowRecipe and ReadRecipe; the draw of a recipe's text.
-/
import Derived.Test.YtkhmbmcomgclaaaGreatDoorZa
import Derived.Test.YtkhmbmcomgclaaaGreatDoorSp
namespace Go.Proofs.YtkhmbmcomgclaaaGreatDoor.Cl
open Go.RowKit Wd Rp Kp
set_option linter.unusedVariables false
theorem joined_snoc (d : UInt8) (c : Tk) : ∀ l : List Tk, l ≠ [] → joined d (l ++ [c]) = joined d l ++ (d :: c)
  | [], h => absurd rfl h
  | [a], _ => rfl
  | a :: b :: r, _ => by
    rw [List.cons_append, joined_cons d a (by simp), joined_snoc d c (b :: r) (by simp), joined_cons d a (by simp)]
    simp
theorem joined_len (d : UInt8) (M : Nat) : ∀ l : List Tk, (∀ s ∈ l, s.length ≤ M) → (joined d l).length ≤ l.length * (M + 1)
  | [], _ => Nat.zero_le _
  | [a], h => by
    have := h a (by simp)
    show a.length ≤ 1 * (M + 1)
    omega
  | a :: b :: r, h => by
    have h1 := h a (by simp)
    have h2 := joined_len d M (b :: r) (fun s hs => h s (List.mem_cons_of_mem _ hs))
    rw [joined_cons d a (by simp), List.length_append, List.length_cons, List.length_cons, Nat.succ_mul]
    omega
theorem joined_step (d : UInt8) {l : List Tk} {k : Nat} {c : Tk} (hc : l[k]? = some c) : joined d (l.take (k + 1)) = if k = 0 then c else joined d (l.take k) ++ (d :: c) := by
  have hk := (List.getElem?_eq_some_iff.1 hc).1
  have ht : l.take (k + 1) = l.take k ++ [c] := by rw [List.take_add_one, hc]; rfl
  rw [ht]
  split
  · rename_i h; subst h; rfl
  · rename_i h
    refine joined_snoc d c _ fun e => ?_
    have := congrArg List.length e
    rw [List.length_take, List.length_nil] at this
    omega
def shR (l : List Tk) : Tk := if rcB l then joined 32 l else []
def rdR (s : Tk) : List Tk × Bool := if s = [] then ([], true) else if rcB (spl 32 s) then (spl 32 s, true) else ([], false)
theorem splAt_lens (d : UInt8) : ∀ (l cur : List UInt8), (splAt d cur l).length ≤ l.length + 1 ∧ ∀ s ∈ splAt d cur l, s.length ≤ cur.length + l.length
  | [], cur => by simp [splAt]
  | c :: r, cur => by
    rw [splAt]
    split
    · obtain ⟨h1, h2⟩ := splAt_lens d r []
      refine ⟨by simp; omega, fun s hs => ?_⟩
      rcases List.mem_cons.1 hs with e | e
      · subst e; simp
      · have := h2 s e; simp at this ⊢; omega
    · obtain ⟨h1, h2⟩ := splAt_lens d r (cur ++ [c])
      refine ⟨by simp; omega, fun s hs => ?_⟩
      have := h2 s hs; simp at this ⊢; omega
theorem spl_lens (d : UInt8) (l : List UInt8) : (spl d l).length ≤ l.length + 1 ∧ ∀ s ∈ spl d l, s.length ≤ l.length := by
  have := splAt_lens d l []
  unfold spl
  simpa using this
theorem owns_ot {B : Nat} {w : World} {v : Value} {l : List Tk} (h : OwnS B w v l) : OT B w v l := by
  obtain ⟨-, h2⟩ := h
  unfold OT O1
  rw [txL_len]; exact h2
set_option maxHeartbeats 4000000 in
set_option maxRecDepth 100000 in
theorem l1Words_any (w : World) (a : Option Addr) (cap : Nat) (l : List Tk) (n : Nat) (hn : l.length = n) (hv : V1 w a cap (txL l)) (hl : n ≤ 4194304) (hm : ∀ s ∈ l, s.length ≤ 4194304) :
    Calls Tryz.prog 33 #[.slice a n cap] w fun e w' => e = .returned (.string (tx (joined 32 l))) ∧ Below w.heap.size w w' := by
  have HV := Lib.hid hv; clear hv
  have HJ := Lib.hid (fun k => joined_len 32 4194304 (l.take k) (fun s hs => hm s (List.mem_of_mem_take hs)))
  have HS := Lib.hid (fun k c h => joined_step 32 (l := l) (k := k) (c := c) h)
  have HM := Lib.hid hm; clear hm
  have HN := Lib.hid hn
  go_enter Tryz.func33, Tryz.ntmps33
  go_wp2_with fail
  go_loopw [3, 4] (fun s i wr => ∃ k : Nat, k ≤ n ∧ i = .int .i64 (k : Int) ∧ s = .string (tx (joined 32 (l.take k))) ∧ Below w.heap.size w wr) (fun _ i _ => n - intV i)
  case atStart => exact ⟨0, Nat.zero_le _, rfl, rfl, Below.refl _ _⟩
  case round =>
    obtain ⟨k, hk, rfl, rfl, hbel⟩ := hrel
    have HB := Lib.hid hbel; clear hbel
    have HV1 := Lib.hid (HV.out.below HB.out)
    by_cases hlt : k < n
    · obtain ⟨c, hc⟩ : ∃ c, l[k]? = some c := ⟨l[k]'(by have := HN.out; omega), List.getElem?_eq_getElem _⟩
      obtain ⟨g, o, rfl, hg, c0⟩ := HV1.out.tx hc
      have hcl : c.length ≤ 4194304 := HM.out c (List.mem_of_getElem? hc)
      have HE := Lib.hid (HS.out k c hc)
      have hJ : (joined 32 (l.take k)).length ≤ 4194304 * 4194305 := Nat.le_trans (HJ.out k) (Nat.mul_le_mul_right _ (by rw [List.length_take]; omega))
      have t1 : (k : Int) < (n : Int) := by omega
      have t1d : decide ((k : Int) < (n : Int)) = true := by simpa using hlt
      have i1 : (k : Int) + 1 ≤ 9223372036854775807 := by omega
      clear hc hg
      by_cases h0 : k = 0
      · have HE' := Lib.hid (HE.out.trans (if_pos h0))
        have HX := Lib.hid (show tx (joined 32 (l.take k)) ++ tx c = tx (joined 32 (l.take (k + 1))) by rw [HE'.out, h0]; rw [tx_app]; rfl)
        have z1 : ¬ 9223372036854775807 < (tx (joined 32 (l.take k))).size + (tx c).size := by rw [tx_size, tx_size]; omega
        clear HE HE'
        clear hJ
        generalize tx (joined 32 (l.take k)) = tj at *
        generalize tx c = tc at *
        have hzd : decide ((0 : Int) < (k : Int)) = false := by simpa using h0
        have hzn : decide (0 < k) = false := by simpa using h0
        clear h0
        go_wp2_with fail
        go_roundw
        case rel => exact ⟨k + 1, by omega, by go_num, by rw [HX.out], HB.out⟩
        case measure => simp [intV]; omega
      · have HE' := Lib.hid (HE.out.trans (if_neg h0))
        have HX := Lib.hid (show tx (joined 32 (l.take k)) ++ (⟨#[32]⟩ : ByteArray) ++ tx c = tx (joined 32 (l.take (k + 1))) by rw [HE'.out, show (⟨#[32]⟩ : ByteArray) = tx [32] from rfl, tx_app, tx_app]; simp)
        have z1 : ¬ 9223372036854775807 < (tx (joined 32 (l.take k))).size + (⟨#[32]⟩ : ByteArray).size := by rw [tx_size]; show ¬ 9223372036854775807 < _ + 1; omega
        have z2 : ¬ 9223372036854775807 < (tx (joined 32 (l.take k)) ++ (⟨#[32]⟩ : ByteArray)).size + (tx c).size := by rw [ByteArray.size_append, tx_size, tx_size]; show ¬ 9223372036854775807 < _ + 1 + c.length; omega
        clear HE HE'
        clear hJ
        generalize tx (joined 32 (l.take k)) = tj at *
        generalize tx c = tc at *
        have hz : (0 : Int) < (k : Int) := by omega
        have hzd : decide ((0 : Int) < (k : Int)) = true := by simp; omega
        have hzn : decide (0 < k) = true := by simp; omega
        have hzm : 0 < k := by omega
        go_wp2_with fail
        go_roundw
        case rel => exact ⟨k + 1, by omega, by go_num, by rw [HX.out], HB.out⟩
        case measure => simp [intV]; omega
    · obtain rfl : k = n := by omega
      have t1 : ¬ (k : Int) < (k : Int) := by omega
      go_wp2_with fail
      go_ret
      refine ⟨?_, HB.out⟩
      have := HN.out
      rw [← this, List.take_length]; rfl
end Go.Proofs.YtkhmbmcomgclaaaGreatDoor.Cl
namespace Go.Proofs.YtkhmbmcomgclaaaGreatDoor.Cl
open Go.RowKit Wd Rp Kp
set_option linter.unusedVariables false
set_option maxHeartbeats 1000000 in
set_option maxRecDepth 100000 in
theorem specShow_any (w : World) (a : Option Addr) (cap : Nat) (l : List Tk) (n : Nat) (hn : l.length = n) (hv : V1 w a cap (txL l)) (hl : n ≤ 4194304) (hm : ∀ s ∈ l, s.length ≤ 4194304) :
    Calls Tryz.prog 13 #[.slice a n cap] w fun e w' => e = .returned (.string (tx (shR l))) ∧ Below w.heap.size w w' := by
  have HR := Lib.hid (specRecipeOk_any w a cap l n hn hv hl hm)
  have HW := Lib.hid (fun w h => l1Words_any w a cap l n hn h hl hm)
  have HV := Lib.hid hv; clear hv hm
  have HS := Lib.hid (show shR l = if rcB l then joined 32 l else [] from rfl)
  generalize shR l = r at *
  generalize rcB l = q at *
  generalize joined 32 l = j at *
  go_enter Tryz.func13, Tryz.ntmps13
  go_wp2_with fail
  refine HR.out.mono ?_; rintro e w1 ⟨rfl, b1⟩
  have V2 := Lib.hid (HV.out.below b1)
  have B1 := Lib.hid b1; clear b1
  cases q
  · go_wp2_with fail
    go_ret
    exact ⟨by rw [HS.out]; rfl, B1.out⟩
  · have HW1 := Lib.hid (HW.out w1 V2.out)
    go_wp2_with fail
    refine HW1.out.mono ?_; rintro e w2 ⟨rfl, b2⟩
    have B2 := Lib.hid (bel_tr B1.out b2 (Nat.le_refl _)); clear b2
    go_wp2_with fail
    go_ret
    exact ⟨by rw [HS.out]; rfl, B2.out⟩
/-- What ReadRecipe leaves: the texts read, whether they are a recipe. -/
def ReadsR (s : Tk) (w : World) (e : Ending) (w' : World) : Prop := ∃ v, e = .returned (.tuple #[v, .bool (rdR s).2]) ∧ OT w.heap.size w' v (rdR s).1 ∧ Below w.heap.size w w'
set_option maxHeartbeats 1000000 in
set_option maxRecDepth 100000 in
theorem specRead_any (w : World) (s : Tk) (hs : s.length ≤ 4000000) : Calls Tryz.prog 11 #[.string (tx s)] w (ReadsR s w) := by
  by_cases h0 : s = []
  · subst h0
    have HO := Lib.hid (show OT w.heap.size (w.alloc (.cells #[] 9)) (.slice (some ⟨w.heap.size, 0, none⟩) 0 0) [] from O1.start (Nat.le_refl _))
    have HB := Lib.hid (bel1 w (.cells #[] 9))
    have q0 : (tx ([] : Tk)).toList.isEmpty = true := by rw [Lib.toList_data, tx_data]; rfl
    go_enter Tryz.func11, Tryz.ntmps11
    go_wp2_with fail
    refine bodyPost_ret (v := .tuple #[.slice (some ⟨w.heap.size, 0, none⟩) 0 0, .bool true]) (by simp [results, Tryz.results11, go_sem]) rfl ⟨_, rfl, HO.out, HB.out⟩
  · have q0 : (tx s).toList.isEmpty = false := by rw [Lib.toList_data, tx_data]; cases s with | nil => exact absurd rfl h0 | cons a b => rfl
    have HE := Lib.hid (show rdR s = (if rcB (spl 32 s) then (spl 32 s, true) else ([], false)) by unfold rdR; rw [if_neg h0])
    have HP := Lib.hid (split_any (tx s) 32 w (by rw [tx_size]; omega))
    rw [tx_data] at HP
    have HL := spl_lens 32 s
    unfold ReadsR
    generalize rdR s = r at *
    generalize spl 32 s = l at *
    have HM := Lib.hid HL.2
    have hl1 := HL.1
    clear HL
    go_enter Tryz.func11, Tryz.ntmps11
    go_wp2_with fail
    refine HP.out.mono ?_; rintro e w1 ⟨v, rfl, o1, b1⟩
    have HO1 := Lib.hid (owns_ot o1); clear o1
    have B1 := Lib.hid b1; clear b1
    obtain ⟨a, cap, ev, hv⟩ := O1.view HO1.out
    rw [txL_len] at ev
    subst ev
    have HR := Lib.hid (specRecipeOk_any w1 a cap l l.length rfl hv (by omega) (fun t ht => by have := HM.out t ht; omega)); clear hv
    generalize hn : l.length = n at *
    generalize rcB l = q at *
    go_wp2_with fail
    refine HR.out.mono ?_; rintro e w2 ⟨rfl, b2⟩
    have HO2 := Lib.hid (HO1.out.next b2)
    have B2 := Lib.hid (bel_tr B1.out b2 (Nat.le_refl _)); clear b2
    cases q
    · have HO := Lib.hid (show OT w.heap.size (w2.alloc (.cells #[] 9)) (.slice (some ⟨w2.heap.size, 0, none⟩) 0 0) [] from O1.start B2.out.size)
      have HB := Lib.hid (B2.out.alloc B2.out.size (.cells #[] 9))
      go_wp2_with fail
      refine bodyPost_ret (v := .tuple #[.slice (some ⟨w2.heap.size, 0, none⟩) 0 0, .bool false]) (by simp [results, Tryz.results11, go_sem]) rfl ⟨_, by rw [HE.out]; rfl, by rw [HE.out]; exact HO.out, HB.out⟩
    · go_wp2_with fail
      refine bodyPost_ret (v := .tuple #[.slice a n cap, .bool true]) (by simp [results, Tryz.results11, go_sem]) rfl ⟨_, by rw [HE.out]; rfl, by rw [HE.out]; exact HO2.out, B2.out⟩
end Go.Proofs.YtkhmbmcomgclaaaGreatDoor.Cl
