/-
  The pieces of a cell's text: strings.SplitN and spec.l1Split give the same four, or neither gives four; what ReadCell gives ('rcV').
-/
import Derived.Test.YtdalncgbbkeimaaDoorSp
import Derived.Test.YtdalncgbbkeimaaDoorRi
import Derived.Test.YtdalncgbbkeimaaDoorSa
import Derived.Test.YtdalncgbbkeimaaDoorCa
import Derived.Lib.Split
import Derived.Lib.IndexMore
namespace Go.Proofs.YtdalncgbbkeimaaDoor.Cl
open Go.RowKit Wd Rp Kp
set_option linter.unusedVariables false
theorem mem_split {d : UInt8} : ∀ {l : List UInt8}, d ∈ l → ∃ a r, l = a ++ d :: r ∧ d ∉ a
  | [], h => by simp at h
  | c :: l, h => by
    by_cases e : c = d
    · exact ⟨[], l, by rw [e]; rfl, by simp⟩
    · obtain ⟨a, r, h1, h2⟩ := mem_split (l := l) (by simpa [Ne.symm e] using h)
      exact ⟨c :: a, r, by rw [h1]; rfl, by simp [Ne.symm e, h2]⟩
theorem splitK_none {d : UInt8} {l : List UInt8} (h : d ∉ l) (k : Nat) : Lib.splitK [d] 0 k l = [l] := by
  cases k with
  | zero => rfl
  | succ k => rw [Lib.splitK, Lib.index_one, index_not l d h]; rfl
theorem splitK_app {d : UInt8} {a r : List UInt8} (h : d ∉ a) (k : Nat) : Lib.splitK [d] 0 (k + 1) (a ++ d :: r) = a :: Lib.splitK [d] 0 k r := by
  rw [Lib.splitK, Lib.index_one, index_app a d r h, if_neg (by rw [beq_iff_eq]; omega)]
  congr 1
  · simp
  · congr 1
    simp
/-- With k pieces to cut off, the pieces of the text if they are no more, else k and a rest. -/
theorem splitK_spl (d : UInt8) : ∀ (k : Nat) (l : List UInt8), ((spl d l).length ≤ k + 1 → Lib.splitK [d] 0 k l = spl d l) ∧ (k + 1 < (spl d l).length → (Lib.splitK [d] 0 k l).length = k + 1)
  | 0, l => by
    refine ⟨fun h => ?_, fun h => rfl⟩
    by_cases hd : d ∈ l
    · obtain ⟨a, r, rfl, ha⟩ := mem_split hd
      rw [spl_app ha] at h
      have h3 : 0 < (spl d r).length := List.length_pos_iff.2 (splAt_ne d r [])
      rw [List.length_cons] at h; omega
    · rw [spl_none hd]; rfl
  | k + 1, l => by
    by_cases hd : d ∈ l
    · obtain ⟨a, r, rfl, ha⟩ := mem_split hd
      obtain ⟨h1, h2⟩ := splitK_spl d k r
      rw [spl_app ha, splitK_app ha, List.length_cons, List.length_cons]
      exact ⟨fun h => by rw [h1 (by omega)], fun h => by rw [h2 (by omega)]⟩
    · rw [spl_none hd, splitK_none hd]
      exact ⟨fun _ => rfl, fun h => by simp at h⟩
theorem splAt_len (d : UInt8) : ∀ (l cur : List UInt8), (splAt d cur l).length ≤ l.length + 1
  | [], cur => by simp [splAt]
  | c :: l, cur => by
    rw [splAt]; split
    · have := splAt_len d l []; simp; omega
    · have := splAt_len d l (cur ++ [c]); simp; omega
theorem split_four {d : UInt8} {l : List UInt8} : ((Lib.splitK [d] 0 (min 5 (l.length + 1) - 1) l).length = 4 ∨ (spl d l).length = 4) → Lib.splitK [d] 0 (min 5 (l.length + 1) - 1) l = spl d l := by
  intro h
  obtain ⟨h1, h2⟩ := splitK_spl d (min 5 (l.length + 1) - 1) l
  by_cases hle : (spl d l).length ≤ min 5 (l.length + 1) - 1 + 1
  · exact h1 hle
  · have := h2 (by omega)
    have hl : (spl d l).length ≤ l.length + 1 := splAt_len d l []
    omega
/-- Block g holds these four texts. -/
def Fo (g : Nat) (a b t v : ByteArray) (w : World) : Prop := w.cell? ⟨g, 0, none⟩ = some (.string a) ∧ w.cell? ⟨g, 1, none⟩ = some (.string b) ∧ w.cell? ⟨g, 2, none⟩ = some (.string t) ∧ w.cell? ⟨g, 3, none⟩ = some (.string v) ∧ g < w.heap.size
theorem Fo.next {g : Nat} {a b t v : ByteArray} {w w' : World} (h : Fo g a b t v w) (hb : Below w.heap.size w w') : Fo g a b t v w' := by
  obtain ⟨h0, h1, h2, h3, h4⟩ := h
  exact ⟨coc hb h4 h0, coc hb h4 h1, coc hb h4 h2, coc hb h4 h3, Nat.lt_of_lt_of_le h4 hb.size⟩
/-- What a splitter leaves. -/
def SpPost (s : ByteArray) (w : World) (e : Ending) (w' : World) : Prop := ∃ (g n cap : Nat), e = .returned (.slice (some ⟨g, 0, none⟩) n cap) ∧ Below w.heap.size w w' ∧
  ((n ≠ 4 ∧ (spl 32 s.data.toList).length ≠ 4) ∨ (n = 4 ∧ ∃ a b t v, spl 32 s.data.toList = [a, b, t, v] ∧ Fo g (tx a) (tx b) (tx t) (tx v) w'))
theorem four_of {l : List (List UInt8)} (h : l.length = 4) : ∃ a b t v, l = [a, b, t, v] := by
  match l, h with
  | [a, b, t, v], _ => exact ⟨a, b, t, v, rfl⟩
theorem specSplit_any (s : ByteArray) (w : World) (hs : s.size ≤ 4194304) : Calls Tryd.prog 56 #[.string s, .int .u8 32] w (SpPost s w) := by
  refine (split_any s 32 w hs).mono ?_
  rintro e w' ⟨v, rfl, ho, hb⟩
  obtain ⟨g, cap, rfl⟩ := ho.any
  refine ⟨g, _, cap, rfl, hb, ?_⟩
  by_cases h4 : (spl 32 s.data.toList).length = 4
  · obtain ⟨a, b, t, v, h⟩ := four_of h4
    rw [h] at ho
    obtain ⟨-, -, hg, -, hc⟩ := ho.cell
    exact Or.inr ⟨h4, a, b, t, v, h, hc 0 (Nat.zero_lt_succ 3), hc 1 (Nat.le.step (Nat.le.step (Nat.le.refl))), hc 2 (Nat.le.step (Nat.le.refl)), hc 3 (Nat.le.refl), hg⟩
  · exact Or.inl ⟨h4, h4⟩
def LibM (w : World) : Prop := (∃ m : Int, w.cell? ⟨0, 0, none⟩ = some (.int .i64 m)) ∧ 0 < w.heap.size
theorem LibM.next {w w' : World} (h : LibM w) (hb : Below w.heap.size w w') : LibM w' := by
  obtain ⟨⟨m, hm⟩, hl⟩ := h
  exact ⟨⟨m, coc hb hl hm⟩, Nat.lt_of_lt_of_le hl hb.size⟩
theorem implSplit_any (s : ByteArray) (w : World) (hs : s.size ≤ 4194304) (hM : LibM w) : Calls Tryd.prog 67 #[.string s, .string ⟨#[32]⟩, .int .i64 5] w (SpPost s w) := by
  obtain ⟨⟨m, hm⟩, -⟩ := hM
  refine (Tryd.strings_SplitN s ⟨#[32]⟩ 5 m w (by omega) hm (by decide) (by decide) (by decide)).mono ?_
  rintro e w' ⟨rfl, rfl⟩
  have hd := Lib.splitB_data (⟨#[32]⟩ : ByteArray) 0 (min 5 (s.size + 1) - 1) s
  rw [show (⟨#[32]⟩ : ByteArray).data.toList = [32] from rfl] at hd
  have hln : (Lib.splitB (⟨#[32]⟩ : ByteArray) 0 (min 5 (s.size + 1) - 1) s).length = (Lib.splitK [32] 0 (min 5 (s.data.toList.length + 1) - 1) s.data.toList).length := by rw [llen, ← hd, List.length_map]
  have h4 := split_four (d := 32) (l := s.data.toList)
  rw [← hln, llen] at h4
  refine ⟨_, _, _, rfl, bel1 _ _, ?_⟩
  by_cases hn : (Lib.splitB (⟨#[32]⟩ : ByteArray) 0 (min 5 (s.size + 1) - 1) s).length = 4
  · have he := h4 (Or.inl hn)
    rw [← hd] at he
    have hp : (w.alloc (.cells (Lib.cellsOf (Lib.splitB (⟨#[32]⟩ : ByteArray) 0 (min 5 (s.size + 1) - 1) s) (min 5 (s.size + 1))) 9)).heap[w.heap.size]? = some (.cells (Lib.cellsOf (Lib.splitB (⟨#[32]⟩ : ByteArray) 0 (min 5 (s.size + 1) - 1) s) (min 5 (s.size + 1))) 9) := by show (w.heap.push _)[w.heap.size]? = _; simp
    generalize Lib.splitB (⟨#[32]⟩ : ByteArray) 0 (min 5 (s.size + 1) - 1) s = L at hn he hp
    match L, hn with
    | [a, b, t, v], _ =>
      refine Or.inr ⟨rfl, a.data.toList, b.data.toList, t.data.toList, v.data.toList, he.symm, ?_⟩
      rw [tx_of, tx_of, tx_of, tx_of]
      refine ⟨?_, ?_, ?_, ?_, by simp⟩ <;> (simp only [World.cell?, hp]; rfl)
  · refine Or.inl ⟨hn, fun h => hn ?_⟩
    have he := h4 (Or.inr h)
    rw [← hd] at he
    have := congrArg List.length he
    rw [List.length_map] at this
    omega
def gnB (v : List UInt8) : Bool := (tx v).toList == [45]
def okR (a b t v : List UInt8) : Bool := rdB t && ((rdB v || gnB v) && cellB (tx a) (tx b) (rdV t) (rdV v) (gnB v))
def zeroV : Value := .tuple #[.agg #[.string ⟨#[]⟩, .string ⟨#[]⟩, .int .i64 0, .int .i64 0, .bool false], .bool false]
def cellV (a b t v : List UInt8) : Value := .tuple #[.agg #[.string (tx a), .string (tx b), .int .i64 (rdV t), .int .i64 (rdV v), .bool (gnB v)], .bool true]
def rcV : List (List UInt8) → Value
  | [a, b, t, v] => if okR a b t v then cellV a b t v else zeroV
  | _ => zeroV
theorem rcV_no {l : List (List UInt8)} (h : l.length ≠ 4) : rcV l = zeroV := by
  unfold rcV
  split
  · simp at h
  · rfl
def RcPost (s : ByteArray) (w : World) (e : Ending) (w' : World) : Prop := e = .returned (rcV (spl 32 s.data.toList)) ∧ Below w.heap.size w w'
theorem lib3_next {w w' : World} (h : Lib3 w) (hb : Below w.heap.size w w') : Lib3 w' := h.carry hb ⟨h.2.2.2.1, h.2.2.2.2.1, h.2.2.2.2.2⟩
theorem sub_small (d : UInt8) : ∀ (l cur : List UInt8), ∀ p ∈ splAt d cur l, p.length ≤ cur.length + l.length
  | [], cur, p, h => by simp [splAt] at h; subst h; simp
  | c :: l, cur, p, h => by
    rw [splAt] at h
    split at h
    · rcases List.mem_cons.1 h with rfl | h
      · simp
      · have := sub_small d l [] p h; simp at this ⊢; omega
    · have := sub_small d l (cur ++ [c]) p h; simp at this ⊢; omega
theorem piece_small {s : ByteArray} {a b t v : List UInt8} (h : spl 32 s.data.toList = [a, b, t, v]) : a.length ≤ s.size ∧ b.length ≤ s.size ∧ t.length ≤ s.size ∧ v.length ≤ s.size := by
  have key : ∀ p ∈ spl 32 s.data.toList, p.length ≤ s.size := fun p hp => by have := sub_small 32 s.data.toList [] p hp; rw [llen] at this; simpa using this
  rw [h] at key
  exact ⟨key a (by simp), key b (by simp), key t (by simp), key v (by simp)⟩
theorem specRead_is (t : List UInt8) (ht : t.length ≤ 4194304) (w : World) : Calls Tryd.prog 69 #[.string (tx t)] w fun e w' => e = .returned (.tuple #[.int .i64 (rdV t), .bool (rdB t)]) ∧ Below w.heap.size w w' :=
  (specRead_any (tx t) w (by rw [tx_size]; omega)).mono fun e w' ⟨he, hw⟩ => ⟨by rw [he, tx_data], hw ▸ Below.refl _ _⟩
theorem implRead_is (t : List UInt8) (ht : t.length ≤ 4194304) (w : World) (hL : Lib3 w) : Calls Tryd.prog 68 #[.string (tx t)] w fun e w' => e = .returned (.tuple #[.int .i64 (rdV t), .bool (rdB t)]) ∧ Below w.heap.size w w' :=
  (implRead_any (tx t) w hL (by rw [tx_size]; omega)).mono fun e w' ⟨he, hw⟩ => ⟨by rw [he, tx_data], hw⟩
end Go.Proofs.YtdalncgbbkeimaaDoor.Cl
