/-
  Slices of cells that a call has made ('OwC'); contracts of laws.szCellS, laws.toCellS, laws.eqCell.
  Plain facts on lists of cells: the order of keys, valid lists are sorted, where a key belongs ('cnt'), a cell put ('putL', 'putP'), a cell found ('findL', 'findP').
  append of cells onto a slice of cells that the call has made; pieces of a slice of cells; the contract of spec.l4Copy.
  Equal slices of cells are found equal by laws.eqCellS. (Made by gen_cf.py.)
  copy of cells into a slice of the call's own; append onto a slice without room; the contract of impl.copyOfCells.
-/
import Derived.Test.YtoiphglfngkoiaaDoorCa
import Derived.Test.YtoiphglfngkoiaaDoorCc
import Derived.OwnWalk
import Derived.Maps.AppendAt
import Derived.Laws.StructEq
import Derived.BigFrame
import Derived.Deep.Upon
import Derived.Deep.RegionHeld3
import Derived.Laws.CopyRow
namespace Go.Proofs.YtoiphglfngkoiaaDoor.Cl
open Go.RowKit Wd Rp Kp
set_option linter.unusedVariables false
theorem row_next {B : Nat} {e : TypeId} {k : Nat} {v : Value} {n : Nat} {xs : List Value} {w w' : World} (h : w.ownsRow B e k v n xs) (hb : ∀ g, v.ownBlock = some g → g < w.heap.size → w'.heap[g]? = w.heap[g]?) : w'.ownsRow B e k v n xs := by
  obtain ⟨h1, h2⟩ := h
  refine ⟨h1, ?_⟩
  rcases h2 with h2 | ⟨g, cap, cur, hv, hB, hg, h3⟩
  · exact .inl h2
  · subst hv
    exact .inr ⟨g, cap, cur, rfl, hB, (hb g rfl (Array.getElem?_eq_some_iff.1 hg).1).trans hg, h3⟩
theorem set_right {a b : List Value} {n : Nat} (h : a.length = 5) (x : Value) (j : Nat) : (a ++ b).set (5 + n + j) x = a ++ b.set (n + j) x := by
  rw [List.set_append_right _ _ (by omega), h, show 5 + n + j - 5 = n + j by omega]
theorem flat_set : ∀ (l : List Cel) (k : Nat) (c : Cel), k < l.length →
    (((((flat l).set (k * 5) (.string c.r)).set (k * 5 + 1) (.string c.b)).set (k * 5 + 2) (.int .i64 c.t)).set (k * 5 + 3) (.int .i64 c.v)).set (k * 5 + 4) (.bool c.g) = flat (l.set k c)
  | [], k, c, h => by simp at h
  | d :: l, 0, c, h => by rfl
  | d :: l, k + 1, c, h => by
    have ih := flat_set l k c (by simpa using h)
    have e0 : (k + 1) * 5 = 5 + k * 5 + 0 := by omega
    rw [flat_cons, List.set_cons_succ, flat_cons, ← ih]
    rw [show (k + 1) * 5 + 1 = 5 + k * 5 + 1 by omega, show (k + 1) * 5 + 2 = 5 + k * 5 + 2 by omega, show (k + 1) * 5 + 3 = 5 + k * 5 + 3 by omega, show (k + 1) * 5 + 4 = 5 + k * 5 + 4 by omega, e0]
    rw [set_right (vals_len d), set_right (vals_len d), set_right (vals_len d), set_right (vals_len d), set_right (vals_len d)]; rfl
theorem bel_set5o {B : Nat} {a w : World} (h : Below B a w) {n o : Nat} (hn : B ≤ n) (x0 x1 x2 x3 x4 : Value) : Below B a (((((w.setCell ⟨n, o, none⟩ x0).setCell ⟨n, o + 1, none⟩ x1).setCell ⟨n, o + 2, none⟩ x2).setCell ⟨n, o + 3, none⟩ x3).setCell ⟨n, o + 4, none⟩ x4) :=
  ((((h.setCell (p := ⟨n, o, none⟩) hn _).setCell (p := ⟨n, o + 1, none⟩) hn _).setCell (p := ⟨n, o + 2, none⟩) hn _).setCell (p := ⟨n, o + 3, none⟩) hn _).setCell (p := ⟨n, o + 4, none⟩) hn _
def zc : Cel := ⟨⟨#[]⟩, ⟨#[]⟩, 0, 0, false⟩
theorem made_flat : ∀ n, (madeCells (Value.agg #[.string ⟨#[]⟩, .string ⟨#[]⟩, .int .i64 0, .int .i64 0, .bool false]).cells (n * 5)).toList = flat (List.replicate n zc) := by
  intro n
  rw [madeCells, Array.toList_map, Array.toList_range]
  induction n with
  | zero => rfl
  | succ n ih =>
    rw [List.replicate_succ', flat_app, ← ih, show (n + 1) * 5 = n * 5 + 1 + 1 + 1 + 1 + 1 by omega, List.range_succ, List.range_succ, List.range_succ, List.range_succ, List.range_succ]
    simp only [List.map_append, List.map_cons, List.map_nil, List.append_assoc]
    congr 1
    have e : ∀ j, j < 5 → (n * 5 + j) % 5 = j := fun j hj => by omega
    have hs : (Value.agg #[.string ⟨#[]⟩, .string ⟨#[]⟩, .int .i64 0, .int .i64 0, .bool false]).cells.size = 5 := rfl
    simp only [hs, show n * 5 % 5 = 0 by omega, show (n * 5 + 1) % 5 = 1 by omega, show (n * 5 + 1 + 1) % 5 = 2 by omega, show (n * 5 + 1 + 1 + 1) % 5 = 3 by omega, show (n * 5 + 1 + 1 + 1 + 1) % 5 = 4 by omega]
    rfl
end Go.Proofs.YtoiphglfngkoiaaDoor.Cl
namespace Go.Proofs.YtoiphglfngkoiaaDoor.Cl
open Go.RowKit Wd Rp Kp
set_option linter.unusedVariables false
theorem bl_tr : ∀ {x y z : List UInt8}, Op.bytesLess x y = true → Op.bytesLess y z = true → Op.bytesLess x z = true
  | _, [], _, h, _ => by simp [Op.bytesLess] at h
  | _, _ :: _, [], _, h => by simp [Op.bytesLess] at h
  | [], _ :: _, _ :: _, _, _ => by simp [Op.bytesLess]
  | a :: x, b :: y, c :: z, h, k => by
    simp only [Op.bytesLess, Bool.or_eq_true, Bool.and_eq_true, decide_eq_true_eq, beq_iff_eq] at h k ⊢
    rcases h with h | ⟨h1, h2⟩
    · rcases k with k | ⟨k1, k2⟩
      · left; rw [UInt8.lt_iff_toNat_lt] at h k ⊢; omega
      · left; rw [← k1]; exact h
    · rcases k with k | ⟨k1, k2⟩
      · left; rw [h1]; exact k
      · right; exact ⟨h1.trans k1, bl_tr h2 k2⟩
theorem bl_three : ∀ (x y : List UInt8), (Op.bytesLess x y || Op.bytesLess y x) = !(x == y)
  | [], [] => rfl
  | [], _ :: _ => rfl
  | _ :: _, [] => rfl
  | a :: x, b :: y => by
    have ih := bl_three x y
    by_cases e : a = b
    · subst e
      simp only [Op.bytesLess]
      simpa using ih
    · have h : a < b ∨ b < a := by
        rw [UInt8.lt_iff_toNat_lt, UInt8.lt_iff_toNat_lt]
        have : a.toNat ≠ b.toNat := fun g => e (UInt8.toNat_inj.1 g)
        omega
      have hne : (a :: x == b :: y) = false := by rw [beq_eq_false_iff_ne]; intro g; exact e (List.cons.inj g).1
      rw [hne]
      rcases h with h | h <;> simp [Op.bytesLess, h]
theorem ls_iff (c d : Cel) : c.ls d = true ↔ Op.bytesLess c.r.toList d.r.toList = true ∨ c.r.toList = d.r.toList ∧ (Op.bytesLess c.b.toList d.b.toList = true ∨ c.b.toList = d.b.toList ∧ d.t < c.t) := by
  unfold Cel.ls lsB
  by_cases h1 : c.r.toList = d.r.toList
  · by_cases h2 : c.b.toList = d.b.toList
    · simp [h1, h2, bl_irr]
    · simp [h1, h2, bl_irr]
  · simp [h1]
theorem ls_trans {a b c : Cel} (h : a.ls b = true) (k : b.ls c = true) : a.ls c = true := by
  rw [ls_iff] at h k ⊢
  rcases h with h | ⟨h1, h⟩
  · rcases k with k | ⟨k1, k⟩
    · exact Or.inl (bl_tr h k)
    · exact Or.inl (by rw [← k1]; exact h)
  · rcases k with k | ⟨k1, k⟩
    · exact Or.inl (by rw [h1]; exact k)
    · refine Or.inr ⟨h1.trans k1, ?_⟩
      rcases h with h | ⟨h2, h⟩
      · rcases k with k | ⟨k2, k⟩
        · exact Or.inl (bl_tr h k)
        · exact Or.inl (by rw [← k2]; exact h)
      · rcases k with k | ⟨k2, k⟩
        · exact Or.inl (by rw [h2]; exact k)
        · exact Or.inr ⟨h2.trans k2, by omega⟩
theorem ls_irr (a : Cel) : a.ls a = false := by
  cases h : a.ls a with
  | false => rfl
  | true =>
    rw [ls_iff, bl_irr, bl_irr] at h
    rcases h with h | ⟨_, h | ⟨_, h⟩⟩
    · cases h
    · cases h
    · omega
/-- Have they one key? -/
def Cel.ke (c d : Cel) : Bool := c.r == d.r && (c.b == d.b && c.t == d.t)
theorem ke_iff (c d : Cel) : c.ke d = true ↔ c.r.toList = d.r.toList ∧ c.b.toList = d.b.toList ∧ c.t = d.t := by
  unfold Cel.ke; rw [ba_beq, ba_beq]; simp
theorem ba_ext {x y : ByteArray} (h : x.toList = y.toList) : x = y := by
  rw [Lib.toList_data, Lib.toList_data] at h
  exact ByteArray.ext (Array.toList_inj.1 h)
theorem ls_tri3 (c d : Cel) (h : c.ls d = false) (k : c.ke d = false) : d.ls c = true := by
  have h' : ¬ c.ls d = true := by simp [h]
  have k' : ¬ c.ke d = true := by simp [k]
  rw [ls_iff] at h' ⊢
  rw [ke_iff] at k'
  have t1 := bl_three c.r.toList d.r.toList
  have t2 := bl_three c.b.toList d.b.toList
  by_cases e1 : c.r.toList = d.r.toList
  · by_cases e2 : c.b.toList = d.b.toList
    · refine Or.inr ⟨e1.symm, Or.inr ⟨e2.symm, ?_⟩⟩
      have n1 : ¬ d.t < c.t := fun g => h' (Or.inr ⟨e1, Or.inr ⟨e2, g⟩⟩)
      have n2 : ¬ c.t = d.t := fun g => k' ⟨e1, e2, g⟩
      omega
    · refine Or.inr ⟨e1.symm, Or.inl ?_⟩
      have n1 : Op.bytesLess c.b.toList d.b.toList = false := by
        cases g : Op.bytesLess c.b.toList d.b.toList with
        | false => rfl
        | true => exact absurd (Or.inr ⟨e1, Or.inl g⟩) h'
      rw [n1, Bool.false_or] at t2
      rw [t2]; simpa using e2
  · refine Or.inl ?_
    have n1 : Op.bytesLess c.r.toList d.r.toList = false := by
      cases g : Op.bytesLess c.r.toList d.r.toList with
      | false => rfl
      | true => exact absurd (Or.inl g) h'
    rw [n1, Bool.false_or] at t1
    rw [t1]; simpa using e1
theorem ls_ke {c d : Cel} (h : c.ke d = true) (e : Cel) : e.ls c = e.ls d ∧ c.ls e = d.ls e := by
  obtain ⟨h1, h2, h3⟩ := (ke_iff c d).1 h
  have e1 := ba_ext h1
  have e2 := ba_ext h2
  unfold Cel.ls
  rw [e1, e2, h3]; exact ⟨rfl, rfl⟩
theorem ls_asym {c d : Cel} (h : c.ls d = true) : d.ls c = false := by
  cases k : d.ls c with
  | false => rfl
  | true => have := ls_trans h k; rw [ls_irr] at this; cases this
theorem ok_get {l : List Cel} (h : okL l = true) {k : Nat} {c : Cel} (hk : l[k]? = some c) : c.ok = true :=
  okAt_ok ((okL_iff.1 h).1 k (List.getElem?_eq_some_iff.1 hk).1) hk
theorem sorted {l : List Cel} (h : okL l = true) {i : Nat} : ∀ {j : Nat} {c d : Cel}, i < j → l[i]? = some c → l[j]? = some d → c.ls d = true
  | 0, c, d, hij, _, _ => by omega
  | j + 1, c, d, hij, hc, hd => by
    have hj := (List.getElem?_eq_some_iff.1 hd).1
    obtain ⟨q, hq⟩ : ∃ q, l[j]? = some q := ⟨l[j], List.getElem?_eq_getElem (by omega)⟩
    have h1 := (okL_iff.1 h).1 (j + 1) hj
    rw [okAt_succ hd hq, Bool.and_eq_true] at h1
    by_cases e : i = j
    · subst e; rw [hc] at hq; cases hq; exact h1.2
    · exact ls_trans (sorted h (by omega) hc hq) h1.2
theorem le_keyB {c K : Cel} (h : c.le K = true) : keyB K.r.data.toList K.b.data.toList K.t = true ∧ c.ls K = true := by
  unfold Cel.le lessB at h
  rw [Bool.and_eq_true, Bool.and_eq_true] at h
  exact ⟨h.2.1, h.2.2⟩
theorem le_of {c K : Cel} (h : c.ok = true) (hK : keyB K.r.data.toList K.b.data.toList K.t = true) : c.le K = c.ls K := by
  unfold Cel.le lessB; rw [ok_key h, hK, Bool.true_and, Bool.true_and]; rfl
theorem le_mono {l : List Cel} (h : okL l = true) {i j : Nat} {c d K : Cel} (hij : i < j) (hc : l[i]? = some c) (hd : l[j]? = some d) (hd2 : d.le K = true) : c.le K = true := by
  obtain ⟨h1, h2⟩ := le_keyB hd2
  rw [le_of (ok_get h hc) h1]
  exact ls_trans (sorted h hij hc hd) h2
/-- How many stand ahead. -/
def cntP (p : Cel → Bool) (l : List Cel) : Nat := (l.takeWhile p).length
theorem cntP_spec (p : Cel → Bool) : ∀ l : List Cel, cntP p l ≤ l.length ∧ (∀ m c, m < cntP p l → l[m]? = some c → p c = true) ∧ (∀ c, l[cntP p l]? = some c → p c = false)
  | [] => ⟨Nat.le_refl _, fun m c hm => by simp [cntP] at hm, fun c hc => by simp at hc⟩
  | d :: l => by
    obtain ⟨h1, h2, h3⟩ := cntP_spec p l
    by_cases hd : p d = true
    · have e : cntP p (d :: l) = cntP p l + 1 := by simp [cntP, hd]
      rw [e]
      refine ⟨by simp; omega, fun m c hm hc => ?_, fun c hc => ?_⟩
      · cases m with
        | zero => simp at hc; subst hc; exact hd
        | succ m => exact h2 m c (by omega) (by simpa using hc)
      · exact h3 c (by simpa using hc)
    · have e : cntP p (d :: l) = 0 := by simp [cntP, hd]
      rw [e]
      refine ⟨Nat.zero_le _, fun m c hm => by omega, fun c hc => ?_⟩
      simp at hc; subst hc; simpa using hd
theorem cntP_eq {p : Cel → Bool} {l : List Cel} {i : Nat} (hi : i ≤ l.length) (h1 : ∀ m c, m < i → l[m]? = some c → p c = true) (h2 : ∀ c, l[i]? = some c → p c = false) : cntP p l = i := by
  obtain ⟨g1, g2, g3⟩ := cntP_spec p l
  rcases Nat.lt_trichotomy (cntP p l) i with h | h | h
  · obtain ⟨c, hc⟩ : ∃ c, l[cntP p l]? = some c := ⟨l[cntP p l], List.getElem?_eq_getElem (by omega)⟩
    have a := g3 c hc
    rw [h1 _ c h hc] at a; cases a
  · exact h
  · obtain ⟨c, hc⟩ : ∃ c, l[i]? = some c := ⟨l[i], List.getElem?_eq_getElem (by omega)⟩
    have a := g2 i c h hc
    rw [h2 c hc] at a; cases a
def cnt (l : List Cel) (K : Cel) : Nat := cntP (fun c => c.le K) l
/-- Is its key there? -/
def there (l : List Cel) (k : Nat) (K : Cel) : Bool := match l[k]? with | none => false | some c => c.ke K
/-- Put where it belongs. -/
def putL (l : List Cel) (c : Cel) : List Cel := l.take (cntP (fun d => d.ls c) l) ++ c :: l.drop (cntP (fun d => d.ls c) l + if there l (cntP (fun d => d.ls c) l) c then 1 else 0)
def putP (l : List Cel) (c : Cel) : List Cel × Bool := if okL l then (if c.ok then (if 200 < (putL l c).length then (l, false) else (putL l c, true)) else (l, false)) else ([], false)
theorem cnt_ls {l : List Cel} {c : Cel} (h : okL l = true) (hc : c.ok = true) : cnt l c = cntP (fun d => d.ls c) l := by
  obtain ⟨g1, g2, g3⟩ := cntP_spec (fun d => d.ls c) l
  refine cntP_eq g1 (fun m d hm hd => ?_) (fun d hd => ?_)
  · rw [le_ls (ok_get h hd) hc]; exact g2 m d hm hd
  · rw [le_ls (ok_get h hd) hc]; exact g3 d hd
theorem there_lt {l : List Cel} {k : Nat} {c : Cel} (h : there l k c = true) : k < l.length := by
  unfold there at h
  split at h
  · cases h
  · rename_i hc; exact (List.getElem?_eq_some_iff.1 hc).1
theorem putL_len (l : List Cel) (c : Cel) : (putL l c).length = l.length + 1 - (if there l (cntP (fun d => d.ls c) l) c then 1 else 0) := by
  obtain ⟨g1, g2, g3⟩ := cntP_spec (fun d => d.ls c) l
  unfold putL
  rw [List.length_append, List.length_cons, List.length_take, List.length_drop]
  split
  · rename_i h; have := there_lt h; omega
  · omega
/-- The cell that is found. -/
def hit (K c : Cel) : Bool := c.r.toList == K.r.toList && (c.b.toList == K.b.toList && decide (c.t ≤ K.t))
def findL (l : List Cel) (K : Cel) : Option Cel := l.find? (hit K)
def findP (l : List Cel) (K : Cel) : Cel × Bool := if okL l && keyB K.r.data.toList K.b.data.toList K.t then (match findL l K with | some c => (c, true) | none => (⟨⟨#[]⟩, ⟨#[]⟩, 0, 0, false⟩, false)) else (⟨⟨#[]⟩, ⟨#[]⟩, 0, 0, false⟩, false)
theorem hit_iff {K c : Cel} : hit K c = true ↔ c.r.toList = K.r.toList ∧ c.b.toList = K.b.toList ∧ c.t ≤ K.t := by unfold hit; simp
theorem less_hit {K c : Cel} (h : c.ls K = true) : hit K c = false := by
  cases k : hit K c with
  | false => rfl
  | true =>
    obtain ⟨k1, k2, k3⟩ := hit_iff.1 k
    rw [ls_iff, k1, k2, bl_irr, bl_irr] at h
    rcases h with h | ⟨_, h | ⟨_, h⟩⟩
    · cases h
    · cases h
    · omega
theorem find_skip {p : Cel → Bool} : ∀ {l : List Cel} {k : Nat}, k ≤ l.length → (∀ m c, m < k → l[m]? = some c → p c = false) → l.find? p = (l.drop k).find? p
  | l, 0, _, _ => by rw [List.drop_zero]
  | [], k + 1, h, _ => by simp at h
  | d :: l, k + 1, h, hp => by
    have hd := hp 0 d (by omega) (by simp)
    rw [List.find?_cons, hd, List.drop_succ_cons]
    exact find_skip (by simpa using h) (fun m c hm hc => hp (m + 1) c (by omega) (by simpa using hc))
theorem find_yes {p : Cel → Bool} {l : List Cel} {k : Nat} {c : Cel} (hk : l[k]? = some c) (hp : ∀ m d, m < k → l[m]? = some d → p d = false) (hc : p c = true) : l.find? p = some c := by
  have hkl := (List.getElem?_eq_some_iff.1 hk).1
  rw [find_skip (Nat.le_of_lt hkl) hp, List.drop_eq_getElem_cons hkl, List.find?_cons]
  have : l[k] = c := by rw [List.getElem?_eq_getElem hkl] at hk; exact Option.some.inj hk
  rw [this, hc]
theorem find_no {p : Cel → Bool} {l : List Cel} (hp : ∀ (m : Nat) (d : Cel), l[m]? = some d → p d = false) : l.find? p = none := by
  rw [List.find?_eq_none]
  intro x hx
  obtain ⟨m, hm⟩ := List.mem_iff_getElem?.1 hx
  simp [hp m x hm]
/-- What the first one that is not ahead says. -/
theorem findL_at {l : List Cel} {K c : Cel} (h : okL l = true) (hK : keyB K.r.data.toList K.b.data.toList K.t = true) (hc : l[cnt l K]? = some c) : findL l K = if c.r.toList = K.r.toList ∧ c.b.toList = K.b.toList then some c else none := by
  obtain ⟨g1, g2, g3⟩ := cntP_spec (fun c => c.le K) l
  have hlow : ∀ m d, m < cnt l K → l[m]? = some d → hit K d = false := fun m d hm hd => less_hit (le_keyB (g2 m d hm hd)).2
  have hnl : c.ls K = false := by have := g3 c hc; rwa [le_of (ok_get h hc) hK] at this
  split
  · rename_i e
    refine find_yes hc hlow (hit_iff.2 ⟨e.1, e.2, ?_⟩)
    have : ¬ c.ls K = true := by simp [hnl]
    rw [ls_iff] at this
    have : ¬ K.t < c.t := fun g => this (Or.inr ⟨e.1, Or.inr ⟨e.2, g⟩⟩)
    omega
  · rename_i e
    refine find_no fun m d hd => ?_
    by_cases hm : m < cnt l K
    · exact hlow m d hm hd
    · cases k : hit K d with
      | false => rfl
      | true =>
        exfalso
        obtain ⟨k1, k2, k3⟩ := hit_iff.1 k
        have hkc : K.ls c = true := ls_tri3 c K hnl (by
          cases q : c.ke K with
          | false => rfl
          | true => obtain ⟨q1, q2, _⟩ := (ke_iff c K).1 q; exact absurd ⟨q1, q2⟩ e)
        have hkd : K.ls d = true := by
          by_cases em : m = cnt l K
          · subst em; rw [hc] at hd; cases hd; exact hkc
          · exact ls_trans hkc (sorted h (by omega) hc hd)
        have hcd : m ≠ cnt l K := fun em => by subst em; rw [hc] at hd; cases hd; exact e ⟨k1, k2⟩
        have hcd2 : c.ls d = true := sorted h (by omega) hc hd
        rw [ls_iff] at hkc hcd2
        rw [k1, k2] at hcd2
        rcases hkc with x | ⟨x1, x⟩
        · rcases hcd2 with y | ⟨y1, y⟩
          · have := bl_tr x y; rw [bl_irr] at this; cases this
          · rw [y1, bl_irr] at x; cases x
        · rcases x with x | ⟨x2, x⟩
          · rcases hcd2 with y | ⟨y1, y | ⟨y2, y⟩⟩
            · rw [x1, bl_irr] at y; cases y
            · have := bl_tr x y; rw [bl_irr] at this; cases this
            · rw [y2, bl_irr] at x; cases x
          · exact e ⟨x1.symm, x2.symm⟩
theorem findL_end {l : List Cel} {K : Cel} (hc : cnt l K = l.length) : findL l K = none := by
  obtain ⟨g1, g2, g3⟩ := cntP_spec (fun c => c.le K) l
  refine find_no fun m d hd => less_hit (le_keyB (g2 m d ?_ hd)).2
  have := (List.getElem?_eq_some_iff.1 hd).1
  show m < cnt l K; omega
end Go.Proofs.YtoiphglfngkoiaaDoor.Cl
namespace Go.Proofs.YtoiphglfngkoiaaDoor.Cl
open Go.RowKit Wd Rp Kp
set_option linter.unusedVariables false
theorem coc {p : Addr} {v : Value} {r z : World} (hz : Below r.heap.size r z) (hg : p.block < r.heap.size) (h : r.cell? p = some v) : z.cell? p = some v := (World.cell?_of_block (w := r) (hz.block p.block hg)).trans h
theorem vw_cells {w : World} {ad : Addr} {cap : Nat} {m : List Cel} (h : Vw w (some ad) cap m) : ∀ j u, (flat m)[j]? = some u → w.cell? (ad.add j) = some u := by
  intro j u hj
  have hl : j < m.length * 5 := by rw [← flat_len]; exact (List.getElem?_eq_some_iff.1 hj).1
  have hk : j / 5 < m.length := by omega
  obtain ⟨g, o, e, -, h0, h1, h2, h3, h4⟩ := h.2.2.2 (j / 5) m[j / 5] (List.getElem?_eq_getElem hk)
  cases e
  have hadd : ∀ j, (⟨g, o, none⟩ : Addr).add j = ⟨g, o + j, none⟩ := fun j => by cases j <;> simp [Addr.add]
  have e1 := flat_get m (j / 5) (j % 5) m[j / 5] (List.getElem?_eq_getElem hk) (by omega)
  rw [show j / 5 * 5 + j % 5 = j by omega, hj] at e1
  rw [hadd]
  have hm : j % 5 < 5 := by omega
  have ho : o + j = o + j / 5 * 5 + j % 5 := by omega
  rw [ho, e1]
  generalize j % 5 = i at hm
  match i, hm with
  | 0, _ => exact h0
  | 1, _ => exact h1
  | 2, _ => exact h2
  | 3, _ => exact h3
  | 4, _ => exact h4
/-- A piece from k on, and up to k. -/
theorem Vw.drop {w : World} {a : Option Addr} {cap : Nat} {l : List Cel} (h : Vw w a cap l) {k : Nat} (hk : k ≤ l.length) : Vw w (if cap = k then a else a.map (·.add (k * 5))) (cap - k) (l.drop k) := by
  obtain ⟨h1, h2, h3, h4⟩ := h
  refine ⟨by rw [List.length_drop]; omega, by omega, fun e => ?_, fun i c hi => ?_⟩
  · split at e
    · have := h3 e; omega
    · have := h3 (by simpa using e); omega
  · rw [List.getElem?_drop] at hi
    have hil := (List.getElem?_eq_some_iff.1 hi).1
    obtain ⟨g, o, rfl, hg, h5⟩ := h4 (k + i) c hi
    rw [if_neg (by omega)]
    refine ⟨g, o + k * 5, ?_, hg, ?_⟩
    · simp [Addr.add]
    · rwa [show o + (k + i) * 5 = o + k * 5 + i * 5 by omega] at h5
theorem Vw.take {w : World} {a : Option Addr} {cap : Nat} {l : List Cel} (h : Vw w a cap l) {k m : Nat} (hk : k ≤ l.length) (hm : k ≤ m) (hc : m ≤ cap) (ha : a = none → m = 0) : Vw w a m (l.take k) := by
  obtain ⟨h1, h2, h3, h4⟩ := h
  refine ⟨by rw [List.length_take]; omega, by omega, ha, fun i c hi => ?_⟩
  rw [List.getElem?_take] at hi
  split at hi
  · exact h4 i c hi
  · cases hi
end Go.Proofs.YtoiphglfngkoiaaDoor.Cl
namespace Go.Proofs.YtoiphglfngkoiaaDoor.Cl
open Go.RowKit Wd Rp Kp
set_option linter.unusedVariables false
end Go.Proofs.YtoiphglfngkoiaaDoor.Cl
namespace Go.Proofs.YtoiphglfngkoiaaDoor.Cl
open Go.RowKit Wd Rp Kp
set_option linter.unusedVariables false
end Go.Proofs.YtoiphglfngkoiaaDoor.Cl
