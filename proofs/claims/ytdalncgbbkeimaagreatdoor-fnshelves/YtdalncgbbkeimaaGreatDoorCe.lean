/-
  Slices of cells that a call has made ('OwC'); contracts of laws.szCellS, laws.toCellS, laws.eqCell.
  Plain facts on lists of cells: the order of keys, valid lists are sorted, where a key belongs ('cnt'), a cell put ('putL', 'putP'), a cell found ('findL', 'findP').
  append of cells onto a slice of cells that the call has made; pieces of a slice of cells; the contract of spec.l4Copy.
  Equal slices of cells are found equal by laws.eqCellS. (Made by gen_cf.py.)
  copy of cells into a slice of the call's own; append onto a slice without room; the contract of impl.copyOfCells.
-/
import Derived.Test.YtdalncgbbkeimaaGreatDoorCa
import Derived.Test.YtdalncgbbkeimaaGreatDoorCc
import Derived.OwnWalk
import Derived.Maps.AppendAt
import Derived.Laws.StructEq
import Derived.BigFrame
import Derived.Deep.Upon
import Derived.Deep.RegionHeld3
import Derived.Laws.CopyRow
namespace Go.Proofs.YtdalncgbbkeimaaGreatDoor.Cl
open Go.RowKit Wd Rp Kp
set_option linter.unusedVariables false
def OwC (B : Nat) (w : World) (v : Value) (l : List Cel) : Prop := w.ownsRow B 38 5 v l.length (flat l)
theorem infoC : (Tryz.prog.info? 38).map (fun i => (i.zero, i.size, i.bytes)) = some (some (.agg #[.string ⟨#[]⟩, .string ⟨#[]⟩, .int .i64 0, .int .i64 0, .bool false]), 5, 56) := by kernel_rfl
theorem row_next {B : Nat} {e : TypeId} {k : Nat} {v : Value} {n : Nat} {xs : List Value} {w w' : World} (h : w.ownsRow B e k v n xs) (hb : ∀ g, v.ownBlock = some g → g < w.heap.size → w'.heap[g]? = w.heap[g]?) : w'.ownsRow B e k v n xs := by
  obtain ⟨h1, h2⟩ := h
  refine ⟨h1, ?_⟩
  rcases h2 with h2 | ⟨g, cap, cur, hv, hB, hg, h3⟩
  · exact .inl h2
  · subst hv
    exact .inr ⟨g, cap, cur, rfl, hB, (hb g rfl (Array.getElem?_eq_some_iff.1 hg).1).trans hg, h3⟩
theorem OwC.next {B : Nat} {w w' : World} {v : Value} {l : List Cel} (h : OwC B w v l) (hb : Below w.heap.size w w') : OwC B w' v l := row_next h fun g _ hg => hb.block g hg
theorem OwC.mono {B C : Nat} {w : World} {v : Value} {l : List Cel} (h : OwC B w v l) (hC : C ≤ B) : OwC C w v l := by
  obtain ⟨h1, h2⟩ := h
  refine ⟨h1, ?_⟩
  rcases h2 with h2 | ⟨g, cap, cur, hv, hB, h3⟩
  · exact .inl h2
  · exact .inr ⟨g, cap, cur, hv, Nat.le_trans hC hB, h3⟩
theorem OwC.view {B : Nat} {w : World} {v : Value} {l : List Cel} (h : OwC B w v l) : ∃ a cap, v = .slice a l.length cap ∧ Vw w a cap l ∧
    ∀ k, k < l.length → ∃ g, a = some ⟨g, 0, none⟩ ∧ B ≤ g ∧ ∀ j, w.frozen? ⟨g, j, none⟩ = false := by
  obtain ⟨h1, h2⟩ := h
  rcases h2 with ⟨rfl, hn⟩ | ⟨g, cap, cur, rfl, hB, hg, hn, hc, hsz, hxs⟩
  · refine ⟨none, 0, by rw [hn], ⟨by omega, by decide, fun _ => rfl, fun k c hk => ?_⟩, fun k hk => by omega⟩
    have := (List.getElem?_eq_some_iff.1 hk).1; omega
  · refine ⟨_, cap, rfl, ⟨hn, hc, (fun e => by cases e), fun k c hk => ?_⟩, fun k hk => ⟨g, rfl, hB, fun j => by simp [World.frozen?, hg]⟩⟩
    have hkl := (List.getElem?_eq_some_iff.1 hk).1
    refine ⟨g, 0, rfl, (Array.getElem?_eq_some_iff.1 hg).1, ?_⟩
    have key : ∀ j, j < 5 → w.cell? ⟨g, 0 + k * 5 + j, none⟩ = c.vals[j]? := fun j hj => by
      have e1 := flat_get l k j c hk hj
      rw [← hxs, List.getElem?_take_of_lt (by omega)] at e1
      rw [← e1, Nat.zero_add]
      simp [World.cell?, hg]
    exact ⟨key 0 (by decide), key 1 (by decide), key 2 (by decide), key 3 (by decide), key 4 (by decide)⟩
theorem set_right {a b : List Value} {n : Nat} (h : a.length = 5) (x : Value) (j : Nat) : (a ++ b).set (5 + n + j) x = a ++ b.set (n + j) x := by
  rw [List.set_append_right _ _ (by omega), h, show 5 + n + j - 5 = n + j by omega]
theorem flat_set : ∀ (l : List Cel) (k : Nat) (c : Cel), k < l.length →
    (((((flat l).set (k * 5) (.string c.r)).set (k * 5 + 1) (.string c.b)).set (k * 5 + 2) (.int .i64 c.t)).set (k * 5 + 3) (.int .i64 c.v)).set (k * 5 + 4) (.bool c.g) = flat (l.set k c)
  | [], k, c, h => by simp at h
  | d :: l, 0, c, h => by rfl
  | d :: l, k + 1, c, h => by
    have ih := flat_set l k c (by simpa using h)
    have e0 : (k + 1) * 5 = 5 + k * 5 + 0 := by omega
    rw [flat_cons, List.set_cons_succ, flat_cons, ← ih]
    rw [show (k + 1) * 5 + 1 = 5 + k * 5 + 1 by omega, show (k + 1) * 5 + 2 = 5 + k * 5 + 2 by omega, show (k + 1) * 5 + 3 = 5 + k * 5 + 3 by omega, show (k + 1) * 5 + 4 = 5 + k * 5 + 4 by omega, e0]
    rw [set_right (vals_len d), set_right (vals_len d), set_right (vals_len d), set_right (vals_len d), set_right (vals_len d)]; rfl
theorem OwC.set {B : Nat} {w : World} {g n cap : Nat} {l : List Cel} (h : OwC B w (.slice (some ⟨g, 0, none⟩) n cap) l) (hn : n = l.length) (k : Nat) (hk : k < l.length) (c : Cel) :
    OwC B (((((w.setCell ⟨g, k * 5, none⟩ (.string c.r)).setCell ⟨g, k * 5 + 1, none⟩ (.string c.b)).setCell ⟨g, k * 5 + 2, none⟩ (.int .i64 c.t)).setCell ⟨g, k * 5 + 3, none⟩ (.int .i64 c.v)).setCell ⟨g, k * 5 + 4, none⟩ (.bool c.g)) (.slice (some ⟨g, 0, none⟩) n cap) (l.set k c) := by
  subst hn
  have h0 := (World.ownsRow.stored h (k * 5) (.string c.r)).1
  have h1 := (World.ownsRow.stored h0 (k * 5 + 1) (.string c.b)).1
  have h2 := (World.ownsRow.stored h1 (k * 5 + 2) (.int .i64 c.t)).1
  have h3 := (World.ownsRow.stored h2 (k * 5 + 3) (.int .i64 c.v)).1
  have h4 := (World.ownsRow.stored h3 (k * 5 + 4) (.bool c.g)).1
  unfold OwC
  rw [List.length_set, ← flat_set l k c hk]; exact h4
theorem bel_set5o {B : Nat} {a w : World} (h : Below B a w) {n o : Nat} (hn : B ≤ n) (x0 x1 x2 x3 x4 : Value) : Below B a (((((w.setCell ⟨n, o, none⟩ x0).setCell ⟨n, o + 1, none⟩ x1).setCell ⟨n, o + 2, none⟩ x2).setCell ⟨n, o + 3, none⟩ x3).setCell ⟨n, o + 4, none⟩ x4) :=
  ((((h.setCell (p := ⟨n, o, none⟩) hn _).setCell (p := ⟨n, o + 1, none⟩) hn _).setCell (p := ⟨n, o + 2, none⟩) hn _).setCell (p := ⟨n, o + 3, none⟩) hn _).setCell (p := ⟨n, o + 4, none⟩) hn _
def zc : Cel := ⟨⟨#[]⟩, ⟨#[]⟩, 0, 0, false⟩
theorem made_flat : ∀ n, (madeCells (Value.agg #[.string ⟨#[]⟩, .string ⟨#[]⟩, .int .i64 0, .int .i64 0, .bool false]).cells (n * 5)).toList = flat (List.replicate n zc) := by
  intro n
  rw [madeCells, Array.toList_map, Array.toList_range]
  induction n with
  | zero => rfl
  | succ n ih =>
    rw [List.replicate_succ', flat_app, ← ih, show (n + 1) * 5 = n * 5 + 1 + 1 + 1 + 1 + 1 by omega, List.range_succ, List.range_succ, List.range_succ, List.range_succ, List.range_succ]
    simp only [List.map_append, List.map_cons, List.map_nil, List.append_assoc]
    congr 1
    have e : ∀ j, j < 5 → (n * 5 + j) % 5 = j := fun j hj => by omega
    have hs : (Value.agg #[.string ⟨#[]⟩, .string ⟨#[]⟩, .int .i64 0, .int .i64 0, .bool false]).cells.size = 5 := rfl
    simp only [hs, show n * 5 % 5 = 0 by omega, show (n * 5 + 1) % 5 = 1 by omega, show (n * 5 + 1 + 1) % 5 = 2 by omega, show (n * 5 + 1 + 1 + 1) % 5 = 3 by omega, show (n * 5 + 1 + 1 + 1 + 1) % 5 = 4 by omega]
    rfl
end Go.Proofs.YtdalncgbbkeimaaGreatDoor.Cl
namespace Go.Proofs.YtdalncgbbkeimaaGreatDoor.Cl
open Go.RowKit Wd Rp Kp
set_option linter.unusedVariables false
theorem bl_tr : ∀ {x y z : List UInt8}, Op.bytesLess x y = true → Op.bytesLess y z = true → Op.bytesLess x z = true
  | _, [], _, h, _ => by simp [Op.bytesLess] at h
  | _, _ :: _, [], _, h => by simp [Op.bytesLess] at h
  | [], _ :: _, _ :: _, _, _ => by simp [Op.bytesLess]
  | a :: x, b :: y, c :: z, h, k => by
    simp only [Op.bytesLess, Bool.or_eq_true, Bool.and_eq_true, decide_eq_true_eq, beq_iff_eq] at h k ⊢
    rcases h with h | ⟨h1, h2⟩
    · rcases k with k | ⟨k1, k2⟩
      · left; rw [UInt8.lt_iff_toNat_lt] at h k ⊢; omega
      · left; rw [← k1]; exact h
    · rcases k with k | ⟨k1, k2⟩
      · left; rw [h1]; exact k
      · right; exact ⟨h1.trans k1, bl_tr h2 k2⟩
theorem bl_three : ∀ (x y : List UInt8), (Op.bytesLess x y || Op.bytesLess y x) = !(x == y)
  | [], [] => rfl
  | [], _ :: _ => rfl
  | _ :: _, [] => rfl
  | a :: x, b :: y => by
    have ih := bl_three x y
    by_cases e : a = b
    · subst e
      simp only [Op.bytesLess]
      simpa using ih
    · have h : a < b ∨ b < a := by
        rw [UInt8.lt_iff_toNat_lt, UInt8.lt_iff_toNat_lt]
        have : a.toNat ≠ b.toNat := fun g => e (UInt8.toNat_inj.1 g)
        omega
      have hne : (a :: x == b :: y) = false := by rw [beq_eq_false_iff_ne]; intro g; exact e (List.cons.inj g).1
      rw [hne]
      rcases h with h | h <;> simp [Op.bytesLess, h]
theorem ls_iff (c d : Cel) : c.ls d = true ↔ Op.bytesLess c.r.toList d.r.toList = true ∨ c.r.toList = d.r.toList ∧ (Op.bytesLess c.b.toList d.b.toList = true ∨ c.b.toList = d.b.toList ∧ d.t < c.t) := by
  unfold Cel.ls lsB
  by_cases h1 : c.r.toList = d.r.toList
  · by_cases h2 : c.b.toList = d.b.toList
    · simp [h1, h2, bl_irr]
    · simp [h1, h2, bl_irr]
  · simp [h1]
theorem ls_trans {a b c : Cel} (h : a.ls b = true) (k : b.ls c = true) : a.ls c = true := by
  rw [ls_iff] at h k ⊢
  rcases h with h | ⟨h1, h⟩
  · rcases k with k | ⟨k1, k⟩
    · exact Or.inl (bl_tr h k)
    · exact Or.inl (by rw [← k1]; exact h)
  · rcases k with k | ⟨k1, k⟩
    · exact Or.inl (by rw [h1]; exact k)
    · refine Or.inr ⟨h1.trans k1, ?_⟩
      rcases h with h | ⟨h2, h⟩
      · rcases k with k | ⟨k2, k⟩
        · exact Or.inl (bl_tr h k)
        · exact Or.inl (by rw [← k2]; exact h)
      · rcases k with k | ⟨k2, k⟩
        · exact Or.inl (by rw [h2]; exact k)
        · exact Or.inr ⟨h2.trans k2, by omega⟩
theorem ls_irr (a : Cel) : a.ls a = false := by
  cases h : a.ls a with
  | false => rfl
  | true =>
    rw [ls_iff, bl_irr, bl_irr] at h
    rcases h with h | ⟨_, h | ⟨_, h⟩⟩
    · cases h
    · cases h
    · omega
/-- Have they one key? -/
def Cel.ke (c d : Cel) : Bool := c.r == d.r && (c.b == d.b && c.t == d.t)
theorem ke_iff (c d : Cel) : c.ke d = true ↔ c.r.toList = d.r.toList ∧ c.b.toList = d.b.toList ∧ c.t = d.t := by
  unfold Cel.ke; rw [ba_beq, ba_beq]; simp
theorem ba_ext {x y : ByteArray} (h : x.toList = y.toList) : x = y := by
  rw [Lib.toList_data, Lib.toList_data] at h
  exact ByteArray.ext (Array.toList_inj.1 h)
theorem ls_tri3 (c d : Cel) (h : c.ls d = false) (k : c.ke d = false) : d.ls c = true := by
  have h' : ¬ c.ls d = true := by simp [h]
  have k' : ¬ c.ke d = true := by simp [k]
  rw [ls_iff] at h' ⊢
  rw [ke_iff] at k'
  have t1 := bl_three c.r.toList d.r.toList
  have t2 := bl_three c.b.toList d.b.toList
  by_cases e1 : c.r.toList = d.r.toList
  · by_cases e2 : c.b.toList = d.b.toList
    · refine Or.inr ⟨e1.symm, Or.inr ⟨e2.symm, ?_⟩⟩
      have n1 : ¬ d.t < c.t := fun g => h' (Or.inr ⟨e1, Or.inr ⟨e2, g⟩⟩)
      have n2 : ¬ c.t = d.t := fun g => k' ⟨e1, e2, g⟩
      omega
    · refine Or.inr ⟨e1.symm, Or.inl ?_⟩
      have n1 : Op.bytesLess c.b.toList d.b.toList = false := by
        cases g : Op.bytesLess c.b.toList d.b.toList with
        | false => rfl
        | true => exact absurd (Or.inr ⟨e1, Or.inl g⟩) h'
      rw [n1, Bool.false_or] at t2
      rw [t2]; simpa using e2
  · refine Or.inl ?_
    have n1 : Op.bytesLess c.r.toList d.r.toList = false := by
      cases g : Op.bytesLess c.r.toList d.r.toList with
      | false => rfl
      | true => exact absurd (Or.inl g) h'
    rw [n1, Bool.false_or] at t1
    rw [t1]; simpa using e1
theorem ls_ke {c d : Cel} (h : c.ke d = true) (e : Cel) : e.ls c = e.ls d ∧ c.ls e = d.ls e := by
  obtain ⟨h1, h2, h3⟩ := (ke_iff c d).1 h
  have e1 := ba_ext h1
  have e2 := ba_ext h2
  unfold Cel.ls
  rw [e1, e2, h3]; exact ⟨rfl, rfl⟩
theorem ls_asym {c d : Cel} (h : c.ls d = true) : d.ls c = false := by
  cases k : d.ls c with
  | false => rfl
  | true => have := ls_trans h k; rw [ls_irr] at this; cases this
theorem ok_get {l : List Cel} (h : okL l = true) {k : Nat} {c : Cel} (hk : l[k]? = some c) : c.ok = true :=
  okAt_ok ((okL_iff.1 h).1 k (List.getElem?_eq_some_iff.1 hk).1) hk
theorem sorted {l : List Cel} (h : okL l = true) {i : Nat} : ∀ {j : Nat} {c d : Cel}, i < j → l[i]? = some c → l[j]? = some d → c.ls d = true
  | 0, c, d, hij, _, _ => by omega
  | j + 1, c, d, hij, hc, hd => by
    have hj := (List.getElem?_eq_some_iff.1 hd).1
    obtain ⟨q, hq⟩ : ∃ q, l[j]? = some q := ⟨l[j], List.getElem?_eq_getElem (by omega)⟩
    have h1 := (okL_iff.1 h).1 (j + 1) hj
    rw [okAt_succ hd hq, Bool.and_eq_true] at h1
    by_cases e : i = j
    · subst e; rw [hc] at hq; cases hq; exact h1.2
    · exact ls_trans (sorted h (by omega) hc hq) h1.2
theorem le_keyB {c K : Cel} (h : c.le K = true) : keyB K.r.data.toList K.b.data.toList K.t = true ∧ c.ls K = true := by
  unfold Cel.le lessB at h
  rw [Bool.and_eq_true, Bool.and_eq_true] at h
  exact ⟨h.2.1, h.2.2⟩
theorem le_of {c K : Cel} (h : c.ok = true) (hK : keyB K.r.data.toList K.b.data.toList K.t = true) : c.le K = c.ls K := by
  unfold Cel.le lessB; rw [ok_key h, hK, Bool.true_and, Bool.true_and]; rfl
theorem le_mono {l : List Cel} (h : okL l = true) {i j : Nat} {c d K : Cel} (hij : i < j) (hc : l[i]? = some c) (hd : l[j]? = some d) (hd2 : d.le K = true) : c.le K = true := by
  obtain ⟨h1, h2⟩ := le_keyB hd2
  rw [le_of (ok_get h hc) h1]
  exact ls_trans (sorted h hij hc hd) h2
/-- How many stand ahead. -/
def cntP (p : Cel → Bool) (l : List Cel) : Nat := (l.takeWhile p).length
theorem cntP_spec (p : Cel → Bool) : ∀ l : List Cel, cntP p l ≤ l.length ∧ (∀ m c, m < cntP p l → l[m]? = some c → p c = true) ∧ (∀ c, l[cntP p l]? = some c → p c = false)
  | [] => ⟨Nat.le_refl _, fun m c hm => by simp [cntP] at hm, fun c hc => by simp at hc⟩
  | d :: l => by
    obtain ⟨h1, h2, h3⟩ := cntP_spec p l
    by_cases hd : p d = true
    · have e : cntP p (d :: l) = cntP p l + 1 := by simp [cntP, hd]
      rw [e]
      refine ⟨by simp; omega, fun m c hm hc => ?_, fun c hc => ?_⟩
      · cases m with
        | zero => simp at hc; subst hc; exact hd
        | succ m => exact h2 m c (by omega) (by simpa using hc)
      · exact h3 c (by simpa using hc)
    · have e : cntP p (d :: l) = 0 := by simp [cntP, hd]
      rw [e]
      refine ⟨Nat.zero_le _, fun m c hm => by omega, fun c hc => ?_⟩
      simp at hc; subst hc; simpa using hd
theorem cntP_eq {p : Cel → Bool} {l : List Cel} {i : Nat} (hi : i ≤ l.length) (h1 : ∀ m c, m < i → l[m]? = some c → p c = true) (h2 : ∀ c, l[i]? = some c → p c = false) : cntP p l = i := by
  obtain ⟨g1, g2, g3⟩ := cntP_spec p l
  rcases Nat.lt_trichotomy (cntP p l) i with h | h | h
  · obtain ⟨c, hc⟩ : ∃ c, l[cntP p l]? = some c := ⟨l[cntP p l], List.getElem?_eq_getElem (by omega)⟩
    have a := g3 c hc
    rw [h1 _ c h hc] at a; cases a
  · exact h
  · obtain ⟨c, hc⟩ : ∃ c, l[i]? = some c := ⟨l[i], List.getElem?_eq_getElem (by omega)⟩
    have a := g2 i c h hc
    rw [h2 c hc] at a; cases a
def cnt (l : List Cel) (K : Cel) : Nat := cntP (fun c => c.le K) l
/-- Is its key there? -/
def there (l : List Cel) (k : Nat) (K : Cel) : Bool := match l[k]? with | none => false | some c => c.ke K
/-- Put where it belongs. -/
def putL (l : List Cel) (c : Cel) : List Cel := l.take (cntP (fun d => d.ls c) l) ++ c :: l.drop (cntP (fun d => d.ls c) l + if there l (cntP (fun d => d.ls c) l) c then 1 else 0)
def putP (l : List Cel) (c : Cel) : List Cel × Bool := if okL l then (if c.ok then (if 200 < (putL l c).length then (l, false) else (putL l c, true)) else (l, false)) else ([], false)
theorem cnt_ls {l : List Cel} {c : Cel} (h : okL l = true) (hc : c.ok = true) : cnt l c = cntP (fun d => d.ls c) l := by
  obtain ⟨g1, g2, g3⟩ := cntP_spec (fun d => d.ls c) l
  refine cntP_eq g1 (fun m d hm hd => ?_) (fun d hd => ?_)
  · rw [le_ls (ok_get h hd) hc]; exact g2 m d hm hd
  · rw [le_ls (ok_get h hd) hc]; exact g3 d hd
theorem there_lt {l : List Cel} {k : Nat} {c : Cel} (h : there l k c = true) : k < l.length := by
  unfold there at h
  split at h
  · cases h
  · rename_i hc; exact (List.getElem?_eq_some_iff.1 hc).1
theorem putL_len (l : List Cel) (c : Cel) : (putL l c).length = l.length + 1 - (if there l (cntP (fun d => d.ls c) l) c then 1 else 0) := by
  obtain ⟨g1, g2, g3⟩ := cntP_spec (fun d => d.ls c) l
  unfold putL
  rw [List.length_append, List.length_cons, List.length_take, List.length_drop]
  split
  · rename_i h; have := there_lt h; omega
  · omega
/-- The cell that is found. -/
def hit (K c : Cel) : Bool := c.r.toList == K.r.toList && (c.b.toList == K.b.toList && decide (c.t ≤ K.t))
def findL (l : List Cel) (K : Cel) : Option Cel := l.find? (hit K)
def findP (l : List Cel) (K : Cel) : Cel × Bool := if okL l && keyB K.r.data.toList K.b.data.toList K.t then (match findL l K with | some c => (c, true) | none => (⟨⟨#[]⟩, ⟨#[]⟩, 0, 0, false⟩, false)) else (⟨⟨#[]⟩, ⟨#[]⟩, 0, 0, false⟩, false)
theorem hit_iff {K c : Cel} : hit K c = true ↔ c.r.toList = K.r.toList ∧ c.b.toList = K.b.toList ∧ c.t ≤ K.t := by unfold hit; simp
theorem less_hit {K c : Cel} (h : c.ls K = true) : hit K c = false := by
  cases k : hit K c with
  | false => rfl
  | true =>
    obtain ⟨k1, k2, k3⟩ := hit_iff.1 k
    rw [ls_iff, k1, k2, bl_irr, bl_irr] at h
    rcases h with h | ⟨_, h | ⟨_, h⟩⟩
    · cases h
    · cases h
    · omega
theorem find_skip {p : Cel → Bool} : ∀ {l : List Cel} {k : Nat}, k ≤ l.length → (∀ m c, m < k → l[m]? = some c → p c = false) → l.find? p = (l.drop k).find? p
  | l, 0, _, _ => by rw [List.drop_zero]
  | [], k + 1, h, _ => by simp at h
  | d :: l, k + 1, h, hp => by
    have hd := hp 0 d (by omega) (by simp)
    rw [List.find?_cons, hd, List.drop_succ_cons]
    exact find_skip (by simpa using h) (fun m c hm hc => hp (m + 1) c (by omega) (by simpa using hc))
theorem find_yes {p : Cel → Bool} {l : List Cel} {k : Nat} {c : Cel} (hk : l[k]? = some c) (hp : ∀ m d, m < k → l[m]? = some d → p d = false) (hc : p c = true) : l.find? p = some c := by
  have hkl := (List.getElem?_eq_some_iff.1 hk).1
  rw [find_skip (Nat.le_of_lt hkl) hp, List.drop_eq_getElem_cons hkl, List.find?_cons]
  have : l[k] = c := by rw [List.getElem?_eq_getElem hkl] at hk; exact Option.some.inj hk
  rw [this, hc]
theorem find_no {p : Cel → Bool} {l : List Cel} (hp : ∀ (m : Nat) (d : Cel), l[m]? = some d → p d = false) : l.find? p = none := by
  rw [List.find?_eq_none]
  intro x hx
  obtain ⟨m, hm⟩ := List.mem_iff_getElem?.1 hx
  simp [hp m x hm]
/-- What the first one that is not ahead says. -/
theorem findL_at {l : List Cel} {K c : Cel} (h : okL l = true) (hK : keyB K.r.data.toList K.b.data.toList K.t = true) (hc : l[cnt l K]? = some c) : findL l K = if c.r.toList = K.r.toList ∧ c.b.toList = K.b.toList then some c else none := by
  obtain ⟨g1, g2, g3⟩ := cntP_spec (fun c => c.le K) l
  have hlow : ∀ m d, m < cnt l K → l[m]? = some d → hit K d = false := fun m d hm hd => less_hit (le_keyB (g2 m d hm hd)).2
  have hnl : c.ls K = false := by have := g3 c hc; rwa [le_of (ok_get h hc) hK] at this
  split
  · rename_i e
    refine find_yes hc hlow (hit_iff.2 ⟨e.1, e.2, ?_⟩)
    have : ¬ c.ls K = true := by simp [hnl]
    rw [ls_iff] at this
    have : ¬ K.t < c.t := fun g => this (Or.inr ⟨e.1, Or.inr ⟨e.2, g⟩⟩)
    omega
  · rename_i e
    refine find_no fun m d hd => ?_
    by_cases hm : m < cnt l K
    · exact hlow m d hm hd
    · cases k : hit K d with
      | false => rfl
      | true =>
        exfalso
        obtain ⟨k1, k2, k3⟩ := hit_iff.1 k
        have hkc : K.ls c = true := ls_tri3 c K hnl (by
          cases q : c.ke K with
          | false => rfl
          | true => obtain ⟨q1, q2, _⟩ := (ke_iff c K).1 q; exact absurd ⟨q1, q2⟩ e)
        have hkd : K.ls d = true := by
          by_cases em : m = cnt l K
          · subst em; rw [hc] at hd; cases hd; exact hkc
          · exact ls_trans hkc (sorted h (by omega) hc hd)
        have hcd : m ≠ cnt l K := fun em => by subst em; rw [hc] at hd; cases hd; exact e ⟨k1, k2⟩
        have hcd2 : c.ls d = true := sorted h (by omega) hc hd
        rw [ls_iff] at hkc hcd2
        rw [k1, k2] at hcd2
        rcases hkc with x | ⟨x1, x⟩
        · rcases hcd2 with y | ⟨y1, y⟩
          · have := bl_tr x y; rw [bl_irr] at this; cases this
          · rw [y1, bl_irr] at x; cases x
        · rcases x with x | ⟨x2, x⟩
          · rcases hcd2 with y | ⟨y1, y | ⟨y2, y⟩⟩
            · rw [x1, bl_irr] at y; cases y
            · have := bl_tr x y; rw [bl_irr] at this; cases this
            · rw [y2, bl_irr] at x; cases x
          · exact e ⟨x1.symm, x2.symm⟩
theorem findL_end {l : List Cel} {K : Cel} (hc : cnt l K = l.length) : findL l K = none := by
  obtain ⟨g1, g2, g3⟩ := cntP_spec (fun c => c.le K) l
  refine find_no fun m d hd => less_hit (le_keyB (g2 m d ?_ hd)).2
  have := (List.getElem?_eq_some_iff.1 hd).1
  show m < cnt l K; omega
/-- Keys are compared field by field. -/
theorem keyEq (r s : ByteArray) (t : Int) (r' s' : ByteArray) (t' : Int) (w : World) : (Op.equalIn 10000 36 (.agg #[.string r, .string s, .int .i64 t]) (.agg #[.string r', .string s', .int .i64 t'])).run Tryz.prog w = .ok (r == r' && (s == s' && t == t')) w := by
  have u3 := Tryz.underlying9
  have a3 := Tryz.isAgg9
  have z3 := Tryz.sizeOf9
  have u2 := Tryz.underlying2
  have a2 := Tryz.isAgg2
  have z2 := Tryz.sizeOf2
  have s9 := fun a b w => strEq 9998 a b w
  have hS : Tryz.prog.underlying 36 = some (.struct (Tryz.prog.fieldsOf 36)) := by kernel_rfl
  rw [show (10000 : Nat) = 9999 + 1 from rfl, run_equalIn_struct w 9999 36 _ _ hS (by kernel_rfl)]
  simp only [Program.fieldsOf, Tryz.underlying36]
  go_simp
  by_cases ht : t = t'
  · have e : (t == t') = true := by simpa using ht
    rw [if_pos ht, e]; cases r == r' <;> cases s == s' <;> rfl
  · have e : (t == t') = false := by simpa using ht
    rw [if_neg ht, e]; cases r == r' <;> cases s == s' <;> rfl
end Go.Proofs.YtdalncgbbkeimaaGreatDoor.Cl
namespace Go.Proofs.YtdalncgbbkeimaaGreatDoor.Cl
open Go.RowKit Wd Rp Kp
set_option linter.unusedVariables false
theorem coc {p : Addr} {v : Value} {r z : World} (hz : Below r.heap.size r z) (hg : p.block < r.heap.size) (h : r.cell? p = some v) : z.cell? p = some v := (World.cell?_of_block (w := r) (hz.block p.block hg)).trans h
theorem vw_cells {w : World} {ad : Addr} {cap : Nat} {m : List Cel} (h : Vw w (some ad) cap m) : ∀ j u, (flat m)[j]? = some u → w.cell? (ad.add j) = some u := by
  intro j u hj
  have hl : j < m.length * 5 := by rw [← flat_len]; exact (List.getElem?_eq_some_iff.1 hj).1
  have hk : j / 5 < m.length := by omega
  obtain ⟨g, o, e, -, h0, h1, h2, h3, h4⟩ := h.2.2.2 (j / 5) m[j / 5] (List.getElem?_eq_getElem hk)
  cases e
  have hadd : ∀ j, (⟨g, o, none⟩ : Addr).add j = ⟨g, o + j, none⟩ := fun j => by cases j <;> simp [Addr.add]
  have e1 := flat_get m (j / 5) (j % 5) m[j / 5] (List.getElem?_eq_getElem hk) (by omega)
  rw [show j / 5 * 5 + j % 5 = j by omega, hj] at e1
  rw [hadd]
  have hm : j % 5 < 5 := by omega
  have ho : o + j = o + j / 5 * 5 + j % 5 := by omega
  rw [ho, e1]
  generalize j % 5 = i at hm
  match i, hm with
  | 0, _ => exact h0
  | 1, _ => exact h1
  | 2, _ => exact h2
  | 3, _ => exact h3
  | 4, _ => exact h4
theorem run_append_cells {w : World} {base : Nat} {v : Value} {a : Option Addr} {cap : Nat} {l m : List Cel} (ty : TypeId) (hown : OwC base w v l) (hy : Vw w a cap m) (hlen : l.length + m.length ≤ 10000000) (hbase : base ≤ w.heap.size) :
    ∃ v' w', (Builtin.append_ #[24, 24] ty #[v, .slice a m.length cap]).run Tryz.prog w = .ok v' w' ∧ OwC base w' v' (l ++ m) ∧ w.grownBy w' v.ownBlock ∧ (v'.ownBlock = v.ownBlock ∨ v'.ownBlock = some w.heap.size) := by
  obtain ⟨i0, hi, hz0, hz1, hz2⟩ := info_parts infoC
  cases a with
  | none =>
    have hc := hy.2.2.1 rfl
    have hm : m = [] := List.length_eq_zero_iff.1 (by have := hy.1; omega)
    subst hm hc
    rw [List.append_nil]
    exact ⟨v, w, run_append_owned_none w base 24 ty 38 i0 5 Tryz.underlying24 hi v _ _ hown, hown, World.grownBy.refl _ _, Or.inl rfl⟩
  | some ad =>
    obtain ⟨v', w', hr, h2, h3, h4, h5⟩ := run_append_own_at (P := Tryz.prog) w base 24 ty 38 i0 _ 5 56 Tryz.underlying24 hi hz0 hz1 hz2 rfl (by decide) v l.length (flat l) hown
      ad m.length cap (flat m) (flat_len m) (vw_cells hy) (flat_one m) (by unfold maxLen; omega) (by omega) hbase
    refine ⟨v', w', hr, ?_, h3, h5⟩
    unfold OwC
    rw [List.length_append, flat_app]; exact h2
theorem step_append_cells {ops : Array Oper} {o : Oper} {a : Act} {Q : Exit → Act → World → Prop} {K : Act → World → Prop} {w : World} (hw : Region.wanted o (yielded ops a.tmps) = true) (s x : Operand)
    (ho : o.op = .call { callee := .builtin .append, args := #[s, x], argTypes := #[24, 24] })
    {base : Nat} {v : Value} {ad : Option Addr} {cap n : Nat} {l m : List Cel} (hs : a.eval s = v) (hx : a.eval x = .slice ad n cap) (hmn : m.length = n) (hown : OwC base w v l) (hy : Vw w ad cap m) (hlen : l.length + m.length ≤ 10000000) (hbase : base ≤ w.heap.size)
    (h : ∀ v' w', OwC base w' v' (l ++ m) → w.grownBy w' v.ownBlock → K (a.put o.dst v') w') :
    if Region.wanted o (yielded ops a.tmps) = true then Oper.wp Tryz.prog o a w K Q else K (a.put o.dst undef) w := by
  rw [if_pos hw]
  subst hmn
  obtain ⟨v', w', hr, h2, h3, -⟩ := run_append_cells o.type hown hy hlen hbase
  unfold Oper.wp execOp
  simp only [ho, resolve, invoke, builtin, Sem.run_bind, Sem.run_pure, Result.andThen_ok, List.map_toArray, List.map_cons, List.map_nil, hs, hx, hr]
  exact h v' w' h2 h3
theorem append_cells {ops : Array Oper} {rest : List Oper} {o : Oper} {a : Act} {Q : Exit → Act → World → Prop} {w : World} (hw : Region.wanted o (yielded ops a.tmps) = true) (s x : Operand)
    (ho : o.op = .call { callee := .builtin .append, args := #[s, x], argTypes := #[24, 24] })
    {base : Nat} {v : Value} {ad : Option Addr} {cap n : Nat} {l m : List Cel} (hs : a.eval s = v) (hx : a.eval x = .slice ad n cap) (hmn : m.length = n) (hown : OwC base w v l) (hy : Vw w ad cap m) (hlen : l.length + m.length ≤ 10000000) (hbase : base ≤ w.heap.size)
    (h : ∀ v' w', OwC base w' v' (l ++ m) → w.grownBy w' v.ownBlock → wpList Tryz.prog ops Q rest (a.put o.dst v') w') : wpList Tryz.prog ops Q (o :: rest) a w := by
  refine BigFrame.wpList_want hw fun K hK => ?_
  subst hmn
  obtain ⟨v', w', hr, h2, h3, -⟩ := run_append_cells o.type hown hy hlen hbase
  unfold Oper.wp execOp
  simp only [ho, resolve, invoke, builtin, Sem.run_bind, Sem.run_pure, Result.andThen_ok, List.map_toArray, List.map_cons, List.map_nil, hs, hx, hr]
  exact hK _ _ (h v' w' h2 h3)
theorem OwC.lt {B : Nat} {w : World} {v : Value} {l : List Cel} (h : OwC B w v l) : ∀ k, v.ownBlock = some k → B ≤ k := fun k hk => (World.ownsRow.lt h k hk).1
theorem OwC.start {B : Nat} {w : World} (h : B ≤ w.heap.size) : OwC B (w.alloc (.cells #[] 38)) (.slice (some ⟨w.heap.size, 0, none⟩) 0 0) [] := World.ownsRow_made w #[] 0 h (by decide) rfl
theorem OwC.nothing (B : Nat) (w : World) : OwC B w (.slice none 0 0) [] := World.ownsRow_nil w B _ _
theorem OwC.lit {B : Nat} {w : World} (h : B ≤ w.heap.size) (c : Cel) : OwC B (w.alloc (.cells #[.string c.r, .string c.b, .int .i64 c.t, .int .i64 c.v, .bool c.g] 38)) (.slice (some ⟨w.heap.size, 0, none⟩) 1 1) [c] :=
  World.ownsRow_lit (base := B) (e := 38) (size := 5) w #[.string c.r, .string c.b, .int .i64 c.t, .int .i64 c.v, .bool c.g] 1 h (by decide) rfl
theorem Vw.lit (w : World) (c : Cel) : Vw (w.alloc (.cells #[.string c.r, .string c.b, .int .i64 c.t, .int .i64 c.v, .bool c.g] 38)) (some ⟨w.heap.size, 0, none⟩) 1 [c] := by
  obtain ⟨a, cap, e, hv, -⟩ := (OwC.lit (B := 0) (w := w) (Nat.zero_le _) c).view
  cases e
  exact hv
/-- A piece from k on, and up to k. -/
theorem Vw.drop {w : World} {a : Option Addr} {cap : Nat} {l : List Cel} (h : Vw w a cap l) {k : Nat} (hk : k ≤ l.length) : Vw w (if cap = k then a else a.map (·.add (k * 5))) (cap - k) (l.drop k) := by
  obtain ⟨h1, h2, h3, h4⟩ := h
  refine ⟨by rw [List.length_drop]; omega, by omega, fun e => ?_, fun i c hi => ?_⟩
  · split at e
    · have := h3 e; omega
    · have := h3 (by simpa using e); omega
  · rw [List.getElem?_drop] at hi
    have hil := (List.getElem?_eq_some_iff.1 hi).1
    obtain ⟨g, o, rfl, hg, h5⟩ := h4 (k + i) c hi
    rw [if_neg (by omega)]
    refine ⟨g, o + k * 5, ?_, hg, ?_⟩
    · simp [Addr.add]
    · rwa [show o + (k + i) * 5 = o + k * 5 + i * 5 by omega] at h5
theorem Vw.take {w : World} {a : Option Addr} {cap : Nat} {l : List Cel} (h : Vw w a cap l) {k m : Nat} (hk : k ≤ l.length) (hm : k ≤ m) (hc : m ≤ cap) (ha : a = none → m = 0) : Vw w a m (l.take k) := by
  obtain ⟨h1, h2, h3, h4⟩ := h
  refine ⟨by rw [List.length_take]; omega, by omega, ha, fun i c hi => ?_⟩
  rw [List.getElem?_take] at hi
  split at hi
  · exact h4 i c hi
  · cases hi
set_option maxRecDepth 100000 in
theorem cut_from (a : Option Addr) (n cap k : Nat) (hk : k ≤ n) : ∃ b cb, (∀ w, (Instr.slice 24 (.slice a n cap) (some (.int .i64 (k : Int))) none none).run Tryz.prog w = .ok (.slice b (n - k) cb) w) ∧
    ∀ w l, Vw w a cap l → l.length = n → Vw w b cb (l.drop k) := by
  refine ⟨_, _, fun w => ?_, fun w l h hl => h.drop (k := k) (by omega)⟩
  have hu : Tryz.prog.underlying 24 = some (.slice (Tryz.prog.elem 24)) := by kernel_rfl
  have hs : ∀ w, (sizeOf (Tryz.prog.elem 24)).run Tryz.prog w = .ok 5 w := fun w => by
    rw [show Tryz.prog.elem 24 = 38 by kernel_rfl]; exact Tryz.sizeOf38 w
  rw [run_slice_l w 24 a n cap hu .i64 (k : Int) (by omega) (by omega), hs]
  rfl
set_option maxRecDepth 100000 in
theorem cut_to (a : Option Addr) (n cap k : Nat) (hk : k ≤ n) (hn : n ≤ cap) (hz : a = none → cap = 0) : (∀ w, (Instr.slice 24 (.slice a n cap) none (some (.int .i64 (k : Int))) none).run Tryz.prog w = .ok (.slice a k cap) w) ∧
    ∀ w l, Vw w a cap l → l.length = n → Vw w a cap (l.take k) := by
  refine ⟨fun w => ?_, fun w l h hl => h.take (by omega) (by omega) (Nat.le_refl _) hz⟩
  have hu : Tryz.prog.underlying 24 = some (.slice (Tryz.prog.elem 24)) := by kernel_rfl
  have hs : ∀ w, (sizeOf (Tryz.prog.elem 24)).run Tryz.prog w = .ok 5 w := fun w => by
    rw [show Tryz.prog.elem 24 = 38 by kernel_rfl]; exact Tryz.sizeOf38 w
  rw [run_slice_h w 24 a n cap hu .i64 (k : Int) (by omega) (by omega), hs]
  show Result.ok (Value.slice (if cap = 0 then a else a.map (·.add (0 * 5))) (k - 0) (cap - 0)) w = _
  congr 2
  split
  · rfl
  · cases a <;> simp [Addr.add]
set_option maxHeartbeats 2000000 in
theorem l4Copy_any (w : World) (a : Option Addr) (cap : Nat) (l : List Cel) (n : Nat) (hn : l.length = n) (hv : Vw w a cap l) (hl : n ≤ 4194304) :
    Calls Tryz.prog 64 #[.slice a n cap] w fun e w' => ∃ v, e = .returned v ∧ OwC w.heap.size w' v l ∧ Below w.heap.size w w' := by
  subst hn
  have HV := Lib.hid hv; clear hv
  go_enter Tryz.func64, Tryz.ntmps64
  go_wp2_with (first
    | (at_builtin; refine append_cells rfl (.tmp 3) (.tmp 4) rfl (base := w.heap.size) (l := []) (m := l) rfl rfl rfl (OwC.start (Nat.le_refl _)) (HV.out.below (bel1 _ _)) (by simp; omega) (by simp) ?_; intro v1 w1 hown1 hgrow1))
  go_ret
  exact ⟨_, rfl, hown1, (bel1 w _).grown hgrow1 (by simp) (fun j hj => OwC.lt (OwC.start (Nat.le_refl _)) j hj)⟩
end Go.Proofs.YtdalncgbbkeimaaGreatDoor.Cl
namespace Go.Proofs.YtdalncgbbkeimaaGreatDoor.Cl
open Go.RowKit Wd Rp Kp
set_option linter.unusedVariables false
end Go.Proofs.YtdalncgbbkeimaaGreatDoor.Cl
namespace Go.Proofs.YtdalncgbbkeimaaGreatDoor.Cl
open Go.RowKit Wd Rp Kp
set_option linter.unusedVariables false
theorem run_copy_cells {w : World} {base g n cap : Nat} {a : Option Addr} {l m : List Cel} (ty : TypeId) (hown : OwC base w (.slice (some ⟨g, 0, none⟩) n n) m) (hm : m.length = n) (hl : l.length = n) (hy : Vw w a cap l) :
    ∃ w', (Builtin.copy_ #[24, 24] ty #[.slice (some ⟨g, 0, none⟩) n n, .slice a n cap]).run Tryz.prog w = .ok (goInt n) w' ∧ OwC base w' (.slice (some ⟨g, 0, none⟩) n n) l ∧ w.grownBy w' (some g) := by
  obtain ⟨i0, hi, hz0, hz1, hz2⟩ := info_parts infoC
  subst hm
  rcases hown.2 with ⟨e, _⟩ | ⟨g', cap', cur, e, hB, hg, hnc, hcm, hsz, hxs⟩
  · cases e
  · cases e
    cases a with
    | none =>
      have hc := hy.2.2.1 rfl
      have hn0 : m.length = 0 := by have := hy.1; omega
      subst hc
      obtain rfl : m = [] := List.length_eq_zero_iff.1 hn0
      obtain rfl : l = [] := List.length_eq_zero_iff.1 hl
      refine ⟨w, ?_, hown, World.grownBy.refl _ _⟩
      exact run_copy_nil (P := Tryz.prog) w 24 24 ty 38 ⟨g, 0, none⟩ 0 0 Tryz.underlying24 (by rw [hi]; rfl)
    | some ad =>
      have hfl : (flat l).length = m.length * 5 := by rw [flat_len, hl]
      have hld := run_loadCells_list (P := Tryz.prog) w ad (flat l) (vw_cells hy)
      have hst := run_storeCells_at Tryz.prog g 0 38 (flat l) 0 cur w hg (by rw [hfl, hsz]; omega) (flat_one l)
      have hrow : (cur.toList.take (0 + 0) ++ flat l ++ cur.toList.drop (0 + 0 + (flat l).length)).toArray = (flat l).toArray := by
        rw [hfl, Nat.zero_add, Nat.zero_add, List.take_zero, List.nil_append, List.drop_eq_nil_of_le (by rw [Array.length_toList, hsz]; exact Nat.le_refl _), List.append_nil]
      rw [hrow] at hst
      rw [hfl] at hld
      refine ⟨w.setRow g (flat l).toArray, ?_, ⟨flat_len l, .inr ⟨g, m.length, (flat l).toArray, by rw [hl], hB, setRow_heap w g cur _ _ _ hg, by omega, hcm, by simp [hfl], by rw [List.take_of_length_le (by simp [flat_len])]⟩⟩, ⟨rfl, rfl, rfl, by simp [World.setRow], fun k _ hk => setRow_other w g k _ (fun e => hk (by rw [e]))⟩⟩
      simp [Builtin.copy_, run_underlying Tryz.underlying24, Builtin.lenOf, Builtin.firstCells, sizeOf, typeInfo, hi, hz1, hld, hst]
theorem run_append_full {w : World} {a ad : Option Addr} {k cap n : Nat} {l m : List Cel} (ty : TypeId) (hl : l.length = k) (hv : Vw w a k l) (hm : m.length = n) (hy : Vw w ad cap m) (hn : 0 < n) (hlen : k + n ≤ 10000000) :
    ∃ v' w', (Builtin.append_ #[24, 24] ty #[.slice a k k, .slice ad n cap]).run Tryz.prog w = .ok v' w' ∧ OwC w.heap.size w' v' (l ++ m) ∧ Below w.heap.size w w' := by
  obtain ⟨i0, hi, hz0, hz1, hz2⟩ := info_parts infoC
  obtain ⟨ad, rfl⟩ : ∃ x, ad = some x := by
    cases ad with
    | none => have := hy.2.2.1 rfl; have := hy.1; omega
    | some x => exact ⟨x, rfl⟩
  have h1 := grownCap_ge w (k + n) k 38
  have hcm : grownCap w (k + n) k 38 ≤ maxLen := grownCap_le_maxLen w (k + n) k 38 (by unfold maxLen; omega)
  have fin : ∀ cs : Array Value, cs = (flat l).toArray ++ (flat m).toArray ++ Builtin.zeroCells (Value.agg #[.string ⟨#[]⟩, .string ⟨#[]⟩, .int .i64 0, .int .i64 0, .bool false]).cells (grownCap w (k + n) k 38 - (k + n)) →
      OwC w.heap.size (w.drew.alloc (.cells cs 38)) (.slice (some ⟨w.heap.size, 0, none⟩) (k + n) (grownCap w (k + n) k 38)) (l ++ m) := fun cs hcs => by
    refine ⟨flat_len _, .inr ⟨w.heap.size, grownCap w (k + n) k 38, cs, by rw [List.length_append, hl, hm], Nat.le_refl _, heap_alloc_new w.drew _, by rw [List.length_append, hl, hm]; exact h1, hcm, ?_, ?_⟩⟩
    · rw [hcs]
      simp only [Array.size_append, List.size_toArray, size_zeroCells, flat_len, hl, hm]
      show k * 5 + n * 5 + (grownCap w (k + n) k 38 - (k + n)) * 5 = _
      omega
    · rw [hcs, flat_app, ← flat_len, flat_app]
      simp only [Array.toList_append, List.append_assoc]
      rw [← List.append_assoc]
      exact List.take_left
  have hbel : ∀ o, Below w.heap.size w (w.drew.alloc o) := fun o => (Below.refl _ _).drew.alloc (Nat.le_refl _) o
  cases a with
  | none =>
    obtain rfl : k = 0 := hv.2.2.1 rfl
    obtain rfl : l = [] := List.length_eq_zero_iff.1 hl
    refine ⟨_, _, run_append_nil (P := Tryz.prog) w 24 ty 38 i0 _ Tryz.underlying24 hi hz0 ad n cap (flat m) (by rw [flat_len, hm, hz1]) (vw_cells hy) hn (by omega) (by rw [hz2]; omega), ?_, hbel _⟩
    have := fin _ rfl
    simpa [flat] using this
  | some b =>
    refine ⟨_, _, run_append_grow (P := Tryz.prog) w 24 ty 38 i0 _ Tryz.underlying24 hi hz0 b k k (flat l) (by rw [flat_len, hl, hz1]) (vw_cells hv) ad n cap (flat m) (by rw [flat_len, hm, hz1]) (vw_cells hy) (by omega) (by omega) (growslice_fits (by omega) (by rw [hz2]; omega)), fin _ rfl, hbel _⟩
theorem step_append_full {ops : Array Oper} {o : Oper} {a : Act} {Q : Exit → Act → World → Prop} {K : Act → World → Prop} {w : World} (hw : Region.wanted o (yielded ops a.tmps) = true) (s x : Operand)
    (ho : o.op = .call { callee := .builtin .append, args := #[s, x], argTypes := #[24, 24] })
    {av ad : Option Addr} {k cap n : Nat} {l m : List Cel} (hs : a.eval s = .slice av k k) (hx : a.eval x = .slice ad n cap) (hl : l.length = k) (hv : Vw w av k l) (hmn : m.length = n) (hy : Vw w ad cap m) (hn : 0 < n) (hlen : k + n ≤ 10000000)
    (h : ∀ v' w', OwC w.heap.size w' v' (l ++ m) → Below w.heap.size w w' → K (a.put o.dst v') w') :
    if Region.wanted o (yielded ops a.tmps) = true then Oper.wp Tryz.prog o a w K Q else K (a.put o.dst undef) w := by
  rw [if_pos hw]
  obtain ⟨v', w', hr, h2, h3⟩ := run_append_full o.type hl hv hmn hy hn hlen
  unfold Oper.wp execOp
  simp only [ho, resolve, invoke, builtin, Sem.run_bind, Sem.run_pure, Result.andThen_ok, List.map_toArray, List.map_cons, List.map_nil, hs, hx, hr]
  exact h v' w' h2 h3
set_option maxRecDepth 100000 in
theorem cut_full (a : Option Addr) (n cap k : Nat) (hk : k ≤ n) (hn : n ≤ cap) (hz : a = none → cap = 0) : (∀ w, (Instr.slice 24 (.slice a n cap) none (some (.int .i64 (k : Int))) (some (.int .i64 (k : Int)))).run Tryz.prog w = .ok (.slice a k k) w) ∧
    ∀ w l, Vw w a cap l → l.length = n → Vw w a k (l.take k) := by
  refine ⟨fun w => ?_, fun w l h hl => h.take (by omega) (Nat.le_refl _) (by omega) (fun e => by have := hz e; omega)⟩
  have hu : Tryz.prog.underlying 24 = some (.slice (Tryz.prog.elem 24)) := by kernel_rfl
  have hs : ∀ w, (sizeOf (Tryz.prog.elem 24)).run Tryz.prog w = .ok 5 w := fun w => by
    rw [show Tryz.prog.elem 24 = 38 by kernel_rfl]; exact Tryz.sizeOf38 w
  rw [run_slice_hm w 24 a n cap hu .i64 .i64 (k : Int) (k : Int) (by omega) (by omega) (by omega), hs]
  show Result.ok (Value.slice (if k = 0 then a else a.map (·.add (0 * 5))) (k - 0) (k - 0)) w = _
  congr 2
  split
  · rfl
  · cases a <;> simp [Addr.add]
end Go.Proofs.YtdalncgbbkeimaaGreatDoor.Cl
