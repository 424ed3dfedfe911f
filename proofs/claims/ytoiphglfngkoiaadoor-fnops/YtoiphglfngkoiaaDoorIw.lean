/-
  Bins in memory: 'VwI' (a slice that reads as these bins), 'OwI' (a slice of bins that a call has made), append onto one, pieces of one.
-/
import Derived.Test.YtoiphglfngkoiaaDoorCo
namespace Go.Proofs.YtoiphglfngkoiaaDoor.Cl
open Go.RowKit Wd Rp Kp
set_option linter.unusedVariables false
structure Bi where
  n : ByteArray
  v : Int
instance : Inhabited Bi := ⟨⟨⟨#[]⟩, 0⟩⟩
def Bi.vals (c : Bi) : List Value := [.string c.n, .int .i64 c.v]
def flatI (l : List Bi) : List Value := l.flatMap Bi.vals
theorem valsI_len (c : Bi) : c.vals.length = 2 := rfl
theorem flatI_cons (c : Bi) (l : List Bi) : flatI (c :: l) = c.vals ++ flatI l := rfl
theorem flatI_app (l m : List Bi) : flatI (l ++ m) = flatI l ++ flatI m := by unfold flatI; rw [List.flatMap_append]
theorem flatI_len : ∀ l : List Bi, (flatI l).length = l.length * 2
  | [] => rfl
  | c :: l => by rw [flatI_cons, List.length_append, valsI_len, flatI_len l, List.length_cons]; omega
theorem flatI_get : ∀ (l : List Bi) (k j : Nat) (c : Bi), l[k]? = some c → j < 2 → (flatI l)[k * 2 + j]? = c.vals[j]?
  | [], k, j, c, h, _ => by simp at h
  | d :: l, 0, j, c, h, hj => by
    obtain rfl : d = c := by simpa using h
    rw [flatI_cons, List.getElem?_append_left (by rw [valsI_len]; omega), Nat.zero_mul, Nat.zero_add]
  | d :: l, k + 1, j, c, h, hj => by
    rw [flatI_cons, List.getElem?_append_right (by rw [valsI_len]; omega), valsI_len, show (k + 1) * 2 + j - 2 = k * 2 + j by omega]
    exact flatI_get l k j c (by simpa using h) hj
theorem flatI_one (l : List Bi) : ∀ u ∈ flatI l, u.oneCell' = true := by
  intro u hu
  unfold flatI at hu
  rw [List.mem_flatMap] at hu
  obtain ⟨c, _, hc⟩ := hu
  simp [Bi.vals] at hc
  rcases hc with rfl | rfl <;> rfl
def At2 (w : World) (g o : Nat) (c : Bi) : Prop := w.cell? ⟨g, o, none⟩ = some (.string c.n) ∧ w.cell? ⟨g, o + 1, none⟩ = some (.int .i64 c.v)
theorem At2.same {w w' : World} {g o : Nat} {c : Bi} (h : At2 w g o c) (e : w'.heap[g]? = w.heap[g]?) : At2 w' g o c := ⟨(World.cell?_of_block (w := w) e).trans h.1, (World.cell?_of_block (w := w) e).trans h.2⟩
/-- The slice reads as these bins. -/
def VwI (w : World) (a : Option Addr) (cap : Nat) (l : List Bi) : Prop :=
  l.length ≤ cap ∧ cap ≤ maxLen ∧ (a = none → cap = 0) ∧ ∀ k c, l[k]? = some c → ∃ g o, a = some ⟨g, o, none⟩ ∧ g < w.heap.size ∧ At2 w g (o + k * 2) c
theorem VwI.below {w w' : World} {a : Option Addr} {cap : Nat} {l : List Bi} (h : VwI w a cap l) (hb : Below w.heap.size w w') : VwI w' a cap l := by
  obtain ⟨h1, h2, h3, h4⟩ := h
  refine ⟨h1, h2, h3, fun k c hk => ?_⟩
  obtain ⟨g, o, e, hg, hc⟩ := h4 k c hk
  exact ⟨g, o, e, Nat.lt_of_lt_of_le hg hb.size, hc.same (hb.block g hg)⟩
theorem vwI_cells {w : World} {ad : Addr} {cap : Nat} {m : List Bi} (h : VwI w (some ad) cap m) : ∀ j u, (flatI m)[j]? = some u → w.cell? (ad.add j) = some u := by
  intro j u hj
  have hl : j < m.length * 2 := by rw [← flatI_len]; exact (List.getElem?_eq_some_iff.1 hj).1
  have hk : j / 2 < m.length := by omega
  obtain ⟨g, o, e, -, h0, h1⟩ := h.2.2.2 (j / 2) m[j / 2] (List.getElem?_eq_getElem hk)
  cases e
  have hadd : ∀ j, (⟨g, o, none⟩ : Addr).add j = ⟨g, o + j, none⟩ := fun j => by cases j <;> simp [Addr.add]
  have e1 := flatI_get m (j / 2) (j % 2) m[j / 2] (List.getElem?_eq_getElem hk) (by omega)
  rw [show j / 2 * 2 + j % 2 = j by omega, hj] at e1
  rw [hadd]
  have hm : j % 2 < 2 := by omega
  have ho : o + j = o + j / 2 * 2 + j % 2 := by omega
  rw [ho, e1]
  generalize j % 2 = i at hm
  match i, hm with
  | 0, _ => exact h0
  | 1, _ => exact h1
/-- Names ascend. -/
def Asc (l : List Bi) : Prop := l.Pairwise fun a b => Op.bytesLess a.n.toList b.n.toList = true
theorem asc_ext : ∀ {l m : List Bi}, Asc l → Asc m → (∀ c, c ∈ l ↔ c ∈ m) → l = m
  | [], [], _, _, _ => rfl
  | [], c :: m, _, _, h => by have := (h c).2 (by simp); cases this
  | c :: l, [], _, _, h => by have := (h c).1 (by simp); cases this
  | c :: l, d :: m, hl, hm, h => by
    obtain ⟨l1, l2⟩ := List.pairwise_cons.1 hl
    obtain ⟨m1, m2⟩ := List.pairwise_cons.1 hm
    have e : c = d := by
      rcases List.mem_cons.1 ((h c).1 (by simp)) with e | e
      · exact e
      · rcases List.mem_cons.1 ((h d).2 (by simp)) with e' | e'
        · exact e'.symm
        · have a1 := m1 c e
          have a2 := l1 d e'
          have := bl_tr a1 a2
          rw [bl_irr] at this; cases this
    subst e
    have : l = m := asc_ext l2 m2 fun x => by
      constructor
      · intro hx
        rcases List.mem_cons.1 ((h x).1 (by simp [hx])) with e | e
        · subst e; have := l1 _ hx; rw [bl_irr] at this; cases this
        · exact e
      · intro hx
        rcases List.mem_cons.1 ((h x).2 (by simp [hx])) with e | e
        · subst e; have := m1 _ hx; rw [bl_irr] at this; cases this
        · exact e
    rw [this]
end Go.Proofs.YtoiphglfngkoiaaDoor.Cl
