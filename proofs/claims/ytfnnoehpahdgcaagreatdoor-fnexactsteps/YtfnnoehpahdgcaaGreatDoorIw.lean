/-
  Bins in memory: 'VwI' (a slice that reads as these bins), 'OwI' (a slice of bins that a call has made), append onto one, pieces of one.
-/
import Derived.Test.YtfnnoehpahdgcaaGreatDoorCo
namespace Go.Proofs.YtfnnoehpahdgcaaGreatDoor.Cl
open Go.RowKit Wd Rp Kp
set_option linter.unusedVariables false
structure Bi where
  n : ByteArray
  v : Int
instance : Inhabited Bi := ⟨⟨⟨#[]⟩, 0⟩⟩
def Bi.vals (c : Bi) : List Value := [.string c.n, .int .i64 c.v]
def flatI (l : List Bi) : List Value := l.flatMap Bi.vals
theorem valsI_len (c : Bi) : c.vals.length = 2 := rfl
theorem flatI_cons (c : Bi) (l : List Bi) : flatI (c :: l) = c.vals ++ flatI l := rfl
theorem flatI_app (l m : List Bi) : flatI (l ++ m) = flatI l ++ flatI m := by unfold flatI; rw [List.flatMap_append]
theorem flatI_len : ∀ l : List Bi, (flatI l).length = l.length * 2
  | [] => rfl
  | c :: l => by rw [flatI_cons, List.length_append, valsI_len, flatI_len l, List.length_cons]; omega
theorem flatI_get : ∀ (l : List Bi) (k j : Nat) (c : Bi), l[k]? = some c → j < 2 → (flatI l)[k * 2 + j]? = c.vals[j]?
  | [], k, j, c, h, _ => by simp at h
  | d :: l, 0, j, c, h, hj => by
    obtain rfl : d = c := by simpa using h
    rw [flatI_cons, List.getElem?_append_left (by rw [valsI_len]; omega), Nat.zero_mul, Nat.zero_add]
  | d :: l, k + 1, j, c, h, hj => by
    rw [flatI_cons, List.getElem?_append_right (by rw [valsI_len]; omega), valsI_len, show (k + 1) * 2 + j - 2 = k * 2 + j by omega]
    exact flatI_get l k j c (by simpa using h) hj
theorem flatI_one (l : List Bi) : ∀ u ∈ flatI l, u.oneCell' = true := by
  intro u hu
  unfold flatI at hu
  rw [List.mem_flatMap] at hu
  obtain ⟨c, _, hc⟩ := hu
  simp [Bi.vals] at hc
  rcases hc with rfl | rfl <;> rfl
def At2 (w : World) (g o : Nat) (c : Bi) : Prop := w.cell? ⟨g, o, none⟩ = some (.string c.n) ∧ w.cell? ⟨g, o + 1, none⟩ = some (.int .i64 c.v)
theorem At2.same {w w' : World} {g o : Nat} {c : Bi} (h : At2 w g o c) (e : w'.heap[g]? = w.heap[g]?) : At2 w' g o c := ⟨(World.cell?_of_block (w := w) e).trans h.1, (World.cell?_of_block (w := w) e).trans h.2⟩
/-- The slice reads as these bins. -/
def VwI (w : World) (a : Option Addr) (cap : Nat) (l : List Bi) : Prop :=
  l.length ≤ cap ∧ cap ≤ maxLen ∧ (a = none → cap = 0) ∧ ∀ k c, l[k]? = some c → ∃ g o, a = some ⟨g, o, none⟩ ∧ g < w.heap.size ∧ At2 w g (o + k * 2) c
theorem VwI.below {w w' : World} {a : Option Addr} {cap : Nat} {l : List Bi} (h : VwI w a cap l) (hb : Below w.heap.size w w') : VwI w' a cap l := by
  obtain ⟨h1, h2, h3, h4⟩ := h
  refine ⟨h1, h2, h3, fun k c hk => ?_⟩
  obtain ⟨g, o, e, hg, hc⟩ := h4 k c hk
  exact ⟨g, o, e, Nat.lt_of_lt_of_le hg hb.size, hc.same (hb.block g hg)⟩
/-- A slice of bins of the call's own. -/
def OwI (B : Nat) (w : World) (v : Value) (l : List Bi) : Prop := w.ownsRow B 44 2 v l.length (flatI l)
theorem infoI : (Tryz.prog.info? 44).map (fun i => (i.zero, i.size, i.bytes)) = some (some (.agg #[.string ⟨#[]⟩, .int .i64 0]), 2, 24) := by kernel_rfl
theorem OwI.next {B : Nat} {w w' : World} {v : Value} {l : List Bi} (h : OwI B w v l) (hb : Below w.heap.size w w') : OwI B w' v l := row_next h fun g _ hg => hb.block g hg
theorem OwI.mono {B C : Nat} {w : World} {v : Value} {l : List Bi} (h : OwI B w v l) (hC : C ≤ B) : OwI C w v l := by
  obtain ⟨h1, h2⟩ := h
  refine ⟨h1, ?_⟩
  rcases h2 with h2 | ⟨g, cap, cur, hv, hB, h3⟩
  · exact .inl h2
  · exact .inr ⟨g, cap, cur, hv, Nat.le_trans hC hB, h3⟩
theorem OwI.view {B : Nat} {w : World} {v : Value} {l : List Bi} (h : OwI B w v l) : ∃ a cap, v = .slice a l.length cap ∧ VwI w a cap l := by
  obtain ⟨h1, h2⟩ := h
  rcases h2 with ⟨rfl, hn⟩ | ⟨g, cap, cur, rfl, hB, hg, hn, hc, hsz, hxs⟩
  · refine ⟨none, 0, by rw [hn], ⟨by omega, by decide, fun _ => rfl, fun k c hk => ?_⟩⟩
    have := (List.getElem?_eq_some_iff.1 hk).1; omega
  · refine ⟨_, cap, rfl, ⟨hn, hc, (fun e => by cases e), fun k c hk => ?_⟩⟩
    have hkl := (List.getElem?_eq_some_iff.1 hk).1
    refine ⟨g, 0, rfl, (Array.getElem?_eq_some_iff.1 hg).1, ?_⟩
    have key : ∀ j, j < 2 → w.cell? ⟨g, 0 + k * 2 + j, none⟩ = c.vals[j]? := fun j hj => by
      have e1 := flatI_get l k j c hk hj
      rw [← hxs, List.getElem?_take_of_lt (by omega)] at e1
      rw [← e1, Nat.zero_add]
      simp [World.cell?, hg]
    exact ⟨key 0 (by decide), key 1 (by decide)⟩
theorem OwI.lt {B : Nat} {w : World} {v : Value} {l : List Bi} (h : OwI B w v l) : ∀ k, v.ownBlock = some k → B ≤ k := fun k hk => (World.ownsRow.lt h k hk).1
theorem OwI.start {B : Nat} {w : World} (h : B ≤ w.heap.size) : OwI B (w.alloc (.cells #[] 44)) (.slice (some ⟨w.heap.size, 0, none⟩) 0 0) [] := World.ownsRow_made w #[] 0 h (by decide) rfl
theorem OwI.nothing (B : Nat) (w : World) : OwI B w (.slice none 0 0) [] := World.ownsRow_nil w B _ _
theorem OwI.lit {B : Nat} {w : World} (h : B ≤ w.heap.size) (c : Bi) : OwI B (w.alloc (.cells #[.string c.n, .int .i64 c.v] 44)) (.slice (some ⟨w.heap.size, 0, none⟩) 1 1) [c] :=
  World.ownsRow_lit (base := B) (e := 44) (size := 2) w #[.string c.n, .int .i64 c.v] 1 h (by decide) rfl
theorem VwI.lit (w : World) (c : Bi) : VwI (w.alloc (.cells #[.string c.n, .int .i64 c.v] 44)) (some ⟨w.heap.size, 0, none⟩) 1 [c] := by
  obtain ⟨a, cap, e, hv⟩ := (OwI.lit (B := 0) (w := w) (Nat.zero_le _) c).view
  cases e
  exact hv
theorem OwI.grown {B : Nat} {w w' : World} {v : Value} {l : List Bi} {row : Option Nat} (h : OwI B w v l) (hg : w.grownBy w' row) (hne : ∀ k, v.ownBlock = some k → row ≠ some k) : OwI B w' v l := row_next h fun g hk hlt => hg.block g hlt (fun e => hne g hk e.symm)
theorem vwI_cells {w : World} {ad : Addr} {cap : Nat} {m : List Bi} (h : VwI w (some ad) cap m) : ∀ j u, (flatI m)[j]? = some u → w.cell? (ad.add j) = some u := by
  intro j u hj
  have hl : j < m.length * 2 := by rw [← flatI_len]; exact (List.getElem?_eq_some_iff.1 hj).1
  have hk : j / 2 < m.length := by omega
  obtain ⟨g, o, e, -, h0, h1⟩ := h.2.2.2 (j / 2) m[j / 2] (List.getElem?_eq_getElem hk)
  cases e
  have hadd : ∀ j, (⟨g, o, none⟩ : Addr).add j = ⟨g, o + j, none⟩ := fun j => by cases j <;> simp [Addr.add]
  have e1 := flatI_get m (j / 2) (j % 2) m[j / 2] (List.getElem?_eq_getElem hk) (by omega)
  rw [show j / 2 * 2 + j % 2 = j by omega, hj] at e1
  rw [hadd]
  have hm : j % 2 < 2 := by omega
  have ho : o + j = o + j / 2 * 2 + j % 2 := by omega
  rw [ho, e1]
  generalize j % 2 = i at hm
  match i, hm with
  | 0, _ => exact h0
  | 1, _ => exact h1
theorem run_append_bins {w : World} {base : Nat} {v : Value} {a : Option Addr} {cap : Nat} {l m : List Bi} (ty : TypeId) (hown : OwI base w v l) (hy : VwI w a cap m) (hlen : l.length + m.length ≤ 10000000) (hbase : base ≤ w.heap.size) :
    ∃ v' w', (Builtin.append_ #[25, 25] ty #[v, .slice a m.length cap]).run Tryz.prog w = .ok v' w' ∧ OwI base w' v' (l ++ m) ∧ w.grownBy w' v.ownBlock ∧ (v'.ownBlock = v.ownBlock ∨ v'.ownBlock = some w.heap.size) := by
  obtain ⟨i0, hi, hz0, hz1, hz2⟩ := info_parts infoI
  cases a with
  | none =>
    have hc := hy.2.2.1 rfl
    have hm : m = [] := List.length_eq_zero_iff.1 (by have := hy.1; omega)
    subst hm hc
    rw [List.append_nil]
    exact ⟨v, w, run_append_owned_none w base 25 ty 44 i0 2 Tryz.underlying25 hi v _ _ hown, hown, World.grownBy.refl _ _, Or.inl rfl⟩
  | some ad =>
    obtain ⟨v', w', hr, h2, h3, h4, h5⟩ := run_append_own_at (P := Tryz.prog) w base 25 ty 44 i0 _ 2 24 Tryz.underlying25 hi hz0 hz1 hz2 rfl (by decide) v l.length (flatI l) hown
      ad m.length cap (flatI m) (flatI_len m) (vwI_cells hy) (flatI_one m) (by unfold maxLen; omega) (by omega) hbase
    refine ⟨v', w', hr, ?_, h3, h5⟩
    unfold OwI
    rw [List.length_append, flatI_app]; exact h2
/-- Names ascend. -/
def Asc (l : List Bi) : Prop := l.Pairwise fun a b => Op.bytesLess a.n.toList b.n.toList = true
theorem asc_ext : ∀ {l m : List Bi}, Asc l → Asc m → (∀ c, c ∈ l ↔ c ∈ m) → l = m
  | [], [], _, _, _ => rfl
  | [], c :: m, _, _, h => by have := (h c).2 (by simp); cases this
  | c :: l, [], _, _, h => by have := (h c).1 (by simp); cases this
  | c :: l, d :: m, hl, hm, h => by
    obtain ⟨l1, l2⟩ := List.pairwise_cons.1 hl
    obtain ⟨m1, m2⟩ := List.pairwise_cons.1 hm
    have e : c = d := by
      rcases List.mem_cons.1 ((h c).1 (by simp)) with e | e
      · exact e
      · rcases List.mem_cons.1 ((h d).2 (by simp)) with e' | e'
        · exact e'.symm
        · have a1 := m1 c e
          have a2 := l1 d e'
          have := bl_tr a1 a2
          rw [bl_irr] at this; cases this
    subst e
    have : l = m := asc_ext l2 m2 fun x => by
      constructor
      · intro hx
        rcases List.mem_cons.1 ((h x).1 (by simp [hx])) with e | e
        · subst e; have := l1 _ hx; rw [bl_irr] at this; cases this
        · exact e
      · intro hx
        rcases List.mem_cons.1 ((h x).2 (by simp [hx])) with e | e
        · subst e; have := m1 _ hx; rw [bl_irr] at this; cases this
        · exact e
    rw [this]
end Go.Proofs.YtfnnoehpahdgcaaGreatDoor.Cl
