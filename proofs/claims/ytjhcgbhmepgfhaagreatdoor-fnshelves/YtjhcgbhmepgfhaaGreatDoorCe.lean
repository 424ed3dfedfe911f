/-
  Slices of cells that a call has made ('OwC'); contracts of laws.szCellS, laws.toCellS, laws.eqCell.
-/
import Derived.Test.YtjhcgbhmepgfhaaGreatDoorCb
import Derived.OwnWalk
import Derived.Maps.AppendAt
namespace Go.Proofs.YtjhcgbhmepgfhaaGreatDoor.Cl
open Go.RowKit Wd Rp Kp
set_option linter.unusedVariables false
def OwC (B : Nat) (w : World) (v : Value) (l : List Cel) : Prop := w.ownsRow B 38 5 v l.length (flat l)
theorem infoC : (Tryz.prog.info? 38).map (fun i => (i.zero, i.size, i.bytes)) = some (some (.agg #[.string ⟨#[]⟩, .string ⟨#[]⟩, .int .i64 0, .int .i64 0, .bool false]), 5, 56) := by kernel_rfl
theorem row_next {B : Nat} {e : TypeId} {k : Nat} {v : Value} {n : Nat} {xs : List Value} {w w' : World} (h : w.ownsRow B e k v n xs) (hb : ∀ g, v.ownBlock = some g → g < w.heap.size → w'.heap[g]? = w.heap[g]?) : w'.ownsRow B e k v n xs := by
  obtain ⟨h1, h2⟩ := h
  refine ⟨h1, ?_⟩
  rcases h2 with h2 | ⟨g, cap, cur, hv, hB, hg, h3⟩
  · exact .inl h2
  · subst hv
    exact .inr ⟨g, cap, cur, rfl, hB, (hb g rfl (Array.getElem?_eq_some_iff.1 hg).1).trans hg, h3⟩
theorem OwC.next {B : Nat} {w w' : World} {v : Value} {l : List Cel} (h : OwC B w v l) (hb : Below w.heap.size w w') : OwC B w' v l := row_next h fun g _ hg => hb.block g hg
theorem OwC.mono {B C : Nat} {w : World} {v : Value} {l : List Cel} (h : OwC B w v l) (hC : C ≤ B) : OwC C w v l := by
  obtain ⟨h1, h2⟩ := h
  refine ⟨h1, ?_⟩
  rcases h2 with h2 | ⟨g, cap, cur, hv, hB, h3⟩
  · exact .inl h2
  · exact .inr ⟨g, cap, cur, hv, Nat.le_trans hC hB, h3⟩
theorem OwC.view {B : Nat} {w : World} {v : Value} {l : List Cel} (h : OwC B w v l) : ∃ a cap, v = .slice a l.length cap ∧ Vw w a cap l ∧
    ∀ k, k < l.length → ∃ g, a = some ⟨g, 0, none⟩ ∧ B ≤ g ∧ ∀ j, w.frozen? ⟨g, j, none⟩ = false := by
  obtain ⟨h1, h2⟩ := h
  rcases h2 with ⟨rfl, hn⟩ | ⟨g, cap, cur, rfl, hB, hg, hn, hc, hsz, hxs⟩
  · refine ⟨none, 0, by rw [hn], ⟨by omega, by decide, fun _ => rfl, fun k c hk => ?_⟩, fun k hk => by omega⟩
    have := (List.getElem?_eq_some_iff.1 hk).1; omega
  · refine ⟨_, cap, rfl, ⟨hn, hc, (fun e => by cases e), fun k c hk => ?_⟩, fun k hk => ⟨g, rfl, hB, fun j => by simp [World.frozen?, hg]⟩⟩
    have hkl := (List.getElem?_eq_some_iff.1 hk).1
    refine ⟨g, 0, rfl, (Array.getElem?_eq_some_iff.1 hg).1, ?_⟩
    have key : ∀ j, j < 5 → w.cell? ⟨g, 0 + k * 5 + j, none⟩ = c.vals[j]? := fun j hj => by
      have e1 := flat_get l k j c hk hj
      rw [← hxs, List.getElem?_take_of_lt (by omega)] at e1
      rw [← e1, Nat.zero_add]
      simp [World.cell?, hg]
    exact ⟨key 0 (by decide), key 1 (by decide), key 2 (by decide), key 3 (by decide), key 4 (by decide)⟩
theorem set_right {a b : List Value} {n : Nat} (h : a.length = 5) (x : Value) (j : Nat) : (a ++ b).set (5 + n + j) x = a ++ b.set (n + j) x := by
  rw [List.set_append_right _ _ (by omega), h, show 5 + n + j - 5 = n + j by omega]
theorem flat_set : ∀ (l : List Cel) (k : Nat) (c : Cel), k < l.length →
    (((((flat l).set (k * 5) (.string c.r)).set (k * 5 + 1) (.string c.b)).set (k * 5 + 2) (.int .i64 c.t)).set (k * 5 + 3) (.int .i64 c.v)).set (k * 5 + 4) (.bool c.g) = flat (l.set k c)
  | [], k, c, h => by simp at h
  | d :: l, 0, c, h => by rfl
  | d :: l, k + 1, c, h => by
    have ih := flat_set l k c (by simpa using h)
    have e0 : (k + 1) * 5 = 5 + k * 5 + 0 := by omega
    rw [flat_cons, List.set_cons_succ, flat_cons, ← ih]
    rw [show (k + 1) * 5 + 1 = 5 + k * 5 + 1 by omega, show (k + 1) * 5 + 2 = 5 + k * 5 + 2 by omega, show (k + 1) * 5 + 3 = 5 + k * 5 + 3 by omega, show (k + 1) * 5 + 4 = 5 + k * 5 + 4 by omega, e0]
    rw [set_right (vals_len d), set_right (vals_len d), set_right (vals_len d), set_right (vals_len d), set_right (vals_len d)]; rfl
theorem OwC.set {B : Nat} {w : World} {g n cap : Nat} {l : List Cel} (h : OwC B w (.slice (some ⟨g, 0, none⟩) n cap) l) (hn : n = l.length) (k : Nat) (hk : k < l.length) (c : Cel) :
    OwC B (((((w.setCell ⟨g, k * 5, none⟩ (.string c.r)).setCell ⟨g, k * 5 + 1, none⟩ (.string c.b)).setCell ⟨g, k * 5 + 2, none⟩ (.int .i64 c.t)).setCell ⟨g, k * 5 + 3, none⟩ (.int .i64 c.v)).setCell ⟨g, k * 5 + 4, none⟩ (.bool c.g)) (.slice (some ⟨g, 0, none⟩) n cap) (l.set k c) := by
  subst hn
  have h0 := (World.ownsRow.stored h (k * 5) (.string c.r)).1
  have h1 := (World.ownsRow.stored h0 (k * 5 + 1) (.string c.b)).1
  have h2 := (World.ownsRow.stored h1 (k * 5 + 2) (.int .i64 c.t)).1
  have h3 := (World.ownsRow.stored h2 (k * 5 + 3) (.int .i64 c.v)).1
  have h4 := (World.ownsRow.stored h3 (k * 5 + 4) (.bool c.g)).1
  unfold OwC
  rw [List.length_set, ← flat_set l k c hk]; exact h4
theorem bel_set5o {B : Nat} {a w : World} (h : Below B a w) {n o : Nat} (hn : B ≤ n) (x0 x1 x2 x3 x4 : Value) : Below B a (((((w.setCell ⟨n, o, none⟩ x0).setCell ⟨n, o + 1, none⟩ x1).setCell ⟨n, o + 2, none⟩ x2).setCell ⟨n, o + 3, none⟩ x3).setCell ⟨n, o + 4, none⟩ x4) :=
  ((((h.setCell (p := ⟨n, o, none⟩) hn _).setCell (p := ⟨n, o + 1, none⟩) hn _).setCell (p := ⟨n, o + 2, none⟩) hn _).setCell (p := ⟨n, o + 3, none⟩) hn _).setCell (p := ⟨n, o + 4, none⟩) hn _
def zc : Cel := ⟨⟨#[]⟩, ⟨#[]⟩, 0, 0, false⟩
theorem made_flat : ∀ n, (madeCells (Value.agg #[.string ⟨#[]⟩, .string ⟨#[]⟩, .int .i64 0, .int .i64 0, .bool false]).cells (n * 5)).toList = flat (List.replicate n zc) := by
  intro n
  rw [madeCells, Array.toList_map, Array.toList_range]
  induction n with
  | zero => rfl
  | succ n ih =>
    rw [List.replicate_succ', flat_app, ← ih, show (n + 1) * 5 = n * 5 + 1 + 1 + 1 + 1 + 1 by omega, List.range_succ, List.range_succ, List.range_succ, List.range_succ, List.range_succ]
    simp only [List.map_append, List.map_cons, List.map_nil, List.append_assoc]
    congr 1
    have e : ∀ j, j < 5 → (n * 5 + j) % 5 = j := fun j hj => by omega
    have hs : (Value.agg #[.string ⟨#[]⟩, .string ⟨#[]⟩, .int .i64 0, .int .i64 0, .bool false]).cells.size = 5 := rfl
    simp only [hs, show n * 5 % 5 = 0 by omega, show (n * 5 + 1) % 5 = 1 by omega, show (n * 5 + 1 + 1) % 5 = 2 by omega, show (n * 5 + 1 + 1 + 1) % 5 = 3 by omega, show (n * 5 + 1 + 1 + 1 + 1) % 5 = 4 by omega]
    rfl
end Go.Proofs.YtjhcgbhmepgfhaaGreatDoor.Cl
