/-
  Stores (barns): a slice of slices that reads as lists of cells ('VwS'), one of a call's own ('OwS'); which stores are valid ('okB').
-/
import Derived.Test.YtefhdhblcaopiaaRb
import Derived.Test.YtefhdhblcaopiaaCb
namespace Go.Proofs.Ytefhdhblcaopiaa.Cl
open Go.RowKit Wd Rp Kp Ra
set_option linter.unusedVariables false
/-- The headers read as these lists. -/
def VwH (w : World) (hs : List Hd) (ss : List (List Cel)) : Prop := hs.length = ss.length ∧ ∀ (j : Nat) (h : Hd) (l : List Cel), hs[j]? = some h → ss[j]? = some l → h.n = l.length ∧ Vw w h.a h.c l
theorem VwH.below {w w' : World} {hs : List Hd} {ss : List (List Cel)} (h : VwH w hs ss) (hb : Below w.heap.size w w') : VwH w' hs ss :=
  ⟨h.1, fun j x l h1 h2 => ⟨(h.2 j x l h1 h2).1, (h.2 j x l h1 h2).2.below hb⟩⟩
/-- The slice reads as these lists. -/
def VwS (w : World) (a : Option Addr) (cap : Nat) (hs : List Hd) (ss : List (List Cel)) : Prop := VwH w hs ss ∧ ss.length ≤ cap ∧ cap ≤ maxLen ∧ (a = none → cap = 0) ∧ Hds w.heap.size w a hs
theorem VwS.below {w w' : World} {a : Option Addr} {cap : Nat} {hs : List Hd} {ss : List (List Cel)} (h : VwS w a cap hs ss) (hb : Below w.heap.size w w') : VwS w' a cap hs ss := by
  obtain ⟨h1, h2, h3, h4, h5⟩ := h
  exact ⟨h1.below hb, h2, h3, h4, fun j x hx => by
    obtain ⟨g, o, e, hg, hc⟩ := h5 j x hx
    exact ⟨g, o, e, Nat.lt_of_lt_of_le hg hb.size, (hb.cell (p := ⟨g, o + j, none⟩) hg).trans hc⟩⟩
theorem VwS.at {w : World} {a : Option Addr} {cap : Nat} {hs : List Hd} {ss : List (List Cel)} (h : VwS w a cap hs ss) {k : Nat} {l : List Cel} (hl : ss[k]? = some l) :
    ∃ x g o, hs[k]? = some x ∧ a = some ⟨g, o, none⟩ ∧ g < w.heap.size ∧ w.cell? ⟨g, o + k, none⟩ = some (.slice x.a l.length x.c) ∧ Vw w x.a x.c l := by
  obtain ⟨x, hx⟩ : ∃ x, hs[k]? = some x := ⟨hs[k]'(by rw [h.1.1]; exact (List.getElem?_eq_some_iff.1 hl).1), List.getElem?_eq_getElem _⟩
  obtain ⟨g, o, e, hg, hc⟩ := h.2.2.2.2 k x hx
  obtain ⟨e2, hv⟩ := h.1.2 k x l hx hl
  rw [e2] at hc
  exact ⟨x, g, o, hx, e, hg, hc, hv⟩
/-- Are the shelves valid? Is the store? -/
def okT (l : List Cel) : Bool := !l.isEmpty && okL l
def okB (h : List Cel) (ss : List (List Cel)) : Bool := okL h && (decide (ss.length ≤ 5) && ss.all okT)
theorem okB_iff {h : List Cel} {ss : List (List Cel)} : okB h ss = true ↔ okL h = true ∧ ss.length ≤ 5 ∧ ∀ l ∈ ss, l ≠ [] ∧ okL l = true := by
  unfold okB okT; simp [List.all_eq_true]
theorem okB_hand {h : List Cel} {ss : List (List Cel)} (e : okL h = false) : okB h ss = false := by unfold okB; rw [e]; rfl
theorem okB_many {h : List Cel} {ss : List (List Cel)} (e : 5 < ss.length) : okB h ss = false := by unfold okB; rw [decide_eq_false (by omega)]; simp
theorem okB_bad {h : List Cel} {ss : List (List Cel)} {l : List Cel} (hm : l ∈ ss) (e : okT l = false) : okB h ss = false := by
  unfold okB
  have : ss.all okT = false := by rw [List.all_eq_false]; exact ⟨l, hm, by simp [e]⟩
  rw [this]; simp
theorem okB_all {h : List Cel} {ss : List (List Cel)} (h1 : okL h = true) (h2 : ss.length ≤ 5) (h3 : ∀ (j : Nat) (l : List Cel), ss[j]? = some l → okT l = true) : okB h ss = true := by
  unfold okB
  rw [h1, decide_eq_true h2]
  simp only [Bool.true_and]
  rw [List.all_eq_true]
  intro l hl
  obtain ⟨j, hj⟩ := List.mem_iff_getElem?.1 hl
  exact h3 j l hj
/-- No list is too long, no text. -/
def Low (h : List Cel) (ss : List (List Cel)) : Prop := h.length ≤ 1048576 ∧ ss.length ≤ 1048576 ∧ ∀ l ∈ ss, l.length ≤ 1048576
def Mod (h : List Cel) (ss : List (List Cel)) : Prop := (∀ c ∈ h, c.mod) ∧ ∀ l ∈ ss, ∀ c ∈ l, c.mod
end Go.Proofs.Ytefhdhblcaopiaa.Cl
