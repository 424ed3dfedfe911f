/-
  Stores (barns): a slice of slices that reads as lists of cells ('VwS'), one of a call's own ('OwS'); which stores are valid ('okB').
  Stores of a call's own ('OwB'); contracts of spec.BarnOk and of the laws' helpers szBarn, toBarn, eqBarn. (Made by gen_bb.py.)
  Contracts of the laws' helpers szBarn, toBarn, eqBarn. (Made by gen_bd.py.)
  Contracts of laws.eqBarn, laws.markBarn, laws.heldBarn.
  laws.markBarn marks every cell of a store of a call's own, and turns nothing else; laws.heldBarn finds the marks again.
  As laws.szBarn: what is let in has not too many cells in all.
  The contract of spec.BarnOk: 'okB'.
  The contract of impl.BarnOk: 'okB'.
  spec.BarnOk and impl.BarnOk at stores of the call's own.
  What the texts over stores share: an append to a row of slices, bounds.
-/
import Derived.Test.YtkkpokfekbdigaaRa
import Derived.Test.YtkkpokfekbdigaaCa
import Derived.Test.YtkkpokfekbdigaaCo
import Derived.Test.YtkkpokfekbdigaaCn
namespace Go.Proofs.Ytkkpokfekbdigaa.Cl
open Go.RowKit Wd Rp Kp Ra
set_option linter.unusedVariables false
/-- The headers read as these lists. -/
def VwH (w : World) (hs : List Hd) (ss : List (List Cel)) : Prop := hs.length = ss.length ∧ ∀ (j : Nat) (h : Hd) (l : List Cel), hs[j]? = some h → ss[j]? = some l → h.n = l.length ∧ Vw w h.a h.c l
theorem VwH.below {w w' : World} {hs : List Hd} {ss : List (List Cel)} (h : VwH w hs ss) (hb : Below w.heap.size w w') : VwH w' hs ss :=
  ⟨h.1, fun j x l h1 h2 => ⟨(h.2 j x l h1 h2).1, (h.2 j x l h1 h2).2.below hb⟩⟩
/-- The slice reads as these lists. -/
def VwS (w : World) (a : Option Addr) (cap : Nat) (hs : List Hd) (ss : List (List Cel)) : Prop := VwH w hs ss ∧ ss.length ≤ cap ∧ cap ≤ maxLen ∧ (a = none → cap = 0) ∧ Hds w.heap.size w a hs
theorem VwS.below {w w' : World} {a : Option Addr} {cap : Nat} {hs : List Hd} {ss : List (List Cel)} (h : VwS w a cap hs ss) (hb : Below w.heap.size w w') : VwS w' a cap hs ss := by
  obtain ⟨h1, h2, h3, h4, h5⟩ := h
  exact ⟨h1.below hb, h2, h3, h4, fun j x hx => by
    obtain ⟨g, o, e, hg, hc⟩ := h5 j x hx
    exact ⟨g, o, e, Nat.lt_of_lt_of_le hg hb.size, (hb.cell (p := ⟨g, o + j, none⟩) hg).trans hc⟩⟩
theorem VwS.at {w : World} {a : Option Addr} {cap : Nat} {hs : List Hd} {ss : List (List Cel)} (h : VwS w a cap hs ss) {k : Nat} {l : List Cel} (hl : ss[k]? = some l) :
    ∃ x g o, hs[k]? = some x ∧ a = some ⟨g, o, none⟩ ∧ g < w.heap.size ∧ w.cell? ⟨g, o + k, none⟩ = some (.slice x.a l.length x.c) ∧ Vw w x.a x.c l := by
  obtain ⟨x, hx⟩ : ∃ x, hs[k]? = some x := ⟨hs[k]'(by rw [h.1.1]; exact (List.getElem?_eq_some_iff.1 hl).1), List.getElem?_eq_getElem _⟩
  obtain ⟨g, o, e, hg, hc⟩ := h.2.2.2.2 k x hx
  obtain ⟨e2, hv⟩ := h.1.2 k x l hx hl
  rw [e2] at hc
  exact ⟨x, g, o, hx, e, hg, hc, hv⟩
/-- Are the shelves valid? Is the store? -/
def okT (l : List Cel) : Bool := !l.isEmpty && okL l
def okB (h : List Cel) (ss : List (List Cel)) : Bool := okL h && (decide (ss.length ≤ 5) && ss.all okT)
theorem okB_iff {h : List Cel} {ss : List (List Cel)} : okB h ss = true ↔ okL h = true ∧ ss.length ≤ 5 ∧ ∀ l ∈ ss, l ≠ [] ∧ okL l = true := by
  unfold okB okT; simp [List.all_eq_true]
theorem okB_hand {h : List Cel} {ss : List (List Cel)} (e : okL h = false) : okB h ss = false := by unfold okB; rw [e]; rfl
theorem okB_many {h : List Cel} {ss : List (List Cel)} (e : 5 < ss.length) : okB h ss = false := by unfold okB; rw [decide_eq_false (by omega)]; simp
theorem okB_bad {h : List Cel} {ss : List (List Cel)} {l : List Cel} (hm : l ∈ ss) (e : okT l = false) : okB h ss = false := by
  unfold okB
  have : ss.all okT = false := by rw [List.all_eq_false]; exact ⟨l, hm, by simp [e]⟩
  rw [this]; simp
theorem okB_all {h : List Cel} {ss : List (List Cel)} (h1 : okL h = true) (h2 : ss.length ≤ 5) (h3 : ∀ (j : Nat) (l : List Cel), ss[j]? = some l → okT l = true) : okB h ss = true := by
  unfold okB
  rw [h1, decide_eq_true h2]
  simp only [Bool.true_and]
  rw [List.all_eq_true]
  intro l hl
  obtain ⟨j, hj⟩ := List.mem_iff_getElem?.1 hl
  exact h3 j l hj
/-- No list is too long, no text. -/
def Low (h : List Cel) (ss : List (List Cel)) : Prop := h.length ≤ 1048576 ∧ ss.length ≤ 1048576 ∧ ∀ l ∈ ss, l.length ≤ 1048576
def Mod (h : List Cel) (ss : List (List Cel)) : Prop := (∀ c ∈ h, c.mod) ∧ ∀ l ∈ ss, ∀ c ∈ l, c.mod
end Go.Proofs.Ytkkpokfekbdigaa.Cl
namespace Go.Proofs.Ytkkpokfekbdigaa.Cl
open Go.RowKit Wd Rp Kp Ra
set_option linter.unusedVariables false
/-- No two of them lie in one block. -/
def Dis (us : List Value) : Prop := us.Pairwise fun u v => ∀ k, u.ownBlock = some k → v.ownBlock ≠ some k
def OwL (B : Nat) (w : World) (us : List Value) (ss : List (List Cel)) : Prop := us.length = ss.length ∧ (∀ (j : Nat) (u : Value) (l : List Cel), us[j]? = some u → ss[j]? = some l → OwC B w u l) ∧ Dis us
def RowS (B : Nat) (w : World) (v : Value) (us : List Value) : Prop := w.ownsRow B 24 1 v us.length us
/-- A store of a call's own: each list in a block of its own. -/
def OwB (B : Nat) (w : World) (hv sv : Value) (h : List Cel) (ss : List (List Cel)) : Prop := ∃ us, RowS B w sv us ∧ OwL B w (hv :: us) (h :: ss)
theorem OwL.next {B : Nat} {w w' : World} {us : List Value} {ss : List (List Cel)} (h : OwL B w us ss) (hb : Below w.heap.size w w') : OwL B w' us ss := ⟨h.1, fun j u l h1 h2 => (h.2.1 j u l h1 h2).next hb, h.2.2⟩
theorem OwL.mono {B C : Nat} {w : World} {us : List Value} {ss : List (List Cel)} (h : OwL B w us ss) (hC : C ≤ B) : OwL C w us ss := ⟨h.1, fun j u l h1 h2 => (h.2.1 j u l h1 h2).mono hC, h.2.2⟩
theorem RowS.next {B : Nat} {w w' : World} {v : Value} {us : List Value} (h : RowS B w v us) (hb : Below w.heap.size w w') : RowS B w' v us := row_next h fun g _ hg => hb.block g hg
theorem RowS.mono {B C : Nat} {w : World} {v : Value} {us : List Value} (h : RowS B w v us) (hC : C ≤ B) : RowS C w v us := by
  obtain ⟨h1, h2⟩ := h
  refine ⟨h1, ?_⟩
  rcases h2 with h2 | ⟨g, cap, cur, hv, hB, h3⟩
  · exact .inl h2
  · exact .inr ⟨g, cap, cur, hv, Nat.le_trans hC hB, h3⟩
theorem OwB.next {B : Nat} {w w' : World} {hv sv : Value} {h : List Cel} {ss : List (List Cel)} (o : OwB B w hv sv h ss) (hb : Below w.heap.size w w') : OwB B w' hv sv h ss := by
  obtain ⟨us, h1, h2⟩ := o
  exact ⟨us, h1.next hb, h2.next hb⟩
theorem OwB.mono {B C : Nat} {w : World} {hv sv : Value} {h : List Cel} {ss : List (List Cel)} (o : OwB B w hv sv h ss) (hC : C ≤ B) : OwB C w hv sv h ss := by
  obtain ⟨us, h1, h2⟩ := o
  exact ⟨us, h1.mono hC, h2.mono hC⟩
theorem infoS : (Try.prog.info? 24).map (fun i => (i.zero, i.size, i.bytes)) = some (some (.slice none 0 0), 1, 24) := by kernel_rfl
/-- Blocks of different types are different. -/
theorem own_ne {w : World} {B B' e e' k k' n n' : Nat} {v v' : Value} {xs xs' : List Value} (h : w.ownsRow B e k v n xs) (h' : w.ownsRow B' e' k' v' n' xs') (he : e ≠ e') : ∀ q, v.ownBlock = some q → v'.ownBlock ≠ some q := by
  intro q hq hq'
  rcases h.2 with ⟨rfl, _⟩ | ⟨g, cap, cur, rfl, _, hg, _⟩
  · simp [Value.ownBlock] at hq
  · rcases h'.2 with ⟨rfl, _⟩ | ⟨g', cap', cur', rfl, _, hg', _⟩
    · simp [Value.ownBlock] at hq'
    · obtain rfl : g = q := by simpa [Value.ownBlock] using hq
      obtain rfl : g' = g := by simpa [Value.ownBlock] using hq'
      rw [hg] at hg'
      simp at hg'
      exact he hg'.2
theorem RowS.form {B : Nat} {w : World} {v : Value} {us : List Value} (h : RowS B w v us) : ∃ a cap, v = .slice a us.length cap ∧ us.length ≤ cap ∧ cap ≤ maxLen ∧ (a = none → cap = 0) ∧
    ∀ (k : Nat) (u : Value), us[k]? = some u → ∃ g, a = some ⟨g, 0, none⟩ ∧ B ≤ g ∧ g < w.heap.size ∧ w.cell? ⟨g, k, none⟩ = some u ∧ w.frozen? ⟨g, k, none⟩ = false := by
  obtain ⟨h1, h2⟩ := h
  rcases h2 with ⟨rfl, hn⟩ | ⟨g, cap, cur, rfl, hB, hg, hn, hc, hsz, hxs⟩
  · exact ⟨none, 0, by rw [hn], by omega, by decide, fun _ => rfl, fun k u hk => by have := (List.getElem?_eq_some_iff.1 hk).1; omega⟩
  · refine ⟨_, cap, rfl, hn, hc, (fun e => by cases e), fun k u hk => ⟨g, rfl, hB, (Array.getElem?_eq_some_iff.1 hg).1, ?_, by simp [World.frozen?, hg]⟩⟩
    have hkl := (List.getElem?_eq_some_iff.1 hk).1
    rw [← hxs, List.getElem?_take_of_lt (by omega)] at hk
    rw [← hk]
    simp [World.cell?, hg]
theorem OwL.heads {B : Nat} {w : World} {us : List Value} {ss : List (List Cel)} (h : OwL B w us ss) : ∃ hs : List Hd, us = hs.map Hd.val ∧ VwH w hs ss := by
  have key : ∀ (us : List Value) (ss : List (List Cel)), us.length = ss.length → (∀ (j : Nat) (u : Value) (l : List Cel), us[j]? = some u → ss[j]? = some l → OwC B w u l) → ∃ hs : List Hd, us = hs.map Hd.val ∧ VwH w hs ss := by
    intro us
    induction us with
    | nil =>
      intro ss hl _
      cases ss with
      | nil => exact ⟨[], rfl, rfl, fun j h l h1 => by simp at h1⟩
      | cons => simp at hl
    | cons u us ih =>
      intro ss hl ho
      cases ss with
      | nil => simp at hl
      | cons l ss =>
        obtain ⟨a, cap, rfl, hv, -⟩ := (ho 0 u l rfl rfl).view
        obtain ⟨hs, e, e2, e3⟩ := ih ss (by simpa using hl) (fun j x y h1 h2 => ho (j + 1) x y (by simpa using h1) (by simpa using h2))
        refine ⟨⟨a, l.length, cap⟩ :: hs, by rw [e]; rfl, by simp [e2], fun j h t h1 h2 => ?_⟩
        cases j with
        | zero =>
          obtain rfl : (⟨a, l.length, cap⟩ : Hd) = h := by simpa using h1
          obtain rfl : l = t := by simpa using h2
          exact ⟨rfl, hv⟩
        | succ j => exact e3 j h t (by simpa using h1) (by simpa using h2)
  exact key us ss h.1 h.2.1
theorem RowS.view {B : Nat} {w : World} {v : Value} {hs : List Hd} {ss : List (List Cel)} (h : RowS B w v (hs.map Hd.val)) (hh : VwH w hs ss) : ∃ a cap, v = .slice a ss.length cap ∧ VwS w a cap hs ss := by
  obtain ⟨a, cap, e, h1, h2, h3, h4⟩ := h.form
  rw [List.length_map, hh.1] at e h1
  refine ⟨a, cap, e, hh, h1, h2, h3, fun j x hx => ?_⟩
  obtain ⟨g, e2, -, hg, hc, -⟩ := h4 j x.val (by rw [List.getElem?_map, hx]; rfl)
  exact ⟨g, 0, e2, hg, by rw [Nat.zero_add]; exact hc⟩
theorem OwB.view {B : Nat} {w : World} {hv sv : Value} {h : List Cel} {ss : List (List Cel)} (o : OwB B w hv sv h ss) : ∃ a c sa sc hs, hv = .slice a h.length c ∧ sv = .slice sa ss.length sc ∧ Vw w a c h ∧ VwS w sa sc hs ss := by
  obtain ⟨us, h1, h2⟩ := o
  obtain ⟨a, c, e, hv2, -⟩ := (h2.2.1 0 hv h rfl rfl).view
  obtain ⟨hs, e3, hh⟩ := OwL.heads (us := us) (ss := ss) (B := B) (w := w) ⟨by simpa using h2.1, fun j u l k1 k2 => h2.2.1 (j + 1) u l (by simpa using k1) (by simpa using k2), (List.pairwise_cons.1 h2.2.2).2⟩
  rw [e3] at h1
  obtain ⟨sa, sc, e4, hs4⟩ := RowS.view h1 hh
  exact ⟨a, c, sa, sc, hs, e, e4, hv2, hs4⟩
theorem OwB.hand {B : Nat} {w : World} {hv sv : Value} {h : List Cel} {ss : List (List Cel)} (o : OwB B w hv sv h ss) : OwC B w hv h := by
  obtain ⟨us, h1, h2⟩ := o
  exact h2.2.1 0 hv h rfl rfl
theorem dis_snoc {us : List Value} {u : Value} (h : Dis us) (hu : ∀ x ∈ us, ∀ k, x.ownBlock = some k → u.ownBlock ≠ some k) : Dis (us ++ [u]) := by
  unfold Dis at *
  rw [List.pairwise_append]
  exact ⟨h, List.pairwise_singleton _ _, fun x hx y hy => by rw [List.mem_singleton.1 hy]; exact hu x hx⟩
theorem dis_cons {us : List Value} {u : Value} (h : Dis us) (hu : ∀ x ∈ us, ∀ k, u.ownBlock = some k → x.ownBlock ≠ some k) : Dis (u :: us) := List.pairwise_cons.2 ⟨fun x hx => hu x hx, h⟩
theorem get_snoc {α : Type} {l : List α} {x y : α} {j : Nat} (h : (l ++ [x])[j]? = some y) : (j < l.length ∧ l[j]? = some y) ∨ (j = l.length ∧ x = y) := by
  by_cases hj : j < l.length
  · rw [List.getElem?_append_left hj] at h; exact .inl ⟨hj, h⟩
  · rw [List.getElem?_append_right (by omega)] at h
    have : j - l.length = 0 := by
      rcases Nat.eq_zero_or_pos (j - l.length) with h0 | h0
      · exact h0
      · rw [List.getElem?_eq_none (by simp; omega)] at h; cases h
    rw [this] at h
    exact .inr ⟨by omega, by simpa using h⟩
/-- One list more. -/
theorem OwL.snoc {B C : Nat} {w : World} {us : List Value} {ss : List (List Cel)} {u : Value} {l : List Cel} (h : OwL B w us ss) (hu : OwC C w u l) (hC : B ≤ C) (hn : ∀ x ∈ us, ∀ k, x.ownBlock = some k → u.ownBlock ≠ some k) : OwL B w (us ++ [u]) (ss ++ [l]) := by
  refine ⟨by simp [h.1], fun j x y h1 h2 => ?_, dis_snoc h.2.2 hn⟩
  rcases get_snoc h1 with ⟨hj, h1⟩ | ⟨hj, rfl⟩
  · rcases get_snoc h2 with ⟨hj2, h2⟩ | ⟨hj2, rfl⟩
    · exact h.2.1 j x y h1 h2
    · have := h.1; omega
  · rcases get_snoc h2 with ⟨hj2, h2⟩ | ⟨hj2, rfl⟩
    · have := h.1; omega
    · exact hu.mono hC
theorem OwL.low {B : Nat} {w : World} {us : List Value} {ss : List (List Cel)} (h : OwL B w us ss) : ∀ x ∈ us, ∀ k, x.ownBlock = some k → B ≤ k ∧ k < w.heap.size := fun x hx k hk => by
  obtain ⟨j, hj⟩ := List.mem_iff_getElem?.1 hx
  have hlt := (List.getElem?_eq_some_iff.1 hj).1
  have := h.2.1 j x _ hj (List.getElem?_eq_getElem (by rw [← h.1]; exact hlt))
  exact ⟨OwC.lt this k hk, OwC.low this k hk⟩
/-- What turns no block of theirs leaves them. -/
theorem OwL.grown {B : Nat} {w w' : World} {us : List Value} {ss : List (List Cel)} {row : Option Nat} (h : OwL B w us ss) (hg : w.grownBy w' row) (hne : ∀ x ∈ us, ∀ k, x.ownBlock = some k → row ≠ some k) : OwL B w' us ss :=
  ⟨h.1, fun j u l h1 h2 => (h.2.1 j u l h1 h2).grown hg (hne u (List.mem_of_getElem? h1)), h.2.2⟩
theorem RowS.apart {B C : Nat} {w : World} {v : Value} {us us' : List Value} {ss : List (List Cel)} (h : RowS B w v us) (hl : OwL C w us' ss) : ∀ x ∈ us', ∀ k, x.ownBlock = some k → v.ownBlock ≠ some k := fun x hx k hk => by
  obtain ⟨j, hj⟩ := List.mem_iff_getElem?.1 hx
  have hlt := (List.getElem?_eq_some_iff.1 hj).1
  exact own_ne (hl.2.1 j x _ hj (List.getElem?_eq_getElem (by rw [← hl.1]; exact hlt))) h (by decide) k hk
theorem RowS.set {B : Nat} {w : World} {g n cap : Nat} {us : List Value} (h : RowS B w (.slice (some ⟨g, 0, none⟩) n cap) us) (hn : n = us.length) (k : Nat) (u : Value) : RowS B (w.setCell ⟨g, k, none⟩ u) (.slice (some ⟨g, 0, none⟩) n cap) (us.set k u) ∧ w.grownBy (w.setCell ⟨g, k, none⟩ u) (some g) := by
  subst hn
  have := World.ownsRow.stored h k u
  unfold RowS
  rw [List.length_set]; exact this
theorem RowS.start {B : Nat} {w : World} (h : B ≤ w.heap.size) : RowS B (w.alloc (.cells #[] 24)) (.slice (some ⟨w.heap.size, 0, none⟩) 0 0) [] := World.ownsRow_made w #[] 0 h (by decide) rfl
theorem RowS.nothing (B : Nat) (w : World) : RowS B w (.slice none 0 0) [] := World.ownsRow_nil w B _ _
theorem RowS.lit {B : Nat} {w : World} (h : B ≤ w.heap.size) (u : Value) : RowS B (w.alloc (.cells #[u] 24)) (.slice (some ⟨w.heap.size, 0, none⟩) 1 1) [u] := World.ownsRow_lit (base := B) (e := 24) (size := 1) w #[u] 1 h (by decide) rfl
theorem RowS.lt {B : Nat} {w : World} {v : Value} {us : List Value} (h : RowS B w v us) : ∀ k, v.ownBlock = some k → B ≤ k := fun k hk => (World.ownsRow.lt h k hk).1
theorem RowS.grown {B : Nat} {w w' : World} {v : Value} {us : List Value} {row : Option Nat} (h : RowS B w v us) (hg : w.grownBy w' row) (hne : ∀ k, v.ownBlock = some k → row ≠ some k) : RowS B w' v us :=
  row_next h fun g hb hlt => hg.block g hlt (fun e => hne g hb e.symm)
theorem OwB.mk {B : Nat} {w : World} {hv sv : Value} {us : List Value} {h : List Cel} {ss : List (List Cel)} (hu : OwC B w hv h) (hr : RowS B w sv us) (hl : OwL B w us ss) (hne : ∀ x ∈ us, ∀ k, hv.ownBlock = some k → x.ownBlock ≠ some k) : OwB B w hv sv h ss := by
  refine ⟨us, hr, by simp [hl.1], fun j u l h1 h2 => ?_, dis_cons hl.2.2 hne⟩
  cases j with
  | zero =>
    obtain rfl : hv = u := by simpa using h1
    obtain rfl : h = l := by simpa using h2
    exact hu
  | succ j => exact hl.2.1 j u l (by simpa using h1) (by simpa using h2)
theorem OwC.put {B : Nat} {w : World} {v : Value} {l : List Cel} (o : OwC B w v l) {p : Addr} (hp : p.block < B) (x : Value) : OwC B (w.setCell p x) v l := row_next o fun g hb _ => Below.heap_setCell _ _ _ g (fun e => by have := OwC.lt o g hb; omega)
theorem RowS.put {B : Nat} {w : World} {v : Value} {us : List Value} (o : RowS B w v us) {p : Addr} (hp : p.block < B) (x : Value) : RowS B (w.setCell p x) v us := row_next o fun g hb _ => Below.heap_setCell _ _ _ g (fun e => by have := RowS.lt o g hb; omega)
theorem OwL.put {B : Nat} {w : World} {us : List Value} {ss : List (List Cel)} (o : OwL B w us ss) {p : Addr} (hp : p.block < B) (x : Value) : OwL B (w.setCell p x) us ss := ⟨o.1, fun j u l h1 h2 => (o.2.1 j u l h1 h2).put hp x, o.2.2⟩
theorem OwB.put {B : Nat} {w : World} {hv sv : Value} {h : List Cel} {ss : List (List Cel)} (o : OwB B w hv sv h ss) {p : Addr} (hp : p.block < B) (x : Value) : OwB B (w.setCell p x) hv sv h ss := by
  obtain ⟨us, h1, h2⟩ := o
  exact ⟨us, h1.put hp x, h2.put hp x⟩
theorem specBarn_end {h : List Cel} {ss : List (List Cel)} (h3 : ∀ (j : Nat) (l : List Cel), ss[j]? = some l → okT l = true) : okB h ss = (okL h && decide (ss.length ≤ 5)) := by
  unfold okB
  have : ss.all okT = true := by
    rw [List.all_eq_true]; intro l hl
    obtain ⟨j, hj⟩ := List.mem_iff_getElem?.1 hl
    exact h3 j l hj
  rw [this, Bool.and_true]
/-- A store in a block. -/
def Bb (q : Nat) (u v : Value) (w : World) : Prop := w.cell? ⟨q, 0, none⟩ = some u ∧ w.cell? ⟨q, 1, none⟩ = some v ∧ w.frozen? ⟨q, 0, none⟩ = false ∧ w.frozen? ⟨q, 1, none⟩ = false ∧ q < w.heap.size
theorem Bb.of {q T : Nat} {u v : Value} {w : World} (e : w.heap[q]? = some (.cells #[u, v] T (0, 0))) : Bb q u v w :=
  ⟨by simp only [World.cell?, e]; rfl, by simp only [World.cell?, e]; rfl, by simp only [World.frozen?, e]; rfl, by simp only [World.frozen?, e]; rfl, (Array.getElem?_eq_some_iff.1 e).1⟩
theorem Bb.made (u v : Value) (w : World) (T : Nat) : Bb w.heap.size u v (w.alloc (.cells #[u, v] T)) := Bb.of (World.alloc_heap_new w _)
theorem Bb.below {q B : Nat} {u v : Value} {w w' : World} (h : Bb q u v w) (hb : Below B w w') (hq : q < B) : Bb q u v w' := by
  obtain ⟨h0, h1, h2, h3, h4⟩ := h
  have e : w'.heap[q]? = w.heap[q]? := hb.block q hq
  exact ⟨(World.cell?_of_block (w := w) e).trans h0, (World.cell?_of_block (w := w) e).trans h1, (World.frozen?_of_block (w := w) e).trans h2, (World.frozen?_of_block (w := w) e).trans h3, Nat.lt_of_lt_of_le h4 hb.size⟩
theorem Bb.set0 {q : Nat} {u v : Value} {w : World} (h : Bb q u v w) (x : Value) : Bb q x v (w.setCell ⟨q, 0, none⟩ x) := by
  obtain ⟨h0, h1, h2, h3, h4⟩ := h
  exact ⟨World.cell?_setCell_same' _ _ _ (by rw [h0]; rfl), (World.cell?_setCell_other _ _ _ _ (by simp)).trans h1, by rw [World.frozen?_setCell]; exact h2, by rw [World.frozen?_setCell]; exact h3, by rw [World.size_setCell]; exact h4⟩
theorem Bb.set1 {q : Nat} {u v : Value} {w : World} (h : Bb q u v w) (x : Value) : Bb q u x (w.setCell ⟨q, 1, none⟩ x) := by
  obtain ⟨h0, h1, h2, h3, h4⟩ := h
  exact ⟨(World.cell?_setCell_other _ _ _ _ (by simp)).trans h0, World.cell?_setCell_same' _ _ _ (by rw [h1]; rfl), by rw [World.frozen?_setCell]; exact h2, by rw [World.frozen?_setCell]; exact h3, by rw [World.size_setCell]; exact h4⟩
theorem Bb.put {q : Nat} {u v : Value} {w : World} (h : Bb q u v w) {p : Addr} (hp : p.block ≠ q) (x : Value) : Bb q u v (w.setCell p x) := by
  obtain ⟨h0, h1, h2, h3, h4⟩ := h
  have e : (w.setCell p x).heap[q]? = w.heap[q]? := Below.heap_setCell _ _ _ _ (fun e => hp e.symm)
  exact ⟨(World.cell?_of_block (w := w) e).trans h0, (World.cell?_of_block (w := w) e).trans h1, (World.frozen?_of_block (w := w) e).trans h2, (World.frozen?_of_block (w := w) e).trans h3, by rw [World.size_setCell]; exact h4⟩
theorem Bb.next {q : Nat} {u v : Value} {w w' : World} (h : Bb q u v w) (hb : Below w.heap.size w w') : Bb q u v w' := h.below hb h.2.2.2.2
theorem lt_of_cell {w : World} {p : Addr} {v : Value} (h : w.cell? p = some v) : p.block < w.heap.size := by
  unfold World.cell? at h
  cases ho : w.heap[p.block]? with
  | none => simp [ho] at h
  | some o => exact (Array.getElem?_eq_some_iff.1 ho).1
theorem specCellsV {l : List Cel} {x : Bool} (h : okL l = x) (w : World) (a : Option Addr) (cap : Nat) (hv : Vw w a cap l) (hm : ∀ c ∈ l, c.mod) (hlen : l.length ≤ 1048576) :
    Calls Try.prog 24 #[.slice a l.length cap] w fun e w' => e = .returned (.bool x) ∧ Below w.heap.size w w' := specCells_is h w a cap _ rfl hv hm (by omega)
end Go.Proofs.Ytkkpokfekbdigaa.Cl
namespace Go.Proofs.Ytkkpokfekbdigaa.Cl
open Go.RowKit Wd Rp Kp Ra
set_option linter.unusedVariables false
/-- Texts no longer than a machine can hold. -/
def Big (l : List Cel) : Prop := ∀ c ∈ l, c.r.size ≤ 9223372036854775807 ∧ c.b.size ≤ 9223372036854775807
def Small (n : Int) (l : List Cel) : Prop := (l.length : Int) ≤ n ∧ ∀ c ∈ l, (c.r.size : Int) ≤ n ∧ (c.b.size : Int) ≤ n
theorem Small.mono {n m : Int} {l : List Cel} (h : Small n l) (hm : n ≤ m) : Small m l := ⟨Int.le_trans h.1 hm, fun c hc => ⟨Int.le_trans (h.2 c hc).1 hm, Int.le_trans (h.2 c hc).2 hm⟩⟩
def SzS (ss : List (List Cel)) (n : Int) (w : World) (e : Ending) (w' : World) : Prop := ∃ z : Int, e = .returned (.int .i64 z) ∧ Below w.heap.size w w' ∧ (z < 0 ∨ 0 ≤ z ∧ z ≤ n ∧ (ss.length : Int) ≤ n ∧ ∀ l ∈ ss, Small n l)
set_option maxRecDepth 100000 in
set_option maxHeartbeats 2000000 in
theorem szCellSS_any (w : World) (a : Option Addr) (cap : Nat) (hs : List Hd) (ss : List (List Cel)) (L : Nat) (hL : ss.length = L) (n : Int) (hv : VwS w a cap hs ss) (hm : ∀ l ∈ ss, Big l) (h0 : 0 ≤ n) (hn : n ≤ 1048576) :
    Calls Try.prog 84 #[.slice a L cap, .int .i64 n] w (SzS ss n w) := by
  have hlm : L ≤ 9223372036854775807 := by have := hv.2.1; have h2 := hv.2.2.1; unfold maxLen at h2; omega
  have HV := Lib.hid hv; clear hv
  have HM := Lib.hid hm; clear hm
  have HL := Lib.hid hL; clear hL
  by_cases hlt : n - (L : Int) < 0
  · go_enter Try.func84, Try.ntmps84
    go_wp2
    go_ret
    exact ⟨-1, rfl, Below.refl _ _, Or.inl (by decide)⟩
  · go_enter Try.func84, Try.ntmps84
    go_wp2
    go_loopw [1, 5] (fun q i wr => ∃ (k : Nat) (z : Int), k ≤ L ∧ i = .int .i64 k ∧ q = .int .i64 z ∧ 0 ≤ z ∧ z ≤ n ∧ (∀ (j : Nat) (l : List Cel), j < k → ss[j]? = some l → Small n l) ∧ Below w.heap.size w wr) (fun _ i _ => L - intV i)
    case atStart => exact ⟨0, n - L, Nat.zero_le _, rfl, rfl, by omega, by omega, fun j c hj => by omega, Below.refl _ _⟩
    case round =>
      obtain ⟨k, z, hk, rfl, rfl, z0, z1, hok, hbel⟩ := hrel
      have HB := Lib.hid hbel; clear hbel
      have HO := Lib.hid hok; clear hok
      by_cases hlk : k < L
      · obtain ⟨l, hl⟩ : ∃ l, ss[k]? = some l := ⟨ss[k]'(by rw [HL.out]; exact hlk), List.getElem?_eq_getElem _⟩
        obtain ⟨x, g, o, -, rfl, hg, hc, hvl⟩ := HV.out.at hl
        have hcx : wr.cell? ⟨g, o + k, none⟩ = some (.slice x.a l.length x.c) := (HB.out.cell (p := ⟨g, o + k, none⟩) hg).trans hc
        have HZ := Lib.hid (szCellS_any wr x.a x.c l z (hvl.below HB.out) (HM.out l (List.mem_of_getElem? hl)) z0 (by omega)); clear hvl hc hg
        have HL2 := Lib.hid hl; clear hl
        generalize l.length = ln at *
        go_wp2_with fail
        refine HZ.out.mono ?_; rintro e w1 ⟨y, rfl, b1, hy⟩
        have B1 := Lib.hid (bel_tr HB.out b1 (Nat.le_refl _)); clear b1
        rcases hy with hy | ⟨y0, y1, y2, y3⟩
        · go_wp2_with fail
          go_ret
          exact ⟨-1, rfl, B1.out, Or.inl (by decide)⟩
        · have HS := Lib.hid (show Small n l from Small.mono (n := z) ⟨y2, y3⟩ z1); clear y2 y3
          have y4 : ¬ y < 0 := by omega
          go_wp2_with fail
          go_roundw
          case rel =>
            refine ⟨k + 1, y, by omega, by go_num, rfl, by omega, by omega, fun j d hj hd => ?_, B1.out⟩
            by_cases he : j = k
            · subst he
              obtain rfl : l = d := Option.some.inj (HL2.out.symm.trans hd)
              exact HS.out
            · exact HO.out j d (by omega) hd
          case measure => simp [intV]; omega
      · obtain rfl : k = L := by omega
        go_wp2_with fail
        go_ret
        refine ⟨z, rfl, HB.out, Or.inr ⟨z0, z1, by rw [HL.out]; omega, fun l hl => ?_⟩⟩
        obtain ⟨j, hj⟩ := List.mem_iff_getElem?.1 hl
        exact HO.out j l (by have := (List.getElem?_eq_some_iff.1 hj).1; rw [HL.out] at this; omega) hj
def SzB (h : List Cel) (ss : List (List Cel)) (n : Int) (w : World) (e : Ending) (w' : World) : Prop := ∃ z : Int, e = .returned (.int .i64 z) ∧ Below w.heap.size w w' ∧ (z < 0 ∨ 0 ≤ z ∧ z ≤ n ∧ Small n h ∧ (ss.length : Int) ≤ n ∧ ∀ l ∈ ss, Small n l)
set_option maxRecDepth 100000 in
set_option maxHeartbeats 2000000 in
theorem szBarn_any (w : World) (a sa : Option Addr) (c sc N L : Nat) (h : List Cel) (hs : List Hd) (ss : List (List Cel)) (hN : h.length = N) (hL : ss.length = L) (n : Int) (hv : Vw w a c h) (hvs : VwS w sa sc hs ss) (hm1 : Big h) (hm : ∀ l ∈ ss, Big l) (h0 : 0 ≤ n) (hn : n ≤ 1048576) :
    Calls Try.prog 47 #[.agg #[.slice a N c, .slice sa L sc], .int .i64 n] w (SzB h ss n w) := by
  have HVS := Lib.hid hvs; clear hvs
  have HM := Lib.hid hm; clear hm
  have H0 := Lib.hid (bel1 w (.cells #[.slice a N c, .slice sa L sc] 71))
  have F0 := Lib.hid (Bb.made (.slice a N c) (.slice sa L sc) w 71)
  have HZ := Lib.hid (szCellS_any _ a c h n (hv.below H0.out) hm1 h0 hn); clear hv hm1
  rw [hN] at HZ
  go_enter Try.func47, Try.ntmps47
  go_wp2_with fail
  refine HZ.out.mono ?_; rintro e w1 ⟨y, rfl, b1, hy⟩
  have B1 := Lib.hid (bel_tr H0.out b1 (Nat.le_refl _))
  obtain ⟨x0, x1, -, -, -⟩ := F0.out.next b1; clear b1
  rcases hy with hy | ⟨y0, y1, y2, y3⟩
  · go_wp2_with fail
    go_ret
    exact ⟨-1, rfl, B1.out, Or.inl (by decide)⟩
  · have HS := Lib.hid (show Small n h from ⟨y2, y3⟩); clear y2 y3
    have y4 : ¬ y < 0 := by omega
    go_wp2_with fail
    refine (szCellSS_any w1 sa sc hs ss L hL y (HVS.out.below B1.out) HM.out y0 (by omega)).mono ?_; rintro e w2 ⟨z, rfl, b2, hz⟩
    have B2 := Lib.hid (bel_tr B1.out b2 (Nat.le_refl _)); clear b2
    rcases hz with hz | ⟨z0, z1, z2, z3⟩
    · go_wp2_with fail
      go_ret
      exact ⟨-1, rfl, B2.out, Or.inl (by decide)⟩
    · have HS2 := Lib.hid (show ∀ l ∈ ss, Small n l from fun l hl => (z3 l hl).mono y1); clear z3
      have z4 : ¬ z < 0 := by omega
      go_wp2_with fail
      go_ret
      exact ⟨z, rfl, B2.out, Or.inr ⟨z0, by omega, HS.out, by omega, HS2.out⟩⟩
theorem made_none : ∀ n, (madeCells (Value.slice none 0 0).cells (n * 1)).toList = List.replicate n (.slice none 0 0) := by
  intro n
  rw [madeCells, Array.toList_map, Array.toList_range, Nat.mul_one]
  induction n with
  | zero => rfl
  | succ n ih =>
    rw [List.range_succ, List.map_append, ih, List.replicate_succ']
    simp [show (Value.slice none 0 0).cells = #[Value.slice none 0 0] from rfl, Nat.mod_one]
/-- While the lists are copied: the first k are there. -/
def Copied (w : World) (ss : List (List Cel)) (g N k : Nat) (wr : World) : Prop := ∃ us, us.length = N ∧ RowS w.heap.size wr (.slice (some ⟨g, 0, none⟩) N N) us ∧ OwL (w.heap.size + 1) wr (us.take k) (ss.take k) ∧ Below w.heap.size w wr
theorem take_set {α : Type} {l : List α} {k : Nat} {u : α} (hk : k < l.length) : (l.set k u).take (k + 1) = l.take k ++ [u] := by
  rw [List.take_succ_eq_append_getElem (by rw [List.length_set]; exact hk), List.take_set_of_le (Nat.le_refl _)]
  simp
theorem take_at {α : Type} {l : List α} {k : Nat} {u : α} (hk : l[k]? = some u) : l.take (k + 1) = l.take k ++ [u] := by
  rw [List.take_succ_eq_append_getElem (List.getElem?_eq_some_iff.1 hk).1, (List.getElem?_eq_some_iff.1 hk).2]
set_option maxRecDepth 100000 in
set_option maxHeartbeats 2000000 in
theorem toCellSS_any (w : World) (a : Option Addr) (cap : Nat) (hs : List Hd) (ss : List (List Cel)) (L : Nat) (hL : ss.length = L) (hv : VwS w a cap hs ss) (hl : L ≤ 1048576) (hll : ∀ l ∈ ss, l.length ≤ 1048576) :
    Calls Try.prog 85 #[.slice a L cap] w fun e w' => ∃ us, e = .returned (.slice (some ⟨w.heap.size, 0, none⟩) L L) ∧ us.length = L ∧ RowS w.heap.size w' (.slice (some ⟨w.heap.size, 0, none⟩) L L) us ∧ OwL (w.heap.size + 1) w' us ss ∧ Below w.heap.size w w' := by
  obtain ⟨i0, hi, hz0, hz1, hz2⟩ := info_parts infoS
  have HV := Lib.hid hv; clear hv
  have HLL := Lib.hid hll; clear hll
  have HL := Lib.hid hL; clear hL
  go_enter Try.func85, Try.ntmps85
  go_wp2_with (first
    | (at_make; refine wpList_make_full _ rfl (.tmp 6) (.tmp 6) 43 rfl w.heap.size 24 i0 _ 1 Try.underlying43 hi hz0 hz1 .i64 .i64 _ _ L rfl rfl rfl rfl (by rw [hz2]; omega) (by unfold maxLen; omega) (Nat.le_refl _) ?_; intro w1 hown1 hgrow1))
  have H1 := Lib.hid (show Copied w ss w.heap.size L 0 w1 from ⟨List.replicate L (.slice none 0 0), List.length_replicate, by
      unfold RowS; rw [List.length_replicate, ← made_none]; exact hown1, ⟨rfl, (fun j u l h1 => by simp at h1), List.Pairwise.nil⟩, (Below.refl _ _).grown hgrow1 (Nat.le_refl _) (fun _ h => by cases h)⟩)
  have hsz1 : w.heap.size < w1.heap.size := by
    obtain ⟨-, h2⟩ := hown1
    rcases h2 with ⟨h2, -⟩ | ⟨g, cap, cur, h2, -, hg, -⟩
    · cases h2
    · cases h2; exact (Array.getElem?_eq_some_iff.1 hg).1
  clear hown1 hgrow1
  go_loopw [4] (fun i wr => ∃ k : Nat, k ≤ L ∧ i = .int .i64 k ∧ w1.heap.size ≤ wr.heap.size ∧ Copied w ss w.heap.size L k wr) (fun i _ => L - intV i)
  case atStart => exact ⟨0, Nat.zero_le _, rfl, Nat.le_refl _, H1.out⟩
  case round =>
    clear H1
    obtain ⟨k, hk, rfl, hsz, us, hul, hrow, hol, hbel⟩ := hrel
    have HB := Lib.hid hbel; clear hbel
    have HR := Lib.hid hrow; clear hrow
    have HO := Lib.hid hol; clear hol
    by_cases hlk : k < L
    · obtain ⟨l, hl⟩ : ∃ l, ss[k]? = some l := ⟨ss[k]'(by rw [HL.out]; exact hlk), List.getElem?_eq_getElem _⟩
      obtain ⟨x, g, o, -, rfl, hg, hc, hvl⟩ := HV.out.at hl
      have hcx : wr.cell? ⟨g, o + k, none⟩ = some (.slice x.a l.length x.c) := (HB.out.cell (p := ⟨g, o + k, none⟩) hg).trans hc
      have HVL := Lib.hid (hvl.below HB.out); clear hvl hc hg
      have hl2 : l.length ≤ 1048576 := HLL.out l (List.mem_of_getElem? hl)
      have HL2 := Lib.hid hl; clear hl
      generalize hln : l.length = ln at *
      have HLN := Lib.hid hln; clear hln
      go_wp2_with fail
      refine (toCellS_is _ x.a x.c l _ HLN.out HVL.out hl2).mono ?_; rintro e w2 ⟨g2, rfl, hg2, o2, b2⟩
      have B2 := Lib.hid (bel_tr HB.out b2 (Nat.le_refl _))
      have R2 := Lib.hid (HR.out.next b2)
      have O2 := Lib.hid (HO.out.next b2)
      have O3 := Lib.hid o2
      have L3 := Lib.hid (HO.out.low)
      have sz2 := b2.size
      clear b2 o2 hcx
      obtain ⟨u, hu⟩ : ∃ u, us[k]? = some u := ⟨us[k]'(by omega), List.getElem?_eq_getElem _⟩
      obtain ⟨a2, cap2, e2, -, -, -, hat⟩ := R2.out.form
      obtain ⟨g3, e3, -, -, d0, f0⟩ := hat k u hu
      rw [hul] at e2
      cases e2
      cases e3
      clear hat hu
      have HS := Lib.hid (R2.out.set hul.symm k (.slice (some ⟨g2, 0, none⟩) ln ln))
      have FIN := Lib.hid (show Copied w ss w.heap.size L (k + 1) (w2.setCell ⟨w.heap.size, k, none⟩ (.slice (some ⟨g2, 0, none⟩) ln ln)) from by
        refine ⟨_, by rw [List.length_set]; exact hul, HS.out.1, ?_, B2.out.grown HS.out.2 B2.out.size (fun j hj => by cases hj; exact Nat.le_refl _)⟩
        rw [take_set (by omega), take_at HL2.out]
        refine OwL.snoc (C := w.heap.size + 1) (O2.out.grown HS.out.2 (fun y hy q hq e => by have := (O2.out.low y hy q hq).1; cases e; omega)) ((O3.out.mono (by omega)).grown HS.out.2 (fun q hq e => by
          have : g2 = q := by simpa [Value.ownBlock] using hq
          cases e; omega)) (Nat.le_refl _) (fun y hy q hq e => ?_)
        have h1 := (L3.out y hy q hq).2
        have h2 : g2 = q := by simpa [Value.ownBlock] using e
        omega)
      have sz3 : w1.heap.size ≤ (w2.setCell ⟨w.heap.size, k, none⟩ (.slice (some ⟨g2, 0, none⟩) ln ln)).heap.size := by rw [World.size_setCell]; omega
      clear HS R2 O2 O3 L3
      generalize hG : w.heap.size = G at *
      go_wp2_with fail
      subst hG
      go_roundw
      case rel => exact ⟨k + 1, by omega, by go_num, sz3, FIN.out⟩
      case measure => simp [intV]; omega
    · obtain rfl : k = L := by omega
      go_wp2_with fail
      go_ret
      refine ⟨us, rfl, hul, HR.out, ?_, HB.out⟩
      have := HO.out
      rwa [List.take_of_length_le (by omega), List.take_of_length_le (Nat.le_of_eq HL.out)] at this
set_option maxRecDepth 100000 in
set_option maxHeartbeats 2000000 in
theorem toBarn_any (w : World) (a sa : Option Addr) (c sc N L : Nat) (h : List Cel) (hs : List Hd) (ss : List (List Cel)) (hN : h.length = N) (hL : ss.length = L) (hv : Vw w a c h) (hvs : VwS w sa sc hs ss) (hlow : Low h ss) :
    Calls Try.prog 49 #[.agg #[.slice a N c, .slice sa L sc]] w fun e w' => ∃ g gs, e = .returned (.agg #[.slice (some ⟨g, 0, none⟩) N N, .slice (some ⟨gs, 0, none⟩) L L]) ∧ OwB w.heap.size w' (.slice (some ⟨g, 0, none⟩) N N) (.slice (some ⟨gs, 0, none⟩) L L) h ss ∧ Below w.heap.size w w' := by
  have HVS := Lib.hid hvs; clear hvs
  have HV := Lib.hid hv; clear hv
  have hN1 : N ≤ 1048576 := by rw [← hN]; exact hlow.1
  have hL1 : L ≤ 1048576 := by rw [← hL]; exact hlow.2.1
  have HLL := Lib.hid hlow.2.2; clear hlow
  have H0 := Lib.hid (bel3 w (.cells #[.slice a N c, .slice sa L sc] 71) (.cells #[.slice none 0 0, .slice none 0 0] 45) (.cells #[.slice none 0 0, .slice none 0 0] 45))
  have F0 := Lib.hid (show Bb w.heap.size (.slice a N c) (.slice sa L sc) (((w.alloc (.cells #[.slice a N c, .slice sa L sc] 71)).alloc (.cells #[.slice none 0 0, .slice none 0 0] 45)).alloc (.cells #[.slice none 0 0, .slice none 0 0] 45)) from
    (Bb.made (.slice a N c) (.slice sa L sc) w 71).next (bel2 _ _ _))
  have F1 := Lib.hid (show Bb (w.heap.size + 1) (.slice none 0 0) (.slice none 0 0) (((w.alloc (.cells #[.slice a N c, .slice sa L sc] 71)).alloc (.cells #[.slice none 0 0, .slice none 0 0] 45)).alloc (.cells #[.slice none 0 0, .slice none 0 0] 45)) from by
    have := (Bb.made (.slice none 0 0) (.slice none 0 0) (w.alloc (.cells #[.slice a N c, .slice sa L sc] 71)) 45).next (bel1 _ (.cells #[.slice none 0 0, .slice none 0 0] 45))
    rwa [World.size_alloc] at this)
  have F2 := Lib.hid (show Bb (w.heap.size + 2) (.slice none 0 0) (.slice none 0 0) (((w.alloc (.cells #[.slice a N c, .slice sa L sc] 71)).alloc (.cells #[.slice none 0 0, .slice none 0 0] 45)).alloc (.cells #[.slice none 0 0, .slice none 0 0] 45)) from by
    have := Bb.made (.slice none 0 0) (.slice none 0 0) ((w.alloc (.cells #[.slice a N c, .slice sa L sc] 71)).alloc (.cells #[.slice none 0 0, .slice none 0 0] 45)) 45
    rwa [World.size_alloc, World.size_alloc] at this)
  go_enter Try.func49, Try.ntmps49
  go_wp2_with fail
  refine (toCellS_is _ a c h _ hN (HV.out.below H0.out) hN1).mono ?_; rintro e w1 ⟨g, rfl, hg, o1, b1⟩
  have hs0 := H0.out.size
  have B1 := Lib.hid (bel_tr H0.out b1 (Nat.le_refl _))
  have O1 := Lib.hid o1
  have hg' : w.heap.size + 3 ≤ g := by simpa using hg
  have K0 := Lib.hid (F0.out.next b1)
  have K1 := Lib.hid (F1.out.next b1)
  have K2 := Lib.hid (F2.out.next b1)
  clear F0 F1 F2 H0 b1 o1 hs0 hg
  obtain ⟨x0, x1, -, -, x4⟩ := id K0.out
  obtain ⟨y0, y1, y2, y3, y4⟩ := id K1.out
  obtain ⟨z0, z1, z2, z3, z4⟩ := id K2.out
  generalize hq : w.heap.size = q at *
  have HQ := Lib.hid hq; clear hq
  have M0 := Lib.hid (K0.out.put (p := ⟨q + 1 + 1, 0, none⟩) (by show q + 1 + 1 ≠ q; omega) (.slice (some ⟨g, 0, none⟩) N N))
  have M1 := Lib.hid (K1.out.put (p := ⟨q + 1 + 1, 0, none⟩) (by show q + 1 + 1 ≠ q + 1; omega) (.slice (some ⟨g, 0, none⟩) N N))
  have M2 := Lib.hid (K2.out.set0 (.slice (some ⟨g, 0, none⟩) N N))
  have MB := Lib.hid (B1.out.setCell (p := ⟨q + 1 + 1, 0, none⟩) (by show q ≤ q + 1 + 1; omega) (.slice (some ⟨g, 0, none⟩) N N))
  have MO := Lib.hid ((OwC.mono (C := q + 3) O1.out (by simp [HQ.out])).put (p := ⟨q + 1 + 1, 0, none⟩) (by show q + 1 + 1 < q + 3; omega) (.slice (some ⟨g, 0, none⟩) N N))
  have hgl : g < (w1.setCell ⟨q + 1 + 1, 0, none⟩ (.slice (some ⟨g, 0, none⟩) N N)).heap.size := OwC.low MO.out g rfl
  clear K0 K1 K2 O1 B1
  go_wp2_with fail
  clear x0 x1 y0 y1 y2 y3 z0 z1 z2 z3
  generalize w1.setCell ⟨q + 1 + 1, 0, none⟩ (.slice (some ⟨g, 0, none⟩) N N) = w2 at *
  refine (toCellSS_any w2 sa sc hs ss L hL (HVS.out.below (by rw [HQ.out]; exact MB.out)) hL1 HLL.out).mono ?_; rintro e w3 ⟨us, rfl, hul, r3, o3, b3⟩
  have B3 := Lib.hid (bel_tr MB.out b3 (by rw [HQ.out]; exact Nat.le_refl _))
  have hs3 : q + 3 ≤ w2.heap.size := M2.out.2.2.2.2
  have O3 := Lib.hid (OwB.mk (B := q + 3) (MO.out.next b3) (r3.mono hs3) (o3.mono (by omega)) (fun x hx k hk e => by
    have h1 := (o3.low x hx k e).1
    have h2 : g = k := by simpa [Value.ownBlock] using hk
    omega))
  have N1 := Lib.hid (M1.out.next b3)
  have N2 := Lib.hid (M2.out.next b3)
  obtain ⟨y0, y1, y2, y3, y5⟩ := id N1.out
  obtain ⟨z0, z1, z2, z3, z5⟩ := id N2.out
  generalize hgs : w2.heap.size = gs at *
  clear MB M0 M1 M2 MO r3 o3 b3 hgs
  go_wp2_with fail
  refine bodyPost_ret (v := .agg #[.slice (some ⟨g, 0, none⟩) N N, .slice (some ⟨gs, 0, none⟩) L L]) (by simp [results, Try.results49, go_sem, y0, y1]) rfl ⟨g, gs, rfl, ?_, ?_⟩
  · rw [HQ.out]
    exact ((((O3.out.put (p := ⟨q + 1 + 1, 1, none⟩) (by show q + 1 + 1 < q + 3; omega) _).put (p := ⟨q + 1, 0, none⟩) (by show q + 1 < q + 3; omega) _).put (p := ⟨q + 1, 1, none⟩) (by show q + 1 < q + 3; omega) _).mono (by omega))
  · rw [HQ.out]
    exact ((B3.out.setCell (p := ⟨q + 1 + 1, 1, none⟩) (by show q ≤ q + 1 + 1; omega) _).setCell (p := ⟨q + 1, 0, none⟩) (by show q ≤ q + 1; omega) _).setCell (p := ⟨q + 1, 1, none⟩) (by show q ≤ q + 1; omega) _
set_option maxRecDepth 100000 in
set_option maxHeartbeats 2000000 in
theorem eqCellSS_same (w : World) (a b : Option Addr) (ca cb n : Nat) (hs hs' : List Hd) (ss : List (List Cel)) (hn : ss.length = n) (hv : VwS w a ca hs ss) (hu : VwS w b cb hs' ss) (hl : n ≤ 1048576) (hll : ∀ l ∈ ss, l.length ≤ 1048576) :
    Calls Try.prog 87 #[.slice a n ca, .slice b n cb] w fun e w' => e = .returned (.bool true) ∧ Below w.heap.size w w' := by
  have HV := Lib.hid hv; clear hv
  have HU := Lib.hid hu; clear hu
  have HLL := Lib.hid hll; clear hll
  have HN := Lib.hid hn; clear hn
  have q0 : ((n : Int) != (n : Int)) = false := by simp
  go_enter Try.func87, Try.ntmps87
  go_wp2
  go_loopw [5] (fun i wr => ∃ k : Nat, k ≤ n ∧ i = .int .i64 k ∧ Below w.heap.size w wr) (fun i _ => n - intV i)
  case atStart => exact ⟨0, Nat.zero_le _, rfl, Below.refl _ _⟩
  case round =>
    obtain ⟨k, hk, rfl, hbel⟩ := hrel
    have HB := Lib.hid hbel; clear hbel
    by_cases hlt : k < n
    · obtain ⟨l, hl⟩ : ∃ l, ss[k]? = some l := ⟨ss[k]'(by rw [HN.out]; exact hlt), List.getElem?_eq_getElem _⟩
      obtain ⟨x, g, o, -, rfl, hg, hc, hvl⟩ := HV.out.at hl
      obtain ⟨y, g2, o2, -, rfl, hh, hd, hul⟩ := HU.out.at hl
      have hg' : g < wr.heap.size := Nat.lt_of_lt_of_le hg HB.out.size
      have hh' : g2 < wr.heap.size := Nat.lt_of_lt_of_le hh HB.out.size
      have hc' := (HB.out.cell (p := ⟨g, o + k, none⟩) hg).trans hc
      have hd' := (HB.out.cell (p := ⟨g2, o2 + k, none⟩) hh).trans hd
      have hl2 : l.length ≤ 1048576 := HLL.out l (List.mem_of_getElem? hl)
      have HC := Lib.hid (fun z (hz : Below wr.heap.size wr z) => eqCellS_same z x.a y.a x.c y.c l (hvl.below (bel_tr HB.out hz (Nat.le_refl _))) (hul.below (bel_tr HB.out hz (Nat.le_refl _))) (by omega))
      generalize l.length = ln at *
      have HS := Lib.hid (show wr.drew.cell? ⟨g, o + k, none⟩ = some (.slice x.a ln x.c) ∧ wr.drew.cell? ⟨g2, o2 + k, none⟩ = some (.slice y.a ln y.c) ∧ Below wr.heap.size wr wr.drew from ⟨hc', hd', (Below.refl _ _).drew⟩)
      clear hvl hul hg hh hc hd hc' hd' hl
      go_wp2_with fail
      refine wp_region_held_drew (S := fun z => z.cell? ⟨g, o + k, none⟩ = some (.slice x.a ln x.c) ∧ z.cell? ⟨g2, o2 + k, none⟩ = some (.slice y.a ln y.c) ∧ Below wr.heap.size wr z) (by kernel_rfl) HS.out (fun hHeld => ?_)
      refine wpAnyH_take (i := 0) (v := ?v0a) rfl (by kernel_rfl) (by kernel_rfl) (by kernel_rfl) (fun _ _ _ h => h) (Or.inl ⟨by rfl, ?hy0a⟩) (by assumption) ?rest0a
      case hy0a => (intro zz hSw; (try dsimp only at hSw); go_simp; (try with_reducible rfl))
      change wpAnyH _ _ _ _ _ _ _ (Act.put _ (some 17) _) _
      simp only [Act.put, List.setIfInBounds_toArray, List.set_cons_zero, List.set_cons_succ]
      refine wpAnyH_take (i := 1) (v := ?v1a) rfl (by kernel_rfl) (by kernel_rfl) (by kernel_rfl) (fun _ _ _ h => h) (Or.inl ⟨by rfl, ?hy1a⟩) (by assumption) ?rest1a
      case hy1a => (intro zz hSw; (try dsimp only at hSw); go_simp; (try with_reducible rfl))
      change wpAnyH _ _ _ _ _ _ _ (Act.put _ (some 18) _) _
      simp only [Act.put, List.setIfInBounds_toArray, List.set_cons_zero, List.set_cons_succ]
      refine wpAnyH_take (i := 2) (v := ?v2a) rfl (by kernel_rfl) (by kernel_rfl) (by kernel_rfl) (fun _ _ _ h => h) (Or.inl ⟨by rfl, ?hy2a⟩) (by assumption) ?rest2a
      case hy2a => (intro zz hSw; (try dsimp only at hSw); go_simp; (try with_reducible rfl))
      change wpAnyH _ _ _ _ _ _ _ (Act.put _ (some 19) _) _
      simp only [Act.put, List.setIfInBounds_toArray, List.set_cons_zero, List.set_cons_succ]
      refine wpAnyH_take (i := 3) (v := ?v3a) rfl (by kernel_rfl) (by kernel_rfl) (by kernel_rfl) (fun _ _ _ h => h) (Or.inl ⟨by rfl, ?hy3a⟩) (by assumption) ?rest3a
      case hy3a => (intro zz hSw; (try dsimp only at hSw); go_simp; (try with_reducible rfl))
      change wpAnyH _ _ _ _ _ _ _ (Act.put _ (some 20) _) _
      simp only [Act.put, List.setIfInBounds_toArray, List.set_cons_zero, List.set_cons_succ]
      refine wpAnyH_take (i := 4) (v := ?v4a) rfl (by kernel_rfl) (by kernel_rfl) (by kernel_rfl) (fun _ _ _ h => h) (Or.inl ⟨by rfl, ?hy4a⟩) (by assumption) ?rest4a
      case hy4a => (intro zz hSw; (try dsimp only at hSw); go_simp; (try with_reducible rfl))
      change wpAnyH _ _ _ _ _ _ _ (Act.put _ (some 21) _) _
      simp only [Act.put, List.setIfInBounds_toArray, List.set_cons_zero, List.set_cons_succ]
      refine wpAnyH_take (i := 5) (v := ?v5a) rfl (by kernel_rfl) (by kernel_rfl) (by kernel_rfl) (fun _ _ _ h => h) (Or.inl ⟨by rfl, ?hy5a⟩) (by assumption) ?rest5a
      case hy5a => (intro zz hSw; (try dsimp only at hSw); go_simp; (try with_reducible rfl))
      change wpAnyH _ _ _ _ _ _ _ (Act.put _ (some 22) _) _
      simp only [Act.put, List.setIfInBounds_toArray, List.set_cons_zero, List.set_cons_succ]
      refine wpAnyH_take (i := 6) (v := ?v6a) rfl (by kernel_rfl) (by kernel_rfl) (by kernel_rfl) (fun _ _ _ h => h) (Or.inl ⟨by rfl, ?hy6a⟩) (by assumption) ?rest6a
      case hy6a => (intro zz hSw; (try dsimp only at hSw); go_simp; (try with_reducible rfl))
      change wpAnyH _ _ _ _ _ _ _ (Act.put _ (some 23) _) _
      simp only [Act.put, List.setIfInBounds_toArray, List.set_cons_zero, List.set_cons_succ]
      refine wpAnyH_take (i := 7) (v := ?v7a) rfl (by kernel_rfl) (by kernel_rfl) (by kernel_rfl) (fun _ _ _ h => h) (Or.inl ⟨by rfl, ?hy7a⟩) (by assumption) ?rest7a
      case hy7a => (intro zz hSw; (try dsimp only at hSw); go_simp; (try with_reducible rfl))
      change wpAnyH _ _ _ _ _ _ _ (Act.put _ (some 24) _) _
      simp only [Act.put, List.setIfInBounds_toArray, List.set_cons_zero, List.set_cons_succ]
      refine wpAnyH_ready (rs := [8]) (by kernel_rfl) (by simp) (AllReadyH.cons rfl (fun K hK => ?_) AllReadyH.nil)
      go_simp
      refine (HC.out _ hHeld.2.2).mono ?_; rintro e w' ⟨rfl, bel⟩
      refine hK.out _ _ (⟨cob bel hHeld.2.2 hg' hHeld.1, cob bel hHeld.2.2 hh' hHeld.2.1, bel_tr hHeld.2.2 bel (Nat.le_refl _)⟩) (fun hHeld => ?_)
      clear hK K bel
      refine wpAnyH_take (i := 9) (v := ?v9a) rfl (by kernel_rfl) (by kernel_rfl) (by kernel_rfl) (fun _ _ _ h => h) (Or.inl ⟨by rfl, ?hy9a⟩) (by assumption) ?rest9a
      case hy9a => (intro zz hSw; (try dsimp only at hSw); go_simp; (try with_reducible rfl))
      change wpAnyH _ _ _ _ _ _ _ (Act.put _ (some 26) _) _
      simp only [Act.put, List.setIfInBounds_toArray, List.set_cons_zero, List.set_cons_succ]
      refine wpAnyH_done (by kernel_rfl) ?_ _
      have HG := Lib.hid (bel_tr HB.out hHeld.2.2 (Nat.le_refl _)); clear hHeld HS
      go_wp2_with fail
      go_roundw
      case rel => exact ⟨k + 1, by omega, by go_num, HG.out⟩
      case measure => simp [intV]; omega
    · obtain rfl : k = n := by omega
      go_wp2_with fail
      go_ret
      exact ⟨rfl, HB.out⟩
end Go.Proofs.Ytkkpokfekbdigaa.Cl
namespace Go.Proofs.Ytkkpokfekbdigaa.Cl
open Go.RowKit Wd Rp Kp Ra
set_option linter.unusedVariables false
theorem Bb.two (u v u' v' : Value) (w : World) (T T' : Nat) : Bb w.heap.size u v ((w.alloc (.cells #[u, v] T)).alloc (.cells #[u', v'] T')) ∧ Bb (w.heap.size + 1) u' v' ((w.alloc (.cells #[u, v] T)).alloc (.cells #[u', v'] T')) := by
  refine ⟨(Bb.made u v w T).next (bel1 _ _), ?_⟩
  have := Bb.made u' v' (w.alloc (.cells #[u, v] T)) T'
  rwa [World.size_alloc] at this
set_option maxRecDepth 100000 in
set_option maxHeartbeats 2000000 in
theorem eqBarn_same (w : World) (a a' sa sa' : Option Addr) (c c' sc sc' n sn : Nat) (h : List Cel) (hs hs' : List Hd) (ss : List (List Cel)) (hn : h.length = n) (hsn : ss.length = sn) (hv : Vw w a c h) (hv' : Vw w a' c' h) (hvs : VwS w sa sc hs ss) (hvs' : VwS w sa' sc' hs' ss) (hlow : Low h ss) :
    Calls Try.prog 51 #[.agg #[.slice a n c, .slice sa sn sc], .agg #[.slice a' n c', .slice sa' sn sc']] w fun e w' => e = .returned (.bool true) ∧ Below w.heap.size w w' := by
  have hn1 : n ≤ 1048576 := by rw [← hn]; exact hlow.1
  have hsn1 : sn ≤ 1048576 := by rw [← hsn]; exact hlow.2.1
  have HLL := Lib.hid hlow.2.2; clear hlow
  have HV := Lib.hid (And.intro hv hv'); clear hv hv'
  have HVS := Lib.hid (And.intro hvs hvs'); clear hvs hvs'
  have H0 := Lib.hid (bel2 w (.cells #[.slice a n c, .slice sa sn sc] 45) (.cells #[.slice a' n c', .slice sa' sn sc'] 45))
  have F0 := Lib.hid (Bb.two (.slice a n c) (.slice sa sn sc) (.slice a' n c') (.slice sa' sn sc') w 45 45)
  have HE := Lib.hid (eqCellS_same _ a a' c c' h (HV.out.1.below H0.out) (HV.out.2.below H0.out) (by omega))
  rw [hn] at HE
  go_enter Try.func51, Try.ntmps51
  go_wp2_with fail
  refine HE.out.mono ?_; rintro e w1 ⟨rfl, b1⟩
  have B1 := Lib.hid (bel_tr H0.out b1 (Nat.le_refl _))
  obtain ⟨x0, x1, -, -, -⟩ := F0.out.1.next b1
  obtain ⟨y0, y1, -, -, -⟩ := F0.out.2.next b1; clear b1
  go_wp2_with fail
  refine (eqCellSS_same w1 sa sa' sc sc' sn hs hs' ss hsn (HVS.out.1.below B1.out) (HVS.out.2.below B1.out) hsn1 HLL.out).mono ?_; rintro e w2 ⟨rfl, b2⟩
  have B2 := Lib.hid (bel_tr B1.out b2 (Nat.le_refl _)); clear b2
  go_wp2_with fail
  go_ret
  exact ⟨rfl, B2.out⟩
theorem eqB_own {B C : Nat} {hv sv hv' sv' : Value} {h : List Cel} {ss : List (List Cel)} (w : World) (o : OwB B w hv sv h ss) (o' : OwB C w hv' sv' h ss) (hlow : Low h ss) :
    Calls Try.prog 51 #[.agg #[hv, sv], .agg #[hv', sv']] w fun e w' => e = .returned (.bool true) ∧ Below w.heap.size w w' := by
  obtain ⟨a, c, sa, sc, hs, rfl, rfl, h1, h2⟩ := o.view
  obtain ⟨a', c', sa', sc', hs', rfl, rfl, h1', h2'⟩ := o'.view
  exact eqBarn_same w a a' sa sa' c c' sc sc' _ _ h hs hs' ss rfl rfl h1 h1' h2 h2' hlow
end Go.Proofs.Ytkkpokfekbdigaa.Cl
namespace Go.Proofs.Ytkkpokfekbdigaa.Cl
open Go.RowKit Wd Rp Kp Ra
set_option linter.unusedVariables false
/-- Nothing but blocks from lo on, below hi, has turned. -/
structure Ins (lo hi : Nat) (w w' : World) : Prop where
  os : w'.os = w.os
  tape : w'.tape = w.tape
  output : w'.output = w.output
  size : w.heap.size ≤ w'.heap.size
  block : ∀ k, k < w.heap.size → (k < lo ∨ hi ≤ k) → w'.heap[k]? = w.heap[k]?
theorem Ins.refl (lo hi : Nat) (w : World) : Ins lo hi w w := ⟨rfl, rfl, rfl, Nat.le_refl _, fun _ _ _ => rfl⟩
theorem Ins.trans {lo hi : Nat} {x y z : World} (h : Ins lo hi x y) (k : Ins lo hi y z) : Ins lo hi x z :=
  ⟨k.os.trans h.os, k.tape.trans h.tape, k.output.trans h.output, Nat.le_trans h.size k.size, fun i hi' hb => (k.block i (Nat.lt_of_lt_of_le hi' h.size) hb).trans (h.block i hi' hb)⟩
theorem Ins.of_below {lo hi : Nat} {x y : World} (h : Below x.heap.size x y) : Ins lo hi x y := ⟨h.os, h.tape, h.output, h.size, fun i hi' _ => h.block i hi'⟩
theorem Ins.of_grown {lo hi : Nat} {x y : World} {row : Option Nat} (h : x.grownBy y row) (hr : ∀ k, row = some k → lo ≤ k ∧ k < hi) : Ins lo hi x y :=
  ⟨h.os, h.tape, h.output, h.size, fun i hi' hb => h.block i hi' (fun e => by have := hr i e.symm; omega)⟩
theorem Ins.bel {lo hi B : Nat} {a x y : World} (h : Ins lo hi x y) (hb : Below B a x) (hB : B ≤ lo) (hB2 : B ≤ x.heap.size) : Below B a y :=
  hb.trans ⟨h.os, h.tape, h.output, h.size, fun i hi' => h.block i (by omega) (Or.inl (by omega))⟩
/-- A store of a call's own, its blocks below T. -/
def OwT (B T : Nat) (w : World) (hv sv : Value) (h : List Cel) (ss : List (List Cel)) : Prop := ∃ us, RowS B w sv us ∧ OwL B w (hv :: us) (h :: ss) ∧ ∀ x ∈ sv :: hv :: us, ∀ k, x.ownBlock = some k → k < T
theorem OwB.top {B : Nat} {w : World} {hv sv : Value} {h : List Cel} {ss : List (List Cel)} (o : OwB B w hv sv h ss) : OwT B w.heap.size w hv sv h ss := by
  obtain ⟨us, h1, h2⟩ := o
  refine ⟨us, h1, h2, fun x hx k hk => ?_⟩
  rcases List.mem_cons.1 hx with rfl | hx
  · exact (World.ownsRow.lt h1 k hk).2
  · exact (h2.low x hx k hk).2
theorem OwT.own {B T : Nat} {w : World} {hv sv : Value} {h : List Cel} {ss : List (List Cel)} (o : OwT B T w hv sv h ss) : OwB B w hv sv h ss := by
  obtain ⟨us, h1, h2, -⟩ := o
  exact ⟨us, h1, h2⟩
theorem OwT.next {B T : Nat} {w w' : World} {hv sv : Value} {h : List Cel} {ss : List (List Cel)} (o : OwT B T w hv sv h ss) (hb : Below w.heap.size w w') : OwT B T w' hv sv h ss := by
  obtain ⟨us, h1, h2, h3⟩ := o
  exact ⟨us, h1.next hb, h2.next hb, h3⟩
theorem OwT.ins {B T lo hi : Nat} {w w' : World} {hv sv : Value} {h : List Cel} {ss : List (List Cel)} (o : OwT B T w hv sv h ss) (hi' : Ins lo hi w w') (hd : T ≤ lo ∨ hi ≤ B) : OwT B T w' hv sv h ss := by
  obtain ⟨us, h1, h2, h3⟩ := o
  refine ⟨us, row_next h1 fun g hg hlt => hi'.block g hlt ?_, ⟨h2.1, fun j u l k1 k2 => row_next (h2.2.1 j u l k1 k2) fun g hg hlt => hi'.block g hlt ?_, h2.2.2⟩, h3⟩
  · have a1 := h3 sv (by simp) g hg
    have a2 := RowS.lt h1 g hg
    omega
  · have a1 := h3 u (List.mem_cons_of_mem _ (List.mem_of_getElem? k1)) g hg
    have a2 := (h2.low u (List.mem_of_getElem? k1) g hg).1
    omega
theorem OwC.ins {B T lo hi : Nat} {w w' : World} {v : Value} {l : List Cel} (o : OwC B w v l) (hT : ∀ k, v.ownBlock = some k → k < T) (hi' : Ins lo hi w w') (hd : T ≤ lo ∨ hi ≤ B) : OwC B w' v l :=
  row_next o fun g hg hlt => hi'.block g hlt (by have := hT g hg; have := OwC.lt o g hg; omega)
def tott (ss : List (List Cel)) : Nat := (ss.map List.length).sum
theorem tott_cons (l : List Cel) (ss : List (List Cel)) : tott (l :: ss) = l.length + tott ss := by simp [tott]
theorem tott_app (a b : List (List Cel)) : tott (a ++ b) = tott a + tott b := by simp [tott]
theorem tott_take (ss : List (List Cel)) (k : Nat) : tott (ss.take k) ≤ tott ss := by
  conv => rhs; rw [← List.take_append_drop k ss]
  rw [tott_app]; omega
/-- The lists bear the marks from s on. -/
def MkdS (s : Nat) (ss : List (List Cel)) : Prop := ∀ (j : Nat) (l : List Cel), ss[j]? = some l → MkdC (s + 5 * tott (ss.take j)) l
theorem OwL.mark {B : Nat} {w w' : World} {us : List Value} {ms : List (List Cel)} {k : Nat} {u : Value} {m : List Cel} (h : OwL B w us ms) (hk : us[k]? = some u) (hg : w.grownBy w' u.ownBlock) (hm : OwC B w' u m) : OwL B w' us (ms.set k m) := by
  refine ⟨by rw [List.length_set]; exact h.1, fun j x y h1 h2 => ?_, h.2.2⟩
  by_cases e : k = j
  · subst e
    rw [h1] at hk
    obtain rfl := Option.some.inj hk
    rw [List.getElem?_set_self (by rw [← h.1]; exact (List.getElem?_eq_some_iff.1 h1).1)] at h2
    obtain rfl := Option.some.inj h2
    exact hm
  · rw [List.getElem?_set_ne e] at h2
    refine (h.2.1 j x y h1 h2).grown hg (fun q hq e2 => ?_)
    obtain ⟨l1, g1⟩ := List.getElem?_eq_some_iff.1 h1
    obtain ⟨l2, g2⟩ := List.getElem?_eq_some_iff.1 hk
    have hp := List.pairwise_iff_getElem.1 h.2.2
    rcases Nat.lt_or_ge j k with hlt | hge
    · exact hp j k l1 l2 hlt q (by rw [g1]; exact hq) (by rw [g2]; exact e2)
    · exact hp k j l2 l1 (by omega) q (by rw [g2]; exact e2) (by rw [g1]; exact hq)
theorem set_lens {ms ss : List (List Cel)} {k : Nat} {m l : List Cel} (h : ms.map List.length = ss.map List.length) (hl : ss[k]? = some l) (hm : m.length = l.length) : (ms.set k m).map List.length = ss.map List.length := by
  rw [List.map_set, h, hm]
  apply List.ext_getElem?
  intro j
  by_cases e : k = j
  · subst e
    rw [List.getElem?_set_self (by rw [List.length_map]; exact (List.getElem?_eq_some_iff.1 hl).1), List.getElem?_map, hl]; rfl
  · rw [List.getElem?_set_ne e]
theorem lens_tott {ms ss : List (List Cel)} (h : ms.map List.length = ss.map List.length) (k : Nat) : tott (ms.take k) = tott (ss.take k) := by
  unfold tott; rw [List.map_take, List.map_take, h]
theorem lens_len {ms ss : List (List Cel)} (h : ms.map List.length = ss.map List.length) : ms.length = ss.length := by
  have := congrArg List.length h; simpa using this
/-- While the lists are marked: the first k bear their marks. -/
def Marking (B lo hi s : Nat) (w : World) (us : List Value) (ss : List (List Cel)) (k : Nat) (wr : World) : Prop := ∃ ms, ms.map List.length = ss.map List.length ∧ (∀ (j : Nat) (l : List Cel), j < k → ms[j]? = some l → MkdC (s + 5 * tott (ss.take j)) l) ∧ OwL B wr us ms ∧ Ins lo hi w wr ∧ ∀ q, q < w.heap.size → (∀ x ∈ us, x.ownBlock ≠ some q) → wr.heap[q]? = w.heap[q]?
set_option maxRecDepth 100000 in
set_option maxHeartbeats 2000000 in
theorem markSS_any {B lo hi : Nat} {v : Value} {us : List Value} {ss : List (List Cel)} (w : World) (hr : RowS B w v us) (hl : OwL B w us ss) (hin : ∀ x ∈ us, ∀ k, x.ownBlock = some k → lo ≤ k ∧ k < hi) (ht : tott ss ≤ 1048576) (hn : us.length ≤ 1048576) (s : Nat) (hs1 : 1 ≤ s) (hs2 : s + 5 * tott ss ≤ 9000000) :
    Calls Try.prog 91 #[v, .int .i64 (s : Int)] w fun e w' => e = .returned (.int .i64 ((s + 5 * tott ss : Nat) : Int)) ∧ Ins lo hi w w' ∧ RowS B w' v us ∧ ∃ ms, ms.map List.length = ss.map List.length ∧ MkdS s ms ∧ OwL B w' us ms ∧ ∀ q, q < w.heap.size → (∀ x ∈ us, x.ownBlock ≠ some q) → w'.heap[q]? = w.heap[q]? := by
  have HR := Lib.hid hr
  obtain ⟨a, cap, rfl, -, -, -, -⟩ := hr.form
  have HL := Lib.hid hl; clear hl hr
  have HIN := Lib.hid hin; clear hin
  generalize hN : us.length = N at *
  have HN := Lib.hid hN; clear hN
  go_enter Try.func91, Try.ntmps91
  go_wp2_with fail
  go_loopw [1, 5] (fun q i wr => ∃ k : Nat, k ≤ N ∧ i = .int .i64 k ∧ q = .int .i64 ((s + 5 * tott (ss.take k) : Nat) : Int) ∧ RowS B wr (.slice a N cap) us ∧ Marking B lo hi s w us ss k wr) (fun _ i _ => N - intV i)
  case atStart => exact ⟨0, Nat.zero_le _, rfl, by simp [tott], HR.out, ss, rfl, (fun j l hj => by omega), HL.out, Ins.refl _ _ _, fun _ _ _ => rfl⟩
  case round =>
    obtain ⟨k, hk, rfl, rfl, hrow, ms, hlen, hmk, hol, hins, hoth⟩ := hrel
    have HRW := Lib.hid hrow
    have HMK := Lib.hid hmk; clear hmk
    have HOL := Lib.hid hol; clear hol
    have HI := Lib.hid hins; clear hins
    have HLE := Lib.hid hlen; clear hlen
    have HOT := Lib.hid hoth; clear hoth
    have hml : ms.length = N := by rw [← HN.out]; exact HOL.out.1.symm
    by_cases hlt : k < N
    · obtain ⟨u, hu⟩ : ∃ u, us[k]? = some u := ⟨us[k]'(by rw [HN.out]; exact hlt), List.getElem?_eq_getElem _⟩
      obtain ⟨l, hl⟩ : ∃ l, ms[k]? = some l := ⟨ms[k]'(by omega), List.getElem?_eq_getElem _⟩
      obtain ⟨l0, hl0⟩ : ∃ l, ss[k]? = some l := ⟨ss[k]'(by rw [← lens_len HLE.out]; omega), List.getElem?_eq_getElem _⟩
      have hll : l.length = l0.length := by
        have := congrArg (fun x => x[k]?) HLE.out
        simpa [List.getElem?_map, hl, hl0] using this
      have ho := HOL.out.2.1 k u l hu hl
      obtain ⟨a', cap', e', -, -, -, hat⟩ := hrow.form
      rw [HN.out] at e'
      cases e'
      obtain ⟨g, rfl, -, -, hcx, -⟩ := hat k u hu
      clear hat hrow
      have htk := tott_take ss (k + 1)
      rw [take_at hl0, tott_app] at htk
      have hone : tott [l0] = l0.length := by simp [tott]
      rw [hone] at htk
      have HT := Lib.hid (show tott (ss.take (k + 1)) = tott (ss.take k) + l0.length by rw [take_at hl0, tott_app, hone])
      clear hone
      obtain ⟨ua, uc, rfl, -, -⟩ := ho.view
      have HMC := Lib.hid (mark_from (n := l0.length) (s := s + 5 * tott (ss.take k)) wr ho hll (by omega) (by omega) (by omega))
      have HU := Lib.hid hu; clear hu
      have HL0 := Lib.hid hl0; clear hl0 hl ho
      have HS := Lib.hid (show s + 5 * tott (ss.take k) + 5 * l0.length = s + 5 * tott (ss.take (k + 1)) by rw [HT.out]; omega)
      have hS1 : s + 5 * tott (ss.take k) ≤ 9000000 := by omega
      generalize hS : s + 5 * tott (ss.take k) = S at *
      have HSS := Lib.hid hS; clear hS htk
      generalize hR : ((S + 5 * l0.length : Nat) : Int) = R at HMC
      have HR2 := Lib.hid hR; clear hR
      have HLL := Lib.hid hll; clear hll
      generalize l.length = n1 at *
      go_wp2_with fail
      refine HMC.out.mono ?_; rintro e w1 ⟨rfl, g1, m, hm, hMk, om⟩
      have R1 := Lib.hid (HRW.out.grown g1 (fun q hq e2 => RowS.apart HRW.out HOL.out _ (List.mem_of_getElem? HU.out) q e2 hq))
      have FIN := Lib.hid (show Marking B lo hi s w us ss (k + 1) w1 from ⟨ms.set k m, set_lens HLE.out HL0.out hm, fun j t hj ht => by
          by_cases e : k = j
          · subst e
            rw [List.getElem?_set_self (by omega)] at ht
            obtain rfl := Option.some.inj ht
            rw [HSS.out]; exact hMk
          · rw [List.getElem?_set_ne e] at ht
            exact HMK.out j t (by omega) ht, OwL.mark HOL.out HU.out g1 om, HI.out.trans (Ins.of_grown g1 (HIN.out _ (List.mem_of_getElem? HU.out))), fun q hq hx => (g1.block q (Nat.lt_of_lt_of_le hq HI.out.size) (fun e => hx _ (List.mem_of_getElem? HU.out) e.symm)).trans (HOT.out q hq hx)⟩)
      clear g1 hm hMk om
      go_wp2_with fail
      go_roundw
      case rel => exact ⟨k + 1, by omega, by go_num, by rw [← HR2.out, HS.out], R1.out, FIN.out⟩
      case measure => simp [intV]; omega
    · obtain rfl : k = N := by omega
      have HTT := Lib.hid (show tott (ss.take k) = tott ss by rw [List.take_of_length_le (by rw [← lens_len HLE.out]; omega)])
      rw [HTT.out]
      generalize hR : ((s + 5 * tott ss : Nat) : Int) = R
      have HRR := Lib.hid hR; clear hR
      go_wp2_with fail
      go_ret
      exact ⟨by rw [HRR.out]; rfl, HI.out, HRW.out, ms, HLE.out, fun j l hj => by rw [lens_tott HLE.out]; exact HMK.out j l (by have := (List.getElem?_eq_some_iff.1 hj).1; omega) hj, HOL.out, HOT.out⟩
set_option maxRecDepth 100000 in
set_option maxHeartbeats 2000000 in
theorem heldSS_any {B : Nat} {v : Value} {us : List Value} {ss : List (List Cel)} (w : World) (hr : RowS B w v us) (hl : OwL B w us ss) {s : Nat} (hm : MkdS s ss) (ht : tott ss ≤ 1048576) (hn : us.length ≤ 1048576) (hs1 : 1 ≤ s) (hs2 : s + 5 * tott ss ≤ 9000000) :
    Calls Try.prog 92 #[v, .int .i64 (s : Int)] w fun e w' => e = .returned (.int .i64 ((s + 5 * tott ss : Nat) : Int)) ∧ Below w.heap.size w w' := by
  have HR := Lib.hid hr
  obtain ⟨a, cap, rfl, -, -, -, -⟩ := hr.form
  have HL := Lib.hid hl; clear hl hr
  have HM := Lib.hid hm; clear hm
  generalize hN : us.length = N at *
  have HN := Lib.hid hN; clear hN
  go_enter Try.func92, Try.ntmps92
  go_wp2_with fail
  go_loopw [1, 5] (fun q i wr => ∃ k : Nat, k ≤ N ∧ i = .int .i64 k ∧ q = .int .i64 ((s + 5 * tott (ss.take k) : Nat) : Int) ∧ Below w.heap.size w wr) (fun _ i _ => N - intV i)
  case atStart => exact ⟨0, Nat.zero_le _, rfl, by simp [tott], Below.refl _ _⟩
  case round =>
    obtain ⟨k, hk, rfl, rfl, hbel⟩ := hrel
    have HB := Lib.hid hbel; clear hbel
    have hsl : ss.length = N := by rw [← HN.out]; exact HL.out.1.symm
    by_cases hlt : k < N
    · obtain ⟨u, hu⟩ : ∃ u, us[k]? = some u := ⟨us[k]'(by rw [HN.out]; exact hlt), List.getElem?_eq_getElem _⟩
      obtain ⟨l, hl⟩ : ∃ l, ss[k]? = some l := ⟨ss[k]'(by omega), List.getElem?_eq_getElem _⟩
      have hrow := HR.out.next HB.out
      have ho := (HL.out.2.1 k u l hu hl).next HB.out
      obtain ⟨a', cap', e', -, -, -, hat⟩ := hrow.form
      rw [HN.out] at e'
      cases e'
      obtain ⟨g, rfl, -, -, hcx, -⟩ := hat k u hu
      clear hat hrow
      have htk := tott_take ss (k + 1)
      rw [take_at hl, tott_app] at htk
      have hone : tott [l] = l.length := by simp [tott]
      rw [hone] at htk
      have HT := Lib.hid (show tott (ss.take (k + 1)) = tott (ss.take k) + l.length by rw [take_at hl, tott_app, hone])
      clear hone
      obtain ⟨ua, uc, rfl, -, -⟩ := ho.view
      have HMC := Lib.hid (held_from (n := l.length) (s := s + 5 * tott (ss.take k)) wr ho rfl (HM.out k l hl) (by omega) (by omega) (by omega))
      clear hu hl ho
      have HS := Lib.hid (show s + 5 * tott (ss.take k) + 5 * l.length = s + 5 * tott (ss.take (k + 1)) by rw [HT.out]; omega)
      generalize hS : s + 5 * tott (ss.take k) = S at *
      clear hS htk
      have r0 : ¬ ((S + 5 * l.length : Nat) : Int) < 0 := by omega
      generalize hR : ((S + 5 * l.length : Nat) : Int) = R at HMC r0
      have HR2 := Lib.hid hR; clear hR
      generalize l.length = n1 at *
      go_wp2_with fail
      refine HMC.out.mono ?_; rintro e w1 ⟨rfl, b1⟩
      have B1 := Lib.hid (bel_tr HB.out b1 (Nat.le_refl _)); clear b1
      go_wp2_with fail
      go_roundw
      case rel => exact ⟨k + 1, by omega, by go_num, by rw [← HR2.out, HS.out], B1.out⟩
      case measure => simp [intV]; omega
    · obtain rfl : k = N := by omega
      have HTT := Lib.hid (show tott (ss.take k) = tott ss by rw [List.take_of_length_le (by omega)])
      rw [HTT.out]
      generalize hR : ((s + 5 * tott ss : Nat) : Int) = R
      have HRR := Lib.hid hR; clear hR
      go_wp2_with fail
      go_ret
      exact ⟨by rw [HRR.out]; rfl, HB.out⟩
/-- A store that bears the marks from 1 on. -/
def MkdB (h : List Cel) (ss : List (List Cel)) : Prop := MkdC 1 h ∧ MkdS (1 + 5 * h.length) ss
set_option maxRecDepth 100000 in
set_option maxHeartbeats 2000000 in
theorem markBarn_any {B T : Nat} {hv sv : Value} {h : List Cel} {ss : List (List Cel)} {N : Nat} (w : World) (o : OwT B T w hv sv h ss) (hT : T ≤ w.heap.size) (hN : h.length + tott ss = N) (ht : N ≤ 1048576) (hn : ss.length ≤ 1048576) :
    Calls Try.prog 54 #[.agg #[hv, sv], .int .i64 1] w fun e w' => e = .returned (.int .i64 ((1 + 5 * N : Nat) : Int)) ∧ Ins B T w w' ∧ ∃ mh ms, mh.length = h.length ∧ ms.map List.length = ss.map List.length ∧ MkdB mh ms ∧ OwT B T w' hv sv mh ms := by
  obtain ⟨us, hr, hl, htop⟩ := o
  have HR := Lib.hid hr; clear hr
  have HL := Lib.hid hl
  have HTOP := Lib.hid htop; clear htop
  have hul : us.length = ss.length := by have := hl.1; simpa using this
  have hsl1 : us.length ≤ 1048576 := by omega
  have HUL := Lib.hid hul; clear hul
  have ho := hl.2.1 0 hv h rfl rfl
  obtain ⟨a, c, rfl, -, -⟩ := ho.view
  obtain ⟨sa, sc, rfl, -, -, -, -⟩ := HR.out.form
  have H0 := Lib.hid (bel1 w (.cells #[.slice a h.length c, .slice sa us.length sc] 45))
  have F0 := Lib.hid (Bb.made (.slice a h.length c) (.slice sa us.length sc) w 45)
  have HM := Lib.hid (mark_own (n := h.length) _ (ho.next H0.out) rfl (by omega))
  have HLT := Lib.hid (OwL.next hl H0.out); clear hl ho
  have HR0 := Lib.hid (HR.out.next H0.out)
  have hsz : w.heap.size < (w.alloc (.cells #[.slice a h.length c, .slice sa us.length sc] 45)).heap.size := by simp
  generalize hR : ((1 + 5 * h.length : Nat) : Int) = R at HM
  have HRR := Lib.hid hR; clear hR
  have HQ := Lib.hid (show ∀ q, (Value.slice a h.length c).ownBlock = some q → B ≤ q ∧ q < T from fun q hq => ⟨(HL.out.low _ (by simp) q hq).1, HTOP.out _ (by simp) q hq⟩)
  generalize hhl : h.length = hl at *
  generalize hsl : us.length = sl at *
  have HHL := Lib.hid hhl; clear hhl
  have HSL := Lib.hid hsl; clear hsl
  go_enter Try.func54, Try.ntmps54
  go_wp2_with fail
  refine HM.out.mono ?_; rintro e w1 ⟨rfl, g1, m, hm, hMk, om⟩
  have F1 := Lib.hid (show Bb w.heap.size (.slice a hl c) (.slice sa sl sc) w1 from by
    obtain ⟨f0, f1, f2, f3, f4⟩ := F0.out
    have e := g1.block w.heap.size (by simp) (fun e => by have := (HQ.out _ e.symm).2; omega)
    exact ⟨(World.cell?_of_block e).trans f0, (World.cell?_of_block e).trans f1, (World.frozen?_of_block e).trans f2, (World.frozen?_of_block e).trans f3, Nat.lt_of_lt_of_le hsz g1.size⟩)
  have L1 := Lib.hid (show OwL B w1 (.slice a hl c :: us) (m :: ss) from OwL.mark (k := 0) HLT.out rfl g1 om)
  have R1 := Lib.hid (RowS.grown HR0.out g1 (fun q hq e2 => RowS.apart HR0.out HLT.out _ (List.mem_cons_self ..) q e2 hq))
  have I1 := Lib.hid ((Ins.of_below (lo := B) (hi := T) H0.out).trans (Ins.of_grown g1 HQ.out))
  have HMK := Lib.hid (And.intro hm hMk); clear hm hMk g1 om H0 F0 HM
  obtain ⟨x0, x1, -, -, -⟩ := F1.out
  have L2 := Lib.hid (show OwL B w1 us ss from ⟨by have := L1.out.1; simpa using this, fun j u l k1 k2 => L1.out.2.1 (j + 1) u l (by simpa using k1) (by simpa using k2), (List.pairwise_cons.1 L1.out.2.2).2⟩)
  have HMS := Lib.hid (markSS_any (lo := B) (hi := T) w1 R1.out L2.out (fun x hx q hq => ⟨(L2.out.low x hx q hq).1, HTOP.out x (by simp [hx]) q hq⟩) (by omega) (by rw [HSL.out]; exact hsl1) (1 + 5 * hl) (by omega) (by omega))
  rw [HRR.out] at HMS
  have HE := Lib.hid (show 1 + 5 * hl + 5 * tott ss = 1 + 5 * N by omega)
  rw [HE.out] at HMS
  generalize hR2 : ((1 + 5 * N : Nat) : Int) = R2 at HMS
  have HRR2 := Lib.hid hR2; clear hR2
  go_wp2_with fail
  refine HMS.out.mono ?_; rintro e w2 ⟨rfl, i2, r2, ms, hms, hMks, ol2, oth⟩
  have K2 := Lib.hid (And.intro i2 (And.intro r2 (And.intro hms (And.intro hMks (And.intro ol2 oth))))); clear i2 r2 hms hMks ol2 oth
  go_wp2_with fail
  go_ret
  refine ⟨by rw [HRR2.out]; rfl, I1.out.trans K2.out.1, m, ms, HMK.out.1, K2.out.2.2.1, ⟨HMK.out.2, by rw [HMK.out.1]; exact K2.out.2.2.2.1⟩, us, K2.out.2.1, ?_, HTOP.out⟩
  have hd := L1.out.2.2
  have oh : OwC B w1 (.slice a hl c) m := L1.out.2.1 0 _ _ rfl rfl
  obtain ⟨o2, oth⟩ := K2.out.2.2.2.2
  refine ⟨by simp [o2.1], fun j u l k1 k2 => ?_, L1.out.2.2⟩
  cases j with
  | zero =>
    obtain rfl : Value.slice a hl c = u := by simpa using k1
    obtain rfl : m = l := by simpa using k2
    exact row_next oh fun g hg hlt => oth g hlt (fun x hx e => (List.pairwise_cons.1 hd).1 x hx g hg e)
  | succ j => exact o2.2.1 j u l (by simpa using k1) (by simpa using k2)
set_option maxRecDepth 100000 in
set_option maxHeartbeats 2000000 in
theorem heldBarn_any {B T : Nat} {hv sv : Value} {h : List Cel} {ss : List (List Cel)} {N : Nat} (w : World) (o : OwT B T w hv sv h ss) (hm : MkdB h ss) (hN : h.length + tott ss = N) (ht : N ≤ 1048576) (hn : ss.length ≤ 1048576) :
    Calls Try.prog 55 #[.agg #[hv, sv], .int .i64 1] w fun e w' => e = .returned (.int .i64 ((1 + 5 * N : Nat) : Int)) ∧ Below w.heap.size w w' := by
  obtain ⟨us, hr, hl, htop⟩ := o
  have HR := Lib.hid hr; clear hr htop
  have hul : us.length = ss.length := by have := hl.1; simpa using this
  have hsl1 : us.length ≤ 1048576 := by omega
  have HUL := Lib.hid hul; clear hul
  have ho := hl.2.1 0 hv h rfl rfl
  obtain ⟨a, c, rfl, -, -⟩ := ho.view
  obtain ⟨sa, sc, rfl, -, -, -, -⟩ := HR.out.form
  have H0 := Lib.hid (bel1 w (.cells #[.slice a h.length c, .slice sa us.length sc] 45))
  have F0 := Lib.hid (Bb.made (.slice a h.length c) (.slice sa us.length sc) w 45)
  have HM := Lib.hid (held_own (n := h.length) _ (ho.next H0.out) rfl hm.1 (by omega))
  have L0 := Lib.hid (show OwL B w us ss from ⟨HUL.out, fun j u l k1 k2 => hl.2.1 (j + 1) u l (by simpa using k1) (by simpa using k2), (List.pairwise_cons.1 hl.2.2).2⟩); clear hl ho
  have r0 : ¬ ((1 + 5 * h.length : Nat) : Int) < 0 := by omega
  have r1 : ¬ ((1 + 5 * N : Nat) : Int) < 0 := by omega
  have HMS := Lib.hid (fun w1 (hb : Below w.heap.size w w1) => heldSS_any (s := 1 + 5 * h.length) w1 (HR.out.next hb) (L0.out.next hb) hm.2 (by omega) (by omega) (by omega) (by omega))
  have HE := Lib.hid (show 1 + 5 * h.length + 5 * tott ss = 1 + 5 * N by omega)
  rw [HE.out] at HMS
  generalize hR : ((1 + 5 * h.length : Nat) : Int) = R at HM HMS r0
  generalize hR2 : ((1 + 5 * N : Nat) : Int) = R2 at HMS r1
  have HRR := Lib.hid hR2; clear hR2 hR
  generalize h.length = hl at *
  generalize us.length = sl at *
  go_enter Try.func55, Try.ntmps55
  go_wp2_with fail
  refine HM.out.mono ?_; rintro e w1 ⟨rfl, b1⟩
  have B1 := Lib.hid (bel_tr H0.out b1 (Nat.le_refl _))
  obtain ⟨x0, x1, -, -, -⟩ := F0.out.next b1; clear b1
  go_wp2_with fail
  refine (HMS.out _ B1.out).mono ?_; rintro e w2 ⟨rfl, b2⟩
  have B2 := Lib.hid (bel_tr B1.out b2 (Nat.le_refl _)); clear b2
  go_wp2_with fail
  go_ret
  exact ⟨rfl, B2.out⟩
end Go.Proofs.Ytkkpokfekbdigaa.Cl
namespace Go.Proofs.Ytkkpokfekbdigaa.Cl
open Go.RowKit Wd Rp Kp Ra
set_option linter.unusedVariables false
def SzPostT (l : List Cel) (n : Int) (w : World) (e : Ending) (w' : World) : Prop := ∃ z : Int, e = .returned (.int .i64 z) ∧ Below w.heap.size w w' ∧ (z < 0 ∨ 0 ≤ z ∧ z ≤ n - l.length ∧ (l.length : Int) ≤ n ∧ ∀ c ∈ l, (c.r.size : Int) ≤ n ∧ (c.b.size : Int) ≤ n)
set_option maxRecDepth 100000 in
set_option maxHeartbeats 4000000 in
theorem szCellS_tot (w : World) (a : Option Addr) (cap : Nat) (l : List Cel) (n : Int) (hv : Vw w a cap l) (hm : ∀ c ∈ l, c.r.size ≤ 9223372036854775807 ∧ c.b.size ≤ 9223372036854775807) (h0 : 0 ≤ n) (hn : n ≤ 1048576) :
    Calls Try.prog 41 #[.slice a l.length cap, .int .i64 n] w (SzPostT l n w) := by
  have hlm : l.length ≤ 9223372036854775807 := by have := hv.1; have h2 := hv.2.1; unfold maxLen at h2; omega
  have HV := Lib.hid hv; clear hv
  have HM := Lib.hid hm; clear hm
  generalize hL : l.length = L at *
  by_cases hlt : n - (L : Int) < 0
  · go_enter Try.func41, Try.ntmps41
    go_wp2
    go_ret
    exact ⟨-1, rfl, Below.refl _ _, Or.inl (by decide)⟩
  · go_enter Try.func41, Try.ntmps41
    go_wp2
    go_loopw [1, 5] (fun q i wr => ∃ (k : Nat) (z : Int), k ≤ L ∧ i = .int .i64 k ∧ q = .int .i64 z ∧ 0 ≤ z ∧ z ≤ n - L ∧ (∀ j c, j < k → l[j]? = some c → (c.r.size : Int) ≤ n ∧ (c.b.size : Int) ≤ n) ∧ Below w.heap.size w wr) (fun _ i _ => L - intV i)
    case atStart => exact ⟨0, n - L, Nat.zero_le _, rfl, rfl, by omega, by omega, fun j c hj => by omega, Below.refl _ _⟩
    case round =>
      obtain ⟨k, z, hk, rfl, rfl, z0, z1, hok, hbel⟩ := hrel
      have HB := Lib.hid hbel; clear hbel
      have HO := Lib.hid hok; clear hok
      by_cases hlk : k < L
      · obtain ⟨c, hc⟩ : ∃ c, l[k]? = some c := ⟨l[k], List.getElem?_eq_getElem (by omega)⟩
        obtain ⟨g, o, rfl, hg, h5⟩ := HV.out.2.2.2 k c hc
        obtain ⟨c0, c1, c2, c3, c4⟩ : At5 wr g (o + k * 5) c := h5.same (HB.out.block g hg)
        have hmc := HM.out c (List.mem_of_getElem? hc)
        have HZ := Lib.hid (fun w => szCell_any c.r c.b c.t c.v z c.g w hmc.1 hmc.2 z0 (by omega))
        have hle : 0 ≤ szL c.r c.b z → _ := szL_le
        have HC := Lib.hid hc; clear hc
        have HL := Lib.hid hle; clear hle hmc
        generalize szL c.r c.b z = y at *
        clear h5 hg
        by_cases hy : y < 0
        · go_wp2_with fail
          refine (HZ.out _).mono ?_; rintro e w1 ⟨rfl, b1⟩
          have B1 := Lib.hid (bel_tr HB.out b1 (Nat.le_refl _)); clear b1
          go_wp2_with fail
          go_ret
          exact ⟨-1, rfl, B1.out, Or.inl (by decide)⟩
        · go_wp2_with fail
          refine (HZ.out _).mono ?_; rintro e w1 ⟨rfl, b1⟩
          have B1 := Lib.hid (bel_tr HB.out b1 (Nat.le_refl _)); clear b1
          go_wp2_with fail
          go_roundw
          case rel =>
            obtain ⟨l1, l2, l3⟩ := HL.out (by omega)
            refine ⟨k + 1, y, by omega, by go_num, rfl, by omega, by omega, fun j d hj hd => ?_, B1.out⟩
            by_cases he : j = k
            · subst he
              obtain rfl : c = d := Option.some.inj (HC.out.symm.trans hd)
              exact ⟨by omega, by omega⟩
            · exact HO.out j d (by omega) hd
          case measure => simp [intV]; omega
      · obtain rfl : k = L := by omega
        go_wp2_with fail
        go_ret
        refine ⟨z, rfl, HB.out, Or.inr ⟨z0, by rw [hL]; exact z1, by omega, fun c hc => ?_⟩⟩
        obtain ⟨j, hj⟩ := List.mem_iff_getElem?.1 hc
        exact HO.out j c (by have := (List.getElem?_eq_some_iff.1 hj).1; omega) hj
def SzST (ss : List (List Cel)) (n : Int) (w : World) (e : Ending) (w' : World) : Prop := ∃ z : Int, e = .returned (.int .i64 z) ∧ Below w.heap.size w w' ∧ (z < 0 ∨ 0 ≤ z ∧ z ≤ n - ss.length - tott ss ∧ (ss.length : Int) ≤ n ∧ ∀ l ∈ ss, Small n l)
def SzBT (h : List Cel) (ss : List (List Cel)) (n : Int) (w : World) (e : Ending) (w' : World) : Prop := ∃ z : Int, e = .returned (.int .i64 z) ∧ Below w.heap.size w w' ∧ (z < 0 ∨ 0 ≤ z ∧ z ≤ n - h.length - tott ss ∧ Small n h ∧ (ss.length : Int) ≤ n ∧ ∀ l ∈ ss, Small n l)
set_option maxRecDepth 100000 in
set_option maxHeartbeats 2000000 in
theorem szCellSS_tot (w : World) (a : Option Addr) (cap : Nat) (hs : List Hd) (ss : List (List Cel)) (L : Nat) (hL : ss.length = L) (n : Int) (hv : VwS w a cap hs ss) (hm : ∀ l ∈ ss, Big l) (h0 : 0 ≤ n) (hn : n ≤ 1048576) :
    Calls Try.prog 84 #[.slice a L cap, .int .i64 n] w (SzST ss n w) := by
  have hlm : L ≤ 9223372036854775807 := by have := hv.2.1; have h2 := hv.2.2.1; unfold maxLen at h2; omega
  have HV := Lib.hid hv; clear hv
  have HM := Lib.hid hm; clear hm
  have HL := Lib.hid hL; clear hL
  by_cases hlt : n - (L : Int) < 0
  · go_enter Try.func84, Try.ntmps84
    go_wp2
    go_ret
    exact ⟨-1, rfl, Below.refl _ _, Or.inl (by decide)⟩
  · go_enter Try.func84, Try.ntmps84
    go_wp2
    go_loopw [1, 5] (fun q i wr => ∃ (k : Nat) (z : Int), k ≤ L ∧ i = .int .i64 k ∧ q = .int .i64 z ∧ 0 ≤ z ∧ z ≤ n - L - tott (ss.take k) ∧ (∀ (j : Nat) (l : List Cel), j < k → ss[j]? = some l → Small n l) ∧ Below w.heap.size w wr) (fun _ i _ => L - intV i)
    case atStart => exact ⟨0, n - L, Nat.zero_le _, rfl, rfl, by omega, by simp [tott], fun j c hj => by omega, Below.refl _ _⟩
    case round =>
      obtain ⟨k, z, hk, rfl, rfl, z0, z1, hok, hbel⟩ := hrel
      have HB := Lib.hid hbel; clear hbel
      have HO := Lib.hid hok; clear hok
      by_cases hlk : k < L
      · obtain ⟨l, hl⟩ : ∃ l, ss[k]? = some l := ⟨ss[k]'(by rw [HL.out]; exact hlk), List.getElem?_eq_getElem _⟩
        obtain ⟨x, g, o, -, rfl, hg, hc, hvl⟩ := HV.out.at hl
        have hcx : wr.cell? ⟨g, o + k, none⟩ = some (.slice x.a l.length x.c) := (HB.out.cell (p := ⟨g, o + k, none⟩) hg).trans hc
        have HZ := Lib.hid (szCellS_tot wr x.a x.c l z (hvl.below HB.out) (HM.out l (List.mem_of_getElem? hl)) z0 (by omega)); clear hvl hc hg
        have HTK := Lib.hid (show tott (ss.take (k + 1)) = tott (ss.take k) + l.length by rw [take_at hl, tott_app]; simp [tott])
        have HL2 := Lib.hid hl; clear hl
        generalize hln : l.length = ln at *
        have HLN := Lib.hid hln; clear hln
        go_wp2_with fail
        refine HZ.out.mono ?_; rintro e w1 ⟨y, rfl, b1, hy⟩
        have B1 := Lib.hid (bel_tr HB.out b1 (Nat.le_refl _)); clear b1
        rcases hy with hy | ⟨y0, y1, y2, y3⟩
        · go_wp2_with fail
          go_ret
          exact ⟨-1, rfl, B1.out, Or.inl (by decide)⟩
        · have HS := Lib.hid (show Small n l from Small.mono (n := z) ⟨y2, y3⟩ (by omega)); clear y2 y3
          have y4 : ¬ y < 0 := by omega
          go_wp2_with fail
          go_roundw
          case rel =>
            refine ⟨k + 1, y, by omega, by go_num, rfl, by omega, by rw [HTK.out]; have := HLN.out; omega, fun j d hj hd => ?_, B1.out⟩
            by_cases he : j = k
            · subst he
              obtain rfl : l = d := Option.some.inj (HL2.out.symm.trans hd)
              exact HS.out
            · exact HO.out j d (by omega) hd
          case measure => simp [intV]; omega
      · obtain rfl : k = L := by omega
        go_wp2_with fail
        go_ret
        refine ⟨z, rfl, HB.out, Or.inr ⟨z0, by rw [HL.out]; rw [List.take_of_length_le (Nat.le_of_eq HL.out)] at z1; exact z1, by rw [HL.out]; omega, fun l hl => ?_⟩⟩
        obtain ⟨j, hj⟩ := List.mem_iff_getElem?.1 hl
        exact HO.out j l (by have := (List.getElem?_eq_some_iff.1 hj).1; rw [HL.out] at this; omega) hj
set_option maxRecDepth 100000 in
set_option maxHeartbeats 2000000 in
theorem szBarn_tot (w : World) (a sa : Option Addr) (c sc N L : Nat) (h : List Cel) (hs : List Hd) (ss : List (List Cel)) (hN : h.length = N) (hL : ss.length = L) (n : Int) (hv : Vw w a c h) (hvs : VwS w sa sc hs ss) (hm1 : Big h) (hm : ∀ l ∈ ss, Big l) (h0 : 0 ≤ n) (hn : n ≤ 1048576) :
    Calls Try.prog 47 #[.agg #[.slice a N c, .slice sa L sc], .int .i64 n] w (SzBT h ss n w) := by
  have HVS := Lib.hid hvs; clear hvs
  have HM := Lib.hid hm; clear hm
  have H0 := Lib.hid (bel1 w (.cells #[.slice a N c, .slice sa L sc] 71))
  have F0 := Lib.hid (Bb.made (.slice a N c) (.slice sa L sc) w 71)
  have HZ := Lib.hid (szCellS_tot _ a c h n (hv.below H0.out) hm1 h0 hn); clear hv hm1
  rw [hN] at HZ
  go_enter Try.func47, Try.ntmps47
  go_wp2_with fail
  refine HZ.out.mono ?_; rintro e w1 ⟨y, rfl, b1, hy⟩
  have B1 := Lib.hid (bel_tr H0.out b1 (Nat.le_refl _))
  obtain ⟨x0, x1, -, -, -⟩ := F0.out.next b1; clear b1
  rcases hy with hy | ⟨y0, y1, y2, y3⟩
  · go_wp2_with fail
    go_ret
    exact ⟨-1, rfl, B1.out, Or.inl (by decide)⟩
  · have HS := Lib.hid (show Small n h from ⟨y2, y3⟩); clear y2 y3
    have y4 : ¬ y < 0 := by omega
    go_wp2_with fail
    refine (szCellSS_tot w1 sa sc hs ss L hL y (HVS.out.below B1.out) HM.out y0 (by omega)).mono ?_; rintro e w2 ⟨z, rfl, b2, hz⟩
    have B2 := Lib.hid (bel_tr B1.out b2 (Nat.le_refl _)); clear b2
    rcases hz with hz | ⟨z0, z1, z2, z3⟩
    · go_wp2_with fail
      go_ret
      exact ⟨-1, rfl, B2.out, Or.inl (by decide)⟩
    · have HS2 := Lib.hid (show ∀ l ∈ ss, Small n l from fun l hl => (z3 l hl).mono (by omega)); clear z3
      have z4 : ¬ z < 0 := by omega
      go_wp2_with fail
      go_ret
      exact ⟨z, rfl, B2.out, Or.inr ⟨z0, by omega, HS.out, by omega, HS2.out⟩⟩
end Go.Proofs.Ytkkpokfekbdigaa.Cl
namespace Go.Proofs.Ytkkpokfekbdigaa.Cl
open Go.RowKit Wd Rp Kp Ra
set_option linter.unusedVariables false
set_option maxRecDepth 100000 in
set_option maxHeartbeats 400000 in
theorem specBarn_any (w : World) (a sa : Option Addr) (c sc n sn : Nat) (h : List Cel) (hs : List Hd) (ss : List (List Cel)) (hn : h.length = n) (hsn : ss.length = sn) (hv : Vw w a c h) (hvs : VwS w sa sc hs ss) (hlow : Low h ss) (hmod : Mod h ss) :
    Calls Try.prog 48 #[.agg #[.slice a n c, .slice sa sn sc]] w fun e w' => e = .returned (.bool (okB h ss)) ∧ Below w.heap.size w w' := by
  have HV := Lib.hid hv; clear hv
  have HVS := Lib.hid hvs; clear hvs
  have HLOW := Lib.hid hlow; clear hlow
  have HMOD := Lib.hid hmod; clear hmod
  have HN := Lib.hid hn; clear hn
  have HSN := Lib.hid hsn; clear hsn
  have hn1 : n ≤ 1048576 := by rw [← HN.out]; exact HLOW.out.1
  have hsn1 : sn ≤ 1048576 := by rw [← HSN.out]; exact HLOW.out.2.1
  have H0 := Lib.hid (bel1 w (.cells #[.slice a n c, .slice sa sn sc] 45))
  have F0 := Lib.hid (Bb.made (.slice a n c) (.slice sa sn sc) w 45)
  go_enter Try.func48, Try.ntmps48
  go_wp2_with fail
  go_loopw [3] (fun i wr => ∃ k : Nat, k ≤ sn ∧ i = .int .i64 k ∧ (∀ (j : Nat) (l : List Cel), j < k → ss[j]? = some l → okT l = true) ∧ Below w.heap.size w wr ∧ Bb w.heap.size (.slice a n c) (.slice sa sn sc) wr) (fun i _ => sn - intV i)
  case atStart => exact ⟨0, Nat.zero_le _, rfl, (fun j l hj => by omega), H0.out, F0.out⟩
  case round =>
    clear H0 F0
    obtain ⟨k, hk, rfl, hall, hbel, hfr⟩ := hrel
    have HALL := Lib.hid hall; clear hall
    have HB := Lib.hid hbel; clear hbel
    have HF := Lib.hid hfr
    obtain ⟨x0, x1, -, -, -⟩ := hfr
    by_cases hlt : k < sn
    · obtain ⟨l, hl⟩ : ∃ l, ss[k]? = some l := ⟨ss[k]'(by rw [HSN.out]; exact hlt), List.getElem?_eq_getElem _⟩
      obtain ⟨x, g, o, -, rfl, hg, hc, hvl⟩ := HVS.out.at hl
      have hcx : wr.cell? ⟨g, o + k, none⟩ = some (.slice x.a l.length x.c) := (HB.out.cell (p := ⟨g, o + k, none⟩) hg).trans hc
      have HVL := Lib.hid (hvl.below HB.out); clear hvl hc hg
      have hl2 : l.length ≤ 1048576 := HLOW.out.2.2 l (List.mem_of_getElem? hl)
      have HM := Lib.hid (HMOD.out.2 l (List.mem_of_getElem? hl))
      have HL := Lib.hid hl; clear hl
      generalize hln : l.length = ln at *
      have HLN := Lib.hid hln; clear hln
      have k1 : (k : Int) < (sn : Int) := by omega
      cases hok : okL l
      · have HE := Lib.hid (okB_bad (h := h) (List.mem_of_getElem? HL.out) (show okT l = false by unfold okT; rw [hok]; simp))
        have HOK := Lib.hid hok; clear hok
        go_wp2_with fail
        refine (specCells_is HOK.out _ x.a x.c _ HLN.out HVL.out HM.out (by omega)).mono ?_; rintro e w1 ⟨rfl, b1⟩
        have B1 := Lib.hid (bel_tr HB.out b1 (Nat.le_refl _))
        obtain ⟨x2, x3, -, -, -⟩ := HF.out.next b1; clear b1
        go_wp2_with fail
        go_ret
        exact ⟨by rw [HE.out]; rfl, B1.out⟩
      · have HOK := Lib.hid hok
        by_cases hz : ln = 0
        · have HE := Lib.hid (okB_bad (h := h) (List.mem_of_getElem? HL.out) (show okT l = false by rw [List.length_eq_zero_iff.1 (HLN.out.trans hz)]; rfl))
          subst hz
          clear hok
          go_wp2_with fail
          refine (specCells_is HOK.out _ x.a x.c _ HLN.out HVL.out HM.out (by omega)).mono ?_; rintro e w1 ⟨rfl, b1⟩
          have B1 := Lib.hid (bel_tr HB.out b1 (Nat.le_refl _))
          obtain ⟨x2, x3, -, -, -⟩ := HF.out.next b1
          have hcx1 : w1.cell? ⟨g, o + k, none⟩ = some (.slice x.a 0 x.c) := by
            exact (World.cell?_of_block (w := wr) (b1.block g (lt_of_cell hcx))).trans hcx
          clear b1
          go_wp2_with fail
          go_ret
          exact ⟨by rw [HE.out]; rfl, B1.out⟩
        · have HE := Lib.hid (show okT l = true by unfold okT; rw [hok]; cases l with | nil => exact absurd HLN.out.symm hz | cons _ _ => rfl)
          have hz1 : ¬ ((ln : Int) = 0) := by omega
          have hz2 : ((ln : Int) == 0) = false := by simpa using hz
          clear hok
          go_wp2_with fail
          refine (specCells_is HOK.out _ x.a x.c _ HLN.out HVL.out HM.out (by omega)).mono ?_; rintro e w1 ⟨rfl, b1⟩
          have B1 := Lib.hid (bel_tr HB.out b1 (Nat.le_refl _))
          have F1 := Lib.hid (HF.out.next b1)
          obtain ⟨x2, x3, -, -, -⟩ := id F1.out
          have hcx1 : w1.cell? ⟨g, o + k, none⟩ = some (.slice x.a ln x.c) := (World.cell?_of_block (w := wr) (b1.block g (lt_of_cell hcx))).trans hcx
          clear b1
          go_wp2_with fail
          go_roundw
          case rel =>
            refine ⟨k + 1, by omega, by go_num, fun j t hj ht => ?_, B1.out, F1.out⟩
            by_cases ej : j = k
            · subst ej; rw [HL.out] at ht; cases ht; exact HE.out
            · exact HALL.out j t (by omega) ht
          case measure => simp [intV]; omega
    · have hkk : k = sn := by omega
      have HE := Lib.hid (specBarn_end (h := h) (ss := ss) (fun j l hl => HALL.out j l (by have := (List.getElem?_eq_some_iff.1 hl).1; rw [HSN.out] at this; omega) hl))
      rw [HSN.out] at HE
      subst hkk
      have HVH := Lib.hid (HV.out.below HB.out)
      cases hok : okL h
      · rw [hok] at HE
        have HOK := Lib.hid hok; clear hok
        go_wp2_with fail
        refine (specCells_is HOK.out _ a c n HN.out HVH.out HMOD.out.1 (by omega)).mono ?_; rintro e w1 ⟨rfl, b1⟩
        have B1 := Lib.hid (bel_tr HB.out b1 (Nat.le_refl _)); clear b1
        go_wp2_with fail
        go_ret
        exact ⟨by rw [HE.out]; rfl, B1.out⟩
      · rw [hok] at HE
        have HOK := Lib.hid hok; clear hok
        by_cases h5 : k ≤ 5
        all_goals
          go_wp2_with fail
          refine (specCells_is HOK.out _ a c n HN.out HVH.out HMOD.out.1 (by omega)).mono ?_; rintro e w1 ⟨rfl, b1⟩
          have B1 := Lib.hid (bel_tr HB.out b1 (Nat.le_refl _))
          obtain ⟨x2, x3, -, -, -⟩ := HF.out.next b1; clear b1
          go_wp2_with fail
          go_ret
          exact ⟨by rw [HE.out]; first | (simp [h5]; done) | (simp [h5]; omega), B1.out⟩
theorem barnS_is {h : List Cel} {ss : List (List Cel)} {x : Bool} (e : okB h ss = x) (w : World) (a sa : Option Addr) (c sc n sn : Nat) (hs : List Hd) (hn : h.length = n) (hsn : ss.length = sn) (hv : Vw w a c h) (hvs : VwS w sa sc hs ss) (hlow : Low h ss) (hmod : Mod h ss) :
    Calls Try.prog 48 #[.agg #[.slice a n c, .slice sa sn sc]] w fun e w' => e = .returned (.bool x) ∧ Below w.heap.size w w' := by
  rw [← e]; exact specBarn_any w a sa c sc n sn h hs ss hn hsn hv hvs hlow hmod
end Go.Proofs.Ytkkpokfekbdigaa.Cl
namespace Go.Proofs.Ytkkpokfekbdigaa.Cl
open Go.RowKit Wd Rp Kp Ra Go.Shelf
attribute [local go_sem] Oper.semAt_some
set_option linter.unusedVariables false
def BarnPost (h : List Cel) (ss : List (List Cel)) (w : World) (e : Ending) (w' : World) : Prop := e = .returned (.bool (okB h ss)) ∧ Below w.heap.size w w'
/-- The two blocks of BarnOk's own: the store, the result. -/
def BarnFr (q : Nat) (u v : Value) (w : World) : Prop := w.cell? ⟨q, 0, none⟩ = some u ∧ w.cell? ⟨q, 1, none⟩ = some v ∧ w.cell? ⟨q + 1, 0, none⟩ = some (.bool false) ∧ w.frozen? ⟨q + 1, 0, none⟩ = false ∧ q + 1 < w.heap.size
theorem BarnFr.made (u v : Value) (w : World) : BarnFr w.heap.size u v ((w.alloc (.cells #[u, v] 45)).alloc (.cells #[.bool false] 4)) := by
  have e1 : ((w.alloc (.cells #[u, v] 45)).alloc (.cells #[.bool false] 4)).heap[w.heap.size]? = some (.cells #[u, v] 45) := (Below.heap_alloc _ _ _ (by simp)).trans (World.alloc_heap_new w _)
  have e2 : ((w.alloc (.cells #[u, v] 45)).alloc (.cells #[.bool false] 4)).heap[w.heap.size + 1]? = some (.cells #[.bool false] 4) := by
    have := World.alloc_heap_new (w.alloc (.cells #[u, v] 45)) (.cells #[.bool false] 4)
    rwa [World.size_alloc] at this
  refine ⟨?_, ?_, ?_, ?_, by simp⟩
  · simp only [World.cell?, e1]; rfl
  · simp only [World.cell?, e1]; rfl
  · simp only [World.cell?, e2]; rfl
  · simp only [World.frozen?, e2]; rfl
theorem BarnFr.below {q B : Nat} {u v : Value} {w w' : World} (h : BarnFr q u v w) (hb : Below B w w') (hq : q + 1 < B) : BarnFr q u v w' := by
  obtain ⟨h0, h1, h2, h3, h4⟩ := h
  have e : w'.heap[q]? = w.heap[q]? := hb.block q (by omega)
  have e' : w'.heap[q + 1]? = w.heap[q + 1]? := hb.block (q + 1) hq
  exact ⟨(World.cell?_of_block (w := w) e).trans h0, (World.cell?_of_block (w := w) e).trans h1, (World.cell?_of_block (w := w) e').trans h2, (World.frozen?_of_block (w := w) e').trans h3, Nat.lt_of_lt_of_le h4 hb.size⟩
theorem BarnFr.next {q : Nat} {u v : Value} {w w' : World} (h : BarnFr q u v w) (hb : Below w.heap.size w w') : BarnFr q u v w' := h.below hb h.2.2.2.2
theorem BarnFr.put {q : Nat} {u v : Value} {w : World} (h : BarnFr q u v w) : BarnFr q u v (w.setCell ⟨q + 1, 0, none⟩ (.bool false)) := by
  obtain ⟨h0, h1, h2, h3, h4⟩ := h
  have e : (w.setCell ⟨q + 1, 0, none⟩ (.bool false)).heap[q]? = w.heap[q]? := Below.heap_setCell _ _ _ _ (by show q ≠ q + 1; omega)
  exact ⟨(World.cell?_of_block (w := w) e).trans h0, (World.cell?_of_block (w := w) e).trans h1, World.cell?_setCell_same' _ _ _ (by rw [h2]; rfl), by rw [World.frozen?_setCell]; exact h3, by rw [World.size_setCell]; exact h4⟩
set_option maxRecDepth 100000 in
set_option maxHeartbeats 4000000 in
theorem implBarn_any (w : World) (a sa : Option Addr) (c sc n sn : Nat) (h : List Cel) (hs : List Hd) (ss : List (List Cel)) (hn : h.length = n) (hsn : ss.length = sn) (hv : Vw w a c h) (hvs : VwS w sa sc hs ss) (hlow : Low h ss) :
    Calls Try.prog 50 #[.agg #[.slice a n c, .slice sa sn sc]] w (BarnPost h ss w) := by
  have HV := Lib.hid hv; clear hv
  have HVS := Lib.hid hvs; clear hvs
  have HLOW := Lib.hid hlow; clear hlow
  have HN := Lib.hid hn; clear hn
  have HSN := Lib.hid hsn; clear hsn
  have hn1 : n ≤ 1048576 := by rw [← HN.out]; exact HLOW.out.1
  have hsn1 : sn ≤ 1048576 := by rw [← HSN.out]; exact HLOW.out.2.1
  by_cases h5 : 5 < sn
  · have HP := Lib.hid (okB_many (h := h) (ss := ss) (by rw [HSN.out]; exact h5))
    refine (callsIn_wide (n := 9)).1 (callsIn_of_wp_marks Try.func50 rfl trivial ?_ rfl)
    simp only [Try.ntmps50, List.size_toArray, List.length_cons, List.length_nil, Nat.reduceAdd, Nat.reduceSub, Array.replicate_succ, Array.replicate_zero, List.push_toArray, List.append_toArray, List.nil_append, List.cons_append]
    gi_wp2_with fail
    refine ⟨trivial, ?_⟩
    gi_wp2_with fail
    refine ⟨.bool false, by simp [results, Try.f50, go_sem], by rw [HP.out], ?_⟩
    exact bel2 w _ _
  · have H0 := Lib.hid (bel2 w (.cells #[.slice a n c, .slice sa sn sc] 45) (.cells #[.bool false] 4))
    have H1 := Lib.hid (show (((w.alloc (.cells #[.slice a n c, .slice sa sn sc] 45)).alloc (.cells #[.bool false] 4)).heap.size = w.heap.size + 2) by simp)
    have hq : ¬ (5 : Int) < (sn : Int) := by omega
    cases hk : okL h
    · have HP := Lib.hid (okB_hand (h := h) (ss := ss) hk)
      have HK := Lib.hid hk; clear hk
      refine (callsIn_wide (n := 9)).1 (callsIn_of_wp_marks Try.func50 rfl trivial ?_ rfl)
      simp only [Try.ntmps50, List.size_toArray, List.length_cons, List.length_nil, Nat.reduceAdd, Nat.reduceSub, Array.replicate_succ, Array.replicate_zero, List.push_toArray, List.append_toArray, List.nil_append, List.cons_append]
      gi_wp2_with fail
      refine ⟨trivial, (callsIn_wide.2 (implCells_is HK.out _ a c n HN.out (HV.out.below H0.out) (by omega))).mono ?_⟩; rintro e w1 ⟨rfl, b1⟩
      have f1 := (BarnFr.made (.slice a n c) (.slice sa sn sc) w).next b1
      have B1 := Lib.hid (bel_tr H0.out b1 (Nat.le_refl _)); clear b1
      obtain ⟨x0, x1, x2, x3, -⟩ := f1
      gi_wp2_with fail
      refine ⟨.bool false, by simp [results, Try.f50, go_sem, x2], by rw [HP.out], ?_⟩
      exact (B1.out.setCell (by show w.heap.size ≤ w.heap.size + 1; omega) _)
    · have HK := Lib.hid hk; clear hk
      refine (callsIn_wide (n := 9)).1 (callsIn_of_wp_marks Try.func50 rfl trivial ?_ rfl)
      simp only [Try.ntmps50, List.size_toArray, List.length_cons, List.length_nil, Nat.reduceAdd, Nat.reduceSub, Array.replicate_succ, Array.replicate_zero, List.push_toArray, List.append_toArray, List.nil_append, List.cons_append]
      gi_wp2_with fail
      refine ⟨trivial, (callsIn_wide.2 (implCells_is HK.out _ a c n HN.out (HV.out.below H0.out) (by omega))).mono ?_⟩; rintro e w1 ⟨rfl, b1⟩
      have f1 := (BarnFr.made (.slice a n c) (.slice sa sn sc) w).next b1
      have B1 := Lib.hid (bel_tr H0.out b1 (Nat.le_refl _)); clear b1
      have F1 := Lib.hid f1
      obtain ⟨x0, x1, x2, x3, x4⟩ := f1
      gi_wp2_with fail
      refine ⟨trivial, (callsIn_wide.2 (shelvesOf_any (fun _ => False) w.heap.size (.slice a n c) ⟨_, _, _, rfl⟩ sa sn sc hs (HVS.out.1.1.trans HSN.out) (by omega) w1 (HVS.out.2.2.2.2.below B1.out) B1.out.size (fun _ _ _ _ h => h))).mono ?_⟩
      rintro e w2 ⟨gf, lb, rfl, hen, hha, b2⟩
      have F2 := Lib.hid (F1.out.next b2)
      have B2 := Lib.hid (bel_tr B1.out b2 (Nat.le_refl _)); clear b2 x0 x1 x2 x3
      have x5 := F2.out.2.2.2.2
      gi_wp2_with fail
      refine loop_hands1 16 3 rfl hen hha (Below.refl _ _) (fun _ h => h.elim)
        (fun s W => s.2 = none ∧ w2.heap.size ≤ W.heap.size ∧ BarnFr w.heap.size (.slice a n c) (.slice sa sn sc) W ∧ (∀ (j : Nat) (l : List Cel), j < s.1.length → ss[j]? = some l → okT l = true) ∧ Below w.heap.size w W)
        (fun k pre W => k = .ret ∧ w2.heap.size ≤ W.heap.size ∧ BarnFr w.heap.size (.slice a n c) (.slice sa sn sc) W ∧ (∃ l ∈ ss, okT l = false) ∧ Below w.heap.size w W) ?_ ?_ ?_ ?_ ?_ ?_ ?_
      · exact own_of (fun _ _ h => h.2.1) fun s W W' ⟨h0, h1, h2, h3, h4⟩ hb => ⟨h0, Nat.le_trans h1 hb.size, h2.below hb x5, h3, h4.trans (hb.mono B2.out.size)⟩
      · exact fun k => own_of (fun _ _ h => h.2.1) fun s W W' ⟨h0, h1, h2, h3, h4⟩ hb => ⟨h0, Nat.le_trans h1 hb.size, h2.below hb x5, h3, h4.trans (hb.mono B2.out.size)⟩
      · exact ⟨rfl, Nat.le_refl _, F2.out, fun j l hj => by simp at hj, B2.out⟩
      · intro l m x W K hK
        simp only [List.setIfInBounds_toArray, List.set_cons_zero, List.set_cons_succ] at hK ⊢
        gi_wp2
        exact hK
      · rintro l m pre x gg W hpre hsz ⟨hg0, hs1, hfr, hall, hbel⟩
        replace hg0 : gg = none := hg0
        subst hg0
        replace hall : ∀ (j : Nat) (l : List Cel), j < pre.length → ss[j]? = some l → okT l = true := hall
        simp only [List.setIfInBounds_toArray, List.set_cons_zero, List.set_cons_succ]
        obtain ⟨y, hy, rfl⟩ := pre_at hpre
        obtain ⟨t, ht⟩ : ∃ t, ss[pre.length]? = some t := ⟨ss[pre.length]'(by rw [← HVS.out.1.1]; exact (List.getElem?_eq_some_iff.1 hy).1), List.getElem?_eq_getElem _⟩
        obtain ⟨hyn, hyv⟩ := HVS.out.1.2 _ _ _ hy ht
        have HT := Lib.hid ht
        have hyl : y.n ≤ 1048576 := by rw [hyn]; exact HLOW.out.2.2 t (List.mem_of_getElem? ht)
        have HYV := Lib.hid (hyv.below hbel); clear hyv
        have HYN := Lib.hid hyn; clear hyn ht hy
        have HALL := Lib.hid hall; clear hall
        have HBL := Lib.hid hbel; clear hbel
        have HFR := Lib.hid hfr
        obtain ⟨x0, x1, x2, x3, x4⟩ := hfr
        by_cases hz : y.n = 0
        · have HE := Lib.hid (show okT t = false by rw [List.length_eq_zero_iff.1 (HYN.out.symm.trans hz)]; rfl)
          rw [hz]
          clear hz
          gi_wp2_with fail
          refine ⟨trivial, ?_⟩
          gi_wp2_with fail
          exact ⟨(KeepsOthers.setCell _ _ _).from _, rfl, by rw [World.size_setCell]; exact hs1, HFR.out.put, ⟨t, List.mem_of_getElem? HT.out, HE.out⟩, HBL.out.setCell (by show w.heap.size ≤ w.heap.size + 1; omega) _⟩
        · have hz1 : ¬ (y.n : Int) = 0 := by omega
          have hz2 : ((y.n : Int) == 0) = false := by simpa using hz
          cases hkt : okL t
          · have HE := Lib.hid (show okT t = false by unfold okT; rw [hkt]; simp)
            have HKT := Lib.hid hkt; clear hkt
            gi_wp2_with fail
            refine ⟨trivial, fun h => (by cases h), (CallsIn.inRound l (callsIn_wide.2 (implCells_is HKT.out _ y.a y.c y.n HYN.out.symm HYV.out (by omega)))).mono ?_⟩; rintro e w3 ⟨rfl, b3⟩
            have F3 := Lib.hid (HFR.out.next b3)
            have B3 := Lib.hid b3; clear b3 x0 x1 x2 x3
            obtain ⟨x0, x1, x2, x3, x6⟩ := id F3.out
            gi_wp2_with fail
            exact ⟨(Below.keeps B3.out).trans ((KeepsOthers.setCell _ _ _).from _), rfl, by rw [World.size_setCell]; exact Nat.le_trans hs1 B3.out.size, F3.out.put, ⟨t, List.mem_of_getElem? HT.out, HE.out⟩, (bel_tr HBL.out B3.out (Nat.le_refl _)).setCell (by show w.heap.size ≤ w.heap.size + 1; omega) _⟩
          · have HE := Lib.hid (show okT t = true by unfold okT; rw [hkt]; cases t with | nil => exact absurd (HYN.out.trans rfl) hz | cons _ _ => rfl)
            have HKT := Lib.hid hkt; clear hkt
            gi_wp2_with fail
            refine ⟨trivial, fun h => (by cases h), (CallsIn.inRound l (callsIn_wide.2 (implCells_is HKT.out _ y.a y.c y.n HYN.out.symm HYV.out (by omega)))).mono ?_⟩; rintro e w3 ⟨rfl, b3⟩
            have F3 := Lib.hid (HFR.out.next b3)
            have B3 := Lib.hid b3; clear b3 x0 x1 x2 x3
            gi_wp2_with fail
            refine ⟨Below.keeps B3.out, Kept.of_below B3.out, none, Or.inl rfl, rfl, Nat.le_trans hs1 B3.out.size, F3.out, fun j l' hj hl' => ?_, bel_tr HBL.out B3.out (Nat.le_refl _)⟩
            replace hj : j < (pre ++ [Value.slice y.a y.n y.c]).length := hj
            rw [List.length_append] at hj
            by_cases ej : j = pre.length
            · subst ej; rw [HT.out] at hl'; cases hl'; exact HE.out
            · exact HALL.out j l' (by simp at hj; omega) hl'
      · rintro D gg W hD ⟨-, hs1, hfr, hall, hbel⟩ hK
        replace hall : ∀ (j : Nat) (l : List Cel), j < (hs.map Hd.val).length → ss[j]? = some l → okT l = true := hall
        have HFR := Lib.hid hfr
        have HE := Lib.hid (okB_all HK.out (by rw [HSN.out]; omega) (fun j l hl => hall j l (by rw [List.length_map, HVS.out.1.1]; exact (List.getElem?_eq_some_iff.1 hl).1) hl)); clear hall
        obtain ⟨x0, x1, x2, x3, x4⟩ := hfr
        have HB := Lib.hid hbel; clear hbel
        gi_wp2_with fail
        refine ⟨by simp, .inl ⟨_, _, rfl, run_takeDeferred ((KeepsOthers.setCell _ _ _).same D _ hK rfl), ?_⟩⟩
        have x7 : ((W.setCell ⟨w.heap.size + 1, 0, none⟩ (.bool true)).putObj D (.deferred none)).cell? ⟨w.heap.size + 1, 0, none⟩ = some (.bool true) :=
          (World.cell?_of_block (World.putObj_heap_other (show w.heap.size + 1 ≠ D by omega))).trans (World.cell?_setCell_same' _ _ _ (by rw [x2]; rfl))
        refine ⟨.bool true, by simp [results, Try.f50, go_sem, x7], by rw [HE.out], ?_⟩
        exact (HB.out.setCell (by show w.heap.size ≤ w.heap.size + 1; omega) _).trans (put_below (by omega) (by rw [World.size_setCell]; exact HB.out.size))
      · rintro D k pre W hD hpre ⟨rfl, hs1, hfr, ⟨t, ht, hbad⟩, hbel⟩ hK
        have HE := Lib.hid (okB_bad (h := h) ht hbad)
        obtain ⟨x0, x1, x2, x3, x4⟩ := hfr
        gi_wp2_with fail
        refine ⟨by simp, .inl ⟨_, _, rfl, run_takeDeferred hK, ?_⟩⟩
        have x7 : (W.putObj D (.deferred none)).cell? ⟨w.heap.size + 1, 0, none⟩ = some (.bool false) := (World.cell?_of_block (World.putObj_heap_other (show w.heap.size + 1 ≠ D by omega))).trans x2
        refine ⟨.bool false, by simp [results, Try.f50, go_sem, x7], by rw [HE.out], ?_⟩
        exact hbel.trans (put_below (by omega) hbel.size)
end Go.Proofs.Ytkkpokfekbdigaa.Cl
namespace Go.Proofs.Ytkkpokfekbdigaa.Cl
open Go.RowKit Wd Rp Kp Ra
set_option linter.unusedVariables false
theorem specBarnO {B : Nat} {hv sv : Value} {h : List Cel} {ss : List (List Cel)} (w : World) (o : OwB B w hv sv h ss) (hlow : Low h ss) (hmod : Mod h ss) :
    Calls Try.prog 48 #[.agg #[hv, sv]] w fun e w' => e = .returned (.bool (okB h ss)) ∧ Below w.heap.size w w' := by
  obtain ⟨a, c, sa, sc, hs, rfl, rfl, h1, h2⟩ := o.view
  exact specBarn_any w a sa c sc _ _ h hs ss rfl rfl h1 h2 hlow hmod
theorem implBarnO {B : Nat} {hv sv : Value} {h : List Cel} {ss : List (List Cel)} (w : World) (o : OwB B w hv sv h ss) (hlow : Low h ss) :
    Calls Try.prog 50 #[.agg #[hv, sv]] w fun e w' => e = .returned (.bool (okB h ss)) ∧ Below w.heap.size w w' := by
  obtain ⟨a, c, sa, sc, hs, rfl, rfl, h1, h2⟩ := o.view
  exact implBarn_any w a sa c sc _ _ h hs ss rfl rfl h1 h2 hlow
theorem barnI_is {h : List Cel} {ss : List (List Cel)} {x : Bool} (e : okB h ss = x) (w : World) (a sa : Option Addr) (c sc n sn : Nat) (hs : List Hd) (hn : h.length = n) (hsn : ss.length = sn) (hv : Vw w a c h) (hvs : VwS w sa sc hs ss) (hlow : Low h ss) :
    Calls Try.prog 50 #[.agg #[.slice a n c, .slice sa sn sc]] w fun e w' => e = .returned (.bool x) ∧ Below w.heap.size w w' := by
  rw [← e]; exact implBarn_any w a sa c sc n sn h hs ss hn hsn hv hvs hlow
end Go.Proofs.Ytkkpokfekbdigaa.Cl
namespace Go.Proofs.Ytkkpokfekbdigaa.Cl
open Go.RowKit Wd Rp Kp Ra
set_option linter.unusedVariables false
theorem okB_tot {h : List Cel} {ss : List (List Cel)} (e : okB h ss = true) : h.length ≤ 200 ∧ tott ss ≤ 1000 := by
  obtain ⟨h1, h2, h3⟩ := okB_iff.1 e
  refine ⟨(okL_iff.1 h1).2, ?_⟩
  have key : ∀ ss : List (List Cel), (∀ l ∈ ss, l ≠ [] ∧ okL l = true) → tott ss ≤ 200 * ss.length := by
    intro ss
    induction ss with
    | nil => intro _; simp [tott]
    | cons l ss ih =>
      intro h
      have h1 := ih (fun l hl => h l (List.mem_cons_of_mem _ hl))
      have h2 := (okL_iff.1 (h l List.mem_cons_self).2).2
      rw [tott_cons, List.length_cons]; omega
  have := key ss h3
  omega
theorem run_append_row {w : World} {base : Nat} {v u : Value} {us : List Value} (ty : TypeId) (hown : RowS base w v us) (hu : ∃ a n c, u = .slice a n c) (hlen : us.length ≤ 1000000) (hbase : base ≤ w.heap.size) (ad : Addr) (hc : w.cell? ad = some u) :
    ∃ v' w', (Builtin.append_ #[43, 43] ty #[v, .slice (some ad) 1 1]).run Try.prog w = .ok v' w' ∧ RowS base w' v' (us ++ [u]) ∧ w.grownBy w' v.ownBlock ∧ (v'.ownBlock = v.ownBlock ∨ v'.ownBlock = some w.heap.size) := by
  obtain ⟨i0, hi, hz0, hz1, hz2⟩ := info_parts infoS
  obtain ⟨a, n, c, rfl⟩ := hu
  obtain ⟨v', w', hr, h2, h3, h4, h5⟩ := run_append_own_at (P := Try.prog) w base 43 ty 24 i0 _ 1 24 Try.underlying43 hi hz0 hz1 hz2 rfl (by decide) v us.length us hown
    ad 1 1 [.slice a n c] rfl (fun j u hj => by
      cases j with
      | zero =>
        obtain rfl : Value.slice a n c = u := by simpa using hj
        simpa [Addr.add] using hc
      | succ j => simp at hj) (fun u hu => by rw [List.mem_singleton.1 hu]; rfl) (by unfold maxLen; omega) (by omega) hbase
  refine ⟨v', w', hr, ?_, h3, h5⟩
  unfold RowS
  rw [List.length_append]; exact h2
theorem appendS_in {F : Fence} {n : Nat} {ops : Array Oper} {rest : List Oper} {o : Oper} {a : Act} {Q : Exit → Act → World → Prop} (w : World) (hg : o.guard = none) (s x : Operand) (hop : o.op = Op.call { callee := Callee.builtin Builtin.append, args := #[s, x], argTypes := #[43, 43] })
    {base : Nat} {v u : Value} {us : List Value} {ad : Addr} (hs : a.eval s = v) (hx : a.eval x = .slice (some ad) 1 1) (hown : RowS base w v us) (hu : ∃ a n c, u = .slice a n c) (hlen : us.length ≤ 1000000) (hbase : base ≤ w.heap.size) (hc : w.cell? ad = some u)
    (hK : ∀ v' w', RowS base w' v' (us ++ [u]) → w.grownBy w' v.ownBlock → (v'.ownBlock = v.ownBlock ∨ v'.ownBlock = some w.heap.size) → wpListIn F n Try.prog ops Q rest (a.put o.dst v') w') :
    wpListIn F n Try.prog ops Q (o :: rest) a w := by
  refine wpListIn_plain hg fun K hK' => ?_
  obtain ⟨v', w', hrun, r1, r2, r3⟩ := run_append_row o.type hown hu hlen hbase ad hc
  unfold Oper.wpIn
  refine ⟨?_, ?_⟩
  · simp [Oper.about, hop, resolve, Target.leads, Sem.run_pure]
  · rw [Oper.semAt_plain F _ _ (by rw [hop]; intro c hc'; cases hc')]
    simp [execOp, hop, resolve, invoke, builtin, hs, hx, hrun, Result.andThen]
    exact hK' _ _ (hK v' w' r1 r2 r3)
theorem cells_of_row {B : Nat} {w : World} {v : Value} {us : List Value} (h : RowS B w v us) {k : Nat} (hk : v.ownBlock = some k) : ∀ o, w.heap[k]? = some o → o.isCells = true := by
  obtain ⟨-, h2⟩ := h
  rcases h2 with ⟨rfl, -⟩ | ⟨g, cap, cur, rfl, -, hg, -⟩
  · simp [Value.ownBlock] at hk
  · obtain rfl : g = k := by simpa [Value.ownBlock] using hk
    intro o ho
    rw [hg] at ho; cases ho; rfl
theorem cell_lit (w : World) (u : Value) (T : Nat) : (w.alloc (.cells #[u] T)).cell? ⟨w.heap.size, 0, none⟩ = some u := (Boxed.new w T u).cell
theorem mod_of {l : List Cel} (h : Small 1048576 l) : ∀ c ∈ l, c.mod := fun c hc => by
  have := h.2 c hc
  exact ⟨by omega, by omega⟩
theorem low_of {h : List Cel} {ss : List (List Cel)} (h1 : Small 1048576 h) (h2 : (ss.length : Int) ≤ 1048576) (h3 : ∀ l ∈ ss, Small 1048576 l) : Low h ss ∧ Mod h ss :=
  ⟨⟨by have := h1.1; omega, by omega, fun l hl => by have := (h3 l hl).1; omega⟩, mod_of h1, fun l hl => mod_of (h3 l hl)⟩
theorem Bb.ins {q lo hi : Nat} {u v : Value} {w w' : World} (h : Bb q u v w) (i : Ins lo hi w w') (hd : q < lo ∨ hi ≤ q) : Bb q u v w' := by
  obtain ⟨h0, h1, h2, h3, h4⟩ := h
  have e := i.block q h4 hd
  exact ⟨(World.cell?_of_block (w := w) e).trans h0, (World.cell?_of_block (w := w) e).trans h1, (World.frozen?_of_block (w := w) e).trans h2, (World.frozen?_of_block (w := w) e).trans h3, Nat.lt_of_lt_of_le h4 i.size⟩
end Go.Proofs.Ytkkpokfekbdigaa.Cl
