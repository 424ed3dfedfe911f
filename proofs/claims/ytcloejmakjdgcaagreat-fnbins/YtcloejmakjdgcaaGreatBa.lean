/-
  Stores (barns): a slice of slices that reads as lists of cells ('VwS'), one of a call's own ('OwS'); which stores are valid ('okB').
  Stores of a call's own ('OwB'); contracts of spec.BarnOk and of the laws' helpers szBarn, toBarn, eqBarn. (Made by gen_bb.py.)
  Contracts of the laws' helpers szBarn, toBarn, eqBarn. (Made by gen_bd.py.)
  Contracts of laws.eqBarn, laws.markBarn, laws.heldBarn.
  laws.markBarn marks every cell of a store of a call's own, and turns nothing else; laws.heldBarn finds the marks again.
  As laws.szBarn: what is let in has not too many cells in all.
  The contract of spec.BarnOk: 'okB'.
  The contract of impl.BarnOk: 'okB'.
  spec.BarnOk and impl.BarnOk at stores of the call's own.
  What the texts over stores share: an append to a row of slices, bounds.
-/
import Derived.Test.YtcloejmakjdgcaaGreatRa
import Derived.Test.YtcloejmakjdgcaaGreatCa
import Derived.Test.YtcloejmakjdgcaaGreatCo
import Derived.Test.YtcloejmakjdgcaaGreatCn
namespace Go.Proofs.YtcloejmakjdgcaaGreat.Cl
open Go.RowKit Wd Rp Kp Ra
set_option linter.unusedVariables false
/-- The headers read as these lists. -/
def VwH (w : World) (hs : List Hd) (ss : List (List Cel)) : Prop := hs.length = ss.length ∧ ∀ (j : Nat) (h : Hd) (l : List Cel), hs[j]? = some h → ss[j]? = some l → h.n = l.length ∧ Vw w h.a h.c l
theorem VwH.below {w w' : World} {hs : List Hd} {ss : List (List Cel)} (h : VwH w hs ss) (hb : Below w.heap.size w w') : VwH w' hs ss :=
  ⟨h.1, fun j x l h1 h2 => ⟨(h.2 j x l h1 h2).1, (h.2 j x l h1 h2).2.below hb⟩⟩
/-- The slice reads as these lists. -/
def VwS (w : World) (a : Option Addr) (cap : Nat) (hs : List Hd) (ss : List (List Cel)) : Prop := VwH w hs ss ∧ ss.length ≤ cap ∧ cap ≤ maxLen ∧ (a = none → cap = 0) ∧ Hds w.heap.size w a hs
theorem VwS.below {w w' : World} {a : Option Addr} {cap : Nat} {hs : List Hd} {ss : List (List Cel)} (h : VwS w a cap hs ss) (hb : Below w.heap.size w w') : VwS w' a cap hs ss := by
  obtain ⟨h1, h2, h3, h4, h5⟩ := h
  exact ⟨h1.below hb, h2, h3, h4, fun j x hx => by
    obtain ⟨g, o, e, hg, hc⟩ := h5 j x hx
    exact ⟨g, o, e, Nat.lt_of_lt_of_le hg hb.size, (hb.cell (p := ⟨g, o + j, none⟩) hg).trans hc⟩⟩
theorem VwS.at {w : World} {a : Option Addr} {cap : Nat} {hs : List Hd} {ss : List (List Cel)} (h : VwS w a cap hs ss) {k : Nat} {l : List Cel} (hl : ss[k]? = some l) :
    ∃ x g o, hs[k]? = some x ∧ a = some ⟨g, o, none⟩ ∧ g < w.heap.size ∧ w.cell? ⟨g, o + k, none⟩ = some (.slice x.a l.length x.c) ∧ Vw w x.a x.c l := by
  obtain ⟨x, hx⟩ : ∃ x, hs[k]? = some x := ⟨hs[k]'(by rw [h.1.1]; exact (List.getElem?_eq_some_iff.1 hl).1), List.getElem?_eq_getElem _⟩
  obtain ⟨g, o, e, hg, hc⟩ := h.2.2.2.2 k x hx
  obtain ⟨e2, hv⟩ := h.1.2 k x l hx hl
  rw [e2] at hc
  exact ⟨x, g, o, hx, e, hg, hc, hv⟩
/-- Are the shelves valid? Is the store? -/
def okT (l : List Cel) : Bool := !l.isEmpty && okL l
def okB (h : List Cel) (ss : List (List Cel)) : Bool := okL h && (decide (ss.length ≤ 5) && ss.all okT)
theorem okB_iff {h : List Cel} {ss : List (List Cel)} : okB h ss = true ↔ okL h = true ∧ ss.length ≤ 5 ∧ ∀ l ∈ ss, l ≠ [] ∧ okL l = true := by
  unfold okB okT; simp [List.all_eq_true]
theorem okB_hand {h : List Cel} {ss : List (List Cel)} (e : okL h = false) : okB h ss = false := by unfold okB; rw [e]; rfl
theorem okB_many {h : List Cel} {ss : List (List Cel)} (e : 5 < ss.length) : okB h ss = false := by unfold okB; rw [decide_eq_false (by omega)]; simp
theorem okB_bad {h : List Cel} {ss : List (List Cel)} {l : List Cel} (hm : l ∈ ss) (e : okT l = false) : okB h ss = false := by
  unfold okB
  have : ss.all okT = false := by rw [List.all_eq_false]; exact ⟨l, hm, by simp [e]⟩
  rw [this]; simp
theorem okB_all {h : List Cel} {ss : List (List Cel)} (h1 : okL h = true) (h2 : ss.length ≤ 5) (h3 : ∀ (j : Nat) (l : List Cel), ss[j]? = some l → okT l = true) : okB h ss = true := by
  unfold okB
  rw [h1, decide_eq_true h2]
  simp only [Bool.true_and]
  rw [List.all_eq_true]
  intro l hl
  obtain ⟨j, hj⟩ := List.mem_iff_getElem?.1 hl
  exact h3 j l hj
/-- No list is too long, no text. -/
def Low (h : List Cel) (ss : List (List Cel)) : Prop := h.length ≤ 1048576 ∧ ss.length ≤ 1048576 ∧ ∀ l ∈ ss, l.length ≤ 1048576
def Mod (h : List Cel) (ss : List (List Cel)) : Prop := (∀ c ∈ h, c.mod) ∧ ∀ l ∈ ss, ∀ c ∈ l, c.mod
end Go.Proofs.YtcloejmakjdgcaaGreat.Cl
namespace Go.Proofs.YtcloejmakjdgcaaGreat.Cl
open Go.RowKit Wd Rp Kp Ra
set_option linter.unusedVariables false
/-- No two of them lie in one block. -/
def Dis (us : List Value) : Prop := us.Pairwise fun u v => ∀ k, u.ownBlock = some k → v.ownBlock ≠ some k
def OwL (B : Nat) (w : World) (us : List Value) (ss : List (List Cel)) : Prop := us.length = ss.length ∧ (∀ (j : Nat) (u : Value) (l : List Cel), us[j]? = some u → ss[j]? = some l → OwC B w u l) ∧ Dis us
def RowS (B : Nat) (w : World) (v : Value) (us : List Value) : Prop := w.ownsRow B 24 1 v us.length us
/-- A store of a call's own: each list in a block of its own. -/
def OwB (B : Nat) (w : World) (hv sv : Value) (h : List Cel) (ss : List (List Cel)) : Prop := ∃ us, RowS B w sv us ∧ OwL B w (hv :: us) (h :: ss)
theorem OwL.next {B : Nat} {w w' : World} {us : List Value} {ss : List (List Cel)} (h : OwL B w us ss) (hb : Below w.heap.size w w') : OwL B w' us ss := ⟨h.1, fun j u l h1 h2 => (h.2.1 j u l h1 h2).next hb, h.2.2⟩
theorem OwL.mono {B C : Nat} {w : World} {us : List Value} {ss : List (List Cel)} (h : OwL B w us ss) (hC : C ≤ B) : OwL C w us ss := ⟨h.1, fun j u l h1 h2 => (h.2.1 j u l h1 h2).mono hC, h.2.2⟩
theorem RowS.next {B : Nat} {w w' : World} {v : Value} {us : List Value} (h : RowS B w v us) (hb : Below w.heap.size w w') : RowS B w' v us := row_next h fun g _ hg => hb.block g hg
theorem RowS.mono {B C : Nat} {w : World} {v : Value} {us : List Value} (h : RowS B w v us) (hC : C ≤ B) : RowS C w v us := by
  obtain ⟨h1, h2⟩ := h
  refine ⟨h1, ?_⟩
  rcases h2 with h2 | ⟨g, cap, cur, hv, hB, h3⟩
  · exact .inl h2
  · exact .inr ⟨g, cap, cur, hv, Nat.le_trans hC hB, h3⟩
theorem OwB.next {B : Nat} {w w' : World} {hv sv : Value} {h : List Cel} {ss : List (List Cel)} (o : OwB B w hv sv h ss) (hb : Below w.heap.size w w') : OwB B w' hv sv h ss := by
  obtain ⟨us, h1, h2⟩ := o
  exact ⟨us, h1.next hb, h2.next hb⟩
theorem OwB.mono {B C : Nat} {w : World} {hv sv : Value} {h : List Cel} {ss : List (List Cel)} (o : OwB B w hv sv h ss) (hC : C ≤ B) : OwB C w hv sv h ss := by
  obtain ⟨us, h1, h2⟩ := o
  exact ⟨us, h1.mono hC, h2.mono hC⟩
theorem infoS : (Tryz.prog.info? 24).map (fun i => (i.zero, i.size, i.bytes)) = some (some (.slice none 0 0), 1, 24) := by kernel_rfl
/-- Blocks of different types are different. -/
theorem own_ne {w : World} {B B' e e' k k' n n' : Nat} {v v' : Value} {xs xs' : List Value} (h : w.ownsRow B e k v n xs) (h' : w.ownsRow B' e' k' v' n' xs') (he : e ≠ e') : ∀ q, v.ownBlock = some q → v'.ownBlock ≠ some q := by
  intro q hq hq'
  rcases h.2 with ⟨rfl, _⟩ | ⟨g, cap, cur, rfl, _, hg, _⟩
  · simp [Value.ownBlock] at hq
  · rcases h'.2 with ⟨rfl, _⟩ | ⟨g', cap', cur', rfl, _, hg', _⟩
    · simp [Value.ownBlock] at hq'
    · obtain rfl : g = q := by simpa [Value.ownBlock] using hq
      obtain rfl : g' = g := by simpa [Value.ownBlock] using hq'
      rw [hg] at hg'
      simp at hg'
      exact he hg'.2
theorem RowS.form {B : Nat} {w : World} {v : Value} {us : List Value} (h : RowS B w v us) : ∃ a cap, v = .slice a us.length cap ∧ us.length ≤ cap ∧ cap ≤ maxLen ∧ (a = none → cap = 0) ∧
    ∀ (k : Nat) (u : Value), us[k]? = some u → ∃ g, a = some ⟨g, 0, none⟩ ∧ B ≤ g ∧ g < w.heap.size ∧ w.cell? ⟨g, k, none⟩ = some u ∧ w.frozen? ⟨g, k, none⟩ = false := by
  obtain ⟨h1, h2⟩ := h
  rcases h2 with ⟨rfl, hn⟩ | ⟨g, cap, cur, rfl, hB, hg, hn, hc, hsz, hxs⟩
  · exact ⟨none, 0, by rw [hn], by omega, by decide, fun _ => rfl, fun k u hk => by have := (List.getElem?_eq_some_iff.1 hk).1; omega⟩
  · refine ⟨_, cap, rfl, hn, hc, (fun e => by cases e), fun k u hk => ⟨g, rfl, hB, (Array.getElem?_eq_some_iff.1 hg).1, ?_, by simp [World.frozen?, hg]⟩⟩
    have hkl := (List.getElem?_eq_some_iff.1 hk).1
    rw [← hxs, List.getElem?_take_of_lt (by omega)] at hk
    rw [← hk]
    simp [World.cell?, hg]
theorem OwL.heads {B : Nat} {w : World} {us : List Value} {ss : List (List Cel)} (h : OwL B w us ss) : ∃ hs : List Hd, us = hs.map Hd.val ∧ VwH w hs ss := by
  have key : ∀ (us : List Value) (ss : List (List Cel)), us.length = ss.length → (∀ (j : Nat) (u : Value) (l : List Cel), us[j]? = some u → ss[j]? = some l → OwC B w u l) → ∃ hs : List Hd, us = hs.map Hd.val ∧ VwH w hs ss := by
    intro us
    induction us with
    | nil =>
      intro ss hl _
      cases ss with
      | nil => exact ⟨[], rfl, rfl, fun j h l h1 => by simp at h1⟩
      | cons => simp at hl
    | cons u us ih =>
      intro ss hl ho
      cases ss with
      | nil => simp at hl
      | cons l ss =>
        obtain ⟨a, cap, rfl, hv, -⟩ := (ho 0 u l rfl rfl).view
        obtain ⟨hs, e, e2, e3⟩ := ih ss (by simpa using hl) (fun j x y h1 h2 => ho (j + 1) x y (by simpa using h1) (by simpa using h2))
        refine ⟨⟨a, l.length, cap⟩ :: hs, by rw [e]; rfl, by simp [e2], fun j h t h1 h2 => ?_⟩
        cases j with
        | zero =>
          obtain rfl : (⟨a, l.length, cap⟩ : Hd) = h := by simpa using h1
          obtain rfl : l = t := by simpa using h2
          exact ⟨rfl, hv⟩
        | succ j => exact e3 j h t (by simpa using h1) (by simpa using h2)
  exact key us ss h.1 h.2.1
theorem RowS.view {B : Nat} {w : World} {v : Value} {hs : List Hd} {ss : List (List Cel)} (h : RowS B w v (hs.map Hd.val)) (hh : VwH w hs ss) : ∃ a cap, v = .slice a ss.length cap ∧ VwS w a cap hs ss := by
  obtain ⟨a, cap, e, h1, h2, h3, h4⟩ := h.form
  rw [List.length_map, hh.1] at e h1
  refine ⟨a, cap, e, hh, h1, h2, h3, fun j x hx => ?_⟩
  obtain ⟨g, e2, -, hg, hc, -⟩ := h4 j x.val (by rw [List.getElem?_map, hx]; rfl)
  exact ⟨g, 0, e2, hg, by rw [Nat.zero_add]; exact hc⟩
theorem OwB.view {B : Nat} {w : World} {hv sv : Value} {h : List Cel} {ss : List (List Cel)} (o : OwB B w hv sv h ss) : ∃ a c sa sc hs, hv = .slice a h.length c ∧ sv = .slice sa ss.length sc ∧ Vw w a c h ∧ VwS w sa sc hs ss := by
  obtain ⟨us, h1, h2⟩ := o
  obtain ⟨a, c, e, hv2, -⟩ := (h2.2.1 0 hv h rfl rfl).view
  obtain ⟨hs, e3, hh⟩ := OwL.heads (us := us) (ss := ss) (B := B) (w := w) ⟨by simpa using h2.1, fun j u l k1 k2 => h2.2.1 (j + 1) u l (by simpa using k1) (by simpa using k2), (List.pairwise_cons.1 h2.2.2).2⟩
  rw [e3] at h1
  obtain ⟨sa, sc, e4, hs4⟩ := RowS.view h1 hh
  exact ⟨a, c, sa, sc, hs, e, e4, hv2, hs4⟩
theorem OwB.hand {B : Nat} {w : World} {hv sv : Value} {h : List Cel} {ss : List (List Cel)} (o : OwB B w hv sv h ss) : OwC B w hv h := by
  obtain ⟨us, h1, h2⟩ := o
  exact h2.2.1 0 hv h rfl rfl
theorem dis_snoc {us : List Value} {u : Value} (h : Dis us) (hu : ∀ x ∈ us, ∀ k, x.ownBlock = some k → u.ownBlock ≠ some k) : Dis (us ++ [u]) := by
  unfold Dis at *
  rw [List.pairwise_append]
  exact ⟨h, List.pairwise_singleton _ _, fun x hx y hy => by rw [List.mem_singleton.1 hy]; exact hu x hx⟩
theorem dis_cons {us : List Value} {u : Value} (h : Dis us) (hu : ∀ x ∈ us, ∀ k, u.ownBlock = some k → x.ownBlock ≠ some k) : Dis (u :: us) := List.pairwise_cons.2 ⟨fun x hx => hu x hx, h⟩
theorem get_snoc {α : Type} {l : List α} {x y : α} {j : Nat} (h : (l ++ [x])[j]? = some y) : (j < l.length ∧ l[j]? = some y) ∨ (j = l.length ∧ x = y) := by
  by_cases hj : j < l.length
  · rw [List.getElem?_append_left hj] at h; exact .inl ⟨hj, h⟩
  · rw [List.getElem?_append_right (by omega)] at h
    have : j - l.length = 0 := by
      rcases Nat.eq_zero_or_pos (j - l.length) with h0 | h0
      · exact h0
      · rw [List.getElem?_eq_none (by simp; omega)] at h; cases h
    rw [this] at h
    exact .inr ⟨by omega, by simpa using h⟩
/-- One list more. -/
theorem OwL.snoc {B C : Nat} {w : World} {us : List Value} {ss : List (List Cel)} {u : Value} {l : List Cel} (h : OwL B w us ss) (hu : OwC C w u l) (hC : B ≤ C) (hn : ∀ x ∈ us, ∀ k, x.ownBlock = some k → u.ownBlock ≠ some k) : OwL B w (us ++ [u]) (ss ++ [l]) := by
  refine ⟨by simp [h.1], fun j x y h1 h2 => ?_, dis_snoc h.2.2 hn⟩
  rcases get_snoc h1 with ⟨hj, h1⟩ | ⟨hj, rfl⟩
  · rcases get_snoc h2 with ⟨hj2, h2⟩ | ⟨hj2, rfl⟩
    · exact h.2.1 j x y h1 h2
    · have := h.1; omega
  · rcases get_snoc h2 with ⟨hj2, h2⟩ | ⟨hj2, rfl⟩
    · have := h.1; omega
    · exact hu.mono hC
theorem OwL.low {B : Nat} {w : World} {us : List Value} {ss : List (List Cel)} (h : OwL B w us ss) : ∀ x ∈ us, ∀ k, x.ownBlock = some k → B ≤ k ∧ k < w.heap.size := fun x hx k hk => by
  obtain ⟨j, hj⟩ := List.mem_iff_getElem?.1 hx
  have hlt := (List.getElem?_eq_some_iff.1 hj).1
  have := h.2.1 j x _ hj (List.getElem?_eq_getElem (by rw [← h.1]; exact hlt))
  exact ⟨OwC.lt this k hk, OwC.low this k hk⟩
/-- What turns no block of theirs leaves them. -/
theorem OwL.grown {B : Nat} {w w' : World} {us : List Value} {ss : List (List Cel)} {row : Option Nat} (h : OwL B w us ss) (hg : w.grownBy w' row) (hne : ∀ x ∈ us, ∀ k, x.ownBlock = some k → row ≠ some k) : OwL B w' us ss :=
  ⟨h.1, fun j u l h1 h2 => (h.2.1 j u l h1 h2).grown hg (hne u (List.mem_of_getElem? h1)), h.2.2⟩
theorem RowS.apart {B C : Nat} {w : World} {v : Value} {us us' : List Value} {ss : List (List Cel)} (h : RowS B w v us) (hl : OwL C w us' ss) : ∀ x ∈ us', ∀ k, x.ownBlock = some k → v.ownBlock ≠ some k := fun x hx k hk => by
  obtain ⟨j, hj⟩ := List.mem_iff_getElem?.1 hx
  have hlt := (List.getElem?_eq_some_iff.1 hj).1
  exact own_ne (hl.2.1 j x _ hj (List.getElem?_eq_getElem (by rw [← hl.1]; exact hlt))) h (by decide) k hk
theorem RowS.set {B : Nat} {w : World} {g n cap : Nat} {us : List Value} (h : RowS B w (.slice (some ⟨g, 0, none⟩) n cap) us) (hn : n = us.length) (k : Nat) (u : Value) : RowS B (w.setCell ⟨g, k, none⟩ u) (.slice (some ⟨g, 0, none⟩) n cap) (us.set k u) ∧ w.grownBy (w.setCell ⟨g, k, none⟩ u) (some g) := by
  subst hn
  have := World.ownsRow.stored h k u
  unfold RowS
  rw [List.length_set]; exact this
theorem RowS.start {B : Nat} {w : World} (h : B ≤ w.heap.size) : RowS B (w.alloc (.cells #[] 24)) (.slice (some ⟨w.heap.size, 0, none⟩) 0 0) [] := World.ownsRow_made w #[] 0 h (by decide) rfl
theorem RowS.nothing (B : Nat) (w : World) : RowS B w (.slice none 0 0) [] := World.ownsRow_nil w B _ _
theorem RowS.lit {B : Nat} {w : World} (h : B ≤ w.heap.size) (u : Value) : RowS B (w.alloc (.cells #[u] 24)) (.slice (some ⟨w.heap.size, 0, none⟩) 1 1) [u] := World.ownsRow_lit (base := B) (e := 24) (size := 1) w #[u] 1 h (by decide) rfl
theorem RowS.lt {B : Nat} {w : World} {v : Value} {us : List Value} (h : RowS B w v us) : ∀ k, v.ownBlock = some k → B ≤ k := fun k hk => (World.ownsRow.lt h k hk).1
theorem RowS.grown {B : Nat} {w w' : World} {v : Value} {us : List Value} {row : Option Nat} (h : RowS B w v us) (hg : w.grownBy w' row) (hne : ∀ k, v.ownBlock = some k → row ≠ some k) : RowS B w' v us :=
  row_next h fun g hb hlt => hg.block g hlt (fun e => hne g hb e.symm)
theorem OwB.mk {B : Nat} {w : World} {hv sv : Value} {us : List Value} {h : List Cel} {ss : List (List Cel)} (hu : OwC B w hv h) (hr : RowS B w sv us) (hl : OwL B w us ss) (hne : ∀ x ∈ us, ∀ k, hv.ownBlock = some k → x.ownBlock ≠ some k) : OwB B w hv sv h ss := by
  refine ⟨us, hr, by simp [hl.1], fun j u l h1 h2 => ?_, dis_cons hl.2.2 hne⟩
  cases j with
  | zero =>
    obtain rfl : hv = u := by simpa using h1
    obtain rfl : h = l := by simpa using h2
    exact hu
  | succ j => exact hl.2.1 j u l (by simpa using h1) (by simpa using h2)
theorem OwC.put {B : Nat} {w : World} {v : Value} {l : List Cel} (o : OwC B w v l) {p : Addr} (hp : p.block < B) (x : Value) : OwC B (w.setCell p x) v l := row_next o fun g hb _ => Below.heap_setCell _ _ _ g (fun e => by have := OwC.lt o g hb; omega)
theorem RowS.put {B : Nat} {w : World} {v : Value} {us : List Value} (o : RowS B w v us) {p : Addr} (hp : p.block < B) (x : Value) : RowS B (w.setCell p x) v us := row_next o fun g hb _ => Below.heap_setCell _ _ _ g (fun e => by have := RowS.lt o g hb; omega)
theorem OwL.put {B : Nat} {w : World} {us : List Value} {ss : List (List Cel)} (o : OwL B w us ss) {p : Addr} (hp : p.block < B) (x : Value) : OwL B (w.setCell p x) us ss := ⟨o.1, fun j u l h1 h2 => (o.2.1 j u l h1 h2).put hp x, o.2.2⟩
theorem OwB.put {B : Nat} {w : World} {hv sv : Value} {h : List Cel} {ss : List (List Cel)} (o : OwB B w hv sv h ss) {p : Addr} (hp : p.block < B) (x : Value) : OwB B (w.setCell p x) hv sv h ss := by
  obtain ⟨us, h1, h2⟩ := o
  exact ⟨us, h1.put hp x, h2.put hp x⟩
theorem specBarn_end {h : List Cel} {ss : List (List Cel)} (h3 : ∀ (j : Nat) (l : List Cel), ss[j]? = some l → okT l = true) : okB h ss = (okL h && decide (ss.length ≤ 5)) := by
  unfold okB
  have : ss.all okT = true := by
    rw [List.all_eq_true]; intro l hl
    obtain ⟨j, hj⟩ := List.mem_iff_getElem?.1 hl
    exact h3 j l hj
  rw [this, Bool.and_true]
/-- A store in a block. -/
def Bb (q : Nat) (u v : Value) (w : World) : Prop := w.cell? ⟨q, 0, none⟩ = some u ∧ w.cell? ⟨q, 1, none⟩ = some v ∧ w.frozen? ⟨q, 0, none⟩ = false ∧ w.frozen? ⟨q, 1, none⟩ = false ∧ q < w.heap.size
theorem Bb.of {q T : Nat} {u v : Value} {w : World} (e : w.heap[q]? = some (.cells #[u, v] T (0, 0))) : Bb q u v w :=
  ⟨by simp only [World.cell?, e]; rfl, by simp only [World.cell?, e]; rfl, by simp only [World.frozen?, e]; rfl, by simp only [World.frozen?, e]; rfl, (Array.getElem?_eq_some_iff.1 e).1⟩
theorem Bb.made (u v : Value) (w : World) (T : Nat) : Bb w.heap.size u v (w.alloc (.cells #[u, v] T)) := Bb.of (World.alloc_heap_new w _)
theorem Bb.below {q B : Nat} {u v : Value} {w w' : World} (h : Bb q u v w) (hb : Below B w w') (hq : q < B) : Bb q u v w' := by
  obtain ⟨h0, h1, h2, h3, h4⟩ := h
  have e : w'.heap[q]? = w.heap[q]? := hb.block q hq
  exact ⟨(World.cell?_of_block (w := w) e).trans h0, (World.cell?_of_block (w := w) e).trans h1, (World.frozen?_of_block (w := w) e).trans h2, (World.frozen?_of_block (w := w) e).trans h3, Nat.lt_of_lt_of_le h4 hb.size⟩
theorem Bb.set0 {q : Nat} {u v : Value} {w : World} (h : Bb q u v w) (x : Value) : Bb q x v (w.setCell ⟨q, 0, none⟩ x) := by
  obtain ⟨h0, h1, h2, h3, h4⟩ := h
  exact ⟨World.cell?_setCell_same' _ _ _ (by rw [h0]; rfl), (World.cell?_setCell_other _ _ _ _ (by simp)).trans h1, by rw [World.frozen?_setCell]; exact h2, by rw [World.frozen?_setCell]; exact h3, by rw [World.size_setCell]; exact h4⟩
theorem Bb.set1 {q : Nat} {u v : Value} {w : World} (h : Bb q u v w) (x : Value) : Bb q u x (w.setCell ⟨q, 1, none⟩ x) := by
  obtain ⟨h0, h1, h2, h3, h4⟩ := h
  exact ⟨(World.cell?_setCell_other _ _ _ _ (by simp)).trans h0, World.cell?_setCell_same' _ _ _ (by rw [h1]; rfl), by rw [World.frozen?_setCell]; exact h2, by rw [World.frozen?_setCell]; exact h3, by rw [World.size_setCell]; exact h4⟩
theorem Bb.put {q : Nat} {u v : Value} {w : World} (h : Bb q u v w) {p : Addr} (hp : p.block ≠ q) (x : Value) : Bb q u v (w.setCell p x) := by
  obtain ⟨h0, h1, h2, h3, h4⟩ := h
  have e : (w.setCell p x).heap[q]? = w.heap[q]? := Below.heap_setCell _ _ _ _ (fun e => hp e.symm)
  exact ⟨(World.cell?_of_block (w := w) e).trans h0, (World.cell?_of_block (w := w) e).trans h1, (World.frozen?_of_block (w := w) e).trans h2, (World.frozen?_of_block (w := w) e).trans h3, by rw [World.size_setCell]; exact h4⟩
theorem Bb.next {q : Nat} {u v : Value} {w w' : World} (h : Bb q u v w) (hb : Below w.heap.size w w') : Bb q u v w' := h.below hb h.2.2.2.2
theorem lt_of_cell {w : World} {p : Addr} {v : Value} (h : w.cell? p = some v) : p.block < w.heap.size := by
  unfold World.cell? at h
  cases ho : w.heap[p.block]? with
  | none => simp [ho] at h
  | some o => exact (Array.getElem?_eq_some_iff.1 ho).1
theorem specCellsV {l : List Cel} {x : Bool} (h : okL l = x) (w : World) (a : Option Addr) (cap : Nat) (hv : Vw w a cap l) (hm : ∀ c ∈ l, c.mod) (hlen : l.length ≤ 1048576) :
    Calls Tryz.prog 67 #[.slice a l.length cap] w fun e w' => e = .returned (.bool x) ∧ Below w.heap.size w w' := specCells_is h w a cap _ rfl hv hm (by omega)
end Go.Proofs.YtcloejmakjdgcaaGreat.Cl
namespace Go.Proofs.YtcloejmakjdgcaaGreat.Cl
open Go.RowKit Wd Rp Kp Ra
set_option linter.unusedVariables false
/-- Texts no longer than a machine can hold. -/
def Big (l : List Cel) : Prop := ∀ c ∈ l, c.r.size ≤ 9223372036854775807 ∧ c.b.size ≤ 9223372036854775807
def Small (n : Int) (l : List Cel) : Prop := (l.length : Int) ≤ n ∧ ∀ c ∈ l, (c.r.size : Int) ≤ n ∧ (c.b.size : Int) ≤ n
theorem Small.mono {n m : Int} {l : List Cel} (h : Small n l) (hm : n ≤ m) : Small m l := ⟨Int.le_trans h.1 hm, fun c hc => ⟨Int.le_trans (h.2 c hc).1 hm, Int.le_trans (h.2 c hc).2 hm⟩⟩
def SzS (ss : List (List Cel)) (n : Int) (w : World) (e : Ending) (w' : World) : Prop := ∃ z : Int, e = .returned (.int .i64 z) ∧ Below w.heap.size w w' ∧ (z < 0 ∨ 0 ≤ z ∧ z ≤ n ∧ (ss.length : Int) ≤ n ∧ ∀ l ∈ ss, Small n l)
def SzB (h : List Cel) (ss : List (List Cel)) (n : Int) (w : World) (e : Ending) (w' : World) : Prop := ∃ z : Int, e = .returned (.int .i64 z) ∧ Below w.heap.size w w' ∧ (z < 0 ∨ 0 ≤ z ∧ z ≤ n ∧ Small n h ∧ (ss.length : Int) ≤ n ∧ ∀ l ∈ ss, Small n l)
theorem made_none : ∀ n, (madeCells (Value.slice none 0 0).cells (n * 1)).toList = List.replicate n (.slice none 0 0) := by
  intro n
  rw [madeCells, Array.toList_map, Array.toList_range, Nat.mul_one]
  induction n with
  | zero => rfl
  | succ n ih =>
    rw [List.range_succ, List.map_append, ih, List.replicate_succ']
    simp [show (Value.slice none 0 0).cells = #[Value.slice none 0 0] from rfl, Nat.mod_one]
/-- While the lists are copied: the first k are there. -/
def Copied (w : World) (ss : List (List Cel)) (g N k : Nat) (wr : World) : Prop := ∃ us, us.length = N ∧ RowS w.heap.size wr (.slice (some ⟨g, 0, none⟩) N N) us ∧ OwL (w.heap.size + 1) wr (us.take k) (ss.take k) ∧ Below w.heap.size w wr
theorem take_set {α : Type} {l : List α} {k : Nat} {u : α} (hk : k < l.length) : (l.set k u).take (k + 1) = l.take k ++ [u] := by
  rw [List.take_succ_eq_append_getElem (by rw [List.length_set]; exact hk), List.take_set_of_le (Nat.le_refl _)]
  simp
theorem take_at {α : Type} {l : List α} {k : Nat} {u : α} (hk : l[k]? = some u) : l.take (k + 1) = l.take k ++ [u] := by
  rw [List.take_succ_eq_append_getElem (List.getElem?_eq_some_iff.1 hk).1, (List.getElem?_eq_some_iff.1 hk).2]
end Go.Proofs.YtcloejmakjdgcaaGreat.Cl
namespace Go.Proofs.YtcloejmakjdgcaaGreat.Cl
open Go.RowKit Wd Rp Kp Ra
set_option linter.unusedVariables false
theorem Bb.two (u v u' v' : Value) (w : World) (T T' : Nat) : Bb w.heap.size u v ((w.alloc (.cells #[u, v] T)).alloc (.cells #[u', v'] T')) ∧ Bb (w.heap.size + 1) u' v' ((w.alloc (.cells #[u, v] T)).alloc (.cells #[u', v'] T')) := by
  refine ⟨(Bb.made u v w T).next (bel1 _ _), ?_⟩
  have := Bb.made u' v' (w.alloc (.cells #[u, v] T)) T'
  rwa [World.size_alloc] at this
end Go.Proofs.YtcloejmakjdgcaaGreat.Cl
namespace Go.Proofs.YtcloejmakjdgcaaGreat.Cl
open Go.RowKit Wd Rp Kp Ra
set_option linter.unusedVariables false
/-- Nothing but blocks from lo on, below hi, has turned. -/
structure Ins (lo hi : Nat) (w w' : World) : Prop where
  os : w'.os = w.os
  tape : w'.tape = w.tape
  output : w'.output = w.output
  size : w.heap.size ≤ w'.heap.size
  block : ∀ k, k < w.heap.size → (k < lo ∨ hi ≤ k) → w'.heap[k]? = w.heap[k]?
theorem Ins.refl (lo hi : Nat) (w : World) : Ins lo hi w w := ⟨rfl, rfl, rfl, Nat.le_refl _, fun _ _ _ => rfl⟩
theorem Ins.trans {lo hi : Nat} {x y z : World} (h : Ins lo hi x y) (k : Ins lo hi y z) : Ins lo hi x z :=
  ⟨k.os.trans h.os, k.tape.trans h.tape, k.output.trans h.output, Nat.le_trans h.size k.size, fun i hi' hb => (k.block i (Nat.lt_of_lt_of_le hi' h.size) hb).trans (h.block i hi' hb)⟩
theorem Ins.of_below {lo hi : Nat} {x y : World} (h : Below x.heap.size x y) : Ins lo hi x y := ⟨h.os, h.tape, h.output, h.size, fun i hi' _ => h.block i hi'⟩
theorem Ins.of_grown {lo hi : Nat} {x y : World} {row : Option Nat} (h : x.grownBy y row) (hr : ∀ k, row = some k → lo ≤ k ∧ k < hi) : Ins lo hi x y :=
  ⟨h.os, h.tape, h.output, h.size, fun i hi' hb => h.block i hi' (fun e => by have := hr i e.symm; omega)⟩
theorem Ins.bel {lo hi B : Nat} {a x y : World} (h : Ins lo hi x y) (hb : Below B a x) (hB : B ≤ lo) (hB2 : B ≤ x.heap.size) : Below B a y :=
  hb.trans ⟨h.os, h.tape, h.output, h.size, fun i hi' => h.block i (by omega) (Or.inl (by omega))⟩
/-- A store of a call's own, its blocks below T. -/
def OwT (B T : Nat) (w : World) (hv sv : Value) (h : List Cel) (ss : List (List Cel)) : Prop := ∃ us, RowS B w sv us ∧ OwL B w (hv :: us) (h :: ss) ∧ ∀ x ∈ sv :: hv :: us, ∀ k, x.ownBlock = some k → k < T
theorem OwB.top {B : Nat} {w : World} {hv sv : Value} {h : List Cel} {ss : List (List Cel)} (o : OwB B w hv sv h ss) : OwT B w.heap.size w hv sv h ss := by
  obtain ⟨us, h1, h2⟩ := o
  refine ⟨us, h1, h2, fun x hx k hk => ?_⟩
  rcases List.mem_cons.1 hx with rfl | hx
  · exact (World.ownsRow.lt h1 k hk).2
  · exact (h2.low x hx k hk).2
theorem OwT.own {B T : Nat} {w : World} {hv sv : Value} {h : List Cel} {ss : List (List Cel)} (o : OwT B T w hv sv h ss) : OwB B w hv sv h ss := by
  obtain ⟨us, h1, h2, -⟩ := o
  exact ⟨us, h1, h2⟩
theorem OwT.next {B T : Nat} {w w' : World} {hv sv : Value} {h : List Cel} {ss : List (List Cel)} (o : OwT B T w hv sv h ss) (hb : Below w.heap.size w w') : OwT B T w' hv sv h ss := by
  obtain ⟨us, h1, h2, h3⟩ := o
  exact ⟨us, h1.next hb, h2.next hb, h3⟩
theorem OwT.ins {B T lo hi : Nat} {w w' : World} {hv sv : Value} {h : List Cel} {ss : List (List Cel)} (o : OwT B T w hv sv h ss) (hi' : Ins lo hi w w') (hd : T ≤ lo ∨ hi ≤ B) : OwT B T w' hv sv h ss := by
  obtain ⟨us, h1, h2, h3⟩ := o
  refine ⟨us, row_next h1 fun g hg hlt => hi'.block g hlt ?_, ⟨h2.1, fun j u l k1 k2 => row_next (h2.2.1 j u l k1 k2) fun g hg hlt => hi'.block g hlt ?_, h2.2.2⟩, h3⟩
  · have a1 := h3 sv (by simp) g hg
    have a2 := RowS.lt h1 g hg
    omega
  · have a1 := h3 u (List.mem_cons_of_mem _ (List.mem_of_getElem? k1)) g hg
    have a2 := (h2.low u (List.mem_of_getElem? k1) g hg).1
    omega
theorem OwC.ins {B T lo hi : Nat} {w w' : World} {v : Value} {l : List Cel} (o : OwC B w v l) (hT : ∀ k, v.ownBlock = some k → k < T) (hi' : Ins lo hi w w') (hd : T ≤ lo ∨ hi ≤ B) : OwC B w' v l :=
  row_next o fun g hg hlt => hi'.block g hlt (by have := hT g hg; have := OwC.lt o g hg; omega)
def tott (ss : List (List Cel)) : Nat := (ss.map List.length).sum
theorem tott_cons (l : List Cel) (ss : List (List Cel)) : tott (l :: ss) = l.length + tott ss := by simp [tott]
theorem tott_app (a b : List (List Cel)) : tott (a ++ b) = tott a + tott b := by simp [tott]
theorem tott_take (ss : List (List Cel)) (k : Nat) : tott (ss.take k) ≤ tott ss := by
  conv => rhs; rw [← List.take_append_drop k ss]
  rw [tott_app]; omega
/-- The lists bear the marks from s on. -/
def MkdS (s : Nat) (ss : List (List Cel)) : Prop := ∀ (j : Nat) (l : List Cel), ss[j]? = some l → MkdC (s + 5 * tott (ss.take j)) l
theorem OwL.mark {B : Nat} {w w' : World} {us : List Value} {ms : List (List Cel)} {k : Nat} {u : Value} {m : List Cel} (h : OwL B w us ms) (hk : us[k]? = some u) (hg : w.grownBy w' u.ownBlock) (hm : OwC B w' u m) : OwL B w' us (ms.set k m) := by
  refine ⟨by rw [List.length_set]; exact h.1, fun j x y h1 h2 => ?_, h.2.2⟩
  by_cases e : k = j
  · subst e
    rw [h1] at hk
    obtain rfl := Option.some.inj hk
    rw [List.getElem?_set_self (by rw [← h.1]; exact (List.getElem?_eq_some_iff.1 h1).1)] at h2
    obtain rfl := Option.some.inj h2
    exact hm
  · rw [List.getElem?_set_ne e] at h2
    refine (h.2.1 j x y h1 h2).grown hg (fun q hq e2 => ?_)
    obtain ⟨l1, g1⟩ := List.getElem?_eq_some_iff.1 h1
    obtain ⟨l2, g2⟩ := List.getElem?_eq_some_iff.1 hk
    have hp := List.pairwise_iff_getElem.1 h.2.2
    rcases Nat.lt_or_ge j k with hlt | hge
    · exact hp j k l1 l2 hlt q (by rw [g1]; exact hq) (by rw [g2]; exact e2)
    · exact hp k j l2 l1 (by omega) q (by rw [g2]; exact e2) (by rw [g1]; exact hq)
theorem set_lens {ms ss : List (List Cel)} {k : Nat} {m l : List Cel} (h : ms.map List.length = ss.map List.length) (hl : ss[k]? = some l) (hm : m.length = l.length) : (ms.set k m).map List.length = ss.map List.length := by
  rw [List.map_set, h, hm]
  apply List.ext_getElem?
  intro j
  by_cases e : k = j
  · subst e
    rw [List.getElem?_set_self (by rw [List.length_map]; exact (List.getElem?_eq_some_iff.1 hl).1), List.getElem?_map, hl]; rfl
  · rw [List.getElem?_set_ne e]
theorem lens_tott {ms ss : List (List Cel)} (h : ms.map List.length = ss.map List.length) (k : Nat) : tott (ms.take k) = tott (ss.take k) := by
  unfold tott; rw [List.map_take, List.map_take, h]
theorem lens_len {ms ss : List (List Cel)} (h : ms.map List.length = ss.map List.length) : ms.length = ss.length := by
  have := congrArg List.length h; simpa using this
/-- While the lists are marked: the first k bear their marks. -/
def Marking (B lo hi s : Nat) (w : World) (us : List Value) (ss : List (List Cel)) (k : Nat) (wr : World) : Prop := ∃ ms, ms.map List.length = ss.map List.length ∧ (∀ (j : Nat) (l : List Cel), j < k → ms[j]? = some l → MkdC (s + 5 * tott (ss.take j)) l) ∧ OwL B wr us ms ∧ Ins lo hi w wr ∧ ∀ q, q < w.heap.size → (∀ x ∈ us, x.ownBlock ≠ some q) → wr.heap[q]? = w.heap[q]?
/-- A store that bears the marks from 1 on. -/
def MkdB (h : List Cel) (ss : List (List Cel)) : Prop := MkdC 1 h ∧ MkdS (1 + 5 * h.length) ss
end Go.Proofs.YtcloejmakjdgcaaGreat.Cl
namespace Go.Proofs.YtcloejmakjdgcaaGreat.Cl
open Go.RowKit Wd Rp Kp Ra
set_option linter.unusedVariables false
def SzPostT (l : List Cel) (n : Int) (w : World) (e : Ending) (w' : World) : Prop := ∃ z : Int, e = .returned (.int .i64 z) ∧ Below w.heap.size w w' ∧ (z < 0 ∨ 0 ≤ z ∧ z ≤ n - l.length ∧ (l.length : Int) ≤ n ∧ ∀ c ∈ l, (c.r.size : Int) ≤ n ∧ (c.b.size : Int) ≤ n)
def SzST (ss : List (List Cel)) (n : Int) (w : World) (e : Ending) (w' : World) : Prop := ∃ z : Int, e = .returned (.int .i64 z) ∧ Below w.heap.size w w' ∧ (z < 0 ∨ 0 ≤ z ∧ z ≤ n - ss.length - tott ss ∧ (ss.length : Int) ≤ n ∧ ∀ l ∈ ss, Small n l)
def SzBT (h : List Cel) (ss : List (List Cel)) (n : Int) (w : World) (e : Ending) (w' : World) : Prop := ∃ z : Int, e = .returned (.int .i64 z) ∧ Below w.heap.size w w' ∧ (z < 0 ∨ 0 ≤ z ∧ z ≤ n - h.length - tott ss ∧ Small n h ∧ (ss.length : Int) ≤ n ∧ ∀ l ∈ ss, Small n l)
end Go.Proofs.YtcloejmakjdgcaaGreat.Cl
namespace Go.Proofs.YtcloejmakjdgcaaGreat.Cl
open Go.RowKit Wd Rp Kp Ra
set_option linter.unusedVariables false
set_option maxRecDepth 100000 in
set_option maxHeartbeats 400000 in
theorem specBarn_any (w : World) (a sa : Option Addr) (c sc n sn : Nat) (h : List Cel) (hs : List Hd) (ss : List (List Cel)) (hn : h.length = n) (hsn : ss.length = sn) (hv : Vw w a c h) (hvs : VwS w sa sc hs ss) (hlow : Low h ss) (hmod : Mod h ss) :
    Calls Tryz.prog 39 #[.agg #[.slice a n c, .slice sa sn sc]] w fun e w' => e = .returned (.bool (okB h ss)) ∧ Below w.heap.size w w' := by
  have HV := Lib.hid hv; clear hv
  have HVS := Lib.hid hvs; clear hvs
  have HLOW := Lib.hid hlow; clear hlow
  have HMOD := Lib.hid hmod; clear hmod
  have HN := Lib.hid hn; clear hn
  have HSN := Lib.hid hsn; clear hsn
  have hn1 : n ≤ 1048576 := by rw [← HN.out]; exact HLOW.out.1
  have hsn1 : sn ≤ 1048576 := by rw [← HSN.out]; exact HLOW.out.2.1
  have H0 := Lib.hid (bel1 w (.cells #[.slice a n c, .slice sa sn sc] 27))
  have F0 := Lib.hid (Bb.made (.slice a n c) (.slice sa sn sc) w 27)
  go_enter Tryz.func39, Tryz.ntmps39
  go_wp2_with fail
  go_loopw [3] (fun i wr => ∃ k : Nat, k ≤ sn ∧ i = .int .i64 k ∧ (∀ (j : Nat) (l : List Cel), j < k → ss[j]? = some l → okT l = true) ∧ Below w.heap.size w wr ∧ Bb w.heap.size (.slice a n c) (.slice sa sn sc) wr) (fun i _ => sn - intV i)
  case atStart => exact ⟨0, Nat.zero_le _, rfl, (fun j l hj => by omega), H0.out, F0.out⟩
  case round =>
    clear H0 F0
    obtain ⟨k, hk, rfl, hall, hbel, hfr⟩ := hrel
    have HALL := Lib.hid hall; clear hall
    have HB := Lib.hid hbel; clear hbel
    have HF := Lib.hid hfr
    obtain ⟨x0, x1, -, -, -⟩ := hfr
    by_cases hlt : k < sn
    · obtain ⟨l, hl⟩ : ∃ l, ss[k]? = some l := ⟨ss[k]'(by rw [HSN.out]; exact hlt), List.getElem?_eq_getElem _⟩
      obtain ⟨x, g, o, -, rfl, hg, hc, hvl⟩ := HVS.out.at hl
      have hcx : wr.cell? ⟨g, o + k, none⟩ = some (.slice x.a l.length x.c) := (HB.out.cell (p := ⟨g, o + k, none⟩) hg).trans hc
      have HVL := Lib.hid (hvl.below HB.out); clear hvl hc hg
      have hl2 : l.length ≤ 1048576 := HLOW.out.2.2 l (List.mem_of_getElem? hl)
      have HM := Lib.hid (HMOD.out.2 l (List.mem_of_getElem? hl))
      have HL := Lib.hid hl; clear hl
      generalize hln : l.length = ln at *
      have HLN := Lib.hid hln; clear hln
      have k1 : (k : Int) < (sn : Int) := by omega
      cases hok : okL l
      · have HE := Lib.hid (okB_bad (h := h) (List.mem_of_getElem? HL.out) (show okT l = false by unfold okT; rw [hok]; simp))
        have HOK := Lib.hid hok; clear hok
        go_wp2_with fail
        refine (specCells_is HOK.out _ x.a x.c _ HLN.out HVL.out HM.out (by omega)).mono ?_; rintro e w1 ⟨rfl, b1⟩
        have B1 := Lib.hid (bel_tr HB.out b1 (Nat.le_refl _))
        obtain ⟨x2, x3, -, -, -⟩ := HF.out.next b1; clear b1
        go_wp2_with fail
        go_ret
        exact ⟨by rw [HE.out]; rfl, B1.out⟩
      · have HOK := Lib.hid hok
        by_cases hz : ln = 0
        · have HE := Lib.hid (okB_bad (h := h) (List.mem_of_getElem? HL.out) (show okT l = false by rw [List.length_eq_zero_iff.1 (HLN.out.trans hz)]; rfl))
          subst hz
          clear hok
          go_wp2_with fail
          refine (specCells_is HOK.out _ x.a x.c _ HLN.out HVL.out HM.out (by omega)).mono ?_; rintro e w1 ⟨rfl, b1⟩
          have B1 := Lib.hid (bel_tr HB.out b1 (Nat.le_refl _))
          obtain ⟨x2, x3, -, -, -⟩ := HF.out.next b1
          have hcx1 : w1.cell? ⟨g, o + k, none⟩ = some (.slice x.a 0 x.c) := by
            exact (World.cell?_of_block (w := wr) (b1.block g (lt_of_cell hcx))).trans hcx
          clear b1
          go_wp2_with fail
          go_ret
          exact ⟨by rw [HE.out]; rfl, B1.out⟩
        · have HE := Lib.hid (show okT l = true by unfold okT; rw [hok]; cases l with | nil => exact absurd HLN.out.symm hz | cons _ _ => rfl)
          have hz1 : ¬ ((ln : Int) = 0) := by omega
          have hz2 : ((ln : Int) == 0) = false := by simpa using hz
          clear hok
          go_wp2_with fail
          refine (specCells_is HOK.out _ x.a x.c _ HLN.out HVL.out HM.out (by omega)).mono ?_; rintro e w1 ⟨rfl, b1⟩
          have B1 := Lib.hid (bel_tr HB.out b1 (Nat.le_refl _))
          have F1 := Lib.hid (HF.out.next b1)
          obtain ⟨x2, x3, -, -, -⟩ := id F1.out
          have hcx1 : w1.cell? ⟨g, o + k, none⟩ = some (.slice x.a ln x.c) := (World.cell?_of_block (w := wr) (b1.block g (lt_of_cell hcx))).trans hcx
          clear b1
          go_wp2_with fail
          go_roundw
          case rel =>
            refine ⟨k + 1, by omega, by go_num, fun j t hj ht => ?_, B1.out, F1.out⟩
            by_cases ej : j = k
            · subst ej; rw [HL.out] at ht; cases ht; exact HE.out
            · exact HALL.out j t (by omega) ht
          case measure => simp [intV]; omega
    · have hkk : k = sn := by omega
      have HE := Lib.hid (specBarn_end (h := h) (ss := ss) (fun j l hl => HALL.out j l (by have := (List.getElem?_eq_some_iff.1 hl).1; rw [HSN.out] at this; omega) hl))
      rw [HSN.out] at HE
      subst hkk
      have HVH := Lib.hid (HV.out.below HB.out)
      cases hok : okL h
      · rw [hok] at HE
        have HOK := Lib.hid hok; clear hok
        go_wp2_with fail
        refine (specCells_is HOK.out _ a c n HN.out HVH.out HMOD.out.1 (by omega)).mono ?_; rintro e w1 ⟨rfl, b1⟩
        have B1 := Lib.hid (bel_tr HB.out b1 (Nat.le_refl _)); clear b1
        go_wp2_with fail
        go_ret
        exact ⟨by rw [HE.out]; rfl, B1.out⟩
      · rw [hok] at HE
        have HOK := Lib.hid hok; clear hok
        by_cases h5 : k ≤ 5
        all_goals
          go_wp2_with fail
          refine (specCells_is HOK.out _ a c n HN.out HVH.out HMOD.out.1 (by omega)).mono ?_; rintro e w1 ⟨rfl, b1⟩
          have B1 := Lib.hid (bel_tr HB.out b1 (Nat.le_refl _))
          obtain ⟨x2, x3, -, -, -⟩ := HF.out.next b1; clear b1
          go_wp2_with fail
          go_ret
          exact ⟨by rw [HE.out]; first | (simp [h5]; done) | (simp [h5]; omega), B1.out⟩
theorem barnS_is {h : List Cel} {ss : List (List Cel)} {x : Bool} (e : okB h ss = x) (w : World) (a sa : Option Addr) (c sc n sn : Nat) (hs : List Hd) (hn : h.length = n) (hsn : ss.length = sn) (hv : Vw w a c h) (hvs : VwS w sa sc hs ss) (hlow : Low h ss) (hmod : Mod h ss) :
    Calls Tryz.prog 39 #[.agg #[.slice a n c, .slice sa sn sc]] w fun e w' => e = .returned (.bool x) ∧ Below w.heap.size w w' := by
  rw [← e]; exact specBarn_any w a sa c sc n sn h hs ss hn hsn hv hvs hlow hmod
end Go.Proofs.YtcloejmakjdgcaaGreat.Cl
namespace Go.Proofs.YtcloejmakjdgcaaGreat.Cl
open Go.RowKit Wd Rp Kp Ra Go.Shelf
attribute [local go_sem] Oper.semAt_some
set_option linter.unusedVariables false
def BarnPost (h : List Cel) (ss : List (List Cel)) (w : World) (e : Ending) (w' : World) : Prop := e = .returned (.bool (okB h ss)) ∧ Below w.heap.size w w'
/-- The two blocks of BarnOk's own: the store, the result. -/
def BarnFr (q : Nat) (u v : Value) (w : World) : Prop := w.cell? ⟨q, 0, none⟩ = some u ∧ w.cell? ⟨q, 1, none⟩ = some v ∧ w.cell? ⟨q + 1, 0, none⟩ = some (.bool false) ∧ w.frozen? ⟨q + 1, 0, none⟩ = false ∧ q + 1 < w.heap.size
theorem BarnFr.made (u v : Value) (w : World) : BarnFr w.heap.size u v ((w.alloc (.cells #[u, v] 27)).alloc (.cells #[.bool false] 4)) := by
  have e1 : ((w.alloc (.cells #[u, v] 27)).alloc (.cells #[.bool false] 4)).heap[w.heap.size]? = some (.cells #[u, v] 27) := (Below.heap_alloc _ _ _ (by simp)).trans (World.alloc_heap_new w _)
  have e2 : ((w.alloc (.cells #[u, v] 27)).alloc (.cells #[.bool false] 4)).heap[w.heap.size + 1]? = some (.cells #[.bool false] 4) := by
    have := World.alloc_heap_new (w.alloc (.cells #[u, v] 27)) (.cells #[.bool false] 4)
    rwa [World.size_alloc] at this
  refine ⟨?_, ?_, ?_, ?_, by simp⟩
  · simp only [World.cell?, e1]; rfl
  · simp only [World.cell?, e1]; rfl
  · simp only [World.cell?, e2]; rfl
  · simp only [World.frozen?, e2]; rfl
theorem BarnFr.below {q B : Nat} {u v : Value} {w w' : World} (h : BarnFr q u v w) (hb : Below B w w') (hq : q + 1 < B) : BarnFr q u v w' := by
  obtain ⟨h0, h1, h2, h3, h4⟩ := h
  have e : w'.heap[q]? = w.heap[q]? := hb.block q (by omega)
  have e' : w'.heap[q + 1]? = w.heap[q + 1]? := hb.block (q + 1) hq
  exact ⟨(World.cell?_of_block (w := w) e).trans h0, (World.cell?_of_block (w := w) e).trans h1, (World.cell?_of_block (w := w) e').trans h2, (World.frozen?_of_block (w := w) e').trans h3, Nat.lt_of_lt_of_le h4 hb.size⟩
theorem BarnFr.next {q : Nat} {u v : Value} {w w' : World} (h : BarnFr q u v w) (hb : Below w.heap.size w w') : BarnFr q u v w' := h.below hb h.2.2.2.2
theorem BarnFr.put {q : Nat} {u v : Value} {w : World} (h : BarnFr q u v w) : BarnFr q u v (w.setCell ⟨q + 1, 0, none⟩ (.bool false)) := by
  obtain ⟨h0, h1, h2, h3, h4⟩ := h
  have e : (w.setCell ⟨q + 1, 0, none⟩ (.bool false)).heap[q]? = w.heap[q]? := Below.heap_setCell _ _ _ _ (by show q ≠ q + 1; omega)
  exact ⟨(World.cell?_of_block (w := w) e).trans h0, (World.cell?_of_block (w := w) e).trans h1, World.cell?_setCell_same' _ _ _ (by rw [h2]; rfl), by rw [World.frozen?_setCell]; exact h3, by rw [World.size_setCell]; exact h4⟩
set_option maxRecDepth 100000 in
set_option maxHeartbeats 4000000 in
theorem implBarn_any (w : World) (a sa : Option Addr) (c sc n sn : Nat) (h : List Cel) (hs : List Hd) (ss : List (List Cel)) (hn : h.length = n) (hsn : ss.length = sn) (hv : Vw w a c h) (hvs : VwS w sa sc hs ss) (hlow : Low h ss) :
    Calls Tryz.prog 20 #[.agg #[.slice a n c, .slice sa sn sc]] w (BarnPost h ss w) := by
  have HV := Lib.hid hv; clear hv
  have HVS := Lib.hid hvs; clear hvs
  have HLOW := Lib.hid hlow; clear hlow
  have HN := Lib.hid hn; clear hn
  have HSN := Lib.hid hsn; clear hsn
  have hn1 : n ≤ 1048576 := by rw [← HN.out]; exact HLOW.out.1
  have hsn1 : sn ≤ 1048576 := by rw [← HSN.out]; exact HLOW.out.2.1
  by_cases h5 : 5 < sn
  · have HP := Lib.hid (okB_many (h := h) (ss := ss) (by rw [HSN.out]; exact h5))
    refine (callsIn_wide (n := 9)).1 (callsIn_of_wp_marks Tryz.func20 rfl trivial ?_ rfl)
    simp only [Tryz.ntmps20, List.size_toArray, List.length_cons, List.length_nil, Nat.reduceAdd, Nat.reduceSub, Array.replicate_succ, Array.replicate_zero, List.push_toArray, List.append_toArray, List.nil_append, List.cons_append]
    gi_wp2_with fail
    refine ⟨trivial, ?_⟩
    gi_wp2_with fail
    refine ⟨.bool false, by simp [results, Tryz.f20, go_sem], by rw [HP.out], ?_⟩
    exact bel2 w _ _
  · have H0 := Lib.hid (bel2 w (.cells #[.slice a n c, .slice sa sn sc] 27) (.cells #[.bool false] 4))
    have H1 := Lib.hid (show (((w.alloc (.cells #[.slice a n c, .slice sa sn sc] 27)).alloc (.cells #[.bool false] 4)).heap.size = w.heap.size + 2) by simp)
    have hq : ¬ (5 : Int) < (sn : Int) := by omega
    cases hk : okL h
    · have HP := Lib.hid (okB_hand (h := h) (ss := ss) hk)
      have HK := Lib.hid hk; clear hk
      refine (callsIn_wide (n := 9)).1 (callsIn_of_wp_marks Tryz.func20 rfl trivial ?_ rfl)
      simp only [Tryz.ntmps20, List.size_toArray, List.length_cons, List.length_nil, Nat.reduceAdd, Nat.reduceSub, Array.replicate_succ, Array.replicate_zero, List.push_toArray, List.append_toArray, List.nil_append, List.cons_append]
      gi_wp2_with fail
      refine ⟨trivial, (callsIn_wide.2 (implCells_is HK.out _ a c n HN.out (HV.out.below H0.out) (by omega))).mono ?_⟩; rintro e w1 ⟨rfl, b1⟩
      have f1 := (BarnFr.made (.slice a n c) (.slice sa sn sc) w).next b1
      have B1 := Lib.hid (bel_tr H0.out b1 (Nat.le_refl _)); clear b1
      obtain ⟨x0, x1, x2, x3, -⟩ := f1
      gi_wp2_with fail
      refine ⟨.bool false, by simp [results, Tryz.f20, go_sem, x2], by rw [HP.out], ?_⟩
      exact (B1.out.setCell (by show w.heap.size ≤ w.heap.size + 1; omega) _)
    · have HK := Lib.hid hk; clear hk
      refine (callsIn_wide (n := 9)).1 (callsIn_of_wp_marks Tryz.func20 rfl trivial ?_ rfl)
      simp only [Tryz.ntmps20, List.size_toArray, List.length_cons, List.length_nil, Nat.reduceAdd, Nat.reduceSub, Array.replicate_succ, Array.replicate_zero, List.push_toArray, List.append_toArray, List.nil_append, List.cons_append]
      gi_wp2_with fail
      refine ⟨trivial, (callsIn_wide.2 (implCells_is HK.out _ a c n HN.out (HV.out.below H0.out) (by omega))).mono ?_⟩; rintro e w1 ⟨rfl, b1⟩
      have f1 := (BarnFr.made (.slice a n c) (.slice sa sn sc) w).next b1
      have B1 := Lib.hid (bel_tr H0.out b1 (Nat.le_refl _)); clear b1
      have F1 := Lib.hid f1
      obtain ⟨x0, x1, x2, x3, x4⟩ := f1
      gi_wp2_with fail
      refine ⟨trivial, (callsIn_wide.2 (shelvesOf_any (fun _ => False) w.heap.size (.slice a n c) ⟨_, _, _, rfl⟩ sa sn sc hs (HVS.out.1.1.trans HSN.out) (by omega) w1 (HVS.out.2.2.2.2.below B1.out) B1.out.size (fun _ _ _ _ h => h))).mono ?_⟩
      rintro e w2 ⟨gf, lb, rfl, hen, hha, b2⟩
      have F2 := Lib.hid (F1.out.next b2)
      have B2 := Lib.hid (bel_tr B1.out b2 (Nat.le_refl _)); clear b2 x0 x1 x2 x3
      have x5 := F2.out.2.2.2.2
      gi_wp2_with fail
      refine loop_hands1 16 3 rfl hen hha (Below.refl _ _) (fun _ h => h.elim)
        (fun s W => s.2 = none ∧ w2.heap.size ≤ W.heap.size ∧ BarnFr w.heap.size (.slice a n c) (.slice sa sn sc) W ∧ (∀ (j : Nat) (l : List Cel), j < s.1.length → ss[j]? = some l → okT l = true) ∧ Below w.heap.size w W)
        (fun k pre W => k = .ret ∧ w2.heap.size ≤ W.heap.size ∧ BarnFr w.heap.size (.slice a n c) (.slice sa sn sc) W ∧ (∃ l ∈ ss, okT l = false) ∧ Below w.heap.size w W) ?_ ?_ ?_ ?_ ?_ ?_ ?_
      · exact own_of (fun _ _ h => h.2.1) fun s W W' ⟨h0, h1, h2, h3, h4⟩ hb => ⟨h0, Nat.le_trans h1 hb.size, h2.below hb x5, h3, h4.trans (hb.mono B2.out.size)⟩
      · exact fun k => own_of (fun _ _ h => h.2.1) fun s W W' ⟨h0, h1, h2, h3, h4⟩ hb => ⟨h0, Nat.le_trans h1 hb.size, h2.below hb x5, h3, h4.trans (hb.mono B2.out.size)⟩
      · exact ⟨rfl, Nat.le_refl _, F2.out, fun j l hj => by simp at hj, B2.out⟩
      · intro l m x W K hK
        simp only [List.setIfInBounds_toArray, List.set_cons_zero, List.set_cons_succ] at hK ⊢
        gi_wp2
        exact hK
      · rintro l m pre x gg W hpre hsz ⟨hg0, hs1, hfr, hall, hbel⟩
        replace hg0 : gg = none := hg0
        subst hg0
        replace hall : ∀ (j : Nat) (l : List Cel), j < pre.length → ss[j]? = some l → okT l = true := hall
        simp only [List.setIfInBounds_toArray, List.set_cons_zero, List.set_cons_succ]
        obtain ⟨y, hy, rfl⟩ := pre_at hpre
        obtain ⟨t, ht⟩ : ∃ t, ss[pre.length]? = some t := ⟨ss[pre.length]'(by rw [← HVS.out.1.1]; exact (List.getElem?_eq_some_iff.1 hy).1), List.getElem?_eq_getElem _⟩
        obtain ⟨hyn, hyv⟩ := HVS.out.1.2 _ _ _ hy ht
        have HT := Lib.hid ht
        have hyl : y.n ≤ 1048576 := by rw [hyn]; exact HLOW.out.2.2 t (List.mem_of_getElem? ht)
        have HYV := Lib.hid (hyv.below hbel); clear hyv
        have HYN := Lib.hid hyn; clear hyn ht hy
        have HALL := Lib.hid hall; clear hall
        have HBL := Lib.hid hbel; clear hbel
        have HFR := Lib.hid hfr
        obtain ⟨x0, x1, x2, x3, x4⟩ := hfr
        by_cases hz : y.n = 0
        · have HE := Lib.hid (show okT t = false by rw [List.length_eq_zero_iff.1 (HYN.out.symm.trans hz)]; rfl)
          rw [hz]
          clear hz
          gi_wp2_with fail
          refine ⟨trivial, ?_⟩
          gi_wp2_with fail
          exact ⟨(KeepsOthers.setCell _ _ _).from _, rfl, by rw [World.size_setCell]; exact hs1, HFR.out.put, ⟨t, List.mem_of_getElem? HT.out, HE.out⟩, HBL.out.setCell (by show w.heap.size ≤ w.heap.size + 1; omega) _⟩
        · have hz1 : ¬ (y.n : Int) = 0 := by omega
          have hz2 : ((y.n : Int) == 0) = false := by simpa using hz
          cases hkt : okL t
          · have HE := Lib.hid (show okT t = false by unfold okT; rw [hkt]; simp)
            have HKT := Lib.hid hkt; clear hkt
            gi_wp2_with fail
            refine ⟨trivial, fun h => (by cases h), (CallsIn.inRound l (callsIn_wide.2 (implCells_is HKT.out _ y.a y.c y.n HYN.out.symm HYV.out (by omega)))).mono ?_⟩; rintro e w3 ⟨rfl, b3⟩
            have F3 := Lib.hid (HFR.out.next b3)
            have B3 := Lib.hid b3; clear b3 x0 x1 x2 x3
            obtain ⟨x0, x1, x2, x3, x6⟩ := id F3.out
            gi_wp2_with fail
            exact ⟨(Below.keeps B3.out).trans ((KeepsOthers.setCell _ _ _).from _), rfl, by rw [World.size_setCell]; exact Nat.le_trans hs1 B3.out.size, F3.out.put, ⟨t, List.mem_of_getElem? HT.out, HE.out⟩, (bel_tr HBL.out B3.out (Nat.le_refl _)).setCell (by show w.heap.size ≤ w.heap.size + 1; omega) _⟩
          · have HE := Lib.hid (show okT t = true by unfold okT; rw [hkt]; cases t with | nil => exact absurd (HYN.out.trans rfl) hz | cons _ _ => rfl)
            have HKT := Lib.hid hkt; clear hkt
            gi_wp2_with fail
            refine ⟨trivial, fun h => (by cases h), (CallsIn.inRound l (callsIn_wide.2 (implCells_is HKT.out _ y.a y.c y.n HYN.out.symm HYV.out (by omega)))).mono ?_⟩; rintro e w3 ⟨rfl, b3⟩
            have F3 := Lib.hid (HFR.out.next b3)
            have B3 := Lib.hid b3; clear b3 x0 x1 x2 x3
            gi_wp2_with fail
            refine ⟨Below.keeps B3.out, Kept.of_below B3.out, none, Or.inl rfl, rfl, Nat.le_trans hs1 B3.out.size, F3.out, fun j l' hj hl' => ?_, bel_tr HBL.out B3.out (Nat.le_refl _)⟩
            replace hj : j < (pre ++ [Value.slice y.a y.n y.c]).length := hj
            rw [List.length_append] at hj
            by_cases ej : j = pre.length
            · subst ej; rw [HT.out] at hl'; cases hl'; exact HE.out
            · exact HALL.out j l' (by simp at hj; omega) hl'
      · rintro D gg W hD ⟨-, hs1, hfr, hall, hbel⟩ hK
        replace hall : ∀ (j : Nat) (l : List Cel), j < (hs.map Hd.val).length → ss[j]? = some l → okT l = true := hall
        have HFR := Lib.hid hfr
        have HE := Lib.hid (okB_all HK.out (by rw [HSN.out]; omega) (fun j l hl => hall j l (by rw [List.length_map, HVS.out.1.1]; exact (List.getElem?_eq_some_iff.1 hl).1) hl)); clear hall
        obtain ⟨x0, x1, x2, x3, x4⟩ := hfr
        have HB := Lib.hid hbel; clear hbel
        gi_wp2_with fail
        refine ⟨by simp, .inl ⟨_, _, rfl, run_takeDeferred ((KeepsOthers.setCell _ _ _).same D _ hK rfl), ?_⟩⟩
        have x7 : ((W.setCell ⟨w.heap.size + 1, 0, none⟩ (.bool true)).putObj D (.deferred none)).cell? ⟨w.heap.size + 1, 0, none⟩ = some (.bool true) :=
          (World.cell?_of_block (World.putObj_heap_other (show w.heap.size + 1 ≠ D by omega))).trans (World.cell?_setCell_same' _ _ _ (by rw [x2]; rfl))
        refine ⟨.bool true, by simp [results, Tryz.f20, go_sem, x7], by rw [HE.out], ?_⟩
        exact (HB.out.setCell (by show w.heap.size ≤ w.heap.size + 1; omega) _).trans (put_below (by omega) (by rw [World.size_setCell]; exact HB.out.size))
      · rintro D k pre W hD hpre ⟨rfl, hs1, hfr, ⟨t, ht, hbad⟩, hbel⟩ hK
        have HE := Lib.hid (okB_bad (h := h) ht hbad)
        obtain ⟨x0, x1, x2, x3, x4⟩ := hfr
        gi_wp2_with fail
        refine ⟨by simp, .inl ⟨_, _, rfl, run_takeDeferred hK, ?_⟩⟩
        have x7 : (W.putObj D (.deferred none)).cell? ⟨w.heap.size + 1, 0, none⟩ = some (.bool false) := (World.cell?_of_block (World.putObj_heap_other (show w.heap.size + 1 ≠ D by omega))).trans x2
        refine ⟨.bool false, by simp [results, Tryz.f20, go_sem, x7], by rw [HE.out], ?_⟩
        exact hbel.trans (put_below (by omega) hbel.size)
end Go.Proofs.YtcloejmakjdgcaaGreat.Cl
namespace Go.Proofs.YtcloejmakjdgcaaGreat.Cl
open Go.RowKit Wd Rp Kp Ra
set_option linter.unusedVariables false
theorem specBarnO {B : Nat} {hv sv : Value} {h : List Cel} {ss : List (List Cel)} (w : World) (o : OwB B w hv sv h ss) (hlow : Low h ss) (hmod : Mod h ss) :
    Calls Tryz.prog 39 #[.agg #[hv, sv]] w fun e w' => e = .returned (.bool (okB h ss)) ∧ Below w.heap.size w w' := by
  obtain ⟨a, c, sa, sc, hs, rfl, rfl, h1, h2⟩ := o.view
  exact specBarn_any w a sa c sc _ _ h hs ss rfl rfl h1 h2 hlow hmod
theorem implBarnO {B : Nat} {hv sv : Value} {h : List Cel} {ss : List (List Cel)} (w : World) (o : OwB B w hv sv h ss) (hlow : Low h ss) :
    Calls Tryz.prog 20 #[.agg #[hv, sv]] w fun e w' => e = .returned (.bool (okB h ss)) ∧ Below w.heap.size w w' := by
  obtain ⟨a, c, sa, sc, hs, rfl, rfl, h1, h2⟩ := o.view
  exact implBarn_any w a sa c sc _ _ h hs ss rfl rfl h1 h2 hlow
theorem barnI_is {h : List Cel} {ss : List (List Cel)} {x : Bool} (e : okB h ss = x) (w : World) (a sa : Option Addr) (c sc n sn : Nat) (hs : List Hd) (hn : h.length = n) (hsn : ss.length = sn) (hv : Vw w a c h) (hvs : VwS w sa sc hs ss) (hlow : Low h ss) :
    Calls Tryz.prog 20 #[.agg #[.slice a n c, .slice sa sn sc]] w fun e w' => e = .returned (.bool x) ∧ Below w.heap.size w w' := by
  rw [← e]; exact implBarn_any w a sa c sc n sn h hs ss hn hsn hv hvs hlow
end Go.Proofs.YtcloejmakjdgcaaGreat.Cl
namespace Go.Proofs.YtcloejmakjdgcaaGreat.Cl
open Go.RowKit Wd Rp Kp Ra
set_option linter.unusedVariables false
theorem okB_tot {h : List Cel} {ss : List (List Cel)} (e : okB h ss = true) : h.length ≤ 200 ∧ tott ss ≤ 1000 := by
  obtain ⟨h1, h2, h3⟩ := okB_iff.1 e
  refine ⟨(okL_iff.1 h1).2, ?_⟩
  have key : ∀ ss : List (List Cel), (∀ l ∈ ss, l ≠ [] ∧ okL l = true) → tott ss ≤ 200 * ss.length := by
    intro ss
    induction ss with
    | nil => intro _; simp [tott]
    | cons l ss ih =>
      intro h
      have h1 := ih (fun l hl => h l (List.mem_cons_of_mem _ hl))
      have h2 := (okL_iff.1 (h l List.mem_cons_self).2).2
      rw [tott_cons, List.length_cons]; omega
  have := key ss h3
  omega
theorem run_append_row {w : World} {base : Nat} {v u : Value} {us : List Value} (ty : TypeId) (hown : RowS base w v us) (hu : ∃ a n c, u = .slice a n c) (hlen : us.length ≤ 1000000) (hbase : base ≤ w.heap.size) (ad : Addr) (hc : w.cell? ad = some u) :
    ∃ v' w', (Builtin.append_ #[25, 25] ty #[v, .slice (some ad) 1 1]).run Tryz.prog w = .ok v' w' ∧ RowS base w' v' (us ++ [u]) ∧ w.grownBy w' v.ownBlock ∧ (v'.ownBlock = v.ownBlock ∨ v'.ownBlock = some w.heap.size) := by
  obtain ⟨i0, hi, hz0, hz1, hz2⟩ := info_parts infoS
  obtain ⟨a, n, c, rfl⟩ := hu
  obtain ⟨v', w', hr, h2, h3, h4, h5⟩ := run_append_own_at (P := Tryz.prog) w base 25 ty 24 i0 _ 1 24 Tryz.underlying25 hi hz0 hz1 hz2 rfl (by decide) v us.length us hown
    ad 1 1 [.slice a n c] rfl (fun j u hj => by
      cases j with
      | zero =>
        obtain rfl : Value.slice a n c = u := by simpa using hj
        simpa [Addr.add] using hc
      | succ j => simp at hj) (fun u hu => by rw [List.mem_singleton.1 hu]; rfl) (by unfold maxLen; omega) (by omega) hbase
  refine ⟨v', w', hr, ?_, h3, h5⟩
  unfold RowS
  rw [List.length_append]; exact h2
theorem appendS_in {F : Fence} {n : Nat} {ops : Array Oper} {rest : List Oper} {o : Oper} {a : Act} {Q : Exit → Act → World → Prop} (w : World) (hg : o.guard = none) (s x : Operand) (hop : o.op = Op.call { callee := Callee.builtin Builtin.append, args := #[s, x], argTypes := #[25, 25] })
    {base : Nat} {v u : Value} {us : List Value} {ad : Addr} (hs : a.eval s = v) (hx : a.eval x = .slice (some ad) 1 1) (hown : RowS base w v us) (hu : ∃ a n c, u = .slice a n c) (hlen : us.length ≤ 1000000) (hbase : base ≤ w.heap.size) (hc : w.cell? ad = some u)
    (hK : ∀ v' w', RowS base w' v' (us ++ [u]) → w.grownBy w' v.ownBlock → (v'.ownBlock = v.ownBlock ∨ v'.ownBlock = some w.heap.size) → wpListIn F n Tryz.prog ops Q rest (a.put o.dst v') w') :
    wpListIn F n Tryz.prog ops Q (o :: rest) a w := by
  refine wpListIn_plain hg fun K hK' => ?_
  obtain ⟨v', w', hrun, r1, r2, r3⟩ := run_append_row o.type hown hu hlen hbase ad hc
  unfold Oper.wpIn
  refine ⟨?_, ?_⟩
  · simp [Oper.about, hop, resolve, Target.leads, Sem.run_pure]
  · rw [Oper.semAt_plain F _ _ (by rw [hop]; intro c hc'; cases hc')]
    simp [execOp, hop, resolve, invoke, builtin, hs, hx, hrun, Result.andThen]
    exact hK' _ _ (hK v' w' r1 r2 r3)
theorem cells_of_row {B : Nat} {w : World} {v : Value} {us : List Value} (h : RowS B w v us) {k : Nat} (hk : v.ownBlock = some k) : ∀ o, w.heap[k]? = some o → o.isCells = true := by
  obtain ⟨-, h2⟩ := h
  rcases h2 with ⟨rfl, -⟩ | ⟨g, cap, cur, rfl, -, hg, -⟩
  · simp [Value.ownBlock] at hk
  · obtain rfl : g = k := by simpa [Value.ownBlock] using hk
    intro o ho
    rw [hg] at ho; cases ho; rfl
theorem cell_lit (w : World) (u : Value) (T : Nat) : (w.alloc (.cells #[u] T)).cell? ⟨w.heap.size, 0, none⟩ = some u := (Boxed.new w T u).cell
theorem mod_of {l : List Cel} (h : Small 1048576 l) : ∀ c ∈ l, c.mod := fun c hc => by
  have := h.2 c hc
  exact ⟨by omega, by omega⟩
theorem low_of {h : List Cel} {ss : List (List Cel)} (h1 : Small 1048576 h) (h2 : (ss.length : Int) ≤ 1048576) (h3 : ∀ l ∈ ss, Small 1048576 l) : Low h ss ∧ Mod h ss :=
  ⟨⟨by have := h1.1; omega, by omega, fun l hl => by have := (h3 l hl).1; omega⟩, mod_of h1, fun l hl => mod_of (h3 l hl)⟩
theorem Bb.ins {q lo hi : Nat} {u v : Value} {w w' : World} (h : Bb q u v w) (i : Ins lo hi w w') (hd : q < lo ∨ hi ≤ q) : Bb q u v w' := by
  obtain ⟨h0, h1, h2, h3, h4⟩ := h
  have e := i.block q h4 hd
  exact ⟨(World.cell?_of_block (w := w) e).trans h0, (World.cell?_of_block (w := w) e).trans h1, (World.frozen?_of_block (w := w) e).trans h2, (World.frozen?_of_block (w := w) e).trans h3, Nat.lt_of_lt_of_le h4 i.size⟩
end Go.Proofs.YtcloejmakjdgcaaGreat.Cl
