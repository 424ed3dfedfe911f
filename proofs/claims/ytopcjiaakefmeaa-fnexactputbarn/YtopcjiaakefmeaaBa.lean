/-
  Stores (barns): a slice of slices that reads as lists of cells ('VwS'), one of a call's own ('OwS'); which stores are valid ('okB').
  Stores of a call's own ('OwB'); contracts of spec.BarnOk and of the laws' helpers szBarn, toBarn, eqBarn. (Made by gen_bb.py.)
-/
import Derived.Test.YtopcjiaakefmeaaRa
import Derived.Test.YtopcjiaakefmeaaCb
import Derived.Test.YtopcjiaakefmeaaCq
namespace Go.Proofs.Ytopcjiaakefmeaa.Cl
open Go.RowKit Wd Rp Kp Ra
set_option linter.unusedVariables false
/-- The headers read as these lists. -/
def VwH (w : World) (hs : List Hd) (ss : List (List Cel)) : Prop := hs.length = ss.length ∧ ∀ (j : Nat) (h : Hd) (l : List Cel), hs[j]? = some h → ss[j]? = some l → h.n = l.length ∧ Vw w h.a h.c l
theorem VwH.below {w w' : World} {hs : List Hd} {ss : List (List Cel)} (h : VwH w hs ss) (hb : Below w.heap.size w w') : VwH w' hs ss :=
  ⟨h.1, fun j x l h1 h2 => ⟨(h.2 j x l h1 h2).1, (h.2 j x l h1 h2).2.below hb⟩⟩
/-- The slice reads as these lists. -/
def VwS (w : World) (a : Option Addr) (cap : Nat) (hs : List Hd) (ss : List (List Cel)) : Prop := VwH w hs ss ∧ ss.length ≤ cap ∧ cap ≤ maxLen ∧ (a = none → cap = 0) ∧ Hds w.heap.size w a hs
theorem VwS.below {w w' : World} {a : Option Addr} {cap : Nat} {hs : List Hd} {ss : List (List Cel)} (h : VwS w a cap hs ss) (hb : Below w.heap.size w w') : VwS w' a cap hs ss := by
  obtain ⟨h1, h2, h3, h4, h5⟩ := h
  exact ⟨h1.below hb, h2, h3, h4, fun j x hx => by
    obtain ⟨g, o, e, hg, hc⟩ := h5 j x hx
    exact ⟨g, o, e, Nat.lt_of_lt_of_le hg hb.size, (hb.cell (p := ⟨g, o + j, none⟩) hg).trans hc⟩⟩
theorem VwS.at {w : World} {a : Option Addr} {cap : Nat} {hs : List Hd} {ss : List (List Cel)} (h : VwS w a cap hs ss) {k : Nat} {l : List Cel} (hl : ss[k]? = some l) :
    ∃ x g o, hs[k]? = some x ∧ a = some ⟨g, o, none⟩ ∧ g < w.heap.size ∧ w.cell? ⟨g, o + k, none⟩ = some (.slice x.a l.length x.c) ∧ Vw w x.a x.c l := by
  obtain ⟨x, hx⟩ : ∃ x, hs[k]? = some x := ⟨hs[k]'(by rw [h.1.1]; exact (List.getElem?_eq_some_iff.1 hl).1), List.getElem?_eq_getElem _⟩
  obtain ⟨g, o, e, hg, hc⟩ := h.2.2.2.2 k x hx
  obtain ⟨e2, hv⟩ := h.1.2 k x l hx hl
  rw [e2] at hc
  exact ⟨x, g, o, hx, e, hg, hc, hv⟩
/-- Are the shelves valid? Is the store? -/
def okT (l : List Cel) : Bool := !l.isEmpty && okL l
def okB (h : List Cel) (ss : List (List Cel)) : Bool := okL h && (decide (ss.length ≤ 5) && ss.all okT)
theorem okB_iff {h : List Cel} {ss : List (List Cel)} : okB h ss = true ↔ okL h = true ∧ ss.length ≤ 5 ∧ ∀ l ∈ ss, l ≠ [] ∧ okL l = true := by
  unfold okB okT; simp [List.all_eq_true]
theorem okB_hand {h : List Cel} {ss : List (List Cel)} (e : okL h = false) : okB h ss = false := by unfold okB; rw [e]; rfl
theorem okB_many {h : List Cel} {ss : List (List Cel)} (e : 5 < ss.length) : okB h ss = false := by unfold okB; rw [decide_eq_false (by omega)]; simp
theorem okB_bad {h : List Cel} {ss : List (List Cel)} {l : List Cel} (hm : l ∈ ss) (e : okT l = false) : okB h ss = false := by
  unfold okB
  have : ss.all okT = false := by rw [List.all_eq_false]; exact ⟨l, hm, by simp [e]⟩
  rw [this]; simp
theorem okB_all {h : List Cel} {ss : List (List Cel)} (h1 : okL h = true) (h2 : ss.length ≤ 5) (h3 : ∀ (j : Nat) (l : List Cel), ss[j]? = some l → okT l = true) : okB h ss = true := by
  unfold okB
  rw [h1, decide_eq_true h2]
  simp only [Bool.true_and]
  rw [List.all_eq_true]
  intro l hl
  obtain ⟨j, hj⟩ := List.mem_iff_getElem?.1 hl
  exact h3 j l hj
/-- No list is too long, no text. -/
def Low (h : List Cel) (ss : List (List Cel)) : Prop := h.length ≤ 1048576 ∧ ss.length ≤ 1048576 ∧ ∀ l ∈ ss, l.length ≤ 1048576
def Mod (h : List Cel) (ss : List (List Cel)) : Prop := (∀ c ∈ h, c.mod) ∧ ∀ l ∈ ss, ∀ c ∈ l, c.mod
end Go.Proofs.Ytopcjiaakefmeaa.Cl
namespace Go.Proofs.Ytopcjiaakefmeaa.Cl
open Go.RowKit Wd Rp Kp Ra
set_option linter.unusedVariables false
/-- No two of them lie in one block. -/
def Dis (us : List Value) : Prop := us.Pairwise fun u v => ∀ k, u.ownBlock = some k → v.ownBlock ≠ some k
def OwL (B : Nat) (w : World) (us : List Value) (ss : List (List Cel)) : Prop := us.length = ss.length ∧ (∀ (j : Nat) (u : Value) (l : List Cel), us[j]? = some u → ss[j]? = some l → OwC B w u l) ∧ Dis us
def RowS (B : Nat) (w : World) (v : Value) (us : List Value) : Prop := w.ownsRow B 24 1 v us.length us
/-- A store of a call's own: each list in a block of its own. -/
def OwB (B : Nat) (w : World) (hv sv : Value) (h : List Cel) (ss : List (List Cel)) : Prop := ∃ us, RowS B w sv us ∧ OwL B w (hv :: us) (h :: ss)
theorem OwL.next {B : Nat} {w w' : World} {us : List Value} {ss : List (List Cel)} (h : OwL B w us ss) (hb : Below w.heap.size w w') : OwL B w' us ss := ⟨h.1, fun j u l h1 h2 => (h.2.1 j u l h1 h2).next hb, h.2.2⟩
theorem OwL.mono {B C : Nat} {w : World} {us : List Value} {ss : List (List Cel)} (h : OwL B w us ss) (hC : C ≤ B) : OwL C w us ss := ⟨h.1, fun j u l h1 h2 => (h.2.1 j u l h1 h2).mono hC, h.2.2⟩
theorem RowS.next {B : Nat} {w w' : World} {v : Value} {us : List Value} (h : RowS B w v us) (hb : Below w.heap.size w w') : RowS B w' v us := row_next h fun g _ hg => hb.block g hg
theorem RowS.mono {B C : Nat} {w : World} {v : Value} {us : List Value} (h : RowS B w v us) (hC : C ≤ B) : RowS C w v us := by
  obtain ⟨h1, h2⟩ := h
  refine ⟨h1, ?_⟩
  rcases h2 with h2 | ⟨g, cap, cur, hv, hB, h3⟩
  · exact .inl h2
  · exact .inr ⟨g, cap, cur, hv, Nat.le_trans hC hB, h3⟩
theorem OwB.next {B : Nat} {w w' : World} {hv sv : Value} {h : List Cel} {ss : List (List Cel)} (o : OwB B w hv sv h ss) (hb : Below w.heap.size w w') : OwB B w' hv sv h ss := by
  obtain ⟨us, h1, h2⟩ := o
  exact ⟨us, h1.next hb, h2.next hb⟩
theorem OwB.mono {B C : Nat} {w : World} {hv sv : Value} {h : List Cel} {ss : List (List Cel)} (o : OwB B w hv sv h ss) (hC : C ≤ B) : OwB C w hv sv h ss := by
  obtain ⟨us, h1, h2⟩ := o
  exact ⟨us, h1.mono hC, h2.mono hC⟩
theorem infoS : (Try.prog.info? 24).map (fun i => (i.zero, i.size, i.bytes)) = some (some (.slice none 0 0), 1, 24) := by kernel_rfl
/-- Blocks of different types are different. -/
theorem own_ne {w : World} {B B' e e' k k' n n' : Nat} {v v' : Value} {xs xs' : List Value} (h : w.ownsRow B e k v n xs) (h' : w.ownsRow B' e' k' v' n' xs') (he : e ≠ e') : ∀ q, v.ownBlock = some q → v'.ownBlock ≠ some q := by
  intro q hq hq'
  rcases h.2 with ⟨rfl, _⟩ | ⟨g, cap, cur, rfl, _, hg, _⟩
  · simp [Value.ownBlock] at hq
  · rcases h'.2 with ⟨rfl, _⟩ | ⟨g', cap', cur', rfl, _, hg', _⟩
    · simp [Value.ownBlock] at hq'
    · obtain rfl : g = q := by simpa [Value.ownBlock] using hq
      obtain rfl : g' = g := by simpa [Value.ownBlock] using hq'
      rw [hg] at hg'
      simp at hg'
      exact he hg'.2
theorem RowS.form {B : Nat} {w : World} {v : Value} {us : List Value} (h : RowS B w v us) : ∃ a cap, v = .slice a us.length cap ∧ us.length ≤ cap ∧ cap ≤ maxLen ∧ (a = none → cap = 0) ∧
    ∀ (k : Nat) (u : Value), us[k]? = some u → ∃ g, a = some ⟨g, 0, none⟩ ∧ B ≤ g ∧ g < w.heap.size ∧ w.cell? ⟨g, k, none⟩ = some u ∧ w.frozen? ⟨g, k, none⟩ = false := by
  obtain ⟨h1, h2⟩ := h
  rcases h2 with ⟨rfl, hn⟩ | ⟨g, cap, cur, rfl, hB, hg, hn, hc, hsz, hxs⟩
  · exact ⟨none, 0, by rw [hn], by omega, by decide, fun _ => rfl, fun k u hk => by have := (List.getElem?_eq_some_iff.1 hk).1; omega⟩
  · refine ⟨_, cap, rfl, hn, hc, (fun e => by cases e), fun k u hk => ⟨g, rfl, hB, (Array.getElem?_eq_some_iff.1 hg).1, ?_, by simp [World.frozen?, hg]⟩⟩
    have hkl := (List.getElem?_eq_some_iff.1 hk).1
    rw [← hxs, List.getElem?_take_of_lt (by omega)] at hk
    rw [← hk]
    simp [World.cell?, hg]
theorem OwL.heads {B : Nat} {w : World} {us : List Value} {ss : List (List Cel)} (h : OwL B w us ss) : ∃ hs : List Hd, us = hs.map Hd.val ∧ VwH w hs ss := by
  have key : ∀ (us : List Value) (ss : List (List Cel)), us.length = ss.length → (∀ (j : Nat) (u : Value) (l : List Cel), us[j]? = some u → ss[j]? = some l → OwC B w u l) → ∃ hs : List Hd, us = hs.map Hd.val ∧ VwH w hs ss := by
    intro us
    induction us with
    | nil =>
      intro ss hl _
      cases ss with
      | nil => exact ⟨[], rfl, rfl, fun j h l h1 => by simp at h1⟩
      | cons => simp at hl
    | cons u us ih =>
      intro ss hl ho
      cases ss with
      | nil => simp at hl
      | cons l ss =>
        obtain ⟨a, cap, rfl, hv, -⟩ := (ho 0 u l rfl rfl).view
        obtain ⟨hs, e, e2, e3⟩ := ih ss (by simpa using hl) (fun j x y h1 h2 => ho (j + 1) x y (by simpa using h1) (by simpa using h2))
        refine ⟨⟨a, l.length, cap⟩ :: hs, by rw [e]; rfl, by simp [e2], fun j h t h1 h2 => ?_⟩
        cases j with
        | zero =>
          obtain rfl : (⟨a, l.length, cap⟩ : Hd) = h := by simpa using h1
          obtain rfl : l = t := by simpa using h2
          exact ⟨rfl, hv⟩
        | succ j => exact e3 j h t (by simpa using h1) (by simpa using h2)
  exact key us ss h.1 h.2.1
theorem RowS.view {B : Nat} {w : World} {v : Value} {hs : List Hd} {ss : List (List Cel)} (h : RowS B w v (hs.map Hd.val)) (hh : VwH w hs ss) : ∃ a cap, v = .slice a ss.length cap ∧ VwS w a cap hs ss := by
  obtain ⟨a, cap, e, h1, h2, h3, h4⟩ := h.form
  rw [List.length_map, hh.1] at e h1
  refine ⟨a, cap, e, hh, h1, h2, h3, fun j x hx => ?_⟩
  obtain ⟨g, e2, -, hg, hc, -⟩ := h4 j x.val (by rw [List.getElem?_map, hx]; rfl)
  exact ⟨g, 0, e2, hg, by rw [Nat.zero_add]; exact hc⟩
theorem OwB.view {B : Nat} {w : World} {hv sv : Value} {h : List Cel} {ss : List (List Cel)} (o : OwB B w hv sv h ss) : ∃ a c sa sc hs, hv = .slice a h.length c ∧ sv = .slice sa ss.length sc ∧ Vw w a c h ∧ VwS w sa sc hs ss := by
  obtain ⟨us, h1, h2⟩ := o
  obtain ⟨a, c, e, hv2, -⟩ := (h2.2.1 0 hv h rfl rfl).view
  obtain ⟨hs, e3, hh⟩ := OwL.heads (us := us) (ss := ss) (B := B) (w := w) ⟨by simpa using h2.1, fun j u l k1 k2 => h2.2.1 (j + 1) u l (by simpa using k1) (by simpa using k2), (List.pairwise_cons.1 h2.2.2).2⟩
  rw [e3] at h1
  obtain ⟨sa, sc, e4, hs4⟩ := RowS.view h1 hh
  exact ⟨a, c, sa, sc, hs, e, e4, hv2, hs4⟩
theorem OwB.hand {B : Nat} {w : World} {hv sv : Value} {h : List Cel} {ss : List (List Cel)} (o : OwB B w hv sv h ss) : OwC B w hv h := by
  obtain ⟨us, h1, h2⟩ := o
  exact h2.2.1 0 hv h rfl rfl
theorem dis_snoc {us : List Value} {u : Value} (h : Dis us) (hu : ∀ x ∈ us, ∀ k, x.ownBlock = some k → u.ownBlock ≠ some k) : Dis (us ++ [u]) := by
  unfold Dis at *
  rw [List.pairwise_append]
  exact ⟨h, List.pairwise_singleton _ _, fun x hx y hy => by rw [List.mem_singleton.1 hy]; exact hu x hx⟩
theorem dis_cons {us : List Value} {u : Value} (h : Dis us) (hu : ∀ x ∈ us, ∀ k, u.ownBlock = some k → x.ownBlock ≠ some k) : Dis (u :: us) := List.pairwise_cons.2 ⟨fun x hx => hu x hx, h⟩
theorem get_snoc {α : Type} {l : List α} {x y : α} {j : Nat} (h : (l ++ [x])[j]? = some y) : (j < l.length ∧ l[j]? = some y) ∨ (j = l.length ∧ x = y) := by
  by_cases hj : j < l.length
  · rw [List.getElem?_append_left hj] at h; exact .inl ⟨hj, h⟩
  · rw [List.getElem?_append_right (by omega)] at h
    have : j - l.length = 0 := by
      rcases Nat.eq_zero_or_pos (j - l.length) with h0 | h0
      · exact h0
      · rw [List.getElem?_eq_none (by simp; omega)] at h; cases h
    rw [this] at h
    exact .inr ⟨by omega, by simpa using h⟩
/-- One list more. -/
theorem OwL.snoc {B C : Nat} {w : World} {us : List Value} {ss : List (List Cel)} {u : Value} {l : List Cel} (h : OwL B w us ss) (hu : OwC C w u l) (hC : B ≤ C) (hn : ∀ x ∈ us, ∀ k, x.ownBlock = some k → u.ownBlock ≠ some k) : OwL B w (us ++ [u]) (ss ++ [l]) := by
  refine ⟨by simp [h.1], fun j x y h1 h2 => ?_, dis_snoc h.2.2 hn⟩
  rcases get_snoc h1 with ⟨hj, h1⟩ | ⟨hj, rfl⟩
  · rcases get_snoc h2 with ⟨hj2, h2⟩ | ⟨hj2, rfl⟩
    · exact h.2.1 j x y h1 h2
    · have := h.1; omega
  · rcases get_snoc h2 with ⟨hj2, h2⟩ | ⟨hj2, rfl⟩
    · have := h.1; omega
    · exact hu.mono hC
theorem OwL.low {B : Nat} {w : World} {us : List Value} {ss : List (List Cel)} (h : OwL B w us ss) : ∀ x ∈ us, ∀ k, x.ownBlock = some k → B ≤ k ∧ k < w.heap.size := fun x hx k hk => by
  obtain ⟨j, hj⟩ := List.mem_iff_getElem?.1 hx
  have hlt := (List.getElem?_eq_some_iff.1 hj).1
  have := h.2.1 j x _ hj (List.getElem?_eq_getElem (by rw [← h.1]; exact hlt))
  exact ⟨OwC.lt this k hk, OwC.low this k hk⟩
/-- What turns no block of theirs leaves them. -/
theorem OwL.grown {B : Nat} {w w' : World} {us : List Value} {ss : List (List Cel)} {row : Option Nat} (h : OwL B w us ss) (hg : w.grownBy w' row) (hne : ∀ x ∈ us, ∀ k, x.ownBlock = some k → row ≠ some k) : OwL B w' us ss :=
  ⟨h.1, fun j u l h1 h2 => (h.2.1 j u l h1 h2).grown hg (hne u (List.mem_of_getElem? h1)), h.2.2⟩
theorem RowS.apart {B C : Nat} {w : World} {v : Value} {us us' : List Value} {ss : List (List Cel)} (h : RowS B w v us) (hl : OwL C w us' ss) : ∀ x ∈ us', ∀ k, x.ownBlock = some k → v.ownBlock ≠ some k := fun x hx k hk => by
  obtain ⟨j, hj⟩ := List.mem_iff_getElem?.1 hx
  have hlt := (List.getElem?_eq_some_iff.1 hj).1
  exact own_ne (hl.2.1 j x _ hj (List.getElem?_eq_getElem (by rw [← hl.1]; exact hlt))) h (by decide) k hk
theorem RowS.set {B : Nat} {w : World} {g n cap : Nat} {us : List Value} (h : RowS B w (.slice (some ⟨g, 0, none⟩) n cap) us) (hn : n = us.length) (k : Nat) (u : Value) : RowS B (w.setCell ⟨g, k, none⟩ u) (.slice (some ⟨g, 0, none⟩) n cap) (us.set k u) ∧ w.grownBy (w.setCell ⟨g, k, none⟩ u) (some g) := by
  subst hn
  have := World.ownsRow.stored h k u
  unfold RowS
  rw [List.length_set]; exact this
theorem RowS.start {B : Nat} {w : World} (h : B ≤ w.heap.size) : RowS B (w.alloc (.cells #[] 24)) (.slice (some ⟨w.heap.size, 0, none⟩) 0 0) [] := World.ownsRow_made w #[] 0 h (by decide) rfl
theorem RowS.nothing (B : Nat) (w : World) : RowS B w (.slice none 0 0) [] := World.ownsRow_nil w B _ _
theorem RowS.lit {B : Nat} {w : World} (h : B ≤ w.heap.size) (u : Value) : RowS B (w.alloc (.cells #[u] 24)) (.slice (some ⟨w.heap.size, 0, none⟩) 1 1) [u] := World.ownsRow_lit (base := B) (e := 24) (size := 1) w #[u] 1 h (by decide) rfl
theorem RowS.lt {B : Nat} {w : World} {v : Value} {us : List Value} (h : RowS B w v us) : ∀ k, v.ownBlock = some k → B ≤ k := fun k hk => (World.ownsRow.lt h k hk).1
theorem RowS.grown {B : Nat} {w w' : World} {v : Value} {us : List Value} {row : Option Nat} (h : RowS B w v us) (hg : w.grownBy w' row) (hne : ∀ k, v.ownBlock = some k → row ≠ some k) : RowS B w' v us :=
  row_next h fun g hb hlt => hg.block g hlt (fun e => hne g hb e.symm)
theorem OwB.mk {B : Nat} {w : World} {hv sv : Value} {us : List Value} {h : List Cel} {ss : List (List Cel)} (hu : OwC B w hv h) (hr : RowS B w sv us) (hl : OwL B w us ss) (hne : ∀ x ∈ us, ∀ k, hv.ownBlock = some k → x.ownBlock ≠ some k) : OwB B w hv sv h ss := by
  refine ⟨us, hr, by simp [hl.1], fun j u l h1 h2 => ?_, dis_cons hl.2.2 hne⟩
  cases j with
  | zero =>
    obtain rfl : hv = u := by simpa using h1
    obtain rfl : h = l := by simpa using h2
    exact hu
  | succ j => exact hl.2.1 j u l (by simpa using h1) (by simpa using h2)
theorem OwC.put {B : Nat} {w : World} {v : Value} {l : List Cel} (o : OwC B w v l) {p : Addr} (hp : p.block < B) (x : Value) : OwC B (w.setCell p x) v l := row_next o fun g hb _ => Below.heap_setCell _ _ _ g (fun e => by have := OwC.lt o g hb; omega)
theorem RowS.put {B : Nat} {w : World} {v : Value} {us : List Value} (o : RowS B w v us) {p : Addr} (hp : p.block < B) (x : Value) : RowS B (w.setCell p x) v us := row_next o fun g hb _ => Below.heap_setCell _ _ _ g (fun e => by have := RowS.lt o g hb; omega)
theorem OwL.put {B : Nat} {w : World} {us : List Value} {ss : List (List Cel)} (o : OwL B w us ss) {p : Addr} (hp : p.block < B) (x : Value) : OwL B (w.setCell p x) us ss := ⟨o.1, fun j u l h1 h2 => (o.2.1 j u l h1 h2).put hp x, o.2.2⟩
theorem OwB.put {B : Nat} {w : World} {hv sv : Value} {h : List Cel} {ss : List (List Cel)} (o : OwB B w hv sv h ss) {p : Addr} (hp : p.block < B) (x : Value) : OwB B (w.setCell p x) hv sv h ss := by
  obtain ⟨us, h1, h2⟩ := o
  exact ⟨us, h1.put hp x, h2.put hp x⟩
theorem specBarn_end {h : List Cel} {ss : List (List Cel)} (h3 : ∀ (j : Nat) (l : List Cel), ss[j]? = some l → okT l = true) : okB h ss = (okL h && decide (ss.length ≤ 5)) := by
  unfold okB
  have : ss.all okT = true := by
    rw [List.all_eq_true]; intro l hl
    obtain ⟨j, hj⟩ := List.mem_iff_getElem?.1 hl
    exact h3 j l hj
  rw [this, Bool.and_true]
/-- A store in a block. -/
def Bb (q : Nat) (u v : Value) (w : World) : Prop := w.cell? ⟨q, 0, none⟩ = some u ∧ w.cell? ⟨q, 1, none⟩ = some v ∧ w.frozen? ⟨q, 0, none⟩ = false ∧ w.frozen? ⟨q, 1, none⟩ = false ∧ q < w.heap.size
theorem Bb.of {q T : Nat} {u v : Value} {w : World} (e : w.heap[q]? = some (.cells #[u, v] T (0, 0))) : Bb q u v w :=
  ⟨by simp only [World.cell?, e]; rfl, by simp only [World.cell?, e]; rfl, by simp only [World.frozen?, e]; rfl, by simp only [World.frozen?, e]; rfl, (Array.getElem?_eq_some_iff.1 e).1⟩
theorem Bb.made (u v : Value) (w : World) (T : Nat) : Bb w.heap.size u v (w.alloc (.cells #[u, v] T)) := Bb.of (World.alloc_heap_new w _)
theorem Bb.below {q B : Nat} {u v : Value} {w w' : World} (h : Bb q u v w) (hb : Below B w w') (hq : q < B) : Bb q u v w' := by
  obtain ⟨h0, h1, h2, h3, h4⟩ := h
  have e : w'.heap[q]? = w.heap[q]? := hb.block q hq
  exact ⟨(World.cell?_of_block (w := w) e).trans h0, (World.cell?_of_block (w := w) e).trans h1, (World.frozen?_of_block (w := w) e).trans h2, (World.frozen?_of_block (w := w) e).trans h3, Nat.lt_of_lt_of_le h4 hb.size⟩
theorem Bb.set0 {q : Nat} {u v : Value} {w : World} (h : Bb q u v w) (x : Value) : Bb q x v (w.setCell ⟨q, 0, none⟩ x) := by
  obtain ⟨h0, h1, h2, h3, h4⟩ := h
  exact ⟨World.cell?_setCell_same' _ _ _ (by rw [h0]; rfl), (World.cell?_setCell_other _ _ _ _ (by simp)).trans h1, by rw [World.frozen?_setCell]; exact h2, by rw [World.frozen?_setCell]; exact h3, by rw [World.size_setCell]; exact h4⟩
theorem Bb.set1 {q : Nat} {u v : Value} {w : World} (h : Bb q u v w) (x : Value) : Bb q u x (w.setCell ⟨q, 1, none⟩ x) := by
  obtain ⟨h0, h1, h2, h3, h4⟩ := h
  exact ⟨(World.cell?_setCell_other _ _ _ _ (by simp)).trans h0, World.cell?_setCell_same' _ _ _ (by rw [h1]; rfl), by rw [World.frozen?_setCell]; exact h2, by rw [World.frozen?_setCell]; exact h3, by rw [World.size_setCell]; exact h4⟩
theorem Bb.put {q : Nat} {u v : Value} {w : World} (h : Bb q u v w) {p : Addr} (hp : p.block ≠ q) (x : Value) : Bb q u v (w.setCell p x) := by
  obtain ⟨h0, h1, h2, h3, h4⟩ := h
  have e : (w.setCell p x).heap[q]? = w.heap[q]? := Below.heap_setCell _ _ _ _ (fun e => hp e.symm)
  exact ⟨(World.cell?_of_block (w := w) e).trans h0, (World.cell?_of_block (w := w) e).trans h1, (World.frozen?_of_block (w := w) e).trans h2, (World.frozen?_of_block (w := w) e).trans h3, by rw [World.size_setCell]; exact h4⟩
theorem Bb.next {q : Nat} {u v : Value} {w w' : World} (h : Bb q u v w) (hb : Below w.heap.size w w') : Bb q u v w' := h.below hb h.2.2.2.2
theorem lt_of_cell {w : World} {p : Addr} {v : Value} (h : w.cell? p = some v) : p.block < w.heap.size := by
  unfold World.cell? at h
  cases ho : w.heap[p.block]? with
  | none => simp [ho] at h
  | some o => exact (Array.getElem?_eq_some_iff.1 ho).1
theorem specCellsV {l : List Cel} {x : Bool} (h : okL l = x) (w : World) (a : Option Addr) (cap : Nat) (hv : Vw w a cap l) (hm : ∀ c ∈ l, c.mod) (hlen : l.length ≤ 1048576) :
    Calls Try.prog 19 #[.slice a l.length cap] w fun e w' => e = .returned (.bool x) ∧ Below w.heap.size w w' := specCells_is h w a cap _ rfl hv hm (by omega)
end Go.Proofs.Ytopcjiaakefmeaa.Cl
