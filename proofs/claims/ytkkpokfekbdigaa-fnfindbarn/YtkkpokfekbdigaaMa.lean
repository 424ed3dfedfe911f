/-
  Plain facts on a heap in a list: two places swapped; what holds while a place sinks ('Sink') and while one rises ('Rise'); a heap's first is its least.
  Plain facts on merging: two lists merged ('mergeL'), a sorted list is fixed by what is in it, piles of cells in a heap ('Pile', 'Pile.lt') and what is taken from them one by one ('Mid').
  Plain facts on thinning: cells of one bin ('al'), how many of them stay ('kept'), a list thinned ('thinL'); what is found in it from a time on; thinned again it is the same.
-/
import Derived.Test.YtkkpokfekbdigaaCk
namespace Go.Proofs.Ytkkpokfekbdigaa.Hp
set_option linter.unusedVariables false
section
variable {α : Type}
/-- Places i and j swapped, p and q lying there. -/
def swp (l : List α) (i j : Nat) (p q : α) : List α := (l.set i q).set j p
theorem set_perm : ∀ (l : List α) (j : Nat) (x y : α), l[j]? = some y → List.Perm (y :: l.set j x) (x :: l)
  | [], j, x, y, h => by simp at h
  | z :: l, 0, x, y, h => by
    obtain rfl : z = y := by simpa using h
    exact List.Perm.swap _ _ _
  | z :: l, j + 1, x, y, h => by
    have ih := set_perm l j x y (by simpa using h)
    rw [List.set_cons_succ]
    exact (List.Perm.swap _ _ _).trans ((ih.cons z).trans (List.Perm.swap _ _ _))
theorem swp_perm : ∀ (l : List α) (i j : Nat) (p q : α), l[i]? = some p → l[j]? = some q → List.Perm (swp l i j p q) l
  | [], i, j, p, q, h, _ => by simp at h
  | z :: l, 0, 0, p, q, h, k => by
    obtain rfl : z = p := by simpa using h
    exact List.Perm.refl _
  | z :: l, 0, j + 1, p, q, h, k => by
    obtain rfl : z = p := by simpa using h
    exact set_perm l j z q (by simpa using k)
  | z :: l, i + 1, 0, p, q, h, k => by
    obtain rfl : z = q := by simpa using k
    exact set_perm l i z p (by simpa using h)
  | z :: l, i + 1, j + 1, p, q, h, k => (swp_perm l i j p q (by simpa using h) (by simpa using k)).cons z
theorem swp_len (l : List α) (i j : Nat) (p q : α) : (swp l i j p q).length = l.length := by unfold swp; rw [List.length_set, List.length_set]
theorem swp_get {l : List α} {i j m : Nat} {p q : α} (hi : i < l.length) (hj : j < l.length) : (swp l i j p q)[m]? = if m = j then some p else if m = i then some q else l[m]? := by
  unfold swp
  by_cases h : m = j
  · subst h; rw [if_pos rfl, List.getElem?_set_self (by rw [List.length_set]; exact hj)]
  · rw [if_neg h, List.getElem?_set_ne (Ne.symm h)]
    by_cases k : m = i
    · subst k; rw [if_pos rfl, List.getElem?_set_self hi]
    · rw [if_neg k, List.getElem?_set_ne (Ne.symm k)]
/-- What an order must be. -/
structure Ord (lt : α → α → Bool) : Prop where
  tr : ∀ a b c, lt b a = false → lt c b = false → lt c a = false
  asym : ∀ a b, lt a b = true → lt b a = false
/-- The child m is not ahead of its parent, among the first n. -/
def Ed (lt : α → α → Bool) (l : List α) (m : Nat) : Prop := ∀ x y, l[m]? = some x → l[(m - 1) / 2]? = some y → lt x y = false
def Heap (lt : α → α → Bool) (l : List α) (n : Nat) : Prop := ∀ m, 0 < m → m < n → Ed lt l m
/-- All is well but below i; what stands above i is ahead of what stands below it. -/
def Sink (lt : α → α → Bool) (l : List α) (n i : Nat) : Prop := (∀ m, 0 < m → m < n → (m - 1) / 2 ≠ i → Ed lt l m) ∧ ∀ m, 0 < m → m < n → (m - 1) / 2 = i → 0 < i → ∀ x y, l[m]? = some x → l[(i - 1) / 2]? = some y → lt x y = false
/-- All is well but above j; what stands above j is ahead of what stands below it. -/
def Rise (lt : α → α → Bool) (l : List α) (n j : Nat) : Prop := (∀ m, 0 < m → m < n → m ≠ j → Ed lt l m) ∧ ∀ m, 0 < m → m < n → (m - 1) / 2 = j → 0 < j → ∀ x y, l[m]? = some x → l[(j - 1) / 2]? = some y → lt x y = false
theorem Heap.rise {lt : α → α → Bool} (O : Ord lt) {l : List α} {n j : Nat} (h : Heap lt l n) (hj : j < n) (hn : n ≤ l.length) : Rise lt l n j := by
  refine ⟨fun m h0 h1 _ => h m h0 h1, fun m h0 h1 hm hj0 x y hx hy => ?_⟩
  obtain ⟨z, hz⟩ : ∃ z, l[j]? = some z := ⟨l[j], List.getElem?_eq_getElem (by omega)⟩
  exact O.tr _ z _ (h j hj0 hj z y hz hy) (h m h0 h1 x z hx (by rw [hm]; exact hz))
theorem Rise.top {lt : α → α → Bool} {l : List α} {n : Nat} (h : Rise lt l n 0) : Heap lt l n := fun m h0 h1 => h.1 m h0 h1 (by omega)
theorem Rise.stop {lt : α → α → Bool} {l : List α} {n j : Nat} {p q : α} (h : Rise lt l n j) (hp : l[j]? = some p) (hq : l[(j - 1) / 2]? = some q) (hl : lt p q = false) : Heap lt l n := fun m h0 h1 => by
  by_cases e : m = j
  · subst e; intro x y hx hy; rw [hp] at hx; rw [hq] at hy; cases hx; cases hy; exact hl
  · exact h.1 m h0 h1 e
theorem Rise.up {lt : α → α → Bool} (O : Ord lt) {l : List α} {n j i : Nat} {p q : α} (h : Rise lt l n j) (hn : n ≤ l.length) (hj0 : 0 < j) (hj : j < n) (hi : i = (j - 1) / 2) (hp : l[i]? = some p) (hq : l[j]? = some q) (hl : lt q p = true) :
    Rise lt (swp l i j p q) n i := by
  have hil : i < l.length := by omega
  have hjl : j < l.length := by omega
  have hqp := O.asym _ _ hl
  refine ⟨fun m h0 h1 hmi x y hx hy => ?_, fun m h0 h1 hm hi0 x y hx hy => ?_⟩
  · rw [swp_get hil hjl] at hx hy
    by_cases e : m = j
    · subst e
      rw [if_pos rfl] at hx
      rw [if_neg (by omega), if_pos hi.symm] at hy
      cases hx; cases hy; exact hqp
    · rw [if_neg e, if_neg hmi] at hx
      by_cases e2 : (m - 1) / 2 = j
      · rw [if_pos e2] at hy
        cases hy
        exact h.2 m h0 h1 e2 hj0 x p hx (by rw [← hi]; exact hp)
      · rw [if_neg e2] at hy
        by_cases e3 : (m - 1) / 2 = i
        · rw [if_pos e3] at hy
          cases hy
          exact O.tr _ p _ hqp (h.1 m h0 h1 e x p hx (by rw [e3]; exact hp))
        · rw [if_neg e3] at hy
          exact h.1 m h0 h1 e x y hx hy
  · rw [swp_get hil hjl] at hx hy
    rw [if_neg (by omega), if_neg (by omega)] at hy
    have hpy : lt p y = false := h.1 i hi0 (by omega) (by omega) p y hp hy
    by_cases e : m = j
    · rw [if_pos e] at hx; cases hx; exact hpy
    · rw [if_neg e, if_neg (by omega)] at hx
      exact O.tr _ p _ hpy (h.1 m h0 h1 e x p hx (by rw [hm]; exact hp))
theorem Sink.leaf {lt : α → α → Bool} {l : List α} {n i : Nat} (h : Sink lt l n i) (hi : n ≤ 2 * i + 1) : Heap lt l n := fun m h0 h1 => h.1 m h0 h1 (by omega)
/-- j is the child of i that is ahead of the other. -/
def Least (lt : α → α → Bool) (l : List α) (n i j : Nat) : Prop := j < n ∧ (j = 2 * i + 1 ∨ j = 2 * i + 2) ∧ ∀ m x y, m < n → 0 < m → (m - 1) / 2 = i → l[m]? = some x → l[j]? = some y → lt x y = false
theorem Sink.stop {lt : α → α → Bool} (O : Ord lt) {l : List α} {n i j : Nat} {p q : α} (h : Sink lt l n i) (hL : Least lt l n i j) (hp : l[i]? = some p) (hq : l[j]? = some q) (hl : lt q p = false) : Heap lt l n := fun m h0 h1 => by
  by_cases e : (m - 1) / 2 = i
  · intro x y hx hy
    rw [e, hp] at hy
    cases hy
    exact O.tr _ q _ hl (hL.2.2 m x q h1 h0 e hx hq)
  · exact h.1 m h0 h1 e
theorem Sink.down {lt : α → α → Bool} (O : Ord lt) {l : List α} {n i j : Nat} {p q : α} (h : Sink lt l n i) (hn : n ≤ l.length) (hL : Least lt l n i j) (hp : l[i]? = some p) (hq : l[j]? = some q) (hl : lt q p = true) :
    Sink lt (swp l i j p q) n j := by
  obtain ⟨hjn, hj, hmin⟩ := hL
  have hil : i < l.length := by omega
  have hjl : j < l.length := by omega
  have hqp := O.asym _ _ hl
  have hpj : (j - 1) / 2 = i := by omega
  refine ⟨fun m h0 h1 hmj x y hx hy => ?_, fun m h0 h1 hm hj0 x y hx hy => ?_⟩
  · rw [swp_get hil hjl] at hx hy
    rw [if_neg hmj] at hy
    by_cases e : m = j
    · subst e
      rw [if_pos rfl] at hx
      rw [if_pos hpj] at hy
      cases hx; cases hy; exact hqp
    · rw [if_neg e] at hx
      by_cases e2 : m = i
      · subst e2
        rw [if_pos rfl] at hx
        rw [if_neg (by omega)] at hy
        cases hx
        exact h.2 j (by omega) hjn hpj h0 q y hq hy
      · rw [if_neg e2] at hx
        by_cases e3 : (m - 1) / 2 = i
        · rw [if_pos e3] at hy
          cases hy
          exact hmin m x q h1 h0 e3 hx hq
        · rw [if_neg e3] at hy
          exact h.1 m h0 h1 e3 x y hx hy
  · rw [swp_get hil hjl] at hx hy
    rw [hpj, if_neg (by omega), if_pos rfl] at hy
    rw [if_neg (by omega), if_neg (by omega)] at hx
    cases hy
    exact h.1 m h0 h1 (by omega) x q hx (by rw [hm]; exact hq)
theorem Heap.least {lt : α → α → Bool} (O : Ord lt) {l : List α} {n : Nat} (h : Heap lt l n) (hn : n ≤ l.length) {t : α} (ht : l[0]? = some t) (irr : lt t t = false) : ∀ m x, m < n → l[m]? = some x → lt x t = false := by
  intro m
  induction m using Nat.strongRecOn with
  | _ m ih =>
    intro x hm hx
    by_cases e : m = 0
    · subst e; rw [ht] at hx; cases hx; exact irr
    · obtain ⟨z, hz⟩ : ∃ z, l[(m - 1) / 2]? = some z := ⟨l[(m - 1) / 2], List.getElem?_eq_getElem (by omega)⟩
      exact O.tr _ z _ (ih _ (by omega) z (by omega) hz) (h m (by omega) hm x z hx hz)
/-- Which child is ahead. -/
theorem least_right {lt : α → α → Bool} (O : Ord lt) (irr : ∀ x, lt x x = false) {l : List α} {n i : Nat} {p q : α} (h : 2 * i + 2 < n) (hp : l[2 * i + 2]? = some p) (hq : l[2 * i + 1]? = some q) (hl : lt p q = true) : Least lt l n i (2 * i + 2) := by
  refine ⟨h, Or.inr rfl, fun m x y hm h0 he hx hy => ?_⟩
  rw [hp] at hy; cases hy
  by_cases e : m = 2 * i + 2
  · subst e; rw [hp] at hx; cases hx; exact irr _
  · obtain rfl : m = 2 * i + 1 := by omega
    rw [hq] at hx; cases hx; exact O.asym _ _ hl
theorem least_left {lt : α → α → Bool} (irr : ∀ x, lt x x = false) {l : List α} {n i : Nat} {p q : α} (h : 2 * i + 2 < n) (hp : l[2 * i + 2]? = some p) (hq : l[2 * i + 1]? = some q) (hl : lt p q = false) : Least lt l n i (2 * i + 1) := by
  refine ⟨by omega, Or.inl rfl, fun m x y hm h0 he hx hy => ?_⟩
  rw [hq] at hy; cases hy
  by_cases e : m = 2 * i + 2
  · subst e; rw [hp] at hx; cases hx; exact hl
  · obtain rfl : m = 2 * i + 1 := by omega
    rw [hq] at hx; cases hx; exact irr _
theorem least_only {lt : α → α → Bool} (irr : ∀ x, lt x x = false) {l : List α} {n i : Nat} (h : 2 * i + 1 < n) (h2 : ¬ 2 * i + 2 < n) : Least lt l n i (2 * i + 1) := by
  refine ⟨h, Or.inl rfl, fun m x y hm h0 he hx hy => ?_⟩
  obtain rfl : m = 2 * i + 1 := by omega
  rw [hx] at hy; cases hy; exact irr _
theorem swp_far {l : List α} {i j m : Nat} {p q : α} (hi : i < l.length) (hj : j < l.length) (h1 : m ≠ i) (h2 : m ≠ j) : (swp l i j p q)[m]? = l[m]? := by rw [swp_get hi hj, if_neg h2, if_neg h1]
theorem Heap.nothing (lt : α → α → Bool) (l : List α) : Heap lt l 0 := fun m _ h => by omega
/-- Oneg behind a heap may have to rise. -/
theorem Heap.push {lt : α → α → Bool} {l : List α} (h : Heap lt l l.length) (p : α) : Rise lt (l ++ [p]) (l.length + 1) l.length := by
  refine ⟨fun m h0 h1 hm x y hx hy => ?_, fun m h0 h1 hm => by omega⟩
  rw [List.getElem?_append_left (by omega)] at hx hy
  exact h m h0 (by omega) x y hx hy
/-- With another on top it may have to sink. -/
theorem Heap.fix {lt : α → α → Bool} {l m : List α} {n : Nat} (h : Heap lt l n) (he : ∀ k, 0 < k → k < n → m[k]? = l[k]?) : Sink lt m n 0 := by
  refine ⟨fun k h0 h1 hk x y hx hy => ?_, fun k h0 h1 hm hi => by omega⟩
  rw [he k h0 h1] at hx
  rw [he _ (by omega) (by omega)] at hy
  exact h k h0 h1 x y hx hy
theorem Heap.cong {lt : α → α → Bool} {l m : List α} {n : Nat} (h : Heap lt l n) (he : ∀ k, k < n → m[k]? = l[k]?) : Heap lt m n := fun k h0 h1 x y hx hy => by
  rw [he k h1] at hx
  rw [he _ (by omega)] at hy
  exact h k h0 h1 x y hx hy
end
end Go.Proofs.Ytkkpokfekbdigaa.Hp
namespace Go.Proofs.Ytkkpokfekbdigaa.Cl
open Go.RowKit Wd Rp Kp
set_option linter.unusedVariables false
def Srt (l : List Cel) : Prop := l.Pairwise fun a b => a.ls b = true
theorem ke_symm (c d : Cel) : c.ke d = d.ke c := by
  rw [Bool.eq_iff_iff, ke_iff, ke_iff]; exact ⟨fun ⟨a, b, c⟩ => ⟨a.symm, b.symm, c.symm⟩, fun ⟨a, b, c⟩ => ⟨a.symm, b.symm, c.symm⟩⟩
theorem ke_refl (c : Cel) : c.ke c = true := (ke_iff c c).2 ⟨rfl, rfl, rfl⟩
theorem ke_trans {a b c : Cel} (h : a.ke b = true) (k : b.ke c = true) : a.ke c = true := by
  rw [ke_iff] at *; exact ⟨h.1.trans k.1, h.2.1.trans k.2.1, h.2.2.trans k.2.2⟩
theorem ls_nke {c d : Cel} (h : c.ls d = true) : c.ke d = false ∧ d.ke c = false := by
  have : c.ke d = false := by
    cases k : c.ke d with
    | false => rfl
    | true => have := (ls_ke k c).1; rw [ls_irr, h] at this; cases this
  exact ⟨this, by rw [ke_symm]; exact this⟩
theorem srt_nil : Srt [] := List.Pairwise.nil
theorem srt_cons {x : Cel} {l : List Cel} : Srt (x :: l) ↔ (∀ d ∈ l, x.ls d = true) ∧ Srt l := List.pairwise_cons
def mergeL : List Cel → List Cel → List Cel
  | [], b => b
  | x :: a, [] => x :: a
  | x :: a, y :: b => if x.ls y then x :: mergeL a (y :: b) else if y.ls x then y :: mergeL (x :: a) b else x :: mergeL a b
termination_by a b => a.length + b.length
theorem mergeL_nil (a : List Cel) : mergeL a [] = a := by cases a <;> simp [mergeL]
theorem mergeL_nl (b : List Cel) : mergeL [] b = b := by simp [mergeL]
theorem mergeL_a {x y : Cel} {a b : List Cel} (h : x.ls y = true) : mergeL (x :: a) (y :: b) = x :: mergeL a (y :: b) := by rw [mergeL, if_pos h]
theorem mergeL_b {x y : Cel} {a b : List Cel} (h : x.ls y = false) (k : y.ls x = true) : mergeL (x :: a) (y :: b) = y :: mergeL (x :: a) b := by rw [mergeL, if_neg (by simp [h]), if_pos k]
theorem mergeL_c {x y : Cel} {a b : List Cel} (h : x.ls y = false) (k : y.ls x = false) : mergeL (x :: a) (y :: b) = x :: mergeL a b := by rw [mergeL, if_neg (by simp [h]), if_neg (by simp [k])]
theorem mem_merge (a b : List Cel) : Srt a → Srt b → ∀ c, c ∈ mergeL a b ↔ c ∈ a ∨ (c ∈ b ∧ ∀ d ∈ a, d.ke c = false) := by
  induction a, b using mergeL.induct with
  | case1 b => intro _ _ c; rw [mergeL_nl]; simp
  | case2 x a => intro _ _ c; rw [mergeL_nil]; simp
  | case3 x a y b h ih =>
    intro ha hb c
    obtain ⟨ha1, ha2⟩ := srt_cons.1 ha
    obtain ⟨hb1, hb2⟩ := srt_cons.1 hb
    rw [mergeL_a h, List.mem_cons (a := c) (b := x), ih ha2 hb c, List.mem_cons (a := c) (b := x), or_assoc]
    refine or_congr Iff.rfl (or_congr Iff.rfl (and_congr_right fun hc => ?_))
    have hx : x.ls c = true := by
      rcases List.mem_cons.1 hc with rfl | hc
      · exact h
      · exact ls_trans h (hb1 c hc)
    rw [List.forall_mem_cons]
    exact ⟨fun g => ⟨(ls_nke hx).1, g⟩, fun g => g.2⟩
  | case4 x a y b h k ih =>
    intro ha hb c
    obtain ⟨ha1, ha2⟩ := srt_cons.1 ha
    obtain ⟨hb1, hb2⟩ := srt_cons.1 hb
    rw [mergeL_b (by simpa using h) k, List.mem_cons, ih ha hb2 c]
    have hy : ∀ d ∈ x :: a, y.ls d = true := fun d hd => by
      rcases List.mem_cons.1 hd with rfl | hd
      · exact k
      · exact ls_trans k (ha1 d hd)
    constructor
    · rintro (rfl | g | ⟨g1, g2⟩)
      · exact Or.inr ⟨List.mem_cons_self, fun d hd => (ls_nke (hy d hd)).2⟩
      · exact Or.inl g
      · exact Or.inr ⟨List.mem_cons_of_mem _ g1, g2⟩
    · rintro (g | ⟨g1, g2⟩)
      · exact Or.inr (Or.inl g)
      · rcases List.mem_cons.1 g1 with rfl | g1
        · exact Or.inl rfl
        · exact Or.inr (Or.inr ⟨g1, g2⟩)
  | case5 x a y b h k ih =>
    intro ha hb c
    obtain ⟨ha1, ha2⟩ := srt_cons.1 ha
    obtain ⟨hb1, hb2⟩ := srt_cons.1 hb
    have h' : x.ls y = false := by simpa using h
    have k' : y.ls x = false := by simpa using k
    have hke : x.ke y = true := by
      cases q : x.ke y with
      | true => rfl
      | false => rw [ls_tri3 x y h' q] at k'; cases k'
    rw [mergeL_c h' k', List.mem_cons (a := c) (b := x), ih ha2 hb2 c, List.mem_cons (a := c) (b := x), or_assoc]
    refine or_congr Iff.rfl (or_congr Iff.rfl ?_)
    constructor
    · rintro ⟨g1, g2⟩
      have : x.ls c = true := by rw [(ls_ke hke c).2]; exact hb1 c g1
      exact ⟨List.mem_cons_of_mem _ g1, List.forall_mem_cons.2 ⟨(ls_nke this).1, g2⟩⟩
    · rintro ⟨g1, g2⟩
      obtain ⟨g3, g4⟩ := List.forall_mem_cons.1 g2
      rcases List.mem_cons.1 g1 with rfl | g1
      · rw [hke] at g3; cases g3
      · exact ⟨g1, g4⟩
theorem sub_merge (a b : List Cel) : ∀ c, c ∈ mergeL a b → c ∈ a ∨ c ∈ b := by
  induction a, b using mergeL.induct with
  | case1 b => intro c; rw [mergeL_nl]; exact Or.inr
  | case2 x a => intro c; rw [mergeL_nil]; exact Or.inl
  | case3 x a y b h ih =>
    intro c hc
    rw [mergeL_a h] at hc
    rcases List.mem_cons.1 hc with rfl | hc
    · exact Or.inl List.mem_cons_self
    · exact (ih c hc).imp (List.mem_cons_of_mem _) id
  | case4 x a y b h k ih =>
    intro c hc
    rw [mergeL_b (by simpa using h) k] at hc
    rcases List.mem_cons.1 hc with rfl | hc
    · exact Or.inr List.mem_cons_self
    · exact (ih c hc).imp id (List.mem_cons_of_mem _)
  | case5 x a y b h k ih =>
    intro c hc
    rw [mergeL_c (by simpa using h) (by simpa using k)] at hc
    rcases List.mem_cons.1 hc with rfl | hc
    · exact Or.inl List.mem_cons_self
    · exact (ih c hc).imp (List.mem_cons_of_mem _) (List.mem_cons_of_mem _)
theorem srt_merge (a b : List Cel) : Srt a → Srt b → Srt (mergeL a b) := by
  induction a, b using mergeL.induct with
  | case1 b => intro _ h; rw [mergeL_nl]; exact h
  | case2 x a => intro h _; rw [mergeL_nil]; exact h
  | case3 x a y b h ih =>
    intro ha hb
    obtain ⟨ha1, ha2⟩ := srt_cons.1 ha
    obtain ⟨hb1, hb2⟩ := srt_cons.1 hb
    rw [mergeL_a h]
    refine srt_cons.2 ⟨fun d hd => ?_, ih ha2 hb⟩
    rcases sub_merge _ _ d hd with hd | hd
    · exact ha1 d hd
    · rcases List.mem_cons.1 hd with rfl | hd
      · exact h
      · exact ls_trans h (hb1 d hd)
  | case4 x a y b h k ih =>
    intro ha hb
    obtain ⟨ha1, ha2⟩ := srt_cons.1 ha
    obtain ⟨hb1, hb2⟩ := srt_cons.1 hb
    rw [mergeL_b (by simpa using h) k]
    refine srt_cons.2 ⟨fun d hd => ?_, ih ha hb2⟩
    rcases sub_merge _ _ d hd with hd | hd
    · rcases List.mem_cons.1 hd with rfl | hd
      · exact k
      · exact ls_trans k (ha1 d hd)
    · exact hb1 d hd
  | case5 x a y b h k ih =>
    intro ha hb
    obtain ⟨ha1, ha2⟩ := srt_cons.1 ha
    obtain ⟨hb1, hb2⟩ := srt_cons.1 hb
    have h' : x.ls y = false := by simpa using h
    have k' : y.ls x = false := by simpa using k
    have hke : x.ke y = true := by
      cases q : x.ke y with
      | true => rfl
      | false => rw [ls_tri3 x y h' q] at k'; cases k'
    rw [mergeL_c h' k']
    refine srt_cons.2 ⟨fun d hd => ?_, ih ha2 hb2⟩
    rcases sub_merge _ _ d hd with hd | hd
    · exact ha1 d hd
    · rw [(ls_ke hke d).2]; exact hb1 d hd
theorem merge_len (a b : List Cel) : (mergeL a b).length ≤ a.length + b.length := by
  induction a, b using mergeL.induct with
  | case1 b => rw [mergeL_nl]; simp
  | case2 x a => rw [mergeL_nil]; simp
  | case3 x a y b h ih => rw [mergeL_a h, List.length_cons, List.length_cons]; omega
  | case4 x a y b h k ih => rw [mergeL_b (by simpa using h) k]; simp only [List.length_cons] at *; omega
  | case5 x a y b h k ih => rw [mergeL_c (by simpa using h) (by simpa using k)]; simp only [List.length_cons] at *; omega
/-- A sorted list is fixed by what is in it. -/
theorem srt_ext : ∀ {l m : List Cel}, Srt l → Srt m → (∀ c, c ∈ l ↔ c ∈ m) → l = m
  | [], [], _, _, _ => rfl
  | [], y :: m, _, _, h => by have := (h y).2 List.mem_cons_self; cases this
  | x :: l, [], _, _, h => by have := (h x).1 List.mem_cons_self; cases this
  | x :: l, y :: m, hl, hm, h => by
    obtain ⟨l1, l2⟩ := srt_cons.1 hl
    obtain ⟨m1, m2⟩ := srt_cons.1 hm
    have e : x = y := by
      rcases List.mem_cons.1 ((h x).1 List.mem_cons_self) with e | e
      · exact e
      · rcases List.mem_cons.1 ((h y).2 List.mem_cons_self) with g | g
        · exact g.symm
        · have := ls_trans (m1 x e) (l1 y g); rw [ls_irr] at this; cases this
    subst e
    have : l = m := srt_ext l2 m2 fun c => by
      constructor
      · intro hc
        rcases List.mem_cons.1 ((h c).1 (List.mem_cons_of_mem _ hc)) with e | e
        · subst e; have := l1 c hc; rw [ls_irr] at this; cases this
        · exact e
      · intro hc
        rcases List.mem_cons.1 ((h c).2 (List.mem_cons_of_mem _ hc)) with e | e
        · subst e; have := m1 c hc; rw [ls_irr] at this; cases this
        · exact e
    rw [this]
theorem merge_again {a b : List Cel} (ha : Srt a) (hb : Srt b) : mergeL (mergeL a b) b = mergeL a b := by
  have hm := srt_merge a b ha hb
  refine srt_ext (srt_merge _ _ hm hb) hm fun c => ?_
  rw [mem_merge _ _ hm hb]
  refine ⟨?_, Or.inl⟩
  rintro (h | ⟨h1, h2⟩)
  · exact h
  · rw [mem_merge a b ha hb]
    by_cases g : ∀ d ∈ a, d.ke c = false
    · exact Or.inr ⟨h1, g⟩
    · exfalso
      refine g fun d hd => h2 d ((mem_merge a b ha hb d).2 (Or.inl hd))
/-- What is left of a list that is being merged. -/
structure Pile where
  k : Nat
  a : Option Addr
  cap : Nat
  c : List Cel
def Pile.hd (p : Pile) : Cel := p.c.headD default
def Pile.lt (p q : Pile) : Bool := if p.hd.ke q.hd then decide (p.k < q.k) else p.hd.ls q.hd
theorem ls_ntr {a b c : Cel} (h : b.ls a = false) (k : c.ls b = false) : c.ls a = false := by
  cases g : c.ls a with
  | false => rfl
  | true =>
    exfalso
    by_cases e : a.ke b = true
    · rw [(ls_ke e c).1, k] at g; cases g
    · have := ls_tri3 b a h (by rw [ke_symm]; simpa using e)
      rw [ls_trans g this] at k; cases k
theorem lt_false {p q : Pile} : p.lt q = false ↔ p.hd.ls q.hd = false ∧ (p.hd.ke q.hd = true → q.k ≤ p.k) := by
  unfold Pile.lt
  by_cases h : p.hd.ke q.hd = true
  · rw [if_pos h]
    have : p.hd.ls q.hd = false := by
      cases g : p.hd.ls q.hd with
      | false => rfl
      | true => rw [(ls_nke g).1] at h; cases h
    simp [this, h]
  · rw [if_neg h]
    simp [h]
theorem lt_ord : Hp.Ord Pile.lt where
  tr := fun a b c h k => by
    rw [lt_false] at *
    refine ⟨ls_ntr h.1 k.1, fun e => ?_⟩
    by_cases g : b.hd.ke a.hd = true
    · have h1 := h.2 g
      have h2 := k.2 (ke_trans e (by rw [ke_symm]; exact g))
      omega
    · exfalso
      have g' : b.hd.ke a.hd = false := by simpa using g
      have h1 := ls_tri3 _ _ h.1 g'
      rw [← (ls_ke e b.hd).2, k.1] at h1; cases h1
  asym := fun a b h => by
    rw [lt_false]
    unfold Pile.lt at h
    by_cases e : a.hd.ke b.hd = true
    · rw [if_pos e] at h
      have h' : a.k < b.k := by simpa using h
      refine ⟨?_, fun _ => by omega⟩
      cases g : b.hd.ls a.hd with
      | false => rfl
      | true => rw [(ls_nke g).2] at e; cases e
    · rw [if_neg e] at h
      exact ⟨ls_asym h, fun g => by rw [ke_symm] at g; exact absurd g e⟩
theorem lt_irr (p : Pile) : p.lt p = false := lt_false.2 ⟨ls_irr _, fun _ => Nat.le_refl _⟩
/-- Piles that can be merged: none empty, each sorted, of different ranks. -/
def Good (l : List Pile) : Prop := (∀ p ∈ l, p.c ≠ [] ∧ Srt p.c) ∧ (l.map Pile.k).Nodup
/-- Is it to be taken out of these piles? -/
def Fst (l : List Pile) (c : Cel) : Prop := ∃ p ∈ l, c ∈ p.c ∧ ∀ q ∈ l, q.k < p.k → ∀ d ∈ q.c, d.ke c = false
/-- In the midst of it: T tells what is wanted, l is left, m is made. -/
def Mid (T : Cel → Prop) (l : List Pile) (m : List Cel) : Prop :=
  Good l ∧ Srt m ∧ (∀ q ∈ m, ∀ p ∈ l, ∀ c ∈ p.c, c.ls q = false) ∧ ∀ c, T c ↔ c ∈ m ∨ (Fst l c ∧ ∀ e ∈ m, e.ke c = false)
theorem Good.perm {l m : List Pile} (h : Good l) (e : List.Perm m l) : Good m := ⟨fun p hp => h.1 p (e.mem_iff.1 hp), (List.Perm.nodup_iff (e.map Pile.k)).2 h.2⟩
theorem Fst.perm {l m : List Pile} {c : Cel} (e : List.Perm m l) : Fst m c ↔ Fst l c := by
  unfold Fst
  constructor
  · rintro ⟨p, hp, hc, h⟩; exact ⟨p, e.mem_iff.1 hp, hc, fun q hq => h q (e.mem_iff.2 hq)⟩
  · rintro ⟨p, hp, hc, h⟩; exact ⟨p, e.mem_iff.2 hp, hc, fun q hq => h q (e.mem_iff.1 hq)⟩
theorem Mid.perm {T : Cel → Prop} {l l' : List Pile} {m : List Cel} (h : Mid T l m) (e : List.Perm l' l) : Mid T l' m :=
  ⟨h.1.perm e, h.2.1, fun q hq p hp => h.2.2.1 q hq p (e.mem_iff.1 hp), fun c => by rw [Fst.perm e]; exact h.2.2.2 c⟩
theorem Mid.start {T : Cel → Prop} {l : List Pile} (h : Good l) (e : ∀ c, T c ↔ Fst l c) : Mid T l [] :=
  ⟨h, srt_nil, (fun q hq => by cases hq), fun c => by rw [e]; simp⟩
theorem Mid.fin {T : Cel → Prop} {m : List Cel} (h : Mid T [] m) : Srt m ∧ ∀ c, c ∈ m ↔ T c :=
  ⟨h.2.1, fun c => by rw [h.2.2.2 c]; refine ⟨Or.inl, ?_⟩; rintro (g | ⟨⟨p, hp, _⟩, _⟩); exact g; cases hp⟩
/-- The pile without its first cell. -/
def rest (t : Pile) (tc : List Cel) (a : Option Addr) (cap : Nat) (r : List Pile) : List Pile := if tc = [] then r else ⟨t.k, a, cap, tc⟩ :: r
theorem mem_rest {t : Pile} {tc : List Cel} {a : Option Addr} {cap : Nat} {r : List Pile} {p : Pile} (h : p ∈ rest t tc a cap r) : p ∈ r ∨ (p.k = t.k ∧ p.c = tc ∧ tc ≠ []) := by
  unfold rest at h
  split at h
  · exact Or.inl h
  · rcases List.mem_cons.1 h with rfl | h
    · exact Or.inr ⟨rfl, rfl, by assumption⟩
    · exact Or.inl h
/-- Has the last that was made this key? -/
def dup (m : List Cel) (c : Cel) : Bool := match m.getLast? with | none => false | some q => q.ke c
theorem dup_iff {m : List Cel} {c : Cel} (hm : Srt m) (hlo : ∀ q ∈ m, c.ls q = false) : dup m c = true ↔ ∃ e ∈ m, e.ke c = true := by
  unfold dup
  rcases List.eq_nil_or_concat m with rfl | ⟨m', q, rfl⟩
  · simp
  · rw [List.concat_eq_append] at *
    rw [List.getLast?_append]
    simp only [List.getLast?_singleton, Option.some_or]
    constructor
    · intro h; exact ⟨q, by simp, h⟩
    · rintro ⟨e, he, h⟩
      rcases List.mem_append.1 he with he | he
      · exfalso
        have h1 : e.ls q = true := (List.pairwise_append.1 hm).2.2 e he q (by simp)
        rw [(ls_ke h q).2, hlo q (by simp)] at h1; cases h1
      · rw [List.mem_singleton] at he; subst he; exact h
theorem Mid.step {T : Cel → Prop} {t : Pile} {r : List Pile} {m : List Cel} {c0 : Cel} {tc : List Cel} (h : Mid T (t :: r) m) (hc : t.c = c0 :: tc) (hmin : ∀ p ∈ r, p.lt t = false) (a : Option Addr) (cap : Nat) :
    Mid T (rest t tc a cap r) (if dup m c0 then m else m ++ [c0]) := by
  obtain ⟨hg, hm, hlo, hT⟩ := h
  have hhd : t.hd = c0 := by unfold Pile.hd; rw [hc]; rfl
  have ht := hg.1 t List.mem_cons_self
  have hts : Srt (c0 :: tc) := by rw [← hc]; exact ht.2
  obtain ⟨t1, t2⟩ := srt_cons.1 hts
  have hk : ∀ p ∈ r, p.k ≠ t.k := fun p hp => by
    have := hg.2
    rw [List.map_cons, List.nodup_cons] at this
    intro e; exact this.1 (by rw [← e]; exact List.mem_map_of_mem hp)
  -- heads of the others are not ahead
  have hhead : ∀ p ∈ r, ∀ c ∈ p.c, p.hd = c ∨ p.hd.ls c = true := fun p hp c hcp => by
    have h1 := (hg.1 p (List.mem_cons_of_mem _ hp)).2
    cases e : p.c with
    | nil => rw [e] at hcp; cases hcp
    | cons x xs =>
      rw [e] at hcp h1
      have : p.hd = x := by unfold Pile.hd; rw [e]; rfl
      rw [this]
      rcases List.mem_cons.1 hcp with rfl | g
      · exact Or.inl rfl
      · exact Or.inr ((srt_cons.1 h1).1 c g)
  have hr : ∀ p ∈ r, ∀ c ∈ p.c, c.ls c0 = false ∧ (c.ke c0 = true → t.k < p.k) := fun p hp c hcp => by
    have h1 := lt_false.1 (hmin p hp)
    rw [hhd] at h1
    rcases hhead p hp c hcp with e | e
    · rw [e] at h1
      exact ⟨h1.1, fun g => by have := h1.2 g; have := hk p hp; omega⟩
    · have h2 : c.ls c0 = false := by
        cases g : c.ls c0 with
        | false => rfl
        | true => rw [ls_trans e g] at h1; cases h1.1
      refine ⟨h2, fun g => ?_⟩
      rw [(ls_ke g p.hd).1, h1.1] at e; cases e
  have hlo0 : ∀ q ∈ m, c0.ls q = false := fun q hq => hlo q hq t List.mem_cons_self c0 (by rw [hc]; exact List.mem_cons_self)
  have hd := dup_iff hm hlo0
  have hlo' : ∀ q ∈ m, ∀ p ∈ rest t tc a cap r, ∀ c ∈ p.c, c.ls q = false := fun q hq p hp c hcp => by
    rcases mem_rest hp with hp | ⟨-, e, -⟩
    · exact hlo q hq p (List.mem_cons_of_mem _ hp) c hcp
    · rw [e] at hcp
      exact hlo q hq t List.mem_cons_self c (by rw [hc]; exact List.mem_cons_of_mem _ hcp)
  have hgood : Good (rest t tc a cap r) := by
    refine ⟨fun p hp => ?_, ?_⟩
    · rcases mem_rest hp with hp | ⟨-, e, g⟩
      · exact hg.1 p (List.mem_cons_of_mem _ hp)
      · rw [e]; exact ⟨g, t2⟩
    · have := hg.2
      rw [List.map_cons, List.nodup_cons] at this
      unfold rest
      split
      · exact this.2
      · rw [List.map_cons, List.nodup_cons]; exact this
  -- what has another key
  have hA : ∀ c, c.ke c0 = false → (Fst (rest t tc a cap r) c ↔ Fst (t :: r) c) := fun c hcc => by
    have hne : c ≠ c0 := fun e => by subst e; rw [ke_refl] at hcc; cases hcc
    constructor
    · rintro ⟨p, hp, hcp, h⟩
      have key : ∀ s : Pile, s.k = p.k → ∀ q ∈ t :: r, q.k < s.k → ∀ d ∈ q.c, d.ke c = false := fun s hs q hq hqk d hdq => by
        rcases List.mem_cons.1 hq with rfl | hq
        · rw [hc] at hdq
          rcases List.mem_cons.1 hdq with rfl | hdq
          · rw [ke_symm]; exact hcc
          · have htc : tc ≠ [] := fun e => by rw [e] at hdq; cases hdq
            exact h ⟨q.k, a, cap, tc⟩ (by unfold rest; rw [if_neg htc]; exact List.mem_cons_self) (by rw [← hs]; exact hqk) d hdq
        · refine h q ?_ (by rw [← hs]; exact hqk) d hdq
          unfold rest; split
          · exact hq
          · exact List.mem_cons_of_mem _ hq
      rcases mem_rest hp with hp | ⟨e1, e2, -⟩
      · exact ⟨p, List.mem_cons_of_mem _ hp, hcp, key p rfl⟩
      · exact ⟨t, List.mem_cons_self, by rw [hc]; rw [e2] at hcp; exact List.mem_cons_of_mem _ hcp, key t e1.symm⟩
    · rintro ⟨p, hp, hcp, h⟩
      have key : ∀ s : Pile, s.k = p.k → ∀ q ∈ rest t tc a cap r, q.k < s.k → ∀ d ∈ q.c, d.ke c = false := fun s hs q hq hqk d hdq => by
        rcases mem_rest hq with hq | ⟨e1, e2, -⟩
        · exact h q (List.mem_cons_of_mem _ hq) (by rw [← hs]; exact hqk) d hdq
        · exact h t List.mem_cons_self (by rw [← hs, ← e1]; exact hqk) d (by rw [hc]; rw [e2] at hdq; exact List.mem_cons_of_mem _ hdq)
      rcases List.mem_cons.1 hp with rfl | hp
      · rw [hc] at hcp
        rcases List.mem_cons.1 hcp with e | hcp
        · exact absurd e hne
        · have htc : tc ≠ [] := fun e => by rw [e] at hcp; cases hcp
          exact ⟨⟨p.k, a, cap, tc⟩, by unfold rest; rw [if_neg htc]; exact List.mem_cons_self, hcp, key _ rfl⟩
      · exact ⟨p, by unfold rest; split; exact hp; exact List.mem_cons_of_mem _ hp, hcp, key p rfl⟩
  -- what has this key
  have hB : ∀ c, c.ke c0 = true → (Fst (t :: r) c ↔ c = c0) := fun c hcc => by
    constructor
    · rintro ⟨p, hp, hcp, h⟩
      rcases List.mem_cons.1 hp with rfl | hp
      · rw [hc] at hcp
        rcases List.mem_cons.1 hcp with e | hcp
        · exact e
        · have := t1 c hcp; rw [(ls_nke this).2] at hcc; cases hcc
      · exfalso
        have h1 := h t List.mem_cons_self ((hr p hp c hcp).2 hcc) c0 (by rw [hc]; exact List.mem_cons_self)
        rw [ke_symm, hcc] at h1; cases h1
    · rintro rfl
      refine ⟨t, List.mem_cons_self, by rw [hc]; exact List.mem_cons_self, fun q hq hqk d hdq => ?_⟩
      rcases List.mem_cons.1 hq with rfl | hq
      · omega
      · cases g : d.ke c with
        | false => rfl
        | true => have := (hr q hq d hdq).2 g; omega
  cases hdu : dup m c0 with
  | true =>
    rw [if_pos rfl]
    obtain ⟨e, he, hek⟩ := hd.1 hdu
    refine ⟨hgood, hm, hlo', fun c => ?_⟩
    rw [hT c]
    refine or_congr Iff.rfl ?_
    by_cases hcc : c.ke c0 = true
    · have : ∀ P : Prop, ¬ (P ∧ ∀ e ∈ m, e.ke c = false) := fun P ⟨_, g⟩ => by
        have := g e he
        rw [ke_trans hek (by rw [ke_symm]; exact hcc)] at this; cases this
      exact ⟨fun g => absurd g (this _), fun g => absurd g (this _)⟩
    · rw [hA c (by simpa using hcc)]
  | false =>
    rw [if_neg (by simp)]
    have hnd : ∀ e ∈ m, e.ke c0 = false := fun e he => by
      cases g : e.ke c0 with
      | false => rfl
      | true => rw [hd.2 ⟨e, he, g⟩] at hdu; cases hdu
    have hmc : ∀ q ∈ m, q.ls c0 = true := fun q hq => ls_tri3 _ _ (hlo0 q hq) (by rw [ke_symm]; exact hnd q hq)
    refine ⟨hgood, List.pairwise_append.2 ⟨hm, by simp, fun x hx y hy => by rw [List.mem_singleton] at hy; subst hy; exact hmc x hx⟩, fun q hq p hp c hcp => ?_, fun c => ?_⟩
    · rcases List.mem_append.1 hq with hq | hq
      · exact hlo' q hq p hp c hcp
      · rw [List.mem_singleton] at hq
        subst hq
        rcases mem_rest hp with hp | ⟨-, e, -⟩
        · exact (hr p hp c hcp).1
        · rw [e] at hcp; exact ls_asym (t1 c hcp)
    · rw [hT c, List.mem_append, List.mem_singleton, or_assoc]
      refine or_congr Iff.rfl ?_
      by_cases hcc : c.ke c0 = true
      · rw [hB c hcc]
        constructor
        · rintro ⟨e, _⟩; exact Or.inl e
        · rintro (e | ⟨_, g⟩)
          · subst e; exact ⟨rfl, hnd⟩
          · have := g c0 (by simp)
            rw [ke_symm, hcc] at this; cases this
      · have hcc' : c.ke c0 = false := by simpa using hcc
        rw [← hA c hcc']
        constructor
        · rintro ⟨g1, g2⟩
          refine Or.inr ⟨g1, fun e he => ?_⟩
          rcases List.mem_append.1 he with he | he
          · exact g2 e he
          · rw [List.mem_singleton] at he; subst he; rw [ke_symm]; exact hcc'
        · rintro (e | ⟨g1, g2⟩)
          · subst e; rw [ke_refl] at hcc'; cases hcc'
          · exact ⟨g1, fun e he => g2 e (List.mem_append_left _ he)⟩
end Go.Proofs.Ytkkpokfekbdigaa.Cl
namespace Go.Proofs.Ytkkpokfekbdigaa.Cl
open Go.RowKit Wd Rp Kp
set_option linter.unusedVariables false
/-- Of one row and bin. -/
def Cel.al (c d : Cel) : Bool := c.r == d.r && c.b == d.b
theorem al_iff (c d : Cel) : c.al d = true ↔ c.r.toList = d.r.toList ∧ c.b.toList = d.b.toList := by
  unfold Cel.al; rw [ba_beq, ba_beq]; simp
theorem al_refl (c : Cel) : c.al c = true := (al_iff c c).2 ⟨rfl, rfl⟩
theorem al_symm (c d : Cel) : c.al d = d.al c := by
  rw [Bool.eq_iff_iff, al_iff, al_iff]; exact ⟨fun ⟨a, b⟩ => ⟨a.symm, b.symm⟩, fun ⟨a, b⟩ => ⟨a.symm, b.symm⟩⟩
theorem al_trans {a b c : Cel} (h : a.al b = true) (k : b.al c = true) : a.al c = true := by
  rw [al_iff] at *; exact ⟨h.1.trans k.1, h.2.trans k.2⟩
/-- Later ones stand first. -/
theorem al_time {c d : Cel} (h : c.ls d = true) (k : c.al d = true) : d.t < c.t := by
  rw [ls_iff] at h
  obtain ⟨k1, k2⟩ := (al_iff c d).1 k
  rw [k1, k2, bl_irr, bl_irr] at h
  rcases h with h | ⟨_, h | ⟨_, h⟩⟩
  · cases h
  · cases h
  · exact h
/-- Between two of one bin there is no other. -/
theorem al_mid {c d e : Cel} (h : c.ls d = true) (k : d.ls e = true) (a : c.al e = true) : c.al d = true := by
  rw [ls_iff] at h k
  rw [al_iff] at a ⊢
  obtain ⟨a1, a2⟩ := a
  rw [← a1, ← a2] at k
  have hr : c.r.toList = d.r.toList := by
    rcases h with h | ⟨h, _⟩
    · rcases k with k | ⟨k, _⟩
      · have := bl_tr h k; rw [bl_irr] at this; cases this
      · exact k.symm
    · exact h
  refine ⟨hr, ?_⟩
  rw [hr, bl_irr] at h k
  rcases h with h | ⟨_, h | ⟨h, _⟩⟩
  · cases h
  · rcases k with k | ⟨_, k | ⟨k, _⟩⟩
    · cases k
    · have := bl_tr h k; rw [bl_irr] at this; cases this
    · exact k.symm
  · exact h
/-- How many at the beginning are of one bin. -/
def grp : List Cel → Nat
  | [] => 0
  | c :: r => 1 + cntP (fun d => d.al c) r
def isGone (l : List Cel) (k : Nat) : Bool := match l[k]? with | none => false | some c => c.g
/-- Gone ones from the end on are dropped, down to lo. -/
def trim (l : List Cel) (lo : Nat) : Nat → Nat
  | 0 => 0
  | k + 1 => if lo ≤ k ∧ isGone l k = true then trim l lo k else k + 1
def lat (l : List Cel) (f : Int) : Nat := cntP (fun c => decide (f < c.t)) l
def kept (l : List Cel) (k : Nat) (f : Int) : Nat := trim l (lat l f) (min (lat l f + k) l.length)
def thinG (l : List Cel) (k : Nat) (f : Int) : List Cel := l.take (kept l k f)
theorem grp_pos {l : List Cel} (h : l ≠ []) : 0 < grp l := by cases l with | nil => exact absurd rfl h | cons c r => simp only [grp]; omega
theorem grp_le (l : List Cel) : grp l ≤ l.length := by
  cases l with
  | nil => exact Nat.le_refl _
  | cons c r => simp only [grp, List.length_cons]; have := (cntP_spec (fun d => d.al c) r).1; omega
def thinL (k : Nat) (f : Int) (l : List Cel) : List Cel :=
  if h : l = [] then [] else thinG (l.take (grp l)) k f ++ thinL k f (l.drop (grp l))
termination_by l.length
decreasing_by
  have := grp_pos h
  have : 0 < l.length := List.length_pos_iff.2 h
  rw [List.length_drop]; omega
theorem thinL_nil (k : Nat) (f : Int) : thinL k f [] = [] := by rw [thinL]; simp
theorem thinL_cons {k : Nat} {f : Int} {l : List Cel} (h : l ≠ []) : thinL k f l = thinG (l.take (grp l)) k f ++ thinL k f (l.drop (grp l)) := by rw [thinL, dif_neg h]
theorem trim_le (l : List Cel) (lo : Nat) : ∀ k, trim l lo k ≤ k
  | 0 => Nat.le_refl _
  | k + 1 => by
    rw [trim]; split
    · have := trim_le l lo k; omega
    · exact Nat.le_refl _
theorem trim_ge (l : List Cel) (lo : Nat) : ∀ k, lo ≤ k → lo ≤ trim l lo k
  | 0, h => by rw [trim]; exact h
  | k + 1, h => by
    rw [trim]; split
    · rename_i e; exact trim_ge l lo k e.1
    · exact h
/-- Where it stops. -/
theorem trim_stop (l : List Cel) (lo : Nat) : ∀ k, lo ≤ k → (trim l lo k = lo ∨ isGone l (trim l lo k - 1) = false) ∧ ∀ j, trim l lo k ≤ j → j < k → isGone l j = true
  | 0, h => by rw [trim]; exact ⟨Or.inl (by omega), fun j _ hj => by omega⟩
  | k + 1, h => by
    rw [trim]; split
    · rename_i e
      obtain ⟨h1, h2⟩ := trim_stop l lo k e.1
      refine ⟨h1, fun j hj hk => ?_⟩
      by_cases ejk : j = k
      · rw [ejk]; exact e.2
      · exact h2 j hj (by omega)
    · rename_i e
      refine ⟨?_, fun j hj hk => by omega⟩
      by_cases hl : lo ≤ k
      · refine Or.inr ?_
        have : ¬ isGone l k = true := fun g => e ⟨hl, g⟩
        rw [Nat.add_sub_cancel]; simpa using this
      · exact Or.inl (by omega)
theorem trim_id {l : List Cel} {lo : Nat} : ∀ {k : Nat}, (k = lo ∨ isGone l (k - 1) = false) → trim l lo k = k
  | 0, _ => rfl
  | k + 1, h => by
    rw [trim, if_neg]
    rintro ⟨h1, h2⟩
    rcases h with h | h
    · omega
    · rw [Nat.add_sub_cancel, h2] at h; cases h
theorem isGone_take {l : List Cel} {n j : Nat} (h : j < n) : isGone (l.take n) j = isGone l j := by unfold isGone; rw [List.getElem?_take_of_lt h]
theorem isGone_drop {l : List Cel} {n j : Nat} : isGone (l.drop n) j = isGone l (n + j) := by unfold isGone; rw [List.getElem?_drop]
theorem trim_shift {l q : List Cel} {lo : Nat} : ∀ {k : Nat}, (∀ j, j < k → isGone l (lo + j) = isGone q j) → trim l lo (lo + k) = lo + trim q 0 k
  | 0, _ => by
    rw [trim, Nat.add_zero]
    exact trim_id (Or.inl rfl)
  | k + 1, h => by
    rw [← Nat.add_assoc, trim, trim, h k (by omega)]
    by_cases e : isGone q k = true
    · rw [if_pos ⟨by omega, e⟩, if_pos ⟨by omega, e⟩]
      exact trim_shift fun j hj => h j (by omega)
    · rw [if_neg (fun g => e g.2), if_neg (fun g => e g.2)]; omega
theorem kept_le (l : List Cel) (k : Nat) (f : Int) : kept l k f ≤ l.length := by
  have := trim_le l (lat l f) (min (lat l f + k) l.length); unfold kept; omega
theorem lat_le (l : List Cel) (f : Int) : lat l f ≤ l.length := (cntP_spec _ l).1
theorem lat_kept (l : List Cel) (k : Nat) (f : Int) : lat l f ≤ kept l k f := by
  unfold kept; exact trim_ge _ _ _ (by have := lat_le l f; omega)
/-- All of one bin, later ones first. -/
def Oneg (l : List Cel) : Prop := Srt l ∧ ∀ c ∈ l, ∀ d ∈ l, c.al d = true
theorem one_grp {l : List Cel} (h : Srt l) : Oneg (l.take (grp l)) := by
  refine ⟨List.Pairwise.sublist (List.take_sublist _ _) h, ?_⟩
  cases l with
  | nil => intro c hc; simp at hc
  | cons x r =>
    have key : ∀ c ∈ (x :: r).take (grp (x :: r)), c.al x = true := by
      intro c hc
      simp only [grp] at hc
      rw [Nat.add_comm, List.take_succ_cons] at hc
      rcases List.mem_cons.1 hc with rfl | hc
      · exact al_refl _
      · obtain ⟨j, hj⟩ := List.mem_iff_getElem?.1 hc
        have hjl := (List.getElem?_eq_some_iff.1 hj).1
        rw [List.length_take] at hjl
        rw [List.getElem?_take_of_lt (by omega)] at hj
        exact (cntP_spec (fun d => d.al x) r).2.1 j c (by omega) hj
    intro c hc d hd
    exact al_trans (key c hc) (by rw [al_symm]; exact key d hd)
/-- No other one of that bin follows. -/
theorem grp_out {l : List Cel} (h : Srt l) : ∀ c ∈ l.take (grp l), ∀ d ∈ l.drop (grp l), c.al d = false := by
  intro c hc d hd
  cases g : c.al d with
  | false => rfl
  | true =>
    exfalso
    cases l with
    | nil => simp at hc
    | cons x r =>
      obtain ⟨h1, h2⟩ := srt_cons.1 h
      have hxc := (one_grp h).2 x (by simp only [grp]; rw [Nat.add_comm, List.take_succ_cons]; exact List.mem_cons_self) c hc
      have hxd := al_trans hxc g
      simp only [grp] at hd
      rw [Nat.add_comm, List.drop_succ_cons] at hd
      obtain ⟨j, hj⟩ := List.mem_iff_getElem?.1 hd
      rw [List.getElem?_drop] at hj
      have hjl := (List.getElem?_eq_some_iff.1 hj).1
      obtain ⟨c1, c2, c3⟩ := cntP_spec (fun d => d.al x) r
      generalize cntP (fun d => d.al x) r = n at *
      obtain ⟨y, hy⟩ : ∃ y, r[n]? = some y := ⟨r[n], List.getElem?_eq_getElem (by omega)⟩
      have hny := c3 y hy
      have hxy := h1 y (List.mem_of_getElem? hy)
      have : x.al y = true := by
        cases j with
        | zero => rw [Nat.add_zero, hy] at hj; cases hj; exact hxd
        | succ j =>
          refine al_mid hxy ?_ hxd
          have e1 := List.getElem?_eq_some_iff.1 hy
          have e2 := List.getElem?_eq_some_iff.1 hj
          obtain ⟨e1, rfl⟩ := e1
          obtain ⟨e2, rfl⟩ := e2
          exact List.pairwise_iff_getElem.1 h2 n (n + (j + 1)) e1 e2 (by omega)
      rw [al_symm] at this
      simp only [this] at hny
      cases hny
theorem thin_sub (k : Nat) (f : Int) : ∀ (n : Nat) (l : List Cel), l.length ≤ n → List.Sublist (thinL k f l) l
  | 0, l, h => by
    obtain rfl : l = [] := List.length_eq_zero_iff.1 (by omega)
    rw [thinL_nil]; exact List.Sublist.refl _
  | n + 1, l, h => by
    by_cases e : l = []
    · subst e; rw [thinL_nil]; exact List.Sublist.refl _
    · rw [thinL_cons e]
      have hp := grp_pos e
      have ih := thin_sub k f n (l.drop (grp l)) (by rw [List.length_drop]; omega)
      have := (List.take_sublist (kept (l.take (grp l)) k f) (l.take (grp l))).append ih
      rwa [List.take_append_drop] at this
theorem thin_subl (k : Nat) (f : Int) (l : List Cel) : List.Sublist (thinL k f l) l := thin_sub k f l.length l (Nat.le_refl _)
theorem one_desc {l : List Cel} (h : Oneg l) {i j : Nat} {c d : Cel} (hij : i < j) (hc : l[i]? = some c) (hd : l[j]? = some d) : d.t < c.t := by
  have e1 := List.getElem?_eq_some_iff.1 hc
  have e2 := List.getElem?_eq_some_iff.1 hd
  refine al_time ?_ (h.2 c (List.mem_of_getElem? hc) d (List.mem_of_getElem? hd))
  obtain ⟨e1, rfl⟩ := e1
  obtain ⟨e2, rfl⟩ := e2
  exact List.pairwise_iff_getElem.1 h.1 i j e1 e2 hij
/-- From place lat on they are not later than f. -/
theorem lat_lo {l : List Cel} (h : Oneg l) {f : Int} {j : Nat} {c : Cel} (hj : lat l f ≤ j) (hc : l[j]? = some c) : c.t ≤ f := by
  obtain ⟨c1, c2, c3⟩ := cntP_spec (fun c => decide (f < c.t)) l
  have hjl := (List.getElem?_eq_some_iff.1 hc).1
  unfold lat at hj
  generalize cntP (fun c => decide (f < c.t)) l = n at *
  obtain ⟨y, hy⟩ : ∃ y, l[n]? = some y := ⟨l[n], List.getElem?_eq_getElem (by omega)⟩
  have hy2 : y.t ≤ f := by have := c3 y hy; simp at this; omega
  by_cases e : n = j
  · subst e; rw [hy] at hc; cases hc; exact hy2
  · have := one_desc h (by omega) hy hc; omega
theorem lat_hi {l : List Cel} {f : Int} {j : Nat} {c : Cel} (hj : j < lat l f) (hc : l[j]? = some c) : f < c.t := by
  have := (cntP_spec (fun c => decide (f < c.t)) l).2.1 j c hj hc; simpa using this
theorem find_take {p : Cel → Bool} : ∀ {l : List Cel} {n j : Nat} {c : Cel}, l[j]? = some c → j < n → p c = true → (l.take n).find? p = l.find? p
  | [], n, j, c, h, _, _ => by simp at h
  | x :: l, 0, j, c, h, hj, _ => by omega
  | x :: l, n + 1, 0, c, h, hj, hp => by
    obtain rfl : x = c := by simpa using h
    rw [List.take_succ_cons, List.find?_cons, List.find?_cons, hp]
  | x :: l, n + 1, j + 1, c, h, hj, hp => by
    rw [List.take_succ_cons, List.find?_cons, List.find?_cons]
    cases p x with
    | true => rfl
    | false => exact find_take (by simpa using h) (by omega) hp
/-- What is found in a thinned bin. -/
theorem thinG_find {l : List Cel} (h : Oneg l) {k : Nat} {f : Int} {K : Cel} (hk : 1 ≤ k) (hf : f ≤ K.t) (ha : ∀ c ∈ l, hit K c = decide (c.t ≤ K.t)) :
    (thinG l k f).find? (hit K) = l.find? (hit K) ∨ ((thinG l k f).find? (hit K) = none ∧ ∃ d, l.find? (hit K) = some d ∧ d.g = true ∧ d.t ≤ f) := by
  unfold thinG
  have hlk := lat_kept l k f
  have hle := lat_le l f
  by_cases hlo : lat l f < kept l k f
  · left
    have hll := kept_le l k f
    obtain ⟨y, hy⟩ : ∃ y, l[lat l f]? = some y := ⟨l[lat l f]'(by omega), List.getElem?_eq_getElem (by omega)⟩
    refine find_take hy hlo ?_
    rw [ha y (List.mem_of_getElem? hy)]
    have := lat_lo h (Nat.le_refl _) hy
    simp; omega
  · have hkk : kept l k f = lat l f := by omega
    rw [hkk]
    by_cases hex : ∃ j c, j < lat l f ∧ l[j]? = some c ∧ hit K c = true
    · obtain ⟨j, c, hj, hc, hp⟩ := hex
      left; exact find_take hc hj hp
    · have hno : ∀ j c, j < lat l f → l[j]? = some c → hit K c = false := fun j c hj hc => by
        cases g : hit K c with
        | false => rfl
        | true => exact absurd ⟨j, c, hj, hc, g⟩ hex
      have hn1 : (l.take (lat l f)).find? (hit K) = none := find_no fun m d hd => by
        have hm := (List.getElem?_eq_some_iff.1 hd).1
        rw [List.length_take] at hm
        rw [List.getElem?_take_of_lt (by omega)] at hd
        exact hno m d (by omega) hd
      by_cases hend : lat l f < l.length
      · right
        refine ⟨hn1, ?_⟩
        obtain ⟨y, hy⟩ : ∃ y, l[lat l f]? = some y := ⟨l[lat l f], List.getElem?_eq_getElem hend⟩
        have hyt := lat_lo h (Nat.le_refl _) hy
        refine ⟨y, find_yes hy hno ?_, ?_, hyt⟩
        · rw [ha y (List.mem_of_getElem? hy)]; simp; omega
        · unfold kept at hkk
          have := (trim_stop l (lat l f) (min (lat l f + k) l.length) (by omega)).2 (lat l f) (by omega) (by omega)
          unfold isGone at this
          rw [hy] at this; exact this
      · left
        rw [List.take_of_length_le (by omega)]
theorem find_app {p : Cel → Bool} (l m : List Cel) : (l ++ m).find? p = (l.find? p).or (m.find? p) := List.find?_append
theorem hit_al {K c : Cel} (h : c.al K = false) : hit K c = false := by
  cases g : hit K c with
  | false => rfl
  | true => obtain ⟨g1, g2, _⟩ := hit_iff.1 g; rw [(al_iff c K).2 ⟨g1, g2⟩] at h; cases h
theorem hit_time {K c : Cel} (h : c.al K = true) : hit K c = decide (c.t ≤ K.t) := by
  obtain ⟨h1, h2⟩ := (al_iff c K).1 h
  rw [Bool.eq_iff_iff, hit_iff]; simp [h1, h2]
theorem thin_find0 {k : Nat} {f : Int} {K : Cel} (hk : 1 ≤ k) (hf : f ≤ K.t) : ∀ (n : Nat) (l : List Cel), l.length ≤ n → Srt l →
    (thinL k f l).find? (hit K) = l.find? (hit K) ∨ ((thinL k f l).find? (hit K) = none ∧ ∃ d, l.find? (hit K) = some d ∧ d.g = true ∧ d.t ≤ f)
  | 0, l, h, _ => by
    obtain rfl : l = [] := List.length_eq_zero_iff.1 (by omega)
    rw [thinL_nil]; exact Or.inl rfl
  | n + 1, l, h, hs => by
    by_cases e : l = []
    · subst e; rw [thinL_nil]; exact Or.inl rfl
    · have hp := grp_pos e
      have hs2 : Srt (l.drop (grp l)) := List.Pairwise.sublist (List.drop_sublist _ _) hs
      have ih := thin_find0 hk hf n (l.drop (grp l)) (by rw [List.length_drop]; omega) hs2
      have hone := one_grp hs
      have hout := grp_out hs
      have hsub := thin_subl k f (l.drop (grp l))
      have hl : l.find? (hit K) = ((l.take (grp l)).find? (hit K)).or ((l.drop (grp l)).find? (hit K)) := by
        rw [← find_app, List.take_append_drop]
      rw [thinL_cons e, find_app, hl]
      obtain ⟨x, hx⟩ : ∃ x, x ∈ l.take (grp l) := by
        cases l with
        | nil => exact absurd rfl e
        | cons x r => exact ⟨x, by simp only [grp]; rw [Nat.add_comm, List.take_succ_cons]; exact List.mem_cons_self⟩
      generalize l.take (grp l) = g at *
      generalize l.drop (grp l) = r at *
      by_cases ha : x.al K = true
      · have h1 : ∀ c ∈ r, hit K c = false := fun c hc => hit_al (by
          cases q : c.al K with
          | false => rfl
          | true => have := hout x hx c hc; rw [al_trans ha (by rw [al_symm]; exact q)] at this; cases this)
        have h2 : r.find? (hit K) = none := List.find?_eq_none.2 fun c hc => by simp [h1 c hc]
        have h3 : (thinL k f r).find? (hit K) = none := List.find?_eq_none.2 fun c hc => by simp [h1 c (hsub.mem hc)]
        rw [h2, h3, Option.or_none, Option.or_none]
        exact thinG_find hone hk hf fun c hc => hit_time (al_trans (hone.2 c hc x hx) ha)
      · have h1 : ∀ c ∈ g, hit K c = false := fun c hc => hit_al (by
          cases q : c.al K with
          | false => rfl
          | true => exact absurd (al_trans (hone.2 x hx c hc) q) ha)
        have h2 : g.find? (hit K) = none := List.find?_eq_none.2 fun c hc => by simp [h1 c hc]
        have h3 : (thinG g k f).find? (hit K) = none := List.find?_eq_none.2 fun c hc => by simp [h1 c (List.mem_of_mem_take hc)]
        rw [h2, h3, Option.none_or, Option.none_or]
        exact ih
/-- Thinned again. -/
theorem thinG_again {l : List Cel} (h : Oneg l) (k : Nat) (f : Int) : thinG (thinG l k f) k f = thinG l k f := by
  have hlk := lat_kept l k f
  have hle := lat_le l f
  have hkl := kept_le l k f
  have hlat : lat (l.take (kept l k f)) f = lat l f := by
    refine cntP_eq (by rw [List.length_take]; omega) (fun m c hm hc => ?_) (fun c hc => ?_)
    · rw [List.getElem?_take_of_lt (by omega)] at hc
      have := lat_hi hm hc; simpa using this
    · have hcl := (List.getElem?_eq_some_iff.1 hc).1
      rw [List.length_take] at hcl
      rw [List.getElem?_take_of_lt (by omega)] at hc
      have := lat_lo h (Nat.le_refl _) hc
      simp; omega
  have hlen : (l.take (kept l k f)).length = kept l k f := by rw [List.length_take]; omega
  have hk2 : kept (l.take (kept l k f)) k f = kept l k f := by
    show trim _ (lat (l.take (kept l k f)) f) (min (lat (l.take (kept l k f)) f + k) (l.take (kept l k f)).length) = _
    rw [hlat, hlen]
    have hbd : kept l k f ≤ lat l f + k := by
      have := trim_le l (lat l f) (min (lat l f + k) l.length)
      unfold kept; omega
    rw [Nat.min_eq_right hbd]
    have hst := (trim_stop l (lat l f) (min (lat l f + k) l.length) (by omega)).1
    refine trim_id ?_
    rcases hst with hst | hst
    · exact Or.inl hst
    · by_cases e : kept l k f = 0
      · exact Or.inl (by omega)
      · refine Or.inr ?_
        rw [isGone_take (by omega)]; exact hst
  show (l.take (kept l k f)).take (kept (l.take (kept l k f)) k f) = _
  rw [hk2, List.take_take, Nat.min_self]; rfl
theorem grp_app {g r : List Cel} (hg : Oneg g) (hne : g ≠ []) (hr : ∀ c ∈ g, ∀ d ∈ r, c.al d = false) : grp (g ++ r) = g.length := by
  cases g with
  | nil => exact absurd rfl hne
  | cons x g =>
    rw [List.cons_append, grp, List.length_cons, Nat.add_comm]
    congr 1
    refine cntP_eq (by rw [List.length_append]; omega) (fun m c hm hc => ?_) (fun c hc => ?_)
    · rw [List.getElem?_append_left hm] at hc
      exact hg.2 c (List.mem_cons_of_mem _ (List.mem_of_getElem? hc)) x List.mem_cons_self
    · rw [List.getElem?_append_right (Nat.le_refl _)] at hc
      show c.al x = false
      rw [al_symm]; exact hr x List.mem_cons_self c (List.mem_of_getElem? hc)
theorem thin_again0 (k : Nat) (f : Int) : ∀ (n : Nat) (l : List Cel), l.length ≤ n → Srt l → thinL k f (thinL k f l) = thinL k f l
  | 0, l, h, _ => by
    obtain rfl : l = [] := List.length_eq_zero_iff.1 (by omega)
    rw [thinL_nil, thinL_nil]
  | n + 1, l, h, hs => by
    by_cases e : l = []
    · subst e; rw [thinL_nil, thinL_nil]
    · have hp := grp_pos e
      have hs2 : Srt (l.drop (grp l)) := List.Pairwise.sublist (List.drop_sublist _ _) hs
      have ih := thin_again0 k f n (l.drop (grp l)) (by rw [List.length_drop]; omega) hs2
      have hone := one_grp hs
      have hout := grp_out hs
      have hsub := thin_subl k f (l.drop (grp l))
      rw [thinL_cons e]
      generalize l.take (grp l) = g at *
      generalize l.drop (grp l) = r at *
      by_cases en : thinG g k f = []
      · rw [en, List.nil_append, ih]
      · have h1 : Oneg (thinG g k f) := ⟨List.Pairwise.sublist (List.take_sublist _ _) hone.1, fun c hc d hd => hone.2 c (List.mem_of_mem_take hc) d (List.mem_of_mem_take hd)⟩
        have hg := grp_app h1 en (r := thinL k f r) fun c hc d hd => hout c (List.mem_of_mem_take hc) d (hsub.mem hd)
        rw [thinL_cons (by simp [en]), hg, List.take_left, List.drop_left, thinG_again hone, ih]
theorem thin_again {l : List Cel} (k : Nat) (f : Int) (h : Srt l) : thinL k f (thinL k f l) = thinL k f l := thin_again0 k f l.length l (Nat.le_refl _) h
theorem thin_find {l : List Cel} {k : Nat} {f : Int} {K : Cel} (h : Srt l) (hk : 1 ≤ k) (hf : f ≤ K.t) :
    findL (thinL k f l) K = findL l K ∨ (findL (thinL k f l) K = none ∧ ∃ d, findL l K = some d ∧ d.g = true ∧ d.t ≤ f) := thin_find0 hk hf l.length l (Nat.le_refl _) h
/-- As the specification gathers them. -/
def stp (k : Nat) (f : Int) (s : List Cel × List Cel) (c : Cel) : List Cel × List Cel := if f < c.t then (s.1 ++ [c], s.2) else if s.2.length < k then (s.1, s.2 ++ [c]) else s
theorem stp_lo (k : Nat) (f : Int) (o : List Cel) : ∀ (l q : List Cel), (∀ c ∈ l, c.t ≤ f) → l.foldl (stp k f) (o, q) = (o, q ++ l.take (k - q.length))
  | [], q, _ => by simp
  | c :: l, q, h => by
    have hc := h c List.mem_cons_self
    rw [List.foldl_cons]
    have e : stp k f (o, q) c = if q.length < k then (o, q ++ [c]) else (o, q) := by unfold stp; rw [if_neg (by omega)]
    rw [e]
    by_cases hq : q.length < k
    · rw [if_pos hq, stp_lo k f o l _ (fun d hd => h d (List.mem_cons_of_mem _ hd)), List.length_append, List.length_singleton, List.append_assoc]
      congr 2
      rw [show k - q.length = (k - (q.length + 1)) + 1 by omega, List.take_succ_cons]; rfl
    · rw [if_neg hq, stp_lo k f o l _ (fun d hd => h d (List.mem_cons_of_mem _ hd)), show k - q.length = 0 by omega]; simp
theorem stp_hi (k : Nat) (f : Int) : ∀ (l o q : List Cel), (∀ c ∈ l, f < c.t) → l.foldl (stp k f) (o, q) = (o ++ l, q)
  | [], o, q, _ => by simp
  | c :: l, o, q, h => by
    have hc := h c List.mem_cons_self
    rw [List.foldl_cons]
    have e : stp k f (o, q) c = (o ++ [c], q) := by unfold stp; rw [if_pos hc]
    rw [e, stp_hi k f l _ _ (fun d hd => h d (List.mem_cons_of_mem _ hd))]; simp
theorem stp_all {g : List Cel} (h : Oneg g) (k : Nat) (f : Int) (o : List Cel) : g.foldl (stp k f) (o, []) = (o ++ g.take (lat g f), (g.drop (lat g f)).take k) := by
  have h1 : ∀ c ∈ g.drop (lat g f), c.t ≤ f := fun c hc => by
    obtain ⟨j, hj⟩ := List.mem_iff_getElem?.1 hc
    rw [List.getElem?_drop] at hj
    exact lat_lo h (by omega) hj
  have h2 : ∀ c ∈ g.take (lat g f), f < c.t := fun c hc => by
    obtain ⟨j, hj⟩ := List.mem_iff_getElem?.1 hc
    have hjl := (List.getElem?_eq_some_iff.1 hj).1
    rw [List.length_take] at hjl
    rw [List.getElem?_take_of_lt (by omega)] at hj
    exact lat_hi (by omega) hj
  conv => lhs; rw [← List.take_append_drop (lat g f) g]
  rw [List.foldl_append, stp_hi k f _ o [] h2, stp_lo k f _ _ [] h1]
  simp
/-- What the specification puts together is the thinned bin. -/
theorem thinG_is (g : List Cel) (k : Nat) (f : Int) : thinG g k f = g.take (lat g f) ++ ((g.drop (lat g f)).take k).take (trim ((g.drop (lat g f)).take k) 0 ((g.drop (lat g f)).take k).length) := by
  have hle := lat_le g f
  unfold thinG kept
  generalize hn : lat g f = n at *
  have hlen : ((g.drop n).take k).length = min k (g.length - n) := by rw [List.length_take, List.length_drop]
  have hm : min (n + k) g.length = n + ((g.drop n).take k).length := by rw [hlen]; omega
  rw [hm, trim_shift (q := (g.drop n).take k) (fun j hj => by rw [hlen] at hj; rw [isGone_take (by omega), isGone_drop])]
  have ht := trim_le ((g.drop n).take k) 0 ((g.drop n).take k).length
  have hk : ((g.drop n).take k).length ≤ k := by rw [hlen]; omega
  rw [List.take_take, Nat.min_eq_left (Nat.le_trans ht hk)]
  rw [List.take_add]
end Go.Proofs.Ytkkpokfekbdigaa.Cl
