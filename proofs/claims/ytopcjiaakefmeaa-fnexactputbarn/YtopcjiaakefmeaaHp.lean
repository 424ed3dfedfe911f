/-
  Plain facts on a heap in a list: two places swapped; what holds while a place sinks ('Sink') and while one rises ('Rise'); a heap's first is its least.
-/
namespace Go.Proofs.Ytopcjiaakefmeaa.Hp
set_option linter.unusedVariables false
section
variable {α : Type}
/-- Places i and j swapped, p and q lying there. -/
def swp (l : List α) (i j : Nat) (p q : α) : List α := (l.set i q).set j p
theorem set_perm : ∀ (l : List α) (j : Nat) (x y : α), l[j]? = some y → List.Perm (y :: l.set j x) (x :: l)
  | [], j, x, y, h => by simp at h
  | z :: l, 0, x, y, h => by
    obtain rfl : z = y := by simpa using h
    exact List.Perm.swap _ _ _
  | z :: l, j + 1, x, y, h => by
    have ih := set_perm l j x y (by simpa using h)
    rw [List.set_cons_succ]
    exact (List.Perm.swap _ _ _).trans ((ih.cons z).trans (List.Perm.swap _ _ _))
theorem swp_perm : ∀ (l : List α) (i j : Nat) (p q : α), l[i]? = some p → l[j]? = some q → List.Perm (swp l i j p q) l
  | [], i, j, p, q, h, _ => by simp at h
  | z :: l, 0, 0, p, q, h, k => by
    obtain rfl : z = p := by simpa using h
    exact List.Perm.refl _
  | z :: l, 0, j + 1, p, q, h, k => by
    obtain rfl : z = p := by simpa using h
    exact set_perm l j z q (by simpa using k)
  | z :: l, i + 1, 0, p, q, h, k => by
    obtain rfl : z = q := by simpa using k
    exact set_perm l i z p (by simpa using h)
  | z :: l, i + 1, j + 1, p, q, h, k => (swp_perm l i j p q (by simpa using h) (by simpa using k)).cons z
theorem swp_len (l : List α) (i j : Nat) (p q : α) : (swp l i j p q).length = l.length := by unfold swp; rw [List.length_set, List.length_set]
theorem swp_get {l : List α} {i j m : Nat} {p q : α} (hi : i < l.length) (hj : j < l.length) : (swp l i j p q)[m]? = if m = j then some p else if m = i then some q else l[m]? := by
  unfold swp
  by_cases h : m = j
  · subst h; rw [if_pos rfl, List.getElem?_set_self (by rw [List.length_set]; exact hj)]
  · rw [if_neg h, List.getElem?_set_ne (Ne.symm h)]
    by_cases k : m = i
    · subst k; rw [if_pos rfl, List.getElem?_set_self hi]
    · rw [if_neg k, List.getElem?_set_ne (Ne.symm k)]
/-- What an order must be. -/
structure Ord (lt : α → α → Bool) : Prop where
  tr : ∀ a b c, lt b a = false → lt c b = false → lt c a = false
  asym : ∀ a b, lt a b = true → lt b a = false
/-- The child m is not ahead of its parent, among the first n. -/
def Ed (lt : α → α → Bool) (l : List α) (m : Nat) : Prop := ∀ x y, l[m]? = some x → l[(m - 1) / 2]? = some y → lt x y = false
def Heap (lt : α → α → Bool) (l : List α) (n : Nat) : Prop := ∀ m, 0 < m → m < n → Ed lt l m
/-- All is well but below i; what stands above i is ahead of what stands below it. -/
def Sink (lt : α → α → Bool) (l : List α) (n i : Nat) : Prop := (∀ m, 0 < m → m < n → (m - 1) / 2 ≠ i → Ed lt l m) ∧ ∀ m, 0 < m → m < n → (m - 1) / 2 = i → 0 < i → ∀ x y, l[m]? = some x → l[(i - 1) / 2]? = some y → lt x y = false
/-- All is well but above j; what stands above j is ahead of what stands below it. -/
def Rise (lt : α → α → Bool) (l : List α) (n j : Nat) : Prop := (∀ m, 0 < m → m < n → m ≠ j → Ed lt l m) ∧ ∀ m, 0 < m → m < n → (m - 1) / 2 = j → 0 < j → ∀ x y, l[m]? = some x → l[(j - 1) / 2]? = some y → lt x y = false
theorem Heap.rise {lt : α → α → Bool} (O : Ord lt) {l : List α} {n j : Nat} (h : Heap lt l n) (hj : j < n) (hn : n ≤ l.length) : Rise lt l n j := by
  refine ⟨fun m h0 h1 _ => h m h0 h1, fun m h0 h1 hm hj0 x y hx hy => ?_⟩
  obtain ⟨z, hz⟩ : ∃ z, l[j]? = some z := ⟨l[j], List.getElem?_eq_getElem (by omega)⟩
  exact O.tr _ z _ (h j hj0 hj z y hz hy) (h m h0 h1 x z hx (by rw [hm]; exact hz))
theorem Rise.top {lt : α → α → Bool} {l : List α} {n : Nat} (h : Rise lt l n 0) : Heap lt l n := fun m h0 h1 => h.1 m h0 h1 (by omega)
theorem Rise.stop {lt : α → α → Bool} {l : List α} {n j : Nat} {p q : α} (h : Rise lt l n j) (hp : l[j]? = some p) (hq : l[(j - 1) / 2]? = some q) (hl : lt p q = false) : Heap lt l n := fun m h0 h1 => by
  by_cases e : m = j
  · subst e; intro x y hx hy; rw [hp] at hx; rw [hq] at hy; cases hx; cases hy; exact hl
  · exact h.1 m h0 h1 e
theorem Rise.up {lt : α → α → Bool} (O : Ord lt) {l : List α} {n j i : Nat} {p q : α} (h : Rise lt l n j) (hn : n ≤ l.length) (hj0 : 0 < j) (hj : j < n) (hi : i = (j - 1) / 2) (hp : l[i]? = some p) (hq : l[j]? = some q) (hl : lt q p = true) :
    Rise lt (swp l i j p q) n i := by
  have hil : i < l.length := by omega
  have hjl : j < l.length := by omega
  have hqp := O.asym _ _ hl
  refine ⟨fun m h0 h1 hmi x y hx hy => ?_, fun m h0 h1 hm hi0 x y hx hy => ?_⟩
  · rw [swp_get hil hjl] at hx hy
    by_cases e : m = j
    · subst e
      rw [if_pos rfl] at hx
      rw [if_neg (by omega), if_pos hi.symm] at hy
      cases hx; cases hy; exact hqp
    · rw [if_neg e, if_neg hmi] at hx
      by_cases e2 : (m - 1) / 2 = j
      · rw [if_pos e2] at hy
        cases hy
        exact h.2 m h0 h1 e2 hj0 x p hx (by rw [← hi]; exact hp)
      · rw [if_neg e2] at hy
        by_cases e3 : (m - 1) / 2 = i
        · rw [if_pos e3] at hy
          cases hy
          exact O.tr _ p _ hqp (h.1 m h0 h1 e x p hx (by rw [e3]; exact hp))
        · rw [if_neg e3] at hy
          exact h.1 m h0 h1 e x y hx hy
  · rw [swp_get hil hjl] at hx hy
    rw [if_neg (by omega), if_neg (by omega)] at hy
    have hpy : lt p y = false := h.1 i hi0 (by omega) (by omega) p y hp hy
    by_cases e : m = j
    · rw [if_pos e] at hx; cases hx; exact hpy
    · rw [if_neg e, if_neg (by omega)] at hx
      exact O.tr _ p _ hpy (h.1 m h0 h1 e x p hx (by rw [hm]; exact hp))
theorem Sink.leaf {lt : α → α → Bool} {l : List α} {n i : Nat} (h : Sink lt l n i) (hi : n ≤ 2 * i + 1) : Heap lt l n := fun m h0 h1 => h.1 m h0 h1 (by omega)
/-- j is the child of i that is ahead of the other. -/
def Least (lt : α → α → Bool) (l : List α) (n i j : Nat) : Prop := j < n ∧ (j = 2 * i + 1 ∨ j = 2 * i + 2) ∧ ∀ m x y, m < n → 0 < m → (m - 1) / 2 = i → l[m]? = some x → l[j]? = some y → lt x y = false
theorem Sink.stop {lt : α → α → Bool} (O : Ord lt) {l : List α} {n i j : Nat} {p q : α} (h : Sink lt l n i) (hL : Least lt l n i j) (hp : l[i]? = some p) (hq : l[j]? = some q) (hl : lt q p = false) : Heap lt l n := fun m h0 h1 => by
  by_cases e : (m - 1) / 2 = i
  · intro x y hx hy
    rw [e, hp] at hy
    cases hy
    exact O.tr _ q _ hl (hL.2.2 m x q h1 h0 e hx hq)
  · exact h.1 m h0 h1 e
theorem Sink.down {lt : α → α → Bool} (O : Ord lt) {l : List α} {n i j : Nat} {p q : α} (h : Sink lt l n i) (hn : n ≤ l.length) (hL : Least lt l n i j) (hp : l[i]? = some p) (hq : l[j]? = some q) (hl : lt q p = true) :
    Sink lt (swp l i j p q) n j := by
  obtain ⟨hjn, hj, hmin⟩ := hL
  have hil : i < l.length := by omega
  have hjl : j < l.length := by omega
  have hqp := O.asym _ _ hl
  have hpj : (j - 1) / 2 = i := by omega
  refine ⟨fun m h0 h1 hmj x y hx hy => ?_, fun m h0 h1 hm hj0 x y hx hy => ?_⟩
  · rw [swp_get hil hjl] at hx hy
    rw [if_neg hmj] at hy
    by_cases e : m = j
    · subst e
      rw [if_pos rfl] at hx
      rw [if_pos hpj] at hy
      cases hx; cases hy; exact hqp
    · rw [if_neg e] at hx
      by_cases e2 : m = i
      · subst e2
        rw [if_pos rfl] at hx
        rw [if_neg (by omega)] at hy
        cases hx
        exact h.2 j (by omega) hjn hpj h0 q y hq hy
      · rw [if_neg e2] at hx
        by_cases e3 : (m - 1) / 2 = i
        · rw [if_pos e3] at hy
          cases hy
          exact hmin m x q h1 h0 e3 hx hq
        · rw [if_neg e3] at hy
          exact h.1 m h0 h1 e3 x y hx hy
  · rw [swp_get hil hjl] at hx hy
    rw [hpj, if_neg (by omega), if_pos rfl] at hy
    rw [if_neg (by omega), if_neg (by omega)] at hx
    cases hy
    exact h.1 m h0 h1 (by omega) x q hx (by rw [hm]; exact hq)
theorem Heap.least {lt : α → α → Bool} (O : Ord lt) {l : List α} {n : Nat} (h : Heap lt l n) (hn : n ≤ l.length) {t : α} (ht : l[0]? = some t) (irr : lt t t = false) : ∀ m x, m < n → l[m]? = some x → lt x t = false := by
  intro m
  induction m using Nat.strongRecOn with
  | _ m ih =>
    intro x hm hx
    by_cases e : m = 0
    · subst e; rw [ht] at hx; cases hx; exact irr
    · obtain ⟨z, hz⟩ : ∃ z, l[(m - 1) / 2]? = some z := ⟨l[(m - 1) / 2], List.getElem?_eq_getElem (by omega)⟩
      exact O.tr _ z _ (ih _ (by omega) z (by omega) hz) (h m (by omega) hm x z hx hz)
/-- Which child is ahead. -/
theorem least_right {lt : α → α → Bool} (O : Ord lt) (irr : ∀ x, lt x x = false) {l : List α} {n i : Nat} {p q : α} (h : 2 * i + 2 < n) (hp : l[2 * i + 2]? = some p) (hq : l[2 * i + 1]? = some q) (hl : lt p q = true) : Least lt l n i (2 * i + 2) := by
  refine ⟨h, Or.inr rfl, fun m x y hm h0 he hx hy => ?_⟩
  rw [hp] at hy; cases hy
  by_cases e : m = 2 * i + 2
  · subst e; rw [hp] at hx; cases hx; exact irr _
  · obtain rfl : m = 2 * i + 1 := by omega
    rw [hq] at hx; cases hx; exact O.asym _ _ hl
theorem least_left {lt : α → α → Bool} (irr : ∀ x, lt x x = false) {l : List α} {n i : Nat} {p q : α} (h : 2 * i + 2 < n) (hp : l[2 * i + 2]? = some p) (hq : l[2 * i + 1]? = some q) (hl : lt p q = false) : Least lt l n i (2 * i + 1) := by
  refine ⟨by omega, Or.inl rfl, fun m x y hm h0 he hx hy => ?_⟩
  rw [hq] at hy; cases hy
  by_cases e : m = 2 * i + 2
  · subst e; rw [hp] at hx; cases hx; exact hl
  · obtain rfl : m = 2 * i + 1 := by omega
    rw [hq] at hx; cases hx; exact irr _
theorem least_only {lt : α → α → Bool} (irr : ∀ x, lt x x = false) {l : List α} {n i : Nat} (h : 2 * i + 1 < n) (h2 : ¬ 2 * i + 2 < n) : Least lt l n i (2 * i + 1) := by
  refine ⟨h, Or.inl rfl, fun m x y hm h0 he hx hy => ?_⟩
  obtain rfl : m = 2 * i + 1 := by omega
  rw [hx] at hy; cases hy; exact irr _
theorem swp_far {l : List α} {i j m : Nat} {p q : α} (hi : i < l.length) (hj : j < l.length) (h1 : m ≠ i) (h2 : m ≠ j) : (swp l i j p q)[m]? = l[m]? := by rw [swp_get hi hj, if_neg h2, if_neg h1]
theorem Heap.nothing (lt : α → α → Bool) (l : List α) : Heap lt l 0 := fun m _ h => by omega
/-- One behind a heap may have to rise. -/
theorem Heap.push {lt : α → α → Bool} {l : List α} (h : Heap lt l l.length) (p : α) : Rise lt (l ++ [p]) (l.length + 1) l.length := by
  refine ⟨fun m h0 h1 hm x y hx hy => ?_, fun m h0 h1 hm => by omega⟩
  rw [List.getElem?_append_left (by omega)] at hx hy
  exact h m h0 (by omega) x y hx hy
/-- With another on top it may have to sink. -/
theorem Heap.fix {lt : α → α → Bool} {l m : List α} {n : Nat} (h : Heap lt l n) (he : ∀ k, 0 < k → k < n → m[k]? = l[k]?) : Sink lt m n 0 := by
  refine ⟨fun k h0 h1 hk x y hx hy => ?_, fun k h0 h1 hm hi => by omega⟩
  rw [he k h0 h1] at hx
  rw [he _ (by omega) (by omega)] at hy
  exact h k h0 h1 x y hx hy
theorem Heap.cong {lt : α → α → Bool} {l m : List α} {n : Nat} (h : Heap lt l n) (he : ∀ k, k < n → m[k]? = l[k]?) : Heap lt m n := fun k h0 h1 x y hx hy => by
  rw [he k h1] at hx
  rw [he _ (by omega)] at hy
  exact h k h0 h1 x y hx hy
end
end Go.Proofs.Ytopcjiaakefmeaa.Hp
