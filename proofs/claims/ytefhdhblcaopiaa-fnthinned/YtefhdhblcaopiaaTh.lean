/-
  Plain facts on thinning: cells of one bin ('al'), how many of them stay ('kept'), a list thinned ('thinL'); what is found in it from a time on; thinned again it is the same.
-/
import Derived.Test.YtefhdhblcaopiaaMa
namespace Go.Proofs.Ytefhdhblcaopiaa.Cl
open Go.RowKit Wd Rp Kp
set_option linter.unusedVariables false
/-- Of one row and bin. -/
def Cel.al (c d : Cel) : Bool := c.r == d.r && c.b == d.b
theorem al_iff (c d : Cel) : c.al d = true ↔ c.r.toList = d.r.toList ∧ c.b.toList = d.b.toList := by
  unfold Cel.al; rw [ba_beq, ba_beq]; simp
theorem al_refl (c : Cel) : c.al c = true := (al_iff c c).2 ⟨rfl, rfl⟩
theorem al_symm (c d : Cel) : c.al d = d.al c := by
  rw [Bool.eq_iff_iff, al_iff, al_iff]; exact ⟨fun ⟨a, b⟩ => ⟨a.symm, b.symm⟩, fun ⟨a, b⟩ => ⟨a.symm, b.symm⟩⟩
theorem al_trans {a b c : Cel} (h : a.al b = true) (k : b.al c = true) : a.al c = true := by
  rw [al_iff] at *; exact ⟨h.1.trans k.1, h.2.trans k.2⟩
/-- Later ones stand first. -/
theorem al_time {c d : Cel} (h : c.ls d = true) (k : c.al d = true) : d.t < c.t := by
  rw [ls_iff] at h
  obtain ⟨k1, k2⟩ := (al_iff c d).1 k
  rw [k1, k2, bl_irr, bl_irr] at h
  rcases h with h | ⟨_, h | ⟨_, h⟩⟩
  · cases h
  · cases h
  · exact h
/-- Between two of one bin there is no other. -/
theorem al_mid {c d e : Cel} (h : c.ls d = true) (k : d.ls e = true) (a : c.al e = true) : c.al d = true := by
  rw [ls_iff] at h k
  rw [al_iff] at a ⊢
  obtain ⟨a1, a2⟩ := a
  rw [← a1, ← a2] at k
  have hr : c.r.toList = d.r.toList := by
    rcases h with h | ⟨h, _⟩
    · rcases k with k | ⟨k, _⟩
      · have := bl_tr h k; rw [bl_irr] at this; cases this
      · exact k.symm
    · exact h
  refine ⟨hr, ?_⟩
  rw [hr, bl_irr] at h k
  rcases h with h | ⟨_, h | ⟨h, _⟩⟩
  · cases h
  · rcases k with k | ⟨_, k | ⟨k, _⟩⟩
    · cases k
    · have := bl_tr h k; rw [bl_irr] at this; cases this
    · exact k.symm
  · exact h
/-- How many at the beginning are of one bin. -/
def grp : List Cel → Nat
  | [] => 0
  | c :: r => 1 + cntP (fun d => d.al c) r
def isGone (l : List Cel) (k : Nat) : Bool := match l[k]? with | none => false | some c => c.g
/-- Gone ones from the end on are dropped, down to lo. -/
def trim (l : List Cel) (lo : Nat) : Nat → Nat
  | 0 => 0
  | k + 1 => if lo ≤ k ∧ isGone l k = true then trim l lo k else k + 1
def lat (l : List Cel) (f : Int) : Nat := cntP (fun c => decide (f < c.t)) l
def kept (l : List Cel) (k : Nat) (f : Int) : Nat := trim l (lat l f) (min (lat l f + k) l.length)
def thinG (l : List Cel) (k : Nat) (f : Int) : List Cel := l.take (kept l k f)
theorem grp_pos {l : List Cel} (h : l ≠ []) : 0 < grp l := by cases l with | nil => exact absurd rfl h | cons c r => simp only [grp]; omega
theorem grp_le (l : List Cel) : grp l ≤ l.length := by
  cases l with
  | nil => exact Nat.le_refl _
  | cons c r => simp only [grp, List.length_cons]; have := (cntP_spec (fun d => d.al c) r).1; omega
def thinL (k : Nat) (f : Int) (l : List Cel) : List Cel :=
  if h : l = [] then [] else thinG (l.take (grp l)) k f ++ thinL k f (l.drop (grp l))
termination_by l.length
decreasing_by
  have := grp_pos h
  have : 0 < l.length := List.length_pos_iff.2 h
  rw [List.length_drop]; omega
theorem thinL_nil (k : Nat) (f : Int) : thinL k f [] = [] := by rw [thinL]; simp
theorem thinL_cons {k : Nat} {f : Int} {l : List Cel} (h : l ≠ []) : thinL k f l = thinG (l.take (grp l)) k f ++ thinL k f (l.drop (grp l)) := by rw [thinL, dif_neg h]
theorem trim_le (l : List Cel) (lo : Nat) : ∀ k, trim l lo k ≤ k
  | 0 => Nat.le_refl _
  | k + 1 => by
    rw [trim]; split
    · have := trim_le l lo k; omega
    · exact Nat.le_refl _
theorem trim_ge (l : List Cel) (lo : Nat) : ∀ k, lo ≤ k → lo ≤ trim l lo k
  | 0, h => by rw [trim]; exact h
  | k + 1, h => by
    rw [trim]; split
    · rename_i e; exact trim_ge l lo k e.1
    · exact h
/-- Where it stops. -/
theorem trim_stop (l : List Cel) (lo : Nat) : ∀ k, lo ≤ k → (trim l lo k = lo ∨ isGone l (trim l lo k - 1) = false) ∧ ∀ j, trim l lo k ≤ j → j < k → isGone l j = true
  | 0, h => by rw [trim]; exact ⟨Or.inl (by omega), fun j _ hj => by omega⟩
  | k + 1, h => by
    rw [trim]; split
    · rename_i e
      obtain ⟨h1, h2⟩ := trim_stop l lo k e.1
      refine ⟨h1, fun j hj hk => ?_⟩
      by_cases ejk : j = k
      · rw [ejk]; exact e.2
      · exact h2 j hj (by omega)
    · rename_i e
      refine ⟨?_, fun j hj hk => by omega⟩
      by_cases hl : lo ≤ k
      · refine Or.inr ?_
        have : ¬ isGone l k = true := fun g => e ⟨hl, g⟩
        rw [Nat.add_sub_cancel]; simpa using this
      · exact Or.inl (by omega)
theorem trim_id {l : List Cel} {lo : Nat} : ∀ {k : Nat}, (k = lo ∨ isGone l (k - 1) = false) → trim l lo k = k
  | 0, _ => rfl
  | k + 1, h => by
    rw [trim, if_neg]
    rintro ⟨h1, h2⟩
    rcases h with h | h
    · omega
    · rw [Nat.add_sub_cancel, h2] at h; cases h
theorem isGone_take {l : List Cel} {n j : Nat} (h : j < n) : isGone (l.take n) j = isGone l j := by unfold isGone; rw [List.getElem?_take_of_lt h]
theorem isGone_drop {l : List Cel} {n j : Nat} : isGone (l.drop n) j = isGone l (n + j) := by unfold isGone; rw [List.getElem?_drop]
theorem trim_shift {l q : List Cel} {lo : Nat} : ∀ {k : Nat}, (∀ j, j < k → isGone l (lo + j) = isGone q j) → trim l lo (lo + k) = lo + trim q 0 k
  | 0, _ => by
    rw [trim, Nat.add_zero]
    exact trim_id (Or.inl rfl)
  | k + 1, h => by
    rw [← Nat.add_assoc, trim, trim, h k (by omega)]
    by_cases e : isGone q k = true
    · rw [if_pos ⟨by omega, e⟩, if_pos ⟨by omega, e⟩]
      exact trim_shift fun j hj => h j (by omega)
    · rw [if_neg (fun g => e g.2), if_neg (fun g => e g.2)]; omega
theorem kept_le (l : List Cel) (k : Nat) (f : Int) : kept l k f ≤ l.length := by
  have := trim_le l (lat l f) (min (lat l f + k) l.length); unfold kept; omega
theorem lat_le (l : List Cel) (f : Int) : lat l f ≤ l.length := (cntP_spec _ l).1
theorem lat_kept (l : List Cel) (k : Nat) (f : Int) : lat l f ≤ kept l k f := by
  unfold kept; exact trim_ge _ _ _ (by have := lat_le l f; omega)
/-- All of one bin, later ones first. -/
def One (l : List Cel) : Prop := Srt l ∧ ∀ c ∈ l, ∀ d ∈ l, c.al d = true
theorem one_grp {l : List Cel} (h : Srt l) : One (l.take (grp l)) := by
  refine ⟨List.Pairwise.sublist (List.take_sublist _ _) h, ?_⟩
  cases l with
  | nil => intro c hc; simp at hc
  | cons x r =>
    have key : ∀ c ∈ (x :: r).take (grp (x :: r)), c.al x = true := by
      intro c hc
      simp only [grp] at hc
      rw [Nat.add_comm, List.take_succ_cons] at hc
      rcases List.mem_cons.1 hc with rfl | hc
      · exact al_refl _
      · obtain ⟨j, hj⟩ := List.mem_iff_getElem?.1 hc
        have hjl := (List.getElem?_eq_some_iff.1 hj).1
        rw [List.length_take] at hjl
        rw [List.getElem?_take_of_lt (by omega)] at hj
        exact (cntP_spec (fun d => d.al x) r).2.1 j c (by omega) hj
    intro c hc d hd
    exact al_trans (key c hc) (by rw [al_symm]; exact key d hd)
/-- No other one of that bin follows. -/
theorem grp_out {l : List Cel} (h : Srt l) : ∀ c ∈ l.take (grp l), ∀ d ∈ l.drop (grp l), c.al d = false := by
  intro c hc d hd
  cases g : c.al d with
  | false => rfl
  | true =>
    exfalso
    cases l with
    | nil => simp at hc
    | cons x r =>
      obtain ⟨h1, h2⟩ := srt_cons.1 h
      have hxc := (one_grp h).2 x (by simp only [grp]; rw [Nat.add_comm, List.take_succ_cons]; exact List.mem_cons_self) c hc
      have hxd := al_trans hxc g
      simp only [grp] at hd
      rw [Nat.add_comm, List.drop_succ_cons] at hd
      obtain ⟨j, hj⟩ := List.mem_iff_getElem?.1 hd
      rw [List.getElem?_drop] at hj
      have hjl := (List.getElem?_eq_some_iff.1 hj).1
      obtain ⟨c1, c2, c3⟩ := cntP_spec (fun d => d.al x) r
      generalize cntP (fun d => d.al x) r = n at *
      obtain ⟨y, hy⟩ : ∃ y, r[n]? = some y := ⟨r[n], List.getElem?_eq_getElem (by omega)⟩
      have hny := c3 y hy
      have hxy := h1 y (List.mem_of_getElem? hy)
      have : x.al y = true := by
        cases j with
        | zero => rw [Nat.add_zero, hy] at hj; cases hj; exact hxd
        | succ j =>
          refine al_mid hxy ?_ hxd
          have e1 := List.getElem?_eq_some_iff.1 hy
          have e2 := List.getElem?_eq_some_iff.1 hj
          obtain ⟨e1, rfl⟩ := e1
          obtain ⟨e2, rfl⟩ := e2
          exact List.pairwise_iff_getElem.1 h2 n (n + (j + 1)) e1 e2 (by omega)
      rw [al_symm] at this
      simp only [this] at hny
      cases hny
theorem thin_sub (k : Nat) (f : Int) : ∀ (n : Nat) (l : List Cel), l.length ≤ n → List.Sublist (thinL k f l) l
  | 0, l, h => by
    obtain rfl : l = [] := List.length_eq_zero_iff.1 (by omega)
    rw [thinL_nil]; exact List.Sublist.refl _
  | n + 1, l, h => by
    by_cases e : l = []
    · subst e; rw [thinL_nil]; exact List.Sublist.refl _
    · rw [thinL_cons e]
      have hp := grp_pos e
      have ih := thin_sub k f n (l.drop (grp l)) (by rw [List.length_drop]; omega)
      have := (List.take_sublist (kept (l.take (grp l)) k f) (l.take (grp l))).append ih
      rwa [List.take_append_drop] at this
theorem thin_subl (k : Nat) (f : Int) (l : List Cel) : List.Sublist (thinL k f l) l := thin_sub k f l.length l (Nat.le_refl _)
theorem one_desc {l : List Cel} (h : One l) {i j : Nat} {c d : Cel} (hij : i < j) (hc : l[i]? = some c) (hd : l[j]? = some d) : d.t < c.t := by
  have e1 := List.getElem?_eq_some_iff.1 hc
  have e2 := List.getElem?_eq_some_iff.1 hd
  refine al_time ?_ (h.2 c (List.mem_of_getElem? hc) d (List.mem_of_getElem? hd))
  obtain ⟨e1, rfl⟩ := e1
  obtain ⟨e2, rfl⟩ := e2
  exact List.pairwise_iff_getElem.1 h.1 i j e1 e2 hij
/-- From place lat on they are not later than f. -/
theorem lat_lo {l : List Cel} (h : One l) {f : Int} {j : Nat} {c : Cel} (hj : lat l f ≤ j) (hc : l[j]? = some c) : c.t ≤ f := by
  obtain ⟨c1, c2, c3⟩ := cntP_spec (fun c => decide (f < c.t)) l
  have hjl := (List.getElem?_eq_some_iff.1 hc).1
  unfold lat at hj
  generalize cntP (fun c => decide (f < c.t)) l = n at *
  obtain ⟨y, hy⟩ : ∃ y, l[n]? = some y := ⟨l[n], List.getElem?_eq_getElem (by omega)⟩
  have hy2 : y.t ≤ f := by have := c3 y hy; simp at this; omega
  by_cases e : n = j
  · subst e; rw [hy] at hc; cases hc; exact hy2
  · have := one_desc h (by omega) hy hc; omega
theorem lat_hi {l : List Cel} {f : Int} {j : Nat} {c : Cel} (hj : j < lat l f) (hc : l[j]? = some c) : f < c.t := by
  have := (cntP_spec (fun c => decide (f < c.t)) l).2.1 j c hj hc; simpa using this
theorem find_take {p : Cel → Bool} : ∀ {l : List Cel} {n j : Nat} {c : Cel}, l[j]? = some c → j < n → p c = true → (l.take n).find? p = l.find? p
  | [], n, j, c, h, _, _ => by simp at h
  | x :: l, 0, j, c, h, hj, _ => by omega
  | x :: l, n + 1, 0, c, h, hj, hp => by
    obtain rfl : x = c := by simpa using h
    rw [List.take_succ_cons, List.find?_cons, List.find?_cons, hp]
  | x :: l, n + 1, j + 1, c, h, hj, hp => by
    rw [List.take_succ_cons, List.find?_cons, List.find?_cons]
    cases p x with
    | true => rfl
    | false => exact find_take (by simpa using h) (by omega) hp
/-- What is found in a thinned bin. -/
theorem thinG_find {l : List Cel} (h : One l) {k : Nat} {f : Int} {K : Cel} (hk : 1 ≤ k) (hf : f ≤ K.t) (ha : ∀ c ∈ l, hit K c = decide (c.t ≤ K.t)) :
    (thinG l k f).find? (hit K) = l.find? (hit K) ∨ ((thinG l k f).find? (hit K) = none ∧ ∃ d, l.find? (hit K) = some d ∧ d.g = true ∧ d.t ≤ f) := by
  unfold thinG
  have hlk := lat_kept l k f
  have hle := lat_le l f
  by_cases hlo : lat l f < kept l k f
  · left
    have hll := kept_le l k f
    obtain ⟨y, hy⟩ : ∃ y, l[lat l f]? = some y := ⟨l[lat l f]'(by omega), List.getElem?_eq_getElem (by omega)⟩
    refine find_take hy hlo ?_
    rw [ha y (List.mem_of_getElem? hy)]
    have := lat_lo h (Nat.le_refl _) hy
    simp; omega
  · have hkk : kept l k f = lat l f := by omega
    rw [hkk]
    by_cases hex : ∃ j c, j < lat l f ∧ l[j]? = some c ∧ hit K c = true
    · obtain ⟨j, c, hj, hc, hp⟩ := hex
      left; exact find_take hc hj hp
    · have hno : ∀ j c, j < lat l f → l[j]? = some c → hit K c = false := fun j c hj hc => by
        cases g : hit K c with
        | false => rfl
        | true => exact absurd ⟨j, c, hj, hc, g⟩ hex
      have hn1 : (l.take (lat l f)).find? (hit K) = none := find_no fun m d hd => by
        have hm := (List.getElem?_eq_some_iff.1 hd).1
        rw [List.length_take] at hm
        rw [List.getElem?_take_of_lt (by omega)] at hd
        exact hno m d (by omega) hd
      by_cases hend : lat l f < l.length
      · right
        refine ⟨hn1, ?_⟩
        obtain ⟨y, hy⟩ : ∃ y, l[lat l f]? = some y := ⟨l[lat l f], List.getElem?_eq_getElem hend⟩
        have hyt := lat_lo h (Nat.le_refl _) hy
        refine ⟨y, find_yes hy hno ?_, ?_, hyt⟩
        · rw [ha y (List.mem_of_getElem? hy)]; simp; omega
        · unfold kept at hkk
          have := (trim_stop l (lat l f) (min (lat l f + k) l.length) (by omega)).2 (lat l f) (by omega) (by omega)
          unfold isGone at this
          rw [hy] at this; exact this
      · left
        rw [List.take_of_length_le (by omega)]
theorem find_app {p : Cel → Bool} (l m : List Cel) : (l ++ m).find? p = (l.find? p).or (m.find? p) := List.find?_append
theorem hit_al {K c : Cel} (h : c.al K = false) : hit K c = false := by
  cases g : hit K c with
  | false => rfl
  | true => obtain ⟨g1, g2, _⟩ := hit_iff.1 g; rw [(al_iff c K).2 ⟨g1, g2⟩] at h; cases h
theorem hit_time {K c : Cel} (h : c.al K = true) : hit K c = decide (c.t ≤ K.t) := by
  obtain ⟨h1, h2⟩ := (al_iff c K).1 h
  rw [Bool.eq_iff_iff, hit_iff]; simp [h1, h2]
theorem thin_find0 {k : Nat} {f : Int} {K : Cel} (hk : 1 ≤ k) (hf : f ≤ K.t) : ∀ (n : Nat) (l : List Cel), l.length ≤ n → Srt l →
    (thinL k f l).find? (hit K) = l.find? (hit K) ∨ ((thinL k f l).find? (hit K) = none ∧ ∃ d, l.find? (hit K) = some d ∧ d.g = true ∧ d.t ≤ f)
  | 0, l, h, _ => by
    obtain rfl : l = [] := List.length_eq_zero_iff.1 (by omega)
    rw [thinL_nil]; exact Or.inl rfl
  | n + 1, l, h, hs => by
    by_cases e : l = []
    · subst e; rw [thinL_nil]; exact Or.inl rfl
    · have hp := grp_pos e
      have hs2 : Srt (l.drop (grp l)) := List.Pairwise.sublist (List.drop_sublist _ _) hs
      have ih := thin_find0 hk hf n (l.drop (grp l)) (by rw [List.length_drop]; omega) hs2
      have hone := one_grp hs
      have hout := grp_out hs
      have hsub := thin_subl k f (l.drop (grp l))
      have hl : l.find? (hit K) = ((l.take (grp l)).find? (hit K)).or ((l.drop (grp l)).find? (hit K)) := by
        rw [← find_app, List.take_append_drop]
      rw [thinL_cons e, find_app, hl]
      obtain ⟨x, hx⟩ : ∃ x, x ∈ l.take (grp l) := by
        cases l with
        | nil => exact absurd rfl e
        | cons x r => exact ⟨x, by simp only [grp]; rw [Nat.add_comm, List.take_succ_cons]; exact List.mem_cons_self⟩
      generalize l.take (grp l) = g at *
      generalize l.drop (grp l) = r at *
      by_cases ha : x.al K = true
      · have h1 : ∀ c ∈ r, hit K c = false := fun c hc => hit_al (by
          cases q : c.al K with
          | false => rfl
          | true => have := hout x hx c hc; rw [al_trans ha (by rw [al_symm]; exact q)] at this; cases this)
        have h2 : r.find? (hit K) = none := List.find?_eq_none.2 fun c hc => by simp [h1 c hc]
        have h3 : (thinL k f r).find? (hit K) = none := List.find?_eq_none.2 fun c hc => by simp [h1 c (hsub.mem hc)]
        rw [h2, h3, Option.or_none, Option.or_none]
        exact thinG_find hone hk hf fun c hc => hit_time (al_trans (hone.2 c hc x hx) ha)
      · have h1 : ∀ c ∈ g, hit K c = false := fun c hc => hit_al (by
          cases q : c.al K with
          | false => rfl
          | true => exact absurd (al_trans (hone.2 x hx c hc) q) ha)
        have h2 : g.find? (hit K) = none := List.find?_eq_none.2 fun c hc => by simp [h1 c hc]
        have h3 : (thinG g k f).find? (hit K) = none := List.find?_eq_none.2 fun c hc => by simp [h1 c (List.mem_of_mem_take hc)]
        rw [h2, h3, Option.none_or, Option.none_or]
        exact ih
/-- Thinned again. -/
theorem thinG_again {l : List Cel} (h : One l) (k : Nat) (f : Int) : thinG (thinG l k f) k f = thinG l k f := by
  have hlk := lat_kept l k f
  have hle := lat_le l f
  have hkl := kept_le l k f
  have hlat : lat (l.take (kept l k f)) f = lat l f := by
    refine cntP_eq (by rw [List.length_take]; omega) (fun m c hm hc => ?_) (fun c hc => ?_)
    · rw [List.getElem?_take_of_lt (by omega)] at hc
      have := lat_hi hm hc; simpa using this
    · have hcl := (List.getElem?_eq_some_iff.1 hc).1
      rw [List.length_take] at hcl
      rw [List.getElem?_take_of_lt (by omega)] at hc
      have := lat_lo h (Nat.le_refl _) hc
      simp; omega
  have hlen : (l.take (kept l k f)).length = kept l k f := by rw [List.length_take]; omega
  have hk2 : kept (l.take (kept l k f)) k f = kept l k f := by
    show trim _ (lat (l.take (kept l k f)) f) (min (lat (l.take (kept l k f)) f + k) (l.take (kept l k f)).length) = _
    rw [hlat, hlen]
    have hbd : kept l k f ≤ lat l f + k := by
      have := trim_le l (lat l f) (min (lat l f + k) l.length)
      unfold kept; omega
    rw [Nat.min_eq_right hbd]
    have hst := (trim_stop l (lat l f) (min (lat l f + k) l.length) (by omega)).1
    refine trim_id ?_
    rcases hst with hst | hst
    · exact Or.inl hst
    · by_cases e : kept l k f = 0
      · exact Or.inl (by omega)
      · refine Or.inr ?_
        rw [isGone_take (by omega)]; exact hst
  show (l.take (kept l k f)).take (kept (l.take (kept l k f)) k f) = _
  rw [hk2, List.take_take, Nat.min_self]; rfl
theorem grp_app {g r : List Cel} (hg : One g) (hne : g ≠ []) (hr : ∀ c ∈ g, ∀ d ∈ r, c.al d = false) : grp (g ++ r) = g.length := by
  cases g with
  | nil => exact absurd rfl hne
  | cons x g =>
    rw [List.cons_append, grp, List.length_cons, Nat.add_comm]
    congr 1
    refine cntP_eq (by rw [List.length_append]; omega) (fun m c hm hc => ?_) (fun c hc => ?_)
    · rw [List.getElem?_append_left hm] at hc
      exact hg.2 c (List.mem_cons_of_mem _ (List.mem_of_getElem? hc)) x List.mem_cons_self
    · rw [List.getElem?_append_right (Nat.le_refl _)] at hc
      show c.al x = false
      rw [al_symm]; exact hr x List.mem_cons_self c (List.mem_of_getElem? hc)
theorem thin_again0 (k : Nat) (f : Int) : ∀ (n : Nat) (l : List Cel), l.length ≤ n → Srt l → thinL k f (thinL k f l) = thinL k f l
  | 0, l, h, _ => by
    obtain rfl : l = [] := List.length_eq_zero_iff.1 (by omega)
    rw [thinL_nil, thinL_nil]
  | n + 1, l, h, hs => by
    by_cases e : l = []
    · subst e; rw [thinL_nil, thinL_nil]
    · have hp := grp_pos e
      have hs2 : Srt (l.drop (grp l)) := List.Pairwise.sublist (List.drop_sublist _ _) hs
      have ih := thin_again0 k f n (l.drop (grp l)) (by rw [List.length_drop]; omega) hs2
      have hone := one_grp hs
      have hout := grp_out hs
      have hsub := thin_subl k f (l.drop (grp l))
      rw [thinL_cons e]
      generalize l.take (grp l) = g at *
      generalize l.drop (grp l) = r at *
      by_cases en : thinG g k f = []
      · rw [en, List.nil_append, ih]
      · have h1 : One (thinG g k f) := ⟨List.Pairwise.sublist (List.take_sublist _ _) hone.1, fun c hc d hd => hone.2 c (List.mem_of_mem_take hc) d (List.mem_of_mem_take hd)⟩
        have hg := grp_app h1 en (r := thinL k f r) fun c hc d hd => hout c (List.mem_of_mem_take hc) d (hsub.mem hd)
        rw [thinL_cons (by simp [en]), hg, List.take_left, List.drop_left, thinG_again hone, ih]
theorem thin_again {l : List Cel} (k : Nat) (f : Int) (h : Srt l) : thinL k f (thinL k f l) = thinL k f l := thin_again0 k f l.length l (Nat.le_refl _) h
theorem thin_find {l : List Cel} {k : Nat} {f : Int} {K : Cel} (h : Srt l) (hk : 1 ≤ k) (hf : f ≤ K.t) :
    findL (thinL k f l) K = findL l K ∨ (findL (thinL k f l) K = none ∧ ∃ d, findL l K = some d ∧ d.g = true ∧ d.t ≤ f) := thin_find0 hk hf l.length l (Nat.le_refl _) h
/-- As the specification gathers them. -/
def stp (k : Nat) (f : Int) (s : List Cel × List Cel) (c : Cel) : List Cel × List Cel := if f < c.t then (s.1 ++ [c], s.2) else if s.2.length < k then (s.1, s.2 ++ [c]) else s
theorem stp_lo (k : Nat) (f : Int) (o : List Cel) : ∀ (l q : List Cel), (∀ c ∈ l, c.t ≤ f) → l.foldl (stp k f) (o, q) = (o, q ++ l.take (k - q.length))
  | [], q, _ => by simp
  | c :: l, q, h => by
    have hc := h c List.mem_cons_self
    rw [List.foldl_cons]
    have e : stp k f (o, q) c = if q.length < k then (o, q ++ [c]) else (o, q) := by unfold stp; rw [if_neg (by omega)]
    rw [e]
    by_cases hq : q.length < k
    · rw [if_pos hq, stp_lo k f o l _ (fun d hd => h d (List.mem_cons_of_mem _ hd)), List.length_append, List.length_singleton, List.append_assoc]
      congr 2
      rw [show k - q.length = (k - (q.length + 1)) + 1 by omega, List.take_succ_cons]; rfl
    · rw [if_neg hq, stp_lo k f o l _ (fun d hd => h d (List.mem_cons_of_mem _ hd)), show k - q.length = 0 by omega]; simp
theorem stp_hi (k : Nat) (f : Int) : ∀ (l o q : List Cel), (∀ c ∈ l, f < c.t) → l.foldl (stp k f) (o, q) = (o ++ l, q)
  | [], o, q, _ => by simp
  | c :: l, o, q, h => by
    have hc := h c List.mem_cons_self
    rw [List.foldl_cons]
    have e : stp k f (o, q) c = (o ++ [c], q) := by unfold stp; rw [if_pos hc]
    rw [e, stp_hi k f l _ _ (fun d hd => h d (List.mem_cons_of_mem _ hd))]; simp
theorem stp_all {g : List Cel} (h : One g) (k : Nat) (f : Int) (o : List Cel) : g.foldl (stp k f) (o, []) = (o ++ g.take (lat g f), (g.drop (lat g f)).take k) := by
  have h1 : ∀ c ∈ g.drop (lat g f), c.t ≤ f := fun c hc => by
    obtain ⟨j, hj⟩ := List.mem_iff_getElem?.1 hc
    rw [List.getElem?_drop] at hj
    exact lat_lo h (by omega) hj
  have h2 : ∀ c ∈ g.take (lat g f), f < c.t := fun c hc => by
    obtain ⟨j, hj⟩ := List.mem_iff_getElem?.1 hc
    have hjl := (List.getElem?_eq_some_iff.1 hj).1
    rw [List.length_take] at hjl
    rw [List.getElem?_take_of_lt (by omega)] at hj
    exact lat_hi (by omega) hj
  conv => lhs; rw [← List.take_append_drop (lat g f) g]
  rw [List.foldl_append, stp_hi k f _ o [] h2, stp_lo k f _ _ [] h1]
  simp
/-- What the specification puts together is the thinned bin. -/
theorem thinG_is (g : List Cel) (k : Nat) (f : Int) : thinG g k f = g.take (lat g f) ++ ((g.drop (lat g f)).take k).take (trim ((g.drop (lat g f)).take k) 0 ((g.drop (lat g f)).take k).length) := by
  have hle := lat_le g f
  unfold thinG kept
  generalize hn : lat g f = n at *
  have hlen : ((g.drop n).take k).length = min k (g.length - n) := by rw [List.length_take, List.length_drop]
  have hm : min (n + k) g.length = n + ((g.drop n).take k).length := by rw [hlen]; omega
  rw [hm, trim_shift (q := (g.drop n).take k) (fun j hj => by rw [hlen] at hj; rw [isGone_take (by omega), isGone_drop])]
  have ht := trim_le ((g.drop n).take k) 0 ((g.drop n).take k).length
  have hk : ((g.drop n).take k).length ≤ k := by rw [hlen]; omega
  rw [List.take_take, Nat.min_eq_left (Nat.le_trans ht hk)]
  rw [List.take_add]
end Go.Proofs.Ytefhdhblcaopiaa.Cl
