/-
  Plain facts on merging: two lists merged ('mergeL'), a sorted list is fixed by what is in it, piles of cells in a heap ('Pile', 'Pile.lt') and what is taken from them one by one ('Mid').
-/
import Derived.Test.YtopcjiaakefmeaaDh
import Derived.Test.YtopcjiaakefmeaaHp
namespace Go.Proofs.Ytopcjiaakefmeaa.Cl
open Go.RowKit Wd Rp Kp
set_option linter.unusedVariables false
def Srt (l : List Cel) : Prop := l.Pairwise fun a b => a.ls b = true
theorem ke_symm (c d : Cel) : c.ke d = d.ke c := by
  rw [Bool.eq_iff_iff, ke_iff, ke_iff]; exact ⟨fun ⟨a, b, c⟩ => ⟨a.symm, b.symm, c.symm⟩, fun ⟨a, b, c⟩ => ⟨a.symm, b.symm, c.symm⟩⟩
theorem ke_refl (c : Cel) : c.ke c = true := (ke_iff c c).2 ⟨rfl, rfl, rfl⟩
theorem ke_trans {a b c : Cel} (h : a.ke b = true) (k : b.ke c = true) : a.ke c = true := by
  rw [ke_iff] at *; exact ⟨h.1.trans k.1, h.2.1.trans k.2.1, h.2.2.trans k.2.2⟩
theorem ls_nke {c d : Cel} (h : c.ls d = true) : c.ke d = false ∧ d.ke c = false := by
  have : c.ke d = false := by
    cases k : c.ke d with
    | false => rfl
    | true => have := (ls_ke k c).1; rw [ls_irr, h] at this; cases this
  exact ⟨this, by rw [ke_symm]; exact this⟩
theorem srt_nil : Srt [] := List.Pairwise.nil
theorem srt_cons {x : Cel} {l : List Cel} : Srt (x :: l) ↔ (∀ d ∈ l, x.ls d = true) ∧ Srt l := List.pairwise_cons
def mergeL : List Cel → List Cel → List Cel
  | [], b => b
  | x :: a, [] => x :: a
  | x :: a, y :: b => if x.ls y then x :: mergeL a (y :: b) else if y.ls x then y :: mergeL (x :: a) b else x :: mergeL a b
termination_by a b => a.length + b.length
theorem mergeL_nil (a : List Cel) : mergeL a [] = a := by cases a <;> simp [mergeL]
theorem mergeL_nl (b : List Cel) : mergeL [] b = b := by simp [mergeL]
theorem mergeL_a {x y : Cel} {a b : List Cel} (h : x.ls y = true) : mergeL (x :: a) (y :: b) = x :: mergeL a (y :: b) := by rw [mergeL, if_pos h]
theorem mergeL_b {x y : Cel} {a b : List Cel} (h : x.ls y = false) (k : y.ls x = true) : mergeL (x :: a) (y :: b) = y :: mergeL (x :: a) b := by rw [mergeL, if_neg (by simp [h]), if_pos k]
theorem mergeL_c {x y : Cel} {a b : List Cel} (h : x.ls y = false) (k : y.ls x = false) : mergeL (x :: a) (y :: b) = x :: mergeL a b := by rw [mergeL, if_neg (by simp [h]), if_neg (by simp [k])]
theorem mem_merge (a b : List Cel) : Srt a → Srt b → ∀ c, c ∈ mergeL a b ↔ c ∈ a ∨ (c ∈ b ∧ ∀ d ∈ a, d.ke c = false) := by
  induction a, b using mergeL.induct with
  | case1 b => intro _ _ c; rw [mergeL_nl]; simp
  | case2 x a => intro _ _ c; rw [mergeL_nil]; simp
  | case3 x a y b h ih =>
    intro ha hb c
    obtain ⟨ha1, ha2⟩ := srt_cons.1 ha
    obtain ⟨hb1, hb2⟩ := srt_cons.1 hb
    rw [mergeL_a h, List.mem_cons (a := c) (b := x), ih ha2 hb c, List.mem_cons (a := c) (b := x), or_assoc]
    refine or_congr Iff.rfl (or_congr Iff.rfl (and_congr_right fun hc => ?_))
    have hx : x.ls c = true := by
      rcases List.mem_cons.1 hc with rfl | hc
      · exact h
      · exact ls_trans h (hb1 c hc)
    rw [List.forall_mem_cons]
    exact ⟨fun g => ⟨(ls_nke hx).1, g⟩, fun g => g.2⟩
  | case4 x a y b h k ih =>
    intro ha hb c
    obtain ⟨ha1, ha2⟩ := srt_cons.1 ha
    obtain ⟨hb1, hb2⟩ := srt_cons.1 hb
    rw [mergeL_b (by simpa using h) k, List.mem_cons, ih ha hb2 c]
    have hy : ∀ d ∈ x :: a, y.ls d = true := fun d hd => by
      rcases List.mem_cons.1 hd with rfl | hd
      · exact k
      · exact ls_trans k (ha1 d hd)
    constructor
    · rintro (rfl | g | ⟨g1, g2⟩)
      · exact Or.inr ⟨List.mem_cons_self, fun d hd => (ls_nke (hy d hd)).2⟩
      · exact Or.inl g
      · exact Or.inr ⟨List.mem_cons_of_mem _ g1, g2⟩
    · rintro (g | ⟨g1, g2⟩)
      · exact Or.inr (Or.inl g)
      · rcases List.mem_cons.1 g1 with rfl | g1
        · exact Or.inl rfl
        · exact Or.inr (Or.inr ⟨g1, g2⟩)
  | case5 x a y b h k ih =>
    intro ha hb c
    obtain ⟨ha1, ha2⟩ := srt_cons.1 ha
    obtain ⟨hb1, hb2⟩ := srt_cons.1 hb
    have h' : x.ls y = false := by simpa using h
    have k' : y.ls x = false := by simpa using k
    have hke : x.ke y = true := by
      cases q : x.ke y with
      | true => rfl
      | false => rw [ls_tri3 x y h' q] at k'; cases k'
    rw [mergeL_c h' k', List.mem_cons (a := c) (b := x), ih ha2 hb2 c, List.mem_cons (a := c) (b := x), or_assoc]
    refine or_congr Iff.rfl (or_congr Iff.rfl ?_)
    constructor
    · rintro ⟨g1, g2⟩
      have : x.ls c = true := by rw [(ls_ke hke c).2]; exact hb1 c g1
      exact ⟨List.mem_cons_of_mem _ g1, List.forall_mem_cons.2 ⟨(ls_nke this).1, g2⟩⟩
    · rintro ⟨g1, g2⟩
      obtain ⟨g3, g4⟩ := List.forall_mem_cons.1 g2
      rcases List.mem_cons.1 g1 with rfl | g1
      · rw [hke] at g3; cases g3
      · exact ⟨g1, g4⟩
theorem sub_merge (a b : List Cel) : ∀ c, c ∈ mergeL a b → c ∈ a ∨ c ∈ b := by
  induction a, b using mergeL.induct with
  | case1 b => intro c; rw [mergeL_nl]; exact Or.inr
  | case2 x a => intro c; rw [mergeL_nil]; exact Or.inl
  | case3 x a y b h ih =>
    intro c hc
    rw [mergeL_a h] at hc
    rcases List.mem_cons.1 hc with rfl | hc
    · exact Or.inl List.mem_cons_self
    · exact (ih c hc).imp (List.mem_cons_of_mem _) id
  | case4 x a y b h k ih =>
    intro c hc
    rw [mergeL_b (by simpa using h) k] at hc
    rcases List.mem_cons.1 hc with rfl | hc
    · exact Or.inr List.mem_cons_self
    · exact (ih c hc).imp id (List.mem_cons_of_mem _)
  | case5 x a y b h k ih =>
    intro c hc
    rw [mergeL_c (by simpa using h) (by simpa using k)] at hc
    rcases List.mem_cons.1 hc with rfl | hc
    · exact Or.inl List.mem_cons_self
    · exact (ih c hc).imp (List.mem_cons_of_mem _) (List.mem_cons_of_mem _)
theorem srt_merge (a b : List Cel) : Srt a → Srt b → Srt (mergeL a b) := by
  induction a, b using mergeL.induct with
  | case1 b => intro _ h; rw [mergeL_nl]; exact h
  | case2 x a => intro h _; rw [mergeL_nil]; exact h
  | case3 x a y b h ih =>
    intro ha hb
    obtain ⟨ha1, ha2⟩ := srt_cons.1 ha
    obtain ⟨hb1, hb2⟩ := srt_cons.1 hb
    rw [mergeL_a h]
    refine srt_cons.2 ⟨fun d hd => ?_, ih ha2 hb⟩
    rcases sub_merge _ _ d hd with hd | hd
    · exact ha1 d hd
    · rcases List.mem_cons.1 hd with rfl | hd
      · exact h
      · exact ls_trans h (hb1 d hd)
  | case4 x a y b h k ih =>
    intro ha hb
    obtain ⟨ha1, ha2⟩ := srt_cons.1 ha
    obtain ⟨hb1, hb2⟩ := srt_cons.1 hb
    rw [mergeL_b (by simpa using h) k]
    refine srt_cons.2 ⟨fun d hd => ?_, ih ha hb2⟩
    rcases sub_merge _ _ d hd with hd | hd
    · rcases List.mem_cons.1 hd with rfl | hd
      · exact k
      · exact ls_trans k (ha1 d hd)
    · exact hb1 d hd
  | case5 x a y b h k ih =>
    intro ha hb
    obtain ⟨ha1, ha2⟩ := srt_cons.1 ha
    obtain ⟨hb1, hb2⟩ := srt_cons.1 hb
    have h' : x.ls y = false := by simpa using h
    have k' : y.ls x = false := by simpa using k
    have hke : x.ke y = true := by
      cases q : x.ke y with
      | true => rfl
      | false => rw [ls_tri3 x y h' q] at k'; cases k'
    rw [mergeL_c h' k']
    refine srt_cons.2 ⟨fun d hd => ?_, ih ha2 hb2⟩
    rcases sub_merge _ _ d hd with hd | hd
    · exact ha1 d hd
    · rw [(ls_ke hke d).2]; exact hb1 d hd
theorem merge_len (a b : List Cel) : (mergeL a b).length ≤ a.length + b.length := by
  induction a, b using mergeL.induct with
  | case1 b => rw [mergeL_nl]; simp
  | case2 x a => rw [mergeL_nil]; simp
  | case3 x a y b h ih => rw [mergeL_a h, List.length_cons, List.length_cons]; omega
  | case4 x a y b h k ih => rw [mergeL_b (by simpa using h) k]; simp only [List.length_cons] at *; omega
  | case5 x a y b h k ih => rw [mergeL_c (by simpa using h) (by simpa using k)]; simp only [List.length_cons] at *; omega
/-- A sorted list is fixed by what is in it. -/
theorem srt_ext : ∀ {l m : List Cel}, Srt l → Srt m → (∀ c, c ∈ l ↔ c ∈ m) → l = m
  | [], [], _, _, _ => rfl
  | [], y :: m, _, _, h => by have := (h y).2 List.mem_cons_self; cases this
  | x :: l, [], _, _, h => by have := (h x).1 List.mem_cons_self; cases this
  | x :: l, y :: m, hl, hm, h => by
    obtain ⟨l1, l2⟩ := srt_cons.1 hl
    obtain ⟨m1, m2⟩ := srt_cons.1 hm
    have e : x = y := by
      rcases List.mem_cons.1 ((h x).1 List.mem_cons_self) with e | e
      · exact e
      · rcases List.mem_cons.1 ((h y).2 List.mem_cons_self) with g | g
        · exact g.symm
        · have := ls_trans (m1 x e) (l1 y g); rw [ls_irr] at this; cases this
    subst e
    have : l = m := srt_ext l2 m2 fun c => by
      constructor
      · intro hc
        rcases List.mem_cons.1 ((h c).1 (List.mem_cons_of_mem _ hc)) with e | e
        · subst e; have := l1 c hc; rw [ls_irr] at this; cases this
        · exact e
      · intro hc
        rcases List.mem_cons.1 ((h c).2 (List.mem_cons_of_mem _ hc)) with e | e
        · subst e; have := m1 c hc; rw [ls_irr] at this; cases this
        · exact e
    rw [this]
theorem merge_again {a b : List Cel} (ha : Srt a) (hb : Srt b) : mergeL (mergeL a b) b = mergeL a b := by
  have hm := srt_merge a b ha hb
  refine srt_ext (srt_merge _ _ hm hb) hm fun c => ?_
  rw [mem_merge _ _ hm hb]
  refine ⟨?_, Or.inl⟩
  rintro (h | ⟨h1, h2⟩)
  · exact h
  · rw [mem_merge a b ha hb]
    by_cases g : ∀ d ∈ a, d.ke c = false
    · exact Or.inr ⟨h1, g⟩
    · exfalso
      refine g fun d hd => h2 d ((mem_merge a b ha hb d).2 (Or.inl hd))
/-- What is left of a list that is being merged. -/
structure Pile where
  k : Nat
  a : Option Addr
  cap : Nat
  c : List Cel
def Pile.hd (p : Pile) : Cel := p.c.headD default
def Pile.lt (p q : Pile) : Bool := if p.hd.ke q.hd then decide (p.k < q.k) else p.hd.ls q.hd
theorem ls_ntr {a b c : Cel} (h : b.ls a = false) (k : c.ls b = false) : c.ls a = false := by
  cases g : c.ls a with
  | false => rfl
  | true =>
    exfalso
    by_cases e : a.ke b = true
    · rw [(ls_ke e c).1, k] at g; cases g
    · have := ls_tri3 b a h (by rw [ke_symm]; simpa using e)
      rw [ls_trans g this] at k; cases k
theorem lt_false {p q : Pile} : p.lt q = false ↔ p.hd.ls q.hd = false ∧ (p.hd.ke q.hd = true → q.k ≤ p.k) := by
  unfold Pile.lt
  by_cases h : p.hd.ke q.hd = true
  · rw [if_pos h]
    have : p.hd.ls q.hd = false := by
      cases g : p.hd.ls q.hd with
      | false => rfl
      | true => rw [(ls_nke g).1] at h; cases h
    simp [this, h]
  · rw [if_neg h]
    simp [h]
theorem lt_ord : Hp.Ord Pile.lt where
  tr := fun a b c h k => by
    rw [lt_false] at *
    refine ⟨ls_ntr h.1 k.1, fun e => ?_⟩
    by_cases g : b.hd.ke a.hd = true
    · have h1 := h.2 g
      have h2 := k.2 (ke_trans e (by rw [ke_symm]; exact g))
      omega
    · exfalso
      have g' : b.hd.ke a.hd = false := by simpa using g
      have h1 := ls_tri3 _ _ h.1 g'
      rw [← (ls_ke e b.hd).2, k.1] at h1; cases h1
  asym := fun a b h => by
    rw [lt_false]
    unfold Pile.lt at h
    by_cases e : a.hd.ke b.hd = true
    · rw [if_pos e] at h
      have h' : a.k < b.k := by simpa using h
      refine ⟨?_, fun _ => by omega⟩
      cases g : b.hd.ls a.hd with
      | false => rfl
      | true => rw [(ls_nke g).2] at e; cases e
    · rw [if_neg e] at h
      exact ⟨ls_asym h, fun g => by rw [ke_symm] at g; exact absurd g e⟩
theorem lt_irr (p : Pile) : p.lt p = false := lt_false.2 ⟨ls_irr _, fun _ => Nat.le_refl _⟩
/-- Piles that can be merged: none empty, each sorted, of different ranks. -/
def Good (l : List Pile) : Prop := (∀ p ∈ l, p.c ≠ [] ∧ Srt p.c) ∧ (l.map Pile.k).Nodup
/-- Is it to be taken out of these piles? -/
def Fst (l : List Pile) (c : Cel) : Prop := ∃ p ∈ l, c ∈ p.c ∧ ∀ q ∈ l, q.k < p.k → ∀ d ∈ q.c, d.ke c = false
/-- In the midst of it: T tells what is wanted, l is left, m is made. -/
def Mid (T : Cel → Prop) (l : List Pile) (m : List Cel) : Prop :=
  Good l ∧ Srt m ∧ (∀ q ∈ m, ∀ p ∈ l, ∀ c ∈ p.c, c.ls q = false) ∧ ∀ c, T c ↔ c ∈ m ∨ (Fst l c ∧ ∀ e ∈ m, e.ke c = false)
theorem Good.perm {l m : List Pile} (h : Good l) (e : List.Perm m l) : Good m := ⟨fun p hp => h.1 p (e.mem_iff.1 hp), (List.Perm.nodup_iff (e.map Pile.k)).2 h.2⟩
theorem Fst.perm {l m : List Pile} {c : Cel} (e : List.Perm m l) : Fst m c ↔ Fst l c := by
  unfold Fst
  constructor
  · rintro ⟨p, hp, hc, h⟩; exact ⟨p, e.mem_iff.1 hp, hc, fun q hq => h q (e.mem_iff.2 hq)⟩
  · rintro ⟨p, hp, hc, h⟩; exact ⟨p, e.mem_iff.2 hp, hc, fun q hq => h q (e.mem_iff.1 hq)⟩
theorem Mid.perm {T : Cel → Prop} {l l' : List Pile} {m : List Cel} (h : Mid T l m) (e : List.Perm l' l) : Mid T l' m :=
  ⟨h.1.perm e, h.2.1, fun q hq p hp => h.2.2.1 q hq p (e.mem_iff.1 hp), fun c => by rw [Fst.perm e]; exact h.2.2.2 c⟩
theorem Mid.start {T : Cel → Prop} {l : List Pile} (h : Good l) (e : ∀ c, T c ↔ Fst l c) : Mid T l [] :=
  ⟨h, srt_nil, (fun q hq => by cases hq), fun c => by rw [e]; simp⟩
theorem Mid.fin {T : Cel → Prop} {m : List Cel} (h : Mid T [] m) : Srt m ∧ ∀ c, c ∈ m ↔ T c :=
  ⟨h.2.1, fun c => by rw [h.2.2.2 c]; refine ⟨Or.inl, ?_⟩; rintro (g | ⟨⟨p, hp, _⟩, _⟩); exact g; cases hp⟩
/-- The pile without its first cell. -/
def rest (t : Pile) (tc : List Cel) (a : Option Addr) (cap : Nat) (r : List Pile) : List Pile := if tc = [] then r else ⟨t.k, a, cap, tc⟩ :: r
theorem mem_rest {t : Pile} {tc : List Cel} {a : Option Addr} {cap : Nat} {r : List Pile} {p : Pile} (h : p ∈ rest t tc a cap r) : p ∈ r ∨ (p.k = t.k ∧ p.c = tc ∧ tc ≠ []) := by
  unfold rest at h
  split at h
  · exact Or.inl h
  · rcases List.mem_cons.1 h with rfl | h
    · exact Or.inr ⟨rfl, rfl, by assumption⟩
    · exact Or.inl h
/-- Has the last that was made this key? -/
def dup (m : List Cel) (c : Cel) : Bool := match m.getLast? with | none => false | some q => q.ke c
theorem dup_iff {m : List Cel} {c : Cel} (hm : Srt m) (hlo : ∀ q ∈ m, c.ls q = false) : dup m c = true ↔ ∃ e ∈ m, e.ke c = true := by
  unfold dup
  rcases List.eq_nil_or_concat m with rfl | ⟨m', q, rfl⟩
  · simp
  · rw [List.concat_eq_append] at *
    rw [List.getLast?_append]
    simp only [List.getLast?_singleton, Option.some_or]
    constructor
    · intro h; exact ⟨q, by simp, h⟩
    · rintro ⟨e, he, h⟩
      rcases List.mem_append.1 he with he | he
      · exfalso
        have h1 : e.ls q = true := (List.pairwise_append.1 hm).2.2 e he q (by simp)
        rw [(ls_ke h q).2, hlo q (by simp)] at h1; cases h1
      · rw [List.mem_singleton] at he; subst he; exact h
theorem Mid.step {T : Cel → Prop} {t : Pile} {r : List Pile} {m : List Cel} {c0 : Cel} {tc : List Cel} (h : Mid T (t :: r) m) (hc : t.c = c0 :: tc) (hmin : ∀ p ∈ r, p.lt t = false) (a : Option Addr) (cap : Nat) :
    Mid T (rest t tc a cap r) (if dup m c0 then m else m ++ [c0]) := by
  obtain ⟨hg, hm, hlo, hT⟩ := h
  have hhd : t.hd = c0 := by unfold Pile.hd; rw [hc]; rfl
  have ht := hg.1 t List.mem_cons_self
  have hts : Srt (c0 :: tc) := by rw [← hc]; exact ht.2
  obtain ⟨t1, t2⟩ := srt_cons.1 hts
  have hk : ∀ p ∈ r, p.k ≠ t.k := fun p hp => by
    have := hg.2
    rw [List.map_cons, List.nodup_cons] at this
    intro e; exact this.1 (by rw [← e]; exact List.mem_map_of_mem hp)
  -- heads of the others are not ahead
  have hhead : ∀ p ∈ r, ∀ c ∈ p.c, p.hd = c ∨ p.hd.ls c = true := fun p hp c hcp => by
    have h1 := (hg.1 p (List.mem_cons_of_mem _ hp)).2
    cases e : p.c with
    | nil => rw [e] at hcp; cases hcp
    | cons x xs =>
      rw [e] at hcp h1
      have : p.hd = x := by unfold Pile.hd; rw [e]; rfl
      rw [this]
      rcases List.mem_cons.1 hcp with rfl | g
      · exact Or.inl rfl
      · exact Or.inr ((srt_cons.1 h1).1 c g)
  have hr : ∀ p ∈ r, ∀ c ∈ p.c, c.ls c0 = false ∧ (c.ke c0 = true → t.k < p.k) := fun p hp c hcp => by
    have h1 := lt_false.1 (hmin p hp)
    rw [hhd] at h1
    rcases hhead p hp c hcp with e | e
    · rw [e] at h1
      exact ⟨h1.1, fun g => by have := h1.2 g; have := hk p hp; omega⟩
    · have h2 : c.ls c0 = false := by
        cases g : c.ls c0 with
        | false => rfl
        | true => rw [ls_trans e g] at h1; cases h1.1
      refine ⟨h2, fun g => ?_⟩
      rw [(ls_ke g p.hd).1, h1.1] at e; cases e
  have hlo0 : ∀ q ∈ m, c0.ls q = false := fun q hq => hlo q hq t List.mem_cons_self c0 (by rw [hc]; exact List.mem_cons_self)
  have hd := dup_iff hm hlo0
  have hlo' : ∀ q ∈ m, ∀ p ∈ rest t tc a cap r, ∀ c ∈ p.c, c.ls q = false := fun q hq p hp c hcp => by
    rcases mem_rest hp with hp | ⟨-, e, -⟩
    · exact hlo q hq p (List.mem_cons_of_mem _ hp) c hcp
    · rw [e] at hcp
      exact hlo q hq t List.mem_cons_self c (by rw [hc]; exact List.mem_cons_of_mem _ hcp)
  have hgood : Good (rest t tc a cap r) := by
    refine ⟨fun p hp => ?_, ?_⟩
    · rcases mem_rest hp with hp | ⟨-, e, g⟩
      · exact hg.1 p (List.mem_cons_of_mem _ hp)
      · rw [e]; exact ⟨g, t2⟩
    · have := hg.2
      rw [List.map_cons, List.nodup_cons] at this
      unfold rest
      split
      · exact this.2
      · rw [List.map_cons, List.nodup_cons]; exact this
  -- what has another key
  have hA : ∀ c, c.ke c0 = false → (Fst (rest t tc a cap r) c ↔ Fst (t :: r) c) := fun c hcc => by
    have hne : c ≠ c0 := fun e => by subst e; rw [ke_refl] at hcc; cases hcc
    constructor
    · rintro ⟨p, hp, hcp, h⟩
      have key : ∀ s : Pile, s.k = p.k → ∀ q ∈ t :: r, q.k < s.k → ∀ d ∈ q.c, d.ke c = false := fun s hs q hq hqk d hdq => by
        rcases List.mem_cons.1 hq with rfl | hq
        · rw [hc] at hdq
          rcases List.mem_cons.1 hdq with rfl | hdq
          · rw [ke_symm]; exact hcc
          · have htc : tc ≠ [] := fun e => by rw [e] at hdq; cases hdq
            exact h ⟨q.k, a, cap, tc⟩ (by unfold rest; rw [if_neg htc]; exact List.mem_cons_self) (by rw [← hs]; exact hqk) d hdq
        · refine h q ?_ (by rw [← hs]; exact hqk) d hdq
          unfold rest; split
          · exact hq
          · exact List.mem_cons_of_mem _ hq
      rcases mem_rest hp with hp | ⟨e1, e2, -⟩
      · exact ⟨p, List.mem_cons_of_mem _ hp, hcp, key p rfl⟩
      · exact ⟨t, List.mem_cons_self, by rw [hc]; rw [e2] at hcp; exact List.mem_cons_of_mem _ hcp, key t e1.symm⟩
    · rintro ⟨p, hp, hcp, h⟩
      have key : ∀ s : Pile, s.k = p.k → ∀ q ∈ rest t tc a cap r, q.k < s.k → ∀ d ∈ q.c, d.ke c = false := fun s hs q hq hqk d hdq => by
        rcases mem_rest hq with hq | ⟨e1, e2, -⟩
        · exact h q (List.mem_cons_of_mem _ hq) (by rw [← hs]; exact hqk) d hdq
        · exact h t List.mem_cons_self (by rw [← hs, ← e1]; exact hqk) d (by rw [hc]; rw [e2] at hdq; exact List.mem_cons_of_mem _ hdq)
      rcases List.mem_cons.1 hp with rfl | hp
      · rw [hc] at hcp
        rcases List.mem_cons.1 hcp with e | hcp
        · exact absurd e hne
        · have htc : tc ≠ [] := fun e => by rw [e] at hcp; cases hcp
          exact ⟨⟨p.k, a, cap, tc⟩, by unfold rest; rw [if_neg htc]; exact List.mem_cons_self, hcp, key _ rfl⟩
      · exact ⟨p, by unfold rest; split; exact hp; exact List.mem_cons_of_mem _ hp, hcp, key p rfl⟩
  -- what has this key
  have hB : ∀ c, c.ke c0 = true → (Fst (t :: r) c ↔ c = c0) := fun c hcc => by
    constructor
    · rintro ⟨p, hp, hcp, h⟩
      rcases List.mem_cons.1 hp with rfl | hp
      · rw [hc] at hcp
        rcases List.mem_cons.1 hcp with e | hcp
        · exact e
        · have := t1 c hcp; rw [(ls_nke this).2] at hcc; cases hcc
      · exfalso
        have h1 := h t List.mem_cons_self ((hr p hp c hcp).2 hcc) c0 (by rw [hc]; exact List.mem_cons_self)
        rw [ke_symm, hcc] at h1; cases h1
    · rintro rfl
      refine ⟨t, List.mem_cons_self, by rw [hc]; exact List.mem_cons_self, fun q hq hqk d hdq => ?_⟩
      rcases List.mem_cons.1 hq with rfl | hq
      · omega
      · cases g : d.ke c with
        | false => rfl
        | true => have := (hr q hq d hdq).2 g; omega
  cases hdu : dup m c0 with
  | true =>
    rw [if_pos rfl]
    obtain ⟨e, he, hek⟩ := hd.1 hdu
    refine ⟨hgood, hm, hlo', fun c => ?_⟩
    rw [hT c]
    refine or_congr Iff.rfl ?_
    by_cases hcc : c.ke c0 = true
    · have : ∀ P : Prop, ¬ (P ∧ ∀ e ∈ m, e.ke c = false) := fun P ⟨_, g⟩ => by
        have := g e he
        rw [ke_trans hek (by rw [ke_symm]; exact hcc)] at this; cases this
      exact ⟨fun g => absurd g (this _), fun g => absurd g (this _)⟩
    · rw [hA c (by simpa using hcc)]
  | false =>
    rw [if_neg (by simp)]
    have hnd : ∀ e ∈ m, e.ke c0 = false := fun e he => by
      cases g : e.ke c0 with
      | false => rfl
      | true => rw [hd.2 ⟨e, he, g⟩] at hdu; cases hdu
    have hmc : ∀ q ∈ m, q.ls c0 = true := fun q hq => ls_tri3 _ _ (hlo0 q hq) (by rw [ke_symm]; exact hnd q hq)
    refine ⟨hgood, List.pairwise_append.2 ⟨hm, by simp, fun x hx y hy => by rw [List.mem_singleton] at hy; subst hy; exact hmc x hx⟩, fun q hq p hp c hcp => ?_, fun c => ?_⟩
    · rcases List.mem_append.1 hq with hq | hq
      · exact hlo' q hq p hp c hcp
      · rw [List.mem_singleton] at hq
        subst hq
        rcases mem_rest hp with hp | ⟨-, e, -⟩
        · exact (hr p hp c hcp).1
        · rw [e] at hcp; exact ls_asym (t1 c hcp)
    · rw [hT c, List.mem_append, List.mem_singleton, or_assoc]
      refine or_congr Iff.rfl ?_
      by_cases hcc : c.ke c0 = true
      · rw [hB c hcc]
        constructor
        · rintro ⟨e, _⟩; exact Or.inl e
        · rintro (e | ⟨_, g⟩)
          · subst e; exact ⟨rfl, hnd⟩
          · have := g c0 (by simp)
            rw [ke_symm, hcc] at this; cases this
      · have hcc' : c.ke c0 = false := by simpa using hcc
        rw [← hA c hcc']
        constructor
        · rintro ⟨g1, g2⟩
          refine Or.inr ⟨g1, fun e he => ?_⟩
          rcases List.mem_append.1 he with he | he
          · exact g2 e he
          · rw [List.mem_singleton] at he; subst he; rw [ke_symm]; exact hcc'
        · rintro (e | ⟨g1, g2⟩)
          · subst e; rw [ke_refl] at hcc'; cases hcc'
          · exact ⟨g1, fun e he => g2 e (List.mem_append_left _ he)⟩
end Go.Proofs.Ytopcjiaakefmeaa.Cl
