/-
  The bins of a row, plain ('binsL'): what is found of it.
-/
import Derived.Test.YtcloejmakjdgcaaGreatEa
import Derived.Test.YtcloejmakjdgcaaGreatIw
namespace Go.Proofs.YtcloejmakjdgcaaGreat.Cl
open Go.RowKit Wd Rp Kp Ra
set_option linter.unusedVariables false
/-- The bins of a row, as the specification gathers them. -/
def binStep (R : ByteArray) (T : Int) (s : ByteArray × List Bi) (c : Cel) : ByteArray × List Bi :=
  if c.r.toList == R.toList && (decide (c.t ≤ T) && !(c.b.toList == s.1.toList)) then (c.b, if c.g then s.2 else s.2 ++ [⟨c.b, c.v⟩]) else s
def binF (R : ByteArray) (T : Int) (l : List Cel) : ByteArray × List Bi := l.foldl (binStep R T) (⟨#[]⟩, [])
def binsL (R : ByteArray) (T : Int) (l : List Cel) : List Bi := (binF R T l).2
theorem binF_snoc (R : ByteArray) (T : Int) (l : List Cel) (c : Cel) : binF R T (l ++ [c]) = binStep R T (binF R T l) c := by unfold binF; rw [List.foldl_append]; rfl
theorem binF_succ {R : ByteArray} {T : Int} {l : List Cel} {k : Nat} {c : Cel} (h : l[k]? = some c) : binF R T (l.take (k + 1)) = binStep R T (binF R T (l.take k)) c := by rw [take_at h, binF_snoc]
theorem binF_len (R : ByteArray) (T : Int) : ∀ l : List Cel, (binF R T l).2.length ≤ l.length := by
  have key : ∀ (l : List Cel) (s : ByteArray × List Bi), (l.foldl (binStep R T) s).2.length ≤ s.2.length + l.length := by
    intro l
    induction l with
    | nil => intro s; simp
    | cons c l ih =>
      intro s
      rw [List.foldl_cons]
      have h1 := ih (binStep R T s c)
      have h2 : (binStep R T s c).2.length ≤ s.2.length + 1 := by
        unfold binStep
        split
        · cases c.g <;> simp
        · omega
      rw [List.length_cons]; omega
  intro l
  have := key l (⟨#[]⟩, [])
  simpa [binF] using this
/-- Of the row, and not later. -/
def Rel (R : ByteArray) (T : Int) (d : Cel) : Prop := d.r.toList = R.toList ∧ d.t ≤ T
def leB (a b : ByteArray) : Prop := a.toList = b.toList ∨ Op.bytesLess a.toList b.toList = true
def kyy (R : ByteArray) (T : Int) (n : ByteArray) : Cel := ⟨R, n, T, 0, false⟩
theorem hit_kyy {R : ByteArray} {T : Int} {n : ByteArray} {d : Cel} : hit (kyy R T n) d = true ↔ Rel R T d ∧ d.b.toList = n.toList := by
  rw [hit_iff]; exact ⟨fun ⟨a, b, c⟩ => ⟨⟨a, c⟩, b⟩, fun ⟨⟨a, c⟩, b⟩ => ⟨a, b, c⟩⟩
theorem hit_kyy_no {R : ByteArray} {T : Int} {n : ByteArray} {d : Cel} (h : ¬ (Rel R T d ∧ d.b.toList = n.toList)) : hit (kyy R T n) d = false := by
  cases k : hit (kyy R T n) d with
  | false => rfl
  | true => exact absurd (hit_kyy.1 k) h
structure Gat (R : ByteArray) (T : Int) (l : List Cel) (s : ByteArray × List Bi) : Prop where
  asc : Asc s.2
  low : ∀ x ∈ s.2, leB x.n s.1
  last : ((∀ d ∈ l, ¬ Rel R T d) ∧ s.2 = [] ∧ s.1.toList = []) ∨ ((∃ e ∈ l, Rel R T e ∧ e.b.toList = s.1.toList) ∧ ∀ d ∈ l, Rel R T d → leB d.b s.1)
  mem : ∀ n v, (⟨n, v⟩ : Bi) ∈ s.2 ↔ ∃ c, findL l (kyy R T n) = some c ∧ c.g = false ∧ c.v = v
theorem find_snoc (l : List Cel) (c K : Cel) : findL (l ++ [c]) K = (findL l K).or (if hit K c then some c else none) := by
  unfold findL
  rw [List.find?_append]
  congr 1
  rw [List.find?_cons]
  cases hit K c <;> rfl
theorem Gat.start (R : ByteArray) (T : Int) : Gat R T [] (⟨#[]⟩, []) :=
  ⟨List.Pairwise.nil, fun x hx => (by cases hx), .inl ⟨fun d hd => (by cases hd), rfl, by first | decide | (simp [ByteArray.toList, ByteArray.toList.loop, ByteArray.size])⟩, fun n v => ⟨fun h => (by cases h), fun ⟨c, h, _⟩ => (by cases h)⟩⟩
theorem Gat.step {R : ByteArray} {T : Int} {l : List Cel} {s : ByteArray × List Bi} {c : Cel} (h : Gat R T l s) (hs : ∀ d ∈ l, d.ls c = true) (hc : c.b.toList ≠ []) : Gat R T (l ++ [c]) (binStep R T s c) := by
  by_cases hr : Rel R T c
  · have hrr : (c.r.toList == R.toList) = true := by simp [hr.1]
    by_cases hb : c.b.toList = s.1.toList
    · have e : binStep R T s c = s := by unfold binStep; rw [if_neg]; simp [hb]
      rw [e]
      rcases h.last with ⟨h1, h2, h3⟩ | ⟨⟨e, he, he1, he2⟩, h2⟩
      · rw [h3] at hb; exact absurd hb hc
      · refine ⟨h.asc, h.low, .inr ⟨⟨e, List.mem_append_left _ he, he1, he2⟩, fun d hd hd2 => ?_⟩, fun n v => ?_⟩
        · rcases List.mem_append.1 hd with hd | hd
          · exact h2 d hd hd2
          · rw [List.mem_singleton.1 hd]; exact .inl hb
        · rw [h.mem, find_snoc]
          cases hf : findL l (kyy R T n) with
          | some x => rfl
          | none =>
            have : hit (kyy R T n) c = false := hit_kyy_no fun ⟨_, k⟩ => by
              have := find_nil.1 hf e he
              rw [hit_kyy.2 ⟨he1, he2.trans (hb.symm.trans k)⟩] at this; cases this
            rw [this]; rfl
    · have hlt : ∀ d ∈ l, Rel R T d → Op.bytesLess d.b.toList c.b.toList = true := fun d hd hd2 => by
        have low : ∀ d ∈ l, Rel R T d → leB d.b c.b := fun d hd hd2 => by
          rcases (ls_iff d c).1 (hs d hd) with k | ⟨k1, k2 | ⟨k2, k3⟩⟩
          · rw [hd2.1, hr.1, bl_irr] at k; cases k
          · exact .inr k2
          · exact .inl k2
        rcases low d hd hd2 with k | k
        · rcases h.last with ⟨h1, -, -⟩ | ⟨⟨e, he, he1, he2⟩, h2⟩
          · exact absurd hd2 (h1 d hd)
          · rcases h2 d hd hd2 with q | q
            · exact absurd (k.symm.trans q) hb
            · rcases low e he he1 with z | z
              · exact absurd (z.symm.trans he2) hb
              · rw [← he2, k] at q
                have := bl_tr q z
                rw [bl_irr] at this; cases this
        · exact k
      have e : binStep R T s c = (c.b, if c.g then s.2 else s.2 ++ [⟨c.b, c.v⟩]) := by
        unfold binStep; rw [if_pos]; simp [hr.1, hr.2, hb]
      have hx : ∀ x ∈ s.2, Op.bytesLess x.n.toList c.b.toList = true := fun x hx => by
        rcases h.last with ⟨-, h1, -⟩ | ⟨⟨e, he, he1, he2⟩, -⟩
        · rw [h1] at hx; cases hx
        · have z := hlt e he he1
          rw [he2] at z
          rcases h.low x hx with k | k
          · rw [k]; exact z
          · exact bl_tr k z
      have hfn : ∀ n : ByteArray, n.toList = c.b.toList → findL l (kyy R T n) = none := fun n hn => find_nil.2 fun d hd => hit_kyy_no fun ⟨k1, k2⟩ => by
        have := hlt d hd k1
        rw [k2, hn, bl_irr] at this; cases this
      have hm : ∀ n v, (∃ d, findL (l ++ [c]) (kyy R T n) = some d ∧ d.g = false ∧ d.v = v) ↔ ((∃ d, findL l (kyy R T n) = some d ∧ d.g = false ∧ d.v = v) ∨ (n = c.b ∧ c.g = false ∧ c.v = v)) := fun n v => by
        rw [find_snoc]
        by_cases hn : n.toList = c.b.toList
        · rw [hfn n hn, hit_kyy.2 ⟨hr, hn.symm⟩]
          constructor
          · rintro ⟨d, k1, k2, k3⟩
            cases k1
            exact .inr ⟨ba_ext hn, k2, k3⟩
          · rintro (⟨d, k1, -⟩ | ⟨-, k2, k3⟩)
            · cases k1
            · exact ⟨c, rfl, k2, k3⟩
        · have : hit (kyy R T n) c = false := hit_kyy_no fun ⟨_, k⟩ => hn k.symm
          rw [this]
          have e2 : (findL l (kyy R T n)).or (if false = true then some c else none) = findL l (kyy R T n) := by cases findL l (kyy R T n) <;> rfl
          rw [e2]
          exact ⟨fun k => .inl k, fun k => k.elim id fun ⟨k, _⟩ => absurd (by rw [k]) hn⟩
      rw [e]
      refine ⟨?_, ?_, .inr ⟨⟨c, by simp, hr, rfl⟩, fun d hd hd2 => ?_⟩, fun n v => ?_⟩
      · cases c.g
        · exact List.pairwise_append.2 ⟨h.asc, List.pairwise_singleton _ _, fun a ha b hb => by rw [List.mem_singleton.1 hb]; exact hx a ha⟩
        · exact h.asc
      · intro x hx'
        cases hg : c.g with
        | true => rw [hg] at hx'; exact .inr (hx x hx')
        | false =>
          rw [hg] at hx'
          rcases List.mem_append.1 (show x ∈ s.2 ++ [⟨c.b, c.v⟩] from hx') with k | k
          · exact .inr (hx x k)
          · rw [List.mem_singleton.1 k]; exact .inl rfl
      · rcases List.mem_append.1 hd with hd | hd
        · exact .inr (hlt d hd hd2)
        · rw [List.mem_singleton.1 hd]; exact .inl rfl
      · rw [hm, ← h.mem]
        cases hg : c.g with
        | true => simp
        | false =>
          show (⟨n, v⟩ : Bi) ∈ s.2 ++ [⟨c.b, c.v⟩] ↔ _
          rw [List.mem_append, List.mem_singleton]
          constructor
          · rintro (k | k)
            · exact .inl k
            · cases k; exact .inr ⟨rfl, rfl, rfl⟩
          · rintro (k | ⟨k1, -, k3⟩)
            · exact .inl k
            · exact .inr (by rw [k1, k3])
  · have e : binStep R T s c = s := by
      unfold binStep
      rw [if_neg]
      intro k
      simp only [Bool.and_eq_true, beq_iff_eq, decide_eq_true_eq] at k
      exact hr ⟨k.1, k.2.1⟩
    rw [e]
    refine ⟨h.asc, h.low, ?_, fun n v => ?_⟩
    · rcases h.last with ⟨h1, h2, h3⟩ | ⟨⟨e, he, he1, he2⟩, h2⟩
      · refine .inl ⟨fun d hd => ?_, h2, h3⟩
        rcases List.mem_append.1 hd with hd | hd
        · exact h1 d hd
        · rw [List.mem_singleton.1 hd]; exact hr
      · refine .inr ⟨⟨e, List.mem_append_left _ he, he1, he2⟩, fun d hd hd2 => ?_⟩
        rcases List.mem_append.1 hd with hd | hd
        · exact h2 d hd hd2
        · rw [List.mem_singleton.1 hd] at hd2; exact absurd hd2 hr
    · rw [h.mem, find_snoc, hit_kyy_no (fun k => hr k.1)]
      cases findL l (kyy R T n) <;> rfl
theorem gatI_take {R : ByteArray} {T : Int} {l : List Cel} (hs : Srt l) (hn : ∀ c ∈ l, c.b.toList ≠ []) : ∀ k, k ≤ l.length → Gat R T (l.take k) (binF R T (l.take k))
  | 0, _ => by rw [List.take_zero]; exact Gat.start R T
  | k + 1, hk => by
    have hlk : l[k]? = some l[k] := List.getElem?_eq_getElem (by omega)
    rw [binF_succ hlk, take_at hlk]
    refine (gatI_take hs hn k (by omega)).step (fun d hd => ?_) (hn _ (List.getElem_mem _))
    obtain ⟨i, hi, rfl⟩ := List.mem_take_iff_getElem.1 hd
    exact List.pairwise_iff_getElem.1 hs i k (by omega) (by omega) (by omega)
theorem gatI_all {R : ByteArray} {T : Int} {l : List Cel} (hs : Srt l) (hn : ∀ c ∈ l, c.b.toList ≠ []) : Gat R T l (binF R T l) := by
  have := gatI_take (R := R) (T := T) hs hn l.length (Nat.le_refl _)
  rwa [List.take_length] at this
/-- The bins are what is found. -/
theorem bins_same {R : ByteArray} {T : Int} {l m : List Cel} (hs : Srt l) (hn : ∀ c ∈ l, c.b.toList ≠ []) (hs2 : Srt m) (hn2 : ∀ c ∈ m, c.b.toList ≠ []) (h : ∀ n, findL m (kyy R T n) = findL l (kyy R T n) ∨ (findL m (kyy R T n) = none ∧ ∃ d, findL l (kyy R T n) = some d ∧ d.g = true)) : binsL R T l = binsL R T m := by
  have g1 := gatI_all (R := R) (T := T) hs hn
  have g2 := gatI_all (R := R) (T := T) hs2 hn2
  refine asc_ext g1.asc g2.asc fun ⟨n, v⟩ => ?_
  show (⟨n, v⟩ : Bi) ∈ (binF R T l).2 ↔ (⟨n, v⟩ : Bi) ∈ (binF R T m).2
  rw [g1.mem, g2.mem]
  rcases h n with e | ⟨e1, d, e2, e3⟩
  · rw [e]
  · rw [e1, e2]
    constructor
    · rintro ⟨c, k1, k2, -⟩
      cases k1; rw [e3] at k2; cases k2
    · rintro ⟨c, k1, -⟩; cases k1
end Go.Proofs.YtcloejmakjdgcaaGreat.Cl
