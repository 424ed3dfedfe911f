/-
  All tables merged: plain; an append to a row of slices.
-/
import Derived.Test.YtefhdhblcaopiaaPh
import Derived.Test.YtefhdhblcaopiaaBh
import Derived.Test.YtefhdhblcaopiaaRd
namespace Go.Proofs.Ytefhdhblcaopiaa.Cl
open Go.RowKit Wd Rp Kp Ra
set_option linter.unusedVariables false
/-- The tables one after the other, as piles. -/
def pilesOf : Nat → List Hd → List (List Cel) → List Pile
  | k, h :: hs, l :: ls => ⟨k, h.a, h.c, l⟩ :: pilesOf (k + 1) hs ls
  | _, _, _ => []
theorem piles_rank : ∀ (k : Nat) (hs : List Hd) (ss : List (List Cel)), ∀ p ∈ pilesOf k hs ss, k ≤ p.k
  | k, [], _, p, hp => by simp [pilesOf] at hp
  | k, h :: hs, [], p, hp => by simp [pilesOf] at hp
  | k, h :: hs, l :: ls, p, hp => by
    rcases List.mem_cons.1 hp with rfl | hp
    · exact Nat.le_refl _
    · have := piles_rank (k + 1) hs ls p hp; omega
theorem piles_at : ∀ (k : Nat) (hs : List Hd) (ss : List (List Cel)), hs.length = ss.length → ∀ (i : Nat) (p : Pile), (pilesOf k hs ss)[i]? = some p → ∃ h l, hs[i]? = some h ∧ ss[i]? = some l ∧ p = ⟨k + i, h.a, h.c, l⟩
  | k, [], ss, _, i, p, hp => by simp [pilesOf] at hp
  | k, h :: hs, [], hl, i, p, hp => by simp at hl
  | k, h :: hs, l :: ls, hl, 0, p, hp => by
    obtain rfl : (⟨k, h.a, h.c, l⟩ : Pile) = p := by simpa [pilesOf] using hp
    exact ⟨h, l, rfl, rfl, rfl⟩
  | k, h :: hs, l :: ls, hl, i + 1, p, hp => by
    obtain ⟨h', l', e1, e2, e3⟩ := piles_at (k + 1) hs ls (by simpa using hl) i p (by simpa [pilesOf] using hp)
    exact ⟨h', l', by simpa using e1, by simpa using e2, by rw [e3]; congr 1; omega⟩
theorem piles_len : ∀ (k : Nat) (hs : List Hd) (ss : List (List Cel)), hs.length = ss.length → (pilesOf k hs ss).length = ss.length
  | k, [], [], _ => rfl
  | k, [], l :: ls, h => by simp at h
  | k, h :: hs, [], e => by simp at e
  | k, h :: hs, l :: ls, e => by simp [pilesOf, piles_len (k + 1) hs ls (by simpa using e)]
theorem piles_tot : ∀ (k : Nat) (hs : List Hd) (ss : List (List Cel)), hs.length = ss.length → tot (pilesOf k hs ss) = tott ss
  | k, [], [], _ => rfl
  | k, [], l :: ls, h => by simp at h
  | k, h :: hs, [], e => by simp at e
  | k, h :: hs, l :: ls, e => by rw [pilesOf, tot_cons, tott_cons, piles_tot (k + 1) hs ls (by simpa using e)]
theorem fst_cons {k : Nat} {a : Option Addr} {cp : Nat} {l : List Cel} {r : List Pile} (hr : ∀ p ∈ r, k < p.k) (c : Cel) : Fst (⟨k, a, cp, l⟩ :: r) c ↔ c ∈ l ∨ ((∀ d ∈ l, d.ke c = false) ∧ Fst r c) := by
  constructor
  · rintro ⟨p, hp, hc, h⟩
    rcases List.mem_cons.1 hp with rfl | hp
    · exact Or.inl hc
    · exact Or.inr ⟨h _ List.mem_cons_self (hr p hp), p, hp, hc, fun q hq hk => h q (List.mem_cons_of_mem _ hq) hk⟩
  · rintro (h | ⟨h1, p, hp, hc, h2⟩)
    · refine ⟨_, List.mem_cons_self, h, fun q hq hk => ?_⟩
      rcases List.mem_cons.1 hq with rfl | hq
      · exact absurd hk (Nat.lt_irrefl _)
      · have := hr q hq; exact absurd hk (by show ¬ q.k < k; omega)
    · refine ⟨p, List.mem_cons_of_mem _ hp, hc, fun q hq hk => ?_⟩
      rcases List.mem_cons.1 hq with rfl | hq
      · exact h1
      · exact h2 q hq hk
/-- All tables merged, the first ones first. -/
def mgA (h : List Cel) (ss : List (List Cel)) : List Cel := ss.foldl mergeL h
theorem mgA_srt : ∀ (ss : List (List Cel)) (h : List Cel), Srt h → (∀ l ∈ ss, Srt l) → Srt (mgA h ss)
  | [], h, hh, _ => hh
  | l :: ss, h, hh, hs => mgA_srt ss (mergeL h l) (srt_merge _ _ hh (hs l List.mem_cons_self)) (fun l hl => hs l (List.mem_cons_of_mem _ hl))
theorem mgA_len : ∀ (ss : List (List Cel)) (h : List Cel), (mgA h ss).length ≤ h.length + tott ss
  | [], h => by simp [mgA]
  | l :: ss, h => by
    have h1 := mgA_len ss (mergeL h l)
    have h2 := merge_len h l
    rw [tott_cons]
    show (mgA (mergeL h l) ss).length ≤ _
    omega
theorem ke_merge {a b : List Cel} (ha : Srt a) (hb : Srt b) (c : Cel) : (∀ d ∈ mergeL a b, d.ke c = false) ↔ (∀ d ∈ a, d.ke c = false) ∧ ∀ d ∈ b, d.ke c = false := by
  constructor
  · intro h
    have h1 : ∀ d ∈ a, d.ke c = false := fun d hd => h d ((mem_merge a b ha hb d).2 (Or.inl hd))
    refine ⟨h1, fun d hd => ?_⟩
    by_cases hm : ∀ e ∈ a, e.ke d = false
    · exact h d ((mem_merge a b ha hb d).2 (Or.inr ⟨hd, hm⟩))
    · obtain ⟨e, he⟩ := Classical.not_forall.1 hm
      obtain ⟨he1, he2⟩ := Classical.not_imp.1 he
      cases hk : d.ke c with
      | false => rfl
      | true =>
        have := h1 e he1
        rw [ke_trans (by simpa using he2) hk] at this
        cases this
  · rintro ⟨h1, h2⟩ d hd
    rcases sub_merge a b d hd with h | h
    · exact h1 d h
    · exact h2 d h
theorem mgA_mem : ∀ (k : Nat) (hs : List Hd) (ss : List (List Cel)) (h : List Cel), hs.length = ss.length → Srt h → (∀ l ∈ ss, Srt l) → ∀ c, c ∈ mgA h ss ↔ c ∈ h ∨ ((∀ d ∈ h, d.ke c = false) ∧ Fst (pilesOf k hs ss) c)
  | k, hs, [], h, hl, hh, _, c => by
    obtain rfl : hs = [] := List.length_eq_zero_iff.1 (by simpa using hl)
    constructor
    · exact fun h => Or.inl h
    · rintro (h | ⟨-, p, hp, -⟩)
      · exact h
      · simp [pilesOf] at hp
  | k, [], l :: ss, h, hl, hh, _, c => by simp at hl
  | k, x :: hs, l :: ss, h, hl, hh, hss, c => by
    have hl1 : Srt l := hss l List.mem_cons_self
    have ih := mgA_mem (k + 1) hs ss (mergeL h l) (by simpa using hl) (srt_merge _ _ hh hl1) (fun l hl => hss l (List.mem_cons_of_mem _ hl)) c
    show c ∈ mgA (mergeL h l) ss ↔ _
    rw [ih, mem_merge h l hh hl1, ke_merge hh hl1, pilesOf, fst_cons (fun p hp => by have := piles_rank (k + 1) hs ss p hp; omega)]
    constructor
    · rintro ((h1 | ⟨h1, h2⟩) | ⟨⟨h1, h2⟩, h3⟩)
      · exact Or.inl h1
      · exact Or.inr ⟨h2, Or.inl h1⟩
      · exact Or.inr ⟨h1, Or.inr ⟨h2, h3⟩⟩
    · rintro (h1 | ⟨h1, h2 | ⟨h2, h3⟩⟩)
      · exact Or.inl (Or.inl h1)
      · exact Or.inl (Or.inr ⟨h2, h1⟩)
      · exact Or.inr ⟨⟨h1, h2⟩, h3⟩
/-- Of the tables h :: ss. -/
theorem mgA_fst {x : Hd} {hs : List Hd} {ss : List (List Cel)} {h : List Cel} (hl : hs.length = ss.length) (hh : Srt h) (hss : ∀ l ∈ ss, Srt l) (c : Cel) : Fst (pilesOf 0 (x :: hs) (h :: ss)) c ↔ c ∈ mgA h ss := by
  rw [mgA_mem 1 hs ss h hl hh hss, pilesOf, fst_cons (fun p hp => by have := piles_rank 1 hs ss p hp; omega)]
def allP (h : List Cel) (ss : List (List Cel)) : List Cel := if okB h ss then (if 200 < (mgA h ss).length then [] else mgA h ss) else []
theorem allP_no {h : List Cel} {ss : List (List Cel)} (e : okB h ss = false) : allP h ss = [] := by unfold allP; rw [e]; rfl
theorem allP_big {h : List Cel} {ss : List (List Cel)} (e : okB h ss = true) (hb : 200 < (mgA h ss).length) : allP h ss = [] := by unfold allP; rw [e, if_pos hb]; rfl
theorem allP_yes {h : List Cel} {ss : List (List Cel)} (e : okB h ss = true) (hb : ¬ 200 < (mgA h ss).length) : allP h ss = mgA h ss := by unfold allP; rw [e, if_neg hb]; rfl
theorem allP_len (h : List Cel) (ss : List (List Cel)) : (allP h ss).length ≤ 200 := by
  unfold allP
  split
  · split
    · simp
    · omega
  · simp
theorem okB_tot {h : List Cel} {ss : List (List Cel)} (e : okB h ss = true) : h.length ≤ 200 ∧ tott ss ≤ 1000 := by
  obtain ⟨h1, h2, h3⟩ := okB_iff.1 e
  refine ⟨(okL_iff.1 h1).2, ?_⟩
  have key : ∀ ss : List (List Cel), (∀ l ∈ ss, l ≠ [] ∧ okL l = true) → tott ss ≤ 200 * ss.length := by
    intro ss
    induction ss with
    | nil => intro _; simp [tott]
    | cons l ss ih =>
      intro h
      have h1 := ih (fun l hl => h l (List.mem_cons_of_mem _ hl))
      have h2 := (okL_iff.1 (h l List.mem_cons_self).2).2
      rw [tott_cons, List.length_cons]; omega
  have := key ss h3
  omega
theorem okB_srt {h : List Cel} {ss : List (List Cel)} (e : okB h ss = true) : Srt h ∧ ∀ l ∈ ss, Srt l := by
  obtain ⟨h1, -, h3⟩ := okB_iff.1 e
  exact ⟨okL_pair h1, fun l hl => okL_pair (h3 l hl).2⟩
theorem run_append_row {w : World} {base : Nat} {v u : Value} {us : List Value} (ty : TypeId) (hown : RowS base w v us) (hu : ∃ a n c, u = .slice a n c) (hlen : us.length ≤ 1000000) (hbase : base ≤ w.heap.size) (ad : Addr) (hc : w.cell? ad = some u) :
    ∃ v' w', (Builtin.append_ #[25, 25] ty #[v, .slice (some ad) 1 1]).run Try.prog w = .ok v' w' ∧ RowS base w' v' (us ++ [u]) ∧ w.grownBy w' v.ownBlock ∧ (v'.ownBlock = v.ownBlock ∨ v'.ownBlock = some w.heap.size) := by
  obtain ⟨i0, hi, hz0, hz1, hz2⟩ := info_parts infoS
  obtain ⟨a, n, c, rfl⟩ := hu
  obtain ⟨v', w', hr, h2, h3, h4, h5⟩ := run_append_own_at (P := Try.prog) w base 25 ty 24 i0 _ 1 24 Try.underlying25 hi hz0 hz1 hz2 rfl (by decide) v us.length us hown
    ad 1 1 [.slice a n c] rfl (fun j u hj => by
      cases j with
      | zero =>
        obtain rfl : Value.slice a n c = u := by simpa using hj
        simpa [Addr.add] using hc
      | succ j => simp at hj) (fun u hu => by rw [List.mem_singleton.1 hu]; rfl) (by unfold maxLen; omega) (by omega) hbase
  refine ⟨v', w', hr, ?_, h3, h5⟩
  unfold RowS
  rw [List.length_append]; exact h2
theorem appendS_in {F : Fence} {n : Nat} {ops : Array Oper} {rest : List Oper} {o : Oper} {a : Act} {Q : Exit → Act → World → Prop} (w : World) (hg : o.guard = none) (s x : Operand) (hop : o.op = Op.call { callee := Callee.builtin Builtin.append, args := #[s, x], argTypes := #[25, 25] })
    {base : Nat} {v u : Value} {us : List Value} {ad : Addr} (hs : a.eval s = v) (hx : a.eval x = .slice (some ad) 1 1) (hown : RowS base w v us) (hu : ∃ a n c, u = .slice a n c) (hlen : us.length ≤ 1000000) (hbase : base ≤ w.heap.size) (hc : w.cell? ad = some u)
    (hK : ∀ v' w', RowS base w' v' (us ++ [u]) → w.grownBy w' v.ownBlock → (v'.ownBlock = v.ownBlock ∨ v'.ownBlock = some w.heap.size) → wpListIn F n Try.prog ops Q rest (a.put o.dst v') w') :
    wpListIn F n Try.prog ops Q (o :: rest) a w := by
  refine wpListIn_plain hg fun K hK' => ?_
  obtain ⟨v', w', hrun, r1, r2, r3⟩ := run_append_row o.type hown hu hlen hbase ad hc
  unfold Oper.wpIn
  refine ⟨?_, ?_⟩
  · simp [Oper.about, hop, resolve, Target.leads, Sem.run_pure]
  · rw [Oper.semAt_plain F _ _ (by rw [hop]; intro c hc'; cases hc')]
    simp [execOp, hop, resolve, invoke, builtin, hs, hx, hrun, Result.andThen]
    exact hK' _ _ (hK v' w' r1 r2 r3)
end Go.Proofs.Ytefhdhblcaopiaa.Cl
