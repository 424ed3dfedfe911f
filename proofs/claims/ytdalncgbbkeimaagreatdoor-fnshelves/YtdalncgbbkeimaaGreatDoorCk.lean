/-
  The contract of spec.PutCell: 'putP'.
  Contracts of spec.l4Find and spec.Find: 'findR', 'findP'.
  Plain facts for FnCells: a valid list with a cell put is valid, and the cell is found in it; what is found stands at the place asked for, and no later one does.
-/
import Derived.Test.YtdalncgbbkeimaaGreatDoorCj
import Derived.Test.YtdalncgbbkeimaaGreatDoorCa
namespace Go.Proofs.YtdalncgbbkeimaaGreatDoor.Cl
open Go.RowKit Wd Rp Kp
set_option linter.unusedVariables false
/-- What PutCell gives. -/
def PutPost (l : List Cel) (c : Cel) (w : World) (e : Ending) (w' : World) : Prop := ∃ v, e = .returned (.tuple #[v, .bool (putP l c).2]) ∧ OwC w.heap.size w' v (putP l c).1 ∧ Below w.heap.size w w'
theorem putP_bad {l : List Cel} {c : Cel} (h : okL l = false) : putP l c = ([], false) := by unfold putP; rw [h]; rfl
theorem putP_no {l : List Cel} {c : Cel} (h : okL l = true) (hc : c.ok = false) : putP l c = (l, false) := by unfold putP; rw [h, hc]; rfl
theorem putP_big {l : List Cel} {c : Cel} (h : okL l = true) (hc : c.ok = true) (hb : 200 < (putL l c).length) : putP l c = (l, false) := by unfold putP; rw [h, hc, if_pos hb]; rfl
theorem putP_yes {l : List Cel} {c : Cel} (h : okL l = true) (hc : c.ok = true) (hb : ¬ 200 < (putL l c).length) : putP l c = (putL l c, true) := by unfold putP; rw [h, hc, if_neg hb]; rfl
theorem specCells_is {l : List Cel} {x : Bool} (h : okL l = x) (w : World) (a : Option Addr) (cap : Nat) (n : Nat) (hn : l.length = n) (hv : Vw w a cap l) (hm : ∀ c ∈ l, c.mod) (hlen : n ≤ 4194304) :
    Calls Tryz.prog 13 #[.slice a n cap] w fun e w' => e = .returned (.bool x) ∧ Below w.heap.size w w' := by
  subst hn; rw [← h]; exact specCells_any w a cap l hv hm hlen
theorem l4Put_any' (w : World) (a : Option Addr) (cap : Nat) (l : List Cel) (c : Cel) (n : Nat) (hn : l.length = n) (hv : Vw w a cap l) (hl : n ≤ 4194304) :
    Calls Tryz.prog 41 #[.slice a n cap, .agg #[.string c.r, .string c.b, .int .i64 c.t, .int .i64 c.v, .bool c.g]] w fun e w' => ∃ v, e = .returned v ∧ OwC w.heap.size w' v (putL l c) ∧ Below w.heap.size w w' := by
  subst hn; exact l4Put_any w a cap l c hv hl
end Go.Proofs.YtdalncgbbkeimaaGreatDoor.Cl
namespace Go.Proofs.YtdalncgbbkeimaaGreatDoor.Cl
open Go.RowKit Wd Rp Kp
set_option linter.unusedVariables false
def zz : Cel := ⟨⟨#[]⟩, ⟨#[]⟩, 0, 0, false⟩
def findR (l : List Cel) (K : Cel) : Cel × Bool := match findL l K with | some c => (c, true) | none => (zz, false)
def Cel.agg (c : Cel) : Value := .agg #[.string c.r, .string c.b, .int .i64 c.t, .int .i64 c.v, .bool c.g]
theorem findP_no {l : List Cel} {K : Cel} (h : (okL l && keyB K.r.data.toList K.b.data.toList K.t) = false) : findP l K = (zz, false) := by unfold findP; rw [h]; rfl
theorem findP_yes {l : List Cel} {K : Cel} (h : okL l = true) (hK : keyB K.r.data.toList K.b.data.toList K.t = true) : findP l K = findR l K := by unfold findP findR; rw [h, hK]; rfl
theorem findR_hit {l : List Cel} {K c : Cel} {k : Nat} (hlo : ∀ m d, m < k → l[m]? = some d → hit K d = false) (hc : l[k]? = some c) (hh : hit K c = true) : findR l K = (c, true) := by
  unfold findR findL; rw [find_yes hc hlo hh]
theorem findR_end {l : List Cel} {K : Cel} (hlo : ∀ m d, m < l.length → l[m]? = some d → hit K d = false) : findR l K = (zz, false) := by
  unfold findR findL
  rw [find_no fun m d hd => hlo m d (List.getElem?_eq_some_iff.1 hd).1 hd]
def FindPost (x : Cel × Bool) (w : World) (e : Ending) (w' : World) : Prop := e = .returned (.tuple #[x.1.agg, .bool x.2]) ∧ Below w.heap.size w w'
end Go.Proofs.YtdalncgbbkeimaaGreatDoor.Cl
namespace Go.Proofs.YtdalncgbbkeimaaGreatDoor.Cl
open Go.RowKit Wd Rp Kp
set_option linter.unusedVariables false
theorem okL_of {l : List Cel} (h1 : ∀ c ∈ l, c.ok = true) (h2 : l.Pairwise fun a b => a.ls b = true) (h3 : l.length ≤ 200) : okL l = true := by
  refine okL_iff.2 ⟨fun j hj => ?_, h3⟩
  have hc : l[j]? = some l[j] := List.getElem?_eq_getElem hj
  cases j with
  | zero => rw [okAt_zero hc]; exact h1 _ (List.getElem_mem hj)
  | succ i =>
    have hq : l[i]? = some l[i] := List.getElem?_eq_getElem (by omega)
    rw [okAt_succ hc hq, h1 _ (List.getElem_mem hj), Bool.true_and]
    exact List.pairwise_iff_getElem.1 h2 i (i + 1) (by omega) hj (by omega)
theorem okL_mem {l : List Cel} (h : okL l = true) : ∀ c ∈ l, c.ok = true := fun c hc => by
  obtain ⟨k, hk⟩ := List.mem_iff_getElem?.1 hc
  exact ok_get h hk
theorem okL_pair {l : List Cel} (h : okL l = true) : l.Pairwise fun a b => a.ls b = true :=
  List.pairwise_iff_getElem.2 fun i j hi hj hij => sorted h hij (List.getElem?_eq_getElem hi) (List.getElem?_eq_getElem hj)
theorem put_lo {l : List Cel} {c d : Cel} (hd : d ∈ l.take (cntP (fun d => d.ls c) l)) : d.ls c = true := by
  obtain ⟨g1, g2, g3⟩ := cntP_spec (fun d => d.ls c) l
  obtain ⟨k, hk⟩ := List.mem_iff_getElem?.1 hd
  have hkl := (List.getElem?_eq_some_iff.1 hk).1
  rw [List.length_take] at hkl
  rw [List.getElem?_take_of_lt (by omega)] at hk
  exact g2 k d (by omega) hk
theorem put_hi {l : List Cel} {c d : Cel} (h : okL l = true) (hd : d ∈ l.drop (cntP (fun d => d.ls c) l + if there l (cntP (fun d => d.ls c) l) c then 1 else 0)) : c.ls d = true := by
  obtain ⟨g1, g2, g3⟩ := cntP_spec (fun d => d.ls c) l
  generalize hn : cntP (fun d => d.ls c) l = n at *
  obtain ⟨k, hk⟩ := List.mem_iff_getElem?.1 hd
  rw [List.getElem?_drop] at hk
  have hkl := (List.getElem?_eq_some_iff.1 hk).1
  obtain ⟨q, hq⟩ : ∃ q, l[n]? = some q := ⟨l[n], List.getElem?_eq_getElem (by omega)⟩
  have hnl := g3 q hq
  cases ht : there l n c with
  | true =>
    rw [ht] at hk
    simp only [if_true] at hk
    have hke : q.ke c = true := by unfold there at ht; rw [hq] at ht; exact ht
    have := sorted h (i := n) (by omega) hq hk
    rw [(ls_ke hke d).2] at this; exact this
  | false =>
    rw [ht] at hk
    simp only [Bool.false_eq_true, if_false, Nat.add_zero] at hk
    have hke : q.ke c = false := by unfold there at ht; rw [hq] at ht; exact ht
    have hcq : c.ls q = true := ls_tri3 q c hnl hke
    cases k with
    | zero => rw [Nat.add_zero] at hk; rw [hq] at hk; cases hk; exact hcq
    | succ k => exact ls_trans hcq (sorted h (by omega) hq hk)
theorem okL_put {l : List Cel} {c : Cel} (h : okL l = true) (hc : c.ok = true) (hl : (putL l c).length ≤ 200) : okL (putL l c) = true := by
  refine okL_of (fun d hd => ?_) ?_ hl
  · unfold putL at hd
    rcases List.mem_append.1 hd with h1 | h1
    · exact okL_mem h d (List.mem_of_mem_take h1)
    · rcases List.mem_cons.1 h1 with rfl | h1
      · exact hc
      · exact okL_mem h d (List.mem_of_mem_drop h1)
  · unfold putL
    have hp := okL_pair h
    refine List.pairwise_append.2 ⟨hp.sublist (List.take_sublist _ _), List.pairwise_cons.2 ⟨fun d hd => put_hi h hd, hp.sublist (List.drop_sublist _ _)⟩, fun a ha b hb => ?_⟩
    have h1 := put_lo ha
    rcases List.mem_cons.1 hb with rfl | hb
    · exact h1
    · exact ls_trans h1 (put_hi h hb)
theorem hit_self (c : Cel) : hit c c = true := hit_iff.2 ⟨rfl, rfl, Int.le_refl _⟩
theorem find_put {l : List Cel} {c : Cel} (h : okL l = true) (hc : c.ok = true) (hl : (putL l c).length ≤ 200) : findP (putL l c) c = (c, true) := by
  rw [findP_yes (okL_put h hc hl) (ok_key hc)]
  obtain ⟨g1, -, -⟩ := cntP_spec (fun d => d.ls c) l
  refine findR_hit (k := cntP (fun d => d.ls c) l) (fun m d hm hd => ?_) ?_ (hit_self c)
  · unfold putL at hd
    rw [List.getElem?_append_left (by rw [List.length_take]; omega)] at hd
    exact less_hit (put_lo (List.mem_of_getElem? hd))
  · unfold putL
    rw [List.getElem?_append_right (by rw [List.length_take]; omega), List.length_take, Nat.min_eq_left g1, Nat.sub_self]
    rfl
theorem findP_cases (l : List Cel) (K : Cel) : findP l K = (zz, false) ∨ ∃ c, findP l K = (c, true) ∧ c ∈ l ∧ c.r = K.r ∧ c.b = K.b ∧ c.t ≤ K.t ∧ ∀ d ∈ l, d.r = K.r → d.b = K.b → d.t ≤ K.t → d.t ≤ c.t := by
  cases h : (okL l && keyB K.r.data.toList K.b.data.toList K.t) with
  | false => exact Or.inl (findP_no h)
  | true =>
    rw [Bool.and_eq_true] at h
    rw [findP_yes h.1 h.2]
    unfold findR findL
    cases hf : l.find? (hit K) with
    | none => exact Or.inl rfl
    | some c =>
      obtain ⟨h1, h2, h3⟩ := hit_iff.1 (List.find?_some hf)
      have hm := List.mem_of_find?_eq_some hf
      refine Or.inr ⟨c, rfl, hm, ba_ext h1, ba_ext h2, h3, fun d hd d1 d2 d3 => ?_⟩
      obtain ⟨i, hi⟩ := List.mem_iff_getElem?.1 hm
      obtain ⟨j, hj⟩ := List.mem_iff_getElem?.1 hd
      rcases Nat.lt_trichotomy i j with e | e | e
      · have := sorted h.1 e hi hj
        rw [ls_iff, ba_ext h1, ba_ext h2, d1, d2, bl_irr, bl_irr] at this
        rcases this with x | ⟨_, x | ⟨_, x⟩⟩
        · cases x
        · cases x
        · omega
      · subst e; rw [hi] at hj; cases hj; exact Int.le_refl _
      · exfalso
        obtain ⟨_, xs, ys, e1, e2⟩ := List.find?_eq_some_iff_append.1 hf
        have hia : ∃ m : Nat, l[m]? = some c ∧ ∀ (k : Nat) (x : Cel), k < m → l[k]? = some x → hit K x = false := by
          refine ⟨xs.length, by rw [e1]; simp, fun k x hk hx => ?_⟩
          rw [e1, List.getElem?_append_left hk] at hx
          have := e2 x (List.mem_of_getElem? hx)
          simpa using this
        obtain ⟨m, hm1, hm2⟩ := hia
        have hmi : m = i := by
          rcases Nat.lt_trichotomy m i with q | q | q
          · have := sorted h.1 q hm1 hi; rw [ls_irr] at this; cases this
          · exact q
          · have := sorted h.1 q hi hm1; rw [ls_irr] at this; cases this
        subst hmi
        have := hm2 j d e hj
        rw [hit_iff.2 ⟨by rw [d1], by rw [d2], d3⟩] at this; cases this
theorem putP_cases (l : List Cel) (c : Cel) : (okL l = false ∧ putP l c = ([], false)) ∨ (okL l = true ∧ putP l c = (l, false)) ∨ (okL l = true ∧ c.ok = true ∧ (putL l c).length ≤ 200 ∧ putP l c = (putL l c, true)) := by
  cases h : okL l with
  | false => exact Or.inl ⟨rfl, putP_bad h⟩
  | true =>
    cases hc : c.ok with
    | false => exact Or.inr (Or.inl ⟨rfl, putP_no h hc⟩)
    | true =>
      by_cases hb : 200 < (putL l c).length
      · exact Or.inr (Or.inl ⟨rfl, putP_big h hc hb⟩)
      · exact Or.inr (Or.inr ⟨rfl, rfl, by omega, putP_yes h hc hb⟩)
theorem putL_ge (l : List Cel) (c : Cel) : l.length ≤ (putL l c).length := by
  rw [putL_len]; split
  · rename_i h; have := there_lt h; omega
  · omega
end Go.Proofs.YtdalncgbbkeimaaGreatDoor.Cl
