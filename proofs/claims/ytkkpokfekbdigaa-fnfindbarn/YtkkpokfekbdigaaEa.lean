/-
  Plain facts: what is found in a merger, in a store and in all its cells; what is found after a sweep; the bins of a row.
-/
import Derived.Test.YtkkpokfekbdigaaVa
namespace Go.Proofs.Ytkkpokfekbdigaa.Cl
open Go.RowKit Wd Rp Kp Ra
set_option linter.unusedVariables false
theorem srt_uniq : ∀ {l : List Cel}, Srt l → ∀ {c d : Cel}, c ∈ l → d ∈ l → c.ke d = true → c = d
  | [], _, _, _, hc, _, _ => by cases hc
  | x :: l, h, c, d, hc, hd, hk => by
    obtain ⟨h1, h2⟩ := srt_cons.1 h
    rcases List.mem_cons.1 hc with e | hc1
    · rcases List.mem_cons.1 hd with e' | hd1
      · rw [e, e']
      · rw [e] at hk; have := (ls_nke (h1 d hd1)).1; rw [hk] at this; cases this
    · rcases List.mem_cons.1 hd with e' | hd1
      · rw [e'] at hk; have := (ls_nke (h1 c hc1)).2; rw [hk] at this; cases this
      · exact srt_uniq h2 hc1 hd1 hk
theorem hit_ke {K c d : Cel} (h : c.ke d = true) : hit K c = hit K d := by
  obtain ⟨h1, h2, h3⟩ := (ke_iff c d).1 h
  unfold hit; rw [h1, h2, h3]
theorem hit_al2 {K c d : Cel} (h : hit K c = true) (k : hit K d = true) : c.al d = true := by
  obtain ⟨a1, a2, -⟩ := hit_iff.1 h
  obtain ⟨b1, b2, -⟩ := hit_iff.1 k
  exact (al_iff c d).2 ⟨a1.trans b1.symm, a2.trans b2.symm⟩
theorem srt_find {l : List Cel} {K c : Cel} (h : Srt l) (hf : findL l K = some c) : c ∈ l ∧ hit K c = true ∧ ∀ d ∈ l, hit K d = true → d.t ≤ c.t := by
  have hf' : l.find? (hit K) = some c := hf
  refine ⟨List.mem_of_find?_eq_some hf', List.find?_some hf', fun d hd hh => ?_⟩
  obtain ⟨hc, xs, ys, e, hn⟩ := List.find?_eq_some_iff_append.1 hf'
  rw [e] at hd h
  rcases List.mem_append.1 hd with hd | hd
  · have := hn d hd; rw [hh] at this; cases this
  · rcases List.mem_cons.1 hd with rfl | hd
    · exact Int.le_refl _
    · have h2 := (srt_cons.1 ((List.pairwise_append.1 h).2.1)).1 d hd
      exact Int.le_of_lt (al_time h2 (hit_al2 hc hh))
theorem find_nil {l : List Cel} {K : Cel} : findL l K = none ↔ ∀ d ∈ l, hit K d = false := by
  unfold findL
  rw [List.find?_eq_none]
  exact ⟨fun h d hd => by simpa using h d hd, fun h d hd => by simpa using h d hd⟩
theorem find_is {l : List Cel} {K c : Cel} (h : Srt l) (hc : c ∈ l) (hh : hit K c = true) (hm : ∀ d ∈ l, hit K d = true → d.t ≤ c.t) : findL l K = some c := by
  cases e : findL l K with
  | none => have := find_nil.1 e c hc; rw [hh] at this; cases this
  | some d =>
    obtain ⟨h1, h2, h3⟩ := srt_find h e
    have e1 := h3 c hc hh
    have e2 := hm d h1 h2
    obtain ⟨a1, a2, -⟩ := hit_iff.1 h2
    obtain ⟨b1, b2, -⟩ := hit_iff.1 hh
    rw [srt_uniq h h1 hc ((ke_iff d c).2 ⟨a1.trans b1.symm, a2.trans b2.symm, by omega⟩)]
theorem findR_some {l : List Cel} {K c : Cel} (h : findL l K = some c) : findR l K = (c, true) := by unfold findR; rw [h]
theorem findR_none {l : List Cel} {K : Cel} (h : findL l K = none) : findR l K = (zz, false) := by unfold findR; rw [h]
theorem merge_find {a b : List Cel} (K : Cel) (ha : Srt a) (hb : Srt b) : findR (mergeL a b) K = stepF (findR a K) (findR b K) := by
  have hs := srt_merge a b ha hb
  have hm := mem_merge a b ha hb
  cases ea : findL a K with
  | none =>
    have na := find_nil.1 ea
    cases eb : findL b K with
    | none =>
      have nb := find_nil.1 eb
      rw [findR_none ea, findR_none eb, step_no rfl, findR_none (find_nil.2 fun d hd => ?_)]
      rcases sub_merge a b d hd with hd | hd
      · exact na d hd
      · exact nb d hd
    | some d =>
      obtain ⟨h1, h2, h3⟩ := srt_find hb eb
      rw [findR_none ea, findR_some eb, step_new rfl rfl]
      refine findR_some (find_is hs ((hm d).2 (.inr ⟨h1, fun x hx => ?_⟩)) h2 fun x hx hh => ?_)
      · cases k : x.ke d with
        | false => rfl
        | true => have := na x hx; rw [hit_ke k, h2] at this; cases this
      · rcases sub_merge a b x hx with hx | hx
        · have := na x hx; rw [hh] at this; cases this
        · exact h3 x hx hh
  | some c =>
    obtain ⟨g1, g2, g3⟩ := srt_find ha ea
    cases eb : findL b K with
    | none =>
      have nb := find_nil.1 eb
      rw [findR_none eb, findR_some ea, step_no rfl]
      refine findR_some (find_is hs ((hm c).2 (.inl g1)) g2 fun x hx hh => ?_)
      rcases sub_merge a b x hx with hx | hx
      · exact g3 x hx hh
      · have := nb x hx; rw [hh] at this; cases this
    | some d =>
      obtain ⟨h1, h2, h3⟩ := srt_find hb eb
      rw [findR_some ea, findR_some eb]
      by_cases ht : c.t < d.t
      · rw [step_yes rfl rfl ht]
        refine findR_some (find_is hs ((hm d).2 (.inr ⟨h1, fun x hx => ?_⟩)) h2 fun x hx hh => ?_)
        · cases k : x.ke d with
          | false => rfl
          | true =>
            have e1 := g3 x hx (by rw [hit_ke k]; exact h2)
            have e2 := ((ke_iff x d).1 k).2.2
            omega
        · rcases sub_merge a b x hx with hx | hx
          · exact Int.le_trans (g3 x hx hh) (Int.le_of_lt ht)
          · exact h3 x hx hh
      · rw [step_old rfl rfl ht]
        refine findR_some (find_is hs ((hm c).2 (.inl g1)) g2 fun x hx hh => ?_)
        rcases sub_merge a b x hx with hx | hx
        · exact g3 x hx hh
        · have := h3 x hx hh; omega
theorem mg_find (K : Cel) : ∀ (ss : List (List Cel)) (h : List Cel), Srt h → (∀ l ∈ ss, Srt l) → fdR h ss K = findR (mgA h ss) K
  | [], h, _, _ => rfl
  | l :: ss, h, hh, hs => by
    have e := mg_find K ss (mergeL h l) (srt_merge h l hh (hs l (by simp))) (fun x hx => hs x (by simp [hx]))
    show (ss.map fun t => findR t K).foldl stepF (stepF (findR h K) (findR l K)) = findR (mgA (mergeL h l) ss) K
    rw [← merge_find K hh (hs l (by simp)), ← e]; rfl
/-- What is found in a store is what is found in all its cells. -/
theorem mgA_sub : ∀ (ss : List (List Cel)) (h : List Cel), ∀ c ∈ mgA h ss, c ∈ h ∨ ∃ l ∈ ss, c ∈ l
  | [], h, c, hc => .inl hc
  | l :: ss, h, c, hc => by
    rcases mgA_sub ss (mergeL h l) c hc with hc | ⟨m, hm, hc⟩
    · rcases sub_merge h l c hc with hc | hc
      · exact .inl hc
      · exact .inr ⟨l, by simp, hc⟩
    · exact .inr ⟨m, by simp [hm], hc⟩
theorem okB_mem {h : List Cel} {ss : List (List Cel)} (ho : okB h ss = true) : ∀ c ∈ mgA h ss, c.ok = true := fun c hc => by
  obtain ⟨h1, -, h3⟩ := okB_iff.1 ho
  rcases mgA_sub ss h c hc with hc | ⟨l, hl, hc⟩
  · exact okL_mem h1 c hc
  · exact okL_mem (h3 l hl).2 c hc
theorem okL_all {h : List Cel} {ss : List (List Cel)} : okL (allP h ss) = true := by
  cases ho : okB h ss with
  | false => rw [allP_no ho]; rfl
  | true =>
    by_cases hb : 200 < (mgA h ss).length
    · rw [allP_big ho hb]; rfl
    · rw [allP_yes ho hb]
      exact okL_of (okB_mem ho) (mgA_srt ss h (okB_srt ho).1 (okB_srt ho).2) (by omega)
theorem find_all {h : List Cel} {ss : List (List Cel)} (K : Cel) (hne : (allP h ss).length ≠ 0) : findP (allP h ss) K = fdP h ss K := by
  cases ho : okB h ss with
  | false => rw [allP_no ho] at hne; exact absurd rfl hne
  | true =>
    by_cases hb : 200 < (mgA h ss).length
    · rw [allP_big ho hb] at hne; exact absurd rfl hne
    · cases hk : keyB K.r.data.toList K.b.data.toList K.t with
      | false => rw [fdP_key hk, findP_no (by rw [hk, Bool.and_false])]
      | true => rw [findP_yes okL_all hk, fdP_is ho hk, allP_yes ho hb, mg_find K ss h (okB_srt ho).1 (okB_srt ho).2]
end Go.Proofs.Ytkkpokfekbdigaa.Cl
