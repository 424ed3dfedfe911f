/-
  Plain facts for FnSwept: after a sweep the same bins are found from its time on, where nothing in the hand is of that time or earlier.
-/
import Derived.Test.YtcloejmakjdgcaaIc
import Derived.Test.YtcloejmakjdgcaaWm
import Derived.Test.YtcloejmakjdgcaaEg
namespace Go.Proofs.Ytcloejmakjdgcaa.Cl
open Go.RowKit Wd Rp Cu Kp Ra
set_option linter.unusedVariables false
theorem mgA_is {h : List Cel} {ss : List (List Cel)} (hne : ss ≠ []) (hh : Srt h) (hs : ∀ l ∈ ss, Srt l) : mgA h ss = mergeL h (mgA [] ss) := by
  have hl : (List.replicate ss.length (⟨none, 0, 0⟩ : Hd)).length = ss.length := List.length_replicate
  have s1 := mgA_srt ss [] srt_nil hs
  refine srt_ext (mgA_srt ss h hh hs) (srt_merge _ _ hh s1) fun c => ?_
  rw [mgA_mem 0 _ ss h hl hh hs, mem_merge _ _ hh s1, piles_mg hl hne hs]
  exact ⟨fun k => k.elim .inl fun ⟨a, b⟩ => .inr ⟨b, a⟩, fun k => k.elim .inl fun ⟨a, b⟩ => .inr ⟨b, a⟩⟩
theorem findL_R {l m : List Cel} {K : Cel} (h : findR l K = findR m K) : findL l K = findL m K := by
  cases e1 : findL l K with
  | none =>
    rw [findR_none e1] at h
    cases e2 : findL m K with
    | none => rfl
    | some d => rw [findR_some e2] at h; cases h
  | some c =>
    rw [findR_some e1] at h
    cases e2 : findL m K with
    | none => rw [findR_none e2] at h; cases h
    | some d => rw [findR_some e2] at h; cases h; rfl
theorem findL_some {l : List Cel} {K c : Cel} (h : findR l K = (c, true)) : findL l K = some c := by
  cases e1 : findL l K with
  | none => rw [findR_none e1] at h; cases h
  | some d => rw [findR_some e1] at h; cases h; rfl
theorem findL_none {l : List Cel} {K c : Cel} (h : findR l K = (c, false)) : findL l K = none := by
  cases e1 : findL l K with
  | none => rfl
  | some d => rw [findR_some e1] at h; cases h
/-- What is found behind a sweep. -/
theorem sweep_find {h M : List Cel} {k : Nat} {f : Int} {K : Cel} (hh : Srt h) (hM : Srt M) (hk : 1 ≤ k) (hf : f ≤ K.t) (hnew : ∀ c ∈ h, f < c.t) :
    findL (mergeL h (thinL k f M)) K = findL (mergeL h M) K ∨ (findL (mergeL h (thinL k f M)) K = none ∧ ∃ d, findL (mergeL h M) K = some d ∧ d.g = true) := by
  have hT : Srt (thinL k f M) := List.Pairwise.sublist (thin_subl k f M) hM
  rcases thin_find hM hk hf with e | ⟨e1, d, e2, e3, e4⟩
  · left
    apply findL_R
    rw [merge_find K hh hT, merge_find K hh hM]
    congr 1
    unfold findR; rw [e]
  · cases eh : findL h K with
    | none =>
      right
      refine ⟨findL_none (c := zz) ?_, d, findL_some ?_, e3⟩
      · rw [merge_find K hh hT, findR_none eh, findR_none e1, step_no rfl]
      · rw [merge_find K hh hM, findR_none eh, findR_some e2, step_new rfl rfl]
    | some c =>
      left
      apply findL_R
      have hc := hnew c (srt_find hh eh).1
      rw [merge_find K hh hT, merge_find K hh hM, findR_some eh, findR_none e1, findR_some e2, step_no rfl, step_old rfl rfl (by show ¬ c.t < d.t; omega)]
theorem ok_name {c : Cel} (h : c.ok = true) : c.b.toList ≠ [] := by
  have hk := ok_key h
  unfold keyB at hk
  simp only [Bool.and_eq_true] at hk
  have h2 := hk.2.1
  unfold nmB at h2
  simp only [Bool.and_eq_true, decide_eq_true_eq] at h2
  intro e
  rw [Lib.toList_data] at e
  rw [e] at h2
  simp at h2
/-- What Swept gives. -/
theorem sw_cases (h : List Cel) (ss : List (List Cel)) (k f : Int) : (okB h ss = false ∧ swH h ss k f = [] ∧ swS h ss k f = [] ∧ swB h ss k f = false) ∨ (okB h ss = true ∧ swH h ss k f = h ∧ swS h ss k f = ss ∧ swB h ss k f = false) ∨
    (okB h ss = true ∧ swB h ss k f = true ∧ swH h ss k f = h ∧ okB h (swS h ss k f) = true ∧ (swS h ss k f).length ≤ 1 ∧ 0 ≤ f ∧ f ≤ 1000000 ∧ ((∀ c ∈ h, f < c.t) → ∀ R T, f ≤ T → bnP h (swS h ss k f) R T = bnP h ss R T)) := by
  cases e : okB h ss with
  | false => exact .inl ⟨rfl, by unfold swH; rw [e]; rfl, by unfold swS; rw [e]; rfl, by unfold swB; rw [e]; rfl⟩
  | true =>
    have e1 : swH h ss k f = h := by unfold swH; rw [e]; rfl
    have e2 : swS h ss k f = syS ss k f := by unfold swS; rw [e]; rfl
    have e3 : swB h ss k f = syB ss k f := by unfold swB; rw [e]; rfl
    rw [e1, e2, e3]
    cases hs : syB ss k f with
    | false => exact .inr (.inl ⟨rfl, rfl, sy_no hs, rfl⟩)
    | true =>
      right; right
      obtain ⟨o1, o2, o3⟩ := okB_iff.1 e
      have hne : ss ≠ [] := fun x => by rw [sy_empty (by rw [x]; rfl)] at hs; cases hs
      have hth : thB k f = true := by
        cases x : thB k f with
        | true => rfl
        | false => rw [sy_bad x] at hs; cases hs
      obtain ⟨t1, t2, t3, t4⟩ := thB_iff.1 hth
      have hlen := sy_len hs
      obtain ⟨q1, q2⟩ := okB_srt e
      have hM := mgA_srt ss [] srt_nil q2
      have hMok : ∀ c ∈ mgA [] ss, c.ok = true := fun c hc => by
        rcases mgA_sub ss [] c hc with hc | ⟨l, hl, hc⟩
        · cases hc
        · exact okL_mem (o3 l hl).2 c hc
      have hsub := thin_subl k.toNat f (mgA [] ss)
      have hAok : okL (swA ss k f) = true := okL_of (fun c hc => hMok c (hsub.mem hc)) (List.Pairwise.sublist hsub hM) hlen
      have hmg : mgA h (syS ss k f) = mergeL h (swA ss k f) := by
        by_cases h0 : (swA ss k f).length = 0
        · rw [sy_none hs h0, List.length_eq_zero_iff.1 h0, mergeL_nil]; rfl
        · rw [sy_some hs h0]; rfl
      have hok2 : okB h (syS ss k f) = true := by
        by_cases h0 : (swA ss k f).length = 0
        · rw [sy_none hs h0]; exact okB_iff.2 ⟨o1, by simp, fun l hl => by cases hl⟩
        · rw [sy_some hs h0]; exact okB_iff.2 ⟨o1, by simp, fun l hl => by rw [List.mem_singleton.1 hl]; exact ⟨fun x => h0 (by rw [x]; rfl), hAok⟩⟩
      refine ⟨rfl, rfl, rfl, hok2, ?_, t3, t4, fun hnew R T hT => ?_⟩
      · by_cases h0 : (swA ss k f).length = 0
        · rw [sy_none hs h0]; simp
        · rw [sy_some hs h0]; simp
      · have key : binsL R T (mgA h ss) = binsL R T (mgA h (syS ss k f)) := by
          refine bins_same (mgA_srt ss h q1 q2) (fun c hc => ok_name (okB_mem e c hc)) (mgA_srt _ h q1 (okB_srt hok2).2) (fun c hc => ok_name (okB_mem hok2 c hc)) fun n => ?_
          rw [hmg, mgA_is hne q1 q2]
          exact sweep_find q1 hM (by omega) hT hnew
        unfold bnP
        rw [e, hok2, key]
theorem sw_low2 (h : List Cel) (ss : List (List Cel)) (k f : Int) (hl : Low h ss) : Low (swH h ss k f) (swS h ss k f) := by
  rcases sw_cases h ss k f with ⟨-, e1, e2, -⟩ | ⟨-, e1, e2, -⟩ | ⟨-, -, e1, e, -⟩
  · rw [e1, e2]; exact low_nil
  · rw [e1, e2]; exact hl
  · rw [e1]; exact okB_low e
theorem swI {h ph : List Cel} {ss ps : List (List Cel)} {k f : Int} {is : Bool} (e : swH h ss k f = ph ∧ swS h ss k f = ps ∧ swB h ss k f = is) {B : Nat} {hv sv : Value} (w : World) (o : OwB B w hv sv h ss) (s : Stor h ss) :
    Calls Try.prog 37 #[.agg #[hv, sv], .int .i64 k, .int .i64 f] w fun e w' => ∃ a n c sa m sc, e = .returned (.tuple #[.agg #[.slice a n c, .slice sa m sc], .bool is]) ∧ OwB w.heap.size w' (.slice a n c) (.slice sa m sc) ph ps ∧ ph.length = n ∧ ps.length = m ∧ Below w.heap.size w w' := by
  have := implSweptO k f w o s.low
  rw [e.1, e.2.1, e.2.2] at this; exact this.mono fun _ _ p => p.op
theorem swSp {h ph : List Cel} {ss ps : List (List Cel)} {k f : Int} {is : Bool} (e : swH h ss k f = ph ∧ swS h ss k f = ps ∧ swB h ss k f = is) {B : Nat} {hv sv : Value} (w : World) (o : OwB B w hv sv h ss) (s : Stor h ss) :
    Calls Try.prog 38 #[.agg #[hv, sv], .int .i64 k, .int .i64 f] w fun e w' => ∃ a n c sa m sc, e = .returned (.tuple #[.agg #[.slice a n c, .slice sa m sc], .bool is]) ∧ OwB w.heap.size w' (.slice a n c) (.slice sa m sc) ph ps ∧ ph.length = n ∧ ps.length = m ∧ Below w.heap.size w w' := by
  have := specSweptO k f w o s.low s.mod
  rw [e.1, e.2.1, e.2.2] at this; exact this.mono fun _ _ p => p.op
/-- The rows that the law looks at. -/
def rowsO : Obj := .cells #[.string ⟨#[97]⟩, .string ⟨#[98]⟩, .string ⟨#[97, 98]⟩, .string ⟨#[99]⟩, .string ⟨#[104, 97, 121]⟩, .string ⟨#[111, 97, 116, 115]⟩] 9
theorem rows_at {w : World} {p : Nat} (h : w.heap[p]? = some rowsO) {i : Nat} (hi : i < 6) : ∃ R : ByteArray, w.cell? ⟨p, i, none⟩ = some (.string R) ∧ R.size ≤ 9 := by
  have key : ∀ j, w.cell? ⟨p, j, none⟩ = (#[.string ⟨#[97]⟩, .string ⟨#[98]⟩, .string ⟨#[97, 98]⟩, .string ⟨#[99]⟩, .string ⟨#[104, 97, 121]⟩, .string ⟨#[111, 97, 116, 115]⟩] : Array Value)[j]? := fun j => by simp only [World.cell?, h]; rfl
  match i, hi with
  | 0, _ => exact ⟨_, key 0, by decide⟩
  | 1, _ => exact ⟨_, key 1, by decide⟩
  | 2, _ => exact ⟨_, key 2, by decide⟩
  | 3, _ => exact ⟨_, key 3, by decide⟩
  | 4, _ => exact ⟨_, key 4, by decide⟩
  | 5, _ => exact ⟨_, key 5, by decide⟩
theorem ok_mod {c : Cel} (h : c.ok = true) : c.mod := by
  have hk := ok_key h
  unfold keyB nmB at hk
  simp only [Bool.and_eq_true, decide_eq_true_eq] at hk
  have h1 : c.r.size = c.r.data.toList.length := rfl
  have h2 : c.b.size = c.b.data.toList.length := rfl
  exact ⟨by omega, by omega⟩
theorem bnP_len (h : List Cel) (ss : List (List Cel)) (R : ByteArray) (T : Int) : (bnP h ss R T).length ≤ 12 := by
  unfold bnP
  split
  · split
    · simp
    · omega
  · simp
end Go.Proofs.Ytcloejmakjdgcaa.Cl
