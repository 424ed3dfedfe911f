/-
  The contract of impl.Merged: 'mgP'.
-/
import Derived.Test.YtopcjiaakefmeaaPh
import Derived.Test.YtopcjiaakefmeaaCn
namespace Go.Proofs.Ytopcjiaakefmeaa.Cl
open Go.RowKit Wd Rp Kp
set_option linter.unusedVariables false
/-- What Merged gives. -/
def mgP (a b : List Cel) : List Cel := if okL a && okL b then (if 200 < (mergeL a b).length then [] else mergeL a b) else []
theorem mgP_no {a b : List Cel} (h : (okL a && okL b) = false) : mgP a b = [] := by unfold mgP; rw [h]; rfl
theorem mgP_big {a b : List Cel} (h : okL a = true) (k : okL b = true) (hb : 200 < (mergeL a b).length) : mgP a b = [] := by unfold mgP; rw [h, k, if_pos hb]; rfl
theorem mgP_yes {a b : List Cel} (h : okL a = true) (k : okL b = true) (hb : ¬ 200 < (mergeL a b).length) : mgP a b = mergeL a b := by unfold mgP; rw [h, k, if_neg hb]; rfl
theorem okL_len {l : List Cel} (h : okL l = true) : l.length ≤ 200 := (okL_iff.1 h).2
theorem okL_srt {l : List Cel} (h : okL l = true) : Srt l := okL_pair h
theorem mgP_len (a b : List Cel) : (mgP a b).length ≤ 200 := by
  unfold mgP; split
  · split
    · simp
    · omega
  · simp
/-- Two lists, merged by rank. -/
theorem two_fst {x y : Option Addr} {cx cy : Nat} {a b : List Cel} (ha : Srt a) (hb : Srt b) (c : Cel) : Fst [⟨0, x, cx, a⟩, ⟨1, y, cy, b⟩] c ↔ c ∈ mergeL a b := by
  rw [mem_merge a b ha hb]
  constructor
  · rintro ⟨p, hp, hc, h⟩
    rcases List.mem_cons.1 hp with rfl | hp
    · exact Or.inl hc
    · rw [List.mem_singleton] at hp; subst hp
      exact Or.inr ⟨hc, h ⟨0, x, cx, a⟩ List.mem_cons_self (by show 0 < 1; omega)⟩
  · rintro (h | ⟨h1, h2⟩)
    · refine ⟨_, List.mem_cons_self, h, fun q hq hk => ?_⟩
      exact absurd hk (Nat.not_lt_zero _)
    · refine ⟨_, List.mem_cons_of_mem _ (List.mem_singleton.2 rfl), h1, fun q hq hk d hd => ?_⟩
      rcases List.mem_cons.1 hq with rfl | hq
      · exact h2 d hd
      · rw [List.mem_singleton] at hq; subst hq
        exact absurd hk (Nat.lt_irrefl _)
def MgPost (a b : List Cel) (w : World) (e : Ending) (w' : World) : Prop := ∃ v, e = .returned v ∧ OwC w.heap.size w' v (mgP a b) ∧ Below w.heap.size w w'
end Go.Proofs.Ytopcjiaakefmeaa.Cl
