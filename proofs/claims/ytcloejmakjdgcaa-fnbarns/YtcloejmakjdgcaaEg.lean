/-
  Plain facts for FnBarns, and the contracts as its walk takes them.
-/
import Derived.Test.YtcloejmakjdgcaaEa
import Derived.Test.YtcloejmakjdgcaaEf
import Derived.Test.YtcloejmakjdgcaaEe
import Derived.Test.YtcloejmakjdgcaaWe
import Derived.Test.YtcloejmakjdgcaaWi
namespace Go.Proofs.Ytcloejmakjdgcaa.Cl
open Go.RowKit Wd Rp Cu Kp Ra
set_option linter.unusedVariables false
theorem okB_low {h : List Cel} {ss : List (List Cel)} (e : okB h ss = true) : Low h ss := by
  obtain ⟨h1, h2, h3⟩ := okB_iff.1 e
  exact ⟨by have := (okL_iff.1 h1).2; omega, by omega, fun l hl => by have := (okL_iff.1 (h3 l hl).2).2; omega⟩
theorem low_nil : Low [] [] := ⟨by simp, by simp, fun l hl => by cases hl⟩
theorem put_barn {h : List Cel} {ss : List (List Cel)} {c : Cel} (e : okB h ss = true) (hc : c.ok = true) (hl : (putL h c).length ≤ 200) : okB (putL h c) ss = true ∧ fdP (putL h c) ss c = (c, true) := by
  obtain ⟨h1, h2, h3⟩ := okB_iff.1 e
  have o1 := okL_put h1 hc hl
  have o2 : okB (putL h c) ss = true := okB_iff.2 ⟨o1, h2, h3⟩
  refine ⟨o2, ?_⟩
  rw [fdP_is o2 (ok_key hc)]
  have e1 := find_put h1 hc hl
  rw [findP_yes o1 (ok_key hc)] at e1
  unfold fdR
  rw [e1]
  have key : ∀ ts : List (List Cel), (ts.map fun t => findR t c).foldl stepF (c, true) = (c, true) := by
    intro ts
    induction ts with
    | nil => rfl
    | cons t ts ih =>
      rw [List.map_cons, List.foldl_cons]
      have : stepF (c, true) (findR t c) = (c, true) := by
        cases ef : findL t c with
        | none => rw [findR_none ef, step_no rfl]
        | some d =>
          rw [findR_some ef]
          have hh : hit c d = true := List.find?_some (show t.find? (hit c) = some d from ef)
          exact step_old rfl rfl (by have := (hit_iff.1 hh).2.2; show ¬ c.t < d.t; omega)
      rw [this]; exact ih
  exact key ss
/-- What PutBarn gives. -/
theorem pb_cases (h : List Cel) (ss : List (List Cel)) (c : Cel) : (okB h ss = false ∧ pbH h ss c = [] ∧ pbS h ss = [] ∧ pbB h ss c = false) ∨ (okB h ss = true ∧ pbH h ss c = h ∧ pbS h ss = ss ∧ pbB h ss c = false) ∨ (okB h ss = true ∧ pbB h ss c = true ∧ okB (pbH h ss c) (pbS h ss) = true ∧ fdP (pbH h ss c) (pbS h ss) c = (c, true)) := by
  cases e : okB h ss with
  | false => exact .inl ⟨rfl, by unfold pbH; rw [e]; rfl, by unfold pbS; rw [e]; rfl, by unfold pbB; rw [e]; rfl⟩
  | true =>
    have e1 : pbH h ss c = (putQ h c).1 := by unfold pbH; rw [e]; rfl
    have e2 : pbS h ss = ss := by unfold pbS; rw [e]; rfl
    have e3 : pbB h ss c = (putQ h c).2 := by unfold pbB; rw [e]; rfl
    rw [e1, e2, e3]
    unfold putQ
    cases hc : c.ok with
    | false => exact .inr (.inl ⟨rfl, rfl, rfl, rfl⟩)
    | true =>
      by_cases hl : 200 < (putL h c).length
      · simp only [if_true, if_pos hl]; exact .inr (.inl ⟨trivial, trivial, trivial, trivial⟩)
      · simp only [if_true, if_neg hl]
        have := put_barn e hc (by omega)
        exact .inr (.inr ⟨trivial, trivial, this.1, this.2⟩)
theorem pb_low2 (h : List Cel) (ss : List (List Cel)) (c : Cel) (hl : Low h ss) : Low (pbH h ss c) (pbS h ss) := by
  rcases pb_cases h ss c with ⟨-, e1, e2, -⟩ | ⟨-, e1, e2, -⟩ | ⟨-, -, e, -⟩
  · rw [e1, e2]; exact low_nil
  · rw [e1, e2]; exact hl
  · exact okB_low e
/-- What Laid gives. -/
theorem ld_cases (h : List Cel) (ss : List (List Cel)) : ldB h ss = false ∨ (ldB h ss = true ∧ ldH h ss = [] ∧ ldS h ss = h :: ss ∧ okB h ss = true ∧ okB [] (h :: ss) = true ∧ allP [] (h :: ss) = allP h ss) := by
  cases e : ldB h ss with
  | false => exact .inl rfl
  | true =>
    cases ho : okB h ss with
    | false => unfold ldB at e; rw [ho] at e; cases e
    | true =>
      have hb : lyB h ss = true := by unfold ldB at e; rw [ho] at e; exact e
      have e1 : ldH h ss = [] := by unfold ldH lyH; rw [ho, hb]; rfl
      have e2 : ldS h ss = h :: ss := by unfold ldS lyS; rw [ho, hb]; rfl
      obtain ⟨h1, h2, h3⟩ := okB_iff.1 ho
      have hne : h ≠ [] := fun x => by unfold lyB at hb; rw [x] at hb; simp at hb
      have h5 : ss.length ≠ 5 := fun x => by unfold lyB at hb; rw [x] at hb; simp at hb
      have hk : okB [] (h :: ss) = true := okB_iff.2 ⟨rfl, by simp; omega, fun l hl => by
        rcases List.mem_cons.1 hl with rfl | hl
        · exact ⟨hne, h1⟩
        · exact h3 l hl⟩
      have hm : mgA [] (h :: ss) = mgA h ss := by show mgA (mergeL [] h) ss = _; rw [mergeL_nl]
      refine .inr ⟨rfl, e1, e2, rfl, hk, ?_⟩
      unfold allP; rw [hk, ho, hm]
/-- Every cell of a store is found. -/
theorem all_found {h : List Cel} {ss : List (List Cel)} {i : Nat} {c : Cel} (hc : (allP h ss)[i]? = some c) : fdP h ss c = (c, true) := by
  have ok := okL_all (h := h) (ss := ss)
  rw [← find_all c (fun e => by rw [List.length_eq_zero_iff.1 e] at hc; simp at hc), findP_yes ok (ok_key (okL_mem ok c (List.mem_of_getElem? hc)))]
  exact findR_some (find_yes hc (fun m d hm hd => less_hit (sorted ok hm hd hc)) (hit_self c))
/-- The posts, opened. -/
theorem PbPost.op {h' : List Cel} {ss' : List (List Cel)} {b : Bool} {w w' : World} {e : Ending} (p : PbPost h' ss' b w e w') : ∃ a n c sa m sc, e = .returned (.tuple #[.agg #[.slice a n c, .slice sa m sc], .bool b]) ∧ OwB w.heap.size w' (.slice a n c) (.slice sa m sc) h' ss' ∧ h'.length = n ∧ ss'.length = m ∧ Below w.heap.size w w' := by
  obtain ⟨hv, sv, rfl, o, hb⟩ := p
  obtain ⟨a, c, sa, sc, hs, rfl, rfl, -, -⟩ := o.view
  exact ⟨a, _, c, sa, _, sc, rfl, o, rfl, rfl, hb⟩
theorem DrewS.op {w w' : World} {e : Ending} (p : DrewS w e w') : ∃ a n c sa m sc h ss, e = .returned (.agg #[.slice a n c, .slice sa m sc]) ∧ OwB w.heap.size w' (.slice a n c) (.slice sa m sc) h ss ∧ h.length = n ∧ ss.length = m ∧ Stor h ss ∧ Below w.heap.size w w' := by
  obtain ⟨hv, sv, h, ss, rfl, o, s, hb⟩ := p
  obtain ⟨a, c, sa, sc, hs, rfl, rfl, -, -⟩ := o.view
  exact ⟨a, _, c, sa, _, sc, h, ss, rfl, o, rfl, rfl, s, hb⟩
theorem DrewSC.op {w w' : World} {e : Ending} (p : DrewSC w e w') : ∃ a n c sa m sc h ss x, e = .returned (.tuple #[.agg #[.slice a n c, .slice sa m sc], .agg #[.string x.r, .string x.b, .int .i64 x.t, .int .i64 x.v, .bool x.g]]) ∧ OwB w.heap.size w' (.slice a n c) (.slice sa m sc) h ss ∧ h.length = n ∧ ss.length = m ∧ Stor h ss ∧ Cel.small x ∧ Below w.heap.size w w' := by
  obtain ⟨hv, sv, h, ss, x, rfl, o, s, hx, hb⟩ := p
  obtain ⟨a, c, sa, sc, hs, rfl, rfl, -, -⟩ := o.view
  exact ⟨a, _, c, sa, _, sc, h, ss, x, rfl, o, rfl, rfl, s, hx, hb⟩
theorem AlPost.op {l : List Cel} {w w' : World} {e : Ending} (p : AlPost l w e w') : ∃ a n c, e = .returned (.slice a n c) ∧ OwC w.heap.size w' (.slice a n c) l ∧ l.length = n ∧ Below w.heap.size w w' := by
  obtain ⟨v, rfl, o, hb⟩ := p
  obtain ⟨a, c, rfl, -, -⟩ := o.view
  exact ⟨a, _, c, rfl, o, rfl, hb⟩
theorem pbI {h ph : List Cel} {ss ps : List (List Cel)} {c : Cel} {is : Bool} (e : pbH h ss c = ph ∧ pbS h ss = ps ∧ pbB h ss c = is) {B : Nat} {hv sv : Value} (w : World) (o : OwB B w hv sv h ss) (s : Stor h ss) :
    Calls Try.prog 24 #[.agg #[hv, sv], .agg #[.string c.r, .string c.b, .int .i64 c.t, .int .i64 c.v, .bool c.g]] w fun e w' => ∃ a n c sa m sc, e = .returned (.tuple #[.agg #[.slice a n c, .slice sa m sc], .bool is]) ∧ OwB w.heap.size w' (.slice a n c) (.slice sa m sc) ph ps ∧ ph.length = n ∧ ps.length = m ∧ Below w.heap.size w w' := by
  have := implPutO c w o s.low
  rw [e.1, e.2.1, e.2.2] at this; exact this.mono fun _ _ p => p.op
theorem pbS' {h ph : List Cel} {ss ps : List (List Cel)} {c : Cel} {is : Bool} (e : pbH h ss c = ph ∧ pbS h ss = ps ∧ pbB h ss c = is) {B : Nat} {hv sv : Value} (w : World) (o : OwB B w hv sv h ss) (s : Stor h ss) (hc : c.small) :
    Calls Try.prog 29 #[.agg #[hv, sv], .agg #[.string c.r, .string c.b, .int .i64 c.t, .int .i64 c.v, .bool c.g]] w fun e w' => ∃ a n c sa m sc, e = .returned (.tuple #[.agg #[.slice a n c, .slice sa m sc], .bool is]) ∧ OwB w.heap.size w' (.slice a n c) (.slice sa m sc) ph ps ∧ ph.length = n ∧ ps.length = m ∧ Below w.heap.size w w' := by
  have := specPutO c w o s.low s.mod hc.mod
  rw [e.1, e.2.1, e.2.2] at this; exact this.mono fun _ _ p => p.op
theorem ldI {h ph : List Cel} {ss ps : List (List Cel)} {is : Bool} (e : ldH h ss = ph ∧ ldS h ss = ps ∧ ldB h ss = is) {B : Nat} {hv sv : Value} (w : World) (o : OwB B w hv sv h ss) (s : Stor h ss) :
    Calls Try.prog 26 #[.agg #[hv, sv]] w fun e w' => ∃ a n c sa m sc, e = .returned (.tuple #[.agg #[.slice a n c, .slice sa m sc], .bool is]) ∧ OwB w.heap.size w' (.slice a n c) (.slice sa m sc) ph ps ∧ ph.length = n ∧ ps.length = m ∧ Below w.heap.size w w' := by
  have := implLaidO w o s.low
  rw [e.1, e.2.1, e.2.2] at this; exact this.mono fun _ _ p => p.op
theorem ldS' {h ph : List Cel} {ss ps : List (List Cel)} {is : Bool} (e : ldH h ss = ph ∧ ldS h ss = ps ∧ ldB h ss = is) {B : Nat} {hv sv : Value} (w : World) (o : OwB B w hv sv h ss) (s : Stor h ss) :
    Calls Try.prog 34 #[.agg #[hv, sv]] w fun e w' => ∃ a n c sa m sc, e = .returned (.tuple #[.agg #[.slice a n c, .slice sa m sc], .bool is]) ∧ OwB w.heap.size w' (.slice a n c) (.slice sa m sc) ph ps ∧ ph.length = n ∧ ps.length = m ∧ Below w.heap.size w w' := by
  have := specLaidO w o s.low s.mod
  rw [e.1, e.2.1, e.2.2] at this; exact this.mono fun _ _ p => p.op
theorem alI {h al : List Cel} {ss : List (List Cel)} (e : allP h ss = al) {B : Nat} {hv sv : Value} (w : World) (o : OwB B w hv sv h ss) (hl : Low h ss) :
    Calls Try.prog 28 #[.agg #[hv, sv]] w fun e w' => ∃ a n c, e = .returned (.slice a n c) ∧ OwC w.heap.size w' (.slice a n c) al ∧ al.length = n ∧ Below w.heap.size w w' := by
  have := implAllO w o hl
  rw [e] at this; exact this.mono fun _ _ p => p.op
theorem alS {h al : List Cel} {ss : List (List Cel)} (e : allP h ss = al) {B : Nat} {hv sv : Value} (w : World) (o : OwB B w hv sv h ss) (hl : Low h ss) (hm : Mod h ss) :
    Calls Try.prog 33 #[.agg #[hv, sv]] w fun e w' => ∃ a n c, e = .returned (.slice a n c) ∧ OwC w.heap.size w' (.slice a n c) al ∧ al.length = n ∧ Below w.heap.size w w' := by
  have := specAllO w o hl hm
  rw [e] at this; exact this.mono fun _ _ p => p.op
theorem bI {h : List Cel} {ss : List (List Cel)} {x : Bool} (e : okB h ss = x) {B : Nat} {hv sv : Value} (w : World) (o : OwB B w hv sv h ss) (hl : Low h ss) :
    Calls Try.prog 31 #[.agg #[hv, sv]] w fun e w' => e = .returned (.bool x) ∧ Below w.heap.size w w' := by
  have := implBarnO w o hl
  rw [← e]; exact this
theorem bS {h : List Cel} {ss : List (List Cel)} {x : Bool} (e : okB h ss = x) {B : Nat} {hv sv : Value} (w : World) (o : OwB B w hv sv h ss) (hl : Low h ss) (hm : Mod h ss) :
    Calls Try.prog 32 #[.agg #[hv, sv]] w fun e w' => e = .returned (.bool x) ∧ Below w.heap.size w w' := by
  have := specBarnO w o hl hm
  rw [← e]; exact this
theorem vLike {r z : World} {x0 : Hd} {lh : List Cel} {ls : List (List Cel)} {a sa : Option Addr} {n c m sc ln : Nat} (hv : Vw r x0.a x0.c lh) (hl : ∃ a' c' sa' sc' hs, Value.slice a n c = .slice a' lh.length c' ∧ Value.slice sa m sc = .slice sa' ls.length sc' ∧ Vw r a' c' lh ∧ VwS r sa' sc' hs ls) (hn : lh.length = ln) (hb : Below r.heap.size r z) (h2 : n = ln) (h3 : ln ≤ 4194304) :
    Calls Try.prog 17 #[.slice x0.a ln x0.c, .slice a n c] z fun e w' => e = .returned (.bool true) ∧ Below z.heap.size z w' := by
  obtain ⟨a', c', sa', sc', hs, e1, -, v1, -⟩ := hl
  injection e1 with e1 e2 e3
  subst e1 e3 h2
  exact like_same z x0.a a x0.c c lh n hn (hv.below hb) (v1.below hb) h3
theorem mod_laid {h : List Cel} {ss : List (List Cel)} (m : Mod h ss) : Mod [] (h :: ss) := ⟨fun c hc => (by cases hc), fun l hl => by
  rcases List.mem_cons.1 hl with rfl | hl
  · exact m.1
  · exact m.2 l hl⟩
end Go.Proofs.Ytcloejmakjdgcaa.Cl
