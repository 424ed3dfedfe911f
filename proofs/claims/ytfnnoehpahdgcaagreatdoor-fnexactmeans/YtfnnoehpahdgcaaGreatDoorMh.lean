/-
  Programs, plain: a bin that is not named does not matter ('run_z').
-/
import Derived.Test.YtfnnoehpahdgcaaGreatDoorMg
namespace Go.Proofs.YtfnnoehpahdgcaaGreatDoor.Cl
open Go.RowKit Wd Rp Kp
set_option linter.unusedVariables false
/-- No token of an expression names z. -/
def eFree (z : ByteArray) (e : List Tk) : Prop := ∀ s ∈ e, nmB s = true → (tx s).toList ≠ z.toList
theorem stk_congr {R : Type} {f f' : Tk → R} {g : Nat → R → R → R} : ∀ {l : List Tk}, (∀ s ∈ l, f s = f' s) → stk f g l = stk f' g l
  | [], _ => rfl
  | s :: l, h => by
    rw [stk, stk, stk_congr (l := l) (fun t ht => h t (by simp [ht])), h s (by simp)]
theorem evE_congr {gs : List Int} {bs bs' : List Bi} {e : List Tk} (h : ∀ s ∈ e, vlF gs bs s = vlF gs bs' s) : evE gs bs e = evE gs bs' e := by
  unfold evE foV
  cases enA e 0 with
  | none => rfl
  | some n =>
    dsimp only
    rw [stk_congr (f := vlF gs bs) (f' := vlF gs bs') (l := ((e.drop (0 : Int).toNat).take n)) (fun s hs => h s (List.mem_of_mem_drop (List.mem_of_mem_take hs)))]
/-- What is found behind a set of another name. -/
theorem val_st {l : List Bi} (ha : Asc l) {z n : ByteArray} (x : Int) (hn : n.toList ≠ z.toList) : valL n (stI l z x) = valL n l := by
  by_cases h : ∃ c ∈ l, c.n.toList = n.toList
  · obtain ⟨c, hc, e⟩ := h
    rw [valL_mem ha hc e]
    exact valL_mem (asc_st ha) ((mem_st ha).2 (Or.inr ⟨hc, fun e2 => hn (e.symm.trans e2)⟩)) e
  · rw [valL_out (fun c hc e => h ⟨c, hc, e⟩)]
    refine valL_out fun c hc e => ?_
    rcases (mem_st ha).1 hc with rfl | h1
    · exact hn e.symm
    · exact h ⟨c, h1.1, e⟩
theorem ev_z {gs : List Int} {l : List Bi} (ha : Asc l) {z : ByteArray} (x : Int) {e : List Tk} (h : eFree z e) : evE gs (stI l z x) e = evE gs l e := by
  refine evE_congr fun s hs => ?_
  unfold vlF
  by_cases hg : gvN s ≠ 0
  · rw [if_pos hg, if_pos hg]
  · rw [if_neg hg, if_neg hg]
    cases hm : nmB s with
    | false => rfl
    | true => rw [if_pos rfl, if_pos rfl, val_st ha x (h s hs hm)]
theorem st_st {l : List Bi} (ha : Asc l) {z n : ByteArray} (x v : Int) (hn : n.toList ≠ z.toList) : stI (stI l z x) n v = stI (stI l n v) z x := by
  refine asc_ext (asc_st (asc_st ha)) (asc_st (asc_st ha)) fun c => ?_
  rw [mem_st (asc_st ha), mem_st (asc_st ha), mem_st ha, mem_st ha]
  constructor
  · rintro (rfl | ⟨rfl | ⟨h1, h2⟩, h3⟩)
    · exact Or.inr ⟨Or.inl rfl, hn⟩
    · exact Or.inl rfl
    · exact Or.inr ⟨Or.inr ⟨h1, h3⟩, h2⟩
  · rintro (rfl | ⟨rfl | ⟨h1, h2⟩, h3⟩)
    · exact Or.inr ⟨Or.inl rfl, fun e => hn e.symm⟩
    · exact Or.inl rfl
    · exact Or.inr ⟨Or.inr ⟨h1, h3⟩, h2⟩
theorem ct_st {l : List Bi} (ha : Asc l) {z n : ByteArray} (x : Int) (hn : n.toList ≠ z.toList) : ctI (stI l z x) n = stI (ctI l n) z x := by
  refine asc_ext (asc_ct (asc_st ha)) (asc_st (asc_ct ha)) fun c => ?_
  rw [mem_ct (asc_st ha), mem_st (asc_ct ha), mem_st ha, mem_ct ha]
  constructor
  · rintro ⟨rfl | ⟨h1, h2⟩, h3⟩
    · exact Or.inl rfl
    · exact Or.inr ⟨⟨h1, h3⟩, h2⟩
  · rintro (rfl | ⟨⟨h1, h3⟩, h2⟩)
    · exact ⟨Or.inl rfl, fun e => hn e.symm⟩
    · exact ⟨Or.inr ⟨h1, h2⟩, h3⟩
theorem ct_self {l : List Bi} (ha : Asc l) (z : ByteArray) (x : Int) : ctI (stI l z x) z = ctI l z := by
  refine asc_ext (asc_ct (asc_st ha)) (asc_ct ha) fun c => ?_
  rw [mem_ct (asc_st ha), mem_ct ha, mem_st ha]
  constructor
  · rintro ⟨rfl | ⟨h1, h2⟩, h3⟩
    · exact absurd rfl h3
    · exact ⟨h1, h2⟩
  · rintro ⟨h1, h2⟩
    exact ⟨Or.inr ⟨h1, h2⟩, h2⟩
theorem at_st {l : List Bi} (ha : Asc l) {z n : ByteArray} (x : Int) (hn : n.toList ≠ z.toList) : isAt n (stI l z x) = isAt n l := by
  rw [Bool.eq_iff_iff, isAt_iff (asc_st ha), isAt_iff ha]
  constructor
  · rintro ⟨c, hc, e⟩
    rcases (mem_st ha).1 hc with rfl | h1
    · exact absurd e.symm hn
    · exact ⟨c, h1.1, e⟩
  · rintro ⟨c, hc, e⟩
    exact ⟨c, (mem_st ha).2 (Or.inr ⟨hc, fun e2 => hn (e.symm.trans e2)⟩), e⟩
/-- A set with another bin at hand: the same, or there is no room. -/
theorem st7_z {l : List Bi} (ha : Asc l) {z n : ByteArray} (x v : Int) (hn : n.toList ≠ z.toList) (h12 : (stI l z x).length ≤ 12) :
    (st7 (stI l z x) n v).2 = false ∨ (st7 l n v).2 = true ∧ st7 (stI l z x) n v = (stI (st7 l n v).1 z x, true) ∧ Asc (st7 l n v).1 ∧ (stI (st7 l n v).1 z x).length ≤ 12 := by
  have hl := stI_len l z x
  have h2 := stI_len (stI l z x) n v
  have h3 := at_st ha x hn
  rw [h3] at h2
  have hle : l.length ≤ (stI l z x).length := by split at hl <;> omega
  cases hat : isAt n l with
  | true =>
    right
    rw [st7_at hat, st7_at (h3.trans hat), st_st ha x v hn]
    refine ⟨rfl, rfl, asc_st ha, ?_⟩
    rw [← st_st ha x v hn, h2, hat, if_pos rfl]; exact h12
  | false =>
    by_cases hf : (stI l z x).length = 12
    · left; rw [st7_full (h3.trans hat) hf]
    · right
      rw [st7_new hat (by omega), st7_new (h3.trans hat) hf, st_st ha x v hn]
      refine ⟨rfl, rfl, asc_st ha, ?_⟩
      rw [← st_st ha x v hn, h2, hat, if_neg (by decide)]; omega
/-- With another bin at hand. -/
def St0.wz (st : St0) (z : ByteArray) (x : Int) : St0 := ⟨st.c, stI st.b z x, st.f⟩
/-- The same but for another bin, or there is no room. -/
def Zed (z : ByteArray) (x : Int) (r r' : St0) : Prop := r'.c = 4 ∨ (r' = r.wz z x ∧ Asc r.b ∧ (stI r.b z x).length ≤ 12)
theorem whR_z {gs : List Int} {e : List Tk} {body : St0 → St0} {z : ByteArray} {x : Int} (he : eFree z e) (hb : ∀ st : St0, Asc st.b → (stI st.b z x).length ≤ 12 → Zed z x (body st) (body (st.wz z x))) : ∀ (n : Nat) (st : St0), Asc st.b → (stI st.b z x).length ≤ 12 → Zed z x (whR gs e body n st) (whR gs e body n (st.wz z x))
  | 0, st, h, h12 => Or.inr ⟨rfl, h, h12⟩
  | n + 1, st, h, h12 => by
    rw [whR, whR]
    have e1 : (st.wz z x).b = stI st.b z x := rfl
    have e2 : (st.wz z x).f = st.f := rfl
    have e3 : (st.wz z x).c = st.c := rfl
    rw [e1, e2, e3, ev_z h x he]
    split
    · exact Or.inr ⟨rfl, h, h12⟩
    · split
      · exact Or.inr ⟨rfl, h, h12⟩
      · split
        · exact Or.inr ⟨rfl, h, h12⟩
        · have h1 := hb ⟨st.c, st.b, st.f - 1⟩ h h12
          have e4 : (⟨st.c, stI st.b z x, st.f - 1⟩ : St0) = St0.wz ⟨st.c, st.b, st.f - 1⟩ z x := rfl
          rw [e4]
          rcases h1 with h1 | ⟨h1, h2, h3⟩
          · rw [if_neg (show ¬ (body (St0.wz ⟨st.c, st.b, st.f - 1⟩ z x)).c = 0 by rw [h1]; decide)]
            exact Or.inl h1
          · rw [h1]
            have e5 : ((body ⟨st.c, st.b, st.f - 1⟩).wz z x).c = (body ⟨st.c, st.b, st.f - 1⟩).c := rfl
            rw [e5]
            split
            · exact whR_z he hb n _ h2 h3
            · exact Or.inr ⟨rfl, h2, h3⟩
/-- z is nowhere named. -/
def Sl.off (z : ByteArray) (s : Sl) : Prop := s.all (fun n e => (tx n).toList ≠ z.toList ∧ eFree z e) (fun n => (tx n).toList ≠ z.toList) (eFree z)
mutual
theorem Sm.run_z (gs : List Int) (z : ByteArray) (x : Int) : ∀ (s : Sm) (st : St0), s.all (fun n e => (tx n).toList ≠ z.toList ∧ eFree z e) (fun n => (tx n).toList ≠ z.toList) (eFree z) → Asc st.b → (stI st.b z x).length ≤ 12 → Zed z x (s.run gs st) (s.run gs (st.wz z x))
  | .set n e, st, h, ha, h12 => by
    rw [Sm.all] at h
    rw [Sm.run, Sm.run]
    have e1 : (st.wz z x).b = stI st.b z x := rfl
    rw [e1, ev_z ha x h.2]
    split
    · exact Or.inr ⟨rfl, ha, h12⟩
    · rcases st7_z ha x (evE gs st.b e).1 h.1 h12 with h1 | ⟨h1, h2, h3, h4⟩
      · left
        show (if (st7 (stI st.b z x) (tx n) (evE gs st.b e).1).2 = true then _ else (4 : Int)) = 4
        rw [h1]; rfl
      · right
        rw [h2, h1]
        exact ⟨rfl, h3, h4⟩
  | .cut n, st, h, ha, h12 => by
    rw [Sm.all] at h
    rw [Sm.run, Sm.run]
    have e1 : (st.wz z x).b = stI st.b z x := rfl
    rw [e1, ct_st ha x h]
    refine Or.inr ⟨rfl, asc_ct ha, ?_⟩
    show (stI (ctI st.b (tx n)) z x).length ≤ 12
    rw [← ct_st ha x h]
    have := ctI_len (stI st.b z x) (tx n)
    split at this <;> omega
  | .stop, st, h, ha, h12 => by rw [Sm.run, Sm.run]; exact Or.inr ⟨rfl, ha, h12⟩
  | .ifs e a b, st, h, ha, h12 => by
    rw [Sm.all] at h
    rw [Sm.run, Sm.run]
    have e1 : (st.wz z x).b = stI st.b z x := rfl
    rw [e1, ev_z ha x h.1]
    split
    · exact Or.inr ⟨rfl, ha, h12⟩
    · split
      · exact Sl.run_z gs z x b st h.2.2 ha h12
      · exact Sl.run_z gs z x a st h.2.1 ha h12
  | .whl e a, st, h, ha, h12 => by
    rw [Sm.all] at h
    rw [Sm.run, Sm.run]
    exact whR_z h.1 (fun st ha h12 => Sl.run_z gs z x a st h.2 ha h12) _ st ha h12
theorem Sl.run_z (gs : List Int) (z : ByteArray) (x : Int) : ∀ (s : Sl) (st : St0), s.all (fun n e => (tx n).toList ≠ z.toList ∧ eFree z e) (fun n => (tx n).toList ≠ z.toList) (eFree z) → Asc st.b → (stI st.b z x).length ≤ 12 → Zed z x (s.run gs st) (s.run gs (st.wz z x))
  | .nil, st, h, ha, h12 => by rw [Sl.run, Sl.run]; exact Or.inr ⟨rfl, ha, h12⟩
  | .cons s r, st, h, ha, h12 => by
    rw [Sl.all] at h
    rw [Sl.run, Sl.run]
    rcases Sm.run_z gs z x s st h.1 ha h12 with h1 | ⟨h1, h2, h3⟩
    · rw [if_neg (show ¬ (s.run gs (st.wz z x)).c = 0 by rw [h1]; decide)]
      exact Or.inl h1
    · rw [h1]
      have e1 : ((s.run gs st).wz z x).c = (s.run gs st).c := rfl
      rw [e1]
      split
      · exact Sl.run_z gs z x r _ h.2 h2 h3
      · exact Or.inr ⟨rfl, h2, h3⟩
end
end Go.Proofs.YtfnnoehpahdgcaaGreatDoor.Cl
