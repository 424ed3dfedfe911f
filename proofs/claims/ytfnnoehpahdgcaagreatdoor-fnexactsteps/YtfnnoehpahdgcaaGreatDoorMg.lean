/-
  Programs, plain: valid bins stay valid ('run_ok'), bins that are not named stay ('run_keep'), another bin does not matter ('run_z').
-/
import Derived.Test.YtfnnoehpahdgcaaGreatDoorMd
import Derived.Test.YtfnnoehpahdgcaaGreatDoorYu
namespace Go.Proofs.YtfnnoehpahdgcaaGreatDoor.Cl
open Go.RowKit Wd Rp Kp
set_option linter.unusedVariables false
theorem less_ne {a b : ByteArray} (h : Op.bytesLess a.toList b.toList = true) : a.toList ≠ b.toList := fun e => by rw [e, bl_irr] at h; cases h
theorem mem_ct {l : List Bi} (ha : Asc l) {n : ByteArray} {c : Bi} : c ∈ ctI l n ↔ c ∈ l ∧ c.n.toList ≠ n.toList := by
  unfold ctI
  rw [List.mem_append]
  constructor
  · rintro (h | h)
    · exact ⟨List.mem_of_mem_take h, less_ne (take_less c h)⟩
    · exact ⟨beh_mem h, fun e => less_ne (beh_more ha c h) e.symm⟩
  · rintro ⟨h, hn⟩
    exact mem_parts h hn
theorem mem_st {l : List Bi} (ha : Asc l) {n : ByteArray} {v : Int} {c : Bi} : c ∈ stI l n v ↔ c = ⟨n, v⟩ ∨ (c ∈ l ∧ c.n.toList ≠ n.toList) := by
  rw [← mem_ct ha]
  unfold stI ctI
  simp only [List.mem_append, List.mem_singleton]
  constructor
  · rintro (h | h | h)
    · exact Or.inr (Or.inl h)
    · exact Or.inl h
    · exact Or.inr (Or.inr h)
  · rintro (h | h | h)
    · exact Or.inr (Or.inl h)
    · exact Or.inl h
    · exact Or.inr (Or.inr h)
theorem isAt_iff {l : List Bi} (ha : Asc l) {n : ByteArray} : isAt n l = true ↔ ∃ c ∈ l, c.n.toList = n.toList := by
  constructor
  · intro h
    have hl := isAt_lt h
    have hd := List.getElem?_eq_getElem hl
    rw [isAt_some hd] at h
    exact ⟨_, List.mem_of_getElem? hd, beq_iff_eq.1 h⟩
  · rintro ⟨c, hc, hn⟩
    cases hat : isAt n l with
    | true => rfl
    | false =>
      have hb : behI n l = l.drop (cntI n l) := by unfold behI; rw [hat]; rfl
      rw [← List.take_append_drop (cntI n l) l, ← hb] at hc
      rcases List.mem_append.1 hc with h | h
      · exact absurd hn (less_ne (take_less c h))
      · exact absurd hn.symm (less_ne (beh_more ha c h))
/-- The tokens of an expression. -/
def eOk (e : List Tk) : Prop := ∃ u : Su, u.ok ∧ e = u.fl
theorem evE_fl (gs : List Int) (bs : List Bi) {u : Su} (h : u.ok) : evE gs bs u.fl = u.fo (vlF gs bs) vlG := foV_of (l := u.fl) (k := 0) (r := []) _ _ _ h (by simp)
theorem evE_w {gs : List Int} {bs : List Bi} (h1 : okI bs = true) (h2 : thB gs = true) {e : List Tk} (h : eOk e) : isW (evE gs bs e).1 = true := by
  obtain ⟨u, hu, rfl⟩ := h
  rw [evE_fl gs bs hu]
  exact fo_w h1 h2 u hu
mutual
/-- What holds of all that is set, of all that is cut, of all that is asked. -/
def Sm.all (S : Tk → List Tk → Prop) (C : Tk → Prop) (E : List Tk → Prop) : Sm → Prop
  | .set n e => S n e
  | .cut n => C n
  | .stop => True
  | .ifs e a b => E e ∧ Sl.all S C E a ∧ Sl.all S C E b
  | .whl e a => E e ∧ Sl.all S C E a
def Sl.all (S : Tk → List Tk → Prop) (C : Tk → Prop) (E : List Tk → Prop) : Sl → Prop
  | .nil => True
  | .cons s r => Sm.all S C E s ∧ Sl.all S C E r
end
theorem whR_inv {gs : List Int} {e : List Tk} {body : St0 → St0} {P : List Bi → Prop} (hb : ∀ st : St0, P st.b → P (body st).b) : ∀ (n : Nat) (st : St0), P st.b → P (whR gs e body n st).b
  | 0, st, h => h
  | n + 1, st, h => by
    rw [whR]
    split
    · exact h
    · split
      · exact h
      · split
        · exact h
        · split
          · exact whR_inv hb n _ (hb _ h)
          · exact hb _ h
mutual
theorem Sm.run_inv (gs : List Int) {S : Tk → List Tk → Prop} {C : Tk → Prop} {E : List Tk → Prop} {P : List Bi → Prop} (hS : ∀ n e b, S n e → P b → P (st7 b (tx n) (evE gs b e).1).1) (hC : ∀ n b, C n → P b → P (ctI b (tx n))) : ∀ (s : Sm) (st : St0), s.all S C E → P st.b → P (s.run gs st).b
  | .set n e, st, h, hp => by
    rw [Sm.run]
    split
    · exact hp
    · rw [Sm.all] at h; exact hS n e _ h hp
  | .cut n, st, h, hp => by rw [Sm.all] at h; rw [Sm.run]; exact hC n _ h hp
  | .stop, st, h, hp => by rw [Sm.run]; exact hp
  | .ifs e a b, st, h, hp => by
    rw [Sm.all] at h
    rw [Sm.run]
    split
    · exact hp
    · split
      · exact Sl.run_inv gs hS hC b st h.2.2 hp
      · exact Sl.run_inv gs hS hC a st h.2.1 hp
  | .whl e a, st, h, hp => by
    rw [Sm.all] at h
    rw [Sm.run]
    exact whR_inv (fun st hp => Sl.run_inv gs hS hC a st h.2 hp) _ st hp
theorem Sl.run_inv (gs : List Int) {S : Tk → List Tk → Prop} {C : Tk → Prop} {E : List Tk → Prop} {P : List Bi → Prop} (hS : ∀ n e b, S n e → P b → P (st7 b (tx n) (evE gs b e).1).1) (hC : ∀ n b, C n → P b → P (ctI b (tx n))) : ∀ (s : Sl) (st : St0), s.all S C E → P st.b → P (s.run gs st).b
  | .nil, st, h, hp => by rw [Sl.run]; exact hp
  | .cons s r, st, h, hp => by
    rw [Sl.all] at h
    rw [Sl.run]
    have h1 := Sm.run_inv gs hS hC s st h.1 hp
    split
    · exact Sl.run_inv gs hS hC r _ h.2 h1
    · exact h1
end
theorem st7_ok {l : List Bi} {n : ByteArray} {v : Int} (h : okI l = true) (hn : (nmB n.data.toList && isW v) = true) : okI (st7 l n v).1 = true := by
  have h1 := okI_iff.1 h
  have h2 := stI_len l n v
  unfold st7
  by_cases ha : isAt n l = true
  · rw [if_pos ha]
    rw [if_pos ha] at h2
    exact set_ok h hn (by omega)
  · rw [if_neg ha]
    rw [if_neg ha] at h2
    split
    · exact h
    · exact set_ok h hn (by show (stI l n v).length ≤ 12; omega)
theorem ctI_ok {l : List Bi} {n : ByteArray} (h : okI l = true) : okI (ctI l n) = true := by
  obtain ⟨h1, h2, h3⟩ := okI_iff.1 h
  have h4 := ctI_len l n
  refine okI_iff.2 ⟨by split at h4 <;> omega, asc_ct h2, fun c hc => h3 c ((mem_ct h2).1 hc).1⟩
/-- Names are names, expressions are expressions. -/
def Sl.ok (s : Sl) : Prop := s.all (fun n e => nmB n = true ∧ eOk e) (fun n => nmB n = true) eOk
/-- Valid bins stay valid. -/
theorem Sl.run_ok {gs : List Int} (h2 : thB gs = true) (s : Sl) (st : St0) (h : s.ok) (hb : okI st.b = true) : okI (s.run gs st).b = true :=
  Sl.run_inv gs (P := fun b => okI b = true) (fun n e b h hp => st7_ok hp (by rw [Bool.and_eq_true]; exact ⟨h.1, evE_w hp h2 h.2⟩)) (fun n b _ hp => ctI_ok hp) s st h hb
/-- No set and no cut names z. -/
def Sl.free (z : ByteArray) (s : Sl) : Prop := s.all (fun n _ => (tx n).toList ≠ z.toList) (fun n => (tx n).toList ≠ z.toList) (fun _ => True)
/-- The bins of a name that is not named stay. -/
theorem Sl.run_keep (gs : List Int) {z : ByteArray} (s : Sl) (st : St0) (h : s.free z) (ha : Asc st.b) : Asc (s.run gs st).b ∧ ∀ c : Bi, c.n.toList = z.toList → (c ∈ (s.run gs st).b ↔ c ∈ st.b) := by
  refine Sl.run_inv gs (P := fun b => Asc b ∧ ∀ c : Bi, c.n.toList = z.toList → (c ∈ b ↔ c ∈ st.b)) (fun n e b h hp => ?_) (fun n b h hp => ?_) s st h ⟨ha, fun _ _ => Iff.rfl⟩
  · have hst : ∀ v, Asc (stI b (tx n) v) ∧ ∀ c : Bi, c.n.toList = z.toList → (c ∈ stI b (tx n) v ↔ c ∈ st.b) := fun v => ⟨asc_st hp.1, fun c hc => by
      rw [mem_st hp.1, ← hp.2 c hc]
      constructor
      · rintro (rfl | h1)
        · exact absurd hc h
        · exact h1.1
      · intro h1
        exact Or.inr ⟨h1, fun e => h (e.symm.trans hc)⟩⟩
    unfold st7
    split
    · exact hst _
    · split
      · exact hp
      · exact hst _
  · exact ⟨asc_ct hp.1, fun c hc => by
      rw [mem_ct hp.1, ← hp.2 c hc]
      exact ⟨fun h1 => h1.1, fun h1 => ⟨h1, fun e => h (e.symm.trans hc)⟩⟩⟩
end Go.Proofs.YtfnnoehpahdgcaaGreatDoor.Cl
