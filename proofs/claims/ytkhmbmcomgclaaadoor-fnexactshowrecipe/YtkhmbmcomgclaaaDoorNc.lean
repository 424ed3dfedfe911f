/-
  Statements read: contracts of the reader's name, sum and deed over places of the list ('Sx': the reader stands at a place, or has failed). (Made by gen_nc.py.)
-/
import Derived.Test.YtkhmbmcomgclaaaDoorNb
namespace Go.Proofs.YtkhmbmcomgclaaaDoor.Cl
open Go.RowKit Wd Rp Cu Kp
set_option linter.unusedVariables false
/-- A block of four cells. -/
structure B4 (q : Nat) (v0 v1 v2 v3 : Value) (w : World) : Prop where
  c0 : w.cell? ⟨q, 0, none⟩ = some v0
  c1 : w.cell? ⟨q, 1, none⟩ = some v1
  c2 : w.cell? ⟨q, 2, none⟩ = some v2
  c3 : w.cell? ⟨q, 3, none⟩ = some v3
  f0 : w.frozen? ⟨q, 0, none⟩ = false
  f1 : w.frozen? ⟨q, 1, none⟩ = false
  f2 : w.frozen? ⟨q, 2, none⟩ = false
  f3 : w.frozen? ⟨q, 3, none⟩ = false
  lt : q < w.heap.size
theorem B4.of {q T : Nat} {v0 v1 v2 v3 : Value} {w : World} (e : w.heap[q]? = some (.cells #[v0, v1, v2, v3] T (0, 0))) : B4 q v0 v1 v2 v3 w :=
  ⟨by simp only [World.cell?, e]; rfl, by simp only [World.cell?, e]; rfl, by simp only [World.cell?, e]; rfl, by simp only [World.cell?, e]; rfl, by simp only [World.frozen?, e]; rfl, by simp only [World.frozen?, e]; rfl, by simp only [World.frozen?, e]; rfl, by simp only [World.frozen?, e]; rfl, (Array.getElem?_eq_some_iff.1 e).1⟩
theorem B4.same {q : Nat} {v0 v1 v2 v3 : Value} {w w' : World} (h : B4 q v0 v1 v2 v3 w) (e : w'.heap[q]? = w.heap[q]?) (hs : w.heap.size ≤ w'.heap.size) : B4 q v0 v1 v2 v3 w' :=
  ⟨(World.cell?_of_block (w := w) e).trans h.c0, (World.cell?_of_block (w := w) e).trans h.c1, (World.cell?_of_block (w := w) e).trans h.c2, (World.cell?_of_block (w := w) e).trans h.c3, (World.frozen?_of_block (w := w) e).trans h.f0, (World.frozen?_of_block (w := w) e).trans h.f1, (World.frozen?_of_block (w := w) e).trans h.f2, (World.frozen?_of_block (w := w) e).trans h.f3, Nat.lt_of_lt_of_le h.lt hs⟩
theorem B4.next {q : Nat} {v0 v1 v2 v3 : Value} {w w' : World} (h : B4 q v0 v1 v2 v3 w) (hb : Below w.heap.size w w') : B4 q v0 v1 v2 v3 w' := h.same (hb.block q h.lt) hb.size
theorem B4.but {p q : Nat} {v0 v1 v2 v3 : Value} {w w' : World} (h : B4 q v0 v1 v2 v3 w) (hb : But p w w') (hne : q ≠ p) : B4 q v0 v1 v2 v3 w' := h.same (hb.block q h.lt hne) hb.size
theorem B4.set0 {q : Nat} {v0 v1 v2 v3 : Value} {w : World} (h : B4 q v0 v1 v2 v3 w) (u : Value) : B4 q u v1 v2 v3 (w.setCell ⟨q, 0, none⟩ u) :=
  ⟨World.cell?_setCell_same' _ _ _ (by rw [h.c0]; rfl), coff3 (by decide) h.c1, coff3 (by decide) h.c2, coff3 (by decide) h.c3, by rw [World.frozen?_setCell]; exact h.f0, by rw [World.frozen?_setCell]; exact h.f1, by rw [World.frozen?_setCell]; exact h.f2, by rw [World.frozen?_setCell]; exact h.f3, by rw [World.size_setCell]; exact h.lt⟩
theorem B4.set1 {q : Nat} {v0 v1 v2 v3 : Value} {w : World} (h : B4 q v0 v1 v2 v3 w) (u : Value) : B4 q v0 u v2 v3 (w.setCell ⟨q, 1, none⟩ u) :=
  ⟨coff3 (by decide) h.c0, World.cell?_setCell_same' _ _ _ (by rw [h.c1]; rfl), coff3 (by decide) h.c2, coff3 (by decide) h.c3, by rw [World.frozen?_setCell]; exact h.f0, by rw [World.frozen?_setCell]; exact h.f1, by rw [World.frozen?_setCell]; exact h.f2, by rw [World.frozen?_setCell]; exact h.f3, by rw [World.size_setCell]; exact h.lt⟩
theorem B4.set2 {q : Nat} {v0 v1 v2 v3 : Value} {w : World} (h : B4 q v0 v1 v2 v3 w) (u : Value) : B4 q v0 v1 u v3 (w.setCell ⟨q, 2, none⟩ u) :=
  ⟨coff3 (by decide) h.c0, coff3 (by decide) h.c1, World.cell?_setCell_same' _ _ _ (by rw [h.c2]; rfl), coff3 (by decide) h.c3, by rw [World.frozen?_setCell]; exact h.f0, by rw [World.frozen?_setCell]; exact h.f1, by rw [World.frozen?_setCell]; exact h.f2, by rw [World.frozen?_setCell]; exact h.f3, by rw [World.size_setCell]; exact h.lt⟩
theorem B4.set3 {q : Nat} {v0 v1 v2 v3 : Value} {w : World} (h : B4 q v0 v1 v2 v3 w) (u : Value) : B4 q v0 v1 v2 u (w.setCell ⟨q, 3, none⟩ u) :=
  ⟨coff3 (by decide) h.c0, coff3 (by decide) h.c1, coff3 (by decide) h.c2, World.cell?_setCell_same' _ _ _ (by rw [h.c3]; rfl), by rw [World.frozen?_setCell]; exact h.f0, by rw [World.frozen?_setCell]; exact h.f1, by rw [World.frozen?_setCell]; exact h.f2, by rw [World.frozen?_setCell]; exact h.f3, by rw [World.size_setCell]; exact h.lt⟩
/-- The reader stands at a place of the list, or has failed (-1). -/
def Sx (w0 : World) (p : Nat) (l : List Tk) (o : Int) (x : Int) (z : World) : Prop := (x = -1 ∧ ∃ lf, Rd w0 p lf o true z) ∨ (x ≠ -1 ∧ 0 ≤ x ∧ x ≤ l.length ∧ Rd w0 p (l.drop x.toNat) o false z)
theorem Sx.next {w0 z z' : World} {p : Nat} {l : List Tk} {o x : Int} (h : Sx w0 p l o x z) (hb : Below z.heap.size z z') : Sx w0 p l o x z' := by
  rcases h with ⟨e, lf, h⟩ | ⟨e, h0, h1, h⟩
  · exact Or.inl ⟨e, lf, h.next hb⟩
  · exact Or.inr ⟨e, h0, h1, h.next hb⟩
theorem Rd.same {w0 w w' : World} {p : Nat} {lf : List Tk} {o : Int} {fl : Bool} (h : Rd w0 p lf o fl w) (hb : Below w0.heap.size w w') (e : w'.heap[p]? = w.heap[p]?) : Rd w0 p lf o fl w' := by
  obtain ⟨a, cap, h0, hv⟩ := h.vw
  exact ⟨h.bel.trans hb, h.lo, Nat.lt_of_lt_of_le h.lt hb.size, h.bd, ⟨a, cap, (World.cell?_of_block (w := w) e).trans h0, hv⟩, (World.cell?_of_block (w := w) e).trans h.c1, (World.cell?_of_block (w := w) e).trans h.c2,
    (World.frozen?_of_block (w := w) e).trans h.f0, (World.frozen?_of_block (w := w) e).trans h.f1, (World.frozen?_of_block (w := w) e).trans h.f2⟩
theorem Sx.set {w0 z : World} {p q j : Nat} {l : List Tk} {o x : Int} (h : Sx w0 p l o x z) (hq : w0.heap.size ≤ q) (hne : p ≠ q) (u : Value) : Sx w0 p l o x (z.setCell ⟨q, j, none⟩ u) := by
  have hb : Below w0.heap.size z (z.setCell ⟨q, j, none⟩ u) := (Below.refl _ z).setCell (p := ⟨q, j, none⟩) hq u
  have e : (z.setCell ⟨q, j, none⟩ u).heap[p]? = z.heap[p]? := Below.heap_setCell _ _ _ _ hne
  rcases h with ⟨e', lf, h⟩ | ⟨e', h0, h1, h⟩
  · exact Or.inl ⟨e', lf, h.same hb e⟩
  · exact Or.inr ⟨e', h0, h1, h.same hb e⟩
theorem Sx.lo {w0 z : World} {p : Nat} {l : List Tk} {o x : Int} (h : Sx w0 p l o x z) : w0.heap.size ≤ p ∧ p < z.heap.size := by
  rcases h with ⟨e', lf, h⟩ | ⟨e', h0, h1, h⟩
  · exact ⟨h.lo, h.lt⟩
  · exact ⟨h.lo, h.lt⟩
/-- Behind a name at a place. -/
def nmX (l : List Tk) (x : Int) : Int := if nmA l x then x + 1 else -1
theorem nmX_neg (l : List Tk) : nmX l (-1) = -1 := by
  have : nmA l (-1) = false := by unfold nmA; rw [tkA_neg (by omega)]
  unfold nmX; rw [this]; rfl
theorem sm_neg1 (l : List Tk) (kind : Int) : smV l kind (-1) = -1 := by
  have := sm_ahd l kind (-1)
  unfold Ahd at this
  omega
theorem drop_tk {l : List Tk} {x : Int} {s : Tk} (h : tkA l x = some s) : l.drop x.toNat = s :: l.drop (x + 1).toNat := by
  obtain ⟨h0, h1, h2⟩ := tkA_some h
  obtain ⟨hlt, e⟩ := List.getElem?_eq_some_iff.1 h2
  rw [List.drop_eq_getElem_cons hlt, e, show (x + 1).toNat = x.toNat + 1 by omega]
theorem drop_no {l : List Tk} {x : Int} (h0 : 0 ≤ x) (h : tkA l x = none) : l.drop x.toNat = [] := by
  unfold tkA at h
  rw [if_neg (by omega)] at h
  exact List.drop_eq_nil_of_le (List.getElem?_eq_none_iff.1 h)
theorem enA_drop (l : List Tk) {x : Int} (h0 : 0 ≤ x) : enA (l.drop x.toNat) 0 = enA l x := by
  unfold enA
  rw [if_neg (by omega), if_neg (by omega)]; rfl
theorem tx_nil : tx [] = ⟨#[]⟩ := rfl
/-- The reader's next token. -/
def tkX (l : List Tk) (x : Int) : Int := if tkA l x = none then -1 else x + 1
theorem token_x {w0 z : World} {p : Nat} {l : List Tk} {o x : Int} (h : Sx w0 p l o x z) : Calls Tryd.prog 37 #[.pointer (some ⟨p, 0, none⟩)] z fun e z' => ∃ t, e = .returned (.string (tx t)) ∧ But p z z' ∧ Sx w0 p l o (tkX l x) z' ∧ t = tkN l x := by
  rcases h with ⟨e, lf, h⟩ | ⟨e, h0, h1, h⟩
  · subst e
    have e1 : tkA l (-1) = none := tkA_neg (by omega)
    refine (token_fail h).mono ?_; rintro e z' ⟨rfl, r, b⟩
    exact ⟨[], rfl, b, Or.inl ⟨by unfold tkX; rw [if_pos e1], lf, r⟩, by unfold tkN; rw [e1]; rfl⟩
  · cases hs : tkA l x with
    | none =>
      rw [drop_no h0 hs] at h
      refine (token_nil h).mono ?_; rintro e z' ⟨rfl, r, b⟩
      exact ⟨[], rfl, b, Or.inl ⟨by unfold tkX; rw [if_pos hs], [], r⟩, by unfold tkN; rw [hs]; rfl⟩
    | some s =>
      have := tkA_some hs
      rw [drop_tk hs] at h
      refine (token_cons h).mono ?_; rintro e z' ⟨rfl, r, b⟩
      have hx : tkX l x = x + 1 := by unfold tkX; rw [if_neg (by rw [hs]; simp)]
      exact ⟨s, rfl, b, Or.inr ⟨by rw [hx]; omega, by rw [hx]; omega, by rw [hx]; omega, by rw [hx]; exact r⟩, by unfold tkN; rw [hs]; rfl⟩
theorem require_x {w0 z : World} {p : Nat} {l : List Tk} {o x : Int} (h : Sx w0 p l o x z) (b : Bool) : Calls Tryd.prog 41 #[.pointer (some ⟨p, 0, none⟩), .bool b] z fun e z' => e = .returned (.tuple #[]) ∧ But p z z' ∧ Sx w0 p l o (if b then x else -1) z' := by
  rcases h with ⟨e, lf, h⟩ | ⟨e, h0, h1, h⟩
  · subst e
    refine (require_any h b).mono ?_; rintro e z' ⟨rfl, r, b'⟩
    exact ⟨rfl, b', Or.inl ⟨by cases b <;> rfl, lf, r⟩⟩
  · refine (require_any h b).mono ?_; rintro e' z' ⟨rfl, r, b'⟩
    cases b
    · exact ⟨rfl, b', Or.inl ⟨rfl, _, r⟩⟩
    · exact ⟨rfl, b', Or.inr ⟨e, h0, h1, r⟩⟩
theorem nm_tk {l : List Tk} {x : Int} : nmX l x = if nmB (tkN l x) then tkX l x else -1 := by
  unfold nmX nmA tkN tkX
  cases h : tkA l x with
  | none => simp [nmB_nil]
  | some s => simp
set_option maxHeartbeats 1000000 in
set_option maxRecDepth 100000 in
theorem name_x {w0 z : World} {p : Nat} {l : List Tk} {o x : Int} (h : Sx w0 p l o x z) : Calls Tryd.prog 38 #[.pointer (some ⟨p, 0, none⟩)] z fun e z' => ∃ t, e = .returned (.string (tx t)) ∧ But p z z' ∧ Sx w0 p l o (nmX l x) z' ∧ t = tkN l x := by
  have HT := Lib.hid (token_x h)
  have HX := Lib.hid (nm_tk (l := l) (x := x))
  clear h
  generalize nmX l x = y at *
  go_enter Tryd.func38, Tryd.ntmps38
  go_wp2_with fail
  refine HT.out.mono ?_; rintro e w1 ⟨t, rfl, b1, r1, ht⟩
  have HN := Lib.hid (nmI_any t w1)
  have HQ := Lib.hid (fun b => require_x r1 b)
  have B1 := Lib.hid b1
  have HT' := Lib.hid ht
  clear r1 b1 ht
  go_wp2_with fail
  refine HN.out.mono ?_; rintro e w2 ⟨rfl, rfl⟩
  go_wp2_with fail
  refine (HQ.out _).mono ?_; rintro e w3 ⟨rfl, b3, r3⟩
  have R3 := Lib.hid r3
  have B3 := Lib.hid (B1.out.trans b3)
  clear r3 b3
  go_wp2_with fail
  go_ret
  exact ⟨t, rfl, B3.out, (by have := R3.out; rw [HT'.out, ← HX.out] at this; exact this), HT'.out⟩
theorem sum_x {w0 z : World} {p : Nat} {l : List Tk} {o x : Int} (hL : Lib3 w0) (kind : Int) (hk : kind ≠ 0) (h : Sx w0 p l o x z) : Calls Tryd.prog 39 #[.pointer (some ⟨p, 0, none⟩), .int .i64 kind] z fun e z' => ∃ a n c, e = .returned (.slice a n c) ∧ But p z z' ∧ Sx w0 p l o (smV l kind x) z' ∧ (smV l kind x ≠ -1 → n = (smT l x).length ∧ V1 w0 a c (txL (smT l x))) := by
  rcases h with ⟨e, lf, h⟩ | ⟨e, h0, h1, h⟩
  · subst e
    rw [sm_neg1]
    cases he : enA lf 0 with
    | none =>
      refine (sum_no hL hk h he).mono ?_; rintro e z' ⟨rfl, r, b⟩
      exact ⟨_, _, _, rfl, b, Or.inl ⟨rfl, _, r⟩, fun e => absurd rfl e⟩
    | some m =>
      refine (sum_yes hL h he).mono ?_; rintro e z' ⟨a, cap, rfl, hv, r, b⟩
      exact ⟨_, _, _, rfl, b, Or.inl ⟨rfl, _, r⟩, fun e => absurd rfl e⟩
  · have hed := enA_drop l h0
    cases he : enA l x with
    | none =>
      have hx : smV l kind x = -1 := by unfold smV; rw [if_pos (Or.inl (by rw [edV_none he]; decide))]
      rw [hx]
      rw [he] at hed
      refine (sum_no hL hk h hed).mono ?_; rintro e z' ⟨rfl, r, b⟩
      exact ⟨_, _, _, rfl, b, Or.inl ⟨rfl, _, r⟩, fun e => absurd rfl e⟩
    | some m =>
      rw [he] at hed
      have hsm : smT l x = (l.drop x.toNat).take m := by unfold smT; rw [he]
      have hev := edV_some he
      obtain ⟨k0, hk0, hkm, hpl, hen, -⟩ := enA_piece he
      have hkk : k0 = x.toNat := by omega
      subst hkk
      have e2 : enA ((l.drop x.toNat).take m) 0 = some m := by
        unfold enA
        rw [if_neg (by omega)]; exact hen
      have htt : (((l.drop x.toNat).take m).drop (0 : Int).toNat).take m = (l.drop x.toNat).take m := by
        show ((l.drop x.toNat).take m).take m = _
        rw [List.take_take, Nat.min_self]
      have kq : kdV ((l.drop x.toNat).take m) 0 = kdV l x := foV_agr kdF kdG 0 he e2 htt
      have dq : dpV ((l.drop x.toNat).take m) 0 = dpV l x := foV_agr dpF dpG 0 he e2 htt
      refine (sum_yes hL h hed).mono ?_; rintro e z' ⟨a, cap, rfl, hv, r, b⟩
      rw [kq, dq] at r
      refine ⟨_, _, _, rfl, b, ?_, fun _ => ?_⟩
      · by_cases c1 : kdV l x = kind
        · by_cases c2 : dpV l x ≤ 5
          · have hx : smV l kind x = edV l x := sm_yes (by rw [hev]; omega) c1 (by omega)
            rw [beq_iff_eq.2 c1, decide_eq_true c2] at r
            refine Or.inr ⟨by rw [hx, hev]; omega, by rw [hx, hev]; omega, by rw [hx, hev]; omega, ?_⟩
            rw [hx, hev, show (x + (m : Int)).toNat = x.toNat + m by omega, ← List.drop_drop]
            exact r
          · have hx : smV l kind x = -1 := sm_deep (by omega)
            rw [decide_eq_false c2, Bool.and_false] at r
            exact Or.inl ⟨hx, _, r⟩
        · have hx : smV l kind x = -1 := sm_kind c1
          rw [beq_eq_false_iff_ne.2 c1, Bool.false_and] at r
          exact Or.inl ⟨hx, _, r⟩
      · rw [hsm]
        exact ⟨hpl.symm, hv⟩
end Go.Proofs.YtkhmbmcomgclaaaDoor.Cl
