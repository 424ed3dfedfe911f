/-
  The contract of impl.FindBarn: 'fdP'.
  The contract of impl.FindBarn: 'fdP'.
  The contract of spec.FindBarn: 'fdP'.
  The contract of spec.FindBarn: 'fdP'.
-/
import Derived.Test.YtkkpokfekbdigaaRa
import Derived.Test.YtkkpokfekbdigaaBa
import Derived.Test.YtkkpokfekbdigaaCk
namespace Go.Proofs.Ytkkpokfekbdigaa.Cl
open Go.RowKit Wd Rp Kp Ra Go.Shelf
attribute [local go_sem] Oper.semAt_some
set_option linter.unusedVariables false
/-- The better one of what was found so far and what is found here. -/
def stepF (b x : Cel × Bool) : Cel × Bool := if x.2 && (!b.2 || decide (b.1.t < x.1.t)) then (x.1, true) else b
/-- What is found in the tables, one after the other. -/
def fdA (ts : List (List Cel)) (K : Cel) : Cel × Bool := (ts.map fun t => findP t K).foldl stepF (zz, false)
theorem fdA_snoc (ts : List (List Cel)) (t : List Cel) (K : Cel) : fdA (ts ++ [t]) K = stepF (fdA ts K) (findP t K) := by unfold fdA; rw [List.map_append, List.foldl_append]; rfl
def fdP (h : List Cel) (ss : List (List Cel)) (K : Cel) : Cel × Bool := if okB h ss then fdA (h :: ss) K else (zz, false)
/-- A cell in a block of its own. -/
def Cb (q : Nat) (c : Cel) (w : World) : Prop := (w.cell? ⟨q, 0, none⟩ = some (.string c.r) ∧ w.cell? ⟨q, 1, none⟩ = some (.string c.b) ∧ w.cell? ⟨q, 2, none⟩ = some (.int .i64 c.t) ∧ w.cell? ⟨q, 3, none⟩ = some (.int .i64 c.v) ∧ w.cell? ⟨q, 4, none⟩ = some (.bool c.g)) ∧
    (w.frozen? ⟨q, 0, none⟩ = false ∧ w.frozen? ⟨q, 1, none⟩ = false ∧ w.frozen? ⟨q, 2, none⟩ = false ∧ w.frozen? ⟨q, 3, none⟩ = false ∧ w.frozen? ⟨q, 4, none⟩ = false) ∧ q < w.heap.size
theorem Cb.of {q T : Nat} {c : Cel} {w : World} (hp : w.heap[q]? = some (.cells #[.string c.r, .string c.b, .int .i64 c.t, .int .i64 c.v, .bool c.g] T (0, 0))) : Cb q c w := by
  obtain ⟨h0, h1, h2, h3, h4, f0, f1, f2, f3, f4⟩ := five_of hp
  exact ⟨⟨h0, h1, h2, h3, h4⟩, ⟨f0, f1, f2, f3, f4⟩, (Array.getElem?_eq_some_iff.1 hp).1⟩
theorem Cb.made (c : Cel) (w : World) (T : Nat) : Cb w.heap.size c (w.alloc (.cells #[.string c.r, .string c.b, .int .i64 c.t, .int .i64 c.v, .bool c.g] T)) := Cb.of (World.alloc_heap_new w _)
theorem Cb.same {q : Nat} {c : Cel} {w w' : World} (h : Cb q c w) (e : w'.heap[q]? = w.heap[q]?) : Cb q c w' := by
  obtain ⟨⟨h0, h1, h2, h3, h4⟩, ⟨f0, f1, f2, f3, f4⟩, hl⟩ := h
  have hl' : q < w'.heap.size := by rw [Array.getElem?_eq_getElem hl] at e; exact (Array.getElem?_eq_some_iff.1 e).1
  exact ⟨⟨(World.cell?_of_block (w := w) e).trans h0, (World.cell?_of_block (w := w) e).trans h1, (World.cell?_of_block (w := w) e).trans h2, (World.cell?_of_block (w := w) e).trans h3, (World.cell?_of_block (w := w) e).trans h4⟩,
    ⟨(World.frozen?_of_block (w := w) e).trans f0, (World.frozen?_of_block (w := w) e).trans f1, (World.frozen?_of_block (w := w) e).trans f2, (World.frozen?_of_block (w := w) e).trans f3, (World.frozen?_of_block (w := w) e).trans f4⟩, hl'⟩
theorem Cb.next {q : Nat} {c : Cel} {w w' : World} (h : Cb q c w) (hb : Below w.heap.size w w') : Cb q c w' := h.same (hb.block q h.2.2)
theorem Cb.below {q B : Nat} {c : Cel} {w w' : World} (h : Cb q c w) (hb : Below B w w') (hq : q < B) : Cb q c w' := h.same (hb.block q hq)
/-- Five stores. -/
def put5 (w : World) (q : Nat) (c : Cel) : World := ((((w.setCell ⟨q, 0, none⟩ (.string c.r)).setCell ⟨q, 1, none⟩ (.string c.b)).setCell ⟨q, 2, none⟩ (.int .i64 c.t)).setCell ⟨q, 3, none⟩ (.int .i64 c.v)).setCell ⟨q, 4, none⟩ (.bool c.g)
theorem put5_other (w : World) (q k : Nat) (c : Cel) (h : k ≠ q) : (put5 w q c).heap[k]? = w.heap[k]? := by
  unfold put5
  exact ((((Below.heap_setCell _ _ _ k h).trans (Below.heap_setCell _ _ _ k h)).trans (Below.heap_setCell _ _ _ k h)).trans (Below.heap_setCell _ _ _ k h)).trans (Below.heap_setCell _ _ _ k h)
theorem put5_size (w : World) (q : Nat) (c : Cel) : (put5 w q c).heap.size = w.heap.size := by unfold put5; rw [World.size_setCell, World.size_setCell, World.size_setCell, World.size_setCell, World.size_setCell]
theorem Cb.put5 {q : Nat} {c d : Cel} {w : World} (h : Cb q c w) : Cb q d (put5 w q d) := by
  obtain ⟨⟨h0, h1, h2, h3, h4⟩, ⟨f0, f1, f2, f3, f4⟩, hl⟩ := h
  have ne : ∀ {i j : Nat}, i ≠ j → (⟨q, i, none⟩ : Addr) ≠ ⟨q, j, none⟩ := fun hij e => hij (congrArg Addr.off e)
  unfold Cl.put5
  refine ⟨⟨?_, ?_, ?_, ?_, ?_⟩, ⟨?_, ?_, ?_, ?_, ?_⟩, by rw [World.size_setCell, World.size_setCell, World.size_setCell, World.size_setCell, World.size_setCell]; exact hl⟩
  · rw [World.cell?_setCell_other _ _ _ _ (ne (by decide)), World.cell?_setCell_other _ _ _ _ (ne (by decide)), World.cell?_setCell_other _ _ _ _ (ne (by decide)), World.cell?_setCell_other _ _ _ _ (ne (by decide))]
    exact World.cell?_setCell_same' _ _ _ (by rw [h0]; rfl)
  · rw [World.cell?_setCell_other _ _ _ _ (ne (by decide)), World.cell?_setCell_other _ _ _ _ (ne (by decide)), World.cell?_setCell_other _ _ _ _ (ne (by decide))]
    exact World.cell?_setCell_same' _ _ _ (by rw [World.cell?_setCell_other _ _ _ _ (ne (by decide)), h1]; rfl)
  · rw [World.cell?_setCell_other _ _ _ _ (ne (by decide)), World.cell?_setCell_other _ _ _ _ (ne (by decide))]
    exact World.cell?_setCell_same' _ _ _ (by rw [World.cell?_setCell_other _ _ _ _ (ne (by decide)), World.cell?_setCell_other _ _ _ _ (ne (by decide)), h2]; rfl)
  · rw [World.cell?_setCell_other _ _ _ _ (ne (by decide))]
    exact World.cell?_setCell_same' _ _ _ (by rw [World.cell?_setCell_other _ _ _ _ (ne (by decide)), World.cell?_setCell_other _ _ _ _ (ne (by decide)), World.cell?_setCell_other _ _ _ _ (ne (by decide)), h3]; rfl)
  · exact World.cell?_setCell_same' _ _ _ (by rw [World.cell?_setCell_other _ _ _ _ (ne (by decide)), World.cell?_setCell_other _ _ _ _ (ne (by decide)), World.cell?_setCell_other _ _ _ _ (ne (by decide)), World.cell?_setCell_other _ _ _ _ (ne (by decide)), h4]; rfl)
  all_goals simp only [World.frozen?_setCell]; assumption
theorem put5_below {B q : Nat} {a w : World} {c : Cel} (h : Below B a w) (hq : B ≤ q) : Below B a (put5 w q c) := bel_set5o (o := 0) h hq _ _ _ _ _
theorem put5_kept {F : Nat → Prop} {g : Option Nat} {w : World} {q : Nat} {c : Cel} (h : F q) : Kept F g w (put5 w q c) :=
  ((((Kept.set (p := ⟨q, 0, none⟩) h _).trans (Kept.set (p := ⟨q, 1, none⟩) h _)).trans (Kept.set (p := ⟨q, 2, none⟩) h _)).trans (Kept.set (p := ⟨q, 3, none⟩) h _)).trans (Kept.set (p := ⟨q, 4, none⟩) h _)
theorem put5_keeps {B q : Nat} {w : World} {c : Cel} : KeepsFrom B w (put5 w q c) :=
  (((((KeepsOthers.setCell _ _ _).trans (KeepsOthers.setCell _ _ _)).trans (KeepsOthers.setCell _ _ _)).trans (KeepsOthers.setCell _ _ _)).trans (KeepsOthers.setCell _ _ _)).from B
/-- A block with one value. -/
def One (q : Nat) (v : Value) (w : World) : Prop := w.cell? ⟨q, 0, none⟩ = some v ∧ w.frozen? ⟨q, 0, none⟩ = false ∧ q < w.heap.size
theorem One.of {q T : Nat} {v : Value} {w : World} (e : w.heap[q]? = some (.cells #[v] T (0, 0))) : One q v w := ⟨by simp only [World.cell?, e]; rfl, by simp only [World.frozen?, e]; rfl, (Array.getElem?_eq_some_iff.1 e).1⟩
theorem One.same {q : Nat} {v : Value} {w w' : World} (h : One q v w) (e : w'.heap[q]? = w.heap[q]?) : One q v w' := by
  have hl' : q < w'.heap.size := by rw [Array.getElem?_eq_getElem h.2.2] at e; exact (Array.getElem?_eq_some_iff.1 e).1
  exact ⟨(World.cell?_of_block (w := w) e).trans h.1, (World.frozen?_of_block (w := w) e).trans h.2.1, hl'⟩
theorem One.set {q : Nat} {v : Value} {w : World} (h : One q v w) (x : Value) : One q x (w.setCell ⟨q, 0, none⟩ x) := ⟨World.cell?_setCell_same' _ _ _ (by rw [h.1]; rfl), by rw [World.frozen?_setCell]; exact h.2.1, by rw [World.size_setCell]; exact h.2.2⟩
/-- FindBarn's blocks: the store, the key, the result; the best so far. -/
def Ft (q : Nat) (u v : Value) (K : Cel) (w : World) : Prop := Bb q u v w ∧ One (q + 1) (.string K.r) w ∧ One (q + 2) (.string K.b) w ∧ One (q + 3) (.int .i64 K.t) w ∧ Cb (q + 4) zz w
theorem Ft.same {q : Nat} {u v : Value} {K : Cel} {w w' : World} (h : Ft q u v K w) (e : ∀ k, q ≤ k → k ≤ q + 4 → w'.heap[k]? = w.heap[k]?) (hz : w.heap.size ≤ w'.heap.size) : Ft q u v K w' := by
  obtain ⟨⟨h0, h1, h2, h3, h4⟩, k1, k2, k3, k4⟩ := h
  have e0 := e q (by omega) (by omega)
  exact ⟨⟨(World.cell?_of_block (w := w) e0).trans h0, (World.cell?_of_block (w := w) e0).trans h1, (World.frozen?_of_block (w := w) e0).trans h2, (World.frozen?_of_block (w := w) e0).trans h3, Nat.lt_of_lt_of_le h4 hz⟩,
    k1.same (e _ (by omega) (by omega)), k2.same (e _ (by omega) (by omega)), k3.same (e _ (by omega) (by omega)), k4.same (e _ (by omega) (by omega))⟩
theorem Ft.next {q : Nat} {u v : Value} {K : Cel} {w w' : World} (h : Ft q u v K w) (hb : Below w.heap.size w w') : Ft q u v K w' := h.same (fun k _ h2 => hb.block k (by have := h.2.2.2.2.2.2; omega)) hb.size
/-- The five blocks as they are laid. -/
def ftW (w : World) (u v : Value) (K : Cel) : World := ((((w.alloc (.cells #[u, v] 45)).alloc (.cells #[.string K.r] 9)).alloc (.cells #[.string K.b] 9)).alloc (.cells #[.int .i64 K.t] 2)).alloc (.cells #[.string ⟨#[]⟩, .string ⟨#[]⟩, .int .i64 0, .int .i64 0, .bool false] 28)
theorem ftW_size (w : World) (u v : Value) (K : Cel) : (ftW w u v K).heap.size = w.heap.size + 5 := by unfold ftW; simp
theorem ftW_below (w : World) (u v : Value) (K : Cel) : Below w.heap.size w (ftW w u v K) := by
  unfold ftW
  exact ((((bel1 w _).alloc (by simp) _).alloc (by simp; omega) _).alloc (by simp; omega) _).alloc (by simp; omega) _
theorem ftW_ft (w : World) (u v : Value) (K : Cel) : Ft w.heap.size u v K (ftW w u v K) := by
  have old : ∀ (x : World) (o : Obj) (k : Nat), k < x.heap.size → (x.alloc o).heap[k]? = x.heap[k]? := fun x o k hk => Below.heap_alloc x o k hk
  have h0 := World.alloc_heap_new w (.cells #[u, v] 45)
  have h1 := World.alloc_heap_new (w.alloc (.cells #[u, v] 45)) (.cells #[.string K.r] 9)
  have h2 := World.alloc_heap_new ((w.alloc (.cells #[u, v] 45)).alloc (.cells #[.string K.r] 9)) (.cells #[.string K.b] 9)
  have h3 := World.alloc_heap_new (((w.alloc (.cells #[u, v] 45)).alloc (.cells #[.string K.r] 9)).alloc (.cells #[.string K.b] 9)) (.cells #[.int .i64 K.t] 2)
  have h4 := World.alloc_heap_new ((((w.alloc (.cells #[u, v] 45)).alloc (.cells #[.string K.r] 9)).alloc (.cells #[.string K.b] 9)).alloc (.cells #[.int .i64 K.t] 2)) (.cells #[.string ⟨#[]⟩, .string ⟨#[]⟩, .int .i64 0, .int .i64 0, .bool false] 28)
  simp only [World.size_alloc] at h1 h2 h3 h4
  unfold ftW
  refine ⟨Bb.of (T := 45) ?_, One.of (T := 9) ?_, One.of (T := 9) ?_, One.of (T := 2) ?_, Cb.of (T := 28) (c := zz) ?_⟩
  · rw [old _ _ _ (by simp; omega), old _ _ _ (by simp; omega), old _ _ _ (by simp; omega), old _ _ _ (by simp)]; exact h0
  · rw [old _ _ _ (by simp), old _ _ _ (by simp), old _ _ _ (by simp)]; exact h1
  · rw [old _ _ _ (by simp), old _ _ _ (by simp)]; exact h2
  · rw [old _ _ _ (by simp)]; exact h3
  · exact h4
end Go.Proofs.Ytkkpokfekbdigaa.Cl
namespace Go.Proofs.Ytkkpokfekbdigaa.Cl
open Go.RowKit Wd Rp Kp Ra Go.Shelf
attribute [local go_sem] Oper.semAt_some
set_option linter.unusedVariables false
theorem fdP_no {h : List Cel} {ss : List (List Cel)} {K : Cel} (e : okB h ss = false) : fdP h ss K = (zz, false) := by unfold fdP; rw [e]; rfl
theorem fdP_yes {h : List Cel} {ss : List (List Cel)} {K : Cel} (e : okB h ss = true) : fdP h ss K = fdA (h :: ss) K := by unfold fdP; rw [e]; rfl
/-- The best so far, in FindBarn's two blocks. -/
def Best (L : Nat) (st : Cel × Bool) (w : World) : Prop := Cb L st.1 w ∧ One (L + 1) (.bool st.2) w
theorem Best.below {L B : Nat} {st : Cel × Bool} {w w' : World} (h : Best L st w) (hb : Below B w w') (hL : L + 1 < B) : Best L st w' := ⟨h.1.same (hb.block _ (by omega)), h.2.same (hb.block _ hL)⟩
theorem Best.next {L : Nat} {st : Cel × Bool} {w w' : World} (h : Best L st w) (hb : Below w.heap.size w w') : Best L st w' := h.below hb h.2.2.2
def upd (w : World) (L : Nat) (c : Cel) : World := (put5 w L c).setCell ⟨L + 1, 0, none⟩ (.bool true)
theorem Best.upd {L : Nat} {st : Cel × Bool} {w : World} (h : Best L st w) (c : Cel) : Best L (c, true) (upd w L c) := by
  unfold Cl.upd
  exact ⟨h.1.put5.same (Below.heap_setCell _ _ _ _ (by show L ≠ L + 1; omega)), (h.2.same (put5_other w L (L + 1) c (by omega))).set _⟩
theorem upd_below {B L : Nat} {a w : World} {c : Cel} (h : Below B a w) (hL : B ≤ L) : Below B a (upd w L c) := (put5_below h hL).setCell (p := ⟨L + 1, 0, none⟩) (by show B ≤ L + 1; omega) _
theorem upd_kept {F : Nat → Prop} {g : Option Nat} {w : World} {L : Nat} {c : Cel} (h : F L) (h2 : F (L + 1)) : Kept F g w (upd w L c) := (put5_kept h).trans (Kept.set (p := ⟨L + 1, 0, none⟩) h2 _)
theorem upd_keeps {B L : Nat} {w : World} {c : Cel} : KeepsFrom B w (upd w L c) := put5_keeps.trans ((KeepsOthers.setCell _ _ _).from B)
theorem upd_size (w : World) (L : Nat) (c : Cel) : (upd w L c).heap.size = w.heap.size := by unfold upd; rw [World.size_setCell, put5_size]
theorem upd_other (w : World) (L k : Nat) (c : Cel) (h : k ≠ L) (h2 : k ≠ L + 1) : (upd w L c).heap[k]? = w.heap[k]? := by unfold upd; exact (Below.heap_setCell _ _ _ k h2).trans (put5_other w L k c h)
theorem step_no {b x : Cel × Bool} (h : x.2 = false) : stepF b x = b := by unfold stepF; rw [h]; rfl
theorem step_new {b x : Cel × Bool} (h : x.2 = true) (hb : b.2 = false) : stepF b x = (x.1, true) := by unfold stepF; rw [h, hb]; rfl
theorem step_yes {b x : Cel × Bool} (h : x.2 = true) (hb : b.2 = true) (ht : b.1.t < x.1.t) : stepF b x = (x.1, true) := by unfold stepF; rw [h, hb]; simp [ht]
theorem step_old {b x : Cel × Bool} (h : x.2 = true) (hb : b.2 = true) (ht : ¬ b.1.t < x.1.t) : stepF b x = b := by unfold stepF; rw [h, hb]; simp [ht]
/-- Two blocks more: the best so far. -/
def bestW (w : World) : World := (w.alloc (.cells #[.string ⟨#[]⟩, .string ⟨#[]⟩, .int .i64 0, .int .i64 0, .bool false] 28)).alloc (.cells #[.bool false] 4)
theorem bestW_best (w : World) : Best w.heap.size (zz, false) (bestW w) := by
  unfold bestW
  refine ⟨(Cb.made zz w 28).next (bel1 _ _), One.of (T := 4) ?_⟩
  have := World.alloc_heap_new (w.alloc (.cells #[.string ⟨#[]⟩, .string ⟨#[]⟩, .int .i64 0, .int .i64 0, .bool false] 28)) (.cells #[.bool false] 4)
  rwa [World.size_alloc] at this
theorem Cb.drew {q : Nat} {c : Cel} {w : World} (h : Cb q c w) : Cb q c w.drew := h.same rfl
theorem drew_at {w : World} {k : Nat} {o : Obj} (h : w.heap[k]? = some o) : w.drew.heap[k]? = some o := h
end Go.Proofs.Ytkkpokfekbdigaa.Cl
namespace Go.Proofs.Ytkkpokfekbdigaa.Cl
open Go.RowKit Wd Rp Kp Ra
set_option linter.unusedVariables false
theorem Bb.same' {q : Nat} {u v : Value} {w w' : World} (h : Bb q u v w) (e : w'.heap[q]? = w.heap[q]?) : Bb q u v w' := by
  obtain ⟨h0, h1, h2, h3, h4⟩ := h
  have hl' : q < w'.heap.size := by rw [Array.getElem?_eq_getElem h4] at e; exact (Array.getElem?_eq_some_iff.1 e).1
  exact ⟨(World.cell?_of_block (w := w) e).trans h0, (World.cell?_of_block (w := w) e).trans h1, (World.frozen?_of_block (w := w) e).trans h2, (World.frozen?_of_block (w := w) e).trans h3, hl'⟩
def fdR (h : List Cel) (ss : List (List Cel)) (K : Cel) : Cel × Bool := (ss.map fun t => findR t K).foldl stepF (findR h K)
theorem findR_zero (t : List Cel) (K : Cel) : stepF (zz, false) (findR t K) = findR t K := by
  unfold findR
  cases findL t K with
  | none => rfl
  | some c => rfl
theorem fdA_key {ts : List (List Cel)} {K : Cel} (hK : keyB K.r.data.toList K.b.data.toList K.t = false) : fdA ts K = (zz, false) := by
  unfold fdA
  induction ts with
  | nil => rfl
  | cons t ts ih =>
    rw [List.map_cons, List.foldl_cons, findP_no (by rw [hK, Bool.and_false]), step_no rfl]; exact ih
theorem fdA_is {h : List Cel} {ss : List (List Cel)} {K : Cel} (ho : okB h ss = true) (hK : keyB K.r.data.toList K.b.data.toList K.t = true) : fdA (h :: ss) K = fdR h ss K := by
  obtain ⟨o1, -, o3⟩ := okB_iff.1 ho
  unfold fdA fdR
  rw [List.map_cons, List.foldl_cons, findP_yes o1 hK, findR_zero]
  congr 1
  exact List.map_congr_left fun t ht => findP_yes (o3 t ht).2 hK
theorem fdP_key {h : List Cel} {ss : List (List Cel)} {K : Cel} (hK : keyB K.r.data.toList K.b.data.toList K.t = false) : fdP h ss K = (zz, false) := by
  unfold fdP
  split
  · exact fdA_key hK
  · rfl
theorem fdP_is {h : List Cel} {ss : List (List Cel)} {K : Cel} (ho : okB h ss = true) (hK : keyB K.r.data.toList K.b.data.toList K.t = true) : fdP h ss K = fdR h ss K := by rw [fdP_yes ho, fdA_is ho hK]
def fdT (h : List Cel) (ss : List (List Cel)) (K : Cel) (k : Nat) : Cel × Bool := fdR h (ss.take k) K
theorem fdT_succ {h : List Cel} {ss : List (List Cel)} {K : Cel} {k : Nat} {t : List Cel} (ht : ss[k]? = some t) : fdT h ss K (k + 1) = stepF (fdT h ss K k) (findR t K) := by
  unfold fdT fdR; rw [take_at ht, List.map_append, List.foldl_append]; rfl
end Go.Proofs.Ytkkpokfekbdigaa.Cl
