/-
  Cells: contracts of spec.CellOk, impl.CellOk, laws.toCell, laws.szCell: what they give for every cell, nothing that was there turned.
  Lists of cells: their values in a row, slices that read as such a list ('Vw'), slices that a call has made ('OwC'); which lists are valid ('okL').
  The block of a result that is a cell: zero at first.
-/
import Derived.Test.YtdalncgbbkeimaaDoorKy
import Derived.Test.YtdalncgbbkeimaaDoorKl
import Derived.Laws.OwnMore
namespace Go.Proofs.YtdalncgbbkeimaaDoor.Cl
open Go.RowKit Wd Rp Kp
set_option linter.unusedVariables false
/-- Is it a valid cell? -/
def cellB (r b : ByteArray) (t v : Int) (g : Bool) : Bool := keyB r.data.toList b.data.toList t && (isW v && (!g || v == 0))
/-- Block n holds a cell. -/
def Bc (n : Nat) (r b : ByteArray) (t v : Int) (g : Bool) (w : World) : Prop := w.cell? ⟨n, 0, none⟩ = some (.string r) ∧ w.cell? ⟨n, 1, none⟩ = some (.string b) ∧ w.cell? ⟨n, 2, none⟩ = some (.int .i64 t) ∧ w.cell? ⟨n, 3, none⟩ = some (.int .i64 v) ∧ w.cell? ⟨n, 4, none⟩ = some (.bool g) ∧ n < w.heap.size
theorem Bc.made (r b : ByteArray) (t v : Int) (g : Bool) (w : World) (T : Nat) : Bc w.heap.size r b t v g (w.alloc (.cells #[.string r, .string b, .int .i64 t, .int .i64 v, .bool g] T)) := by
  have hp : (w.alloc (.cells #[.string r, .string b, .int .i64 t, .int .i64 v, .bool g] T)).heap[w.heap.size]? = some (.cells #[.string r, .string b, .int .i64 t, .int .i64 v, .bool g] T) := by show (w.heap.push _)[w.heap.size]? = _; simp
  refine ⟨?_, ?_, ?_, ?_, ?_, by simp⟩ <;> (simp only [World.cell?, hp]; rfl)
theorem Bc.below {n B : Nat} {r b : ByteArray} {t v : Int} {g : Bool} {w w' : World} (h : Bc n r b t v g w) (hb : Below B w w') (hn : n < B) : Bc n r b t v g w' := by
  obtain ⟨h0, h1, h2, h3, h4, h5⟩ := h
  have e : w'.heap[n]? = w.heap[n]? := hb.block n hn
  exact ⟨(World.cell?_of_block (w := w) e).trans h0, (World.cell?_of_block (w := w) e).trans h1, (World.cell?_of_block (w := w) e).trans h2, (World.cell?_of_block (w := w) e).trans h3, (World.cell?_of_block (w := w) e).trans h4, Nat.lt_of_lt_of_le h5 hb.size⟩
theorem Bc.next {n : Nat} {r b : ByteArray} {t v : Int} {g : Bool} {w w' : World} (h : Bc n r b t v g w) (hb : Below w.heap.size w w') : Bc n r b t v g w' := h.below hb h.2.2.2.2.2
theorem cell_no {r b : ByteArray} {t v : Int} {g : Bool} (h : keyB r.data.toList b.data.toList t = false) : cellB r b t v g = false := by unfold cellB; rw [h]; rfl
theorem cell_nw {r b : ByteArray} {t v : Int} {g : Bool} (h : isW v = false) : cellB r b t v g = false := by unfold cellB; rw [h, Bool.false_and, Bool.and_false]
theorem cell_yes {r b : ByteArray} {t v : Int} {g : Bool} (h : keyB r.data.toList b.data.toList t = true) (hw : isW v = true) : cellB r b t v g = (!g || v == 0) := by unfold cellB; rw [h, hw, Bool.true_and, Bool.true_and]
theorem word_is {v : Int} {x : Bool} (h : isW v = x) (w : World) : Calls Tryd.prog 96 #[.int .i64 v] w fun e w' => e = .returned (.bool x) ∧ w = w' :=
  (l1Word_any v w).mono fun _ _ ⟨he, hw⟩ => ⟨by rw [he, h], hw⟩
theorem wordOk_is {v : Int} {x : Bool} (h : isW v = x) (w : World) : Calls Tryd.prog 72 #[.int .i64 v] w fun e w' => e = .returned (.bool x) ∧ w = w' :=
  (implWordOk_any v w).mono fun _ _ ⟨he, hw⟩ => ⟨by rw [he, h], hw⟩
def CellPost (r b : ByteArray) (t v : Int) (g : Bool) (w : World) (e : Ending) (w' : World) : Prop := e = .returned (.bool (cellB r b t v g)) ∧ Below w.heap.size w w'
set_option maxHeartbeats 1000000 in
theorem specCell_any (r b : ByteArray) (t v : Int) (g : Bool) (w : World) (hr : r.size ≤ 9223372036854775806) (hb : b.size ≤ 9223372036854775806) :
    Calls Tryd.prog 70 #[.agg #[.string r, .string b, .int .i64 t, .int .i64 v, .bool g]] w (CellPost r b t v g w) := by
  have HB := Lib.hid (bel1 w)
  have HX := Lib.hid (Bc.made r b t v g w)
  cases h1 : keyB r.data.toList b.data.toList t
  · have HK := Lib.hid (cell_no (v := v) (g := g) h1)
    have H1 := Lib.hid h1; clear h1
    go_enter Tryd.func70, Tryd.ntmps70
    go_wp2_with fail
    refine (specKey_is H1.out _ hr hb).mono ?_; rintro e w1 ⟨rfl, b1⟩
    have B1 := Lib.hid (bel_tr (HB.out _) b1 (Nat.le_refl _))
    obtain ⟨x0, x1, x2, x3, x4, -⟩ := (HX.out _).next b1; clear b1
    go_wp2_with fail
    go_ret
    exact ⟨by rw [HK.out]; rfl, B1.out⟩
  · cases h2 : isW v
    · have HK := Lib.hid (cell_nw (r := r) (b := b) (t := t) (g := g) h2)
      have H1 := Lib.hid h1; clear h1
      have H2 := Lib.hid h2; clear h2
      go_enter Tryd.func70, Tryd.ntmps70
      go_wp2_with fail
      refine (specKey_is H1.out _ hr hb).mono ?_; rintro e w1 ⟨rfl, b1⟩
      have B1 := Lib.hid (bel_tr (HB.out _) b1 (Nat.le_refl _))
      obtain ⟨x0, x1, x2, x3, x4, -⟩ := (HX.out _).next b1; clear b1
      go_wp2_with fail
      refine (word_is H2.out _).mono ?_; rintro e w2 ⟨rfl, rfl⟩
      go_wp2_with fail
      go_ret
      exact ⟨by rw [HK.out]; rfl, B1.out⟩
    · have HK := Lib.hid (cell_yes (g := g) h1 h2)
      have H1 := Lib.hid h1; clear h1
      have H2 := Lib.hid h2; clear h2
      cases g
      · go_enter Tryd.func70, Tryd.ntmps70
        go_wp2_with fail
        refine (specKey_is H1.out _ hr hb).mono ?_; rintro e w1 ⟨rfl, b1⟩
        have B1 := Lib.hid (bel_tr (HB.out _) b1 (Nat.le_refl _))
        obtain ⟨x0, x1, x2, x3, x4, -⟩ := (HX.out _).next b1; clear b1
        go_wp2_with fail
        refine (word_is H2.out _).mono ?_; rintro e w2 ⟨rfl, rfl⟩
        go_wp2_with fail
        go_ret
        exact ⟨by rw [HK.out]; rfl, B1.out⟩
      · go_enter Tryd.func70, Tryd.ntmps70
        go_wp2_with fail
        refine (specKey_is H1.out _ hr hb).mono ?_; rintro e w1 ⟨rfl, b1⟩
        have B1 := Lib.hid (bel_tr (HB.out _) b1 (Nat.le_refl _))
        obtain ⟨x0, x1, x2, x3, x4, -⟩ := (HX.out _).next b1; clear b1
        go_wp2_with fail
        refine (word_is H2.out _).mono ?_; rintro e w2 ⟨rfl, rfl⟩
        go_wp2_with fail
        go_ret
        exact ⟨by rw [HK.out]; rfl, B1.out⟩
set_option maxHeartbeats 1000000 in
theorem implCell_any (r b : ByteArray) (t v : Int) (g : Bool) (w : World) :
    Calls Tryd.prog 31 #[.agg #[.string r, .string b, .int .i64 t, .int .i64 v, .bool g]] w (CellPost r b t v g w) := by
  have HB := Lib.hid (bel1 w)
  have HX := Lib.hid (Bc.made r b t v g w)
  cases h1 : keyB r.data.toList b.data.toList t
  · have HK := Lib.hid (cell_no (v := v) (g := g) h1)
    have H1 := Lib.hid h1; clear h1
    go_enter Tryd.func31, Tryd.ntmps31
    go_wp2_with fail
    refine (implKey_is H1.out _).mono ?_; rintro e w1 ⟨rfl, b1⟩
    have B1 := Lib.hid (bel_tr (HB.out _) b1 (Nat.le_refl _))
    obtain ⟨x0, x1, x2, x3, x4, -⟩ := (HX.out _).next b1; clear b1
    go_wp2_with fail
    go_ret
    exact ⟨by rw [HK.out]; rfl, B1.out⟩
  · cases h2 : isW v
    · have HK := Lib.hid (cell_nw (r := r) (b := b) (t := t) (g := g) h2)
      have H1 := Lib.hid h1; clear h1
      have H2 := Lib.hid h2; clear h2
      go_enter Tryd.func31, Tryd.ntmps31
      go_wp2_with fail
      refine (implKey_is H1.out _).mono ?_; rintro e w1 ⟨rfl, b1⟩
      have B1 := Lib.hid (bel_tr (HB.out _) b1 (Nat.le_refl _))
      obtain ⟨x0, x1, x2, x3, x4, -⟩ := (HX.out _).next b1; clear b1
      go_wp2_with fail
      refine (wordOk_is H2.out _).mono ?_; rintro e w2 ⟨rfl, rfl⟩
      go_wp2_with fail
      go_ret
      exact ⟨by rw [HK.out]; rfl, B1.out⟩
    · have HK := Lib.hid (cell_yes (g := g) h1 h2)
      have H1 := Lib.hid h1; clear h1
      have H2 := Lib.hid h2; clear h2
      cases g
      · go_enter Tryd.func31, Tryd.ntmps31
        go_wp2_with fail
        refine (implKey_is H1.out _).mono ?_; rintro e w1 ⟨rfl, b1⟩
        have B1 := Lib.hid (bel_tr (HB.out _) b1 (Nat.le_refl _))
        obtain ⟨x0, x1, x2, x3, x4, -⟩ := (HX.out _).next b1; clear b1
        go_wp2_with fail
        refine (wordOk_is H2.out _).mono ?_; rintro e w2 ⟨rfl, rfl⟩
        go_wp2_with fail
        go_ret
        exact ⟨by rw [HK.out]; rfl, B1.out⟩
      · go_enter Tryd.func31, Tryd.ntmps31
        go_wp2_with fail
        refine (implKey_is H1.out _).mono ?_; rintro e w1 ⟨rfl, b1⟩
        have B1 := Lib.hid (bel_tr (HB.out _) b1 (Nat.le_refl _))
        obtain ⟨x0, x1, x2, x3, x4, -⟩ := (HX.out _).next b1; clear b1
        go_wp2_with fail
        refine (wordOk_is H2.out _).mono ?_; rintro e w2 ⟨rfl, rfl⟩
        go_wp2_with fail
        go_ret
        exact ⟨by rw [HK.out]; rfl, B1.out⟩
theorem five_of {w : World} {n : Nat} {x0 x1 x2 x3 x4 : Value} {T : Nat} (h : w.heap[n]? = some (.cells #[x0, x1, x2, x3, x4] T (0, 0))) :
    w.cell? ⟨n, 0, none⟩ = some x0 ∧ w.cell? ⟨n, 1, none⟩ = some x1 ∧ w.cell? ⟨n, 2, none⟩ = some x2 ∧ w.cell? ⟨n, 3, none⟩ = some x3 ∧ w.cell? ⟨n, 4, none⟩ = some x4 ∧
    w.frozen? ⟨n, 0, none⟩ = false ∧ w.frozen? ⟨n, 1, none⟩ = false ∧ w.frozen? ⟨n, 2, none⟩ = false ∧ w.frozen? ⟨n, 3, none⟩ = false ∧ w.frozen? ⟨n, 4, none⟩ = false := by
  refine ⟨?_, ?_, ?_, ?_, ?_, ?_, ?_, ?_, ?_, ?_⟩ <;> simp [World.cell?, World.frozen?, h]
theorem bel_set5 {B : Nat} {a w : World} (h : Below B a w) {n : Nat} (hn : B ≤ n) (x0 x1 x2 x3 x4 : Value) : Below B a (((((w.setCell ⟨n, 0, none⟩ x0).setCell ⟨n, 1, none⟩ x1).setCell ⟨n, 2, none⟩ x2).setCell ⟨n, 3, none⟩ x3).setCell ⟨n, 4, none⟩ x4) :=
  ((((h.setCell (p := ⟨n, 0, none⟩) hn _).setCell (p := ⟨n, 1, none⟩) hn _).setCell (p := ⟨n, 2, none⟩) hn _).setCell (p := ⟨n, 3, none⟩) hn _).setCell (p := ⟨n, 4, none⟩) hn _
/-- The last of three new blocks, a call later. -/
theorem third_of {w w1 : World} {o p q : Obj} (hb : Below (((w.alloc o).alloc p).alloc q).heap.size (((w.alloc o).alloc p).alloc q) w1) : w1.heap[w.heap.size + 1 + 1]? = some q ∧ w1.heap[w.heap.size + 1]? = some p ∧ w1.heap[w.heap.size]? = some o := by
  refine ⟨(hb.block _ (by simp)).trans ?_, (hb.block _ (by simp)).trans ?_, (hb.block _ (by simp; omega)).trans ?_⟩
  · show (((w.heap.push o).push p).push q)[w.heap.size + 1 + 1]? = some q
    rw [Array.getElem?_push]; simp
  · show (((w.heap.push o).push p).push q)[w.heap.size + 1]? = some p
    rw [Array.getElem?_push, if_neg (by simp), Array.getElem?_push]; simp
  · show (((w.heap.push o).push p).push q)[w.heap.size]? = some o
    rw [Array.getElem?_push, if_neg (by simp; omega), Array.getElem?_push, if_neg (by simp), Array.getElem?_push, if_pos rfl]
set_option maxHeartbeats 4000000 in
theorem toCell_any (r b : ByteArray) (t v : Int) (g : Bool) (w : World) :
    Calls Tryd.prog 36 #[.agg #[.string r, .string b, .int .i64 t, .int .i64 v, .bool g]] w fun e w' => e = .returned (.agg #[.string r, .string b, .int .i64 t, .int .i64 v, .bool g]) ∧ Below w.heap.size w w' := by
  have HB := Lib.hid (bel3 w)
  go_enter Tryd.func36, Tryd.ntmps36
  go_wp2_with fail
  refine (toKey_any r b t _).mono ?_; rintro e w1 ⟨rfl, b1⟩
  obtain ⟨e2, e1, e0⟩ := third_of b1
  have B1 := Lib.hid (bel_tr (HB.out _ _ _) b1 (Nat.le_refl _)); clear b1 HB
  obtain ⟨y0, y1, y2, y3, y4, f0, f1, f2, f3, f4⟩ := five_of e2
  obtain ⟨x0, x1, x2, x3, x4, -⟩ := five_of e0
  obtain ⟨z0, z1, z2, z3, z4, h0, h1, h2, h3, h4⟩ := five_of e1
  clear e2 e0 e1
  generalize hN : w.heap.size + 1 + 1 = N at *
  generalize hM : w.heap.size + 1 = M at *
  have nn : N ≠ M := by omega
  have nn' : M ≠ N := by omega
  clear x0 x1 x2
  go_wp2_with fail
  refine bodyPost_ret (v := .agg #[.string r, .string b, .int .i64 t, .int .i64 v, .bool g]) (by simp [results, Tryd.results36, go_sem, z0, z1, z2, z3, z4]) rfl ⟨rfl, ?_⟩
  exact bel_set5 (bel_set5 B1.out (by omega) _ _ _ _ _) (by omega) _ _ _ _ _
set_option maxHeartbeats 1000000 in
theorem szCell_any (r b : ByteArray) (t v n : Int) (g : Bool) (w : World) (hr : r.size ≤ 9223372036854775807) (hb : b.size ≤ 9223372036854775807) (h0 : 0 ≤ n) (hn : n ≤ 1048576) :
    Calls Tryd.prog 35 #[.agg #[.string r, .string b, .int .i64 t, .int .i64 v, .bool g], .int .i64 n] w fun e w' => e = .returned (.int .i64 (szL r b n)) ∧ Below w.heap.size w w' := by
  have HB := Lib.hid (bel1 w)
  by_cases h1 : szL r b n < 0
  · have hk : szL r b n = -1 := by unfold szL at h1 ⊢; split; rfl; split; rfl; rename_i h2 h3; rw [if_neg h2, if_neg h3] at h1; omega
    have HK := Lib.hid hk; clear hk
    go_enter Tryd.func35, Tryd.ntmps35
    go_wp2_with fail
    refine (szKey_any r b t n _ hr hb h0 hn).mono ?_; rintro e w1 ⟨rfl, b1⟩
    have B1 := Lib.hid (bel_tr (HB.out _) b1 (Nat.le_refl _)); clear b1
    go_wp2_with fail
    go_ret
    exact ⟨by rw [HK.out]; rfl, B1.out⟩
  · go_enter Tryd.func35, Tryd.ntmps35
    go_wp2_with fail
    refine (szKey_any r b t n _ hr hb h0 hn).mono ?_; rintro e w1 ⟨rfl, b1⟩
    have B1 := Lib.hid (bel_tr (HB.out _) b1 (Nat.le_refl _)); clear b1
    go_wp2_with fail
    go_ret
    exact ⟨rfl, B1.out⟩
end Go.Proofs.YtdalncgbbkeimaaDoor.Cl
namespace Go.Proofs.YtdalncgbbkeimaaDoor.Cl
open Go.RowKit Wd Rp Kp
set_option linter.unusedVariables false
structure Cel where
  r : ByteArray
  b : ByteArray
  t : Int
  v : Int
  g : Bool
instance : Inhabited Cel := ⟨⟨⟨#[]⟩, ⟨#[]⟩, 0, 0, false⟩⟩
def Cel.vals (c : Cel) : List Value := [.string c.r, .string c.b, .int .i64 c.t, .int .i64 c.v, .bool c.g]
def Cel.ok (c : Cel) : Bool := cellB c.r c.b c.t c.v c.g
/-- Which key comes first. -/
def Cel.ls (c d : Cel) : Bool := lsB c.r c.b c.t d.r d.b d.t
/-- Its texts are not too long. -/
def Cel.mod (c : Cel) : Prop := c.r.size ≤ 9223372036854775806 ∧ c.b.size ≤ 9223372036854775806
def flat (l : List Cel) : List Value := l.flatMap Cel.vals
theorem vals_len (c : Cel) : c.vals.length = 5 := rfl
theorem flat_nil : flat [] = [] := rfl
theorem flat_cons (c : Cel) (l : List Cel) : flat (c :: l) = c.vals ++ flat l := rfl
theorem flat_app (l m : List Cel) : flat (l ++ m) = flat l ++ flat m := by unfold flat; rw [List.flatMap_append]
theorem flat_len : ∀ l : List Cel, (flat l).length = l.length * 5
  | [] => rfl
  | c :: l => by rw [flat_cons, List.length_append, vals_len, flat_len l, List.length_cons]; omega
theorem flat_get : ∀ (l : List Cel) (k j : Nat) (c : Cel), l[k]? = some c → j < 5 → (flat l)[k * 5 + j]? = c.vals[j]?
  | [], k, j, c, h, _ => by simp at h
  | d :: l, 0, j, c, h, hj => by
    obtain rfl : d = c := by simpa using h
    rw [flat_cons, List.getElem?_append_left (by rw [vals_len]; omega), Nat.zero_mul, Nat.zero_add]
  | d :: l, k + 1, j, c, h, hj => by
    rw [flat_cons, List.getElem?_append_right (by rw [vals_len]; omega), vals_len, show (k + 1) * 5 + j - 5 = k * 5 + j by omega]
    exact flat_get l k j c (by simpa using h) hj
theorem flat_one (l : List Cel) : ∀ u ∈ flat l, u.oneCell' = true := by
  intro u hu
  unfold flat at hu
  rw [List.mem_flatMap] at hu
  obtain ⟨c, _, hc⟩ := hu
  simp [Cel.vals] at hc
  rcases hc with rfl | rfl | rfl | rfl | rfl <;> rfl
/-- The cell c lies at this place. -/
def At5 (w : World) (g o : Nat) (c : Cel) : Prop := w.cell? ⟨g, o, none⟩ = some (.string c.r) ∧ w.cell? ⟨g, o + 1, none⟩ = some (.string c.b) ∧ w.cell? ⟨g, o + 2, none⟩ = some (.int .i64 c.t) ∧ w.cell? ⟨g, o + 3, none⟩ = some (.int .i64 c.v) ∧ w.cell? ⟨g, o + 4, none⟩ = some (.bool c.g)
/-- The slice reads as these cells. -/
def Vw (w : World) (a : Option Addr) (cap : Nat) (l : List Cel) : Prop :=
  l.length ≤ cap ∧ cap ≤ maxLen ∧ (a = none → cap = 0) ∧ ∀ k c, l[k]? = some c → ∃ g o, a = some ⟨g, o, none⟩ ∧ g < w.heap.size ∧ At5 w g (o + k * 5) c
theorem At5.same {w w' : World} {g o : Nat} {c : Cel} (h : At5 w g o c) (e : w'.heap[g]? = w.heap[g]?) : At5 w' g o c := by
  obtain ⟨h0, h1, h2, h3, h4⟩ := h
  exact ⟨(World.cell?_of_block (w := w) e).trans h0, (World.cell?_of_block (w := w) e).trans h1, (World.cell?_of_block (w := w) e).trans h2, (World.cell?_of_block (w := w) e).trans h3, (World.cell?_of_block (w := w) e).trans h4⟩
theorem Vw.below {w w' : World} {a : Option Addr} {cap : Nat} {l : List Cel} (h : Vw w a cap l) (hb : Below w.heap.size w w') : Vw w' a cap l := by
  obtain ⟨h1, h2, h3, h4⟩ := h
  refine ⟨h1, h2, h3, fun k c hk => ?_⟩
  obtain ⟨g, o, e, hg, hc⟩ := h4 k c hk
  exact ⟨g, o, e, Nat.lt_of_lt_of_le hg hb.size, hc.same (hb.block g hg)⟩
/-- Is the cell at i valid, and behind the one ahead of it? -/
def okAt (l : List Cel) : Nat → Bool
  | 0 => match l[0]? with | none => true | some c => c.ok
  | i + 1 => match l[i + 1]? with | none => true | some c => c.ok && (match l[i]? with | none => true | some q => q.ls c)
def okL (l : List Cel) : Bool := (List.range l.length).all (okAt l) && decide (l.length ≤ 200)
theorem okAt_zero {l : List Cel} {c : Cel} (h : l[0]? = some c) : okAt l 0 = c.ok := by simp [okAt, h]
theorem okAt_succ {l : List Cel} {i : Nat} {c q : Cel} (h : l[i + 1]? = some c) (hq : l[i]? = some q) : okAt l (i + 1) = (c.ok && q.ls c) := by simp [okAt, h, hq]
theorem okL_no {l : List Cel} {k : Nat} (hk : k < l.length) (h : okAt l k = false) : okL l = false := by
  unfold okL
  have : (List.range l.length).all (okAt l) = false := by
    rw [List.all_eq_false]; exact ⟨k, by simpa using hk, by simp [h]⟩
  rw [this, Bool.false_and]
theorem okL_end {l : List Cel} (h : ∀ j, j < l.length → okAt l j = true) : okL l = decide (l.length ≤ 200) := by
  unfold okL
  have : (List.range l.length).all (okAt l) = true := by rw [List.all_eq_true]; intro x hx; exact h x (by simpa using hx)
  rw [this, Bool.true_and]
theorem okL_iff {l : List Cel} : okL l = true ↔ (∀ j, j < l.length → okAt l j = true) ∧ l.length ≤ 200 := by
  unfold okL; rw [Bool.and_eq_true, List.all_eq_true]; simp
theorem okAt_ok {l : List Cel} {k : Nat} {c : Cel} (h : okAt l k = true) (hk : l[k]? = some c) : c.ok = true := by
  cases k with
  | zero => rw [okAt_zero hk] at h; exact h
  | succ i =>
    have hi : i < l.length := by have := (List.getElem?_eq_some_iff.1 hk).1; omega
    rw [okAt_succ hk (List.getElem?_eq_getElem hi), Bool.and_eq_true] at h; exact h.1
end Go.Proofs.YtdalncgbbkeimaaDoor.Cl
namespace Go.Proofs.YtdalncgbbkeimaaDoor.Cl
open Go.RowKit Wd Rp Kp
def Zc (q : Nat) (w : World) : Prop := (w.cell? ⟨q, 0, none⟩ = some (.string ⟨#[]⟩) ∧ w.cell? ⟨q, 1, none⟩ = some (.string ⟨#[]⟩) ∧ w.cell? ⟨q, 2, none⟩ = some (.int .i64 0) ∧ w.cell? ⟨q, 3, none⟩ = some (.int .i64 0) ∧ w.cell? ⟨q, 4, none⟩ = some (.bool false)) ∧
    (w.frozen? ⟨q, 0, none⟩ = false ∧ w.frozen? ⟨q, 1, none⟩ = false ∧ w.frozen? ⟨q, 2, none⟩ = false ∧ w.frozen? ⟨q, 3, none⟩ = false ∧ w.frozen? ⟨q, 4, none⟩ = false) ∧ q < w.heap.size
theorem Zc.made (w : World) (T : Nat) : Zc w.heap.size (w.alloc (.cells #[.string ⟨#[]⟩, .string ⟨#[]⟩, .int .i64 0, .int .i64 0, .bool false] T)) := by
  have hp : (w.alloc (.cells #[.string ⟨#[]⟩, .string ⟨#[]⟩, .int .i64 0, .int .i64 0, .bool false] T)).heap[w.heap.size]? = some (.cells #[.string ⟨#[]⟩, .string ⟨#[]⟩, .int .i64 0, .int .i64 0, .bool false] T (0, 0)) := by show (w.heap.push _)[w.heap.size]? = _; simp
  obtain ⟨h0, h1, h2, h3, h4, f0, f1, f2, f3, f4⟩ := five_of hp
  exact ⟨⟨h0, h1, h2, h3, h4⟩, ⟨f0, f1, f2, f3, f4⟩, by simp⟩
theorem Zc.next {q : Nat} {w w' : World} (h : Zc q w) (hb : Below w.heap.size w w') : Zc q w' := by
  obtain ⟨⟨h0, h1, h2, h3, h4⟩, ⟨f0, f1, f2, f3, f4⟩, hl⟩ := h
  have e : w'.heap[q]? = w.heap[q]? := hb.block q hl
  exact ⟨⟨(World.cell?_of_block (w := w) e).trans h0, (World.cell?_of_block (w := w) e).trans h1, (World.cell?_of_block (w := w) e).trans h2, (World.cell?_of_block (w := w) e).trans h3, (World.cell?_of_block (w := w) e).trans h4⟩,
    ⟨(World.frozen?_of_block (w := w) e).trans f0, (World.frozen?_of_block (w := w) e).trans f1, (World.frozen?_of_block (w := w) e).trans f2, (World.frozen?_of_block (w := w) e).trans f3, (World.frozen?_of_block (w := w) e).trans f4⟩, Nat.lt_of_lt_of_le hl hb.size⟩
end Go.Proofs.YtdalncgbbkeimaaDoor.Cl
