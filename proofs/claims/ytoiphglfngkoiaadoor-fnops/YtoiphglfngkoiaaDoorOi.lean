/-
  Instructions at the laws: contracts of laws.szOp, toOp, eqOp.
-/
import Derived.Test.YtoiphglfngkoiaaDoorOh
namespace Go.Proofs.YtoiphglfngkoiaaDoor.Cl
open Go.RowKit Wd Rp Kp
set_option linter.unusedVariables false
/-- An instruction in a block of its own. -/
structure Q3 (q : Nat) (k n : Int) (m : Tk) (w : World) : Prop where
  c0 : w.cell? ⟨q, 0, none⟩ = some (.int .i64 k)
  c1 : w.cell? ⟨q, 1, none⟩ = some (.int .i64 n)
  c2 : w.cell? ⟨q, 2, none⟩ = some (.string (tx m))
  f0 : w.frozen? ⟨q, 0, none⟩ = false
  f1 : w.frozen? ⟨q, 1, none⟩ = false
  f2 : w.frozen? ⟨q, 2, none⟩ = false
  lt : q < w.heap.size
theorem Q3.of {q T : Nat} {k n : Int} {m : Tk} {w : World} (e : w.heap[q]? = some (.cells #[.int .i64 k, .int .i64 n, .string (tx m)] T (0, 0))) : Q3 q k n m w :=
  ⟨by simp only [World.cell?, e]; rfl, by simp only [World.cell?, e]; rfl, by simp only [World.cell?, e]; rfl, by simp only [World.frozen?, e]; rfl, by simp only [World.frozen?, e]; rfl, by simp only [World.frozen?, e]; rfl, (Array.getElem?_eq_some_iff.1 e).1⟩
theorem Q3.made (k n : Int) (m : Tk) (w : World) (T : Nat) : Q3 w.heap.size k n m (w.alloc (.cells #[.int .i64 k, .int .i64 n, .string (tx m)] T)) := Q3.of (T := T) (show (w.heap.push _)[w.heap.size]? = _ by simp)
theorem Q3.same {q : Nat} {k n : Int} {m : Tk} {w w' : World} (h : Q3 q k n m w) (e : w'.heap[q]? = w.heap[q]?) (hl : w.heap.size ≤ w'.heap.size) : Q3 q k n m w' :=
  ⟨(World.cell?_of_block (w := w) e).trans h.c0, (World.cell?_of_block (w := w) e).trans h.c1, (World.cell?_of_block (w := w) e).trans h.c2, (World.frozen?_of_block (w := w) e).trans h.f0, (World.frozen?_of_block (w := w) e).trans h.f1, (World.frozen?_of_block (w := w) e).trans h.f2, Nat.lt_of_lt_of_le h.lt hl⟩
theorem Q3.next {q : Nat} {k n : Int} {m : Tk} {w w' : World} (h : Q3 q k n m w) (hb : Below w.heap.size w w') : Q3 q k n m w' := h.same (hb.block q h.lt) hb.size
set_option maxHeartbeats 1000000 in
theorem toOp_any (k n : Int) (m : Tk) (w : World) :
    Calls Tryd.prog 16 #[.agg #[.int .i64 k, .int .i64 n, .string (tx m)]] w fun e w' => e = .returned (.agg #[.int .i64 k, .int .i64 n, .string (tx m)]) ∧ Below w.heap.size w w' := by
  go_enter Tryd.func16, Tryd.ntmps16
  go_wp2_with fail
  refine bodyPost_ret (v := .agg #[.int .i64 k, .int .i64 n, .string (tx m)]) (by simp [results, Tryd.results16, go_sem]) rfl ⟨rfl, ?_⟩
  exact bel3 w _ _ _
/-- What szOp leaves. -/
def szO (m : Tk) (n : Int) : Int := if n - m.length < 0 then -1 else n - m.length
set_option maxHeartbeats 1000000 in
theorem szOp_any (k x n : Int) (m : Tk) (w : World) (hm : m.length ≤ 9223372036854775807) (h0 : 0 ≤ n) (hn : n ≤ 1048576) :
    Calls Tryd.prog 15 #[.agg #[.int .i64 k, .int .i64 x, .string (tx m)], .int .i64 n] w fun e w' => e = .returned (.int .i64 (szO m n)) ∧ Below w.heap.size w w' := by
  have HB := Lib.hid (bel1 w)
  have hsz := tx_size m
  by_cases h1 : n - m.length < 0
  · have HK := Lib.hid (show szO m n = -1 by simp [szO, h1])
    go_enter Tryd.func15, Tryd.ntmps15
    go_wp2
    go_ret
    exact ⟨by rw [HK.out]; rfl, HB.out _⟩
  · have HK := Lib.hid (show szO m n = n - m.length by simp [szO, h1])
    go_enter Tryd.func15, Tryd.ntmps15
    go_wp2
    go_ret
    exact ⟨by rw [HK.out]; rfl, HB.out _⟩
set_option maxHeartbeats 1000000 in
theorem eqOp_self (o : Ov) (w : World) : Calls Tryd.prog 17 #[.agg #[.int .i64 o.k, .int .i64 o.n, .string (tx o.m)], .agg #[.int .i64 o.k, .int .i64 o.n, .string (tx o.m)]] w fun e w' => e = .returned (.bool true) ∧ Below w.heap.size w w' := by
  have HB := Lib.hid (bel2 w)
  have h1 : (o.k != o.k) = false := by simp
  have h2 : (o.n != o.n) = false := by simp
  go_enter Tryd.func17, Tryd.ntmps17
  go_wp2_with fail
  go_ret
  exact ⟨rfl, HB.out _ _⟩
end Go.Proofs.YtoiphglfngkoiaaDoor.Cl
