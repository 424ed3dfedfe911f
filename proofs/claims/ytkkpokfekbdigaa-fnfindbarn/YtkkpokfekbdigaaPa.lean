/-
  Piles of cells in memory: a row of piles ('RowP'), which piles can be merged ('PilesOk'), what may turn while they are ('Onl'); how the heap comes to the methods of impl.piles; the contracts of Len, Less and Swap. (Made by gen_pa.py.)
  The contract of (impl.piles).Swap.
  Contracts of container/heap's up and down over impl.piles: the piles in another order, a heap.
  The contract of container/heap.down over impl.piles: the first n piles in another order, a heap. (Made by gen_pd.py.)
-/
import Derived.Test.YtkkpokfekbdigaaMa
import Derived.Test.YtkkpokfekbdigaaCh
import Derived.Test.YtkkpokfekbdigaaCe
import Derived.Deep.QuietTactic
import Derived.BigQuiet
import Derived.RegionTactic
namespace Go.Proofs.Ytkkpokfekbdigaa.Cl
open Go.RowKit Wd Rp Kp
set_option linter.unusedVariables false
def Pile.vals (p : Pile) : List Value := [.int .i64 (p.k : Int), .slice p.a p.c.length p.cap]
def flatP (l : List Pile) : List Value := l.flatMap Pile.vals
theorem flatP_cons (p : Pile) (l : List Pile) : flatP (p :: l) = p.vals ++ flatP l := rfl
theorem flatP_app (l m : List Pile) : flatP (l ++ m) = flatP l ++ flatP m := by unfold flatP; rw [List.flatMap_append]
theorem valsP_len (p : Pile) : p.vals.length = 2 := rfl
theorem flatP_len : ∀ l : List Pile, (flatP l).length = l.length * 2
  | [] => rfl
  | p :: l => by rw [flatP_cons, List.length_append, valsP_len, flatP_len l, List.length_cons]; omega
theorem flatP_get : ∀ (l : List Pile) (k j : Nat) (p : Pile), l[k]? = some p → j < 2 → (flatP l)[k * 2 + j]? = p.vals[j]?
  | [], k, j, p, h, _ => by simp at h
  | d :: l, 0, j, p, h, hj => by
    obtain rfl : d = p := by simpa using h
    rw [flatP_cons, List.getElem?_append_left (by rw [valsP_len]; omega), Nat.zero_mul, Nat.zero_add]
  | d :: l, k + 1, j, p, h, hj => by
    rw [flatP_cons, List.getElem?_append_right (by rw [valsP_len]; omega), valsP_len, show (k + 1) * 2 + j - 2 = k * 2 + j by omega]
    exact flatP_get l k j p (by simpa using h) hj
theorem flatP_one (l : List Pile) : ∀ u ∈ flatP l, u.oneCell' = true := by
  intro u hu
  unfold flatP at hu
  rw [List.mem_flatMap] at hu
  obtain ⟨c, _, hc⟩ := hu
  simp [Pile.vals] at hc
  rcases hc with rfl | rfl <;> rfl
theorem flatP_set : ∀ (l : List Pile) (k : Nat) (p : Pile), k < l.length → ((flatP l).set (k * 2) (.int .i64 (p.k : Int))).set (k * 2 + 1) (.slice p.a p.c.length p.cap) = flatP (l.set k p)
  | [], k, c, h => by simp at h
  | d :: l, 0, c, h => by rfl
  | d :: l, k + 1, c, h => by
    have ih := flatP_set l k c (by simpa using h)
    rw [flatP_cons, List.set_cons_succ, flatP_cons, ← ih]
    rw [show (k + 1) * 2 + 1 = 2 + (k * 2 + 1) by omega, show (k + 1) * 2 = 2 + k * 2 by omega]
    rw [List.set_append_right _ _ (by rw [valsP_len]; omega), List.set_append_right _ _ (by rw [valsP_len]; omega), valsP_len, show 2 + k * 2 - 2 = k * 2 by omega, show 2 + (k * 2 + 1) - 2 = k * 2 + 1 by omega]
/-- Block g holds these piles, in a slice of the call's own. -/
def RowP (B : Nat) (w : World) (g cap : Nat) (l : List Pile) : Prop := w.ownsRow B 131 2 (.slice (some ⟨g, 0, none⟩) l.length cap) l.length (flatP l)
theorem RowP.base {B : Nat} {w : World} {g cap : Nat} {l : List Pile} (h : RowP B w g cap l) : B ≤ g ∧ g < w.heap.size ∧ l.length ≤ cap ∧ cap ≤ maxLen := by
  obtain ⟨h1, h2⟩ := h
  rcases h2 with ⟨e, _⟩ | ⟨g', cap', cur, e, hB, hg, hn, hc, _⟩
  · cases e
  · cases e
    exact ⟨hB, (Array.getElem?_eq_some_iff.1 hg).1, hn, hc⟩
theorem RowP.at {B : Nat} {w : World} {g cap : Nat} {l : List Pile} (h : RowP B w g cap l) {i : Nat} {p : Pile} (hi : l[i]? = some p) :
    w.cell? ⟨g, i * 2, none⟩ = some (.int .i64 (p.k : Int)) ∧ w.cell? ⟨g, i * 2 + 1, none⟩ = some (.slice p.a p.c.length p.cap) ∧ w.frozen? ⟨g, i * 2, none⟩ = false ∧ w.frozen? ⟨g, i * 2 + 1, none⟩ = false := by
  obtain ⟨h1, h2⟩ := h
  rcases h2 with ⟨e, _⟩ | ⟨g', cap', cur, e, hB, hg, hn, hc, hsz, hxs⟩
  · cases e
  · cases e
    have hil := (List.getElem?_eq_some_iff.1 hi).1
    have key : ∀ j, j < 2 → w.cell? ⟨g, i * 2 + j, none⟩ = p.vals[j]? := fun j hj => by
      have e1 := flatP_get l i j p hi hj
      rw [← hxs, List.getElem?_take_of_lt (by omega)] at e1
      rw [← e1]
      simp [World.cell?, hg]
    exact ⟨key 0 (by decide), key 1 (by decide), by simp [World.frozen?, hg], by simp [World.frozen?, hg]⟩
theorem RowP.next {B : Nat} {w w' : World} {g cap : Nat} {l : List Pile} (h : RowP B w g cap l) (hb : w'.heap[g]? = w.heap[g]?) : RowP B w' g cap l := row_next h fun k hk _ => by
  obtain rfl : g = k := by simpa [Value.ownBlock] using hk
  exact hb
theorem RowP.set {B : Nat} {w : World} {g cap : Nat} {l : List Pile} (h : RowP B w g cap l) {i : Nat} (hi : i < l.length) (p : Pile) :
    RowP B ((w.setCell ⟨g, i * 2, none⟩ (.int .i64 (p.k : Int))).setCell ⟨g, i * 2 + 1, none⟩ (.slice p.a p.c.length p.cap)) g cap (l.set i p) := by
  have h0 := (World.ownsRow.stored h (i * 2) (.int .i64 (p.k : Int))).1
  have h1 := (World.ownsRow.stored h0 (i * 2 + 1) (.slice p.a p.c.length p.cap)).1
  unfold RowP
  rw [List.length_set, ← flatP_set l i p hi]; exact h1
/-- Of what was there only the blocks b and g may have turned. -/
structure Onl (b g : Nat) (w w' : World) : Prop where
  os : w'.os = w.os
  tape : w'.tape = w.tape
  output : w'.output = w.output
  size : w.heap.size ≤ w'.heap.size
  block : ∀ k, k < w.heap.size → k ≠ b → k ≠ g → w'.heap[k]? = w.heap[k]?
theorem Onl.refl (b g : Nat) (w : World) : Onl b g w w := ⟨rfl, rfl, rfl, Nat.le_refl _, fun _ _ _ _ => rfl⟩
theorem Onl.trans {b g : Nat} {x y z : World} (h : Onl b g x y) (k : Onl b g y z) : Onl b g x z :=
  ⟨k.os.trans h.os, k.tape.trans h.tape, k.output.trans h.output, Nat.le_trans h.size k.size, fun i hi hb hg => (k.block i (Nat.lt_of_lt_of_le hi h.size) hb hg).trans (h.block i hi hb hg)⟩
theorem Onl.next {b g : Nat} {x y z : World} (h : Onl b g x y) (k : Below y.heap.size y z) : Onl b g x z :=
  ⟨k.os.trans h.os, k.tape.trans h.tape, k.output.trans h.output, Nat.le_trans h.size k.size, fun i hi hb hg => (k.block i (Nat.lt_of_lt_of_le hi h.size)).trans (h.block i hi hb hg)⟩
theorem Onl.drewN {b g : Nat} {x w : World} (h : Onl b g x w) (n : Nat) : Onl b g x (w.drewN n) := ⟨h.os, h.tape, h.output, h.size, h.block⟩
theorem Onl.drew {b g : Nat} {x w : World} (h : Onl b g x w) : Onl b g x w.drew := ⟨h.os, h.tape, h.output, h.size, h.block⟩
theorem setCell_size (w : World) (p : Addr) (u : Value) : (w.setCell p u).heap.size = w.heap.size := by simp
theorem Onl.setCell {b g : Nat} {x w : World} (h : Onl b g x w) {p : Addr} (hp : p.block = b ∨ p.block = g) (u : Value) : Onl b g x (w.setCell p u) :=
  ⟨h.os, h.tape, h.output, by rw [setCell_size]; exact h.size, fun i hi hb hg => (Below.heap_setCell w p u i (by rcases hp with e | e <;> rw [e] <;> assumption)).trans (h.block i hi hb hg)⟩
theorem Onl.below {b g B : Nat} {w w' : World} (h : Onl b g w w') (hb : B ≤ b) (hg : B ≤ g) (hs : B ≤ w.heap.size) : Below B w w' :=
  ⟨h.os, h.tape, h.output, h.size, fun k hk => h.block k (by omega) (by omega) (by omega)⟩
/-- The slice reads as these cells, and lies below B. -/
def Vb (B : Nat) (w : World) (a : Option Addr) (cap : Nat) (l : List Cel) : Prop := Vw w a cap l ∧ ∀ p, a = some p → p.block < B
theorem Vb.low {B : Nat} {w w' : World} {a : Option Addr} {cap : Nat} {l : List Cel} (h : Vb B w a cap l) (hs : w.heap.size ≤ w'.heap.size) (he : ∀ k, k < B → w'.heap[k]? = w.heap[k]?) : Vb B w' a cap l := by
  obtain ⟨⟨h1, h2, h3, h4⟩, h5⟩ := h
  refine ⟨⟨h1, h2, h3, fun k c hk => ?_⟩, h5⟩
  obtain ⟨g, o, e, hg, hc⟩ := h4 k c hk
  exact ⟨g, o, e, Nat.lt_of_lt_of_le hg hs, hc.same (he g (h5 _ e))⟩
/-- Piles that can be merged, their cells below B. -/
def PilesOk (B : Nat) (w : World) (l : List Pile) : Prop := ∀ p ∈ l, p.c ≠ [] ∧ (∀ c ∈ p.c, c.ok = true) ∧ p.c.length ≤ 4194304 ∧ p.k ≤ 4194304 ∧ Vb B w p.a p.cap p.c
theorem PilesOk.low {B : Nat} {w w' : World} {l : List Pile} (h : PilesOk B w l) (hs : w.heap.size ≤ w'.heap.size) (he : ∀ k, k < B → w'.heap[k]? = w.heap[k]?) : PilesOk B w' l := fun p hp => by
  obtain ⟨h1, h2, h3, h4, h5⟩ := h p hp
  exact ⟨h1, h2, h3, h4, h5.low hs he⟩
theorem PilesOk.perm {B : Nat} {w : World} {l m : List Pile} (h : PilesOk B w l) (e : List.Perm m l) : PilesOk B w m := fun p hp => h p (e.mem_iff.1 hp)
theorem PilesOk.bel {B : Nat} {w w' : World} {l : List Pile} (h : PilesOk B w l) (hb : Below B w w') : PilesOk B w' l := h.low hb.size hb.block
/-- Where the first cell of a pile lies. -/
theorem PilesOk.first {B : Nat} {w : World} {l : List Pile} (h : PilesOk B w l) {p : Pile} (hp : p ∈ l) : ∃ g o, p.a = some ⟨g, o, none⟩ ∧ g < B ∧ g < w.heap.size ∧ At5 w g o p.hd ∧ p.hd.ok = true ∧ 0 < p.c.length := by
  obtain ⟨h1, h2, -, -, h3, h5⟩ := h p hp
  cases hc : p.c with
  | nil => exact absurd hc h1
  | cons c r =>
    have e : p.hd = c := by unfold Pile.hd; rw [hc]; rfl
    obtain ⟨g, o, ha, hg, h6⟩ := h3.2.2.2 0 c (by rw [hc]; rfl)
    rw [Nat.zero_mul, Nat.add_zero] at h6
    refine ⟨g, o, ha, h5 _ ha, hg, by rw [e]; exact h6, by rw [e]; exact h2 c (by rw [hc]; exact List.mem_cons_self), by simp⟩
-- how the heap comes to the methods
theorem m_len (b : Nat) (v : Value) (w : World) (h : w.cell? ⟨b, 0, none⟩ = some v) : (method 271 129 (.pointer (some ⟨b, 0, none⟩)) "Len").run Try.prog w = .ok (109, v) w := by
  have e : ∀ w, (method 271 129 (.pointer (some ⟨b, 0, none⟩)) "Len").run Try.prog w = (do let x ← loadVar 127 ⟨b, 0, none⟩; pure (109, x)).run Try.prog w := fun _ => by kernel_rfl
  rw [e]; go_simp
theorem m_less (b : Nat) (v : Value) (w : World) (h : w.cell? ⟨b, 0, none⟩ = some v) : (method 271 129 (.pointer (some ⟨b, 0, none⟩)) "Less").run Try.prog w = .ok (147, v) w := by
  have e : ∀ w, (method 271 129 (.pointer (some ⟨b, 0, none⟩)) "Less").run Try.prog w = (do let x ← loadVar 127 ⟨b, 0, none⟩; pure (147, x)).run Try.prog w := fun _ => by kernel_rfl
  rw [e]; go_simp
theorem m_swap (b : Nat) (v : Value) (w : World) (h : w.cell? ⟨b, 0, none⟩ = some v) : (method 271 129 (.pointer (some ⟨b, 0, none⟩)) "Swap").run Try.prog w = .ok (148, v) w := by
  have e : ∀ w, (method 271 129 (.pointer (some ⟨b, 0, none⟩)) "Swap").run Try.prog w = (do let x ← loadVar 127 ⟨b, 0, none⟩; pure (148, x)).run Try.prog w := fun _ => by kernel_rfl
  rw [e]; go_simp
theorem m_push (b : Nat) (w : World) : (method 271 129 (.pointer (some ⟨b, 0, none⟩)) "Push").run Try.prog w = .ok (150, .pointer (some ⟨b, 0, none⟩)) w := by kernel_rfl
theorem m_pop (b : Nat) (w : World) : (method 271 129 (.pointer (some ⟨b, 0, none⟩)) "Pop").run Try.prog w = .ok (149, .pointer (some ⟨b, 0, none⟩)) w := by kernel_rfl
theorem e_len (args : Array Value) (w : World) : (callFunc 109 args).run Try.prog w = .ok (.enter 109 args) w := by kernel_rfl
theorem e_less (args : Array Value) (w : World) : (callFunc 147 args).run Try.prog w = .ok (.enter 147 args) w := by kernel_rfl
theorem e_swap (args : Array Value) (w : World) : (callFunc 148 args).run Try.prog w = .ok (.enter 148 args) w := by kernel_rfl
theorem e_push (args : Array Value) (w : World) : (callFunc 150 args).run Try.prog w = .ok (.enter 150 args) w := by kernel_rfl
theorem e_pop (args : Array Value) (w : World) : (callFunc 149 args).run Try.prog w = .ok (.enter 149 args) w := by kernel_rfl
theorem lenP_any (a : Option Addr) (n cap : Nat) (w : World) : Calls Try.prog 109 #[.slice a n cap] w fun e w' => e = .returned (.int .i64 (n : Int)) ∧ w = w' := by
  go_enter Try.func109, Try.ntmps109
  go_wp2
  go_ret
  exact ⟨rfl, rfl⟩
set_option maxHeartbeats 4000000 in
set_option maxRecDepth 100000 in
theorem lessP_any (w : World) (B g cap : Nat) (l : List Pile) (i j n : Nat) (p q : Pile) (hn : l.length = n) (hn2 : n ≤ 4194304) (hr : RowP B w g cap l) (ho : PilesOk B w l) (hi : l[i]? = some p) (hj : l[j]? = some q) :
    Calls Try.prog 147 #[.slice (some ⟨g, 0, none⟩) n cap, .int .i64 (i : Int), .int .i64 (j : Int)] w fun e w' => e = .returned (.bool (p.lt q)) ∧ Below w.heap.size w w' := by
  obtain ⟨-, hg, -, -⟩ := hr.base
  obtain ⟨x0, x1, -, -⟩ := hr.at hi
  obtain ⟨y0, y1, -, -⟩ := hr.at hj
  obtain ⟨g1, o1, e1, -, hg1, h1, ok1, len1⟩ := ho.first (List.mem_of_getElem? hi)
  obtain ⟨g2, o2, e2, -, hg2, h2, ok2, len2⟩ := ho.first (List.mem_of_getElem? hj)
  have hil := (List.getElem?_eq_some_iff.1 hi).1
  have hjl := (List.getElem?_eq_some_iff.1 hj).1
  have HLT := Lib.hid (show p.lt q = if p.hd.ke q.hd then decide (p.k < q.k) else p.hd.ls q.hd from rfl)
  have HLS := Lib.hid (le_ls ok1 ok2)
  rw [e1] at x1
  rw [e2] at y1
  clear e1 e2 hr ho hi hj ok1 ok2
  generalize p.hd = c at *
  generalize q.hd = d at *
  generalize hz : p.lt q = z at *
  generalize p.k = pk at *
  generalize q.k = qk at *
  generalize p.c.length = n1 at *
  generalize p.cap = cap1 at *
  generalize q.c.length = n2 at *
  generalize q.cap = cap2 at *
  rw [hn] at hil hjl
  clear hn hz
  obtain ⟨c0, c1, c2, -, -⟩ := h1
  obtain ⟨d0, d1, d2, -, -⟩ := h2
  have i1 : (i : Int) < (n : Int) := by omega
  have i2 : (0 : Int) ≤ (i : Int) := by omega
  have j1 : (j : Int) < (n : Int) := by omega
  have j2 : (0 : Int) ≤ (j : Int) := by omega
  have SOF := Lib.hid (show ∀ z, Below w.heap.size w z → (z.cell? ⟨g, i * 2 + 1, none⟩ = some (.slice (some ⟨g1, o1, none⟩) n1 cap1) ∧ z.cell? ⟨g, j * 2 + 1, none⟩ = some (.slice (some ⟨g2, o2, none⟩) n2 cap2) ∧ z.cell? ⟨g1, o1, none⟩ = some (.string c.r) ∧ z.cell? ⟨g1, o1 + 1, none⟩ = some (.string c.b) ∧ z.cell? ⟨g1, o1 + 2, none⟩ = some (.int .i64 c.t) ∧ z.cell? ⟨g2, o2, none⟩ = some (.string d.r) ∧ z.cell? ⟨g2, o2 + 1, none⟩ = some (.string d.b) ∧ z.cell? ⟨g2, o2 + 2, none⟩ = some (.int .i64 d.t) ∧ Below w.heap.size w z) from fun z hz => ⟨coc hz hg x1, coc hz hg y1, coc hz hg1 c0, coc hz hg1 c1, coc hz hg1 c2, coc hz hg2 d0, coc hz hg2 d1, coc hz hg2 d2,  hz⟩)
  have KX := Lib.hid (And.intro x0 y0)
  clear x0 y0 x1 y1 c0 c1 c2 d0 d1 d2
  go_enter Try.func147, Try.ntmps147
  go_wp2_with fail
  refine wp_region_held_drew (S := fun z => z.cell? ⟨g, i * 2 + 1, none⟩ = some (.slice (some ⟨g1, o1, none⟩) n1 cap1) ∧ z.cell? ⟨g, j * 2 + 1, none⟩ = some (.slice (some ⟨g2, o2, none⟩) n2 cap2) ∧ z.cell? ⟨g1, o1, none⟩ = some (.string c.r) ∧ z.cell? ⟨g1, o1 + 1, none⟩ = some (.string c.b) ∧ z.cell? ⟨g1, o1 + 2, none⟩ = some (.int .i64 c.t) ∧ z.cell? ⟨g2, o2, none⟩ = some (.string d.r) ∧ z.cell? ⟨g2, o2 + 1, none⟩ = some (.string d.b) ∧ z.cell? ⟨g2, o2 + 2, none⟩ = some (.int .i64 d.t) ∧ Below w.heap.size w z) (by kernel_rfl) (SOF.out _ (Below.refl _ _).drew) (fun hHeld => ?_)
  refine wpAnyH_take (i := 0) (v := ?v0a) rfl (by kernel_rfl) (by kernel_rfl) (by kernel_rfl) (fun _ _ _ h => h) (Or.inl ⟨by rfl, ?hy0a⟩) (by assumption) ?rest0a
  case hy0a => (intro zz hSw; (try dsimp only at hSw); go_simp; (try with_reducible rfl))
  change wpAnyH _ _ _ _ _ _ _ (Act.put _ (some 9) _) _
  simp only [Act.put, List.setIfInBounds_toArray, List.set_cons_zero, List.set_cons_succ]
  refine wpAnyH_take (i := 1) (v := ?v1a) rfl (by kernel_rfl) (by kernel_rfl) (by kernel_rfl) (fun _ _ _ h => h) (Or.inl ⟨by rfl, ?hy1a⟩) (by assumption) ?rest1a
  case hy1a => (intro zz hSw; (try dsimp only at hSw); go_simp; (try with_reducible rfl))
  change wpAnyH _ _ _ _ _ _ _ (Act.put _ (some 10) _) _
  simp only [Act.put, List.setIfInBounds_toArray, List.set_cons_zero, List.set_cons_succ]
  refine wpAnyH_take (i := 2) (v := ?v2a) rfl (by kernel_rfl) (by kernel_rfl) (by kernel_rfl) (fun _ _ _ h => h) (Or.inl ⟨by rfl, ?hy2a⟩) (by assumption) ?rest2a
  case hy2a => (intro zz hSw; (try dsimp only at hSw); go_simp; (try with_reducible rfl))
  change wpAnyH _ _ _ _ _ _ _ (Act.put _ (some 11) _) _
  simp only [Act.put, List.setIfInBounds_toArray, List.set_cons_zero, List.set_cons_succ]
  refine wpAnyH_take (i := 3) (v := ?v3a) rfl (by kernel_rfl) (by kernel_rfl) (by kernel_rfl) (fun _ _ _ h => h) (Or.inl ⟨by rfl, ?hy3a⟩) (by assumption) ?rest3a
  case hy3a => (intro zz hSw; (try dsimp only at hSw); go_simp; (try with_reducible rfl))
  change wpAnyH _ _ _ _ _ _ _ (Act.put _ (some 12) _) _
  simp only [Act.put, List.setIfInBounds_toArray, List.set_cons_zero, List.set_cons_succ]
  refine wpAnyH_take (i := 4) (v := ?v4a) rfl (by kernel_rfl) (by kernel_rfl) (by kernel_rfl) (fun _ _ _ h => h) (Or.inl ⟨by rfl, ?hy4a⟩) (by assumption) ?rest4a
  case hy4a => (intro zz hSw; (try dsimp only at hSw); go_simp; (try with_reducible rfl))
  change wpAnyH _ _ _ _ _ _ _ (Act.put _ (some 13) _) _
  simp only [Act.put, List.setIfInBounds_toArray, List.set_cons_zero, List.set_cons_succ]
  refine wpAnyH_take (i := 5) (v := ?v5a) rfl (by kernel_rfl) (by kernel_rfl) (by kernel_rfl) (fun _ _ _ h => h) (Or.inl ⟨by rfl, ?hy5a⟩) (by assumption) ?rest5a
  case hy5a => (intro zz hSw; (try dsimp only at hSw); go_simp; (try with_reducible rfl))
  change wpAnyH _ _ _ _ _ _ _ (Act.put _ (some 14) _) _
  simp only [Act.put, List.setIfInBounds_toArray, List.set_cons_zero, List.set_cons_succ]
  refine wpAnyH_take (i := 6) (v := ?v6a) rfl (by kernel_rfl) (by kernel_rfl) (by kernel_rfl) (fun _ _ _ h => h) (Or.inl ⟨by rfl, ?hy6a⟩) (by assumption) ?rest6a
  case hy6a => (intro zz hSw; (try dsimp only at hSw); go_simp; (try with_reducible rfl))
  change wpAnyH _ _ _ _ _ _ _ (Act.put _ (some 15) _) _
  simp only [Act.put, List.setIfInBounds_toArray, List.set_cons_zero, List.set_cons_succ]
  refine wpAnyH_take (i := 7) (v := ?v7a) rfl (by kernel_rfl) (by kernel_rfl) (by kernel_rfl) (fun _ _ _ h => h) (Or.inl ⟨by rfl, ?hy7a⟩) (by assumption) ?rest7a
  case hy7a => (intro zz hSw; (try dsimp only at hSw); go_simp; (try with_reducible rfl))
  change wpAnyH _ _ _ _ _ _ _ (Act.put _ (some 16) _) _
  simp only [Act.put, List.setIfInBounds_toArray, List.set_cons_zero, List.set_cons_succ]
  refine wpAnyH_take (i := 8) (v := ?v8a) rfl (by kernel_rfl) (by kernel_rfl) (by kernel_rfl) (fun _ _ _ h => h) (Or.inl ⟨by rfl, ?hy8a⟩) (by assumption) ?rest8a
  case hy8a => (intro zz hSw; (try dsimp only at hSw); go_simp; (try with_reducible rfl))
  change wpAnyH _ _ _ _ _ _ _ (Act.put _ (some 17) _) _
  simp only [Act.put, List.setIfInBounds_toArray, List.set_cons_zero, List.set_cons_succ]
  refine wpAnyH_take (i := 9) (v := ?v9a) rfl (by kernel_rfl) (by kernel_rfl) (by kernel_rfl) (fun _ _ _ h => h) (Or.inl ⟨by rfl, ?hy9a⟩) (by assumption) ?rest9a
  case hy9a => (intro zz hSw; (try dsimp only at hSw); go_simp; (try with_reducible rfl))
  change wpAnyH _ _ _ _ _ _ _ (Act.put _ (some 18) _) _
  simp only [Act.put, List.setIfInBounds_toArray, List.set_cons_zero, List.set_cons_succ]
  refine wpAnyH_take (i := 10) (v := ?v10a) rfl (by kernel_rfl) (by kernel_rfl) (by kernel_rfl) (fun _ _ _ h => h) (Or.inl ⟨by rfl, ?hy10a⟩) (by assumption) ?rest10a
  case hy10a => (intro zz hSw; (try dsimp only at hSw); go_simp; (try with_reducible rfl))
  change wpAnyH _ _ _ _ _ _ _ (Act.put _ (some 19) _) _
  simp only [Act.put, List.setIfInBounds_toArray, List.set_cons_zero, List.set_cons_succ]
  refine wpAnyH_take (i := 11) (v := ?v11a) rfl (by kernel_rfl) (by kernel_rfl) (by kernel_rfl) (fun _ _ _ h => h) (Or.inl ⟨by rfl, ?hy11a⟩) (by assumption) ?rest11a
  case hy11a => (intro zz hSw; (try dsimp only at hSw); go_simp; (try with_reducible rfl))
  change wpAnyH _ _ _ _ _ _ _ (Act.put _ (some 20) _) _
  simp only [Act.put, List.setIfInBounds_toArray, List.set_cons_zero, List.set_cons_succ]
  refine wpAnyH_take (i := 12) (v := ?v12a) rfl (by kernel_rfl) (by kernel_rfl) (by kernel_rfl) (fun _ _ _ h => h) (Or.inl ⟨by rfl, ?hy12a⟩) (by assumption) ?rest12a
  case hy12a => (intro zz hSw; (try dsimp only at hSw); go_simp; (try with_reducible rfl))
  change wpAnyH _ _ _ _ _ _ _ (Act.put _ (some 21) _) _
  simp only [Act.put, List.setIfInBounds_toArray, List.set_cons_zero, List.set_cons_succ]
  refine wpAnyH_take (i := 13) (v := ?v13a) rfl (by kernel_rfl) (by kernel_rfl) (by kernel_rfl) (fun _ _ _ h => h) (Or.inl ⟨by rfl, ?hy13a⟩) (by assumption) ?rest13a
  case hy13a => (intro zz hSw; (try dsimp only at hSw); go_simp; (try with_reducible rfl))
  change wpAnyH _ _ _ _ _ _ _ (Act.put _ (some 22) _) _
  simp only [Act.put, List.setIfInBounds_toArray, List.set_cons_zero, List.set_cons_succ]
  refine wpAnyH_take (i := 14) (v := ?v14a) rfl (by kernel_rfl) (by kernel_rfl) (by kernel_rfl) (fun _ _ _ h => h) (Or.inl ⟨by rfl, ?hy14a⟩) (by assumption) ?rest14a
  case hy14a => (intro zz hSw; (try dsimp only at hSw); go_simp; (try with_reducible rfl))
  change wpAnyH _ _ _ _ _ _ _ (Act.put _ (some 23) _) _
  simp only [Act.put, List.setIfInBounds_toArray, List.set_cons_zero, List.set_cons_succ]
  refine wpAnyH_take (i := 15) (v := ?v15a) rfl (by kernel_rfl) (by kernel_rfl) (by kernel_rfl) (fun _ _ _ h => h) (Or.inl ⟨by rfl, ?hy15a⟩) (by assumption) ?rest15a
  case hy15a => (intro zz hSw; (try dsimp only at hSw); go_simp; (try with_reducible rfl))
  change wpAnyH _ _ _ _ _ _ _ (Act.put _ (some 24) _) _
  simp only [Act.put, List.setIfInBounds_toArray, List.set_cons_zero, List.set_cons_succ]
  refine wpAnyH_ready (rs := [16, 17]) (by kernel_rfl) (by simp) (AllReadyH.cons rfl (fun K hK => ?_) (AllReadyH.cons rfl (fun K hK => ?_) (AllReadyH.nil)))
  · skip
    go_simp
    refine hK.out _ _ (SOF.out _ (hHeld.2.2.2.2.2.2.2.2.alloc hHeld.2.2.2.2.2.2.2.2.size _)) (fun hHeld => ?_)
    clear hK K
    refine wpAnyH_ready (rs := [17]) (by kernel_rfl) (by simp) (AllReadyH.cons rfl (fun K hK => ?_) (AllReadyH.nil))
    go_simp
    refine hK.out _ _ (SOF.out _ (hHeld.2.2.2.2.2.2.2.2.alloc hHeld.2.2.2.2.2.2.2.2.size _)) (fun hHeld => ?_)
    clear hK K
    refine wpAnyH_ready (rs := [18]) (by kernel_rfl) (by simp) (AllReadyH.cons rfl (fun K hK => ?_) (AllReadyH.nil))
    go_simp
    refine hK.out _ _ (SOF.out _ (((Below.refl _ _).alloc (Nat.le_refl _) _).alloc (by simp) _).drew) (fun hHeld => ?_)
    clear hK K
    refine wpAnyH_ready (rs := [19]) (by kernel_rfl) (by simp) (AllReadyH.cons rfl (fun K hK => ?_) (AllReadyH.nil))
    go_simp
    refine hK.out _ _ (SOF.out _ (((Below.refl _ _).alloc (Nat.le_refl _) _).alloc (by simp) _).drew) (fun hHeld => ?_)
    clear hK K
    refine wpAnyH_done (by kernel_rfl) ?_ _
    have BW := Lib.hid hHeld.2.2.2.2.2.2.2.2
    have X := Lib.hid (show Bx w.heap.size c.r c.b c.t (((w.alloc (.cells #[.string c.r, .string c.b, .int .i64 c.t] 26)).alloc (.cells #[.string d.r, .string d.b, .int .i64 d.t] 26)).drew) ∧ Bx (w.heap.size + 1) d.r d.b d.t (((w.alloc (.cells #[.string c.r, .string c.b, .int .i64 c.t] 26)).alloc (.cells #[.string d.r, .string d.b, .int .i64 d.t] 26)).drew) from Bx.two c.r c.b c.t d.r d.b d.t w _)
    clear hHeld
    generalize ((w.alloc (.cells #[.string c.r, .string c.b, .int .i64 c.t] 26)).alloc (.cells #[.string d.r, .string d.b, .int .i64 d.t] 26)).drew = W at BW X ⊢
    obtain ⟨⟨u0, u1, u2, -⟩, v0, v1, v2, -⟩ := id X.out
    generalize w.heap.size + 1 = M at v0 v1 v2 ⊢
    generalize w.heap.size = N at u0 u1 u2 ⊢
    clear X
    cases hke : c.ke d
    · have heq := keyEq_of hke
      have HZ := Lib.hid (show z = c.ls d by rw [HLT.out, hke]; rfl)
      clear hke
      go_wp2_with fail
      refine (keyLess_is HLS.out _).mono ?_; rintro e w1 ⟨rfl, b1⟩
      have B1 := Lib.hid (bel_tr BW.out b1 (Nat.le_refl _)); clear b1 heq
      go_wp2_with fail
      go_ret
      exact ⟨by rw [HZ.out]; rfl, B1.out⟩
    · have heq := keyEq_of hke
      have HZ := Lib.hid (show z = decide (pk < qk) by rw [HLT.out, hke]; rfl)
      clear hke
      have x0 := coc BW.out hg KX.out.1
      have y0 := coc BW.out hg KX.out.2
      go_wp2_with fail
      go_quiet (fail)
      go_wp2_with fail
      go_ret
      exact ⟨by rw [HZ.out]; simp, bel_drewN BW.out _⟩
  · skip
    go_simp
    refine hK.out _ _ (SOF.out _ (hHeld.2.2.2.2.2.2.2.2.alloc hHeld.2.2.2.2.2.2.2.2.size _)) (fun hHeld => ?_)
    clear hK K
    refine wpAnyH_ready (rs := [16]) (by kernel_rfl) (by simp) (AllReadyH.cons rfl (fun K hK => ?_) (AllReadyH.nil))
    go_simp
    refine hK.out _ _ (SOF.out _ (hHeld.2.2.2.2.2.2.2.2.alloc hHeld.2.2.2.2.2.2.2.2.size _)) (fun hHeld => ?_)
    clear hK K
    refine wpAnyH_ready (rs := [18]) (by kernel_rfl) (by simp) (AllReadyH.cons rfl (fun K hK => ?_) (AllReadyH.nil))
    go_simp
    refine hK.out _ _ (SOF.out _ (((Below.refl _ _).alloc (Nat.le_refl _) _).alloc (by simp) _).drew) (fun hHeld => ?_)
    clear hK K
    refine wpAnyH_ready (rs := [19]) (by kernel_rfl) (by simp) (AllReadyH.cons rfl (fun K hK => ?_) (AllReadyH.nil))
    go_simp
    refine hK.out _ _ (SOF.out _ (((Below.refl _ _).alloc (Nat.le_refl _) _).alloc (by simp) _).drew) (fun hHeld => ?_)
    clear hK K
    refine wpAnyH_done (by kernel_rfl) ?_ _
    have BW := Lib.hid hHeld.2.2.2.2.2.2.2.2
    have X := Lib.hid (show Bx w.heap.size d.r d.b d.t (((w.alloc (.cells #[.string d.r, .string d.b, .int .i64 d.t] 26)).alloc (.cells #[.string c.r, .string c.b, .int .i64 c.t] 26)).drew) ∧ Bx (w.heap.size + 1) c.r c.b c.t (((w.alloc (.cells #[.string d.r, .string d.b, .int .i64 d.t] 26)).alloc (.cells #[.string c.r, .string c.b, .int .i64 c.t] 26)).drew) from Bx.two d.r d.b d.t c.r c.b c.t w _)
    clear hHeld
    generalize ((w.alloc (.cells #[.string d.r, .string d.b, .int .i64 d.t] 26)).alloc (.cells #[.string c.r, .string c.b, .int .i64 c.t] 26)).drew = W at BW X ⊢
    obtain ⟨⟨u0, u1, u2, -⟩, v0, v1, v2, -⟩ := id X.out
    generalize w.heap.size + 1 = M at v0 v1 v2 ⊢
    generalize w.heap.size = N at u0 u1 u2 ⊢
    clear X
    cases hke : c.ke d
    · have heq := keyEq_of hke
      have HZ := Lib.hid (show z = c.ls d by rw [HLT.out, hke]; rfl)
      clear hke
      go_wp2_with fail
      refine (keyLess_is HLS.out _).mono ?_; rintro e w1 ⟨rfl, b1⟩
      have B1 := Lib.hid (bel_tr BW.out b1 (Nat.le_refl _)); clear b1 heq
      go_wp2_with fail
      go_ret
      exact ⟨by rw [HZ.out]; rfl, B1.out⟩
    · have heq := keyEq_of hke
      have HZ := Lib.hid (show z = decide (pk < qk) by rw [HLT.out, hke]; rfl)
      clear hke
      have x0 := coc BW.out hg KX.out.1
      have y0 := coc BW.out hg KX.out.2
      go_wp2_with fail
      go_quiet (fail)
      go_wp2_with fail
      go_ret
      exact ⟨by rw [HZ.out]; simp, bel_drewN BW.out _⟩
end Go.Proofs.Ytkkpokfekbdigaa.Cl
namespace Go.Proofs.Ytkkpokfekbdigaa.Cl
open Go.RowKit Wd Rp Kp
set_option linter.unusedVariables false
/-- What a swap leaves. -/
def SwapPost (B b g cap : Nat) (l : List Pile) (w : World) (e : Ending) (w' : World) : Prop := e = .returned (.tuple #[]) ∧ RowP B w' g cap l ∧ Onl b g w w'
set_option maxHeartbeats 4000000 in
set_option maxRecDepth 100000 in
theorem swapP_ne (w : World) (b B g cap : Nat) (l : List Pile) (i j n : Nat) (p q : Pile) (hn : l.length = n) (hn2 : n ≤ 4194304) (hr : RowP B w g cap l) (hi : l[i]? = some p) (hj : l[j]? = some q) (hij : i ≠ j) :
    Calls Try.prog 148 #[.slice (some ⟨g, 0, none⟩) n cap, .int .i64 (i : Int), .int .i64 (j : Int)] w (SwapPost B b g cap (Hp.swp l i j p q) w) := by
  obtain ⟨x0, x1, x2, x3⟩ := hr.at hi
  obtain ⟨y0, y1, y2, y3⟩ := hr.at hj
  have hil := (List.getElem?_eq_some_iff.1 hi).1
  have hjl := (List.getElem?_eq_some_iff.1 hj).1
  have HR := Lib.hid ((hr.set hil q).set (i := j) (by rw [List.length_set]; exact hjl) p)
  rw [hn] at hil hjl
  have i1 : (i : Int) < (n : Int) := by omega
  have i2 : (0 : Int) ≤ (i : Int) := by omega
  have j1 : (j : Int) < (n : Int) := by omega
  have j2 : (0 : Int) ≤ (j : Int) := by omega
  have n1 : i * 2 ≠ j * 2 := by omega
  have n2 : i * 2 ≠ j * 2 + 1 := by omega
  have n3 : i * 2 + 1 ≠ j * 2 := by omega
  have n4 : i * 2 + 1 ≠ j * 2 + 1 := by omega
  have n5 : j * 2 ≠ i * 2 := by omega
  have n6 : j * 2 + 1 ≠ i * 2 := by omega
  have n7 : j * 2 ≠ i * 2 + 1 := by omega
  have n8 : j * 2 + 1 ≠ i * 2 + 1 := by omega
  have HO := Lib.hid (fun u0 u1 u2 u3 : Value => ((((Onl.refl b g w).setCell (p := ⟨g, i * 2, none⟩) (Or.inr rfl) u0).setCell (p := ⟨g, i * 2 + 1, none⟩) (Or.inr rfl) u1).setCell (p := ⟨g, j * 2, none⟩) (Or.inr rfl) u2).setCell (p := ⟨g, j * 2 + 1, none⟩) (Or.inr rfl) u3)
  clear hr hi hj hn
  unfold Hp.swp
  go_enter Try.func148, Try.ntmps148
  go_wp2_with fail
  go_region
  all_goals (try go_wp2)
  all_goals go_end0
  all_goals exact ⟨rfl, HR.out, (HO.out _ _ _ _).drew⟩
set_option maxHeartbeats 4000000 in
set_option maxRecDepth 100000 in
theorem swapP_same (w : World) (b B g cap : Nat) (l : List Pile) (n : Nat) (p : Pile) (hn : l.length = n) (hn2 : n ≤ 4194304) (hr : RowP B w g cap l) (hi : l[0]? = some p) :
    Calls Try.prog 148 #[.slice (some ⟨g, 0, none⟩) n cap, .int .i64 0, .int .i64 0] w (SwapPost B b g cap l w) := by
  obtain ⟨x0, x1, x2, x3⟩ := hr.at hi
  rw [Nat.zero_mul] at x0 x1 x2 x3
  have hil := (List.getElem?_eq_some_iff.1 hi).1
  have hl : l.set 0 p = l := by
    apply List.ext_getElem?
    intro k
    by_cases e : k = 0
    · subst e; rw [List.getElem?_set_self hil, hi]
    · rw [List.getElem?_set_ne (Ne.symm e)]
  have HR := Lib.hid (show RowP B ((((w.setCell ⟨g, 0, none⟩ (.int .i64 (p.k : Int))).setCell ⟨g, 0 + 1, none⟩ (.slice p.a p.c.length p.cap)).setCell ⟨g, 0, none⟩ (.int .i64 (p.k : Int))).setCell ⟨g, 0 + 1, none⟩ (.slice p.a p.c.length p.cap)) g cap l by
    have h1 := hr.set hil p
    rw [hl, Nat.zero_mul] at h1
    have h2 := h1.set hil p
    rw [hl, Nat.zero_mul] at h2; exact h2)
  rw [hn] at hil
  have i1 : (0 : Int) < (n : Int) := by omega
  have HO := Lib.hid (fun u0 u1 u2 u3 : Value => ((((Onl.refl b g w).setCell (p := ⟨g, 0, none⟩) (Or.inr rfl) u0).setCell (p := ⟨g, 0 + 1, none⟩) (Or.inr rfl) u1).setCell (p := ⟨g, 0, none⟩) (Or.inr rfl) u2).setCell (p := ⟨g, 0 + 1, none⟩) (Or.inr rfl) u3)
  clear hr hi hn hl
  go_enter Try.func148, Try.ntmps148
  go_wp2_with fail
  go_region
  all_goals (try go_wp2)
  all_goals go_end0
  all_goals exact ⟨rfl, HR.out, (HO.out _ _ _ _).drew⟩
end Go.Proofs.Ytkkpokfekbdigaa.Cl
namespace Go.Proofs.Ytkkpokfekbdigaa.Cl
open Go.RowKit Wd Rp Kp
set_option linter.unusedVariables false
/-- Block b holds the slice of piles, which lies behind it. -/
def Hs (B b : Nat) (w : World) (g cap : Nat) (l : List Pile) : Prop := w.cell? ⟨b, 0, none⟩ = some (.slice (some ⟨g, 0, none⟩) l.length cap) ∧ w.frozen? ⟨b, 0, none⟩ = false ∧ RowP (b + 1) w g cap l ∧ PilesOk B w l ∧ B ≤ b ∧ b < w.heap.size
theorem Hs.ne {B b : Nat} {w : World} {g cap : Nat} {l : List Pile} (h : Hs B b w g cap l) : b ≠ g ∧ B ≤ g ∧ g < w.heap.size := by
  obtain ⟨-, -, h3, -, h5, h6⟩ := h
  have := h3.base
  exact ⟨by omega, by omega, this.2.1⟩
theorem Hs.next {B b : Nat} {w w' : World} {g cap : Nat} {l : List Pile} (h : Hs B b w g cap l) (hb : Below w.heap.size w w') : Hs B b w' g cap l := by
  have hg := h.ne.2.2
  obtain ⟨h1, h2, h3, h4, h5, h6⟩ := h
  exact ⟨(hb.cell (p := ⟨b, 0, none⟩) h6).trans h1, (hb.frozen (p := ⟨b, 0, none⟩) h6).trans h2, h3.next (hb.block g hg), h4.low hb.size (fun k hk => hb.block k (by omega)), h5, Nat.lt_of_lt_of_le h6 hb.size⟩
/-- Another order of the same piles in block g. -/
theorem Hs.turn {B b : Nat} {w w' : World} {g cap : Nat} {l m : List Pile} (h : Hs B b w g cap l) (hr : RowP (b + 1) w' g cap m) (ho : Onl g g w w') (hp : List.Perm m l) : Hs B b w' g cap m := by
  have hg := h.ne
  obtain ⟨h1, h2, h3, h4, h5, h6⟩ := h
  have e : w'.heap[b]? = w.heap[b]? := ho.block b h6 hg.1 hg.1
  exact ⟨by rw [hp.length_eq]; exact (World.cell?_of_block (w := w) e).trans h1, (World.frozen?_of_block (w := w) e).trans h2, hr,
    (h4.perm hp).low ho.size (fun k hk => ho.block k (by omega) (by omega) (by omega)), h5, Nat.lt_of_lt_of_le h6 ho.size⟩
theorem Onl.wid {b g : Nat} {w w' : World} (h : Onl g g w w') : Onl b g w w' := ⟨h.os, h.tape, h.output, h.size, fun k hk _ hg => h.block k hk hg hg⟩
theorem PilesOk.widen {B C : Nat} {w : World} {l : List Pile} (h : PilesOk B w l) (hC : B ≤ C) : PilesOk (C + 1) w l := fun p hp => by
  obtain ⟨h1, h2, h3, h4, h5, h6⟩ := h p hp
  exact ⟨h1, h2, h3, h4, h5, fun q hq => by have := h6 q hq; omega⟩
/-- What up leaves. -/
def UpPost (B b g cap : Nat) (l : List Pile) (w : World) (e : Ending) (w' : World) : Prop := ∃ m, e = .returned (.tuple #[]) ∧ List.Perm m l ∧ Hp.Heap Pile.lt m m.length ∧ Hs B b w' g cap m ∧ Onl g g w w'
set_option maxHeartbeats 4000000 in
set_option maxRecDepth 100000 in
theorem up_any (w : World) (B b g cap : Nat) (l : List Pile) (j : Nat) (hj : j < l.length) (hl : l.length ≤ 4194304) (h : Hs B b w g cap l) (hr : Hp.Rise Pile.lt l l.length j) :
    Calls Try.prog 122 #[.iface 129 (.pointer (some ⟨b, 0, none⟩)), .int .i64 (j : Int)] w (UpPost B b g cap l w) := by
  have H := Lib.hid h; clear h
  have HR := Lib.hid hr; clear hr
  go_enter Try.func122, Try.ntmps122
  go_wp2_with fail
  go_loopw [1, 4] (fun x _ wr => ∃ (k : Nat) (m : List Pile), x = .int .i64 (k : Int) ∧ k < m.length ∧ List.Perm m l ∧ Hp.Rise Pile.lt m m.length k ∧ Hs B b wr g cap m ∧ Onl g g w wr) (fun x _ _ => intV x)
  case atStart => exact ⟨j, l, rfl, hj, List.Perm.refl _, HR.out, H.out, Onl.refl _ _ _⟩
  case round =>
    clear H HR
    obtain ⟨k, m, rfl, hk, hp, hr, hs, ho⟩ := hrel
    have HP := Lib.hid hp; clear hp
    have HR := Lib.hid hr; clear hr
    have HS := Lib.hid hs; clear hs
    have HO := Lib.hid ho; clear ho
    have hml : m.length ≤ 4194304 := by rw [HP.out.length_eq]; exact hl
    by_cases h0 : k = 0
    · subst h0
      have q1 : (0 : Int) ≤ 0 := by omega
      go_wp2_with fail
      go_end0
      exact ⟨m, rfl, HP.out, HR.out.top, HS.out, HO.out⟩
    · have hi : (k - 1) / 2 < m.length := by omega
      obtain ⟨p, hpp⟩ : ∃ p, m[(k - 1) / 2]? = some p := ⟨m[(k - 1) / 2], List.getElem?_eq_getElem hi⟩
      obtain ⟨q, hq⟩ : ∃ q, m[k]? = some q := ⟨m[k], List.getElem?_eq_getElem hk⟩
      have hle := lessP_any wr (b + 1) g cap m k ((k - 1) / 2) m.length q p rfl hml HS.out.2.2.1 (HS.out.2.2.2.1.widen HS.out.2.2.2.2.1) hq hpp
      have hsw := fun w1 (hb : Below wr.heap.size wr w1) => swapP_ne w1 g (b + 1) g cap m ((k - 1) / 2) k m.length p q rfl hml (HS.out.next hb).2.2.1 hpp hq (by omega)
      have hci : (((k - 1) / 2 : Nat) : Int) = ((k : Int) - 1) / 2 := by omega
      rw [hci] at hle hsw
      have HI := Lib.hid hci; clear hci
      have hkk : (((k : Int) - 1) / 2 == (k : Int)) = false := by rw [beq_eq_false_iff_ne]; omega
      have q1 : (1 : Int) ≤ (k : Int) := by omega
      have q2 : (k : Int) ≤ 4194304 := by omega
      have ml := m_less b _ wr HS.out.1
      have el := e_less
      cases hlt : q.lt p
      · rw [hlt] at hle
        have HL := Lib.hid hle; clear hle
        have HT := Lib.hid (HR.out.stop hq hpp hlt)
        clear hlt hsw hq hpp
        go_wp2_with fail
        refine HL.out.mono ?_; rintro e w1 ⟨rfl, b1⟩
        have S1 := Lib.hid (HS.out.next b1)
        have O1 := Lib.hid (HO.out.next b1); clear b1
        go_wp2_with fail
        go_end0
        exact ⟨m, rfl, HP.out, HT.out, S1.out, O1.out⟩
      · rw [hlt] at hle
        have HL := Lib.hid hle; clear hle
        have HW := Lib.hid hsw; clear hsw
        have HT := Lib.hid (HR.out.up lt_ord (Nat.le_refl _) (by omega) hk rfl hpp hq hlt)
        have HQ := Lib.hid ((Hp.swp_perm m _ _ p q hpp hq).trans HP.out)
        have HM := Lib.hid (Hp.swp_perm m _ _ p q hpp hq)
        clear hlt hq hpp
        go_wp2_with fail
        refine HL.out.mono ?_; rintro e w1 ⟨rfl, b1⟩
        have S1 := HS.out.next b1
        have O1 := Lib.hid (HO.out.next b1)
        have ms := m_swap b _ w1 S1.1
        have es := e_swap
        have HW1 := Lib.hid (HW.out w1 b1)
        have HS1 := Lib.hid S1
        clear b1 ml el S1
        go_wp2_with fail
        refine HW1.out.mono ?_; rintro e w2 ⟨rfl, r2, o2⟩
        have S2 := Lib.hid (HS1.out.turn r2 o2 HM.out)
        have O2 := Lib.hid (O1.out.trans o2)
        clear r2 o2 ms es
        have HN := Lib.hid (Hp.swp_len m ((k - 1) / 2) k p q)
        generalize Hp.swp m ((k - 1) / 2) k p q = m' at *
        go_wp2_with fail
        go_roundw
        case rel => exact ⟨(k - 1) / 2, m', by rw [HI.out], by rw [HN.out]; exact hi, HQ.out, by rw [HN.out]; exact HT.out, S2.out, O2.out⟩
        case measure => simp [intV]; omega
end Go.Proofs.Ytkkpokfekbdigaa.Cl
namespace Go.Proofs.Ytkkpokfekbdigaa.Cl
open Go.RowKit Wd Rp Kp
set_option linter.unusedVariables false
/-- What down leaves. -/
def DownPost (B b g cap n : Nat) (l : List Pile) (w : World) (e : Ending) (w' : World) : Prop := ∃ (x : Bool) (m : List Pile), e = .returned (.bool x) ∧ List.Perm m l ∧ Hp.Heap Pile.lt m n ∧ (∀ t, n ≤ t → m[t]? = l[t]?) ∧ Hs B b w' g cap m ∧ Onl g g w w'
set_option maxHeartbeats 8000000 in
set_option maxRecDepth 100000 in
theorem down_any (w : World) (B b g cap : Nat) (l : List Pile) (n : Nat) (hn : n ≤ l.length) (hl : l.length ≤ 4194304) (h : Hs B b w g cap l) (hs : Hp.Sink Pile.lt l n 0) :
    Calls Try.prog 128 #[.iface 129 (.pointer (some ⟨b, 0, none⟩)), .int .i64 0, .int .i64 (n : Int)] w (DownPost B b g cap n l w) := by
  have H := Lib.hid h; clear h
  have HR := Lib.hid hs; clear hs
  go_enter Try.func128, Try.ntmps128
  go_wp2_with fail
  go_loopw [7, 8, 9, 10] (fun x _ _ _ wr => ∃ (k : Nat) (m : List Pile), x = .int .i64 (k : Int) ∧ (k < n ∨ k = 0) ∧ List.Perm m l ∧ Hp.Sink Pile.lt m n k ∧ (∀ t, n ≤ t → m[t]? = l[t]?) ∧ Hs B b wr g cap m ∧ Onl g g w wr) (fun x _ _ _ _ => n - intV x)
  case atStart => exact ⟨0, l, rfl, Or.inr rfl, List.Perm.refl _, HR.out, fun _ _ => rfl, H.out, Onl.refl _ _ _⟩
  case round =>
    clear H HR
    obtain ⟨k, m, rfl, hk, hp, hr, hx, hs, ho⟩ := hrel
    have HP := Lib.hid hp; clear hp
    have HR := Lib.hid hr; clear hr
    have HX := Lib.hid hx; clear hx
    have HS := Lib.hid hs; clear hs
    have HO := Lib.hid ho; clear ho
    have HML := Lib.hid HP.out.length_eq
    have hml : m.length ≤ 4194304 := by rw [HML.out]; exact hl
    have hmn : n ≤ m.length := by rw [HML.out]; exact hn
    have q0 : (0 : Int) ≤ (k : Int) := by omega
    have q2 : (k : Int) ≤ 4194304 := by omega
    have q3 : (n : Int) ≤ 4194304 := by omega
    by_cases hj : 2 * k + 1 < n
    · have hkm : k < m.length := by omega
      have g1 : ¬ (n : Int) ≤ 2 * (k : Int) + 1 := by omega
      have g2 : ¬ 2 * (k : Int) + 1 < 0 := by omega
      obtain ⟨p, hp⟩ : ∃ p, m[k]? = some p := ⟨m[k], List.getElem?_eq_getElem hkm⟩
      obtain ⟨q, hq⟩ : ∃ q, m[2 * k + 1]? = some q := ⟨m[2 * k + 1], List.getElem?_eq_getElem (by omega)⟩
      have HLE := Lib.hid (fun w1 (hb : Below wr.heap.size wr w1) (x y : Nat) (u v : Pile) (hu : m[x]? = some u) (hv : m[y]? = some v) => lessP_any w1 (b + 1) g cap m x y m.length u v rfl hml (HS.out.next hb).2.2.1 ((HS.out.next hb).2.2.2.1.widen HS.out.2.2.2.2.1) hu hv)
      have HSW := Lib.hid (fun w1 (hb : Below wr.heap.size wr w1) (y : Nat) (v : Pile) (hv : m[y]? = some v) (hy : k ≠ y) => swapP_ne w1 g (b + 1) g cap m k y m.length p v rfl hml (HS.out.next hb).2.2.1 hp hv hy)
      by_cases hj2 : 2 * k + 2 < n
      · have g3 : 2 * (k : Int) + 1 + 1 < (n : Int) := by omega
        obtain ⟨r, hr⟩ : ∃ r, m[2 * k + 2]? = some r := ⟨m[2 * k + 2], List.getElem?_eq_getElem (by omega)⟩
        have hle := HLE.out wr (Below.refl _ _) _ _ _ _ hr hq
        have hc1 : ((2 * k + 1 : Nat) : Int) = 2 * (k : Int) + 1 := by omega
        have hc2 : ((2 * k + 2 : Nat) : Int) = 2 * (k : Int) + 1 + 1 := by omega
        rw [hc1, hc2] at hle
        have ml := m_less b _ wr HS.out.1
        have el := e_less
        cases hlt : r.lt q
        · rw [hlt] at hle
          have HL := Lib.hid hle; clear hle
          have HLT := Lib.hid (Hp.least_left lt_irr hj2 hr hq hlt)
          clear hlt
          go_wp2_with fail
          refine HL.out.mono ?_; rintro e w1 ⟨rfl, b1⟩
          have HBW := Lib.hid b1
          have S1 := HS.out.next b1
          clear ml b1 HL
          have hle := HLE.out w1 HBW.out _ _ _ _ hq hp
          rw [hc1] at hle
          cases hlt : q.lt p
          · rw [hlt] at hle
            have HL2 := Lib.hid hle; clear hle
            have HT := Lib.hid (HR.out.stop lt_ord HLT.out hp hq hlt)
            clear hlt
            have ml := m_less b _ w1 (HS.out.next HBW.out).1
            have el := e_less
            go_wp2_with fail
            refine HL2.out.mono ?_; rintro e w2 ⟨rfl, b2⟩
            have S2 := Lib.hid ((HS.out.next HBW.out).next b2)
            have O2 := Lib.hid ((HO.out.next HBW.out).next b2); clear b2 ml
            go_wp2_with fail
            all_goals go_ret
            all_goals exact ⟨_, m, rfl, HP.out, HT.out, HX.out, S2.out, O2.out⟩
          · rw [hlt] at hle
            have HL2 := Lib.hid hle; clear hle
            have HT := Lib.hid (HR.out.down lt_ord hmn HLT.out hp hq hlt)
            have HM := Lib.hid (Hp.swp_perm m _ _ p q hp hq)
            have HF := Lib.hid (fun t (ht : n ≤ t) => (Hp.swp_far (l := m) (i := k) (j := 2 * k + 1) (m := t) (p := p) (q := q) hkm (by omega) (by omega) (by omega)).trans (HX.out t ht))
            clear hlt
            have ml := m_less b _ w1 (HS.out.next HBW.out).1
            have el := e_less
            go_wp2_with fail
            refine HL2.out.mono ?_; rintro e w2 ⟨rfl, b2⟩
            have B2 := Lib.hid (bel_tr HBW.out b2 (Nat.le_refl _))
            have S2 := Lib.hid ((HS.out.next HBW.out).next b2)
            have O2 := Lib.hid ((HO.out.next HBW.out).next b2); clear b2 ml el
            have hsw := HSW.out w2 B2.out _ _ hq (by omega)
            rw [hc1] at hsw
            have HW2 := Lib.hid hsw; clear hsw
            have ms := m_swap b _ w2 S2.out.1
            have es := e_swap
            go_wp2_with fail
            refine HW2.out.mono ?_; rintro e w3 ⟨rfl, r3, o3⟩
            have S3 := Lib.hid (S2.out.turn r3 o3 HM.out)
            have O3 := Lib.hid (O2.out.trans o3)
            have PM := Lib.hid (HM.out.trans HP.out)
            clear r3 o3 ms es
            generalize Hp.swp m k (2 * k + 1) p q = m' at *
            go_wp2_with fail
            go_roundw
            case rel => exact ⟨2 * k + 1, m', by go_num, Or.inl (by omega), PM.out, HT.out, HF.out, S3.out, O3.out⟩
            case measure => simp [intV]; omega
        · rw [hlt] at hle
          have HL := Lib.hid hle; clear hle
          have HLT := Lib.hid (Hp.least_right lt_ord lt_irr hj2 hr hq hlt)
          clear hlt
          go_wp2_with fail
          refine HL.out.mono ?_; rintro e w1 ⟨rfl, b1⟩
          have HBW := Lib.hid b1
          have S1 := HS.out.next b1
          clear ml b1 HL
          have hle := HLE.out w1 HBW.out _ _ _ _ hr hp
          rw [hc2] at hle
          cases hlt : r.lt p
          · rw [hlt] at hle
            have HL2 := Lib.hid hle; clear hle
            have HT := Lib.hid (HR.out.stop lt_ord HLT.out hp hr hlt)
            clear hlt
            have ml := m_less b _ w1 (HS.out.next HBW.out).1
            have el := e_less
            go_wp2_with fail
            refine HL2.out.mono ?_; rintro e w2 ⟨rfl, b2⟩
            have S2 := Lib.hid ((HS.out.next HBW.out).next b2)
            have O2 := Lib.hid ((HO.out.next HBW.out).next b2); clear b2 ml
            go_wp2_with fail
            all_goals go_ret
            all_goals exact ⟨_, m, rfl, HP.out, HT.out, HX.out, S2.out, O2.out⟩
          · rw [hlt] at hle
            have HL2 := Lib.hid hle; clear hle
            have HT := Lib.hid (HR.out.down lt_ord hmn HLT.out hp hr hlt)
            have HM := Lib.hid (Hp.swp_perm m _ _ p r hp hr)
            have HF := Lib.hid (fun t (ht : n ≤ t) => (Hp.swp_far (l := m) (i := k) (j := 2 * k + 2) (m := t) (p := p) (q := r) hkm (by omega) (by omega) (by omega)).trans (HX.out t ht))
            clear hlt
            have ml := m_less b _ w1 (HS.out.next HBW.out).1
            have el := e_less
            go_wp2_with fail
            refine HL2.out.mono ?_; rintro e w2 ⟨rfl, b2⟩
            have B2 := Lib.hid (bel_tr HBW.out b2 (Nat.le_refl _))
            have S2 := Lib.hid ((HS.out.next HBW.out).next b2)
            have O2 := Lib.hid ((HO.out.next HBW.out).next b2); clear b2 ml el
            have hsw := HSW.out w2 B2.out _ _ hr (by omega)
            rw [hc2] at hsw
            have HW2 := Lib.hid hsw; clear hsw
            have ms := m_swap b _ w2 S2.out.1
            have es := e_swap
            go_wp2_with fail
            refine HW2.out.mono ?_; rintro e w3 ⟨rfl, r3, o3⟩
            have S3 := Lib.hid (S2.out.turn r3 o3 HM.out)
            have O3 := Lib.hid (O2.out.trans o3)
            have PM := Lib.hid (HM.out.trans HP.out)
            clear r3 o3 ms es
            generalize Hp.swp m k (2 * k + 2) p r = m' at *
            go_wp2_with fail
            go_roundw
            case rel => exact ⟨2 * k + 2, m', by go_num, Or.inl (by omega), PM.out, HT.out, HF.out, S3.out, O3.out⟩
            case measure => simp [intV]; omega
      · have g3 : ¬ 2 * (k : Int) + 1 + 1 < (n : Int) := by omega
        have hc1 : ((2 * k + 1 : Nat) : Int) = 2 * (k : Int) + 1 := by omega
        have HLT := Lib.hid (Hp.least_only (l := m) lt_irr hj hj2)
        have HBW := Lib.hid (Below.refl wr.heap.size wr)
        have hle := HLE.out wr HBW.out _ _ _ _ hq hp
        rw [hc1] at hle
        cases hlt : q.lt p
        · rw [hlt] at hle
          have HL2 := Lib.hid hle; clear hle
          have HT := Lib.hid (HR.out.stop lt_ord HLT.out hp hq hlt)
          clear hlt
          have ml := m_less b _ wr (HS.out.next HBW.out).1
          have el := e_less
          go_wp2_with fail
          refine HL2.out.mono ?_; rintro e w2 ⟨rfl, b2⟩
          have S2 := Lib.hid ((HS.out.next HBW.out).next b2)
          have O2 := Lib.hid ((HO.out.next HBW.out).next b2); clear b2 ml
          go_wp2_with fail
          all_goals go_ret
          all_goals exact ⟨_, m, rfl, HP.out, HT.out, HX.out, S2.out, O2.out⟩
        · rw [hlt] at hle
          have HL2 := Lib.hid hle; clear hle
          have HT := Lib.hid (HR.out.down lt_ord hmn HLT.out hp hq hlt)
          have HM := Lib.hid (Hp.swp_perm m _ _ p q hp hq)
          have HF := Lib.hid (fun t (ht : n ≤ t) => (Hp.swp_far (l := m) (i := k) (j := 2 * k + 1) (m := t) (p := p) (q := q) hkm (by omega) (by omega) (by omega)).trans (HX.out t ht))
          clear hlt
          have ml := m_less b _ wr (HS.out.next HBW.out).1
          have el := e_less
          go_wp2_with fail
          refine HL2.out.mono ?_; rintro e w2 ⟨rfl, b2⟩
          have B2 := Lib.hid (bel_tr HBW.out b2 (Nat.le_refl _))
          have S2 := Lib.hid ((HS.out.next HBW.out).next b2)
          have O2 := Lib.hid ((HO.out.next HBW.out).next b2); clear b2 ml el
          have hsw := HSW.out w2 B2.out _ _ hq (by omega)
          rw [hc1] at hsw
          have HW2 := Lib.hid hsw; clear hsw
          have ms := m_swap b _ w2 S2.out.1
          have es := e_swap
          go_wp2_with fail
          refine HW2.out.mono ?_; rintro e w3 ⟨rfl, r3, o3⟩
          have S3 := Lib.hid (S2.out.turn r3 o3 HM.out)
          have O3 := Lib.hid (O2.out.trans o3)
          have PM := Lib.hid (HM.out.trans HP.out)
          clear r3 o3 ms es
          generalize Hp.swp m k (2 * k + 1) p q = m' at *
          go_wp2_with fail
          go_roundw
          case rel => exact ⟨2 * k + 1, m', by go_num, Or.inl (by omega), PM.out, HT.out, HF.out, S3.out, O3.out⟩
          case measure => simp [intV]; omega
    · have g1 : (n : Int) ≤ 2 * (k : Int) + 1 := by omega
      have HT := Lib.hid (HR.out.leaf (by omega))
      go_wp2_with fail
      all_goals go_ret
      all_goals exact ⟨_, m, rfl, HP.out, HT.out, HX.out, HS.out, HO.out⟩
end Go.Proofs.Ytkkpokfekbdigaa.Cl
