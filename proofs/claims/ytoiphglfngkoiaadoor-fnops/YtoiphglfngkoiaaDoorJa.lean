/-
  Bins at the laws' helpers: contracts of laws.szBinS, toBinS, eqBinS, markBinS, heldBinS. (Made by gen_ja.py.)
-/
import Derived.Test.YtoiphglfngkoiaaDoorIw
namespace Go.Proofs.YtoiphglfngkoiaaDoor.Cl
open Go.RowKit Wd Rp Kp
set_option linter.unusedVariables false
theorem set_right2 {a b : List Value} {n : Nat} (h : a.length = 2) (x : Value) (j : Nat) : (a ++ b).set (2 + n + j) x = a ++ b.set (n + j) x := by
  rw [List.set_append_right _ _ (by omega), h, show 2 + n + j - 2 = n + j by omega]
theorem flatI_set : ∀ (l : List Bi) (k : Nat) (c : Bi), k < l.length → ((flatI l).set (k * 2) (.string c.n)).set (k * 2 + 1) (.int .i64 c.v) = flatI (l.set k c)
  | [], k, c, h => by simp at h
  | d :: l, 0, c, h => by rfl
  | d :: l, k + 1, c, h => by
    have ih := flatI_set l k c (by simpa using h)
    have e0 : (k + 1) * 2 = 2 + k * 2 + 0 := by omega
    rw [flatI_cons, List.set_cons_succ, flatI_cons, ← ih]
    rw [show (k + 1) * 2 + 1 = 2 + k * 2 + 1 by omega, e0]
    rw [set_right2 (valsI_len d), set_right2 (valsI_len d)]; rfl
theorem setI_same {l : List Value} {i : Nat} {v : Value} (h : l[i]? = some v) : l.set i v = l := by
  apply List.ext_getElem?
  intro j
  by_cases e : i = j
  · subst e; rw [List.getElem?_set_self (List.getElem?_eq_some_iff.1 h).1, h]
  · rw [List.getElem?_set_ne e]
def zi : Bi := ⟨⟨#[]⟩, 0⟩
theorem made_flatI : ∀ n, (madeCells (Value.agg #[.string ⟨#[]⟩, .int .i64 0]).cells (n * 2)).toList = flatI (List.replicate n zi) := by
  intro n
  rw [madeCells, Array.toList_map, Array.toList_range]
  induction n with
  | zero => rfl
  | succ n ih =>
    rw [List.replicate_succ', flatI_app, ← ih, show (n + 1) * 2 = n * 2 + 1 + 1 by omega, List.range_succ, List.range_succ]
    simp only [List.map_append, List.map_cons, List.map_nil, List.append_assoc]
    congr 1
    have hs : (Value.agg #[.string ⟨#[]⟩, .int .i64 0]).cells.size = 2 := rfl
    simp only [hs, show n * 2 % 2 = 0 by omega, show (n * 2 + 1) % 2 = 1 by omega]
    rfl
theorem VwI.drop {w : World} {a : Option Addr} {cap : Nat} {l : List Bi} (h : VwI w a cap l) {k : Nat} (hk : k ≤ l.length) : VwI w (if cap = k then a else a.map (·.add (k * 2))) (cap - k) (l.drop k) := by
  obtain ⟨h1, h2, h3, h4⟩ := h
  refine ⟨by rw [List.length_drop]; omega, by omega, fun e => ?_, fun i c hi => ?_⟩
  · split at e
    · have := h3 e; omega
    · have := h3 (by simpa using e); omega
  · rw [List.getElem?_drop] at hi
    have hil := (List.getElem?_eq_some_iff.1 hi).1
    obtain ⟨g, o, rfl, hg, h5⟩ := h4 (k + i) c hi
    rw [if_neg (by omega)]
    refine ⟨g, o + k * 2, ?_, hg, ?_⟩
    · simp [Addr.add]
    · rwa [show o + (k + i) * 2 = o + k * 2 + i * 2 by omega] at h5
theorem VwI.take {w : World} {a : Option Addr} {cap : Nat} {l : List Bi} (h : VwI w a cap l) {k m : Nat} (hk : k ≤ l.length) (hm : k ≤ m) (hc : m ≤ cap) (ha : a = none → m = 0) : VwI w a m (l.take k) := by
  obtain ⟨h1, h2, h3, h4⟩ := h
  refine ⟨by rw [List.length_take]; omega, by omega, ha, fun i c hi => ?_⟩
  rw [List.getElem?_take] at hi
  split at hi
  · exact h4 i c hi
  · cases hi
theorem asc_lt {l : List Bi} (h : Asc l) {i j : Nat} {c d : Bi} (hij : i < j) (hi : l[i]? = some c) (hj : l[j]? = some d) : Op.bytesLess c.n.toList d.n.toList = true := by
  obtain ⟨hj1, rfl⟩ := List.getElem?_eq_some_iff.1 hj
  obtain ⟨hi1, rfl⟩ := List.getElem?_eq_some_iff.1 hi
  exact List.pairwise_iff_getElem.1 h i j hi1 hj1 hij
/-- Names rise, one after the other. -/
def risI : List Bi → Bool
  | [] => true
  | [_] => true
  | c :: d :: r => Op.bytesLess c.n.toList d.n.toList && risI (d :: r)
theorem risI_iff : ∀ l : List Bi, risI l = true ↔ ∀ k c d, l[k]? = some c → l[k + 1]? = some d → Op.bytesLess c.n.toList d.n.toList = true
  | [] => by simp [risI]
  | [x] => by
    simp only [risI, true_iff]
    intro k c d h1 h2
    have := (List.getElem?_eq_some_iff.1 h2).1
    simp at this
  | c :: d :: r => by
    rw [risI, Bool.and_eq_true, risI_iff (d :: r)]
    constructor
    · rintro ⟨h1, h2⟩ k x y hx hy
      cases k with
      | zero =>
        simp at hx hy
        subst hx hy; exact h1
      | succ k => exact h2 k x y (by simpa using hx) (by simpa using hy)
    · intro h
      exact ⟨h 0 c d rfl rfl, fun k x y hx hy => h (k + 1) x y (by simpa using hx) (by simpa using hy)⟩
theorem asc_of_ris : ∀ {l : List Bi}, risI l = true → Asc l
  | [], _ => List.Pairwise.nil
  | [x], _ => List.pairwise_singleton _ _
  | c :: d :: r, h => by
    rw [risI, Bool.and_eq_true] at h
    have ih : Asc (d :: r) := asc_of_ris h.2
    refine List.pairwise_cons.2 ⟨fun x hx => ?_, ih⟩
    rcases List.mem_cons.1 hx with e | e
    · subst e; exact h.1
    · exact bl_tr h.1 ((List.pairwise_cons.1 ih).1 x e)
theorem ris_of_asc : ∀ {l : List Bi}, Asc l → risI l = true
  | [], _ => rfl
  | [x], _ => rfl
  | c :: d :: r, h => by
    obtain ⟨h1, h2⟩ := List.pairwise_cons.1 h
    rw [risI, Bool.and_eq_true]
    exact ⟨h1 d (by simp), ris_of_asc h2⟩
def Bi.ok (c : Bi) : Bool := nmB c.n.data.toList && isW c.v
/-- Valid bins. -/
def okI (l : List Bi) : Bool := decide (l.length ≤ 12) && (risI l && l.all Bi.ok)
theorem okI_iff {l : List Bi} : okI l = true ↔ l.length ≤ 12 ∧ Asc l ∧ ∀ c ∈ l, c.ok = true := by
  unfold okI
  rw [Bool.and_eq_true, Bool.and_eq_true, List.all_eq_true, decide_eq_true_eq]
  exact ⟨fun ⟨h1, h2, h3⟩ => ⟨h1, asc_of_ris h2, h3⟩, fun ⟨h1, h2, h3⟩ => ⟨h1, ris_of_asc h2, h3⟩⟩
theorem okI_long {l : List Bi} (h : 12 < l.length) : okI l = false := by unfold okI; rw [decide_eq_false (by omega)]; rfl
theorem okI_ris {l : List Bi} (h : risI l = false) : okI l = false := by unfold okI; rw [h, Bool.false_and, Bool.and_false]
theorem okI_bad {l : List Bi} {k : Nat} {c : Bi} (hk : l[k]? = some c) (h : c.ok = false) : okI l = false := by
  cases e : okI l with
  | false => rfl
  | true => have := (okI_iff.1 e).2.2 c (List.mem_of_getElem? hk); rw [h] at this; cases this
/-- Where a name is, or would be. -/
def cntI (n : ByteArray) : List Bi → Nat
  | [] => 0
  | c :: r => if Op.bytesLess c.n.toList n.toList = true then cntI n r + 1 else 0
theorem cntI_le (n : ByteArray) : ∀ l : List Bi, cntI n l ≤ l.length
  | [] => Nat.le_refl _
  | c :: r => by
    have := cntI_le n r
    rw [cntI, List.length_cons]; split <;> omega
theorem cntI_lt {n : ByteArray} : ∀ {l : List Bi} {k : Nat} {c : Bi}, k < cntI n l → l[k]? = some c → Op.bytesLess c.n.toList n.toList = true
  | [], k, c, h, _ => by simp [cntI] at h
  | d :: r, k, c, h, hk => by
    rw [cntI] at h
    split at h
    · cases k with
      | zero => simp at hk; subst hk; assumption
      | succ k => exact cntI_lt (l := r) (k := k) (c := c) (by omega) (by simpa using hk)
    · omega
theorem cntI_at {n : ByteArray} : ∀ {l : List Bi} {c : Bi}, l[cntI n l]? = some c → Op.bytesLess c.n.toList n.toList = false
  | [], c, h => by simp at h
  | d :: r, c, h => by
    rw [cntI] at h
    split at h
    · exact cntI_at (l := r) (c := c) (by simpa using h)
    · rename_i hd
      simp at h; subst h
      exact Bool.eq_false_iff.2 hd
theorem cntI_eq {n : ByteArray} {l : List Bi} {k : Nat} (hk : k ≤ l.length) (h1 : ∀ (j : Nat) (c : Bi), j < k → l[j]? = some c → Op.bytesLess c.n.toList n.toList = true) (h2 : ∀ c : Bi, l[k]? = some c → Op.bytesLess c.n.toList n.toList = false) : cntI n l = k := by
  have hle := cntI_le n l
  rcases Nat.lt_trichotomy (cntI n l) k with h | h | h
  · have hc := List.getElem?_eq_getElem (l := l) (i := cntI n l) (by omega)
    have := h1 _ _ h hc
    rw [cntI_at hc] at this; cases this
  · exact h
  · have hc := List.getElem?_eq_getElem (l := l) (i := k) (by omega)
    have := h2 _ hc
    rw [cntI_lt h hc] at this; cases this
theorem cntI_ge {n : ByteArray} {l : List Bi} (ha : Asc l) {k : Nat} {c : Bi} (h : cntI n l ≤ k) (hk : l[k]? = some c) : Op.bytesLess c.n.toList n.toList = false := by
  rcases Nat.eq_or_lt_of_le h with e | e
  · subst e; exact cntI_at hk
  · have hkl := (List.getElem?_eq_some_iff.1 hk).1
    have hd := List.getElem?_eq_getElem (l := l) (i := cntI n l) (by omega)
    cases hb : Op.bytesLess c.n.toList n.toList with
    | false => rfl
    | true => have := bl_tr (asc_lt ha e hd hk) hb; rw [cntI_at hd] at this; cases this
/-- Is the name there? -/
def isAt (n : ByteArray) (l : List Bi) : Bool := match l[cntI n l]? with | some c => c.n.toList == n.toList | none => false
theorem isAt_some {n : ByteArray} {l : List Bi} {c : Bi} (h : l[cntI n l]? = some c) : isAt n l = (c.n.toList == n.toList) := by unfold isAt; rw [h]
theorem isAt_none {n : ByteArray} {l : List Bi} (h : l.length ≤ cntI n l) : isAt n l = false := by unfold isAt; rw [List.getElem?_eq_none h]
theorem isAt_lt {n : ByteArray} {l : List Bi} (h : isAt n l = true) : cntI n l < l.length := by
  by_cases hl : cntI n l < l.length
  · exact hl
  · rw [isAt_none (by omega)] at h; cases h
/-- Behind the place of a name. -/
def behI (n : ByteArray) (l : List Bi) : List Bi := l.drop (if isAt n l then cntI n l + 1 else cntI n l)
def stI (l : List Bi) (n : ByteArray) (v : Int) : List Bi := l.take (cntI n l) ++ ([⟨n, v⟩] ++ behI n l)
def ctI (l : List Bi) (n : ByteArray) : List Bi := l.take (cntI n l) ++ behI n l
theorem behI_len (n : ByteArray) (l : List Bi) : (behI n l).length = l.length - cntI n l - (if isAt n l then 1 else 0) := by
  unfold behI; rw [List.length_drop]; split <;> omega
theorem takeI_len (n : ByteArray) (l : List Bi) : (l.take (cntI n l)).length = cntI n l := by rw [List.length_take]; have := cntI_le n l; omega
theorem stI_len (l : List Bi) (n : ByteArray) (v : Int) : (stI l n v).length = if isAt n l then l.length else l.length + 1 := by
  have h1 := cntI_le n l
  unfold stI
  rw [List.length_append, List.length_append, takeI_len, behI_len]
  split
  · rename_i h; have := isAt_lt h; simp; omega
  · simp; omega
theorem ctI_len (l : List Bi) (n : ByteArray) : (ctI l n).length = if isAt n l then l.length - 1 else l.length := by
  have h1 := cntI_le n l
  unfold ctI
  rw [List.length_append, takeI_len, behI_len]
  split
  · rename_i h; have := isAt_lt h; omega
  · omega
theorem stI_at {l : List Bi} {n : ByteArray} {c : Bi} (h : l[cntI n l]? = some c) (e : isAt n l = true) (v : Int) : stI l n v = l.set (cntI n l) ⟨c.n, v⟩ := by
  have hl := isAt_lt e
  have hc : c.n = n := ba_ext (by rw [isAt_some h] at e; simpa using e)
  unfold stI behI
  rw [if_pos e, hc, List.set_eq_take_append_cons_drop, if_pos hl]; rfl
/-- What SetBin gives. -/
def sbP (l : List Bi) (n : ByteArray) (v : Int) : List Bi × Bool := if okI l then (if (nmB n.data.toList && isW v) && decide ((stI l n v).length ≤ 12) then (stI l n v, true) else (l, false)) else ([], false)
def cbP (l : List Bi) (n : ByteArray) : List Bi := if okI l then ctI l n else []
/-- What ValueIn gives. -/
def valL (n : ByteArray) : List Bi → Int × Bool
  | [] => (0, false)
  | c :: r => if c.n.toList == n.toList then (c.v, true) else valL n r
theorem valL_at {n : ByteArray} : ∀ {l : List Bi} {k : Nat} {c : Bi}, l[k]? = some c → (∀ (j : Nat) (d : Bi), j < k → l[j]? = some d → (d.n.toList == n.toList) = false) → (c.n.toList == n.toList) = true → valL n l = (c.v, true)
  | [], k, c, h, _, _ => by simp at h
  | d :: r, 0, c, h, _, e => by
    simp at h; subst h
    rw [valL, if_pos e]
  | d :: r, k + 1, c, h, hn, e => by
    rw [valL, if_neg (by rw [hn 0 d (by omega) rfl]; decide)]
    exact valL_at (l := r) (by simpa using h) (fun j x hj hx => hn (j + 1) x (by omega) (by simpa using hx)) e
theorem valL_none {n : ByteArray} : ∀ {l : List Bi}, (∀ (j : Nat) (d : Bi), l[j]? = some d → (d.n.toList == n.toList) = false) → valL n l = (0, false)
  | [], _ => rfl
  | d :: r, h => by
    rw [valL, if_neg (by rw [h 0 d rfl]; decide)]
    exact valL_none (l := r) fun j x hx => h (j + 1) x (by simpa using hx)
theorem sbP_no {l : List Bi} {n : ByteArray} {v : Int} (h : okI l = false) : sbP l n v = ([], false) := by unfold sbP; rw [h]; rfl
theorem sbP_bad {l : List Bi} {n : ByteArray} {v : Int} (h : okI l = true) (h2 : (nmB n.data.toList && isW v) = false) : sbP l n v = (l, false) := by unfold sbP; rw [h, h2]; rfl
theorem sbP_long {l : List Bi} {n : ByteArray} {v : Int} (h : okI l = true) (h2 : ¬ (stI l n v).length ≤ 12) : sbP l n v = (l, false) := by
  unfold sbP; rw [h, if_pos rfl, decide_eq_false h2, Bool.and_false]; rfl
theorem sbP_yes {l : List Bi} {n : ByteArray} {v : Int} (h : okI l = true) (h2 : (nmB n.data.toList && isW v) = true) (h3 : (stI l n v).length ≤ 12) : sbP l n v = (stI l n v, true) := by
  unfold sbP; rw [h, h2, if_pos rfl, decide_eq_true h3]; rfl
theorem cbP_no {l : List Bi} {n : ByteArray} (h : okI l = false) : cbP l n = [] := by unfold cbP; rw [h]; rfl
theorem cbP_yes {l : List Bi} {n : ByteArray} (h : okI l = true) : cbP l n = ctI l n := by unfold cbP; rw [h]; rfl
theorem two_cells {w : World} {n : Nat} {x0 x1 : Value} {T : Nat} (h : w.heap[n]? = some (.cells #[x0, x1] T (0, 0))) :
    w.cell? ⟨n, 0, none⟩ = some x0 ∧ w.cell? ⟨n, 1, none⟩ = some x1 ∧ w.frozen? ⟨n, 0, none⟩ = false ∧ w.frozen? ⟨n, 1, none⟩ = false := by
  refine ⟨?_, ?_, ?_, ?_⟩ <;> simp [World.cell?, World.frozen?, h]
theorem new_of (w : World) (o : Obj) : (w.alloc o).heap[w.heap.size]? = some o := by show (w.heap.push _)[w.heap.size]? = _; simp
/-- Block n holds a bin. -/
def Bn2 (n : Nat) (s : ByteArray) (v : Int) (w : World) : Prop := w.cell? ⟨n, 0, none⟩ = some (.string s) ∧ w.cell? ⟨n, 1, none⟩ = some (.int .i64 v) ∧ n < w.heap.size
theorem Bn2.made (s : ByteArray) (v : Int) (w : World) (T : Nat) : Bn2 w.heap.size s v (w.alloc (.cells #[.string s, .int .i64 v] T)) := by
  have hp : (w.alloc (.cells #[.string s, .int .i64 v] T)).heap[w.heap.size]? = some (.cells #[.string s, .int .i64 v] T) := by show (w.heap.push _)[w.heap.size]? = _; simp
  refine ⟨?_, ?_, by simp⟩ <;> (simp only [World.cell?, hp]; rfl)
theorem Bn2.next {n : Nat} {s : ByteArray} {v : Int} {w w' : World} (h : Bn2 n s v w) (hb : Below w.heap.size w w') : Bn2 n s v w' := by
  obtain ⟨h0, h1, h2⟩ := h
  have e : w'.heap[n]? = w.heap[n]? := hb.block n h2
  exact ⟨(World.cell?_of_block (w := w) e).trans h0, (World.cell?_of_block (w := w) e).trans h1, Nat.lt_of_lt_of_le h2 hb.size⟩
end Go.Proofs.YtoiphglfngkoiaaDoor.Cl
