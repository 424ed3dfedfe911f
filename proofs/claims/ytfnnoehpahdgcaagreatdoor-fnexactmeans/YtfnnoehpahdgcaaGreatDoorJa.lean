/-
  Bins at the laws' helpers: contracts of laws.szBinS, toBinS, eqBinS, markBinS, heldBinS. (Made by gen_ja.py.)
-/
import Derived.Test.YtfnnoehpahdgcaaGreatDoorIw
namespace Go.Proofs.YtfnnoehpahdgcaaGreatDoor.Cl
open Go.RowKit Wd Rp Kp
set_option linter.unusedVariables false
theorem OwI.vw {B : Nat} {w : World} {a : Option Addr} {n cap : Nat} {l : List Bi} (h : OwI B w (.slice a n cap) l) : VwI w a cap l := by
  obtain ⟨a', cap', e, hv⟩ := h.view
  cases e
  exact hv
theorem OwI.low {B : Nat} {w : World} {v : Value} {l : List Bi} (h : OwI B w v l) : ∀ k, v.ownBlock = some k → k < w.heap.size := fun k hk => (World.ownsRow.lt h k hk).2
theorem OwI.len {B : Nat} {w : World} {a : Option Addr} {n cap : Nat} {l : List Bi} (h : OwI B w (.slice a n cap) l) : l.length = n := by
  obtain ⟨a', cap', e, hv⟩ := h.view
  cases e
  rfl
/-- The block, the place and the value of a slice of a call's own. -/
theorem OwI.own {B : Nat} {w : World} {v : Value} {l : List Bi} (h : OwI B w v l) : ∃ a cap, v = .slice a l.length cap ∧ VwI w a cap l ∧
    ∀ k, k < l.length → ∃ g, a = some ⟨g, 0, none⟩ ∧ B ≤ g ∧ ∀ j, w.frozen? ⟨g, j, none⟩ = false := by
  obtain ⟨a, cap, e, hv⟩ := h.view
  refine ⟨a, cap, e, hv, fun k hk => ?_⟩
  obtain ⟨h1, h2⟩ := h
  rcases h2 with ⟨rfl, hn⟩ | ⟨g, cap', cur, e', hB, hg, -⟩
  · rw [hn] at hk; omega
  · rw [e'] at e; cases e
    exact ⟨g, rfl, hB, fun j => by simp [World.frozen?, hg]⟩
theorem set_right2 {a b : List Value} {n : Nat} (h : a.length = 2) (x : Value) (j : Nat) : (a ++ b).set (2 + n + j) x = a ++ b.set (n + j) x := by
  rw [List.set_append_right _ _ (by omega), h, show 2 + n + j - 2 = n + j by omega]
theorem flatI_set : ∀ (l : List Bi) (k : Nat) (c : Bi), k < l.length → ((flatI l).set (k * 2) (.string c.n)).set (k * 2 + 1) (.int .i64 c.v) = flatI (l.set k c)
  | [], k, c, h => by simp at h
  | d :: l, 0, c, h => by rfl
  | d :: l, k + 1, c, h => by
    have ih := flatI_set l k c (by simpa using h)
    have e0 : (k + 1) * 2 = 2 + k * 2 + 0 := by omega
    rw [flatI_cons, List.set_cons_succ, flatI_cons, ← ih]
    rw [show (k + 1) * 2 + 1 = 2 + k * 2 + 1 by omega, e0]
    rw [set_right2 (valsI_len d), set_right2 (valsI_len d)]; rfl
theorem OwI.set {B : Nat} {w : World} {g n cap : Nat} {l : List Bi} (h : OwI B w (.slice (some ⟨g, 0, none⟩) n cap) l) (hn : n = l.length) (k : Nat) (hk : k < l.length) (c : Bi) :
    OwI B ((w.setCell ⟨g, k * 2, none⟩ (.string c.n)).setCell ⟨g, k * 2 + 1, none⟩ (.int .i64 c.v)) (.slice (some ⟨g, 0, none⟩) n cap) (l.set k c) := by
  subst hn
  have h0 := (World.ownsRow.stored h (k * 2) (.string c.n)).1
  have h1 := (World.ownsRow.stored h0 (k * 2 + 1) (.int .i64 c.v)).1
  unfold OwI
  rw [List.length_set, ← flatI_set l k c hk]; exact h1
theorem setI_same {l : List Value} {i : Nat} {v : Value} (h : l[i]? = some v) : l.set i v = l := by
  apply List.ext_getElem?
  intro j
  by_cases e : i = j
  · subst e; rw [List.getElem?_set_self (List.getElem?_eq_some_iff.1 h).1, h]
  · rw [List.getElem?_set_ne e]
theorem OwI.setN {B : Nat} {w : World} {g n cap : Nat} {l : List Bi} (h : OwI B w (.slice (some ⟨g, 0, none⟩) n cap) l) (hn : n = l.length) (k : Nat) (d : Bi) (hd : l[k]? = some d) (x : ByteArray) :
    OwI B (w.setCell ⟨g, k * 2, none⟩ (.string x)) (.slice (some ⟨g, 0, none⟩) n cap) (l.set k ⟨x, d.v⟩) := by
  subst hn
  unfold OwI
  have h1 : ((flatI l).set (k * 2) (.string x))[k * 2 + 1]? = some (.int .i64 d.v) := by rw [List.getElem?_set_ne (by omega)]; exact flatI_get l k 1 d hd (by decide)
  rw [List.length_set, ← flatI_set l k ⟨x, d.v⟩ (List.getElem?_eq_some_iff.1 hd).1, setI_same h1]
  exact (World.ownsRow.stored h (k * 2) (.string x)).1
theorem OwI.setV {B : Nat} {w : World} {g n cap : Nat} {l : List Bi} (h : OwI B w (.slice (some ⟨g, 0, none⟩) n cap) l) (hn : n = l.length) (k : Nat) (d : Bi) (hd : l[k]? = some d) (x : Int) :
    OwI B (w.setCell ⟨g, k * 2 + 1, none⟩ (.int .i64 x)) (.slice (some ⟨g, 0, none⟩) n cap) (l.set k ⟨d.n, x⟩) := by
  subst hn
  unfold OwI
  have h0 : (flatI l).set (k * 2) (.string d.n) = flatI l := setI_same (flatI_get l k 0 d hd (by decide))
  rw [List.length_set, ← flatI_set l k ⟨d.n, x⟩ (List.getElem?_eq_some_iff.1 hd).1, h0]
  exact (World.ownsRow.stored h (k * 2 + 1) (.int .i64 x)).1
theorem OwI.at {B : Nat} {w : World} {g n cap : Nat} {l : List Bi} (h : OwI B w (.slice (some ⟨g, 0, none⟩) n cap) l) {k : Nat} {d : Bi} (hd : l[k]? = some d) :
    At2 w g (k * 2) d ∧ (w.frozen? ⟨g, k * 2, none⟩ = false ∧ w.frozen? ⟨g, k * 2 + 1, none⟩ = false) ∧ B ≤ g ∧ g < w.heap.size := by
  obtain ⟨a, cap', e, hv, hf⟩ := h.own
  obtain ⟨g2, e2, hB, hfr⟩ := hf k (List.getElem?_eq_some_iff.1 hd).1
  obtain ⟨g3, o3, e3, hlt, h5⟩ := hv.2.2.2 k d hd
  cases e
  cases e2
  cases e3
  rw [Nat.zero_add] at h5
  exact ⟨h5, ⟨hfr _, hfr _⟩, hB, hlt⟩
def zi : Bi := ⟨⟨#[]⟩, 0⟩
theorem made_flatI : ∀ n, (madeCells (Value.agg #[.string ⟨#[]⟩, .int .i64 0]).cells (n * 2)).toList = flatI (List.replicate n zi) := by
  intro n
  rw [madeCells, Array.toList_map, Array.toList_range]
  induction n with
  | zero => rfl
  | succ n ih =>
    rw [List.replicate_succ', flatI_app, ← ih, show (n + 1) * 2 = n * 2 + 1 + 1 by omega, List.range_succ, List.range_succ]
    simp only [List.map_append, List.map_cons, List.map_nil, List.append_assoc]
    congr 1
    have hs : (Value.agg #[.string ⟨#[]⟩, .int .i64 0]).cells.size = 2 := rfl
    simp only [hs, show n * 2 % 2 = 0 by omega, show (n * 2 + 1) % 2 = 1 by omega]
    rfl
theorem VwI.drop {w : World} {a : Option Addr} {cap : Nat} {l : List Bi} (h : VwI w a cap l) {k : Nat} (hk : k ≤ l.length) : VwI w (if cap = k then a else a.map (·.add (k * 2))) (cap - k) (l.drop k) := by
  obtain ⟨h1, h2, h3, h4⟩ := h
  refine ⟨by rw [List.length_drop]; omega, by omega, fun e => ?_, fun i c hi => ?_⟩
  · split at e
    · have := h3 e; omega
    · have := h3 (by simpa using e); omega
  · rw [List.getElem?_drop] at hi
    have hil := (List.getElem?_eq_some_iff.1 hi).1
    obtain ⟨g, o, rfl, hg, h5⟩ := h4 (k + i) c hi
    rw [if_neg (by omega)]
    refine ⟨g, o + k * 2, ?_, hg, ?_⟩
    · simp [Addr.add]
    · rwa [show o + (k + i) * 2 = o + k * 2 + i * 2 by omega] at h5
theorem VwI.take {w : World} {a : Option Addr} {cap : Nat} {l : List Bi} (h : VwI w a cap l) {k m : Nat} (hk : k ≤ l.length) (hm : k ≤ m) (hc : m ≤ cap) (ha : a = none → m = 0) : VwI w a m (l.take k) := by
  obtain ⟨h1, h2, h3, h4⟩ := h
  refine ⟨by rw [List.length_take]; omega, by omega, ha, fun i c hi => ?_⟩
  rw [List.getElem?_take] at hi
  split at hi
  · exact h4 i c hi
  · cases hi
theorem asc_lt {l : List Bi} (h : Asc l) {i j : Nat} {c d : Bi} (hij : i < j) (hi : l[i]? = some c) (hj : l[j]? = some d) : Op.bytesLess c.n.toList d.n.toList = true := by
  obtain ⟨hj1, rfl⟩ := List.getElem?_eq_some_iff.1 hj
  obtain ⟨hi1, rfl⟩ := List.getElem?_eq_some_iff.1 hi
  exact List.pairwise_iff_getElem.1 h i j hi1 hj1 hij
/-- Names rise, one after the other. -/
def risI : List Bi → Bool
  | [] => true
  | [_] => true
  | c :: d :: r => Op.bytesLess c.n.toList d.n.toList && risI (d :: r)
theorem risI_iff : ∀ l : List Bi, risI l = true ↔ ∀ k c d, l[k]? = some c → l[k + 1]? = some d → Op.bytesLess c.n.toList d.n.toList = true
  | [] => by simp [risI]
  | [x] => by
    simp only [risI, true_iff]
    intro k c d h1 h2
    have := (List.getElem?_eq_some_iff.1 h2).1
    simp at this
  | c :: d :: r => by
    rw [risI, Bool.and_eq_true, risI_iff (d :: r)]
    constructor
    · rintro ⟨h1, h2⟩ k x y hx hy
      cases k with
      | zero =>
        simp at hx hy
        subst hx hy; exact h1
      | succ k => exact h2 k x y (by simpa using hx) (by simpa using hy)
    · intro h
      exact ⟨h 0 c d rfl rfl, fun k x y hx hy => h (k + 1) x y (by simpa using hx) (by simpa using hy)⟩
theorem asc_of_ris : ∀ {l : List Bi}, risI l = true → Asc l
  | [], _ => List.Pairwise.nil
  | [x], _ => List.pairwise_singleton _ _
  | c :: d :: r, h => by
    rw [risI, Bool.and_eq_true] at h
    have ih : Asc (d :: r) := asc_of_ris h.2
    refine List.pairwise_cons.2 ⟨fun x hx => ?_, ih⟩
    rcases List.mem_cons.1 hx with e | e
    · subst e; exact h.1
    · exact bl_tr h.1 ((List.pairwise_cons.1 ih).1 x e)
theorem ris_of_asc : ∀ {l : List Bi}, Asc l → risI l = true
  | [], _ => rfl
  | [x], _ => rfl
  | c :: d :: r, h => by
    obtain ⟨h1, h2⟩ := List.pairwise_cons.1 h
    rw [risI, Bool.and_eq_true]
    exact ⟨h1 d (by simp), ris_of_asc h2⟩
def Bi.ok (c : Bi) : Bool := nmB c.n.data.toList && isW c.v
/-- Valid bins. -/
def okI (l : List Bi) : Bool := decide (l.length ≤ 12) && (risI l && l.all Bi.ok)
theorem okI_iff {l : List Bi} : okI l = true ↔ l.length ≤ 12 ∧ Asc l ∧ ∀ c ∈ l, c.ok = true := by
  unfold okI
  rw [Bool.and_eq_true, Bool.and_eq_true, List.all_eq_true, decide_eq_true_eq]
  exact ⟨fun ⟨h1, h2, h3⟩ => ⟨h1, asc_of_ris h2, h3⟩, fun ⟨h1, h2, h3⟩ => ⟨h1, ris_of_asc h2, h3⟩⟩
theorem okI_long {l : List Bi} (h : 12 < l.length) : okI l = false := by unfold okI; rw [decide_eq_false (by omega)]; rfl
theorem okI_ris {l : List Bi} (h : risI l = false) : okI l = false := by unfold okI; rw [h, Bool.false_and, Bool.and_false]
theorem okI_bad {l : List Bi} {k : Nat} {c : Bi} (hk : l[k]? = some c) (h : c.ok = false) : okI l = false := by
  cases e : okI l with
  | false => rfl
  | true => have := (okI_iff.1 e).2.2 c (List.mem_of_getElem? hk); rw [h] at this; cases this
/-- Where a name is, or would be. -/
def cntI (n : ByteArray) : List Bi → Nat
  | [] => 0
  | c :: r => if Op.bytesLess c.n.toList n.toList = true then cntI n r + 1 else 0
theorem cntI_le (n : ByteArray) : ∀ l : List Bi, cntI n l ≤ l.length
  | [] => Nat.le_refl _
  | c :: r => by
    have := cntI_le n r
    rw [cntI, List.length_cons]; split <;> omega
theorem cntI_lt {n : ByteArray} : ∀ {l : List Bi} {k : Nat} {c : Bi}, k < cntI n l → l[k]? = some c → Op.bytesLess c.n.toList n.toList = true
  | [], k, c, h, _ => by simp [cntI] at h
  | d :: r, k, c, h, hk => by
    rw [cntI] at h
    split at h
    · cases k with
      | zero => simp at hk; subst hk; assumption
      | succ k => exact cntI_lt (l := r) (k := k) (c := c) (by omega) (by simpa using hk)
    · omega
theorem cntI_at {n : ByteArray} : ∀ {l : List Bi} {c : Bi}, l[cntI n l]? = some c → Op.bytesLess c.n.toList n.toList = false
  | [], c, h => by simp at h
  | d :: r, c, h => by
    rw [cntI] at h
    split at h
    · exact cntI_at (l := r) (c := c) (by simpa using h)
    · rename_i hd
      simp at h; subst h
      exact Bool.eq_false_iff.2 hd
theorem cntI_eq {n : ByteArray} {l : List Bi} {k : Nat} (hk : k ≤ l.length) (h1 : ∀ (j : Nat) (c : Bi), j < k → l[j]? = some c → Op.bytesLess c.n.toList n.toList = true) (h2 : ∀ c : Bi, l[k]? = some c → Op.bytesLess c.n.toList n.toList = false) : cntI n l = k := by
  have hle := cntI_le n l
  rcases Nat.lt_trichotomy (cntI n l) k with h | h | h
  · have hc := List.getElem?_eq_getElem (l := l) (i := cntI n l) (by omega)
    have := h1 _ _ h hc
    rw [cntI_at hc] at this; cases this
  · exact h
  · have hc := List.getElem?_eq_getElem (l := l) (i := k) (by omega)
    have := h2 _ hc
    rw [cntI_lt h hc] at this; cases this
theorem cntI_ge {n : ByteArray} {l : List Bi} (ha : Asc l) {k : Nat} {c : Bi} (h : cntI n l ≤ k) (hk : l[k]? = some c) : Op.bytesLess c.n.toList n.toList = false := by
  rcases Nat.eq_or_lt_of_le h with e | e
  · subst e; exact cntI_at hk
  · have hkl := (List.getElem?_eq_some_iff.1 hk).1
    have hd := List.getElem?_eq_getElem (l := l) (i := cntI n l) (by omega)
    cases hb : Op.bytesLess c.n.toList n.toList with
    | false => rfl
    | true => have := bl_tr (asc_lt ha e hd hk) hb; rw [cntI_at hd] at this; cases this
/-- Is the name there? -/
def isAt (n : ByteArray) (l : List Bi) : Bool := match l[cntI n l]? with | some c => c.n.toList == n.toList | none => false
theorem isAt_some {n : ByteArray} {l : List Bi} {c : Bi} (h : l[cntI n l]? = some c) : isAt n l = (c.n.toList == n.toList) := by unfold isAt; rw [h]
theorem isAt_none {n : ByteArray} {l : List Bi} (h : l.length ≤ cntI n l) : isAt n l = false := by unfold isAt; rw [List.getElem?_eq_none h]
theorem isAt_lt {n : ByteArray} {l : List Bi} (h : isAt n l = true) : cntI n l < l.length := by
  by_cases hl : cntI n l < l.length
  · exact hl
  · rw [isAt_none (by omega)] at h; cases h
/-- Behind the place of a name. -/
def behI (n : ByteArray) (l : List Bi) : List Bi := l.drop (if isAt n l then cntI n l + 1 else cntI n l)
def stI (l : List Bi) (n : ByteArray) (v : Int) : List Bi := l.take (cntI n l) ++ ([⟨n, v⟩] ++ behI n l)
def ctI (l : List Bi) (n : ByteArray) : List Bi := l.take (cntI n l) ++ behI n l
theorem behI_len (n : ByteArray) (l : List Bi) : (behI n l).length = l.length - cntI n l - (if isAt n l then 1 else 0) := by
  unfold behI; rw [List.length_drop]; split <;> omega
theorem takeI_len (n : ByteArray) (l : List Bi) : (l.take (cntI n l)).length = cntI n l := by rw [List.length_take]; have := cntI_le n l; omega
theorem stI_len (l : List Bi) (n : ByteArray) (v : Int) : (stI l n v).length = if isAt n l then l.length else l.length + 1 := by
  have h1 := cntI_le n l
  unfold stI
  rw [List.length_append, List.length_append, takeI_len, behI_len]
  split
  · rename_i h; have := isAt_lt h; simp; omega
  · simp; omega
theorem ctI_len (l : List Bi) (n : ByteArray) : (ctI l n).length = if isAt n l then l.length - 1 else l.length := by
  have h1 := cntI_le n l
  unfold ctI
  rw [List.length_append, takeI_len, behI_len]
  split
  · rename_i h; have := isAt_lt h; omega
  · omega
theorem stI_at {l : List Bi} {n : ByteArray} {c : Bi} (h : l[cntI n l]? = some c) (e : isAt n l = true) (v : Int) : stI l n v = l.set (cntI n l) ⟨c.n, v⟩ := by
  have hl := isAt_lt e
  have hc : c.n = n := ba_ext (by rw [isAt_some h] at e; simpa using e)
  unfold stI behI
  rw [if_pos e, hc, List.set_eq_take_append_cons_drop, if_pos hl]; rfl
/-- What SetBin gives. -/
def sbP (l : List Bi) (n : ByteArray) (v : Int) : List Bi × Bool := if okI l then (if (nmB n.data.toList && isW v) && decide ((stI l n v).length ≤ 12) then (stI l n v, true) else (l, false)) else ([], false)
def cbP (l : List Bi) (n : ByteArray) : List Bi := if okI l then ctI l n else []
/-- What ValueIn gives. -/
def valL (n : ByteArray) : List Bi → Int × Bool
  | [] => (0, false)
  | c :: r => if c.n.toList == n.toList then (c.v, true) else valL n r
theorem valL_at {n : ByteArray} : ∀ {l : List Bi} {k : Nat} {c : Bi}, l[k]? = some c → (∀ (j : Nat) (d : Bi), j < k → l[j]? = some d → (d.n.toList == n.toList) = false) → (c.n.toList == n.toList) = true → valL n l = (c.v, true)
  | [], k, c, h, _, _ => by simp at h
  | d :: r, 0, c, h, _, e => by
    simp at h; subst h
    rw [valL, if_pos e]
  | d :: r, k + 1, c, h, hn, e => by
    rw [valL, if_neg (by rw [hn 0 d (by omega) rfl]; decide)]
    exact valL_at (l := r) (by simpa using h) (fun j x hj hx => hn (j + 1) x (by omega) (by simpa using hx)) e
theorem valL_none {n : ByteArray} : ∀ {l : List Bi}, (∀ (j : Nat) (d : Bi), l[j]? = some d → (d.n.toList == n.toList) = false) → valL n l = (0, false)
  | [], _ => rfl
  | d :: r, h => by
    rw [valL, if_neg (by rw [h 0 d rfl]; decide)]
    exact valL_none (l := r) fun j x hx => h (j + 1) x (by simpa using hx)
theorem sbP_no {l : List Bi} {n : ByteArray} {v : Int} (h : okI l = false) : sbP l n v = ([], false) := by unfold sbP; rw [h]; rfl
theorem sbP_bad {l : List Bi} {n : ByteArray} {v : Int} (h : okI l = true) (h2 : (nmB n.data.toList && isW v) = false) : sbP l n v = (l, false) := by unfold sbP; rw [h, h2]; rfl
theorem sbP_long {l : List Bi} {n : ByteArray} {v : Int} (h : okI l = true) (h2 : ¬ (stI l n v).length ≤ 12) : sbP l n v = (l, false) := by
  unfold sbP; rw [h, if_pos rfl, decide_eq_false h2, Bool.and_false]; rfl
theorem sbP_yes {l : List Bi} {n : ByteArray} {v : Int} (h : okI l = true) (h2 : (nmB n.data.toList && isW v) = true) (h3 : (stI l n v).length ≤ 12) : sbP l n v = (stI l n v, true) := by
  unfold sbP; rw [h, h2, if_pos rfl, decide_eq_true h3]; rfl
theorem cbP_no {l : List Bi} {n : ByteArray} (h : okI l = false) : cbP l n = [] := by unfold cbP; rw [h]; rfl
theorem cbP_yes {l : List Bi} {n : ByteArray} (h : okI l = true) : cbP l n = ctI l n := by unfold cbP; rw [h]; rfl
theorem two_cells {w : World} {n : Nat} {x0 x1 : Value} {T : Nat} (h : w.heap[n]? = some (.cells #[x0, x1] T (0, 0))) :
    w.cell? ⟨n, 0, none⟩ = some x0 ∧ w.cell? ⟨n, 1, none⟩ = some x1 ∧ w.frozen? ⟨n, 0, none⟩ = false ∧ w.frozen? ⟨n, 1, none⟩ = false := by
  refine ⟨?_, ?_, ?_, ?_⟩ <;> simp [World.cell?, World.frozen?, h]
theorem new_of (w : World) (o : Obj) : (w.alloc o).heap[w.heap.size]? = some o := by show (w.heap.push _)[w.heap.size]? = _; simp
/-- Block n holds a bin. -/
def Bn2 (n : Nat) (s : ByteArray) (v : Int) (w : World) : Prop := w.cell? ⟨n, 0, none⟩ = some (.string s) ∧ w.cell? ⟨n, 1, none⟩ = some (.int .i64 v) ∧ n < w.heap.size
theorem Bn2.made (s : ByteArray) (v : Int) (w : World) (T : Nat) : Bn2 w.heap.size s v (w.alloc (.cells #[.string s, .int .i64 v] T)) := by
  have hp : (w.alloc (.cells #[.string s, .int .i64 v] T)).heap[w.heap.size]? = some (.cells #[.string s, .int .i64 v] T) := by show (w.heap.push _)[w.heap.size]? = _; simp
  refine ⟨?_, ?_, by simp⟩ <;> (simp only [World.cell?, hp]; rfl)
theorem Bn2.next {n : Nat} {s : ByteArray} {v : Int} {w w' : World} (h : Bn2 n s v w) (hb : Below w.heap.size w w') : Bn2 n s v w' := by
  obtain ⟨h0, h1, h2⟩ := h
  have e : w'.heap[n]? = w.heap[n]? := hb.block n h2
  exact ⟨(World.cell?_of_block (w := w) e).trans h0, (World.cell?_of_block (w := w) e).trans h1, Nat.lt_of_lt_of_le h2 hb.size⟩
def szM (s : ByteArray) (n : Int) : Int := if n - s.size < 0 then -1 else n - s.size
theorem szM_le {s : ByteArray} {n : Int} (h : 0 ≤ szM s n) : (s.size : Int) ≤ n ∧ szM s n ≤ n := by
  unfold szM at h ⊢
  split at h
  · omega
  · rename_i h1
    rw [if_neg h1]; omega
set_option maxHeartbeats 1000000 in
set_option maxRecDepth 100000 in
theorem szBin_any (s : ByteArray) (v n : Int) (w : World) (hs : s.size ≤ 9223372036854775807) (h0 : 0 ≤ n) (hn : n ≤ 1048576) :
    Calls Tryz.prog 62 #[.agg #[.string s, .int .i64 v], .int .i64 n] w fun e w' => e = .returned (.int .i64 (szM s n)) ∧ Below w.heap.size w w' := by
  have HB := Lib.hid (bel1 w)
  by_cases h1 : n - s.size < 0
  · have HK := Lib.hid (show szM s n = -1 by unfold szM; rw [if_pos h1])
    go_enter Tryz.func62, Tryz.ntmps62
    go_wp2_with fail
    go_ret
    exact ⟨by rw [HK.out]; rfl, HB.out _⟩
  · have HK := Lib.hid (show szM s n = n - s.size by unfold szM; rw [if_neg h1])
    go_enter Tryz.func62, Tryz.ntmps62
    go_wp2_with fail
    go_ret
    exact ⟨by rw [HK.out]; rfl, HB.out _⟩
def SzI (l : List Bi) (n : Int) (w : World) (e : Ending) (w' : World) : Prop := ∃ z : Int, e = .returned (.int .i64 z) ∧ Below w.heap.size w w' ∧ (z < 0 ∨ 0 ≤ z ∧ z ≤ n ∧ (l.length : Int) ≤ n ∧ ∀ c ∈ l, (c.n.size : Int) ≤ n)
set_option maxHeartbeats 4000000 in
set_option maxRecDepth 100000 in
theorem szBinS_any (w : World) (a : Option Addr) (cap : Nat) (l : List Bi) (L : Nat) (n : Int) (hL : l.length = L) (hv : VwI w a cap l) (hm : ∀ c ∈ l, c.n.size ≤ 9223372036854775807) (h0 : 0 ≤ n) (hn : n ≤ 1048576) :
    Calls Tryz.prog 28 #[.slice a L cap, .int .i64 n] w (SzI l n w) := by
  have hlm : L ≤ 9223372036854775807 := by have := hv.1; have h2 := hv.2.1; unfold maxLen at h2; omega
  have HV := Lib.hid hv; clear hv
  have HM := Lib.hid hm; clear hm
  by_cases hlt : n - (L : Int) < 0
  · go_enter Tryz.func28, Tryz.ntmps28
    go_wp2_with fail
    go_ret
    exact ⟨-1, rfl, Below.refl _ _, Or.inl (by decide)⟩
  · go_enter Tryz.func28, Tryz.ntmps28
    go_wp2_with fail
    go_loopw [1, 5] (fun q i wr => ∃ (k : Nat) (z : Int), k ≤ L ∧ i = .int .i64 k ∧ q = .int .i64 z ∧ 0 ≤ z ∧ z ≤ n ∧ (∀ (j : Nat) (c : Bi), j < k → l[j]? = some c → (c.n.size : Int) ≤ n) ∧ Below w.heap.size w wr) (fun _ i _ => L - intV i)
    case atStart => exact ⟨0, n - L, Nat.zero_le _, rfl, rfl, by omega, by omega, fun j c hj => by omega, Below.refl _ _⟩
    case round =>
      obtain ⟨k, z, hk, rfl, rfl, z0, z1, hok, hbel⟩ := hrel
      have HB := Lib.hid hbel; clear hbel
      have HO := Lib.hid hok; clear hok
      by_cases hlk : k < L
      · obtain ⟨c, hc⟩ : ∃ c, l[k]? = some c := ⟨l[k], List.getElem?_eq_getElem (by omega)⟩
        obtain ⟨g, o, rfl, hg, h5⟩ := HV.out.2.2.2 k c hc
        obtain ⟨c0, c1⟩ : At2 wr g (o + k * 2) c := h5.same (HB.out.block g hg)
        have HZ := Lib.hid (fun w => szBin_any c.n c.v z w (HM.out c (List.mem_of_getElem? hc)) z0 (by omega))
        have HL := Lib.hid (show 0 ≤ szM c.n z → _ from szM_le)
        have HC := Lib.hid hc; clear hc
        generalize szM c.n z = y at *
        clear h5 hg
        by_cases hy : y < 0
        · go_wp2_with fail
          refine (HZ.out _).mono ?_; rintro e w1 ⟨rfl, b1⟩
          have B1 := Lib.hid (bel_tr HB.out b1 (Nat.le_refl _)); clear b1
          go_wp2_with fail
          go_ret
          exact ⟨-1, rfl, B1.out, Or.inl (by decide)⟩
        · go_wp2_with fail
          refine (HZ.out _).mono ?_; rintro e w1 ⟨rfl, b1⟩
          have B1 := Lib.hid (bel_tr HB.out b1 (Nat.le_refl _)); clear b1
          go_wp2_with fail
          go_roundw
          case rel =>
            obtain ⟨l1, l2⟩ := HL.out (by omega)
            refine ⟨k + 1, y, by omega, by go_num, rfl, by omega, by omega, fun j d hj hd => ?_, B1.out⟩
            by_cases he : j = k
            · subst he
              obtain rfl : c = d := Option.some.inj (HC.out.symm.trans hd)
              omega
            · exact HO.out j d (by omega) hd
          case measure => simp [intV]; omega
      · obtain rfl : k = L := by omega
        go_wp2_with fail
        go_ret
        refine ⟨z, rfl, HB.out, Or.inr ⟨z0, z1, by omega, fun c hc => ?_⟩⟩
        obtain ⟨j, hj⟩ := List.mem_iff_getElem?.1 hc
        exact HO.out j c (by have := (List.getElem?_eq_some_iff.1 hj).1; omega) hj
set_option maxHeartbeats 4000000 in
set_option maxRecDepth 100000 in
theorem toBin_any (s : ByteArray) (v : Int) (w : World) :
    Calls Tryz.prog 63 #[.agg #[.string s, .int .i64 v]] w fun e w' => e = .returned (.agg #[.string s, .int .i64 v]) ∧ Below w.heap.size w w' := by
  go_enter Tryz.func63, Tryz.ntmps63
  go_wp2_with fail
  refine bodyPost_ret (v := .agg #[.string s, .int .i64 v]) (by simp [results, Tryz.results63, go_sem]) rfl ⟨rfl, ?_⟩
  exact bel3 w _ _ _
theorem two_frozen {w : World} {g : Nat} (h : ∀ j, w.frozen? ⟨g, j, none⟩ = false) (k : Nat) : w.frozen? ⟨g, k * 2, none⟩ = false ∧ w.frozen? ⟨g, k * 2 + 1, none⟩ = false := ⟨h _, h _⟩
theorem bel_set2o {B : Nat} {a w : World} (h : Below B a w) {n o : Nat} (hn : B ≤ n) (x0 x1 : Value) : Below B a ((w.setCell ⟨n, o, none⟩ x0).setCell ⟨n, o + 1, none⟩ x1) :=
  (h.setCell (p := ⟨n, o, none⟩) hn _).setCell (p := ⟨n, o + 1, none⟩) hn _
set_option maxHeartbeats 4000000 in
set_option maxRecDepth 100000 in
theorem toBinS_is (w : World) (a : Option Addr) (cap : Nat) (l : List Bi) (L : Nat) (hL : l.length = L) (hv : VwI w a cap l) (hl : L ≤ 1048576) :
    Calls Tryz.prog 30 #[.slice a L cap] w fun e w' => ∃ g, e = .returned (.slice (some ⟨g, 0, none⟩) L L) ∧ w.heap.size ≤ g ∧ OwI w.heap.size w' (.slice (some ⟨g, 0, none⟩) L L) l ∧ Below w.heap.size w w' := by
  obtain ⟨i0, hi, hz0, hz1, hz2⟩ := info_parts infoI
  have HV := Lib.hid hv; clear hv
  go_enter Tryz.func30, Tryz.ntmps30
  go_wp2_with (first
    | (at_make; refine wpList_make_full _ rfl (.tmp 6) (.tmp 6) 25 rfl w.heap.size 44 i0 _ 2 Tryz.underlying25 hi hz0 hz1 .i64 .i64 _ _ L rfl rfl rfl rfl (by rw [hz2]; omega) (by unfold maxLen; omega) (Nat.le_refl _) ?_; intro w1 hown1 hgrow1))
  have hst : OwI w.heap.size w1 (.slice (some ⟨w.heap.size, 0, none⟩) L L) (List.replicate L zi) := by
    unfold OwI; rw [List.length_replicate, ← made_flatI]; exact hown1
  have hb1 : Below w.heap.size w w1 := (Below.refl _ _).grown hgrow1 (Nat.le_refl _) (fun _ h => by cases h)
  have H1 := Lib.hid (And.intro hst hb1); clear hst hb1 hown1 hgrow1
  go_loopw [4] (fun i wr => ∃ (k : Nat) (m : List Bi), k ≤ L ∧ i = .int .i64 k ∧ m.length = L ∧ (∀ j, j < k → m[j]? = l[j]?) ∧ OwI w.heap.size wr (.slice (some ⟨w.heap.size, 0, none⟩) L L) m ∧ Below w.heap.size w wr) (fun i _ => L - intV i)
  case atStart => exact ⟨0, _, Nat.zero_le _, rfl, List.length_replicate, fun j hj => by omega, H1.out.1, H1.out.2⟩
  case round =>
    clear H1
    obtain ⟨k, m, hk, rfl, hm, hmk, hown, hbel⟩ := hrel
    have HB := Lib.hid hbel; clear hbel
    have HM := Lib.hid hmk; clear hmk
    by_cases hlk : k < L
    · obtain ⟨c, hc⟩ : ∃ c, l[k]? = some c := ⟨l[k], List.getElem?_eq_getElem (by omega)⟩
      obtain ⟨g, o, rfl, hg, h5⟩ := HV.out.2.2.2 k c hc
      obtain ⟨c0, c1⟩ : At2 wr g (o + k * 2) c := h5.same (HB.out.block g hg)
      have HC := Lib.hid hc; clear hc h5 hg
      have HO := Lib.hid hown; clear hown
      go_wp2_with fail
      refine (toBin_any c.n c.v _).mono ?_; rintro e w2 ⟨rfl, b2⟩
      have B2 := Lib.hid (bel_tr HB.out b2 (Nat.le_refl _))
      have HO2 := Lib.hid (HO.out.next b2); clear b2 c0 c1
      obtain ⟨d, hd⟩ : ∃ d, m[k]? = some d := ⟨m[k], List.getElem?_eq_getElem (by omega)⟩
      obtain ⟨⟨d0, d1⟩, ⟨f0, f1⟩, -, -⟩ := HO2.out.at hd
      have HS := Lib.hid (HO2.out.set (by rw [hm]) k (by omega) c)
      have HB2 := Lib.hid (bel_set2o B2.out (Nat.le_refl w.heap.size) (o := k * 2) (.string c.n) (.int .i64 c.v))
      clear HO HO2 B2 hd
      generalize hG : w.heap.size = G at *
      go_wp2_with fail
      subst hG
      go_roundw
      case rel =>
        refine ⟨k + 1, m.set k c, by omega, by go_num, by rw [List.length_set]; exact hm, fun j hj => ?_, HS.out, HB2.out⟩
        by_cases he : j = k
        · subst he; rw [List.getElem?_set_self (by omega), HC.out]
        · rw [List.getElem?_set_ne (by omega)]; exact HM.out j (by omega)
      case measure => simp [intV]; omega
    · obtain rfl : k = L := by omega
      have hml : m = l := by
        apply List.ext_getElem?
        intro i
        by_cases hi : i < k
        · exact HM.out i hi
        · rw [List.getElem?_eq_none (by omega), List.getElem?_eq_none (by omega)]
      subst hml
      have HO := Lib.hid hown; clear hown
      go_wp2_with fail
      go_ret
      exact ⟨_, rfl, Nat.le_refl _, HO.out, HB.out⟩
set_option maxHeartbeats 1000000 in
set_option maxRecDepth 100000 in
theorem eqBin_same (s : ByteArray) (v : Int) (w : World) :
    Calls Tryz.prog 64 #[.agg #[.string s, .int .i64 v], .agg #[.string s, .int .i64 v]] w fun e w' => e = .returned (.bool true) ∧ Below w.heap.size w w' := by
  have HB := Lib.hid (bel2 w)
  have q1 : (s.toList == s.toList) = true := by simp
  have q2 : (v == v) = true := by simp
  go_enter Tryz.func64, Tryz.ntmps64
  go_wp2_with fail
  go_ret
  exact ⟨rfl, HB.out _ _⟩
set_option maxHeartbeats 4000000 in
set_option maxRecDepth 100000 in
theorem eqBinS_same (w : World) (a b : Option Addr) (ca cb : Nat) (l : List Bi) (n : Nat) (hn : l.length = n) (hv : VwI w a ca l) (hu : VwI w b cb l) (hl : n ≤ 4194304) :
    Calls Tryz.prog 34 #[.slice a n ca, .slice b n cb] w fun e w' => e = .returned (.bool true) ∧ Below w.heap.size w w' := by
  have HV := Lib.hid hv; clear hv
  have HU := Lib.hid hu; clear hu
  have q0 : ((n : Int) != (n : Int)) = false := by simp
  go_enter Tryz.func34, Tryz.ntmps34
  go_wp2
  go_loopw [5] (fun i wr => ∃ k : Nat, k ≤ n ∧ i = .int .i64 k ∧ Below w.heap.size w wr) (fun i _ => n - intV i)
  case atStart => exact ⟨0, Nat.zero_le _, rfl, Below.refl _ _⟩
  case round =>
    obtain ⟨k, hk, rfl, hbel⟩ := hrel
    have HB := Lib.hid hbel; clear hbel
    by_cases hlt : k < n
    · obtain ⟨c, hc⟩ : ∃ c, l[k]? = some c := ⟨l[k], List.getElem?_eq_getElem (by omega)⟩
      obtain ⟨g, o, rfl, hg, h5⟩ := HV.out.2.2.2 k c hc
      obtain ⟨h, p, rfl, hh, h6⟩ := HU.out.2.2.2 k c hc
      obtain ⟨c0, c1⟩ : At2 wr g (o + k * 2) c := h5.same (HB.out.block g hg)
      obtain ⟨d0, d1⟩ : At2 wr h (p + k * 2) c := h6.same (HB.out.block h hh)
      have hg' : g < wr.heap.size := Nat.lt_of_lt_of_le hg HB.out.size
      have hh' : h < wr.heap.size := Nat.lt_of_lt_of_le hh HB.out.size
      have SOF := Lib.hid (show ∀ z, Below wr.heap.size wr z → (z.cell? ⟨g, o + k * 2, none⟩ = some (.string c.n) ∧ z.cell? ⟨g, o + k * 2 + 1, none⟩ = some (.int .i64 c.v) ∧ z.cell? ⟨h, p + k * 2, none⟩ = some (.string c.n) ∧ z.cell? ⟨h, p + k * 2 + 1, none⟩ = some (.int .i64 c.v) ∧ Below wr.heap.size wr z) from fun z hz => ⟨coc hz hg' c0, coc hz hg' c1, coc hz hh' d0, coc hz hh' d1,  hz⟩)
      have HC := Lib.hid (eqBin_same c.n c.v)
      clear h5 h6 hg hh hc c0 c1 d0 d1
      go_wp2_with fail
      refine wp_region_held_drew (S := fun z => z.cell? ⟨g, o + k * 2, none⟩ = some (.string c.n) ∧ z.cell? ⟨g, o + k * 2 + 1, none⟩ = some (.int .i64 c.v) ∧ z.cell? ⟨h, p + k * 2, none⟩ = some (.string c.n) ∧ z.cell? ⟨h, p + k * 2 + 1, none⟩ = some (.int .i64 c.v) ∧ Below wr.heap.size wr z) (by kernel_rfl) (SOF.out _ (Below.refl _ _).drew) (fun hHeld => ?_)
      refine wpAnyH_take (i := 0) (v := ?v0a) rfl (by kernel_rfl) (by kernel_rfl) (by kernel_rfl) (fun _ _ _ h => h) (Or.inl ⟨by rfl, ?hy0a⟩) (by assumption) ?rest0a
      case hy0a => (intro zz hSw; (try dsimp only at hSw); go_simp; (try with_reducible rfl))
      change wpAnyH _ _ _ _ _ _ _ (Act.put _ (some 17) _) _
      simp only [Act.put, List.setIfInBounds_toArray, List.set_cons_zero, List.set_cons_succ]
      refine wpAnyH_take (i := 1) (v := ?v1a) rfl (by kernel_rfl) (by kernel_rfl) (by kernel_rfl) (fun _ _ _ h => h) (Or.inl ⟨by rfl, ?hy1a⟩) (by assumption) ?rest1a
      case hy1a => (intro zz hSw; (try dsimp only at hSw); go_simp; (try with_reducible rfl))
      change wpAnyH _ _ _ _ _ _ _ (Act.put _ (some 18) _) _
      simp only [Act.put, List.setIfInBounds_toArray, List.set_cons_zero, List.set_cons_succ]
      refine wpAnyH_take (i := 2) (v := ?v2a) rfl (by kernel_rfl) (by kernel_rfl) (by kernel_rfl) (fun _ _ _ h => h) (Or.inl ⟨by rfl, ?hy2a⟩) (by assumption) ?rest2a
      case hy2a => (intro zz hSw; (try dsimp only at hSw); go_simp; (try with_reducible rfl))
      change wpAnyH _ _ _ _ _ _ _ (Act.put _ (some 19) _) _
      simp only [Act.put, List.setIfInBounds_toArray, List.set_cons_zero, List.set_cons_succ]
      refine wpAnyH_take (i := 3) (v := ?v3a) rfl (by kernel_rfl) (by kernel_rfl) (by kernel_rfl) (fun _ _ _ h => h) (Or.inl ⟨by rfl, ?hy3a⟩) (by assumption) ?rest3a
      case hy3a => (intro zz hSw; (try dsimp only at hSw); go_simp; (try with_reducible rfl))
      change wpAnyH _ _ _ _ _ _ _ (Act.put _ (some 20) _) _
      simp only [Act.put, List.setIfInBounds_toArray, List.set_cons_zero, List.set_cons_succ]
      refine wpAnyH_take (i := 4) (v := ?v4a) rfl (by kernel_rfl) (by kernel_rfl) (by kernel_rfl) (fun _ _ _ h => h) (Or.inl ⟨by rfl, ?hy4a⟩) (by assumption) ?rest4a
      case hy4a => (intro zz hSw; (try dsimp only at hSw); go_simp; (try with_reducible rfl))
      change wpAnyH _ _ _ _ _ _ _ (Act.put _ (some 21) _) _
      simp only [Act.put, List.setIfInBounds_toArray, List.set_cons_zero, List.set_cons_succ]
      refine wpAnyH_take (i := 5) (v := ?v5a) rfl (by kernel_rfl) (by kernel_rfl) (by kernel_rfl) (fun _ _ _ h => h) (Or.inl ⟨by rfl, ?hy5a⟩) (by assumption) ?rest5a
      case hy5a => (intro zz hSw; (try dsimp only at hSw); go_simp; (try with_reducible rfl))
      change wpAnyH _ _ _ _ _ _ _ (Act.put _ (some 22) _) _
      simp only [Act.put, List.setIfInBounds_toArray, List.set_cons_zero, List.set_cons_succ]
      refine wpAnyH_take (i := 6) (v := ?v6a) rfl (by kernel_rfl) (by kernel_rfl) (by kernel_rfl) (fun _ _ _ h => h) (Or.inl ⟨by rfl, ?hy6a⟩) (by assumption) ?rest6a
      case hy6a => (intro zz hSw; (try dsimp only at hSw); go_simp; (try with_reducible rfl))
      change wpAnyH _ _ _ _ _ _ _ (Act.put _ (some 23) _) _
      simp only [Act.put, List.setIfInBounds_toArray, List.set_cons_zero, List.set_cons_succ]
      refine wpAnyH_take (i := 7) (v := ?v7a) rfl (by kernel_rfl) (by kernel_rfl) (by kernel_rfl) (fun _ _ _ h => h) (Or.inl ⟨by rfl, ?hy7a⟩) (by assumption) ?rest7a
      case hy7a => (intro zz hSw; (try dsimp only at hSw); go_simp; (try with_reducible rfl))
      change wpAnyH _ _ _ _ _ _ _ (Act.put _ (some 24) _) _
      simp only [Act.put, List.setIfInBounds_toArray, List.set_cons_zero, List.set_cons_succ]
      refine wpAnyH_ready (rs := [8]) (by kernel_rfl) (by simp) (AllReadyH.cons rfl (fun K hK => ?_) AllReadyH.nil)
      go_simp
      refine (HC.out _).mono ?_; rintro e w' ⟨rfl, bel⟩
      refine hK.out _ _ (SOF.out _ (bel_tr hHeld.2.2.2.2 bel (Nat.le_refl _))) (fun hHeld => ?_)
      clear hK K bel
      refine wpAnyH_take (i := 9) (v := ?v9a) rfl (by kernel_rfl) (by kernel_rfl) (by kernel_rfl) (fun _ _ _ h => h) (Or.inl ⟨by rfl, ?hy9a⟩) (by assumption) ?rest9a
      case hy9a => (intro zz hSw; (try dsimp only at hSw); go_simp; (try with_reducible rfl))
      change wpAnyH _ _ _ _ _ _ _ (Act.put _ (some 26) _) _
      simp only [Act.put, List.setIfInBounds_toArray, List.set_cons_zero, List.set_cons_succ]
      refine wpAnyH_done (by kernel_rfl) ?_ _
      have HG := Lib.hid (bel_tr HB.out hHeld.2.2.2.2 (Nat.le_refl _)); clear hHeld SOF
      go_wp2_with fail
      go_roundw
      case rel => exact ⟨k + 1, by omega, by go_num, HG.out⟩
      case measure => simp [intV]; omega
    · obtain rfl : k = n := by omega
      go_wp2_with fail
      go_ret
      exact ⟨rfl, HB.out⟩
/-- The mark of the k-th bin. -/
def mkI (s k : Nat) : Bi := ⟨tx (mtx (s + 2 * k)), ((s + 2 * k : Nat) : Int) + 1⟩
def MkdI (s : Nat) (m : List Bi) : Prop := ∀ j, j < m.length → m[j]? = some (mkI s j)
set_option maxRecDepth 100000 in
set_option maxHeartbeats 4000000 in
theorem markI_from {B : Nat} {v : Value} {l : List Bi} {n s : Nat} (w : World) (hv : OwI B w v l) (hn : l.length = n) (hl : n ≤ 4194304) (hs1 : 1 ≤ s) (hs2 : s ≤ 9000000) :
    Calls Tryz.prog 37 #[v, .int .i64 (s : Int)] w fun e w' => e = .returned (.int .i64 ((s + 2 * n : Nat) : Int)) ∧ w.grownBy w' v.ownBlock ∧ ∃ m, m.length = n ∧ MkdI s m ∧ OwI B w' v m := by
  obtain ⟨a, ca, rfl, -, ha⟩ := hv.own
  have HA := Lib.hid ha; clear ha
  have HO := Lib.hid hv; clear hv
  rw [hn] at HO HA ⊢
  go_enter Tryz.func37, Tryz.ntmps37
  go_wp2
  go_loopw [1, 5] (fun q i wr => ∃ (k : Nat) (m : List Bi), k ≤ n ∧ i = .int .i64 k ∧ q = .int .i64 ((s + 2 * k : Nat) : Int) ∧ w.grownBy wr (Value.slice a n ca).ownBlock ∧ m.length = n ∧ (∀ j, j < k → m[j]? = some (mkI s j)) ∧ OwI B wr (.slice a n ca) m) (fun _ i _ => n - intV i)
  case atStart => exact ⟨0, l, Nat.zero_le _, rfl, rfl, World.grownBy.refl _ _, hn, fun j hj => by omega, HO.out⟩
  case round =>
    obtain ⟨k, m, hk, rfl, rfl, hgr, hm, hmk, hown⟩ := hrel
    have HG := Lib.hid hgr; clear hgr
    have HM := Lib.hid hmk; clear hmk
    have HW := Lib.hid hown; clear hown HO
    by_cases hlt : k < n
    · obtain ⟨g, rfl, -, -⟩ := HA.out k (by omega)
      obtain ⟨d, hd⟩ : ∃ d, m[k]? = some d := ⟨m[k], List.getElem?_eq_getElem (by omega)⟩
      have HD := Lib.hid hd; clear hd
      have HT := Lib.hid (fun w => markText_any (s + 2 * k) w (by omega) (by omega))
      have HC := Lib.hid (show mkI s k = ⟨tx (mtx (s + 2 * k)), ((s + 2 * k : Nat) : Int) + 1⟩ from rfl)
      generalize hq : s + 2 * k = q at *
      generalize tx (mtx q) = s0 at HT HC
      go_wp2_with fail
      refine (HT.out _).mono ?_; rintro e w1 ⟨rfl, b1⟩
      have HG1 := Lib.hid (HG.out.trans (grown_of b1))
      have HW1 := Lib.hid (HW.out.next b1); clear b1
      obtain ⟨⟨c0, c1⟩, ⟨f0, f1⟩, -, -⟩ := HW1.out.at HD.out
      have hq2 : (q : Int) ≤ 30000000 := by omega
      have hq3 : (0 : Int) ≤ (q : Int) := by omega
      go_wp2_with fail
      go_roundw
      case rel =>
        refine ⟨k + 1, m.set k (mkI s k), by omega, by go_num, ?_, ((HG1.out.trans grown_set).trans grown_set), by rw [List.length_set, hm], fun j hj => ?_, ?_⟩
        · congr 1; omega
        · by_cases hjk : j = k
          · subst hjk; rw [List.getElem?_set_self (by omega)]
          · rw [List.getElem?_set_ne (by omega)]; exact HM.out j (by omega)
        · rw [HC.out]
          exact HW1.out.set (by rw [hm]) k (by omega) ⟨s0, (q : Int) + 1⟩
      case measure => simp [intV]; omega
    · obtain rfl : k = n := by omega
      go_wp2_with fail
      go_ret
      exact ⟨rfl, HG.out, m, hm, fun j hj => HM.out j (by omega), HW.out⟩
set_option maxHeartbeats 4000000 in
set_option maxRecDepth 100000 in
theorem heldI_any (s : Nat) (w : World) (a : Option Addr) (cap : Nat) (l : List Bi) (n : Nat) (hn : l.length = n) (hv : VwI w a cap l) (hm : MkdI s l) (hl : n ≤ 4194304) (hs1 : 1 ≤ s) (hs2 : s ≤ 9000000) :
    Calls Tryz.prog 66 #[.slice a n cap, .int .i64 (s : Int)] w fun e w' => e = .returned (.int .i64 ((s + 2 * n : Nat) : Int)) ∧ Below w.heap.size w w' := by
  have HV := Lib.hid hv; clear hv
  have HM := Lib.hid hm; clear hm
  go_enter Tryz.func66, Tryz.ntmps66
  go_wp2
  go_loopw [1, 5] (fun q i wr => ∃ (k : Nat), k ≤ n ∧ i = .int .i64 k ∧ q = .int .i64 ((s + 2 * k : Nat) : Int) ∧ Below w.heap.size w wr) (fun _ i _ => n - intV i)
  case atStart => exact ⟨0, Nat.zero_le _, rfl, rfl, Below.refl _ _⟩
  case round =>
    obtain ⟨k, hk, rfl, rfl, hbel⟩ := hrel
    have HB := Lib.hid hbel; clear hbel
    by_cases hlt : k < n
    · have hc := HM.out k (by omega)
      obtain ⟨g, o, rfl, hg, h5⟩ := HV.out.2.2.2 k _ hc
      obtain ⟨c0, c1⟩ : At2 wr g (o + k * 2) (mkI s k) := h5.same (HB.out.block g hg)
      have hg' : g < wr.heap.size := Nat.lt_of_lt_of_le hg HB.out.size
      have HT := Lib.hid (fun w => markText_any (s + 2 * k) w (by omega) (by omega))
      have e0 : (mkI s k).n = tx (mtx (s + 2 * k)) := rfl
      have e1 : (mkI s k).v = ((s + 2 * k : Nat) : Int) + 1 := rfl
      generalize mkI s k = c at *
      rw [← e0] at HT
      clear hc h5 hg e0
      generalize hq : s + 2 * k = q at *
      have hq2 : (q : Int) ≤ 30000000 := by omega
      have hq3 : (0 : Int) ≤ (q : Int) := by omega
      have i1 : (k : Int) < (n : Int) := by omega
      have i2 : (0 : Int) ≤ (k : Int) := by omega
      have s0 : (c.n.toList == c.n.toList) = true := by simp
      have SOF := Lib.hid (show ∀ z, Below wr.heap.size wr z → (z.cell? ⟨g, o + k * 2, none⟩ = some (.string c.n) ∧ z.cell? ⟨g, o + k * 2 + 1, none⟩ = some (.int .i64 c.v) ∧ Below wr.heap.size wr z) from fun z hz => ⟨coc hz hg' c0, coc hz hg' c1,  hz⟩)
      have E1 := Lib.hid e1; clear e1
      clear c0 c1
      go_wp2_with fail
      refine wp_region_held_drew (S := fun z => z.cell? ⟨g, o + k * 2, none⟩ = some (.string c.n) ∧ z.cell? ⟨g, o + k * 2 + 1, none⟩ = some (.int .i64 c.v) ∧ Below wr.heap.size wr z) (by kernel_rfl) (SOF.out _ (Below.refl _ _).drew) (fun hHeld => ?_)
      refine wpAnyH_take (i := 0) (v := ?v0b) rfl (by kernel_rfl) (by kernel_rfl) (by kernel_rfl) (fun _ _ _ h => h) (Or.inl ⟨by rfl, ?hy0b⟩) (by assumption) ?rest0b
      case hy0b => (intro zz hSw; (try dsimp only at hSw); go_simp; (try with_reducible rfl))
      change wpAnyH _ _ _ _ _ _ _ (Act.put _ (some 12) _) _
      simp only [Act.put, List.setIfInBounds_toArray, List.set_cons_zero, List.set_cons_succ]
      refine wpAnyH_take (i := 1) (v := ?v1b) rfl (by kernel_rfl) (by kernel_rfl) (by kernel_rfl) (fun _ _ _ h => h) (Or.inl ⟨by rfl, ?hy1b⟩) (by assumption) ?rest1b
      case hy1b => (intro zz hSw; (try dsimp only at hSw); go_simp; (try with_reducible rfl))
      change wpAnyH _ _ _ _ _ _ _ (Act.put _ (some 13) _) _
      simp only [Act.put, List.setIfInBounds_toArray, List.set_cons_zero, List.set_cons_succ]
      refine wpAnyH_take (i := 2) (v := ?v2b) rfl (by kernel_rfl) (by kernel_rfl) (by kernel_rfl) (fun _ _ _ h => h) (Or.inl ⟨by rfl, ?hy2b⟩) (by assumption) ?rest2b
      case hy2b => (intro zz hSw; (try dsimp only at hSw); go_simp; (try with_reducible rfl))
      change wpAnyH _ _ _ _ _ _ _ (Act.put _ (some 14) _) _
      simp only [Act.put, List.setIfInBounds_toArray, List.set_cons_zero, List.set_cons_succ]
      refine wpAnyH_take (i := 3) (v := ?v3b) rfl (by kernel_rfl) (by kernel_rfl) (by kernel_rfl) (fun _ _ _ h => h) (Or.inl ⟨by rfl, ?hy3b⟩) (by assumption) ?rest3b
      case hy3b => (intro zz hSw; (try dsimp only at hSw); go_simp; (try with_reducible rfl))
      change wpAnyH _ _ _ _ _ _ _ (Act.put _ (some 15) _) _
      simp only [Act.put, List.setIfInBounds_toArray, List.set_cons_zero, List.set_cons_succ]
      refine wpAnyH_take (i := 4) (v := ?v4b) rfl (by kernel_rfl) (by kernel_rfl) (by kernel_rfl) (fun _ _ _ h => h) (Or.inl ⟨by rfl, ?hy4b⟩) (by assumption) ?rest4b
      case hy4b => (intro zz hSw; (try dsimp only at hSw); go_simp; (try with_reducible rfl))
      change wpAnyH _ _ _ _ _ _ _ (Act.put _ (some 16) _) _
      simp only [Act.put, List.setIfInBounds_toArray, List.set_cons_zero, List.set_cons_succ]
      refine wpAnyH_take (i := 5) (v := ?v5b) rfl (by kernel_rfl) (by kernel_rfl) (by kernel_rfl) (fun _ _ _ h => h) (Or.inl ⟨by rfl, ?hy5b⟩) (by assumption) ?rest5b
      case hy5b => (intro zz hSw; (try dsimp only at hSw); go_simp; (try with_reducible rfl))
      change wpAnyH _ _ _ _ _ _ _ (Act.put _ (some 17) _) _
      simp only [Act.put, List.setIfInBounds_toArray, List.set_cons_zero, List.set_cons_succ]
      refine wpAnyH_ready (rs := [6]) (by kernel_rfl) (by simp) (AllReadyH.cons rfl (fun K hK => ?_) AllReadyH.nil)
      go_simp
      refine (HT.out _).mono ?_; rintro e w' ⟨rfl, bel⟩
      refine hK.out _ _ (SOF.out _ (bel_tr hHeld.2.2 bel (Nat.le_refl _))) (fun hHeld => ?_)
      clear hK K bel
      refine wpAnyH_take (i := 7) (v := ?v7b) rfl (by kernel_rfl) (by kernel_rfl) (by kernel_rfl) (fun _ _ _ h => h) (Or.inl ⟨by rfl, ?hy7b⟩) (by assumption) ?rest7b
      case hy7b => (intro zz hSw; (try dsimp only at hSw); go_simp; (try with_reducible rfl))
      change wpAnyH _ _ _ _ _ _ _ (Act.put _ (some 19) _) _
      simp only [Act.put, List.setIfInBounds_toArray, List.set_cons_zero, List.set_cons_succ]
      refine wpAnyH_done (by kernel_rfl) ?_ _
      have B1 := Lib.hid hHeld.2.2
      obtain ⟨c0, c1, -⟩ := hHeld
      have BX := Lib.hid (bel_tr HB.out B1.out (Nat.le_refl _)); clear B1 SOF
      rw [E1.out] at c1
      have t1 : (((q : Int) + 1) != ((q : Int) + 1)) = false := by simp
      go_wp2_with fail
      go_roundw
      case rel => exact ⟨k + 1, by omega, by go_num, by congr 1; omega, BX.out⟩
      case measure => simp [intV]; omega
    · obtain rfl : k = n := by omega
      go_wp2_with fail
      go_ret
      exact ⟨rfl, HB.out⟩
theorem eqI_own {B C : Nat} {v u : Value} {l : List Bi} (w : World) (hv : OwI B w v l) (hu : OwI C w u l) (hl : l.length ≤ 4194304) :
    Calls Tryz.prog 34 #[v, u] w fun e w' => e = .returned (.bool true) ∧ Below w.heap.size w w' := by
  obtain ⟨a, ca, rfl, h1⟩ := hv.view
  obtain ⟨b, cb, rfl, h2⟩ := hu.view
  exact eqBinS_same w a b ca cb l _ rfl h1 h2 hl
theorem heldI_from {B : Nat} {v : Value} {l : List Bi} {n s : Nat} (w : World) (hv : OwI B w v l) (hn : l.length = n) (hm : MkdI s l) (hl : n ≤ 4194304) (hs1 : 1 ≤ s) (hs2 : s ≤ 9000000) :
    Calls Tryz.prog 66 #[v, .int .i64 (s : Int)] w fun e w' => e = .returned (.int .i64 ((s + 2 * n : Nat) : Int)) ∧ Below w.heap.size w w' := by
  subst hn
  obtain ⟨a, ca, rfl, h1⟩ := hv.view
  exact heldI_any s w a ca l _ rfl h1 hm hl hs1 hs2
end Go.Proofs.YtfnnoehpahdgcaaGreatDoor.Cl
