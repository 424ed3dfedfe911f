/-
  Plain facts on frames: 'fr' is the frame of a text, 'fst?' the text of the frame with which a list of bytes begins, 'Fs' says which texts a file holds; all of them are fixed by the file.
-/
import Derived.Test.YtdalncgbbkeimaaDoorMk
import Derived.Test.YtdalncgbbkeimaaDoorRp
namespace Go.Proofs.YtdalncgbbkeimaaDoor.Fq
open Rp
def nn (c : UInt8) : Bool := c != 10
def nb (c : UInt8) : Bool := c != 32
/-- A text that may be framed. -/
def plB (l : List UInt8) : Bool := l.all nn && decide (l.length ≤ 300)
/-- Its frame. -/
def fr (l : List UInt8) : List UInt8 := Lib.decDigits l.length ++ 32 :: (Lib.decDigits (mkN l) ++ 32 :: (l ++ [10]))
def frm (l : List UInt8) : List UInt8 := if plB l = true then fr l else []
theorem frm_yes {l : List UInt8} (h : plB l = true) : frm l = fr l := by rw [frm, if_pos h]
theorem frm_no {l : List UInt8} (h : plB l = false) : frm l = [] := by rw [frm, if_neg (by rw [h]; decide)]
theorem plB_iff {l : List UInt8} : plB l = true ↔ l.all nn = true ∧ l.length ≤ 300 := by simp [plB]
/-- Its first line. -/
def ln (s : List UInt8) : List UInt8 := s.takeWhile nn
/-- What stands behind two blanks. -/
def bd (l : List UInt8) : List UInt8 := ((l.dropWhile nb).tail.dropWhile nb).tail
/-- The text of the frame with which it begins. -/
def fst? (s : List UInt8) : Option (List UInt8) := if s.any (fun c => !nn c) = true ∧ plB (bd (ln s)) = true ∧ fr (bd (ln s)) = ln s ++ [10] then some (bd (ln s)) else none

theorem uniq {p : UInt8 → Bool} : ∀ {a b : List UInt8} {x y : UInt8} {r t : List UInt8}, a.all p = true → b.all p = true → p x = false → p y = false → a ++ x :: r = b ++ y :: t → a = b ∧ x = y ∧ r = t
  | [], [], x, y, r, t, _, _, _, _, h => by simpa using h
  | [], c :: b, x, y, r, t, _, hb, hx, _, h => by
    simp at h hb; rw [← h.1, hx] at hb; cases hb.1
  | c :: a, [], x, y, r, t, ha, _, _, hy, h => by
    simp at h ha; rw [h.1, hy] at ha; cases ha.1
  | c :: a, d :: b, x, y, r, t, ha, hb, hx, hy, h => by
    simp only [List.cons_append, List.cons.injEq] at h
    simp only [List.all_cons, Bool.and_eq_true] at ha hb
    obtain ⟨h1, h2, h3⟩ := uniq ha.2 hb.2 hx hy h.2
    exact ⟨by rw [h.1, h1], h2, h3⟩
theorem nowhere {p : UInt8 → Bool} {a b : List UInt8} {y : UInt8} {t : List UInt8} (ha : a.all p = true) (hy : p y = false) (h : a = b ++ y :: t) : False := by
  have := List.all_eq_true.1 ha y (by rw [h]; simp)
  rw [hy] at this; cases this
theorem take_stop {p : UInt8 → Bool} {a : List UInt8} (ha : a.all p = true) {x : UInt8} (hx : p x = false) (r : List UInt8) : (a ++ x :: r).takeWhile p = a := by
  induction a with
  | nil => simp [hx]
  | cons c a ih => simp only [List.all_cons, Bool.and_eq_true] at ha; simp [ha.1, ih ha.2]
theorem drop_stop {p : UInt8 → Bool} {a : List UInt8} (ha : a.all p = true) {x : UInt8} (hx : p x = false) (r : List UInt8) : (a ++ x :: r).dropWhile p = x :: r := by
  induction a with
  | nil => simp [hx]
  | cons c a ih => simp only [List.all_cons, Bool.and_eq_true] at ha; simp [ha.1, ih ha.2]
theorem split_at {p : UInt8 → Bool} : ∀ {s : List UInt8}, s.any (fun c => !p c) = true → ∃ x r, p x = false ∧ s = s.takeWhile p ++ x :: r
  | [], h => by simp at h
  | c :: s, h => by
    cases hc : p c
    · exact ⟨c, s, hc, by simp [hc]⟩
    · simp only [List.any_cons, hc, Bool.not_true, Bool.false_or] at h
      obtain ⟨x, r, hx, hs⟩ := split_at h
      exact ⟨x, r, hx, by simp only [List.takeWhile_cons, hc, if_true, List.cons_append]; rw [← hs]⟩
theorem take_all {p : UInt8 → Bool} (s : List UInt8) : (s.takeWhile p).all p = true := by
  induction s with
  | nil => rfl
  | cons c s ih => cases hc : p c <;> simp [hc]
theorem nn_10 : nn 10 = false := by decide
theorem nn_ten {x : UInt8} (h : nn x = false) : x = 10 := by simpa [nn] using h
theorem nb_32 : nb 32 = false := by decide
theorem nb_sp {x : UInt8} (h : nb x = false) : x = 32 := by simpa [nb] using h
theorem dig_32 : isDig 32 = false := by decide
theorem dig_nn {c : UInt8} (h : isDig c = true) : nn c = true := by
  simp [isDig] at h; simp only [nn, bne_iff_ne, ne_eq]; rintro rfl; revert h; decide
theorem dig_nb {c : UInt8} (h : isDig c = true) : nb c = true := by
  simp [isDig] at h; simp only [nb, bne_iff_ne, ne_eq]; rintro rfl; revert h; decide
theorem all_mono {p q : UInt8 → Bool} (h : ∀ {c}, p c = true → q c = true) {l : List UInt8} (hl : l.all p = true) : l.all q = true := by
  rw [List.all_eq_true] at hl ⊢; exact fun c hc => h (hl c hc)
theorem dec_dig (n : Nat) : (Lib.decDigits n).all isDig = true := (dec_is n n (Nat.le_refl _)).1
theorem dec_nn (n : Nat) : (Lib.decDigits n).all nn = true := all_mono dig_nn (dec_dig n)
theorem dec_nb (n : Nat) : (Lib.decDigits n).all nb = true := all_mono dig_nb (dec_dig n)
/-- The frame without its newline. -/
def hd (l : List UInt8) : List UInt8 := Lib.decDigits l.length ++ 32 :: (Lib.decDigits (mkN l) ++ 32 :: l)
theorem fr_hd (l : List UInt8) : fr l = hd l ++ [10] := by simp [fr, hd]
theorem hd_nn {l : List UInt8} (h : l.all nn = true) : (hd l).all nn = true := by
  simp only [hd, List.all_append, List.all_cons, dec_nn, h]; decide
theorem hd_len {l : List UInt8} (h : l.length ≤ 300) : (hd l).length ≤ 310 := by
  have h1 := dec_len 2 l.length (by omega)
  have h2 := dec_len 4 (mkN l) (by have := mk_lt l; omega)
  simp only [hd, List.length_append, List.length_cons]; omega
theorem fr_len {l : List UInt8} (h : plB l = true) : (fr l).length ≤ 311 := by
  have := hd_len (plB_iff.1 h).2
  rw [fr_hd, List.length_append]; simpa using this
theorem fr_pos (l : List UInt8) : 1 ≤ (fr l).length := by rw [fr_hd, List.length_append]; simp
theorem bd_two {a c t : List UInt8} (ha : a.all nb = true) (hc : c.all nb = true) : bd (a ++ 32 :: (c ++ 32 :: t)) = t := by
  unfold bd
  rw [drop_stop ha nb_32, List.tail_cons, drop_stop hc nb_32, List.tail_cons]
theorem bd_hd (l : List UInt8) : bd (hd l) = l := bd_two (dec_nb _) (dec_nb _)
theorem fst_fr {t : List UInt8} (h : plB t = true) (r : List UInt8) : fst? (fr t ++ r) = some t := by
  have hl : ln (fr t ++ r) = hd t := by
    rw [fr_hd]; simp only [List.append_assoc, List.singleton_append]
    exact take_stop (hd_nn (plB_iff.1 h).1) nn_10 r
  unfold fst?
  rw [hl, bd_hd, if_pos]
  refine ⟨?_, h, fr_hd t⟩
  rw [fr_hd]; simp [nn]
theorem fst_some {s t : List UInt8} (h : fst? s = some t) : plB t = true ∧ ∃ r, s = fr t ++ r := by
  unfold fst? at h
  split at h
  · rename_i hh
    obtain ⟨h1, h2, h3⟩ := hh
    cases h
    refine ⟨h2, ?_⟩
    obtain ⟨x, r, hx, hs⟩ := split_at h1
    rw [nn_ten hx] at hs
    exact ⟨r, by rw [h3]; simp only [List.append_assoc, List.singleton_append]; exact hs⟩
  · cases h
theorem fst_none {s : List UInt8} (h : ∀ t, plB t = true → ∀ r, s = fr t ++ r → False) : fst? s = none := by
  cases hs : fst? s with
  | none => rfl
  | some t => obtain ⟨h1, r, h2⟩ := fst_some hs; exact (h t h1 r h2).elim
/-- No newline: no frame. -/
theorem fst_noline {s : List UInt8} (h : s.all nn = true) : fst? s = none :=
  fst_none fun t _ r hs => nowhere h nn_10 (b := hd t) (t := r) (by rw [hs, fr_hd]; simp)
/-- A first line of more than 310 bytes: no frame. -/
theorem fst_long {s a r : List UInt8} (hs : s = a ++ r) (ha : a.all nn = true) (hl : 311 ≤ a.length) : fst? s = none :=
  fst_none fun t ht u hu => by
    have h1 := fr_len ht
    rw [hs] at hu
    have h2 : a.take (fr t).length = fr t := by
      have := congrArg (List.take (fr t).length) hu
      rw [List.take_append_of_le_length (by omega)] at this
      rw [this]; simp
    have h3 : (fr t).all nn = true := by
      rw [← h2, List.all_eq_true]; exact fun c hc => List.all_eq_true.1 ha c (List.mem_of_mem_take hc)
    exact nowhere h3 nn_10 (b := hd t) (t := []) (fr_hd t)
/-- What a line's frame says: 'a' is the line. -/
theorem fst_line {s a r : List UInt8} (hs : s = a ++ 10 :: r) (ha : a.all nn = true) : fst? s = if plB (bd a) = true ∧ fr (bd a) = a ++ [10] then some (bd a) else none := by
  have hl : ln s = a := by rw [hs]; exact take_stop ha nn_10 r
  have h1 : s.any (fun c => !nn c) = true := by rw [hs]; simp [nn]
  unfold fst?
  rw [hl]; simp [h1]
theorem fst_body {s a r t : List UInt8} (hs : s = a ++ 10 :: r) (ha : a.all nn = true) (hb : bd a = t) (h1 : plB t = true) (h2 : fr t = a ++ [10]) : fst? s = some t := by
  rw [fst_line hs ha, hb, if_pos ⟨h1, h2⟩]
theorem fst_nobody {s a r t : List UInt8} (hs : s = a ++ 10 :: r) (ha : a.all nn = true) (hb : bd a = t) (h : ¬ (plB t = true ∧ fr t = a ++ [10])) : fst? s = none := by
  rw [fst_line hs ha, hb, if_neg h]
/-- How a line is cut at its blanks: b of them seen, what is behind the last seen begins at f. -/
inductive Fm : List UInt8 → Nat → Nat → Prop
  | zero {a : List UInt8} : a.all nb = true → Fm a 0 0
  | one {a c : List UInt8} : a.all nb = true → c.all nb = true → Fm (a ++ 32 :: c) 1 (a.length + 1)
  | two {a c t : List UInt8} : a.all nb = true → c.all nb = true → Fm (a ++ 32 :: (c ++ 32 :: t)) 2 (a.length + c.length + 2)
theorem Fm.le {l : List UInt8} {b f : Nat} (h : Fm l b f) : b ≤ 2 ∧ f ≤ l.length := by cases h <;> simp <;> omega
theorem Fm.blank {l : List UInt8} {b f : Nat} (h : Fm l b f) (hb : b < 2) : Fm (l ++ [32]) (b + 1) (l.length + 1) := by
  cases h with
  | zero ha => exact Fm.one ha rfl
  | @one a c ha hc => have := Fm.two (t := []) ha hc; simpa [Nat.add_assoc, Nat.add_comm, Nat.add_left_comm] using this
  | two => omega
theorem Fm.other {l : List UInt8} {b f : Nat} (h : Fm l b f) {x : UInt8} (hx : nb x = true ∨ 2 ≤ b) : Fm (l ++ [x]) b f := by
  cases h with
  | zero ha =>
    refine Fm.zero ?_
    rcases hx with hx | hx
    · rw [List.all_append, ha]; simp [hx]
    · omega
  | @one a c ha hc =>
    have hx : nb x = true := by rcases hx with hx | hx; exact hx; omega
    have := Fm.one (c := c ++ [x]) ha (by rw [List.all_append, hc]; simp [hx])
    simpa using this
  | @two a c t ha hc => have := Fm.two (t := t ++ [x]) ha hc; simpa using this
theorem Fm.body {l : List UInt8} {f : Nat} (h : Fm l 2 f) : bd l = l.drop f := by
  cases h with
  | @two a c t ha hc =>
    rw [bd_two ha hc]
    have e : a ++ 32 :: (c ++ 32 :: t) = (a ++ 32 :: (c ++ [32])) ++ t := by simp
    rw [e, List.drop_left' (by simp; omega)]
theorem Fm.few {l : List UInt8} {b f : Nat} (h : Fm l b f) (hb : b < 2) (t : List UInt8) : hd t ≠ l := by
  intro e
  cases h with
  | zero ha => exact nowhere ha nb_32 e.symm
  | @one a c ha hc =>
    obtain ⟨_, _, h3⟩ := uniq (dec_nb t.length) ha nb_32 nb_32 e
    exact nowhere hc nb_32 h3.symm
  | two => omega
/-- Fewer than two blanks in the line: no frame. -/
theorem fst_few {s a r : List UInt8} {b f : Nat} (hs : s = a ++ 10 :: r) (ha : a.all nn = true) (h : Fm a b f) (hb : b < 2) : fst? s = none :=
  fst_none fun t ht u hu => by
    rw [fr_hd, hs] at hu
    obtain ⟨h1, _, _⟩ := uniq ha (hd_nn (plB_iff.1 ht).1) nn_10 nn_10 (r := r) (t := u) (by simpa using hu)
    exact h.few hb t h1.symm
/-- The shape 'digits, blank, digits, blank, ..' fails at its first part. -/
theorem fst_bad1 {s a r : List UInt8} {x : UInt8} (hs : s = a ++ x :: r) (ha : a.all isDig = true) (hx : isDig x = false) (hb : nb x = true) : fst? s = none :=
  fst_none fun t _ u hu => by
    rw [hs, fr] at hu
    obtain ⟨_, h2, _⟩ := uniq ha (dec_dig t.length) hx dig_32 (by simpa using hu)
    rw [h2] at hb; cases hb
theorem fst_end1 {s : List UInt8} (ha : s.all isDig = true) : fst? s = none := fst_noline (all_mono dig_nn ha)
theorem fst_bad2 {s a c r : List UInt8} {x : UInt8} (hs : s = a ++ 32 :: (c ++ x :: r)) (ha : a.all isDig = true) (hc : c.all isDig = true) (hx : isDig x = false) (hb : nb x = true) : fst? s = none :=
  fst_none fun t _ u hu => by
    rw [hs, fr] at hu
    obtain ⟨_, _, h3⟩ := uniq (r := c ++ x :: r) ha (dec_dig t.length) dig_32 dig_32 (by simpa using hu)
    obtain ⟨_, h2, _⟩ := uniq (y := 32) hc (dec_dig (mkN t)) hx dig_32 h3
    rw [h2] at hb; cases hb
theorem fst_end2 {s a c : List UInt8} (hs : s = a ++ 32 :: c) (ha : a.all isDig = true) (hc : c.all isDig = true) : fst? s = none := by
  refine fst_noline ?_
  rw [hs, List.all_append, List.all_cons, all_mono dig_nn ha, all_mono dig_nn hc]; rfl
theorem two_nn {a c t : List UInt8} (ha : a.all isDig = true) (hc : c.all isDig = true) (ht : t.all nn = true) : (a ++ 32 :: (c ++ 32 :: t)).all nn = true := by
  rw [List.all_append, List.all_cons, List.all_append, List.all_cons, all_mono dig_nn ha, all_mono dig_nn hc, ht]; rfl

/-- The texts one after the other, framed. -/
def tot (l : List (List UInt8)) : List UInt8 := (l.map fr).flatten
theorem tot_nil : tot [] = [] := rfl
theorem tot_snoc (l : List (List UInt8)) (t : List UInt8) : tot (l ++ [t]) = tot l ++ fr t := by simp [tot]
theorem tot_cons (l : List (List UInt8)) (t : List UInt8) : tot (t :: l) = fr t ++ tot l := by simp [tot]
theorem tot_len (l : List (List UInt8)) : l.length ≤ (tot l).length := by
  induction l with
  | nil => simp
  | cons t l ih => rw [tot_cons, List.length_append, List.length_cons]; have := fr_pos t; omega
/-- The file s holds the texts l, and no frame behind them. -/
def Fs (s : List UInt8) (l : List (List UInt8)) : Prop := (∀ t ∈ l, plB t = true) ∧ ∃ r, s = tot l ++ r ∧ fst? r = none
theorem Fs.uniq : ∀ {l m : List (List UInt8)} {s : List UInt8}, Fs s l → Fs s m → l = m
  | [], [], _, _, _ => rfl
  | [], t :: m, s, ⟨_, r, h1, h2⟩, ⟨h3, r', h4, _⟩ => by
    rw [tot_nil, List.nil_append] at h1
    rw [← h1, h4, tot_cons, List.append_assoc, fst_fr (h3 t (by simp))] at h2
    cases h2
  | t :: l, [], s, ⟨h3, r', h4, _⟩, ⟨_, r, h1, h2⟩ => by
    rw [tot_nil, List.nil_append] at h1
    rw [← h1, h4, tot_cons, List.append_assoc, fst_fr (h3 t (by simp))] at h2
    cases h2
  | t :: l, u :: m, s, ⟨h1, r, h2, h3⟩, ⟨k1, q, k2, k3⟩ => by
    have e1 := fst_fr (h1 t (by simp)) (tot l ++ r)
    have e2 := fst_fr (k1 u (by simp)) (tot m ++ q)
    have h2' : s = fr t ++ (tot l ++ r) := by rw [h2, tot_cons, List.append_assoc]
    have k2' : s = fr u ++ (tot m ++ q) := by rw [k2, tot_cons, List.append_assoc]
    rw [← h2'] at e1
    rw [← k2', e1] at e2
    cases e2
    have e3 : tot l ++ r = tot m ++ q := List.append_cancel_left (h2'.symm.trans k2')
    rw [Fs.uniq (s := tot l ++ r) ⟨fun v hv => h1 v (by simp [hv]), r, rfl, h3⟩ ⟨fun v hv => k1 v (by simp [hv]), q, e3, k3⟩]
/-- What FramesIn gives of a file. -/
def Fi (s : List UInt8) (l : List (List UInt8)) : Prop := (s.length ≤ 20000 ∧ Fs s l) ∨ (20000 < s.length ∧ l = [])
theorem Fi.uniq {l m : List (List UInt8)} {s : List UInt8} (h : Fi s l) (k : Fi s m) : l = m := by
  rcases h with ⟨h1, h2⟩ | ⟨h1, h2⟩ <;> rcases k with ⟨k1, k2⟩ | ⟨k1, k2⟩
  · exact h2.uniq k2
  · omega
  · omega
  · rw [h2, k2]
theorem Fi.le {l : List (List UInt8)} {s : List UInt8} (h : Fi s l) : (tot l).length ≤ s.length ∧ (tot l).length ≤ 20000 := by
  rcases h with ⟨h1, _, r, h2, _⟩ | ⟨_, h2⟩
  · have := congrArg List.length h2
    rw [List.length_append] at this; omega
  · subst h2; simp [tot_nil]
theorem Fi.take {l : List (List UInt8)} {s : List UInt8} (h : Fi s l) : s.take (tot l).length = tot l := by
  rcases h with ⟨h1, _, r, h2, _⟩ | ⟨_, h2⟩
  · rw [h2]; simp
  · subst h2; simp [tot_nil]
/-- A file of whole frames holds them. -/
theorem Fs.whole {l : List (List UInt8)} (h : ∀ t ∈ l, plB t = true) : Fs (tot l) l := ⟨h, [], by simp, by decide⟩
end Go.Proofs.YtdalncgbbkeimaaDoor.Fq
