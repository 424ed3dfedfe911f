/-
  Draws of stores: spec.l6Draw, spec.l6DrawGrown.
-/
import Derived.Test.YtkkpokfekbdigaaDf
import Derived.Test.YtkkpokfekbdigaaWi
namespace Go.Proofs.Ytkkpokfekbdigaa.Cl
open Go.RowKit Wd Rp Cu Kp Ra
set_option linter.unusedVariables false
/-- A small store. -/
def Sto (n : Nat) (h : List Cel) (ss : List (List Cel)) : Prop := h.length ≤ n ∧ ss.length ≤ 5 ∧ Smalls h ∧ ∀ l ∈ ss, l.length ≤ n ∧ Smalls l
def Stor (h : List Cel) (ss : List (List Cel)) : Prop := h.length ≤ 260 ∧ ss.length ≤ 10 ∧ Smalls h ∧ ∀ l ∈ ss, l.length ≤ 260 ∧ Smalls l
theorem Sto.stor {n : Nat} {h : List Cel} {ss : List (List Cel)} (s : Sto n h ss) (hn : n ≤ 200) : Stor h ss := ⟨by have := s.1; omega, by have := s.2.1; omega, s.2.2.1, fun l hl => ⟨by have := (s.2.2.2 l hl).1; omega, (s.2.2.2 l hl).2⟩⟩
theorem Stor.low {h : List Cel} {ss : List (List Cel)} (s : Stor h ss) : Low h ss := ⟨by have := s.1; omega, by have := s.2.1; omega, fun l hl => by have := (s.2.2.2 l hl).1; omega⟩
theorem Stor.mod {h : List Cel} {ss : List (List Cel)} (s : Stor h ss) : Mod h ss := ⟨fun c hc => (s.2.2.1 c hc).mod, fun l hl c hc => ((s.2.2.2 l hl).2 c hc).mod⟩
theorem putQ_le (h : List Cel) (c : Cel) : (putQ h c).1.length ≤ h.length + 1 := by
  unfold putQ
  split
  · split
    · simp only; omega
    · exact putL_le h c
  · simp only; omega
theorem putQ_small {h : List Cel} {c : Cel} (hs : Smalls h) (hc : c.small) : Smalls (putQ h c).1 := by
  unfold putQ
  split
  · split
    · exact hs
    · exact hs.put hc
  · exact hs
theorem Sto.put {n : Nat} {h : List Cel} {ss : List (List Cel)} {c : Cel} (s : Sto n h ss) (hc : c.small) : Sto (n + 1) (putQ h c).1 ss :=
  ⟨by have := putQ_le h c; have := s.1; omega, s.2.1, putQ_small s.2.2.1 hc, fun l hl => ⟨by have := (s.2.2.2 l hl).1; omega, (s.2.2.2 l hl).2⟩⟩
theorem Sto.lay {n : Nat} {h : List Cel} {ss : List (List Cel)} (s : Sto n h ss) : Sto n (lyH h ss) (lyS h ss) := by
  unfold lyH lyS
  cases e : lyB h ss
  · exact s
  · have h5 : ss.length ≠ 5 := fun h5 => by unfold lyB at e; rw [h5] at e; simp at e
    have := s.2.1
    refine ⟨Nat.zero_le _, by simp; omega, (fun c hc => by cases hc), fun l hl => ?_⟩
    rcases List.mem_cons.1 (show l ∈ h :: ss from hl) with rfl | hl
    · exact ⟨s.1, s.2.2.1⟩
    · exact s.2.2.2 l hl
theorem but_ins {b : Nat} {w w' : World} (h : But b w w') : Ins b (b + 1) w w' := ⟨h.os, h.tape, h.output, h.size, fun k hk hb => h.block k hk (by omega)⟩
theorem OwB.but {C b : Nat} {w w' : World} {hv sv : Value} {h : List Cel} {ss : List (List Cel)} (o : OwB C w hv sv h ss) (hb : But b w w') (hC : b < C) : OwB C w' hv sv h ss := (o.top.ins (but_ins hb) (.inr hC)).own
theorem Bb.but {q b : Nat} {u v : Value} {w w' : World} (h : Bb q u v w) (hb : But b w w') (hq : q ≠ b) : Bb q u v w' := h.same' (hb.block q h.2.2.2.2 hq)
theorem Bb.kept {q O : Nat} {u v : Value} {w w' : World} (h : Bb q u v w) (k : Kept (fun k => k = O) none w w') (hq : q ≠ O) : Bb q u v w' := h.same' (k.block q h.2.2.2.2 hq (by simp))
theorem st_kept {w0 w w' : World} {B b O : Nat} (h : St w0 B b w) (k : Kept (fun k => k = O) none w w') (hO : w0.heap.size ≤ O) : St w0 B b w' := by
  have hlt := h.lt
  have hle := h.cur.le
  have hs := h.size
  refine ⟨⟨k.os.trans h.but.os, k.tape.trans h.but.tape, k.output.trans h.but.output, Nat.le_trans h.but.size k.size, fun i hi hb => (k.block i (by omega) (fun e => by have : i = O := e; omega) (by simp)).trans (h.but.block i hi hb)⟩, ?_, hlt⟩
  exact h.cur.carry (fun i hi => k.block i (by omega) (fun e => by have : i = O := e; omega) (by simp)) (k.block b (by omega) (fun e => by have : b = O := e; omega) (by simp))
/-- A store under way: in the block O, cursor b. -/
def Und (w0 : World) (B b O n : Nat) (w : World) : Prop := ∃ hv sv h ss, Bb O hv sv w ∧ OwB (O + 1) w hv sv h ss ∧ Sto n h ss ∧ Bb w0.heap.size (.slice none 0 0) (.slice none 0 0) w ∧ St w0 B b w ∧ O + 1 ≤ w.heap.size
theorem Und.but {w0 w w' : World} {B b O n : Nat} (u : Und w0 B b O n w) (hb : But b w w') (hc : Cur B b w') (hO : w0.heap.size < O) : Und w0 B b O n w' := by
  obtain ⟨hv, sv, h, ss, h1, h2, h3, h4, h5, h6⟩ := u
  have := h5.lt
  exact ⟨hv, sv, h, ss, h1.but hb (by omega), h2.but hb (by omega), h3, h4.but hb (by omega), h5.draws hb hc, Nat.le_trans h6 hb.size⟩
theorem Und.next {w0 w w' : World} {B b O n : Nat} (u : Und w0 B b O n w) (hb : Below w.heap.size w w') : Und w0 B b O n w' := by
  obtain ⟨hv, sv, h, ss, h1, h2, h3, h4, h5, h6⟩ := u
  exact ⟨hv, sv, h, ss, h1.next hb, h2.next hb, h3, h4.next hb, st_next h5 hb, Nat.le_trans h6 hb.size⟩
theorem und_put {w0 : World} {B b O n : Nat} {w : World} (u : Und w0 B b O n w) (hO : w0.heap.size < O) (hn : n ≤ 200) (c : Cel) (hc : c.small) :
    Calls Try.prog 89 #[.pointer (some ⟨O, 0, none⟩), .agg #[.string c.r, .string c.b, .int .i64 c.t, .int .i64 c.v, .bool c.g]] w fun e w' => (∃ t : Bool, e = .returned (.bool t)) ∧ Und w0 B b O (n + 1) w' ∧ Kept (fun k => k = O) none w w' := by
  obtain ⟨hv, sv, h, ss, h1, h2, h3, h4, h5, h6⟩ := u
  obtain ⟨ha, hcp, sa, sc, hs, rfl, rfl, hvw, -⟩ := h2.view
  refine (l6Put_any w O ha h.length hcp _ h c h1 rfl hvw (by have := h3.1; omega) hc.mod).mono ?_
  rintro e w' ⟨he, k, v', m, d⟩
  have ot := h2.top.ins (kept_ins k) (.inr (Nat.le_refl _))
  refine ⟨⟨_, he⟩, ⟨v', _, _, ss, m, ?_, h3.put hc, h4.kept k (by omega), st_kept h5 k (by omega), Nat.le_trans h6 k.size⟩, k⟩
  rcases d with ⟨e1, e2⟩ | d
  · rw [e1, e2]; exact ot.own
  · exact OwT.hand ot d h6 (Nat.le_refl _)
theorem und_lay {w0 : World} {B b O n : Nat} {w : World} (u : Und w0 B b O n w) (hO : w0.heap.size < O) :
    Calls Try.prog 93 #[.pointer (some ⟨O, 0, none⟩)] w fun e w' => (∃ t : Bool, e = .returned (.bool t)) ∧ Und w0 B b O n w' ∧ Kept (fun k => k = O) none w w' := by
  obtain ⟨hv, sv, h, ss, h1, h2, h3, h4, h5, h6⟩ := u
  refine (l6Lay_any w O (O + 1) w.heap.size h1 h2.top (.inl (Nat.lt_succ_self _)) h6 (by have := h3.2.1; omega)).mono ?_
  rintro e w' ⟨he, k, v', s', m, d⟩
  exact ⟨⟨_, he⟩, ⟨v', s', _, _, m, d, h3.lay, h4.kept k (by omega), st_kept h5 k (by omega), Nat.le_trans h6 k.size⟩, k⟩
def DrawsS (n B b : Nat) (w : World) (e : Ending) (w' : World) : Prop := ∃ hv sv h ss, e = .returned (.agg #[hv, sv]) ∧ OwB w.heap.size w' hv sv h ss ∧ Stor h ss ∧ ss.length ≤ n ∧ Cur B b w' ∧ But b w w'
theorem und_start {w0 : World} {B b : Nat} (hc : Cur B b w0) : Und w0 B b (w0.heap.size + 1) 0 ((w0.alloc (.cells #[.slice none 0 0, .slice none 0 0] 45)).alloc (.cells #[.slice none 0 0, .slice none 0 0] 45)) := by
  have f := LdF.made (.slice none 0 0) (.slice none 0 0) w0
  exact ⟨_, _, [], [], f.2, OwB.nothing _ _, ⟨by simp, by simp, (fun c hc => by cases hc), (fun l hl => by cases hl)⟩, f.1, St.alloc (St.alloc ⟨But.refl b w0, hc, hc.lt⟩ _) _, by simp⟩
theorem und_end {w0 w : World} {B b O n : Nat} {hv sv : Value} {h : List Cel} {ss : List (List Cel)} (h2 : OwB (O + 1) w hv sv h ss) (h4 : Bb w0.heap.size (.slice none 0 0) (.slice none 0 0) w) (h5 : St w0 B b w) (hO : w0.heap.size < O) :
    Bb w0.heap.size hv sv ((w.setCell ⟨w0.heap.size, 0, none⟩ hv).setCell ⟨w0.heap.size, 1, none⟩ sv) ∧ OwB w0.heap.size ((w.setCell ⟨w0.heap.size, 0, none⟩ hv).setCell ⟨w0.heap.size, 1, none⟩ sv) hv sv h ss ∧ St w0 B b ((w.setCell ⟨w0.heap.size, 0, none⟩ hv).setCell ⟨w0.heap.size, 1, none⟩ sv) :=
  ⟨(h4.set0 hv).set1 sv, ((h2.put (p := ⟨w0.heap.size, 0, none⟩) (by show w0.heap.size < O + 1; omega) _).put (p := ⟨w0.heap.size, 1, none⟩) (by show w0.heap.size < O + 1; omega) _).mono (by omega), (h5.setNew (p := ⟨w0.heap.size, 0, none⟩) (Nat.le_refl _) _).setNew (p := ⟨w0.heap.size, 1, none⟩) (Nat.le_refl _) _⟩
set_option maxRecDepth 100000 in
set_option maxHeartbeats 4000000 in
theorem drawS_any (B b : Nat) (w : World) (hc : Cur B b w) : Calls Try.prog 111 #[.pointer (some ⟨b, 0, none⟩)] w (DrawsS 5 B b w) := by
  have HU := Lib.hid (und_start hc); clear hc
  go_enter Try.func111, Try.ntmps111
  go_wp2_with fail
  refine (below_any B b _ _ (by obtain ⟨_, _, _, _, _, _, _, _, h, _⟩ := HU.out; exact h.cur) (by decide) (by decide)).mono ?_; rintro e w1 ⟨y, rfl, y0, y1, hc1, hw1⟩
  have HU1 := Lib.hid (HU.out.but hw1 hc1 (by omega)); clear hw1 hc1 HU
  obtain ⟨m, rfl⟩ := Int.eq_ofNat_of_zero_le y0
  go_wp2_with fail
  go_loopw [4] (fun i wr => ∃ k : Nat, i = .int .i64 (k : Int) ∧ k ≤ 15 ∧ Und w B b (w.heap.size + 1) (15 - k) wr) (fun i _ => intV i)
  case atStart => exact ⟨m, rfl, by omega, by obtain ⟨hv, sv, h, ss, h1, h2, h3, h4⟩ := HU1.out; exact ⟨hv, sv, h, ss, h1, h2, ⟨by have := h3.1; omega, h3.2.1, h3.2.2.1, fun l hl => ⟨by have := (h3.2.2.2 l hl).1; omega, (h3.2.2.2 l hl).2⟩⟩, h4⟩⟩
  case round =>
    clear HU1
    obtain ⟨k, rfl, hk, hu⟩ := hrel
    have HU := Lib.hid hu; clear hu
    by_cases hp : 0 < k
    · have i1 : (0 : Int) < (k : Int) := by omega
      have i2 : (k : Int) - 1 = ((k - 1 : Nat) : Int) := by omega
      go_wp2_with fail
      refine (drawCell_any B b _ (by obtain ⟨_, _, _, _, _, _, _, _, h, _⟩ := HU.out; exact h.cur)).mono ?_; rintro e w2 ⟨r, s, t, v, g, rfl, hn, hc2, hw2⟩
      have HU2 := Lib.hid (HU.out.but hw2 hc2 (by omega)); clear hw2 hc2 HU
      have HN := Lib.hid (near_small (g := g) hn); clear hn
      go_wp2_with fail
      refine (und_put HU2.out (by omega) (by omega) ⟨r, s, t, v, g⟩ HN.out).mono ?_; rintro e w3 ⟨⟨t3, rfl⟩, u3, -⟩
      have HU3 := Lib.hid u3; clear u3 HU2
      go_wp2_with fail
      refine (once_any B b _ _ (by obtain ⟨_, _, _, _, _, _, _, _, h, _⟩ := HU3.out; exact h.cur) (by decide) (by decide)).mono ?_; rintro e w4 ⟨t4, rfl, hc4, hw4⟩
      have HU4 := Lib.hid (HU3.out.but hw4 hc4 (by omega)); clear hw4 hc4 HU3
      rw [show 15 - k + 1 = 15 - (k - 1) by omega] at HU4
      cases t4
      · go_wp2_with fail
        go_roundw
        case rel => exact ⟨k - 1, by go_num, by omega, HU4.out⟩
        case measure => simp [intV]; omega
      · go_wp2_with fail
        refine (und_lay HU4.out (by omega)).mono ?_; rintro e w5 ⟨⟨t5, rfl⟩, u5, -⟩
        have HU5 := Lib.hid u5; clear u5 HU4
        go_wp2_with fail
        go_roundw
        case rel => exact ⟨k - 1, by go_num, by omega, HU5.out⟩
        case measure => simp [intV]; omega
    · obtain rfl : k = 0 := by omega
      obtain ⟨hv, sv, h, ss, h1, h2, h3, h4, h5, h6⟩ := HU.out
      have EE := Lib.hid (und_end (n := 0) h2 h4 h5 (by omega))
      have HS := Lib.hid (And.intro (h3.stor (by omega)) h3.2.1)
      obtain ⟨ha, hcp, sa, sc, hs, rfl, rfl, -, -⟩ := h2.view
      obtain ⟨x0, x1, x2, x3, x4⟩ := h1
      obtain ⟨r0, r1, r2, r3, r4⟩ := h4
      clear h2 h3 h5 h6 HU
      generalize h.length = hl at *
      generalize hsl : ss.length = sl at *
      go_wp2_with fail
      generalize (wr.setCell ⟨w.heap.size, 0, none⟩ (.slice ha hl hcp)).setCell ⟨w.heap.size, 1, none⟩ (.slice sa sl sc) = Z at *
      clear x0 x1 x2 x3 x4 r0 r1 r2 r3 r4
      obtain ⟨e1, e2, -⟩ := id EE.out.1
      refine bodyPost_ret (v := .agg #[.slice ha hl hcp, .slice sa sl sc]) (by simp [results, Try.results111, go_sem, e1, e2]) rfl ⟨_, _, h, ss, rfl, EE.out.2.1, HS.out.1, by rw [hsl]; exact HS.out.2, EE.out.2.2.cur, EE.out.2.2.but⟩
theorem Cb.time {q : Nat} {c : Cel} {w : World} (h : Cb q c w) (T : Int) : Cb q ⟨c.r, c.b, T, c.v, c.g⟩ (w.setCell ⟨q, 2, none⟩ (.int .i64 T)) := by
  obtain ⟨⟨h0, h1, h2, h3, h4⟩, ⟨f0, f1, f2, f3, f4⟩, hl⟩ := h
  have o : ∀ k, k ≠ 2 → (w.setCell ⟨q, 2, none⟩ (.int .i64 T)).cell? ⟨q, k, none⟩ = w.cell? ⟨q, k, none⟩ := fun k hk => World.cell?_setCell_other _ _ _ _ (by intro e; cases e; exact hk rfl)
  have z : ∀ k, (w.setCell ⟨q, 2, none⟩ (.int .i64 T)).frozen? ⟨q, k, none⟩ = w.frozen? ⟨q, k, none⟩ := fun k => World.frozen?_setCell _ _ _ _
  exact ⟨⟨(o 0 (by decide)).trans h0, (o 1 (by decide)).trans h1, World.cell?_setCell_same' _ _ _ (by rw [h2]; rfl), (o 3 (by decide)).trans h3, (o 4 (by decide)).trans h4⟩, ⟨(z 0).trans f0, (z 1).trans f1, (z 2).trans f2, (z 3).trans f3, (z 4).trans f4⟩, by rw [World.size_setCell]; exact hl⟩
theorem Cb.but {q b : Nat} {c : Cel} {w w' : World} (h : Cb q c w) (hb : But b w w') (hq : q ≠ b) : Cb q c w' := h.same (hb.block q h.2.2 hq)
theorem Und.cur {w0 w : World} {B b O n : Nat} (u : Und w0 B b O n w) : Cur B b w := by obtain ⟨_, _, _, _, _, _, _, _, h, _⟩ := u; exact h.cur
theorem Und.lt {w0 w : World} {B b O n : Nat} (u : Und w0 B b O n w) : b < w0.heap.size ∧ O < w.heap.size := by obtain ⟨_, _, _, _, _, _, _, _, h, h2⟩ := u; exact ⟨h.lt, h2⟩
theorem Und.grow {w0 w : World} {B b O n m : Nat} (u : Und w0 B b O n w) (h : n ≤ m) : Und w0 B b O m w := by
  obtain ⟨hv, sv, h', ss, h1, h2, h3, h4⟩ := u
  exact ⟨hv, sv, h', ss, h1, h2, ⟨by have := h3.1; omega, h3.2.1, h3.2.2.1, fun l hl => ⟨by have := (h3.2.2.2 l hl).1; omega, (h3.2.2.2 l hl).2⟩⟩, h4⟩
set_option maxRecDepth 100000 in
set_option maxHeartbeats 8000000 in
theorem drawG_any (B b : Nat) (w : World) (hc : Cur B b w) : Calls Try.prog 112 #[.pointer (some ⟨b, 0, none⟩)] w (DrawsS 5 B b w) := by
  have HU := Lib.hid (und_start hc); clear hc
  go_enter Try.func112, Try.ntmps112
  go_wp2_with fail
  refine (below_any B b _ _ HU.out.cur (by decide) (by decide)).mono ?_; rintro e w1 ⟨y, rfl, y0, y1, hc1, hw1⟩
  have HU1 := Lib.hid (HU.out.but hw1 hc1 (by omega)); clear hw1 hc1 HU
  obtain ⟨m, rfl⟩ := Int.eq_ofNat_of_zero_le y0
  go_wp2_with fail
  go_loopw [4, 5] (fun s4 i wr => ∃ (k : Nat) (T : Int), i = .int .i64 (k : Int) ∧ s4 = .int .i64 T ∧ 1 ≤ T ∧ T ≤ 1 + 3 * (15 - k) ∧ k ≤ 15 ∧ Und w B b (w.heap.size + 1) (15 - k) wr) (fun _ i _ => intV i)
  case atStart => exact ⟨m, 1, rfl, rfl, by omega, by omega, by omega, HU1.out.grow (Nat.zero_le _)⟩
  case round =>
    clear HU1
    obtain ⟨k, T, rfl, rfl, hT0, hT1, hk, hu⟩ := hrel
    have HU := Lib.hid hu; clear hu
    by_cases hp : 0 < k
    · have i1 : (0 : Int) < (k : Int) := by omega
      have i2 : (k : Int) - 1 = ((k - 1 : Nat) : Int) := by omega
      go_wp2_with fail
      refine (drawCell_any B b _ HU.out.cur).mono ?_; rintro e w2 ⟨r, s, t, v, g, rfl, hn, hc2, hw2⟩
      have HU2 := Lib.hid ((HU.out.but hw2 hc2 (by omega)).next (bel1 w2 (.cells #[.string r, .string s, .int .i64 T, .int .i64 v, .bool g] 28))); clear hw2 hc2 HU
      have HC2 := Lib.hid (Cb.made ⟨r, s, T, v, g⟩ w2 28)
      have HN := Lib.hid (show (⟨r, s, T, v, g⟩ : Cel).small from ⟨hn.1, hn.2.1, by show -1 ≤ T; omega, by show T ≤ 1000001; omega⟩); clear hn
      have hqb : w2.heap.size ≠ b := by have := HU2.out.lt; simp at this; omega
      go_wp2_with fail
      refine (below_any B b _ _ HU2.out.cur (by decide) (by decide)).mono ?_; rintro e w3 ⟨y5, rfl, y50, y51, hc3, hw3⟩
      have HU3 := Lib.hid (HU2.out.but hw3 hc3 (by omega))
      have HC3 := Lib.hid (HC2.out.but hw3 hqb); clear hw3 hc3 HU2 HC2
      obtain ⟨⟨c0, c1, c2, c3, c4⟩, -, -⟩ := id HC3.out
      have i3 : IntKind.i64.wrap (T + y5) = T + y5 := by rw [IntKind.wrap_i64]; omega
      go_wp2_with fail
      refine (und_put HU3.out (by omega) (by omega) ⟨r, s, T, v, g⟩ HN.out).mono ?_; rintro e w4 ⟨⟨t3, rfl⟩, u3, -⟩
      have HU4 := Lib.hid u3; clear u3 HU3 c0 c1 c2 c3 c4 HC3
      go_wp2_with fail
      refine (once_any B b _ _ HU4.out.cur (by decide) (by decide)).mono ?_; rintro e w5 ⟨t4, rfl, hc4, hw4⟩
      have HU5 := Lib.hid (HU4.out.but hw4 hc4 (by omega)); clear hw4 hc4 HU4
      rw [show 15 - k + 1 = 15 - (k - 1) by omega] at HU5
      cases t4
      · go_wp2_with fail
        go_roundw
        case rel => exact ⟨k - 1, T + y5, by go_num, rfl, by omega, by omega, by omega, HU5.out⟩
        case measure => simp [intV]; omega
      · go_wp2_with fail
        refine (und_lay HU5.out (by omega)).mono ?_; rintro e w6 ⟨⟨t5, rfl⟩, u5, -⟩
        have HU6 := Lib.hid u5; clear u5 HU5
        have i4 : IntKind.i64.wrap (T + y5 + 1) = T + y5 + 1 := by rw [IntKind.wrap_i64]; omega
        go_wp2_with fail
        go_roundw
        case rel => exact ⟨k - 1, T + y5 + 1, by go_num, rfl, by omega, by omega, by omega, HU6.out⟩
        case measure => simp [intV]; omega
    · obtain rfl : k = 0 := by omega
      obtain ⟨hv, sv, h, ss, h1, h2, h3, h4, h5, h6⟩ := HU.out
      have EE := Lib.hid (und_end (n := 0) h2 h4 h5 (by omega))
      have HS := Lib.hid (And.intro (h3.stor (by omega)) h3.2.1)
      obtain ⟨ha, hcp, sa, sc, hs, rfl, rfl, -, -⟩ := h2.view
      obtain ⟨x0, x1, x2, x3, x4⟩ := h1
      obtain ⟨r0, r1, r2, r3, r4⟩ := h4
      clear h2 h3 h5 h6 HU
      generalize h.length = hl at *
      generalize hsl : ss.length = sl at *
      go_wp2_with fail
      generalize (wr.setCell ⟨w.heap.size, 0, none⟩ (.slice ha hl hcp)).setCell ⟨w.heap.size, 1, none⟩ (.slice sa sl sc) = Z at *
      clear x0 x1 x2 x3 x4 r0 r1 r2 r3 r4
      obtain ⟨e1, e2, -⟩ := id EE.out.1
      refine bodyPost_ret (v := .agg #[.slice ha hl hcp, .slice sa sl sc]) (by simp [results, Try.results112, go_sem, e1, e2]) rfl ⟨_, _, h, ss, rfl, EE.out.2.1, HS.out.1, by rw [hsl]; exact HS.out.2, EE.out.2.2.cur, EE.out.2.2.but⟩
end Go.Proofs.Ytkkpokfekbdigaa.Cl
