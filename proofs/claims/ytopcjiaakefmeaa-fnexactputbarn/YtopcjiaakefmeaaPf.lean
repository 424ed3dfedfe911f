/-
  Contracts of container/heap's Push, Pop and Fix over impl.piles.
-/
import Derived.Test.YtopcjiaakefmeaaPe
namespace Go.Proofs.Ytopcjiaakefmeaa.Cl
open Go.RowKit Wd Rp Kp
set_option linter.unusedVariables false
theorem Below.onl {B b g : Nat} {w w' : World} (h : Below B w w') {x : World} (k : Onl b g w' x) (hb : B ≤ b) (hg : B ≤ g) (hs : B ≤ w'.heap.size) : Below B w x := h.trans (k.below hb hg hs)
/-- What heap.Push leaves. -/
def HPushPost (B b : Nat) (l : List Pile) (w : World) (e : Ending) (w' : World) : Prop := ∃ g cap m, e = .returned (.tuple #[]) ∧ List.Perm m l ∧ Hp.Heap Pile.lt m m.length ∧ Hs B b w' g cap m ∧ Below b w w'
set_option maxHeartbeats 4000000 in
set_option maxRecDepth 100000 in
theorem hpush_any (w : World) (B b : Nat) (v : Value) (l : List Pile) (p : Pile) (hc : w.cell? ⟨b, 0, none⟩ = some v) (hf : w.frozen? ⟨b, 0, none⟩ = false) (ho : OwP (b + 1) w v l) (hb : b < w.heap.size) (hB : B ≤ b) (hl : l.length ≤ 4194303) (hk : PilesOk B w (l ++ [p])) (hh : Hp.Heap Pile.lt l l.length) :
    Calls Try.prog 124 #[.iface 139 (.pointer (some ⟨b, 0, none⟩)), .iface 141 (.agg #[.int .i64 (p.k : Int), .slice p.a p.c.length p.cap])] w (HPushPost B b (l ++ [p]) w) := by
  have HPU := Lib.hid (pushM_any w b v l p hc hf ho hb hl)
  have HK := Lib.hid hk; clear hk
  have HH := Lib.hid (hh.push p); clear hh
  clear hc hf ho
  have mp := m_push b
  have ep := e_push
  have hn : (l ++ [p]).length = l.length + 1 := by simp
  have HNE := Lib.hid hn
  generalize l ++ [p] = lp at *
  generalize l.length = L at *
  go_enter Try.func124, Try.ntmps124
  clear hn
  go_wp2_with fail
  refine HPU.out.mono ?_; rintro e w1 ⟨g, cap, rfl, c1, f1, r1, b1⟩
  have h1 : Hs B b w1 g cap lp := ⟨c1, f1, r1, HK.out.low b1.size (fun k hk => b1.block k (by omega)), hB, Nat.lt_of_lt_of_le hb b1.size⟩
  have HUP := up_any w1 B b g cap lp L (by rw [HNE.out]; omega) (by rw [HNE.out]; omega) h1 (by rw [HNE.out]; exact HH.out)
  rw [show (L : Int) = (lp.length : Int) - 1 by rw [HNE.out]; omega] at HUP
  have HU := Lib.hid HUP
  have HBW := Lib.hid b1
  have hlp : 1 ≤ lp.length := by rw [HNE.out]; omega
  have hlp2 : lp.length ≤ 4194304 := by rw [HNE.out]; omega
  have ml := m_len b _ w1 c1
  have el := e_len
  clear mp ep b1 r1 f1 HUP
  go_wp2_with fail
  refine (lenP_any _ _ _ _).mono ?_; rintro e w' ⟨rfl, rfl⟩
  clear ml el c1
  go_wp2_with fail
  refine HU.out.mono ?_; rintro e w2 ⟨m, rfl, p2, hp2, s2, o2⟩
  have H2 := Lib.hid (And.intro p2 (And.intro hp2 (And.intro s2 o2))); clear p2 hp2 s2 o2
  go_wp2_with fail
  go_end0
  obtain ⟨p2, hp2, s2, o2⟩ := H2.out
  have hne := h1.ne
  exact ⟨g, cap, m, rfl, p2, hp2, s2, Below.onl (b := b) (g := g) HBW.out o2.wid (Nat.le_refl _) (by have := h1.2.2.1.base; omega) (Nat.le_of_lt h1.2.2.2.2.2)⟩
/-- What heap.Fix leaves. -/
def FixPost (B b g cap : Nat) (l : List Pile) (w : World) (e : Ending) (w' : World) : Prop := ∃ m, e = .returned (.tuple #[]) ∧ List.Perm m l ∧ Hp.Heap Pile.lt m m.length ∧ Hs B b w' g cap m ∧ Onl g g w w'
set_option maxHeartbeats 4000000 in
set_option maxRecDepth 100000 in
theorem hfix_any (w : World) (B b g cap : Nat) (l : List Pile) (hl : l.length ≤ 4194304) (h0 : 0 < l.length) (h : Hs B b w g cap l) (hs : Hp.Sink Pile.lt l l.length 0) :
    Calls Try.prog 140 #[.iface 139 (.pointer (some ⟨b, 0, none⟩)), .int .i64 0] w (FixPost B b g cap l w) := by
  have ml := m_len b _ w h.1
  have el := e_len
  have HD := Lib.hid (down_any w B b g cap l l.length (Nat.le_refl _) hl h hs)
  clear hs h
  go_enter Try.func140, Try.ntmps140
  go_wp2_with fail
  refine (lenP_any _ _ _ _).mono ?_; rintro e w' ⟨rfl, rfl⟩
  clear ml el
  go_wp2_with fail
  refine HD.out.mono ?_; rintro e w1 ⟨x, m, rfl, p1, hp1, -, s1, o1⟩
  have HML := Lib.hid p1.length_eq
  have HH := Lib.hid (show Hp.Heap Pile.lt m m.length by rw [HML.out]; exact hp1)
  have HU := up_any w1 B b g cap m 0 (by rw [HML.out]; exact h0) (by rw [HML.out]; exact hl) s1 (HH.out.rise lt_ord (by rw [HML.out]; exact h0) (Nat.le_refl _))
  rw [show ((0 : Nat) : Int) = 0 from rfl] at HU
  have HUU := Lib.hid HU
  have H1 := Lib.hid (And.intro p1 (And.intro s1 o1)); clear p1 hp1 s1 o1 HU
  cases x
  · go_wp2_with fail
    refine HUU.out.mono ?_; rintro e w2 ⟨m2, rfl, p2, hp2, s2, o2⟩
    have H2 := Lib.hid (And.intro p2 (And.intro hp2 (And.intro s2 o2))); clear p2 hp2 s2 o2
    go_wp2_with fail
    go_end0
    obtain ⟨p2, hp2, s2, o2⟩ := H2.out
    exact ⟨m2, rfl, p2.trans H1.out.1, hp2, s2, H1.out.2.2.trans o2⟩
  · go_wp2_with fail
    go_end0
    exact ⟨m, rfl, H1.out.1, HH.out, H1.out.2.1, H1.out.2.2⟩
/-- What heap.Pop leaves. -/
def HPopPost (B b g cap : Nat) (r : List Pile) (w : World) (e : Ending) (w' : World) : Prop := ∃ (v : Value) (m : List Pile), e = .returned v ∧ List.Perm m r ∧ Hp.Heap Pile.lt m m.length ∧ Hs B b w' g cap m ∧ Onl b g w w'
/-- Behind down: the last is the old top. -/
theorem last_split {m l1 : List Pile} {t : Pile} {n : Nat} (hm : m.length = n + 1) (hn : m[n]? = some t) : m = m.take n ++ [t] := by
  have e := List.take_append_drop n m
  have hd : m.drop n = [t] := by
    rw [List.drop_eq_getElem_cons (by omega), List.drop_of_length_le (by omega)]
    rw [List.getElem?_eq_getElem (by omega)] at hn
    rw [Option.some.inj hn]
  rw [hd] at e; exact e.symm
theorem perm_rest {m l1 r : List Pile} {t : Pile} (h : List.Perm (m ++ [t]) l1) (k : List.Perm l1 (t :: r)) : List.Perm m r :=
  ((List.perm_append_singleton t m).symm.trans (h.trans k)).cons_inv
theorem Hs.pops {B b : Nat} {w w' : World} {g cap : Nat} {l m : List Pile} (h : Hs B b w g cap l) (hc : w'.cell? ⟨b, 0, none⟩ = some (.slice (some ⟨g, 0, none⟩) m.length cap)) (hf : w'.frozen? ⟨b, 0, none⟩ = false) (hr : RowP (b + 1) w' g cap m) (ho : Onl b g w w') (hm : ∀ p ∈ m, p ∈ l) : Hs B b w' g cap m := by
  have hg := h.ne
  obtain ⟨h1, h2, h3, h4, h5, h6⟩ := h
  refine ⟨hc, hf, hr, fun p hp => ?_, h5, Nat.lt_of_lt_of_le h6 ho.size⟩
  exact (h4.low ho.size (fun k hk => ho.block k (by omega) (by omega) (by omega))) p (hm p hp)
set_option maxHeartbeats 4000000 in
set_option maxRecDepth 100000 in
theorem hpop_any (w : World) (B b g cap : Nat) (t : Pile) (r : List Pile) (hl : (t :: r).length ≤ 4194304) (h : Hs B b w g cap (t :: r)) (hh : Hp.Heap Pile.lt (t :: r) (t :: r).length) :
    Calls Try.prog 139 #[.iface 139 (.pointer (some ⟨b, 0, none⟩))] w (HPopPost B b g cap r w) := by
  have ml := m_len b _ w h.1
  have el := e_len
  have ms := m_swap b _ w h.1
  have es := e_swap
  have mp := m_pop b
  have ep := e_pop
  have HS := Lib.hid h; clear h
  have HH := Lib.hid hh; clear hh
  rcases List.eq_nil_or_concat r with rfl | ⟨r', z, rfl⟩
  · -- one pile
    have HSW := Lib.hid (swapP_same w g (b + 1) g cap [t] 1 t rfl (by decide) HS.out.2.2.1 rfl)
    rw [show ([t] : List Pile).length = 1 from rfl] at ml ms
    go_enter Try.func139, Try.ntmps139
    go_wp2_with fail
    refine (lenP_any _ _ _ _).mono ?_; rintro e w' ⟨rfl, rfl⟩
    clear ml el
    go_wp2_with fail
    refine HSW.out.mono ?_; rintro e w1 ⟨rfl, r1, o1⟩
    have S1 := Lib.hid (HS.out.turn r1 o1 (List.Perm.refl _))
    have O1 := Lib.hid o1; clear r1 o1 ms es
    have HD := down_any w1 B b g cap [t] 0 (Nat.zero_le _) (by simp) S1.out (Hp.Heap.fix (Hp.Heap.nothing _ [t]) (fun k _ _ => rfl))
    rw [show ((0 : Nat) : Int) = 0 from rfl] at HD
    have HDD := Lib.hid HD; clear HD
    go_wp2_with fail
    refine HDD.out.mono ?_; rintro e w2 ⟨x, m, rfl, p2, -, -, s2, o2⟩
    obtain rfl : m = [t] := List.perm_singleton.1 p2
    have HPP := Lib.hid (popM_any w2 b g cap [] t 1 rfl s2.1 s2.2.1 s2.2.2.1 s2.2.2.2.2.2 (by decide))
    have S2 := Lib.hid s2
    have O2 := Lib.hid (O1.out.trans o2); clear s2 o2 p2
    go_wp2_with fail
    refine HPP.out.mono ?_; rintro e w3 ⟨⟨v, rfl⟩, c3, f3, r3, o3⟩
    have H3 := Lib.hid (S2.out.pops c3 f3 r3 o3 (fun p hp => by cases hp))
    have O3 := Lib.hid ((O2.out.wid (b := b)).trans o3); clear c3 f3 r3 o3
    go_wp2_with fail
    go_ret
    exact ⟨_, [], rfl, List.Perm.refl _, Hp.Heap.nothing _ _, H3.out, O3.out⟩
  · rw [List.concat_eq_append] at *
    have hz : (t :: (r' ++ [z]))[r'.length + 1]? = some z := by simp
    have hlen : (t :: (r' ++ [z])).length = r'.length + 2 := by simp
    have HLE := Lib.hid hlen
    have HSW0 := swapP_ne w g (b + 1) g cap (t :: (r' ++ [z])) 0 (r'.length + 1) (r'.length + 2) t z hlen (by rw [hlen] at hl; exact hl) HS.out.2.2.1 rfl hz (by omega)
    rw [hlen] at ml ms hl
    rw [show ((r'.length + 1 : Nat) : Int) = ((r'.length + 2 : Nat) : Int) - 1 by omega, show ((0 : Nat) : Int) = 0 from rfl] at HSW0
    have HSW := Lib.hid HSW0; clear HSW0
    have HPM := Lib.hid (Hp.swp_perm (t :: (r' ++ [z])) 0 (r'.length + 1) t z rfl hz)
    have HGN := Lib.hid (show (Hp.swp (t :: (r' ++ [z])) 0 (r'.length + 1) t z)[r'.length + 1]? = some t by rw [Hp.swp_get (by rw [hlen]; omega) (by rw [hlen]; omega), if_pos rfl])
    have HFX := Lib.hid (show Hp.Sink Pile.lt (Hp.swp (t :: (r' ++ [z])) 0 (r'.length + 1) t z) (r'.length + 1) 0 from
      Hp.Heap.fix (l := t :: (r' ++ [z])) (fun m h0 h1 => HH.out m h0 (by rw [hlen]; omega)) (fun k h0 h1 => Hp.swp_far (by rw [hlen]; omega) (by rw [hlen]; omega) (by omega) (by omega)))
    clear hz hlen
    generalize hq : Hp.swp (t :: (r' ++ [z])) 0 (r'.length + 1) t z = q at *
    have hql : q.length = r'.length + 2 := by rw [HPM.out.length_eq, HLE.out]
    have HQL := Lib.hid hql
    clear hq hql
    generalize r'.length = L at *
    generalize hN : L + 2 = N at *
    have hN1 : 1 ≤ N := by omega
    have hN2 : N ≤ 4194304 := hl
    have HNN := Lib.hid hN; clear hN
    go_enter Try.func139, Try.ntmps139
    go_wp2_with fail
    refine (lenP_any _ _ _ _).mono ?_; rintro e w' ⟨rfl, rfl⟩
    clear ml el
    go_wp2_with fail
    refine HSW.out.mono ?_; rintro e w1 ⟨rfl, r1, o1⟩
    have S1 := Lib.hid (HS.out.turn r1 o1 HPM.out)
    have O1 := Lib.hid o1; clear r1 o1 ms es
    have HD := down_any w1 B b g cap q (L + 1) (by rw [HQL.out]; have := HNN.out; omega) (by rw [HQL.out]; exact hN2) S1.out HFX.out
    rw [show ((L + 1 : Nat) : Int) = (N : Int) - 1 by have := HNN.out; omega] at HD
    have HDD := Lib.hid HD; clear HD
    go_wp2_with fail
    refine HDD.out.mono ?_; rintro e w2 ⟨x, m, rfl, p2, hp2, k2, s2, o2⟩
    have hml : m.length = L + 2 := by rw [p2.length_eq, HQL.out]; have := HNN.out; omega
    have hmt : m[L + 1]? = some t := (k2 (L + 1) (Nat.le_refl _)).trans HGN.out
    have hms := last_split (l1 := q) (n := L + 1) hml hmt
    have hmh : Hp.Heap Pile.lt (m.take (L + 1)) (m.take (L + 1)).length := by
      rw [List.length_take, Nat.min_eq_left (by omega)]
      exact hp2.cong (fun k hk => List.getElem?_take_of_lt hk)
    have hmp : List.Perm (m.take (L + 1)) (r' ++ [z]) := perm_rest (by rw [← hms]; exact p2) HPM.out
    have HPP := Lib.hid (popM_any w2 b g cap (m.take (L + 1)) t N (by rw [← hms, hml]; exact HNN.out) (by rw [← HNN.out, ← hml]; exact s2.1) s2.2.1 (by rw [← hms]; exact s2.2.2.1) s2.2.2.2.2.2 (by rw [List.length_take]; have := HNN.out; omega))
    have S2 := Lib.hid s2
    have HMP := Lib.hid (And.intro hmp hmh)
    have HSUB := Lib.hid (show ∀ p ∈ m.take (L + 1), p ∈ m from fun p hp => List.mem_of_mem_take hp)
    have O2 := Lib.hid (O1.out.trans o2); clear s2 o2 p2 k2 hp2 hml hmt hms hmh hmp
    go_wp2_with fail
    refine HPP.out.mono ?_; rintro e w3 ⟨⟨v, rfl⟩, c3, f3, r3, o3⟩
    have H3 := Lib.hid (S2.out.pops c3 f3 r3 o3 HSUB.out)
    have O3 := Lib.hid ((O2.out.wid (b := b)).trans o3); clear c3 f3 r3 o3
    go_wp2_with fail
    go_ret
    exact ⟨_, _, rfl, HMP.out.1, HMP.out.2, H3.out, O3.out⟩
end Go.Proofs.Ytopcjiaakefmeaa.Cl
