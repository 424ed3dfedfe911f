/-
  Contracts of (*impl.piles).Push and (*impl.piles).Pop.
  Contracts of container/heap's Push, Pop and Fix over impl.piles.
  The contract of (*impl.piles).next: the first cell of the first pile; what is left is a heap again.
  The contract of impl.mergedShelves: every cell of the lists, of one key the first list's, sorted.
  The contract of impl.Merged: 'mgP'.
-/
import Derived.Test.YtkkpokfekbdigaaPa
import Derived.Test.YtkkpokfekbdigaaCo
import Derived.Test.YtkkpokfekbdigaaCn
import Derived.Deep.RegionLaw
import Derived.Deep.AppendLies
import Derived.Deep.LoopGhost
import Derived.IntWalk
namespace Go.Proofs.Ytkkpokfekbdigaa.Cl
open Go.RowKit Wd Rp Kp
set_option linter.unusedVariables false
theorem infoP : (Try.prog.info? 131).map (fun i => (i.zero, i.size, i.bytes)) = some (some (.agg #[.int .i64 0, .slice none 0 0]), 2, 32) := by kernel_rfl
/-- A slice of piles of the call's own, or nil. -/
def OwP (B : Nat) (w : World) (v : Value) (l : List Pile) : Prop := w.ownsRow B 131 2 v l.length (flatP l)
theorem OwP.next {B : Nat} {w w' : World} {v : Value} {l : List Pile} (h : OwP B w v l) (hb : Below w.heap.size w w') : OwP B w' v l := row_next h fun g _ hg => hb.block g hg
/-- Two cells in a block of their own. -/
theorem two_of {w : World} {n : Nat} {x0 x1 : Value} {T : Nat} (h : w.heap[n]? = some (.cells #[x0, x1] T (0, 0))) : ∀ j u, [x0, x1][j]? = some u → w.cell? ((⟨n, 0, none⟩ : Addr).add j) = some u := by
  have hadd : ∀ j, (⟨n, 0, none⟩ : Addr).add j = ⟨n, 0 + j, none⟩ := fun j => by cases j <;> simp [Addr.add]
  intro j u hj
  rw [hadd, Nat.zero_add]
  match j, hj with
  | 0, hj => simp [World.cell?, h]; simpa using hj
  | 1, hj => simp [World.cell?, h]; simpa using hj
theorem step_append_pile {ops : Array Oper} {o : Oper} {a : Act} {K : Act → World → Prop} {Q : Exit → Act → World → Prop} {E : Prop} {w : World} (hgd : o.guard = none) (s x : Operand)
    (ho : o.op = .call { callee := .builtin .append, args := #[s, x], argTypes := #[127, 127] })
    {B N : Nat} {v : Value} {l : List Pile} {p : Pile} (hs : a.eval s = v) (hx : a.eval x = .slice (some ⟨N, 0, none⟩) 1 1) (hown : OwP B w v l) (hN : w.heap[N]? = some (.cells #[.int .i64 (p.k : Int), .slice p.a p.c.length p.cap] 131 (0, 0))) (hl : l.length ≤ 4194303) (hB : B ≤ w.heap.size)
    (h : ∀ g cap w', RowP B w' g cap (l ++ [p]) → w.grownBy w' v.ownBlock → K (a.put o.dst (.slice (some ⟨g, 0, none⟩) (l.length + 1) cap)) w') :
    if Region.wanted o (yielded ops a.tmps) = true then Oper.wp Try.prog o a w K Q else E := by
  obtain ⟨i0, hi, hz0, hz1, hz2⟩ := info_parts infoP
  refine step_append_lies _ hgd s x 127 ho B 131 i0 _ 2 32 Try.underlying127 hi hz0 hz1 hz2 rfl (by decide) v l.length (flatP l) hs hown ⟨N, 0, none⟩ 1 1 p.vals hx rfl (two_of hN) (by intro u hu; simp [Pile.vals] at hu; rcases hu with rfl | rfl <;> rfl) (by decide) (by unfold maxLen; omega) (by omega) hB _ rfl ?_
  intro g cap w2 hown2 hgrow2 hat2 hlt2
  refine h g cap w2 ?_ hgrow2
  unfold RowP
  rw [List.length_append, List.length_singleton, flatP_app]
  exact hown2
/-- What Push leaves. -/
def PushPost (b : Nat) (l : List Pile) (w : World) (e : Ending) (w' : World) : Prop := ∃ g cap, e = .returned (.tuple #[]) ∧ w'.cell? ⟨b, 0, none⟩ = some (.slice (some ⟨g, 0, none⟩) l.length cap) ∧ w'.frozen? ⟨b, 0, none⟩ = false ∧ RowP (b + 1) w' g cap l ∧ Below b w w'
set_option maxHeartbeats 4000000 in
set_option maxRecDepth 100000 in
theorem pushM_any (w : World) (b : Nat) (v : Value) (l : List Pile) (p : Pile) (hc : w.cell? ⟨b, 0, none⟩ = some v) (hf : w.frozen? ⟨b, 0, none⟩ = false) (ho : OwP (b + 1) w v l) (hb : b < w.heap.size) (hl : l.length ≤ 4194303) :
    Calls Try.prog 150 #[.pointer (some ⟨b, 0, none⟩), .iface 131 (.agg #[.int .i64 (p.k : Int), .slice p.a p.c.length p.cap])] w (PushPost b (l ++ [p]) w) := by
  have hW : Below w.heap.size w (((w.alloc (.cells #[.int .i64 (p.k : Int), .slice p.a p.c.length p.cap] 131)).alloc (.cells #[.int .i64 (p.k : Int), .slice p.a p.c.length p.cap] 131)).drew) := (((Below.refl _ _).alloc (Nat.le_refl _) _).alloc (by simp) _).drew
  have HBW := Lib.hid hW
  have HOW := Lib.hid (ho.next hW)
  have HN := Lib.hid (show (((w.alloc (.cells #[.int .i64 (p.k : Int), .slice p.a p.c.length p.cap] 131)).alloc (.cells #[.int .i64 (p.k : Int), .slice p.a p.c.length p.cap] 131)).drew).heap[w.heap.size + 1]? = some (.cells #[.int .i64 (p.k : Int), .slice p.a p.c.length p.cap] 131 (0, 0)) by
    show ((w.heap.push _).push _)[w.heap.size + 1]? = _
    rw [Array.getElem?_push, if_pos (by simp)])
  have HSZ := Lib.hid (show b + 1 ≤ (((w.alloc (.cells #[.int .i64 (p.k : Int), .slice p.a p.c.length p.cap] 131)).alloc (.cells #[.int .i64 (p.k : Int), .slice p.a p.c.length p.cap] 131)).drew).heap.size from Nat.le_trans hb hW.size)
  have HNE := Lib.hid (show ∀ k, v.ownBlock = some k → b + 1 ≤ k from fun k hk => (World.ownsRow.lt ho k hk).1)
  have HCW := Lib.hid (coc hW hb hc)
  have HFW := Lib.hid ((World.frozen?_of_block (w := w) (a := ⟨b, 0, none⟩) (hW.block b hb)).trans hf)
  clear ho hW
  have ta : ∀ (u : Value) (w : World), (Instr.typeAssert (.iface 131 u) 20 131 true).run Try.prog w = .ok (.tuple #[u, .bool true]) w := fun _ _ => by kernel_rfl
  go_enter Try.func150, Try.ntmps150
  go_wp2_with fail
  clear ta
  go_region_law ((refine step_append_pile rfl (.tmp 15) (.tmp 17) rfl (B := b + 1) (N := w.heap.size + 1) (v := v) (l := l) (p := p) rfl rfl HOW.out HN.out hl HSZ.out ?_; intro g cap w2 r2 hg2; have HG2 := Lib.hid hg2; have HR2 := Lib.hid r2; have c2 := hg2.cell HCW.out (fun e => by have := HNE.out _ e.symm; simp at this; omega); have f2 := (World.frozen?_of_block (a := ⟨b, 0, none⟩) (hg2.block b (by have := HSZ.out; omega) (fun e => by have := HNE.out _ e.symm; omega))).trans HFW.out; clear hg2 r2))
  all_goals go_end0
  all_goals
    have hgb := HR2.out.base
    refine ⟨g, cap, rfl, by rw [List.length_append]; exact World.cell?_setCell_same' _ _ _ (by rw [c2]; rfl), by simp [f2], HR2.out.next (Below.heap_setCell w2 _ _ g (by show g ≠ b; omega)), ?_⟩
    exact ((HBW.out.mono (Nat.le_of_lt hb)).grown HG2.out (by have := HSZ.out; omega) (fun k hk => by have := HNE.out k hk; omega)).setCell (Nat.le_refl b) _
theorem RowP.pop {B : Nat} {w : World} {g cap : Nat} {l : List Pile} {x : Pile} (h : RowP B w g cap (l ++ [x])) : RowP B w g cap l := by
  obtain ⟨h1, h2⟩ := h
  rcases h2 with ⟨e, _⟩ | ⟨g', cap', cur, e, hB, hg, hn, hc, hsz, hxs⟩
  · cases e
  · cases e
    rw [List.length_append, List.length_singleton] at hn hxs
    refine ⟨flatP_len l, Or.inr ⟨g, cap, cur, rfl, hB, hg, by omega, hc, hsz, ?_⟩⟩
    have e1 : l.length * 2 = (flatP l).length := (flatP_len l).symm
    have e2 := congrArg (List.take (l.length * 2)) hxs
    rw [List.take_take, Nat.min_eq_left (by omega), flatP_app, e1, List.take_left] at e2
    rw [e1]; exact e2
set_option maxRecDepth 100000 in
theorem cut_toP (g n cap : Nat) (hn : 1 ≤ n) (hc : n ≤ cap) : ∀ w, (Instr.slice 127 (.slice (some ⟨g, 0, none⟩) n cap) none (some (.int .i64 ((n : Int) - 1))) none).run Try.prog w = .ok (.slice (some ⟨g, 0, none⟩) (n - 1) cap) w := by
  intro w
  have hu : Try.prog.underlying 127 = some (.slice (Try.prog.elem 127)) := by kernel_rfl
  have hs : ∀ w, (sizeOf (Try.prog.elem 127)).run Try.prog w = .ok 2 w := fun w => by
    rw [show Try.prog.elem 127 = 131 by kernel_rfl]; exact Try.sizeOf131 w
  rw [show ((n : Int) - 1) = ((n - 1 : Nat) : Int) by omega]
  rw [run_slice_h w 127 (some ⟨g, 0, none⟩) n cap hu .i64 ((n - 1 : Nat) : Int) (by omega) (by omega), hs]
  show Result.ok (Value.slice (if cap = 0 then (some ⟨g, 0, none⟩) else (some (⟨g, 0, none⟩ : Addr)).map (·.add (0 * 2))) (((n - 1 : Nat) : Int).toNat - 0) (cap - 0)) w = _
  rw [if_neg (by omega)]
  simp [Addr.add]
/-- What Pop leaves. -/
def PopPost (b g cap : Nat) (l : List Pile) (w : World) (e : Ending) (w' : World) : Prop := (∃ v, e = .returned v) ∧ w'.cell? ⟨b, 0, none⟩ = some (.slice (some ⟨g, 0, none⟩) l.length cap) ∧ w'.frozen? ⟨b, 0, none⟩ = false ∧ RowP (b + 1) w' g cap l ∧ Onl b g w w'
set_option maxHeartbeats 4000000 in
set_option maxRecDepth 100000 in
theorem popM_any (w : World) (b g cap : Nat) (l : List Pile) (x : Pile) (n : Nat) (hn : (l ++ [x]).length = n) (hc : w.cell? ⟨b, 0, none⟩ = some (.slice (some ⟨g, 0, none⟩) n cap)) (hf : w.frozen? ⟨b, 0, none⟩ = false) (hr : RowP (b + 1) w g cap (l ++ [x])) (hb : b < w.heap.size) (hl : l.length ≤ 4194303) :
    Calls Try.prog 149 #[.pointer (some ⟨b, 0, none⟩)] w (PopPost b g cap l w) := by
  have hbs := hr.base
  rw [hn] at hbs
  have HX := Lib.hid (hr.at (i := l.length) (p := x) (by rw [List.getElem?_append_right (Nat.le_refl _), Nat.sub_self]; rfl))
  have hn' : n = l.length + 1 := by rw [← hn]; simp
  have hcut := cut_toP g n cap (by omega) hbs.2.2.1
  have HP := Lib.hid hr.pop
  have hln : l.length = n - 1 := by omega
  rw [hln] at HX
  obtain ⟨x0, x1, -, -⟩ := id HX.out
  have i1 : (0 : Int) ≤ (n : Int) - 1 := by omega
  have i2 : (n : Int) - 1 < (n : Int) := by omega
  have i3 : (n : Int) ≤ 4194304 := by omega
  have HL := Lib.hid hln
  have HNN := Lib.hid hn
  clear hr hn hn' hln HX
  go_enter Try.func149, Try.ntmps149
  go_wp2_with fail
  go_ret
  have hs : (w.setCell ⟨b, 0, none⟩ (.slice (some ⟨g, 0, none⟩) (n - 1) cap)).heap.size = w.heap.size := setCell_size _ _ _
  have hbel := bel1 (w.setCell ⟨b, 0, none⟩ (.slice (some ⟨g, 0, none⟩) (n - 1) cap)) (.cells #[.int .i64 (x.k : Int), .slice x.a x.c.length x.cap] 131)
  refine ⟨⟨_, rfl⟩, ?_, ?_, ?_, ?_⟩
  · rw [HL.out]
    exact (hbel.cell (p := ⟨b, 0, none⟩) (by rw [hs]; exact hb)).trans (World.cell?_setCell_same' _ _ _ (by rw [hc]; rfl))
  · exact (hbel.frozen (p := ⟨b, 0, none⟩) (by rw [hs]; exact hb)).trans (by simp [hf])
  · exact HP.out.next ((hbel.block g (by rw [hs]; exact hbs.2.1)).trans (Below.heap_setCell w _ _ g (by show g ≠ b; omega)))
  · exact ((Onl.refl b g w).setCell (p := ⟨b, 0, none⟩) (Or.inl rfl) _).next hbel
end Go.Proofs.Ytkkpokfekbdigaa.Cl
namespace Go.Proofs.Ytkkpokfekbdigaa.Cl
open Go.RowKit Wd Rp Kp
set_option linter.unusedVariables false
theorem Below.onl {B b g : Nat} {w w' : World} (h : Below B w w') {x : World} (k : Onl b g w' x) (hb : B ≤ b) (hg : B ≤ g) (hs : B ≤ w'.heap.size) : Below B w x := h.trans (k.below hb hg hs)
/-- What heap.Push leaves. -/
def HPushPost (B b : Nat) (l : List Pile) (w : World) (e : Ending) (w' : World) : Prop := ∃ g cap m, e = .returned (.tuple #[]) ∧ List.Perm m l ∧ Hp.Heap Pile.lt m m.length ∧ Hs B b w' g cap m ∧ Below b w w'
set_option maxHeartbeats 4000000 in
set_option maxRecDepth 100000 in
theorem hpush_any (w : World) (B b : Nat) (v : Value) (l : List Pile) (p : Pile) (hc : w.cell? ⟨b, 0, none⟩ = some v) (hf : w.frozen? ⟨b, 0, none⟩ = false) (ho : OwP (b + 1) w v l) (hb : b < w.heap.size) (hB : B ≤ b) (hl : l.length ≤ 4194303) (hk : PilesOk B w (l ++ [p])) (hh : Hp.Heap Pile.lt l l.length) :
    Calls Try.prog 108 #[.iface 129 (.pointer (some ⟨b, 0, none⟩)), .iface 131 (.agg #[.int .i64 (p.k : Int), .slice p.a p.c.length p.cap])] w (HPushPost B b (l ++ [p]) w) := by
  have HPU := Lib.hid (pushM_any w b v l p hc hf ho hb hl)
  have HK := Lib.hid hk; clear hk
  have HH := Lib.hid (hh.push p); clear hh
  clear hc hf ho
  have mp := m_push b
  have ep := e_push
  have hn : (l ++ [p]).length = l.length + 1 := by simp
  have HNE := Lib.hid hn
  generalize l ++ [p] = lp at *
  generalize l.length = L at *
  go_enter Try.func108, Try.ntmps108
  clear hn
  go_wp2_with fail
  refine HPU.out.mono ?_; rintro e w1 ⟨g, cap, rfl, c1, f1, r1, b1⟩
  have h1 : Hs B b w1 g cap lp := ⟨c1, f1, r1, HK.out.low b1.size (fun k hk => b1.block k (by omega)), hB, Nat.lt_of_lt_of_le hb b1.size⟩
  have HUP := up_any w1 B b g cap lp L (by rw [HNE.out]; omega) (by rw [HNE.out]; omega) h1 (by rw [HNE.out]; exact HH.out)
  rw [show (L : Int) = (lp.length : Int) - 1 by rw [HNE.out]; omega] at HUP
  have HU := Lib.hid HUP
  have HBW := Lib.hid b1
  have hlp : 1 ≤ lp.length := by rw [HNE.out]; omega
  have hlp2 : lp.length ≤ 4194304 := by rw [HNE.out]; omega
  have ml := m_len b _ w1 c1
  have el := e_len
  clear mp ep b1 r1 f1 HUP
  go_wp2_with fail
  refine (lenP_any _ _ _ _).mono ?_; rintro e w' ⟨rfl, rfl⟩
  clear ml el c1
  go_wp2_with fail
  refine HU.out.mono ?_; rintro e w2 ⟨m, rfl, p2, hp2, s2, o2⟩
  have H2 := Lib.hid (And.intro p2 (And.intro hp2 (And.intro s2 o2))); clear p2 hp2 s2 o2
  go_wp2_with fail
  go_end0
  obtain ⟨p2, hp2, s2, o2⟩ := H2.out
  have hne := h1.ne
  exact ⟨g, cap, m, rfl, p2, hp2, s2, Below.onl (b := b) (g := g) HBW.out o2.wid (Nat.le_refl _) (by have := h1.2.2.1.base; omega) (Nat.le_of_lt h1.2.2.2.2.2)⟩
/-- What heap.Fix leaves. -/
def FixPost (B b g cap : Nat) (l : List Pile) (w : World) (e : Ending) (w' : World) : Prop := ∃ m, e = .returned (.tuple #[]) ∧ List.Perm m l ∧ Hp.Heap Pile.lt m m.length ∧ Hs B b w' g cap m ∧ Onl g g w w'
set_option maxHeartbeats 4000000 in
set_option maxRecDepth 100000 in
theorem hfix_any (w : World) (B b g cap : Nat) (l : List Pile) (hl : l.length ≤ 4194304) (h0 : 0 < l.length) (h : Hs B b w g cap l) (hs : Hp.Sink Pile.lt l l.length 0) :
    Calls Try.prog 124 #[.iface 129 (.pointer (some ⟨b, 0, none⟩)), .int .i64 0] w (FixPost B b g cap l w) := by
  have ml := m_len b _ w h.1
  have el := e_len
  have HD := Lib.hid (down_any w B b g cap l l.length (Nat.le_refl _) hl h hs)
  clear hs h
  go_enter Try.func124, Try.ntmps124
  go_wp2_with fail
  refine (lenP_any _ _ _ _).mono ?_; rintro e w' ⟨rfl, rfl⟩
  clear ml el
  go_wp2_with fail
  refine HD.out.mono ?_; rintro e w1 ⟨x, m, rfl, p1, hp1, -, s1, o1⟩
  have HML := Lib.hid p1.length_eq
  have HH := Lib.hid (show Hp.Heap Pile.lt m m.length by rw [HML.out]; exact hp1)
  have HU := up_any w1 B b g cap m 0 (by rw [HML.out]; exact h0) (by rw [HML.out]; exact hl) s1 (HH.out.rise lt_ord (by rw [HML.out]; exact h0) (Nat.le_refl _))
  rw [show ((0 : Nat) : Int) = 0 from rfl] at HU
  have HUU := Lib.hid HU
  have H1 := Lib.hid (And.intro p1 (And.intro s1 o1)); clear p1 hp1 s1 o1 HU
  cases x
  · go_wp2_with fail
    refine HUU.out.mono ?_; rintro e w2 ⟨m2, rfl, p2, hp2, s2, o2⟩
    have H2 := Lib.hid (And.intro p2 (And.intro hp2 (And.intro s2 o2))); clear p2 hp2 s2 o2
    go_wp2_with fail
    go_end0
    obtain ⟨p2, hp2, s2, o2⟩ := H2.out
    exact ⟨m2, rfl, p2.trans H1.out.1, hp2, s2, H1.out.2.2.trans o2⟩
  · go_wp2_with fail
    go_end0
    exact ⟨m, rfl, H1.out.1, HH.out, H1.out.2.1, H1.out.2.2⟩
/-- What heap.Pop leaves. -/
def HPopPost (B b g cap : Nat) (r : List Pile) (w : World) (e : Ending) (w' : World) : Prop := ∃ (v : Value) (m : List Pile), e = .returned v ∧ List.Perm m r ∧ Hp.Heap Pile.lt m m.length ∧ Hs B b w' g cap m ∧ Onl b g w w'
/-- Behind down: the last is the old top. -/
theorem last_split {m l1 : List Pile} {t : Pile} {n : Nat} (hm : m.length = n + 1) (hn : m[n]? = some t) : m = m.take n ++ [t] := by
  have e := List.take_append_drop n m
  have hd : m.drop n = [t] := by
    rw [List.drop_eq_getElem_cons (by omega), List.drop_of_length_le (by omega)]
    rw [List.getElem?_eq_getElem (by omega)] at hn
    rw [Option.some.inj hn]
  rw [hd] at e; exact e.symm
theorem perm_rest {m l1 r : List Pile} {t : Pile} (h : List.Perm (m ++ [t]) l1) (k : List.Perm l1 (t :: r)) : List.Perm m r :=
  ((List.perm_append_singleton t m).symm.trans (h.trans k)).cons_inv
theorem Hs.pops {B b : Nat} {w w' : World} {g cap : Nat} {l m : List Pile} (h : Hs B b w g cap l) (hc : w'.cell? ⟨b, 0, none⟩ = some (.slice (some ⟨g, 0, none⟩) m.length cap)) (hf : w'.frozen? ⟨b, 0, none⟩ = false) (hr : RowP (b + 1) w' g cap m) (ho : Onl b g w w') (hm : ∀ p ∈ m, p ∈ l) : Hs B b w' g cap m := by
  have hg := h.ne
  obtain ⟨h1, h2, h3, h4, h5, h6⟩ := h
  refine ⟨hc, hf, hr, fun p hp => ?_, h5, Nat.lt_of_lt_of_le h6 ho.size⟩
  exact (h4.low ho.size (fun k hk => ho.block k (by omega) (by omega) (by omega))) p (hm p hp)
set_option maxHeartbeats 4000000 in
set_option maxRecDepth 100000 in
theorem hpop_any (w : World) (B b g cap : Nat) (t : Pile) (r : List Pile) (hl : (t :: r).length ≤ 4194304) (h : Hs B b w g cap (t :: r)) (hh : Hp.Heap Pile.lt (t :: r) (t :: r).length) :
    Calls Try.prog 123 #[.iface 129 (.pointer (some ⟨b, 0, none⟩))] w (HPopPost B b g cap r w) := by
  have ml := m_len b _ w h.1
  have el := e_len
  have ms := m_swap b _ w h.1
  have es := e_swap
  have mp := m_pop b
  have ep := e_pop
  have HS := Lib.hid h; clear h
  have HH := Lib.hid hh; clear hh
  rcases List.eq_nil_or_concat r with rfl | ⟨r', z, rfl⟩
  · -- one pile
    have HSW := Lib.hid (swapP_same w g (b + 1) g cap [t] 1 t rfl (by decide) HS.out.2.2.1 rfl)
    rw [show ([t] : List Pile).length = 1 from rfl] at ml ms
    go_enter Try.func123, Try.ntmps123
    go_wp2_with fail
    refine (lenP_any _ _ _ _).mono ?_; rintro e w' ⟨rfl, rfl⟩
    clear ml el
    go_wp2_with fail
    refine HSW.out.mono ?_; rintro e w1 ⟨rfl, r1, o1⟩
    have S1 := Lib.hid (HS.out.turn r1 o1 (List.Perm.refl _))
    have O1 := Lib.hid o1; clear r1 o1 ms es
    have HD := down_any w1 B b g cap [t] 0 (Nat.zero_le _) (by simp) S1.out (Hp.Heap.fix (Hp.Heap.nothing _ [t]) (fun k _ _ => rfl))
    rw [show ((0 : Nat) : Int) = 0 from rfl] at HD
    have HDD := Lib.hid HD; clear HD
    go_wp2_with fail
    refine HDD.out.mono ?_; rintro e w2 ⟨x, m, rfl, p2, -, -, s2, o2⟩
    obtain rfl : m = [t] := List.perm_singleton.1 p2
    have HPP := Lib.hid (popM_any w2 b g cap [] t 1 rfl s2.1 s2.2.1 s2.2.2.1 s2.2.2.2.2.2 (by decide))
    have S2 := Lib.hid s2
    have O2 := Lib.hid (O1.out.trans o2); clear s2 o2 p2
    go_wp2_with fail
    refine HPP.out.mono ?_; rintro e w3 ⟨⟨v, rfl⟩, c3, f3, r3, o3⟩
    have H3 := Lib.hid (S2.out.pops c3 f3 r3 o3 (fun p hp => by cases hp))
    have O3 := Lib.hid ((O2.out.wid (b := b)).trans o3); clear c3 f3 r3 o3
    go_wp2_with fail
    go_ret
    exact ⟨_, [], rfl, List.Perm.refl _, Hp.Heap.nothing _ _, H3.out, O3.out⟩
  · rw [List.concat_eq_append] at *
    have hz : (t :: (r' ++ [z]))[r'.length + 1]? = some z := by simp
    have hlen : (t :: (r' ++ [z])).length = r'.length + 2 := by simp
    have HLE := Lib.hid hlen
    have HSW0 := swapP_ne w g (b + 1) g cap (t :: (r' ++ [z])) 0 (r'.length + 1) (r'.length + 2) t z hlen (by rw [hlen] at hl; exact hl) HS.out.2.2.1 rfl hz (by omega)
    rw [hlen] at ml ms hl
    rw [show ((r'.length + 1 : Nat) : Int) = ((r'.length + 2 : Nat) : Int) - 1 by omega, show ((0 : Nat) : Int) = 0 from rfl] at HSW0
    have HSW := Lib.hid HSW0; clear HSW0
    have HPM := Lib.hid (Hp.swp_perm (t :: (r' ++ [z])) 0 (r'.length + 1) t z rfl hz)
    have HGN := Lib.hid (show (Hp.swp (t :: (r' ++ [z])) 0 (r'.length + 1) t z)[r'.length + 1]? = some t by rw [Hp.swp_get (by rw [hlen]; omega) (by rw [hlen]; omega), if_pos rfl])
    have HFX := Lib.hid (show Hp.Sink Pile.lt (Hp.swp (t :: (r' ++ [z])) 0 (r'.length + 1) t z) (r'.length + 1) 0 from
      Hp.Heap.fix (l := t :: (r' ++ [z])) (fun m h0 h1 => HH.out m h0 (by rw [hlen]; omega)) (fun k h0 h1 => Hp.swp_far (by rw [hlen]; omega) (by rw [hlen]; omega) (by omega) (by omega)))
    clear hz hlen
    generalize hq : Hp.swp (t :: (r' ++ [z])) 0 (r'.length + 1) t z = q at *
    have hql : q.length = r'.length + 2 := by rw [HPM.out.length_eq, HLE.out]
    have HQL := Lib.hid hql
    clear hq hql
    generalize r'.length = L at *
    generalize hN : L + 2 = N at *
    have hN1 : 1 ≤ N := by omega
    have hN2 : N ≤ 4194304 := hl
    have HNN := Lib.hid hN; clear hN
    go_enter Try.func123, Try.ntmps123
    go_wp2_with fail
    refine (lenP_any _ _ _ _).mono ?_; rintro e w' ⟨rfl, rfl⟩
    clear ml el
    go_wp2_with fail
    refine HSW.out.mono ?_; rintro e w1 ⟨rfl, r1, o1⟩
    have S1 := Lib.hid (HS.out.turn r1 o1 HPM.out)
    have O1 := Lib.hid o1; clear r1 o1 ms es
    have HD := down_any w1 B b g cap q (L + 1) (by rw [HQL.out]; have := HNN.out; omega) (by rw [HQL.out]; exact hN2) S1.out HFX.out
    rw [show ((L + 1 : Nat) : Int) = (N : Int) - 1 by have := HNN.out; omega] at HD
    have HDD := Lib.hid HD; clear HD
    go_wp2_with fail
    refine HDD.out.mono ?_; rintro e w2 ⟨x, m, rfl, p2, hp2, k2, s2, o2⟩
    have hml : m.length = L + 2 := by rw [p2.length_eq, HQL.out]; have := HNN.out; omega
    have hmt : m[L + 1]? = some t := (k2 (L + 1) (Nat.le_refl _)).trans HGN.out
    have hms := last_split (l1 := q) (n := L + 1) hml hmt
    have hmh : Hp.Heap Pile.lt (m.take (L + 1)) (m.take (L + 1)).length := by
      rw [List.length_take, Nat.min_eq_left (by omega)]
      exact hp2.cong (fun k hk => List.getElem?_take_of_lt hk)
    have hmp : List.Perm (m.take (L + 1)) (r' ++ [z]) := perm_rest (by rw [← hms]; exact p2) HPM.out
    have HPP := Lib.hid (popM_any w2 b g cap (m.take (L + 1)) t N (by rw [← hms, hml]; exact HNN.out) (by rw [← HNN.out, ← hml]; exact s2.1) s2.2.1 (by rw [← hms]; exact s2.2.2.1) s2.2.2.2.2.2 (by rw [List.length_take]; have := HNN.out; omega))
    have S2 := Lib.hid s2
    have HMP := Lib.hid (And.intro hmp hmh)
    have HSUB := Lib.hid (show ∀ p ∈ m.take (L + 1), p ∈ m from fun p hp => List.mem_of_mem_take hp)
    have O2 := Lib.hid (O1.out.trans o2); clear s2 o2 p2 k2 hp2 hml hmt hms hmh hmp
    go_wp2_with fail
    refine HPP.out.mono ?_; rintro e w3 ⟨⟨v, rfl⟩, c3, f3, r3, o3⟩
    have H3 := Lib.hid (S2.out.pops c3 f3 r3 o3 HSUB.out)
    have O3 := Lib.hid ((O2.out.wid (b := b)).trans o3); clear c3 f3 r3 o3
    go_wp2_with fail
    go_ret
    exact ⟨_, _, rfl, HMP.out.1, HMP.out.2, H3.out, O3.out⟩
end Go.Proofs.Ytkkpokfekbdigaa.Cl
namespace Go.Proofs.Ytkkpokfekbdigaa.Cl
open Go.RowKit Wd Rp Kp
set_option linter.unusedVariables false
/-- What next leaves. -/
def NextPost (B b g cap : Nat) (t : Pile) (c0 : Cel) (tc : List Cel) (r : List Pile) (w : World) (e : Ending) (w' : World) : Prop :=
  ∃ (a : Option Addr) (ca : Nat) (m : List Pile), e = .returned (.agg #[.string c0.r, .string c0.b, .int .i64 c0.t, .int .i64 c0.v, .bool c0.g]) ∧ List.Perm m (rest t tc a ca r) ∧ Hp.Heap Pile.lt m m.length ∧ Hs B b w' g cap m ∧ Onl b g w w'
/-- The first pile with other cells. -/
theorem RowP.cut {B : Nat} {w : World} {g cap : Nat} {t u : Pile} {r : List Pile} (h : RowP B w g cap (t :: r)) (hk : u.k = t.k) :
    RowP B (w.setCell ⟨g, 1, none⟩ (.slice u.a u.c.length u.cap)) g cap (u :: r) := by
  have h1 := (World.ownsRow.stored h 1 (.slice u.a u.c.length u.cap)).1
  unfold RowP
  have e : flatP (u :: r) = (flatP (t :: r)).set 1 (.slice u.a u.c.length u.cap) := by
    rw [flatP_cons, flatP_cons]; unfold Pile.vals; rw [hk]; rfl
  rw [e]; exact h1
theorem Hs.cut {B b : Nat} {w : World} {g cap : Nat} {t u : Pile} {r : List Pile} (h : Hs B b w g cap (t :: r)) (hk : u.k = t.k) (hu : u.c ≠ [] ∧ (∀ c ∈ u.c, c.ok = true) ∧ u.c.length ≤ 4194304 ∧ u.k ≤ 4194304 ∧ Vb B w u.a u.cap u.c) :
    Hs B b (w.setCell ⟨g, 1, none⟩ (.slice u.a u.c.length u.cap)) g cap (u :: r) := by
  have hg := h.ne
  obtain ⟨h1, h2, h3, h4, h5, h6⟩ := h
  have e : ∀ k, k ≠ g → (w.setCell ⟨g, 1, none⟩ (.slice u.a u.c.length u.cap)).heap[k]? = w.heap[k]? := fun k hk => Below.heap_setCell w _ _ k hk
  have hs := setCell_size w ⟨g, 1, none⟩ (.slice u.a u.c.length u.cap)
  refine ⟨(World.cell?_of_block (w := w) (e b hg.1)).trans h1, (World.frozen?_of_block (w := w) (e b hg.1)).trans h2, h3.cut hk, ?_, h5, by rw [hs]; exact h6⟩
  refine PilesOk.low (w := w) (fun p hp => ?_) (by rw [hs]; exact Nat.le_refl _) (fun k hk => e k (by omega))
  rcases List.mem_cons.1 hp with rfl | hp
  · exact hu
  · exact h4 p (List.mem_cons_of_mem _ hp)
theorem Vb.tail {B : Nat} {w : World} {a a' : Option Addr} {cap cap' : Nat} {c : Cel} {l : List Cel} (h : Vb B w a cap (c :: l)) (ha : a' = a.map (·.add (1 * 5))) (hv : Vw w a' cap' l) : Vb B w a' cap' l := by
  refine ⟨hv, fun p hp => ?_⟩
  cases a with
  | none => rw [ha] at hp; cases hp
  | some q =>
    rw [ha] at hp
    have : p = q.add (1 * 5) := (Option.some.inj hp).symm
    have hq := h.2 q rfl
    rw [this]
    obtain ⟨g, o, e, -, -⟩ := h.1.2.2.2 0 c rfl
    obtain rfl : q = ⟨g, o, none⟩ := Option.some.inj e
    exact hq
set_option maxRecDepth 100000 in
theorem cut_one (a : Option Addr) (n cap : Nat) (hk : 1 ≤ n) (hc : cap ≠ 1) : (∀ w, (Instr.slice 24 (.slice a n cap) (some (.int .i64 1)) none none).run Try.prog w = .ok (.slice (a.map (·.add (1 * 5))) (n - 1) (cap - 1)) w) := by
  intro w
  have hu : Try.prog.underlying 24 = some (.slice (Try.prog.elem 24)) := by kernel_rfl
  have hs : ∀ w, (sizeOf (Try.prog.elem 24)).run Try.prog w = .ok 5 w := fun w => by
    rw [show Try.prog.elem 24 = 28 by kernel_rfl]; exact Try.sizeOf28 w
  rw [run_slice_l w 24 a n cap hu .i64 1 (by omega) (by omega), hs]
  show Result.ok (Value.slice (if cap = 1 then a else a.map (·.add (1 * 5))) (n - 1) (cap - 1)) w = _
  rw [if_neg hc]
theorem Hs.bel {B b N : Nat} {w w' : World} {g cap : Nat} {l : List Pile} (h : Hs B b w g cap l) (hb : Below N w w') (h1 : b < N) (h2 : g < N) (h3 : B ≤ N) : Hs B b w' g cap l := by
  obtain ⟨c1, f1, r1, p1, b1, s1⟩ := h
  exact ⟨(hb.cell (p := ⟨b, 0, none⟩) h1).trans c1, (hb.frozen (p := ⟨b, 0, none⟩) h1).trans f1, r1.next (hb.block g h2), p1.low hb.size (fun k hk => hb.block k (by omega)), b1, Nat.lt_of_lt_of_le s1 hb.size⟩
theorem Onl.bel {b g : Nat} {x y z : World} (h : Onl b g x y) (k : Below x.heap.size y z) : Onl b g x z :=
  ⟨k.os.trans h.os, k.tape.trans h.tape, k.output.trans h.output, Nat.le_trans h.size k.size, fun i hi hb hg => (k.block i hi).trans (h.block i hi hb hg)⟩
/-- Two new blocks. -/
theorem second_of {w w1 : World} {o p : Obj} {b g : Nat} (h : Onl b g ((w.alloc o).alloc p) w1) (hb : b < w.heap.size) (hg : g < w.heap.size) : w1.heap[w.heap.size + 1]? = some p ∧ w1.heap[w.heap.size]? = some o := by
  refine ⟨(h.block _ (by simp) (by omega) (by omega)).trans ?_, (h.block _ (by simp; omega) (by omega) (by omega)).trans ?_⟩
  · show ((w.heap.push o).push p)[w.heap.size + 1]? = some p
    rw [Array.getElem?_push, if_pos (by simp)]
  · show ((w.heap.push o).push p)[w.heap.size]? = some o
    rw [Array.getElem?_push, if_neg (by simp), Array.getElem?_push, if_pos rfl]
set_option maxHeartbeats 8000000 in
set_option maxRecDepth 100000 in
theorem next_any (w : World) (B b g cap : Nat) (t : Pile) (r : List Pile) (c0 : Cel) (tc : List Cel) (hl : (t :: r).length ≤ 4194304) (h : Hs B b w g cap (t :: r)) (hh : Hp.Heap Pile.lt (t :: r) (t :: r).length) (hc : t.c = c0 :: tc) :
    Calls Try.prog 110 #[.pointer (some ⟨b, 0, none⟩)] w (NextPost B b g cap t c0 tc r w) := by
  obtain ⟨g1, o1, ea, hg1B, hg1, h5, -, hlen⟩ := h.2.2.2.1.first (List.mem_cons_self (a := t) (l := r))
  have ehd : t.hd = c0 := by unfold Pile.hd; rw [hc]; rfl
  rw [ehd] at h5
  have hne := h.ne
  have hBb : B ≤ b := h.2.2.2.2.1
  obtain ⟨x0, x1, x2, x3⟩ := h.2.2.1.at (i := 0) (p := t) rfl
  rw [Nat.zero_mul] at x0 x1 x2 x3
  rw [Nat.zero_add] at x1 x3
  have hb := h.1
  have hbl := h.2.2.2.2.2
  have HS := Lib.hid h; clear h
  have HH := Lib.hid hh; clear hh
  have hL0 : 0 < (t :: r).length := by simp
  have HHL := Lib.hid (show (t :: r).length = r.length + 1 by simp)
  generalize hN : (t :: r).length = N at *
  have HN := Lib.hid hN; clear hN
  have HTC := Lib.hid hc
  have htl : t.c.length = tc.length + 1 := by rw [hc]; simp
  clear hc ehd
  rw [ea] at x1
  have HA := Lib.hid ea; clear ea
  have H5 := Lib.hid h5; clear h5
  by_cases h1 : tc = []
  · -- the last cell of its pile
    have ht1 : t.c.length = 1 := by rw [htl, h1]; rfl
    rw [ht1] at x1
    clear htl hlen ht1
    have HE := Lib.hid h1; clear h1
    have HB2 := Lib.hid (bel2 w (.cells #[.string ⟨#[]⟩, .string ⟨#[]⟩, .int .i64 0, .int .i64 0, .bool false] 28) (.cells #[.int .i64 (t.k : Int), .slice (some ⟨g1, o1, none⟩) 1 t.cap] 131))
    have HSW := Lib.hid (HS.out.next HB2.out)
    have HPP := Lib.hid (fun W hW => hpop_any W B b g cap t r (by rw [HN.out]; exact hl) hW (by rw [HN.out]; exact HH.out))
    go_enter Try.func110, Try.ntmps110
    go_wp2_with fail
    refine (HPP.out _ HSW.out).mono ?_; rintro e w3 ⟨v, m, rfl, p3, hp3, s3, o3⟩
    have H3 := Lib.hid (And.intro p3 (And.intro hp3 s3))
    obtain ⟨e1, e0⟩ := second_of o3 hbl hne.2.2
    obtain ⟨y0, y1, y2, y3, y4, f0, f1, f2, f3, f4⟩ := five_of e0
    have z1 := two_of e1 1 _ rfl
    rw [show ((⟨w.heap.size + 1, 0, none⟩ : Addr).add 1) = ⟨w.heap.size + 1, 1, none⟩ from rfl] at z1
    have O3 := Lib.hid (Onl.trans ((Onl.refl b g w).next HB2.out) o3)
    obtain ⟨d0, d1, d2, d3, d4⟩ : At5 w3 g1 o1 c0 := H5.out.same (O3.out.block g1 hg1 (by omega) (by omega))
    have O4 := Lib.hid (O3.out.bel (bel_set5 (Below.refl w.heap.size w3) (Nat.le_refl _) (.string c0.r) (.string c0.b) (.int .i64 c0.t) (.int .i64 c0.v) (.bool c0.g)))
    clear e1 e0 o3 x0 x1 x2 x3 hb HB2 HSW HPP
    generalize hq : w.heap.size = Q at *
    go_wp2_with fail
    refine bodyPost_ret (v := .agg #[.string c0.r, .string c0.b, .int .i64 c0.t, .int .i64 c0.v, .bool c0.g]) (by simp [results, Try.results110, go_sem, y0, y1, y2, y3, y4]) rfl ?_
    subst hq
    obtain ⟨p3, hp3, s3⟩ := H3.out
    exact ⟨none, 0, m, rfl, by unfold rest; rw [if_pos HE.out]; exact p3, hp3, s3.bel (bel_set5 (Below.refl _ w3) (Nat.le_refl _) _ _ _ _ _) hbl hne.2.2 (Nat.le_of_lt (by omega)), O4.out⟩
  · have ht1 : 2 ≤ t.c.length := by rw [htl]; have := List.length_pos_iff.2 h1; omega
    have hcap : t.c.length ≤ t.cap := (HS.out.2.2.2.1 t List.mem_cons_self).2.2.2.2.1.1
    have hcut := cut_one (some ⟨g1, o1, none⟩) t.c.length t.cap (by omega) (by omega)
    rw [show ((some ⟨g1, o1, none⟩ : Option Addr).map (·.add (1 * 5))) = some ⟨g1, o1 + 5, none⟩ from rfl] at hcut
    have HU := Lib.hid (show (⟨t.k, some ⟨g1, o1 + 5, none⟩, t.cap - 1, tc⟩ : Pile).c ≠ [] ∧ (∀ c ∈ tc, c.ok = true) ∧ tc.length ≤ 4194304 ∧ t.k ≤ 4194304 ∧ Vb B w (some ⟨g1, o1 + 5, none⟩) (t.cap - 1) tc by
      obtain ⟨k1, k2, k3, k4, k5⟩ := HS.out.2.2.2.1 t List.mem_cons_self
      rw [HTC.out] at k2 k3
      refine ⟨h1, fun c hc => k2 c (List.mem_cons_of_mem _ hc), by rw [List.length_cons] at k3; omega, k4, ?_⟩
      have hd := k5.1.drop (k := 1) (by omega)
      rw [if_neg (by omega), HTC.out, HA.out] at hd
      rw [HTC.out, HA.out] at k5
      exact k5.tail rfl hd)
    have htn : t.c.length - 1 = tc.length := by omega
    rw [htn] at hcut
    have q1 : ((t.c.length : Int) == 1) = false := by rw [beq_eq_false_iff_ne]; omega
    have q2 : (t.c.length : Int) ≤ 4194304 := by have := (HS.out.2.2.2.1 t List.mem_cons_self).2.2.1; omega
    have q3 : (1 : Int) ≤ (t.c.length : Int) := by omega
    have q4 : (0 : Int) < (t.c.length : Int) := by omega
    generalize t.c.length = n1 at *
    clear htl htn hlen hcap
    have HE := Lib.hid h1; clear h1
    have hN0 : (0 : Int) < (N : Int) := by omega
    have HB2 := Lib.hid (bel2 w (.cells #[.string ⟨#[]⟩, .string ⟨#[]⟩, .int .i64 0, .int .i64 0, .bool false] 28) (.cells #[.int .i64 (t.k : Int), .slice (some ⟨g1, o1, none⟩) n1 t.cap] 131))
    have HSW := Lib.hid (HS.out.next HB2.out)
    have HPP := Lib.hid (fun W hW => hfix_any W B b g cap (⟨t.k, some ⟨g1, o1 + 5, none⟩, t.cap - 1, tc⟩ :: r) (by have := HN.out; rw [List.length_cons] at this ⊢; omega) (by simp) hW (Hp.Heap.fix (l := t :: r) (by have := HN.out; rw [List.length_cons] at this ⊢; rw [this]; exact HH.out) (fun k h0 _ => by cases k with | zero => omega | succ k => rfl)))
    go_enter Try.func110, Try.ntmps110
    go_wp2_with fail
    go_region
    all_goals (try go_wp2_with fail)
    have HSC := Lib.hid (show Hs B b (w.setCell ⟨g, 1, none⟩ (.slice (some ⟨g1, o1 + 5, none⟩) tc.length (t.cap - 1))) g cap (⟨t.k, some ⟨g1, o1 + 5, none⟩, t.cap - 1, tc⟩ :: r) from HS.out.cut (u := ⟨t.k, some ⟨g1, o1 + 5, none⟩, t.cap - 1, tc⟩) rfl HU.out)
    have HBC := Lib.hid (bel2 (w.setCell ⟨g, 1, none⟩ (.slice (some ⟨g1, o1 + 5, none⟩) tc.length (t.cap - 1))) (.cells #[.string ⟨#[]⟩, .string ⟨#[]⟩, .int .i64 0, .int .i64 0, .bool false] 28) (.cells #[.int .i64 (t.k : Int), .slice (some ⟨g1, o1, none⟩) n1 t.cap] 131))
    have HSD := Lib.hid (show Hs B b (((w.setCell ⟨g, 1, none⟩ (.slice (some ⟨g1, o1 + 5, none⟩) tc.length (t.cap - 1))).alloc (.cells #[.string ⟨#[]⟩, .string ⟨#[]⟩, .int .i64 0, .int .i64 0, .bool false] 28)).alloc (.cells #[.int .i64 (t.k : Int), .slice (some ⟨g1, o1, none⟩) n1 t.cap] 131)).drew g cap (⟨t.k, some ⟨g1, o1 + 5, none⟩, t.cap - 1, tc⟩ :: r) from HSC.out.next HBC.out.drew)
    refine (HPP.out _ HSD.out).mono ?_; rintro e w3 ⟨m, rfl, p3, hp3, s3, o3⟩
    have H3 := Lib.hid (And.intro p3 (And.intro hp3 s3))
    have o3' : Onl b g (((w.setCell ⟨g, 1, none⟩ (.slice (some ⟨g1, o1 + 5, none⟩) tc.length (t.cap - 1))).alloc (.cells #[.string ⟨#[]⟩, .string ⟨#[]⟩, .int .i64 0, .int .i64 0, .bool false] 28)).alloc (.cells #[.int .i64 (t.k : Int), .slice (some ⟨g1, o1, none⟩) n1 t.cap] 131)) w3 := ⟨o3.os, o3.tape, o3.output, o3.size, fun k hk _ hg => o3.block k hk hg hg⟩
    obtain ⟨e1, e0⟩ := second_of o3' (by rw [setCell_size]; exact hbl) (by rw [setCell_size]; exact hne.2.2)
    rw [setCell_size] at e1 e0
    obtain ⟨y0, y1, y2, y3, y4, f0, f1, f2, f3, f4⟩ := five_of e0
    have z1 := two_of e1 1 _ rfl
    rw [show ((⟨w.heap.size + 1, 0, none⟩ : Addr).add 1) = ⟨w.heap.size + 1, 1, none⟩ from rfl] at z1
    have O3 := Lib.hid (Onl.trans (((Onl.refl b g w).setCell (p := ⟨g, 1, none⟩) (Or.inr rfl) (.slice (some ⟨g1, o1 + 5, none⟩) tc.length (t.cap - 1))).next HBC.out) o3')
    obtain ⟨d0, d1, d2, d3, d4⟩ : At5 w3 g1 o1 c0 := H5.out.same (O3.out.block g1 hg1 (by omega) (by omega))
    have O4 := Lib.hid (O3.out.bel (bel_set5 (Below.refl w.heap.size w3) (Nat.le_refl _) (.string c0.r) (.string c0.b) (.int .i64 c0.t) (.int .i64 c0.v) (.bool c0.g)))
    clear e1 e0 o3 o3' x0 x1 x2 x3 hb HB2 HSW HPP HSC HBC HSD hcut
    generalize hq : w.heap.size = Q at *
    go_wp2_with fail
    refine bodyPost_ret (v := .agg #[.string c0.r, .string c0.b, .int .i64 c0.t, .int .i64 c0.v, .bool c0.g]) (by simp [results, Try.results110, go_sem, y0, y1, y2, y3, y4]) rfl ?_
    subst hq
    obtain ⟨p3, hp3, s3⟩ := H3.out
    exact ⟨some ⟨g1, o1 + 5, none⟩, t.cap - 1, m, rfl, by unfold rest; rw [if_neg HE.out]; exact p3, hp3, s3.bel (bel_set5 (Below.refl _ w3) (Nat.le_refl _) _ _ _ _ _) hbl hne.2.2 (Nat.le_of_lt (by omega)), O4.out⟩
end Go.Proofs.Ytkkpokfekbdigaa.Cl
namespace Go.Proofs.Ytkkpokfekbdigaa.Cl
open Go.RowKit Wd Rp Kp
set_option linter.unusedVariables false
def tot (l : List Pile) : Nat := (l.map fun p => p.c.length).sum
theorem tot_cons (p : Pile) (l : List Pile) : tot (p :: l) = p.c.length + tot l := by simp [tot]
theorem tot_perm {l m : List Pile} (h : List.Perm l m) : tot l = tot m := by
  induction h with
  | nil => rfl
  | cons x _ ih => rw [tot_cons, tot_cons, ih]
  | swap x y l => rw [tot_cons, tot_cons, tot_cons, tot_cons]; omega
  | trans _ _ h1 h2 => exact h1.trans h2
theorem tot_rest {t : Pile} {tc : List Cel} {a : Option Addr} {cap : Nat} {r : List Pile} : tot (rest t tc a cap r) = tc.length + tot r := by
  unfold rest; split
  · rename_i e; rw [e]; simp
  · rw [tot_cons]
/-- Those that hold something. -/
def full (l : List Pile) : List Pile := l.filter fun p => !p.c.isEmpty
theorem full_app (l m : List Pile) : full (l ++ m) = full l ++ full m := List.filter_append ..
theorem full_mem {l : List Pile} {p : Pile} : p ∈ full l ↔ p ∈ l ∧ p.c ≠ [] := by unfold full; rw [List.mem_filter]; simp
theorem full_tot (l : List Pile) : tot (full l) = tot l := by
  induction l with
  | nil => rfl
  | cons p l ih =>
    unfold full at *
    rw [List.filter_cons, tot_cons]
    split
    · rw [tot_cons, ih]
    · rename_i e; rw [ih]
      have : p.c = [] := by simpa using e
      rw [this]; simp
theorem full_fst (l : List Pile) (c : Cel) : Fst (full l) c ↔ Fst l c := by
  unfold Fst
  constructor
  · rintro ⟨p, hp, hc, h⟩
    refine ⟨p, (full_mem.1 hp).1, hc, fun q hq hk d hd => ?_⟩
    exact h q (full_mem.2 ⟨hq, fun e => by rw [e] at hd; cases hd⟩) hk d hd
  · rintro ⟨p, hp, hc, h⟩
    exact ⟨p, full_mem.2 ⟨hp, fun e => by rw [e] at hc; cases hc⟩, hc, fun q hq => h q (full_mem.1 hq).1⟩
/-- The lists as they are handed over: their headers in a row, each a valid slice, ranks in order. -/
def Args (w : World) (gs os : Nat) (ps : List Pile) : Prop := gs < w.heap.size ∧ ∀ i p, ps[i]? = some p → w.cell? ⟨gs, os + i, none⟩ = some (.slice p.a p.c.length p.cap) ∧ p.k = i ∧ (∀ c ∈ p.c, c.ok = true) ∧ Srt p.c ∧ Vw w p.a p.cap p.c
theorem Args.vb {w : World} {gs os : Nat} {ps : List Pile} (h : Args w gs os ps) {i : Nat} {p : Pile} (hp : ps[i]? = some p) (hne : p.c ≠ []) : Vb w.heap.size w p.a p.cap p.c := by
  obtain ⟨-, -, -, -, hv⟩ := h.2 i p hp
  refine ⟨hv, fun q hq => ?_⟩
  obtain ⟨c, r, hc⟩ := List.exists_cons_of_ne_nil hne
  obtain ⟨g, o, e, hg, -⟩ := hv.2.2.2 0 c (by rw [hc]; rfl)
  rw [hq] at e
  obtain rfl := Option.some.inj e
  exact hg
/-- What mergedShelves gives. -/
def MergedPost (ps : List Pile) (w : World) (e : Ending) (w' : World) : Prop := ∃ v m, e = .returned v ∧ OwC w.heap.size w' v m ∧ Srt m ∧ (∀ c, c ∈ m ↔ Fst ps c) ∧ Below w.heap.size w w' ∧ m.length ≤ tot ps
/-- While the piles are pushed. -/
def Pushing (w : World) (b : Nat) (ps : List Pile) (i : Nat) (wr : World) : Prop :=
  ∃ (l : List Pile) (v : Value), List.Perm l (full (ps.take i)) ∧ Hp.Heap Pile.lt l l.length ∧ wr.cell? ⟨b, 0, none⟩ = some v ∧ wr.frozen? ⟨b, 0, none⟩ = false ∧ OwP (b + 1) wr v l ∧ PilesOk b wr l ∧ b < wr.heap.size ∧ Below b w wr
theorem take_snocP {ps : List Pile} {i : Nat} {p : Pile} (h : ps[i]? = some p) : ps.take (i + 1) = ps.take i ++ [p] := by
  rw [List.take_succ_eq_append_getElem (List.getElem?_eq_some_iff.1 h).1]
  congr 2
  rw [List.getElem?_eq_getElem (List.getElem?_eq_some_iff.1 h).1] at h
  exact Option.some.inj h
/-- While they are merged. -/
def Merging (w : World) (b C TT : Nat) (ps : List Pile) (k : Nat) (s : Value) (wr : World) : Prop :=
  ∃ (l : List Pile) (m : List Cel) (v : Value), wr.cell? ⟨b, 0, none⟩ = some v ∧ wr.frozen? ⟨b, 0, none⟩ = false ∧ OwP (b + 1) wr v l ∧ PilesOk b wr l ∧ Hp.Heap Pile.lt l l.length ∧ Mid (Fst ps) l m ∧ OwC C wr s m ∧ (∀ q, v.ownBlock = some q → q < C) ∧ m.length + tot l ≤ TT ∧ tot l ≤ k ∧ l.length ≤ 4194304 ∧ Below b w wr ∧ C ≤ wr.heap.size ∧ b < C
theorem OwP.form {B : Nat} {w : World} {v : Value} {l : List Pile} (h : OwP B w v l) : ∃ a cap, v = .slice a l.length cap ∧ (l ≠ [] → ∃ g, a = some ⟨g, 0, none⟩ ∧ RowP B w g cap l) := by
  obtain ⟨h1, h2⟩ := id h
  rcases h2 with ⟨rfl, hn⟩ | ⟨g, cap, cur, rfl, _⟩
  · exact ⟨none, 0, by rw [hn], fun hl => absurd (List.length_eq_zero_iff.1 hn) hl⟩
  · exact ⟨_, cap, rfl, fun _ => ⟨g, rfl, h⟩⟩
theorem heap_min {t : Pile} {r : List Pile} (h : Hp.Heap Pile.lt (t :: r) (t :: r).length) : ∀ p ∈ r, p.lt t = false := fun p hp => by
  obtain ⟨j, hj⟩ := List.mem_iff_getElem?.1 hp
  exact h.least lt_ord (Nat.le_refl _) (t := t) rfl (lt_irr t) (j + 1) p (by have := (List.getElem?_eq_some_iff.1 hj).1; simp; omega) (by simpa using hj)
theorem rest_len (t : Pile) (tc : List Cel) (a : Option Addr) (cap : Nat) (r : List Pile) : (rest t tc a cap r).length ≤ (t :: r).length := by
  unfold rest; split <;> simp
theorem Merging.mk {w wr w2 w5 : World} {b g cap C TT k : Nat} {ps l2 r : List Pile} {t : Pile} {c0 : Cel} {tc : List Cel} {a2 : Option Addr} {ca2 : Nat} {m m5 : List Cel} {v5 : Value}
    (hbel : Below b w wr) (o2 : Onl b g wr w2) (s2 : Hs b b w2 g cap l2) (hb5 : Below C w2 w5) (hp2 : Hp.Heap Pile.lt l2 l2.length) (hX : Mid (Fst ps) (rest t tc a2 ca2 r) m5) (p2 : List.Perm l2 (rest t tc a2 ca2 r)) (ho5 : OwC C w5 v5 m5)
    (hgC : g < C) (hbC : b < C) (hC : C ≤ w2.heap.size) (ht : t.c = c0 :: tc) (hlen : m5.length ≤ m.length + 1) (htt : m.length + tot (t :: r) ≤ TT) (htk : tot (t :: r) ≤ k) (hl4 : (t :: r).length ≤ 4194304) (hbw : b ≤ wr.heap.size) : Merging w b C TT ps (k - 1) v5 w5 := by
  have hg := s2.2.2.1.base
  have h5 := s2.bel hb5 hbC hgC (Nat.le_of_lt hbC)
  have e1 : tot l2 = tc.length + tot r := by rw [tot_perm p2, tot_rest]
  have e2 : tot (t :: r) = tc.length + 1 + tot r := by rw [tot_cons, ht]; simp
  have e3 : l2.length ≤ (t :: r).length := by rw [p2.length_eq]; exact rest_len _ _ _ _ _
  refine ⟨l2, m5, _, h5.1, h5.2.1, h5.2.2.1, h5.2.2.2.1, hp2, hX.perm p2, ho5, fun q hq => ?_, by omega, by omega, by omega, ?_, Nat.le_trans hC hb5.size, hbC⟩
  · obtain rfl : g = q := by simpa [Value.ownBlock] using hq
    exact hgC
  · exact (hbel.trans (o2.below (Nat.le_refl _) (by omega) hbw)).trans (hb5.mono (Nat.le_of_lt hbC))
set_option maxHeartbeats 8000000 in
set_option maxRecDepth 100000 in
theorem mergedShelves_any (w : World) (gs os cp : Nat) (ps : List Pile) (n : Nat) (hn : ps.length = n) (hn2 : n ≤ 1000) (ht : tot ps ≤ 1000000) (ha : Args w gs os ps) :
    Calls Try.prog 72 #[.slice (some ⟨gs, os, none⟩) n cp] w (MergedPost ps w) := by
  have HA := Lib.hid ha; clear ha
  have HNL := Lib.hid hn; clear hn
  have HT := Lib.hid ht; clear ht
  have HST := Lib.hid (show Pushing w w.heap.size ps 0 (w.alloc (.cells #[.slice none 0 0] 127)) from by
    refine ⟨[], .slice none 0 0, List.Perm.refl _, Hp.Heap.nothing _ _, ?_, ?_, World.ownsRow_nil _ _ _ _, (fun p hp => by cases hp), by simp, bel1 _ _⟩
    · have hp : (w.alloc (.cells #[.slice none 0 0] 127)).heap[w.heap.size]? = some (.cells #[.slice none 0 0] 127) := by show (w.heap.push _)[w.heap.size]? = _; simp
      simp only [World.cell?, hp]; rfl
    · have hp : (w.alloc (.cells #[.slice none 0 0] 127)).heap[w.heap.size]? = some (.cells #[.slice none 0 0] 127) := by show (w.heap.push _)[w.heap.size]? = _; simp
      simp only [World.frozen?, hp]; rfl)
  have HBB := Lib.hid (Nat.le_refl w.heap.size)
  go_enter Try.func72, Try.ntmps72
  go_wp2_with fail
  generalize hb : w.heap.size = b at *
  have HB := Lib.hid hb; clear hb
  have hgs : gs < b := by rw [← HB.out]; exact HA.out.1
  go_loopw [10] (fun x wr => ∃ i : Nat, x = .int .i64 (i : Int) ∧ i ≤ n ∧ Pushing w b ps i wr) (fun x _ => n - intV x)
  case atStart => exact ⟨0, rfl, Nat.zero_le _, HST.out⟩
  case round =>
    clear HST
    obtain ⟨i, rfl, hi, hpu⟩ := hrel
    by_cases hlt : i < n
    · obtain ⟨p, hp⟩ : ∃ p, ps[i]? = some p := ⟨ps[i]'(by rw [HNL.out]; exact hlt), List.getElem?_eq_getElem _⟩
      obtain ⟨hcell, hk, hok, hsrt, hvw⟩ := HA.out.2 i p hp
      obtain ⟨l, v, pl, hh, hc, hf, ho, hpo, hbl, hbel⟩ := hpu
      have c1 := (hbel.cell (p := ⟨gs, os + i, none⟩) hgs).trans hcell
      have i1 : (i : Int) < (n : Int) := by omega
      have i2 : (0 : Int) ≤ (i : Int) := by omega
      have i3 : (i : Int) ≤ 1000 := by omega
      have HTS := Lib.hid (take_snocP hp)
      have HP := Lib.hid hp
      have HL := Lib.hid pl
      have hll : l.length ≤ 1000 := by
        rw [pl.length_eq]; unfold full
        have := List.length_filter_le (fun p : Pile => !p.c.isEmpty) (ps.take i)
        rw [List.length_take, HNL.out] at this; omega
      have hplen : p.c.length ≤ 1000000 := by
        have h1 : p ∈ ps := List.mem_of_getElem? hp
        have h2 : p.c.length ≤ tot ps := by
          obtain ⟨s, t, rfl⟩ := List.append_of_mem h1
          simp [tot]; omega
        have := HT.out; omega
      by_cases hne : p.c = []
      · have hz : p.c.length = 0 := by rw [hne]; rfl
        rw [hz] at c1
        have HF := Lib.hid (show full (ps.take (i + 1)) = full (ps.take i) by rw [HTS.out, full_app]; unfold full; simp [hne])
        have HREST := Lib.hid (show Pushing w b ps (i + 1) wr from ⟨l, v, by rw [HF.out]; exact pl, hh, hc, hf, ho, hpo, hbl, hbel⟩)
        clear hcell hk hok hsrt hvw pl hh hc hf ho hpo hbel hp hne hz
        go_wp2_with fail
        go_roundw
        case rel => exact ⟨i + 1, by go_num, by omega, HREST.out⟩
        case measure => simp [intV]; omega
      · have hpos : 0 < p.c.length := List.length_pos_iff.2 hne
        have hpp : PilesOk b wr (l ++ [p]) := fun q hq => by
          rcases List.mem_append.1 hq with hq | hq
          · exact hpo q hq
          · rw [List.mem_singleton] at hq; subst hq
            have := HA.out.vb hp hne
            rw [HB.out] at this
            exact ⟨hne, hok, by omega, by rw [hk]; omega, this.low hbel.size (fun k hk => hbel.block k hk)⟩
        have hpush := hpush_any wr b b v l p hc hf ho hbl (Nat.le_refl _) (by omega) hpp hh
        rw [hk] at hpush
        have HPU := Lib.hid hpush
        have HF := Lib.hid (show full (ps.take (i + 1)) = full (ps.take i) ++ [p] by rw [HTS.out, full_app]; unfold full; simp [hne])
        have HBE := Lib.hid hbel
        clear hcell hk hok hsrt hvw hh hc hf ho hpo hbel hp hne hpush hpp pl
        generalize p.c.length = pn at *
        have j1 : (0 : Int) < (pn : Int) := by omega
        have j2 : (pn : Int) ≤ 1000000 := by omega
        go_wp2_with fail
        refine HPU.out.mono ?_; rintro e w2 ⟨g2, cap2, m2, rfl, p2, hp2, s2, b2⟩
        have HREST := Lib.hid (show Pushing w b ps (i + 1) w2 from ⟨m2, _, by rw [HF.out]; exact p2.trans (HL.out.append_right _), hp2, s2.1, s2.2.1, s2.2.2.1, s2.2.2.2.1, s2.2.2.2.2.2, HBE.out.trans b2⟩)
        clear p2 hp2 s2 b2 c1
        go_wp2_with fail
        go_roundw
        case rel => exact ⟨i + 1, by go_num, by omega, HREST.out⟩
        case measure => simp [intV]; omega
    · obtain rfl : i = n := by omega
      have HPUSH := Lib.hid hpu; clear hpu
      go_wp2_with fail
      obtain ⟨l0, v0, pl, hh, hc, hf, ho, hpo, hbl, hbel⟩ := HPUSH.out
      have htk : ps.take i = ps := List.take_of_length_le (by rw [HNL.out]; exact Nat.le_refl _)
      rw [htk] at pl
      have hgood : Good l0 := by
        refine Good.perm ⟨fun p hp => ?_, ?_⟩ pl
        · obtain ⟨hp1, hp2⟩ := full_mem.1 hp
          obtain ⟨j, hj⟩ := List.mem_iff_getElem?.1 hp1
          exact ⟨hp2, (HA.out.2 j p hj).2.2.2.1⟩
        · have hnd : (ps.map Pile.k).Nodup := by
            rw [List.Nodup, List.pairwise_iff_getElem]
            intro x y hx hy hxy
            rw [List.length_map] at hx hy
            rw [List.getElem_map, List.getElem_map, (HA.out.2 x ps[x] (List.getElem?_eq_getElem hx)).2.1, (HA.out.2 y ps[y] (List.getElem?_eq_getElem hy)).2.1]
            omega
          exact hnd.sublist (List.Sublist.map _ List.filter_sublist)
      have hl0 : l0.length ≤ 4194304 := by
        rw [pl.length_eq]
        have : (full ps).length ≤ ps.length := List.length_filter_le _ _
        rw [HNL.out] at this; omega
      have htl : tot l0 = tot ps := by rw [tot_perm pl, full_tot]
      have HST := Lib.hid (show Merging w b wr.heap.size (tot ps) ps (tot ps) (.slice none 0 0) wr from
        ⟨l0, [], v0, hc, hf, ho, hpo, hh, Mid.start hgood (fun c => by rw [Fst.perm pl, full_fst]), OwC.nothing _ _, (fun q hq => (World.ownsRow.lt ho q hq).2), by simp [htl], by omega, hl0, hbel, Nat.le_refl _, hbl⟩)
      clear hgood hl0 htl pl hh hc hf ho hpo hbel HPUSH
      generalize wr.heap.size = C at HST hbl
      go_loopg [6, 7] (tot ps) (fun k s6 s7 wr => Merging w b C (tot ps) ps k s6 wr)
      case atStart => exact HST.out
      case round =>
        clear HST
        obtain ⟨l, m, v, hc, hf, ho, hpo, hh, hmid, hom, hvb, htt, htk, hl4, hbel, hC, hbC⟩ := hrel
        obtain ⟨va, vc, rfl, hform⟩ := ho.form
        cases l with
        | nil =>
          have HF := Lib.hid hmid.fin
          have HOM := Lib.hid hom
          have HBE := Lib.hid hbel
          have HTL := Lib.hid htt
          clear hf ho hpo hh hmid hom hvb hbel hform htt
          go_wp2_with fail
          refine (lenP_any _ _ _ _).mono ?_; rintro e w' ⟨rfl, rfl⟩
          go_wp2_with fail
          go_ret
          exact ⟨_, m, rfl, HOM.out.mono (by rw [HB.out]; exact Nat.le_of_lt hbC), HF.out.1, HF.out.2, by rw [HB.out]; exact HBE.out, by have := HTL.out; omega⟩
        | cons t r =>
          obtain ⟨g, rfl, hrow⟩ := hform (by simp)
          have hs : Hs b b wr g vc (t :: r) := ⟨hc, hf, hrow, hpo, Nat.le_refl _, Nat.lt_of_lt_of_le hbC hC⟩
          have hmin := heap_min hh
          obtain ⟨c0, tc, ht⟩ := List.exists_cons_of_ne_nil (hpo t List.mem_cons_self).1
          generalize vc = cap at *
          rcases List.eq_nil_or_concat m with rfl | ⟨mm, q, rfl⟩
          · have HDU := Lib.hid (show dup [] c0 = false from rfl)
            generalize hm0 : ([] : List Cel) = m at *
            have HM0 := Lib.hid hm0; clear hm0
            have HNX := Lib.hid (next_any wr b b g cap t r c0 tc hl4 hs hh ht)
            have HMS := Lib.hid (fun a ca => hmid.step ht hmin a ca)
            have HOM := Lib.hid hom
            have HALL := Lib.hid (And.intro hbel (And.intro ht (And.intro htt htk)))
            have hgC : g < C := hvb g rfl
            have hbs : b < g := hs.2.2.1.base.1
            have hbw : b ≤ wr.heap.size := Nat.le_of_lt hs.2.2.2.2.2
            clear hh ht hmin hs hmid hrow hpo hbel hom ho hf hvb
            generalize hNN : (t :: r).length = NN at *
            have HNN := Lib.hid hNN; clear hNN
            have z1 : (0 : Int) < (NN : Int) := by have := HNN.out; rw [List.length_cons] at this; omega
            go_wp2_with fail
            refine (lenP_any _ _ _ _).mono ?_; rintro e w' ⟨rfl, rfl⟩
            go_wp2_with fail
            refine HNX.out.mono ?_; rintro e w2 ⟨a2, ca2, l2, rfl, p2, hp2, s2, o2⟩
            have hq2 : C ≤ w2.heap.size := Nat.le_trans hC o2.size
            have hom2 : OwC C w2 u6 m := row_next HOM.out fun k hk hlt => o2.block k hlt (by have := OwC.lt HOM.out k hk; omega) (by have := OwC.lt HOM.out k hk; omega)
            have H2 := Lib.hid (And.intro p2 (And.intro hp2 (And.intro s2 o2)))
            have X2 := Lib.hid (Bc.made c0.r c0.b c0.t c0.v c0.g w2 28)
            have BW := Lib.hid (bel1 w2 (.cells #[.string c0.r, .string c0.b, .int .i64 c0.t, .int .i64 c0.v, .bool c0.g] 28))
            have HO2 := Lib.hid (hom2.next BW.out)
            have HX := Lib.hid (HMS.out a2 ca2)
            clear p2 hp2 s2 o2 hom2 hc HNX HMS HOM
            obtain ⟨x0, x1, x2, x3, x4, -⟩ := id X2.out
            have hv0 : ∃ a0 cap0, u6 = .slice a0 0 cap0 := by obtain ⟨a0, cap0, e, -⟩ := HO2.out.view; exact ⟨a0, cap0, by rw [e, ← HM0.out]; rfl⟩
            obtain ⟨a0, cap0, rfl⟩ := hv0
            go_wp2_with fail
            go_quiet (fail)
            have X3 := Lib.hid (show Bc w2.heap.size c0.r c0.b c0.t c0.v c0.g ((w2.alloc (.cells #[.string c0.r, .string c0.b, .int .i64 c0.t, .int .i64 c0.v, .bool c0.g] 28)).drewN nq) from X2.out)
            have O3 := Lib.hid (show OwC C ((w2.alloc (.cells #[.string c0.r, .string c0.b, .int .i64 c0.t, .int .i64 c0.v, .bool c0.g] 28)).drewN nq) _ m from HO2.out)
            have B3 := Lib.hid (show Below w2.heap.size w2 ((w2.alloc (.cells #[.string c0.r, .string c0.b, .int .i64 c0.t, .int .i64 c0.v, .bool c0.g] 28)).drewN nq) from bel_drewN BW.out _)
            clear X2 HO2 BW x0 x1 x2 x3 x4 
            generalize (w2.alloc (.cells #[.string c0.r, .string c0.b, .int .i64 c0.t, .int .i64 c0.v, .bool c0.g] 28)).drewN nq = w3 at X3 O3 B3 ⊢
            obtain ⟨x0, x1, x2, x3, x4, hx5⟩ := id X3.out
            have VL := Lib.hid (Vw.lit w3 c0)
            have BL := Lib.hid (bel1 w3 (.cells #[.string c0.r, .string c0.b, .int .i64 c0.t, .int .i64 c0.v, .bool c0.g] 28))
            have hsz3 : C ≤ w3.heap.size := Nat.le_trans hq2 B3.out.size
            have O4 := Lib.hid (O3.out.next BL.out)
            have HML := Lib.hid (show m.length + 1 ≤ 10000000 by have := HT.out; have := HALL.out.2.2.1; rw [tot_cons, HALL.out.2.1] at this; simp at this; omega)
            go_wp2_with (first
              | (at_builtin; refine append_cells rfl (.tmp 44) (.tmp 46) rfl (base := C) (l := m) (m := [c0]) rfl rfl rfl O4.out VL.out (by have := HML.out; simpa using this) (by simp; omega) ?_; intro v5 w5 o5 g5))
            have FIN := Lib.hid (show Merging w b C (tot ps) ps (gk - 1) v5 w5 from by
              obtain ⟨p2, hp2, s2, o2⟩ := H2.out
              obtain ⟨hbel, ht, htt, htk⟩ := HALL.out
              exact Merging.mk hbel o2 s2 (((B3.out.mono hq2).alloc hsz3 _).grown g5 (by simp; omega) (fun j hj => OwC.lt O4.out j hj)) hp2 (by have := HX.out; rw [HDU.out] at this; simpa using this) p2 o5 hgC hbC hq2 ht (by simp) htt htk (by rw [HNN.out]; exact hl4) hbw)
            clear o5 g5
            have hgk : 0 < gk := by have := HALL.out.2.2.2; rw [tot_cons, HALL.out.2.1] at this; simp at this; omega
            go_roundg (gk - 1)
            case measure => omega
            case rel => exact FIN.out
          · rw [List.concat_eq_append] at *
            cases hke : q.ke c0
            · have HDU := Lib.hid (show dup (mm ++ [q]) c0 = false by unfold dup; rw [List.getLast?_append]; simpa using hke)
              generalize hm0 : mm ++ [q] = m at *
              have HM0 := Lib.hid hm0; clear hm0
              have HNX := Lib.hid (next_any wr b b g cap t r c0 tc hl4 hs hh ht)
              have HMS := Lib.hid (fun a ca => hmid.step ht hmin a ca)
              have HOM := Lib.hid hom
              have HALL := Lib.hid (And.intro hbel (And.intro ht (And.intro htt htk)))
              have hgC : g < C := hvb g rfl
              have hbs : b < g := hs.2.2.1.base.1
              have hbw : b ≤ wr.heap.size := Nat.le_of_lt hs.2.2.2.2.2
              clear hh ht hmin hs hmid hrow hpo hbel hom ho hf hvb
              generalize hNN : (t :: r).length = NN at *
              have HNN := Lib.hid hNN; clear hNN
              have z1 : (0 : Int) < (NN : Int) := by have := HNN.out; rw [List.length_cons] at this; omega
              go_wp2_with fail
              refine (lenP_any _ _ _ _).mono ?_; rintro e w' ⟨rfl, rfl⟩
              go_wp2_with fail
              refine HNX.out.mono ?_; rintro e w2 ⟨a2, ca2, l2, rfl, p2, hp2, s2, o2⟩
              have hq2 : C ≤ w2.heap.size := Nat.le_trans hC o2.size
              have hom2 : OwC C w2 u6 m := row_next HOM.out fun k hk hlt => o2.block k hlt (by have := OwC.lt HOM.out k hk; omega) (by have := OwC.lt HOM.out k hk; omega)
              have H2 := Lib.hid (And.intro p2 (And.intro hp2 (And.intro s2 o2)))
              have X2 := Lib.hid (Bc.made c0.r c0.b c0.t c0.v c0.g w2 28)
              have BW := Lib.hid (bel1 w2 (.cells #[.string c0.r, .string c0.b, .int .i64 c0.t, .int .i64 c0.v, .bool c0.g] 28))
              have HO2 := Lib.hid (hom2.next BW.out)
              have HX := Lib.hid (HMS.out a2 ca2)
              clear p2 hp2 s2 o2 hom2 hc HNX HMS HOM
              obtain ⟨x0, x1, x2, x3, x4, -⟩ := id X2.out
              obtain ⟨a0, cap0, hu6, hv0, hf0⟩ := HO2.out.view
              obtain ⟨gm, om, hga, hgm, h5⟩ := hv0.2.2.2 mm.length q (by rw [← HM0.out, List.getElem?_append_right (Nat.le_refl _), Nat.sub_self]; rfl)
              have hmn : m.length = mm.length + 1 := by rw [← HM0.out]; simp
              rw [hmn] at hu6
              obtain ⟨c0', c1', c2', -, -⟩ := h5
              subst hga
              generalize hmm : mm.length = M at *
              have HMN := Lib.hid hmn
              have hMl : M ≤ 1000000 := by have := HT.out; have := HALL.out.2.2.1; rw [HMN.out] at this; omega
              subst hu6
              clear hmm hmn hv0 hf0
              have y1 : ((M : Int) + 1 == 0) = false := by rw [beq_eq_false_iff_ne]; omega
              have y2 : IntKind.i64.wrap (M : Int) = (M : Int) := IntWalk.i64_in _ (by omega)
              have y3 : (M : Int) < (M : Int) + 1 := by omega
              have y4 : (0 : Int) ≤ (M : Int) := by omega
              have heq := keyEq_of hke
              go_wp2_with fail
              go_quiet (fail)
              have X3 := Lib.hid (show Bc w2.heap.size c0.r c0.b c0.t c0.v c0.g ((w2.alloc (.cells #[.string c0.r, .string c0.b, .int .i64 c0.t, .int .i64 c0.v, .bool c0.g] 28)).drewN nq) from X2.out)
              have O3 := Lib.hid (show OwC C ((w2.alloc (.cells #[.string c0.r, .string c0.b, .int .i64 c0.t, .int .i64 c0.v, .bool c0.g] 28)).drewN nq) _ m from HO2.out)
              have B3 := Lib.hid (show Below w2.heap.size w2 ((w2.alloc (.cells #[.string c0.r, .string c0.b, .int .i64 c0.t, .int .i64 c0.v, .bool c0.g] 28)).drewN nq) from bel_drewN BW.out _)
              clear X2 HO2 BW x0 x1 x2 x3 x4 c0' c1' c2' y1 y2 y3 y4 heq
              generalize (w2.alloc (.cells #[.string c0.r, .string c0.b, .int .i64 c0.t, .int .i64 c0.v, .bool c0.g] 28)).drewN nq = w3 at X3 O3 B3 ⊢
              obtain ⟨x0, x1, x2, x3, x4, hx5⟩ := id X3.out
              have VL := Lib.hid (Vw.lit w3 c0)
              have BL := Lib.hid (bel1 w3 (.cells #[.string c0.r, .string c0.b, .int .i64 c0.t, .int .i64 c0.v, .bool c0.g] 28))
              have hsz3 : C ≤ w3.heap.size := Nat.le_trans hq2 B3.out.size
              have O4 := Lib.hid (O3.out.next BL.out)
              have HML := Lib.hid (show m.length + 1 ≤ 10000000 by have := HT.out; have := HALL.out.2.2.1; rw [tot_cons, HALL.out.2.1] at this; simp at this; omega)
              go_wp2_with (first
                | (at_builtin; refine append_cells rfl (.tmp 44) (.tmp 46) rfl (base := C) (l := m) (m := [c0]) rfl rfl rfl O4.out VL.out (by have := HML.out; simpa using this) (by simp; omega) ?_; intro v5 w5 o5 g5))
              have FIN := Lib.hid (show Merging w b C (tot ps) ps (gk - 1) v5 w5 from by
                obtain ⟨p2, hp2, s2, o2⟩ := H2.out
                obtain ⟨hbel, ht, htt, htk⟩ := HALL.out
                exact Merging.mk hbel o2 s2 (((B3.out.mono hq2).alloc hsz3 _).grown g5 (by simp; omega) (fun j hj => OwC.lt O4.out j hj)) hp2 (by have := HX.out; rw [HDU.out] at this; simpa using this) p2 o5 hgC hbC hq2 ht (by simp) htt htk (by rw [HNN.out]; exact hl4) hbw)
              clear o5 g5
              have hgk : 0 < gk := by have := HALL.out.2.2.2; rw [tot_cons, HALL.out.2.1] at this; simp at this; omega
              go_roundg (gk - 1)
              case measure => omega
              case rel => exact FIN.out
            · have HDU := Lib.hid (show dup (mm ++ [q]) c0 = true by unfold dup; rw [List.getLast?_append]; simpa using hke)
              generalize hm0 : mm ++ [q] = m at *
              have HM0 := Lib.hid hm0; clear hm0
              have HNX := Lib.hid (next_any wr b b g cap t r c0 tc hl4 hs hh ht)
              have HMS := Lib.hid (fun a ca => hmid.step ht hmin a ca)
              have HOM := Lib.hid hom
              have HALL := Lib.hid (And.intro hbel (And.intro ht (And.intro htt htk)))
              have hgC : g < C := hvb g rfl
              have hbs : b < g := hs.2.2.1.base.1
              have hbw : b ≤ wr.heap.size := Nat.le_of_lt hs.2.2.2.2.2
              clear hh ht hmin hs hmid hrow hpo hbel hom ho hf hvb
              generalize hNN : (t :: r).length = NN at *
              have HNN := Lib.hid hNN; clear hNN
              have z1 : (0 : Int) < (NN : Int) := by have := HNN.out; rw [List.length_cons] at this; omega
              go_wp2_with fail
              refine (lenP_any _ _ _ _).mono ?_; rintro e w' ⟨rfl, rfl⟩
              go_wp2_with fail
              refine HNX.out.mono ?_; rintro e w2 ⟨a2, ca2, l2, rfl, p2, hp2, s2, o2⟩
              have hq2 : C ≤ w2.heap.size := Nat.le_trans hC o2.size
              have hom2 : OwC C w2 u6 m := row_next HOM.out fun k hk hlt => o2.block k hlt (by have := OwC.lt HOM.out k hk; omega) (by have := OwC.lt HOM.out k hk; omega)
              have H2 := Lib.hid (And.intro p2 (And.intro hp2 (And.intro s2 o2)))
              have X2 := Lib.hid (Bc.made c0.r c0.b c0.t c0.v c0.g w2 28)
              have BW := Lib.hid (bel1 w2 (.cells #[.string c0.r, .string c0.b, .int .i64 c0.t, .int .i64 c0.v, .bool c0.g] 28))
              have HO2 := Lib.hid (hom2.next BW.out)
              have HX := Lib.hid (HMS.out a2 ca2)
              clear p2 hp2 s2 o2 hom2 hc HNX HMS HOM
              obtain ⟨x0, x1, x2, x3, x4, -⟩ := id X2.out
              obtain ⟨a0, cap0, hu6, hv0, hf0⟩ := HO2.out.view
              obtain ⟨gm, om, hga, hgm, h5⟩ := hv0.2.2.2 mm.length q (by rw [← HM0.out, List.getElem?_append_right (Nat.le_refl _), Nat.sub_self]; rfl)
              have hmn : m.length = mm.length + 1 := by rw [← HM0.out]; simp
              rw [hmn] at hu6
              obtain ⟨c0', c1', c2', -, -⟩ := h5
              subst hga
              generalize hmm : mm.length = M at *
              have HMN := Lib.hid hmn
              have hMl : M ≤ 1000000 := by have := HT.out; have := HALL.out.2.2.1; rw [HMN.out] at this; omega
              subst hu6
              clear hmm hmn hv0 hf0
              have y1 : ((M : Int) + 1 == 0) = false := by rw [beq_eq_false_iff_ne]; omega
              have y2 : IntKind.i64.wrap (M : Int) = (M : Int) := IntWalk.i64_in _ (by omega)
              have y3 : (M : Int) < (M : Int) + 1 := by omega
              have y4 : (0 : Int) ≤ (M : Int) := by omega
              have heq := keyEq_of hke
              go_wp2_with fail
              go_quiet (fail)
              have X3 := Lib.hid (show Bc w2.heap.size c0.r c0.b c0.t c0.v c0.g ((w2.alloc (.cells #[.string c0.r, .string c0.b, .int .i64 c0.t, .int .i64 c0.v, .bool c0.g] 28)).drewN nq) from X2.out)
              have O3 := Lib.hid (show OwC C ((w2.alloc (.cells #[.string c0.r, .string c0.b, .int .i64 c0.t, .int .i64 c0.v, .bool c0.g] 28)).drewN nq) _ m from HO2.out)
              have B3 := Lib.hid (show Below w2.heap.size w2 ((w2.alloc (.cells #[.string c0.r, .string c0.b, .int .i64 c0.t, .int .i64 c0.v, .bool c0.g] 28)).drewN nq) from bel_drewN BW.out _)
              clear X2 HO2 BW x0 x1 x2 x3 x4 c0' c1' c2' y1 y2 y3 y4 heq
              generalize (w2.alloc (.cells #[.string c0.r, .string c0.b, .int .i64 c0.t, .int .i64 c0.v, .bool c0.g] 28)).drewN nq = w3 at X3 O3 B3 ⊢
              have FIN := Lib.hid (show Merging w b C (tot ps) ps (gk - 1) (.slice (some ⟨gm, om, none⟩) (M + 1) cap0) w3 from by
                obtain ⟨p2, hp2, s2, o2⟩ := H2.out
                obtain ⟨hbel, ht, htt, htk⟩ := HALL.out
                exact Merging.mk hbel o2 s2 (B3.out.mono hq2) hp2 (by have := HX.out; rw [HDU.out] at this; simpa using this) p2 O3.out hgC hbC hq2 ht (by simp) htt htk (by rw [HNN.out]; exact hl4) hbw)
              have hgk : 0 < gk := by have := HALL.out.2.2.2; rw [tot_cons, HALL.out.2.1] at this; simp at this; omega
              go_wp2_with fail
              go_roundg (gk - 1)
              case measure => omega
              case rel => exact FIN.out
end Go.Proofs.Ytkkpokfekbdigaa.Cl
namespace Go.Proofs.Ytkkpokfekbdigaa.Cl
open Go.RowKit Wd Rp Kp
set_option linter.unusedVariables false
/-- What Merged gives. -/
def mgP (a b : List Cel) : List Cel := if okL a && okL b then (if 200 < (mergeL a b).length then [] else mergeL a b) else []
theorem mgP_no {a b : List Cel} (h : (okL a && okL b) = false) : mgP a b = [] := by unfold mgP; rw [h]; rfl
theorem mgP_big {a b : List Cel} (h : okL a = true) (k : okL b = true) (hb : 200 < (mergeL a b).length) : mgP a b = [] := by unfold mgP; rw [h, k, if_pos hb]; rfl
theorem mgP_yes {a b : List Cel} (h : okL a = true) (k : okL b = true) (hb : ¬ 200 < (mergeL a b).length) : mgP a b = mergeL a b := by unfold mgP; rw [h, k, if_neg hb]; rfl
theorem okL_len {l : List Cel} (h : okL l = true) : l.length ≤ 200 := (okL_iff.1 h).2
theorem okL_srt {l : List Cel} (h : okL l = true) : Srt l := okL_pair h
theorem mgP_len (a b : List Cel) : (mgP a b).length ≤ 200 := by
  unfold mgP; split
  · split
    · simp
    · omega
  · simp
/-- Two lists, merged by rank. -/
theorem two_fst {x y : Option Addr} {cx cy : Nat} {a b : List Cel} (ha : Srt a) (hb : Srt b) (c : Cel) : Fst [⟨0, x, cx, a⟩, ⟨1, y, cy, b⟩] c ↔ c ∈ mergeL a b := by
  rw [mem_merge a b ha hb]
  constructor
  · rintro ⟨p, hp, hc, h⟩
    rcases List.mem_cons.1 hp with rfl | hp
    · exact Or.inl hc
    · rw [List.mem_singleton] at hp; subst hp
      exact Or.inr ⟨hc, h ⟨0, x, cx, a⟩ List.mem_cons_self (by show 0 < 1; omega)⟩
  · rintro (h | ⟨h1, h2⟩)
    · refine ⟨_, List.mem_cons_self, h, fun q hq hk => ?_⟩
      exact absurd hk (Nat.not_lt_zero _)
    · refine ⟨_, List.mem_cons_of_mem _ (List.mem_singleton.2 rfl), h1, fun q hq hk d hd => ?_⟩
      rcases List.mem_cons.1 hq with rfl | hq
      · exact h2 d hd
      · rw [List.mem_singleton] at hq; subst hq
        exact absurd hk (Nat.lt_irrefl _)
def MgPost (a b : List Cel) (w : World) (e : Ending) (w' : World) : Prop := ∃ v, e = .returned v ∧ OwC w.heap.size w' v (mgP a b) ∧ Below w.heap.size w w'
set_option maxHeartbeats 4000000 in
set_option maxRecDepth 100000 in
theorem implMerged_any (w : World) (x y : Option Addr) (cx cy : Nat) (a b : List Cel) (n k : Nat) (hn : a.length = n) (hk : b.length = k) (ha : Vw w x cx a) (hb : Vw w y cy b) (hn2 : n ≤ 4194304) (hk2 : k ≤ 4194304) :
    Calls Try.prog 29 #[.slice x n cx, .slice y k cy] w (MgPost a b w) := by
  have HA := Lib.hid ha; clear ha
  have HB := Lib.hid hb; clear hb
  cases h1 : okL a
  · have HP := Lib.hid (mgP_no (a := a) (b := b) (by rw [h1]; rfl))
    have H1 := Lib.hid h1; clear h1
    go_enter Try.func29, Try.ntmps29
    go_wp2_with fail
    refine (implCells_is H1.out _ x cx n hn HA.out hn2).mono ?_; rintro e w1 ⟨rfl, b1⟩
    have B1 := Lib.hid b1; clear b1
    go_wp2_with fail
    go_ret
    exact ⟨_, rfl, by rw [HP.out]; exact OwC.nothing _ _, B1.out⟩
  · cases h2 : okL b
    · have HP := Lib.hid (mgP_no (a := a) (b := b) (by rw [h1, h2]; rfl))
      have H1 := Lib.hid h1; clear h1
      have H2 := Lib.hid h2; clear h2
      go_enter Try.func29, Try.ntmps29
      go_wp2_with fail
      refine (implCells_is H1.out _ x cx n hn HA.out hn2).mono ?_; rintro e w1 ⟨rfl, b1⟩
      have B1 := Lib.hid b1; clear b1
      go_wp2_with fail
      refine (implCells_is H2.out _ y cy k hk (HB.out.below B1.out) hk2).mono ?_; rintro e w2 ⟨rfl, b2⟩
      have B2 := Lib.hid (bel_tr B1.out b2 (Nat.le_refl _)); clear b2
      go_wp2_with fail
      go_ret
      exact ⟨_, rfl, by rw [HP.out]; exact OwC.nothing _ _, B2.out⟩
    · have hla := okL_len h1
      have hlb := okL_len h2
      have HQ := Lib.hid (fun m (hs : Srt m) (hm : ∀ c, c ∈ m ↔ Fst [⟨0, x, cx, a⟩, ⟨1, y, cy, b⟩] c) => srt_ext hs (srt_merge a b (okL_srt h1) (okL_srt h2)) (fun c => by rw [hm c, two_fst (okL_srt h1) (okL_srt h2)]))
      have HO := Lib.hid (And.intro h1 h2)
      have HAR := Lib.hid (fun (z : World) (hz : Below w.heap.size w z) => show Args (z.alloc (.cells #[.slice x n cx, .slice y k cy] 24)) z.heap.size 0 [⟨0, x, cx, a⟩, ⟨1, y, cy, b⟩] from by
        have hbl := bel1 z (.cells #[.slice x n cx, .slice y k cy] 24)
        have hp : (z.alloc (.cells #[.slice x n cx, .slice y k cy] 24)).heap[z.heap.size]? = some (.cells #[.slice x n cx, .slice y k cy] 24) := by show (z.heap.push _)[z.heap.size]? = _; simp
        refine ⟨by simp, fun i p hip => ?_⟩
        match i, hip with
        | 0, hip =>
          obtain rfl : (⟨0, x, cx, a⟩ : Pile) = p := by simpa using hip
          refine ⟨by simp only [World.cell?, hp]; rw [hn]; rfl, rfl, okL_mem h1, okL_srt h1, (HA.out.below hz).below hbl⟩
        | 1, hip =>
          obtain rfl : (⟨1, y, cy, b⟩ : Pile) = p := by simpa using hip
          refine ⟨by simp only [World.cell?, hp]; rw [hk]; rfl, rfl, okL_mem h2, okL_srt h2, (HB.out.below hz).below hbl⟩
        | i + 2, hip => simp at hip)
      have HT := Lib.hid (show tot [⟨0, x, cx, a⟩, ⟨1, y, cy, b⟩] ≤ 400 by simp [tot]; omega)
      clear h1 h2 hla hlb
      go_enter Try.func29, Try.ntmps29
      go_wp2_with fail
      refine (implCells_is HO.out.1 _ x cx n hn HA.out hn2).mono ?_; rintro e w1 ⟨rfl, b1⟩
      have B1 := Lib.hid b1; clear b1
      go_wp2_with fail
      refine (implCells_is HO.out.2 _ y cy k hk (HB.out.below B1.out) hk2).mono ?_; rintro e w2 ⟨rfl, b2⟩
      have B2 := Lib.hid (bel_tr B1.out b2 (Nat.le_refl _)); clear b2
      go_wp2_with fail
      refine (mergedShelves_any _ w2.heap.size 0 2 [⟨0, x, cx, a⟩, ⟨1, y, cy, b⟩] 2 rfl (by decide) (by have := HT.out; omega) (HAR.out w2 B2.out)).mono ?_; rintro e w3 ⟨v, m, rfl, o3, s3, m3, b3, l3⟩
      obtain rfl := HQ.out m s3 m3
      have B3 := Lib.hid (bel_tr B2.out (bel_tr (bel1 _ _) b3 (Nat.le_refl _)) (Nat.le_refl _))
      have O3 := Lib.hid (o3.mono (Nat.le_trans B2.out.size (by simp)))
      have l4 : (mergeL a b).length ≤ 400 := Nat.le_trans l3 HT.out
      clear s3 m3 b3 l3
      obtain ⟨va, vc, rfl, -, -⟩ := o3.view
      clear o3
      by_cases hbg : 200 < (mergeL a b).length
      · have HP := Lib.hid (mgP_big HO.out.1 HO.out.2 hbg)
        generalize hml : (mergeL a b).length = ml at *
        have z1 : (200 : Int) < (ml : Int) := by omega
        clear hml
        go_wp2_with fail
        go_ret
        exact ⟨_, rfl, by rw [HP.out]; exact OwC.nothing _ _, B3.out⟩
      · have HP := Lib.hid (mgP_yes HO.out.1 HO.out.2 hbg)
        generalize hml : (mergeL a b).length = ml at *
        have z1 : ¬ (200 : Int) < (ml : Int) := by omega
        clear hml
        go_wp2_with fail
        go_ret
        exact ⟨_, rfl, by rw [HP.out]; exact O3.out, B3.out⟩
end Go.Proofs.Ytkkpokfekbdigaa.Cl
