/-
  Contracts of (*impl.piles).Push and (*impl.piles).Pop.
-/
import Derived.Test.YtopcjiaakefmeaaPd
import Derived.Deep.RegionLaw
import Derived.Deep.AppendLies
namespace Go.Proofs.Ytopcjiaakefmeaa.Cl
open Go.RowKit Wd Rp Kp
set_option linter.unusedVariables false
theorem infoP : (Try.prog.info? 141).map (fun i => (i.zero, i.size, i.bytes)) = some (some (.agg #[.int .i64 0, .slice none 0 0]), 2, 32) := by kernel_rfl
/-- A slice of piles of the call's own, or nil. -/
def OwP (B : Nat) (w : World) (v : Value) (l : List Pile) : Prop := w.ownsRow B 141 2 v l.length (flatP l)
theorem OwP.next {B : Nat} {w w' : World} {v : Value} {l : List Pile} (h : OwP B w v l) (hb : Below w.heap.size w w') : OwP B w' v l := row_next h fun g _ hg => hb.block g hg
/-- Two cells in a block of their own. -/
theorem two_of {w : World} {n : Nat} {x0 x1 : Value} {T : Nat} (h : w.heap[n]? = some (.cells #[x0, x1] T (0, 0))) : ∀ j u, [x0, x1][j]? = some u → w.cell? ((⟨n, 0, none⟩ : Addr).add j) = some u := by
  have hadd : ∀ j, (⟨n, 0, none⟩ : Addr).add j = ⟨n, 0 + j, none⟩ := fun j => by cases j <;> simp [Addr.add]
  intro j u hj
  rw [hadd, Nat.zero_add]
  match j, hj with
  | 0, hj => simp [World.cell?, h]; simpa using hj
  | 1, hj => simp [World.cell?, h]; simpa using hj
theorem step_append_pile {ops : Array Oper} {o : Oper} {a : Act} {K : Act → World → Prop} {Q : Exit → Act → World → Prop} {E : Prop} {w : World} (hgd : o.guard = none) (s x : Operand)
    (ho : o.op = .call { callee := .builtin .append, args := #[s, x], argTypes := #[137, 137] })
    {B N : Nat} {v : Value} {l : List Pile} {p : Pile} (hs : a.eval s = v) (hx : a.eval x = .slice (some ⟨N, 0, none⟩) 1 1) (hown : OwP B w v l) (hN : w.heap[N]? = some (.cells #[.int .i64 (p.k : Int), .slice p.a p.c.length p.cap] 141 (0, 0))) (hl : l.length ≤ 4194303) (hB : B ≤ w.heap.size)
    (h : ∀ g cap w', RowP B w' g cap (l ++ [p]) → w.grownBy w' v.ownBlock → K (a.put o.dst (.slice (some ⟨g, 0, none⟩) (l.length + 1) cap)) w') :
    if Region.wanted o (yielded ops a.tmps) = true then Oper.wp Try.prog o a w K Q else E := by
  obtain ⟨i0, hi, hz0, hz1, hz2⟩ := info_parts infoP
  refine step_append_lies _ hgd s x 137 ho B 141 i0 _ 2 32 Try.underlying137 hi hz0 hz1 hz2 rfl (by decide) v l.length (flatP l) hs hown ⟨N, 0, none⟩ 1 1 p.vals hx rfl (two_of hN) (by intro u hu; simp [Pile.vals] at hu; rcases hu with rfl | rfl <;> rfl) (by decide) (by unfold maxLen; omega) (by omega) hB _ rfl ?_
  intro g cap w2 hown2 hgrow2 hat2 hlt2
  refine h g cap w2 ?_ hgrow2
  unfold RowP
  rw [List.length_append, List.length_singleton, flatP_app]
  exact hown2
/-- What Push leaves. -/
def PushPost (b : Nat) (l : List Pile) (w : World) (e : Ending) (w' : World) : Prop := ∃ g cap, e = .returned (.tuple #[]) ∧ w'.cell? ⟨b, 0, none⟩ = some (.slice (some ⟨g, 0, none⟩) l.length cap) ∧ w'.frozen? ⟨b, 0, none⟩ = false ∧ RowP (b + 1) w' g cap l ∧ Below b w w'
set_option maxHeartbeats 4000000 in
set_option maxRecDepth 100000 in
theorem pushM_any (w : World) (b : Nat) (v : Value) (l : List Pile) (p : Pile) (hc : w.cell? ⟨b, 0, none⟩ = some v) (hf : w.frozen? ⟨b, 0, none⟩ = false) (ho : OwP (b + 1) w v l) (hb : b < w.heap.size) (hl : l.length ≤ 4194303) :
    Calls Try.prog 166 #[.pointer (some ⟨b, 0, none⟩), .iface 141 (.agg #[.int .i64 (p.k : Int), .slice p.a p.c.length p.cap])] w (PushPost b (l ++ [p]) w) := by
  have hW : Below w.heap.size w (((w.alloc (.cells #[.int .i64 (p.k : Int), .slice p.a p.c.length p.cap] 141)).alloc (.cells #[.int .i64 (p.k : Int), .slice p.a p.c.length p.cap] 141)).drew) := (((Below.refl _ _).alloc (Nat.le_refl _) _).alloc (by simp) _).drew
  have HBW := Lib.hid hW
  have HOW := Lib.hid (ho.next hW)
  have HN := Lib.hid (show (((w.alloc (.cells #[.int .i64 (p.k : Int), .slice p.a p.c.length p.cap] 141)).alloc (.cells #[.int .i64 (p.k : Int), .slice p.a p.c.length p.cap] 141)).drew).heap[w.heap.size + 1]? = some (.cells #[.int .i64 (p.k : Int), .slice p.a p.c.length p.cap] 141 (0, 0)) by
    show ((w.heap.push _).push _)[w.heap.size + 1]? = _
    rw [Array.getElem?_push, if_pos (by simp)])
  have HSZ := Lib.hid (show b + 1 ≤ (((w.alloc (.cells #[.int .i64 (p.k : Int), .slice p.a p.c.length p.cap] 141)).alloc (.cells #[.int .i64 (p.k : Int), .slice p.a p.c.length p.cap] 141)).drew).heap.size from Nat.le_trans hb hW.size)
  have HNE := Lib.hid (show ∀ k, v.ownBlock = some k → b + 1 ≤ k from fun k hk => (World.ownsRow.lt ho k hk).1)
  have HCW := Lib.hid (coc hW hb hc)
  have HFW := Lib.hid ((World.frozen?_of_block (w := w) (a := ⟨b, 0, none⟩) (hW.block b hb)).trans hf)
  clear ho hW
  have ta : ∀ (u : Value) (w : World), (Instr.typeAssert (.iface 141 u) 20 141 true).run Try.prog w = .ok (.tuple #[u, .bool true]) w := fun _ _ => by kernel_rfl
  go_enter Try.func166, Try.ntmps166
  go_wp2_with fail
  clear ta
  go_region_law ((refine step_append_pile rfl (.tmp 15) (.tmp 17) rfl (B := b + 1) (N := w.heap.size + 1) (v := v) (l := l) (p := p) rfl rfl HOW.out HN.out hl HSZ.out ?_; intro g cap w2 r2 hg2; have HG2 := Lib.hid hg2; have HR2 := Lib.hid r2; have c2 := hg2.cell HCW.out (fun e => by have := HNE.out _ e.symm; simp at this; omega); have f2 := (World.frozen?_of_block (a := ⟨b, 0, none⟩) (hg2.block b (by have := HSZ.out; omega) (fun e => by have := HNE.out _ e.symm; omega))).trans HFW.out; clear hg2 r2))
  all_goals go_end0
  all_goals
    have hgb := HR2.out.base
    refine ⟨g, cap, rfl, by rw [List.length_append]; exact World.cell?_setCell_same' _ _ _ (by rw [c2]; rfl), by simp [f2], HR2.out.next (Below.heap_setCell w2 _ _ g (by show g ≠ b; omega)), ?_⟩
    exact ((HBW.out.mono (Nat.le_of_lt hb)).grown HG2.out (by have := HSZ.out; omega) (fun k hk => by have := HNE.out k hk; omega)).setCell (Nat.le_refl b) _
theorem RowP.pop {B : Nat} {w : World} {g cap : Nat} {l : List Pile} {x : Pile} (h : RowP B w g cap (l ++ [x])) : RowP B w g cap l := by
  obtain ⟨h1, h2⟩ := h
  rcases h2 with ⟨e, _⟩ | ⟨g', cap', cur, e, hB, hg, hn, hc, hsz, hxs⟩
  · cases e
  · cases e
    rw [List.length_append, List.length_singleton] at hn hxs
    refine ⟨flatP_len l, Or.inr ⟨g, cap, cur, rfl, hB, hg, by omega, hc, hsz, ?_⟩⟩
    have e1 : l.length * 2 = (flatP l).length := (flatP_len l).symm
    have e2 := congrArg (List.take (l.length * 2)) hxs
    rw [List.take_take, Nat.min_eq_left (by omega), flatP_app, e1, List.take_left] at e2
    rw [e1]; exact e2
set_option maxRecDepth 100000 in
theorem cut_toP (g n cap : Nat) (hn : 1 ≤ n) (hc : n ≤ cap) : ∀ w, (Instr.slice 137 (.slice (some ⟨g, 0, none⟩) n cap) none (some (.int .i64 ((n : Int) - 1))) none).run Try.prog w = .ok (.slice (some ⟨g, 0, none⟩) (n - 1) cap) w := by
  intro w
  have hu : Try.prog.underlying 137 = some (.slice (Try.prog.elem 137)) := by kernel_rfl
  have hs : ∀ w, (sizeOf (Try.prog.elem 137)).run Try.prog w = .ok 2 w := fun w => by
    rw [show Try.prog.elem 137 = 141 by kernel_rfl]; exact Try.sizeOf141 w
  rw [show ((n : Int) - 1) = ((n - 1 : Nat) : Int) by omega]
  rw [run_slice_h w 137 (some ⟨g, 0, none⟩) n cap hu .i64 ((n - 1 : Nat) : Int) (by omega) (by omega), hs]
  show Result.ok (Value.slice (if cap = 0 then (some ⟨g, 0, none⟩) else (some (⟨g, 0, none⟩ : Addr)).map (·.add (0 * 2))) (((n - 1 : Nat) : Int).toNat - 0) (cap - 0)) w = _
  rw [if_neg (by omega)]
  simp [Addr.add]
/-- What Pop leaves. -/
def PopPost (b g cap : Nat) (l : List Pile) (w : World) (e : Ending) (w' : World) : Prop := (∃ v, e = .returned v) ∧ w'.cell? ⟨b, 0, none⟩ = some (.slice (some ⟨g, 0, none⟩) l.length cap) ∧ w'.frozen? ⟨b, 0, none⟩ = false ∧ RowP (b + 1) w' g cap l ∧ Onl b g w w'
set_option maxHeartbeats 4000000 in
set_option maxRecDepth 100000 in
theorem popM_any (w : World) (b g cap : Nat) (l : List Pile) (x : Pile) (n : Nat) (hn : (l ++ [x]).length = n) (hc : w.cell? ⟨b, 0, none⟩ = some (.slice (some ⟨g, 0, none⟩) n cap)) (hf : w.frozen? ⟨b, 0, none⟩ = false) (hr : RowP (b + 1) w g cap (l ++ [x])) (hb : b < w.heap.size) (hl : l.length ≤ 4194303) :
    Calls Try.prog 165 #[.pointer (some ⟨b, 0, none⟩)] w (PopPost b g cap l w) := by
  have hbs := hr.base
  rw [hn] at hbs
  have HX := Lib.hid (hr.at (i := l.length) (p := x) (by rw [List.getElem?_append_right (Nat.le_refl _), Nat.sub_self]; rfl))
  have hn' : n = l.length + 1 := by rw [← hn]; simp
  have hcut := cut_toP g n cap (by omega) hbs.2.2.1
  have HP := Lib.hid hr.pop
  have hln : l.length = n - 1 := by omega
  rw [hln] at HX
  obtain ⟨x0, x1, -, -⟩ := id HX.out
  have i1 : (0 : Int) ≤ (n : Int) - 1 := by omega
  have i2 : (n : Int) - 1 < (n : Int) := by omega
  have i3 : (n : Int) ≤ 4194304 := by omega
  have HL := Lib.hid hln
  have HNN := Lib.hid hn
  clear hr hn hn' hln HX
  go_enter Try.func165, Try.ntmps165
  go_wp2_with fail
  go_ret
  have hs : (w.setCell ⟨b, 0, none⟩ (.slice (some ⟨g, 0, none⟩) (n - 1) cap)).heap.size = w.heap.size := setCell_size _ _ _
  have hbel := bel1 (w.setCell ⟨b, 0, none⟩ (.slice (some ⟨g, 0, none⟩) (n - 1) cap)) (.cells #[.int .i64 (x.k : Int), .slice x.a x.c.length x.cap] 141)
  refine ⟨⟨_, rfl⟩, ?_, ?_, ?_, ?_⟩
  · rw [HL.out]
    exact (hbel.cell (p := ⟨b, 0, none⟩) (by rw [hs]; exact hb)).trans (World.cell?_setCell_same' _ _ _ (by rw [hc]; rfl))
  · exact (hbel.frozen (p := ⟨b, 0, none⟩) (by rw [hs]; exact hb)).trans (by simp [hf])
  · exact HP.out.next ((hbel.block g (by rw [hs]; exact hbs.2.1)).trans (Below.heap_setCell w _ _ g (by show g ≠ b; omega)))
  · exact ((Onl.refl b g w).setCell (p := ⟨b, 0, none⟩) (Or.inl rfl) _).next hbel
end Go.Proofs.Ytopcjiaakefmeaa.Cl
