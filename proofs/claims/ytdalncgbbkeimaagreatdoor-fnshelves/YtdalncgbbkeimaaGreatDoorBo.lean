/-
  The walk of spec.l1Bend: some text at most two bytes longer; the cursor stays a cursor, nothing else that was there turns.
-/
import Derived.Test.YtdalncgbbkeimaaGreatDoorCu
namespace Go.Proofs.YtdalncgbbkeimaaGreatDoor.Cu
open Go.RowKit
/-- Block g, made by the call, holds len bytes from its beginning on. -/
def Bs (w0 w : World) (g cap len : Nat) : Prop := w0.heap.size ≤ g ∧ g < w.heap.size ∧ len ≤ cap ∧ cap ≤ maxLen ∧ ∀ k, k < len → (∃ z : Int, w.cell? ⟨g, k, none⟩ = some (.int .u8 z) ∧ 0 ≤ z ∧ z ≤ 255) ∧ w.frozen? ⟨g, k, none⟩ = false
theorem Bs.of {w0 w : World} {v : Value} {n : Nat} (h : OwnB w0 w v n) : ∃ g cap, v = .slice (some ⟨g, 0, none⟩) n cap ∧ Bs w0 w g cap n := by
  obtain ⟨g, cap, h1, h2⟩ := h.form
  exact ⟨g, cap, h1, h2⟩
theorem Bs.carry {w0 w w' : World} {g cap len : Nat} (h : Bs w0 w g cap len) (hs : w.heap.size ≤ w'.heap.size) (hg : w'.heap[g]? = w.heap[g]?) : Bs w0 w' g cap len := by
  obtain ⟨h1, h2, h3, h4, h5⟩ := h
  refine ⟨h1, Nat.lt_of_lt_of_le h2 hs, h3, h4, fun k hk => ?_⟩
  obtain ⟨⟨z, hz, hr⟩, hf⟩ := h5 k hk
  exact ⟨⟨z, (World.cell?_of_block (w := w) (a := ⟨g, k, none⟩) hg).trans hz, hr⟩, (World.frozen?_of_block (w := w) (a := ⟨g, k, none⟩) hg).trans hf⟩
theorem Bs.draws {w0 w w' : World} {g cap len b : Nat} (h : Bs w0 w g cap len) (hb : But b w w') (hlt : b < w0.heap.size) : Bs w0 w' g cap len :=
  h.carry hb.size (hb.block g h.2.1 (by have := h.1; omega))
theorem Bs.alloc {w0 w : World} {g cap len : Nat} (h : Bs w0 w g cap len) (o : Obj) : Bs w0 (w.alloc o) g cap len := h.carry (by simp) (Below.heap_alloc _ _ _ h.2.1)
theorem Bs.drew {w0 w : World} {g cap len : Nat} (h : Bs w0 w g cap len) : Bs w0 w.drew g cap len := h
theorem Bs.take {w0 w : World} {g cap len k : Nat} (h : Bs w0 w g cap len) (hk : k ≤ len) : Bs w0 w g cap k :=
  ⟨h.1, h.2.1, Nat.le_trans hk h.2.2.1, h.2.2.2.1, fun j hj => h.2.2.2.2 j (by omega)⟩
theorem Bs.set {w0 w : World} {g cap len k : Nat} {z : Int} (h : Bs w0 w g cap len) (z0 : 0 ≤ z) (z1 : z ≤ 255) : Bs w0 (w.setCell ⟨g, k, none⟩ (.int .u8 z)) g cap len := by
  obtain ⟨h1, h2, h3, h4, h5⟩ := h
  refine ⟨h1, by simpa [World.setCell] using h2, h3, h4, fun j hj => ?_⟩
  obtain ⟨⟨x, hx, hr⟩, hf⟩ := h5 j hj
  refine ⟨?_, by rw [World.frozen?_setCell]; exact hf⟩
  by_cases e : j = k
  · subst e
    exact ⟨z, World.cell?_setCell_same w ⟨g, j, none⟩ (.int .u8 z) hx, z0, z1⟩
  · exact ⟨x, (World.cell?_setCell_other w ⟨g, k, none⟩ ⟨g, j, none⟩ (.int .u8 z) (by intro e'; apply e; cases e'; rfl)).trans hx, hr⟩
theorem Bs.src {w0 w : World} {g cap len : Nat} (h : Bs w0 w g cap len) (i m : Nat) (him : i + m ≤ len) : Src w ⟨g, i, none⟩ m := fun j hj => by
  obtain ⟨⟨z, hz, hr⟩, _⟩ := h.2.2.2.2 (i + j) (by omega)
  have hadd : (⟨g, i, none⟩ : Addr).add j = ⟨g, i + j, none⟩ := by unfold Addr.add; split <;> simp_all
  exact ⟨z, by rw [hadd]; exact hz, hr⟩
theorem Bs.conv {w0 w : World} {g cap len : Nat} (h : Bs w0 w g cap len) : ∃ t : ByteArray, t.size = len ∧ Sem.run Tryz.prog (convert 22 9 (Value.slice (some ⟨g, 0, none⟩) len cap)) w = .ok (.string t) w := by
  obtain ⟨news, hl, hn, hB⟩ := (h.src 0 len (by omega)).list
  have hz : ∃ xs : List Int, news = xs.map (Value.int .u8) := by
    clear hl hn
    induction news with
    | nil => exact ⟨[], rfl⟩
    | cons u r ih =>
      obtain ⟨xs, hx⟩ := ih (fun v hv => hB v (List.mem_cons_of_mem _ hv))
      obtain ⟨z, rfl, _⟩ := hB u (List.mem_cons_self ..)
      exact ⟨z :: xs, by rw [hx]; rfl⟩
  obtain ⟨xs, rfl⟩ := hz
  have hlen : xs.length = len := by simpa using hl
  refine ⟨strOfNums xs, by rw [strOfNums_size, hlen], ?_⟩
  refine run_convert_bytes_arg (P := Tryz.prog) w 22 5 Tryz.underlying22 Tryz.underlying5 g 0 len cap xs hlen (fun i hi => ?_) 9 Tryz.underlying9
  have := hn i (.int .u8 (xs.getD i 0)) (by simp [List.getD, List.getElem?_eq_getElem (show i < xs.length by omega)])
  have hadd : (⟨g, 0, none⟩ : Addr).add i = ⟨g, 0 + i, none⟩ := by unfold Addr.add; split <;> simp_all
  rwa [hadd] at this

theorem start_bytes (w : World) (s : ByteArray) (hs : s.size ≤ 1000000) : Bs w (Lib.bytesWorld w 5 s) w.heap.size (grownCap w s.size 0 5) s.size := by
  have h1 := Lib.bytesWorld_at_new w 5 s
  have hge : s.size ≤ grownCap w s.size 0 5 := grownCap_ge _ _ _ _
  refine ⟨Nat.le_refl _, by rw [Lib.bytesWorld_size]; omega, hge, grownCap_le_maxLen _ _ _ _ (by unfold maxLen; omega), fun k hk => ⟨⟨_, Lib.bytesWorld_cell w _ s k hk, by omega, ?_⟩, ?_⟩⟩
  · have := (s.data.toList.getD k 0).toNat_lt; omega
  · have hsz : s.size ≤ (Lib.bytesCells w 5 s).size := by
      unfold Lib.bytesCells
      rw [Array.size_append, Array.size_map]
      show s.data.size ≤ _
      omega
    simp only [World.frozen?, h1]
    simp; omega

/-- Where the call stands, and that block g still holds its bytes. -/
structure Inv (w0 : World) (B b g cap len : Nat) (w : World) : Prop where
  st : St w0 B b w
  bs : Bs w0 w g cap len
theorem Inv.alloc {w0 w : World} {B b g cap len : Nat} (h : Inv w0 B b g cap len w) (o : Obj) : Inv w0 B b g cap len (w.alloc o) := ⟨h.st.alloc o, h.bs.alloc o⟩
theorem Inv.drew {w0 w : World} {B b g cap len : Nat} (h : Inv w0 B b g cap len w) : Inv w0 B b g cap len w.drew := ⟨h.st.drew, h.bs.drew⟩
/-- The slice does not lie in block g. -/
def Far (g : Nat) (v : Value) : Prop := ∀ k, v.ownBlock = some k → k ≠ g
theorem OwnB.start' {w0 w : World} (h : w0.heap.size ≤ w.heap.size) (N : Nat) (hN : w.heap.size = N) : OwnB w0 (w.alloc (.cells #[] 5)) (.slice (some ⟨N, 0, none⟩) 0 0) 0 := by subst hN; exact OwnB.start h
theorem far_at {g N c : Nat} (h : g < N) : Far g (.slice (some ⟨N, 0, none⟩) 0 c) := fun k hk => by cases hk; show N ≠ g; omega
theorem src_one (w : World) (x : Int) (x0 : 0 ≤ x) (x1 : x ≤ 255) (N : Nat) (hN : w.heap.size = N) : Src (w.alloc (.cells #[.int .u8 x] 5)) ⟨N, 0, none⟩ 1 := fun j hj => by
  subst hN
  have h0 : j = 0 := by omega
  subst h0
  refine ⟨x, ?_, x0, x1⟩
  have hp : (w.alloc (.cells #[Value.int IntKind.u8 x] 5)).heap[w.heap.size]? = some (.cells #[Value.int IntKind.u8 x] 5) := by show (w.heap.push _)[w.heap.size]? = _; simp
  have hadd : (⟨w.heap.size, 0, none⟩ : Addr).add 0 = ⟨w.heap.size, 0, none⟩ := rfl
  rw [hadd]
  simp only [World.cell?, hp]; rfl
theorem Src.alloc {w : World} {ad : Addr} {m : Nat} (h : Src w ad m) (hl : ad.block < w.heap.size) (o : Obj) : Src (w.alloc o) ad m := h.carry (Below.heap_alloc _ _ _ hl)
/-- What an append leaves of the rest. -/
def Apart (w w' : World) (v : Value) : Prop := w.heap.size ≤ w'.heap.size ∧ ∀ N, N < w.heap.size → v.ownBlock ≠ some N → w'.heap[N]? = w.heap[N]?
theorem step_app {ops : Array Oper} {o : Oper} {a : Act} {w : World} {K : Act → World → Prop} {Q : Exit → Act → World → Prop} {E : Prop}
    (hg : o.guard = none) (s x : Operand) (hop : o.op = Op.call { callee := Callee.builtin Builtin.append, args := #[s, x], argTypes := #[22, 22] })
    (w0 : World) (B b g cap len : Nat) (v : Value) (n : Nat) (hs : a.eval s = v) (hinv : Inv w0 B b g cap len w) (hown : OwnB w0 w v n) (hfar : Far g v) (ad : Addr) (m c : Nat) (hx : a.eval x = .slice (some ad) m c) (hsrc : Src w ad m) (hbd : n + m ≤ 1000000)
    (hK : ∀ v' w', OwnB w0 w' v' (n + m) → Far g v' → Inv w0 B b g cap len w' → Apart w w' v → K (a.put o.dst v') w') :
    if Region.wanted o (yielded ops a.tmps) = true then Oper.wp Tryz.prog o a w K Q else E := by
  refine step_append_bytes hg s x hop w0 v n hs hown ad m c hx hsrc hbd hinv.st.size ?_
  intro v' w' h1 h2 h3
  have hrow : ∀ k, v.ownBlock = some k → w0.heap.size ≤ k := fun k hk => by obtain ⟨_, xs, ho, _⟩ := hown; exact (ho.lt k hk).1
  refine hK v' w' h1 (fun k hk => ?_) ⟨hinv.st.grown h2 hrow, hinv.bs.carry h2.size (h2.block g hinv.bs.2.1 (fun e => hfar g e.symm rfl))⟩ ⟨h2.size, fun N hN hne => h2.block N hN (fun e => hne e.symm)⟩
  rcases h3 with h3 | h3
  · exact hfar k (by rw [← h3]; exact hk)
  · rw [hk] at h3
    have : k = w.heap.size := by simpa using h3
    have := hinv.bs.2.1
    omega
/-- A draw of the cursor, with all that stays. -/
def DrawsI (w0 : World) (B b g cap len : Nat) (w : World) (hi : Int) (e : Ending) (w' : World) : Prop := ∃ x : Int, e = .returned (.int .i64 x) ∧ 0 ≤ x ∧ x ≤ hi ∧ Inv w0 B b g cap len w' ∧ But b w w'
theorem below_inv (w0 : World) (B b g cap len : Nat) (n : Int) (w : World) (h : Inv w0 B b g cap len w) (n1 : 1 ≤ n) (n2 : n ≤ 9223372036854775807) : Calls Tryz.prog 40 #[.pointer (some ⟨b, 0, none⟩), .int .i64 n] w (DrawsI w0 B b g cap len w (n - 1)) := by
  refine (below_any B b n w h.st.cur n1 n2).mono ?_
  rintro e w' ⟨x, rfl, x0, x1, hc, hw⟩
  exact ⟨x, rfl, x0, x1, ⟨h.st.draws hw hc, h.bs.draws hw h.st.lt⟩, hw⟩

/-- A drawn text of at most n bytes. -/
def DrawsT (B b : Nat) (w : World) (n : Nat) (e : Ending) (w' : World) : Prop := ∃ t : ByteArray, e = .returned (.string t) ∧ t.size ≤ n ∧ Cur B b w' ∧ But b w w'
set_option maxRecDepth 100000 in
set_option maxHeartbeats 4000000 in
theorem bend_any (B b : Nat) (s signs : ByteArray) (w : World) (hc : Cur B b w) (hs : s.size ≤ 500000) (g0 : 1 ≤ signs.size) (g1 : signs.size ≤ 100) :
    Calls Tryz.prog 22 #[.pointer (some ⟨b, 0, none⟩), .string s, .string signs] w (DrawsT B b w (s.size + 2)) := by
  have hlt := hc.lt
  have hst0 : St w B b (Lib.bytesWorld w 5 s) := by
    have hb := Lib.bytesWorld_below w 5 s
    exact ⟨(But.refl b w).below' hb, hc.carry (fun k hk => hb.block k (by have := hc.le; omega)) (hb.block b hlt), hlt⟩
  have hbs0 := start_bytes w s (by omega)
  have hconv := Lib.run_convert_string_bytes (P := Tryz.prog) w 9 22 5 s Tryz.underlying9 Tryz.underlying22 Tryz.underlying5
  generalize Lib.bytesWorld w 5 s = wb at hst0 hbs0 hconv
  generalize grownCap w s.size 0 5 = cap0 at hbs0 hconv
  have HS0 := Lib.hid hst0; clear hst0
  have HB0 := Lib.hid hbs0; clear hbs0
  clear hc
  go_enter Tryz.func22, Tryz.ntmps22
  go_wp2_with fail
  clear hconv
  refine (below_any B b _ _ HS0.out.cur (by decide) (by decide)).mono ?_; rintro e w1 ⟨n0, rfl, n00, n01, hc1, hw1⟩
  have hst1 := HS0.out.draws hw1 hc1
  have hbs1 := HB0.out.draws hw1 hlt
  have HS1 := Lib.hid hst1; clear hst1
  have HB1 := Lib.hid hbs1; clear hbs1 HS0 HB0 hc1 hw1
  go_wp2_with fail
  go_loopw [7, 8] (fun v n wr => ∃ (g cap len : Nat) (m : Int), v = .slice (some ⟨g, 0, none⟩) len cap ∧ n = .int .i64 m ∧ 0 ≤ m ∧ m ≤ 2 ∧ (len : Int) + m ≤ s.size + 2 ∧ Bs w wr g cap len ∧ St w B b wr) (fun _ n _ => (intOf n).toNat)
  case atStart => exact ⟨w.heap.size, cap0, s.size, n0, rfl, rfl, n00, by omega, by omega, HB1.out, HS1.out⟩
  case round =>
    obtain ⟨g, cap, len, m, rfl, rfl, m0, m1, hlen, hbs, hst⟩ := hrel
    have HB := Lib.hid hbs; clear hbs
    have HS := Lib.hid hst; clear hst HB1 HS1 n00 n01
    have hex : ∀ (hx : True), ∃ t : ByteArray, t.size = len ∧ Sem.run Tryz.prog (convert 22 9 (Value.slice (some ⟨g, 0, none⟩) len cap)) wr = .ok (.string t) wr := fun _ => HB.out.conv
    have HX := Lib.hid hex; clear hex
    by_cases hm : 0 < m
    · by_cases hl : 0 < len
      · have hl' : (0 : Int) < (len : Int) := by omega
        have hcap : len ≤ cap := HB.out.2.2.1
        have hcm : cap ≤ 9223372036854775807 := by have := HB.out.2.2.2.1; unfold maxLen at this; omega
        go_wp2_with fail
        refine (below_any B b _ _ HS.out.cur (by omega) (by omega)).mono ?_; rintro e w2 ⟨k, rfl, k0, k1, hc2, hw2⟩
        have hst2 := HS.out.draws hw2 hc2
        have hbs2 := HB.out.draws hw2 hlt
        have HS2 := Lib.hid hst2; clear hst2
        have HB2 := Lib.hid hbs2; clear hbs2 HS HB hc2 hw2 HX
        obtain ⟨k, rfl⟩ := Int.eq_ofNat_of_zero_le k0
        have hk : k < len := by omega
        go_wp2_with fail
        refine (below_any B b _ _ HS2.out.cur (by decide) (by decide)).mono ?_; rintro e w3 ⟨q, rfl, q0, q1, hc3, hw3⟩
        have hst3 := HS2.out.draws hw3 hc3
        have hbs3 := HB2.out.draws hw3 hlt
        have HS3 := Lib.hid hst3; clear hst3
        have HB3 := Lib.hid hbs3; clear hbs3 HS2 HB2 hc3 hw3
        by_cases e0 : q = 0
        · subst e0
          go_wp2_with fail
          refine (below_any B b _ _ HS3.out.cur (by omega) (by omega)).mono ?_; rintro e w4 ⟨y, rfl, y0, y1, hc4, hw4⟩
          have hst4 := HS3.out.draws hw4 hc4
          have hbs4 := HB3.out.draws hw4 hlt
          obtain ⟨⟨z, hz, z0, z1⟩, hf⟩ := hbs4.2.2.2.2 k hk
          have HS4 := Lib.hid hst4; clear hst4
          have HB4 := Lib.hid hbs4; clear hbs4 HS3 HB3 hc4 hw4
          obtain ⟨y, rfl⟩ := Int.eq_ofNat_of_zero_le y0
          have hy : y < signs.size := by omega
          have hy' : (y : Int) < (signs.size : Int) := by omega
          have hk' : (k : Int) < (len : Int) := by omega
          go_wp2_with fail
          go_roundw
          case rel => exact ⟨g, cap, len, m - 1, rfl, rfl, by omega, by omega, by omega, HB4.out.set (by omega) (by have := (signs[y]'hy).toNat_lt; omega), HS4.out.setNew (HB4.out.1) _⟩
          case measure => simp [intOf]; omega
        by_cases e1 : q = 1
        · subst e1
          have hk' : (k : Int) ≤ (cap : Int) := by omega
          go_wp2_with fail
          go_roundw
          case rel => exact ⟨g, cap, k, m - 1, rfl, rfl, by omega, by omega, by omega, HB3.out.take (by omega), HS3.out⟩
          case measure => simp [intOf]; omega
        by_cases e2 : q = 2
        · subst e2
          have f1 : (k : Int) ≤ (cap : Int) := by omega
          have f2 : IntKind.i64.wrap ((k : Int) + 1) = (k : Int) + 1 := by rw [IntKind.wrap_i64]; omega
          have f3 : (0 : Int) ≤ (k : Int) + 1 := by omega
          have f4 : (k : Int) + 1 ≤ (len : Int) := by omega
          have f5 : ((k : Int) + 1).toNat = k + 1 := by omega
          obtain ⟨A, hA, hsrc⟩ : ∃ A : Addr, (if cap = k + 1 then some (⟨g, 0, none⟩ : Addr) else some ⟨g, k + 1, none⟩) = some A ∧ ∀ w', Bs w w' g cap len → Src w' A (len - (k + 1)) := by
            by_cases h : cap = k + 1
            · exact ⟨⟨g, 0, none⟩, by simp [h], fun w' _ j hj => by omega⟩
            · exact ⟨⟨g, k + 1, none⟩, by simp [h], fun w' h' => h'.src (k + 1) (len - (k + 1)) (by omega)⟩
          have HSRC := Lib.hid hsrc; clear hsrc
          go_wp2_with fail
          have hg3 : g < w3.heap.size := HB3.out.2.1
          have hw3 : w.heap.size ≤ w3.heap.size := HS3.out.size
          have o1 : OwnB w (w3.alloc (Obj.cells #[] 5)).drew (.slice (some ⟨w3.heap.size, 0, none⟩) 0 0) 0 := (OwnB.start hw3).drew
          have r1 : Src (w3.alloc (Obj.cells #[] 5)).drew ⟨g, 0, none⟩ k := ((HB3.out.alloc _).drew).src 0 k (by omega)
          have O1 := Lib.hid o1; clear o1
          have R1 := Lib.hid r1; clear r1
          go_region_law (first
            | (refine step_append_bytes rfl (.tmp 47) (.tmp 50) rfl w (.slice (some ⟨w3.heap.size, 0, none⟩) 0 0) 0 (by simp [Act.eval]) O1.out ⟨g, 0, none⟩ k cap (by simp [Act.eval]) R1.out (by omega) (by simp; omega) ?_
               intro v1 wA hown1 hgr1 hblk1
               have hstA := ((HS3.out.alloc (Obj.cells #[] 5)).drew).grown hgr1 (fun j hj => by cases hj; exact hw3)
               have hbsA := ((HB3.out.alloc (Obj.cells #[] 5)).drew).carry hgr1.size (hgr1.block g (by simp; omega) (by simp [Value.ownBlock]; omega))
               have HSA := Lib.hid hstA
               have HBA := Lib.hid hbsA
               have HO1 := Lib.hid hown1
               clear hstA hbsA hown1 hgr1 hblk1 O1 R1)
            | (refine step_append_bytes rfl (.tmp 51) (.tmp 55) rfl w v1 (0 + k) (by simp [Act.eval]) HO1.out A (len - (k + 1)) (cap - (k + 1)) (by simp [Act.eval]) (HSRC.out _ HBA.out) (by omega) HSA.out.size ?_
               intro v2 wC hown2 hgr2 hblk2
               have hstC := HSA.out.grown hgr2 (fun j hj => (HO1.out.2.choose_spec.1.lt j hj).1)
               have HSC := Lib.hid hstC
               have HO2 := Lib.hid hown2
               clear hstC hown2 hgr2 hblk2 HO1))
          obtain ⟨g2, cap2, hv2, hbs2⟩ := Bs.of HO2.out
          subst hv2
          rw [Nat.zero_add] at hbs2 ⊢
          have HB5 := Lib.hid hbs2; clear hbs2 HO2 HBA HSA HSRC HB3 HS3
          go_wp2_with fail
          go_roundw
          case rel => exact ⟨g2, cap2, _, m - 1, rfl, rfl, by omega, by omega, by omega, HB5.out, HSC.out⟩
          case measure => simp [intOf]; omega
        · obtain rfl : q = 3 := by omega
          have f1 : (k : Int) ≤ (cap : Int) := by omega
          have f4 : (k : Int) ≤ (len : Int) := by omega
          obtain ⟨A, hA, hsrc⟩ : ∃ A : Addr, (if cap = k then some (⟨g, 0, none⟩ : Addr) else some ⟨g, k, none⟩) = some A ∧ ∀ w', Bs w w' g cap len → Src w' A (len - k) := by
            have h : ¬ cap = k := by omega
            exact ⟨⟨g, k, none⟩, by simp [h], fun w' h' => h'.src k (len - k) (by omega)⟩
          have HSRC := Lib.hid hsrc; clear hsrc
          have hinv : Inv w B b g cap len w3 := ⟨HS3.out, HB3.out⟩
          have hg3 : g < w3.heap.size := HB3.out.2.1
          have hw3 : w.heap.size ≤ w3.heap.size := HS3.out.size
          have HI3 := Lib.hid hinv; clear hinv HS3 HB3
          go_wp2_with fail
          have o1 : OwnB w (w3.alloc (Obj.cells #[] 5)).drew (.slice (some ⟨w3.heap.size, 0, none⟩) 0 0) 0 := (OwnB.start hw3).drew
          have i1 : Inv w B b g cap len (w3.alloc (Obj.cells #[] 5)).drew := (HI3.out.alloc _).drew
          have O1 := Lib.hid o1; clear o1
          have I1 := Lib.hid i1; clear i1
          have gB : (1 : Int) ≤ (signs.size : Int) := by omega
          have gC : (signs.size : Int) ≤ 9223372036854775807 := by omega
          go_region_law (first
            | (refine step_app rfl (.tmp 59) (.tmp 62) rfl w B b g cap len (.slice (some ⟨w3.heap.size, 0, none⟩) 0 0) 0 (by simp [Act.eval]) I1.out O1.out (far_at hg3) ⟨g, 0, none⟩ k cap (by simp [Act.eval]) (I1.out.bs.src 0 k (by omega)) (by omega) ?_
               intro v1 wA hown1 hfar1 hinvA hapart1
               have HOA := Lib.hid hown1
               have HFA := Lib.hid hfar1
               have HIA := Lib.hid hinvA
               clear hown1 hfar1 hinvA hapart1 O1 I1)
            | (go_simp; go_at_call 40
               refine (below_inv w B b g cap len _ wA HIA.out gB gC).mono ?_
               rintro e w4 ⟨y, rfl, y0, y1, hinv4, hbut4⟩
               have hown4 := HOA.out.draws hbut4 hlt
               obtain ⟨y, rfl⟩ := Int.eq_ofNat_of_zero_le y0
               have hy : y < signs.size := by omega
               have hy' : (y : Int) < (signs.size : Int) := by omega
               have HI4 := Lib.hid hinv4
               have HO4 := Lib.hid hown4
               clear hinv4 hown4 hbut4 HOA HIA)
            | (refine step_app rfl (.tmp 63) (.tmp 70) rfl w B b g cap len v1 (0 + k) (by simp [Act.eval]) (HI4.out.alloc _) (HO4.out.alloc _) HFA.out ⟨w4.heap.size, 0, none⟩ 1 1 (by simp [Act.eval]) (src_one w4 _ (by omega) (by have := (signs[y]'hy).toNat_lt; omega) _ rfl) (by omega) ?_
               intro v2 wC hown2 hfar2 hinvC hapart2
               have HOC := Lib.hid hown2
               have HFC := Lib.hid hfar2
               have HIC := Lib.hid hinvC
               clear hown2 hfar2 hinvC hapart2 HO4 HI4 HFA)
            | (refine step_app rfl (.tmp 71) (.tmp 74) rfl w B b g cap len v2 (0 + k + 1) (by simp [Act.eval]) HIC.out HOC.out HFC.out A (len - k) (cap - k) (by simp [Act.eval]) (HSRC.out _ HIC.out.bs) (by omega) ?_
               intro v3 wD hown3 hfar3 hinvD hapart3
               have HOD := Lib.hid hown3
               have HID := Lib.hid hinvD
               clear hown3 hfar3 hinvD hapart3 HOC HIC HFC))
          obtain ⟨g2, cap2, hv3, hbs3⟩ := Bs.of HOD.out
          subst hv3
          rw [Nat.zero_add] at hbs3 ⊢
          have hst3 := HID.out.st
          have HB5 := Lib.hid hbs3; clear hbs3
          have HS5 := Lib.hid hst3; clear hst3 HOD HID HSRC HI3
          go_wp2_with fail
          go_roundw
          case rel => exact ⟨g2, cap2, _, m - 1, rfl, rfl, by omega, by omega, by omega, HB5.out, HS5.out⟩
          case measure => simp [intOf]; omega
      · obtain rfl : len = 0 := by omega
        obtain ⟨t, ht, hrun⟩ := HX.out trivial
        have HT := Lib.hid ht; clear ht
        go_wp2_with fail
        go_ret
        exact ⟨t, rfl, by rw [HT.out]; omega, HS.out.cur, HS.out.but⟩
    · obtain ⟨t, ht, hrun⟩ := HX.out trivial
      have HT := Lib.hid ht; clear ht
      go_wp2_with fail
      go_ret
      exact ⟨t, rfl, by rw [HT.out]; omega, HS.out.cur, HS.out.but⟩
end Go.Proofs.YtdalncgbbkeimaaGreatDoor.Cu
