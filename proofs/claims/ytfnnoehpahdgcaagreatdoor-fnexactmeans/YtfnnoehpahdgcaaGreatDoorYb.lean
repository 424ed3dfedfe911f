/-
  Slices of texts and of numbers: 'V1' (a slice that reads as these values), rows of a call's own, pieces of one; the laws' helpers over them: szStringS, toStringS, eqStringS, toInt64S, eqInt64S.
-/
import Derived.Test.YtfnnoehpahdgcaaGreatDoorYa
namespace Go.Proofs.YtfnnoehpahdgcaaGreatDoor.Cl
open Go.RowKit Wd Rp Kp
set_option linter.unusedVariables false
def tv (s : Tk) : Value := .string (tx s)
def iv (n : Int) : Value := .int .i64 n
/-- The slice reads as these values, one cell each. -/
def V1 (w : World) (a : Option Addr) (cap : Nat) (xs : List Value) : Prop :=
  xs.length ≤ cap ∧ cap ≤ maxLen ∧ (a = none → cap = 0) ∧ ∀ k x, xs[k]? = some x → ∃ g o, a = some ⟨g, o, none⟩ ∧ g < w.heap.size ∧ w.cell? ⟨g, o + k, none⟩ = some x
theorem V1.below {w w' : World} {a : Option Addr} {cap : Nat} {l : List Value} (h : V1 w a cap l) (hb : Below w.heap.size w w') : V1 w' a cap l := by
  obtain ⟨h1, h2, h3, h4⟩ := h
  refine ⟨h1, h2, h3, fun k c hk => ?_⟩
  obtain ⟨g, o, e, hg, hc⟩ := h4 k c hk
  exact ⟨g, o, e, Nat.lt_of_lt_of_le hg hb.size, (World.cell?_of_block (w := w) (hb.block g hg)).trans hc⟩
theorem V1.drop {w : World} {a : Option Addr} {cap : Nat} {l : List Value} (h : V1 w a cap l) {k : Nat} (hk : k ≤ l.length) : V1 w (if cap = k then a else a.map (·.add (k * 1))) (cap - k) (l.drop k) := by
  obtain ⟨h1, h2, h3, h4⟩ := h
  refine ⟨by rw [List.length_drop]; omega, by omega, fun e => ?_, fun i c hi => ?_⟩
  · split at e
    · have := h3 e; omega
    · have := h3 (by simpa using e); omega
  · rw [List.getElem?_drop] at hi
    have hil := (List.getElem?_eq_some_iff.1 hi).1
    obtain ⟨g, o, rfl, hg, h5⟩ := h4 (k + i) c hi
    rw [if_neg (by omega)]
    refine ⟨g, o + k, ?_, hg, ?_⟩
    · cases k <;> simp [Addr.add]
    · rwa [show o + (k + i) = o + k + i by omega] at h5
theorem V1.take {w : World} {a : Option Addr} {cap : Nat} {l : List Value} (h : V1 w a cap l) (k : Nat) : V1 w a cap (l.take k) := by
  obtain ⟨h1, h2, h3, h4⟩ := h
  refine ⟨by rw [List.length_take]; omega, h2, h3, fun i c hi => ?_⟩
  rw [List.getElem?_take] at hi
  split at hi
  · exact h4 i c hi
  · cases hi
theorem V1.cell {w : World} {a : Option Addr} {cap : Nat} {l : List Value} (h : V1 w a cap l) {k : Nat} {x : Value} (hk : l[k]? = some x) : ∃ g o, a = some ⟨g, o, none⟩ ∧ g < w.heap.size ∧ w.cell? ⟨g, o + k, none⟩ = some x := h.2.2.2 k x hk
/-- A row of a call's own, one cell an element. -/
def O1 (T : TypeId) (B : Nat) (w : World) (v : Value) (xs : List Value) : Prop := w.ownsRow B T 1 v xs.length xs
theorem O1.next {T : TypeId} {B : Nat} {w w' : World} {v : Value} {l : List Value} (h : O1 T B w v l) (hb : Below w.heap.size w w') : O1 T B w' v l := row_next h fun g _ hg => hb.block g hg
theorem O1.mono {T : TypeId} {B C : Nat} {w : World} {v : Value} {l : List Value} (h : O1 T B w v l) (hC : C ≤ B) : O1 T C w v l := by
  obtain ⟨h1, h2⟩ := h
  refine ⟨h1, ?_⟩
  rcases h2 with h2 | ⟨g, cap, cur, hv, hB, h3⟩
  · exact .inl h2
  · exact .inr ⟨g, cap, cur, hv, Nat.le_trans hC hB, h3⟩
theorem O1.view {T : TypeId} {B : Nat} {w : World} {v : Value} {l : List Value} (h : O1 T B w v l) : ∃ a cap, v = .slice a l.length cap ∧ V1 w a cap l := by
  obtain ⟨h1, h2⟩ := h
  rcases h2 with ⟨rfl, hn⟩ | ⟨g, cap, cur, rfl, hB, hg, hn, hc, hsz, hxs⟩
  · refine ⟨none, 0, by rw [hn], ⟨by omega, by decide, fun _ => rfl, fun k c hk => ?_⟩⟩
    have := (List.getElem?_eq_some_iff.1 hk).1; omega
  · refine ⟨_, cap, rfl, ⟨hn, hc, (fun e => by cases e), fun k c hk => ⟨g, 0, rfl, (Array.getElem?_eq_some_iff.1 hg).1, ?_⟩⟩⟩
    have hkl := (List.getElem?_eq_some_iff.1 hk).1
    have e1 := hk
    rw [← hxs, List.getElem?_take_of_lt (by omega)] at e1
    rw [← e1, Nat.zero_add]
    simp [World.cell?, hg]
theorem O1.lt {T : TypeId} {B : Nat} {w : World} {v : Value} {l : List Value} (h : O1 T B w v l) : ∀ k, v.ownBlock = some k → B ≤ k := fun k hk => (World.ownsRow.lt h k hk).1
theorem O1.low {T : TypeId} {B : Nat} {w : World} {v : Value} {l : List Value} (h : O1 T B w v l) : ∀ k, v.ownBlock = some k → k < w.heap.size := fun k hk => (World.ownsRow.lt h k hk).2
theorem O1.vw {T : TypeId} {B : Nat} {w : World} {a : Option Addr} {n cap : Nat} {l : List Value} (h : O1 T B w (.slice a n cap) l) : V1 w a cap l := by
  obtain ⟨a', cap', e, hv⟩ := h.view
  cases e
  exact hv
theorem O1.len {T : TypeId} {B : Nat} {w : World} {a : Option Addr} {n cap : Nat} {l : List Value} (h : O1 T B w (.slice a n cap) l) : l.length = n := by
  obtain ⟨a', cap', e, hv⟩ := h.view
  cases e
  rfl
theorem O1.start {T : TypeId} {B : Nat} {w : World} (h : B ≤ w.heap.size) : O1 T B (w.alloc (.cells #[] T)) (.slice (some ⟨w.heap.size, 0, none⟩) 0 0) [] := World.ownsRow_made w #[] 0 h (by decide) rfl
theorem O1.nothing (T : TypeId) (B : Nat) (w : World) : O1 T B w (.slice none 0 0) [] := World.ownsRow_nil w B _ _
theorem O1.lit {T : TypeId} {B : Nat} {w : World} (h : B ≤ w.heap.size) (cs : Array Value) (hm : cs.size ≤ maxLen) : O1 T B (w.alloc (.cells cs T)) (.slice (some ⟨w.heap.size, 0, none⟩) cs.size cs.size) cs.toList := by
  have := World.ownsRow_lit (base := B) (e := T) (size := 1) w cs cs.size h hm (by omega)
  unfold O1
  rw [Array.length_toList]; exact this
theorem O1.grown {T : TypeId} {B : Nat} {w w' : World} {v : Value} {l : List Value} {row : Option Nat} (h : O1 T B w v l) (hg : w.grownBy w' row) (hne : ∀ k, v.ownBlock = some k → row ≠ some k) : O1 T B w' v l := row_next h fun g hk hlt => hg.block g hlt (fun e => hne g hk e.symm)
theorem O1.frozen {T : TypeId} {B : Nat} {w : World} {g n cap : Nat} {l : List Value} (h : O1 T B w (.slice (some ⟨g, 0, none⟩) n cap) l) (hn : n = l.length) (j : Nat) : w.frozen? ⟨g, j, none⟩ = false := by
  subst hn
  exact World.ownsRow.frozenAt h j
theorem O1.set {T : TypeId} {B : Nat} {w : World} {g n cap : Nat} {l : List Value} (h : O1 T B w (.slice (some ⟨g, 0, none⟩) n cap) l) (hn : n = l.length) (k : Nat) (x : Value) :
    O1 T B (w.setCell ⟨g, k, none⟩ x) (.slice (some ⟨g, 0, none⟩) n cap) (l.set k x) := by
  subst hn
  unfold O1
  rw [List.length_set]
  exact (World.ownsRow.stored h k x).1
set_option maxRecDepth 100000 in
theorem cut1 (T : TypeId) (hu : Tryz.prog.underlying T = some (.slice (Tryz.prog.elem T))) (hs : ∀ w, (sizeOf (Tryz.prog.elem T)).run Tryz.prog w = .ok 1 w) (a : Option Addr) (n cap i j : Nat) (hij : i ≤ j) (hj : j ≤ n) (hc : n ≤ cap) : ∃ b cb, (∀ w, (Instr.slice T (.slice a n cap) (some (.int .i64 (i : Int))) (some (.int .i64 (j : Int))) none).run Tryz.prog w = .ok (.slice b (j - i) cb) w) ∧
    ∀ w l, V1 w a cap l → l.length = n → V1 w b cb ((l.drop i).take (j - i)) := by
  refine ⟨_, _, fun w => ?_, fun w l h hl => (h.drop (k := i) (by omega)).take (j - i)⟩
  rw [run_slice_lh w T a n cap hu .i64 .i64 (i : Int) (j : Int) (by omega) (by omega) (by omega), hs]
  rfl
set_option maxRecDepth 100000 in
theorem cut1_to (T : TypeId) (hu : Tryz.prog.underlying T = some (.slice (Tryz.prog.elem T))) (hs : ∀ w, (sizeOf (Tryz.prog.elem T)).run Tryz.prog w = .ok 1 w) (a : Option Addr) (n cap j : Nat) (hj : j ≤ n) (hc : n ≤ cap) (w : World) : (Instr.slice T (.slice a n cap) none (some (.int .i64 (j : Int))) none).run Tryz.prog w = .ok (.slice a j cap) w := by
  rw [run_slice_h w T a n cap hu .i64 (j : Int) (by omega) (by omega), hs]
  show Result.ok (Value.slice (if cap = 0 then a else a.map (·.add (0 * 1))) (j - 0) (cap - 0)) w = _
  congr 2
  split
  · rfl
  · cases a <;> simp [Addr.add]
/-- Texts, numbers. -/
def txL (l : List Tk) : List Value := l.map tv
def inL (l : List Int) : List Value := l.map iv
theorem txL_len (l : List Tk) : (txL l).length = l.length := List.length_map _
theorem inL_len (l : List Int) : (inL l).length = l.length := List.length_map _
theorem txL_get {l : List Tk} {k : Nat} {s : Tk} (h : l[k]? = some s) : (txL l)[k]? = some (tv s) := by unfold txL; rw [List.getElem?_map, h]; rfl
theorem inL_get {l : List Int} {k : Nat} {n : Int} (h : l[k]? = some n) : (inL l)[k]? = some (iv n) := by unfold inL; rw [List.getElem?_map, h]; rfl
theorem V1.tx {w : World} {a : Option Addr} {cap : Nat} {l : List Tk} (h : V1 w a cap (txL l)) {k : Nat} {s : Tk} (hk : l[k]? = some s) : ∃ g o, a = some ⟨g, o, none⟩ ∧ g < w.heap.size ∧ w.cell? ⟨g, o + k, none⟩ = some (.string (tx s)) := h.cell (txL_get hk)
theorem V1.iv {w : World} {a : Option Addr} {cap : Nat} {l : List Int} (h : V1 w a cap (inL l)) {k : Nat} {n : Int} (hk : l[k]? = some n) : ∃ g o, a = some ⟨g, o, none⟩ ∧ g < w.heap.size ∧ w.cell? ⟨g, o + k, none⟩ = some (.int .i64 n) := h.cell (inL_get hk)
/-- A slice of texts, of numbers, of a call's own. -/
def OT (B : Nat) (w : World) (v : Value) (l : List Tk) : Prop := O1 9 B w v (txL l)
def ON (B : Nat) (w : World) (v : Value) (l : List Int) : Prop := O1 2 B w v (inL l)
theorem OT.next {B : Nat} {w w' : World} {v : Value} {l : List Tk} (h : OT B w v l) (hb : Below w.heap.size w w') : OT B w' v l := O1.next h hb
theorem ON.next {B : Nat} {w w' : World} {v : Value} {l : List Int} (h : ON B w v l) (hb : Below w.heap.size w w') : ON B w' v l := O1.next h hb
theorem OT.lt {B : Nat} {w : World} {v : Value} {l : List Tk} (h : OT B w v l) : ∀ k, v.ownBlock = some k → B ≤ k := O1.lt h
theorem ON.lt {B : Nat} {w : World} {v : Value} {l : List Int} (h : ON B w v l) : ∀ k, v.ownBlock = some k → B ≤ k := O1.lt h
theorem OT.low {B : Nat} {w : World} {v : Value} {l : List Tk} (h : OT B w v l) : ∀ k, v.ownBlock = some k → k < w.heap.size := O1.low h
theorem ON.low {B : Nat} {w : World} {v : Value} {l : List Int} (h : ON B w v l) : ∀ k, v.ownBlock = some k → k < w.heap.size := O1.low h
theorem OT.vw {B : Nat} {w : World} {a : Option Addr} {n cap : Nat} {l : List Tk} (h : OT B w (.slice a n cap) l) : V1 w a cap (txL l) := O1.vw h
theorem ON.vw {B : Nat} {w : World} {a : Option Addr} {n cap : Nat} {l : List Int} (h : ON B w (.slice a n cap) l) : V1 w a cap (inL l) := O1.vw h
theorem info1T : (Tryz.prog.info? 9).map (fun i => (i.zero, i.size, i.bytes)) = some (some (.string ⟨#[]⟩), 1, 16) := by kernel_rfl
theorem info1N : (Tryz.prog.info? 2).map (fun i => (i.zero, i.size, i.bytes)) = some (some (.int .i64 0), 1, 8) := by kernel_rfl
def SzT (l : List Tk) (n : Int) (w : World) (e : Ending) (w' : World) : Prop := ∃ z : Int, e = .returned (.int .i64 z) ∧ Below w.heap.size w w' ∧ (z < 0 ∨ 0 ≤ z ∧ z ≤ n ∧ (l.length : Int) ≤ n ∧ ∀ s ∈ l, (s.length : Int) ≤ n)
set_option maxHeartbeats 4000000 in
set_option maxRecDepth 100000 in
theorem szStringS_any (w : World) (a : Option Addr) (cap : Nat) (l : List Tk) (L : Nat) (n : Int) (hL : l.length = L) (hv : V1 w a cap (txL l)) (hm : ∀ s ∈ l, s.length ≤ 9223372036854775807) (h0 : 0 ≤ n) (hn : n ≤ 1048576) :
    Calls Tryz.prog 27 #[.slice a L cap, .int .i64 n] w (SzT l n w) := by
  have hlm : L ≤ 9223372036854775807 := by have := hv.1; have h2 := hv.2.1; rw [txL_len] at this; unfold maxLen at h2; omega
  have HV := Lib.hid hv; clear hv
  have HM := Lib.hid hm; clear hm
  by_cases hlt : n - (L : Int) < 0
  · go_enter Tryz.func27, Tryz.ntmps27
    go_wp2_with fail
    go_ret
    exact ⟨-1, rfl, Below.refl _ _, Or.inl (by decide)⟩
  · go_enter Tryz.func27, Tryz.ntmps27
    go_wp2_with fail
    go_loopw [1, 5] (fun q i wr => ∃ (k : Nat) (z : Int), k ≤ L ∧ i = .int .i64 k ∧ q = .int .i64 z ∧ 0 ≤ z ∧ z ≤ n ∧ (∀ (j : Nat) (c : Tk), j < k → l[j]? = some c → (c.length : Int) ≤ n) ∧ Below w.heap.size w wr) (fun _ i _ => L - intV i)
    case atStart => exact ⟨0, n - L, Nat.zero_le _, rfl, rfl, by omega, by omega, fun j c hj => by omega, Below.refl _ _⟩
    case round =>
      obtain ⟨k, z, hk, rfl, rfl, z0, z1, hok, hbel⟩ := hrel
      have HB := Lib.hid hbel; clear hbel
      have HO := Lib.hid hok; clear hok
      by_cases hlk : k < L
      · obtain ⟨c, hc⟩ : ∃ c, l[k]? = some c := ⟨l[k], List.getElem?_eq_getElem (by omega)⟩
        obtain ⟨g, o, rfl, hg, h5⟩ := HV.out.tx hc
        have c0 : wr.cell? ⟨g, o + k, none⟩ = some (.string (tx c)) := (World.cell?_of_block (w := w) (HB.out.block g hg)).trans h5
        have hcl := HM.out c (List.mem_of_getElem? hc)
        have HS := Lib.hid (tx_size c)
        have HC := Lib.hid hc; clear hc h5 hg
        generalize hsz : (tx c) = s at *
        have hcl2 : s.size ≤ 9223372036854775807 := by have := HS.out; omega
        by_cases hy : z - s.size < 0
        · go_wp2_with fail
          go_ret
          exact ⟨-1, rfl, HB.out, Or.inl (by decide)⟩
        · go_wp2_with fail
          go_roundw
          case rel =>
            refine ⟨k + 1, z - s.size, by omega, by go_num, rfl, by omega, by omega, fun j d hj hd => ?_, HB.out⟩
            by_cases he : j = k
            · subst he
              obtain rfl : c = d := Option.some.inj (HC.out.symm.trans hd)
              have := HS.out
              omega
            · exact HO.out j d (by omega) hd
          case measure => simp [intV]; omega
      · obtain rfl : k = L := by omega
        go_wp2_with fail
        go_ret
        refine ⟨z, rfl, HB.out, Or.inr ⟨z0, z1, by omega, fun c hc => ?_⟩⟩
        obtain ⟨j, hj⟩ := List.mem_iff_getElem?.1 hc
        exact HO.out j c (by have := (List.getElem?_eq_some_iff.1 hj).1; omega) hj
set_option maxHeartbeats 4000000 in
set_option maxRecDepth 100000 in
theorem toStringS_is (w : World) (a : Option Addr) (cap : Nat) (l : List Tk) (L : Nat) (hL : l.length = L) (hv : V1 w a cap (txL l)) (hl : L ≤ 1048576) :
    Calls Tryz.prog 29 #[.slice a L cap] w fun e w' => ∃ g, e = .returned (.slice (some ⟨g, 0, none⟩) L L) ∧ w.heap.size ≤ g ∧ OT w.heap.size w' (.slice (some ⟨g, 0, none⟩) L L) l ∧ Below w.heap.size w w' := by
  obtain ⟨i0, hi, hz0, hz1, hz2⟩ := info_parts info1T
  have HV := Lib.hid hv; clear hv
  go_enter Tryz.func29, Tryz.ntmps29
  go_wp2_with (first
    | (at_make; refine wpList_make_full _ rfl (.tmp 6) (.tmp 6) 24 rfl w.heap.size 9 i0 _ 1 Tryz.underlying24 hi hz0 hz1 .i64 .i64 _ _ L rfl rfl rfl rfl (by rw [hz2]; omega) (by unfold maxLen; omega) (Nat.le_refl _) ?_; intro w1 hown1 hgrow1))
  rw [Nat.mul_one] at hown1
  have hst : ∃ m, m.length = L ∧ O1 9 w.heap.size w1 (.slice (some ⟨w.heap.size, 0, none⟩) L L) m := ⟨_, (by have h0 := hown1.1; rw [Nat.mul_one] at h0; exact h0), (by unfold O1; have h0 := hown1.1; rw [Nat.mul_one] at h0; rw [h0]; exact hown1)⟩
  have hb1 : Below w.heap.size w w1 := (Below.refl _ _).grown hgrow1 (Nat.le_refl _) (fun _ h => by cases h)
  have H1 := Lib.hid (And.intro hst hb1); clear hst hb1 hown1 hgrow1
  go_loopw [4] (fun i wr => ∃ (k : Nat) (m : List Value), k ≤ L ∧ i = .int .i64 k ∧ m.length = L ∧ (∀ j, j < k → m[j]? = (txL l)[j]?) ∧ O1 9 w.heap.size wr (.slice (some ⟨w.heap.size, 0, none⟩) L L) m ∧ Below w.heap.size w wr) (fun i _ => L - intV i)
  case atStart =>
    obtain ⟨⟨m, hm, ho⟩, hb⟩ := H1.out
    exact ⟨0, m, Nat.zero_le _, rfl, hm, fun j hj => by omega, ho, hb⟩
  case round =>
    clear H1
    obtain ⟨k, m, hk, rfl, hm, hmk, hown, hbel⟩ := hrel
    have HB := Lib.hid hbel; clear hbel
    have HM := Lib.hid hmk; clear hmk
    by_cases hlk : k < L
    · obtain ⟨c, hc⟩ : ∃ c, l[k]? = some c := ⟨l[k], List.getElem?_eq_getElem (by omega)⟩
      obtain ⟨g, o, rfl, hg, h5⟩ := HV.out.tx hc
      have c0 : wr.cell? ⟨g, o + k, none⟩ = some (.string (tx c)) := (World.cell?_of_block (w := w) (HB.out.block g hg)).trans h5
      have HC := Lib.hid (txL_get hc); clear hc h5 hg
      have f0 := hown.frozen hm.symm k
      obtain ⟨d, hd⟩ : ∃ d, m[k]? = some d := ⟨m[k], List.getElem?_eq_getElem (by omega)⟩
      obtain ⟨g2, o2, e2, -, d0⟩ := hown.vw.cell hd
      cases e2
      rw [Nat.zero_add] at d0
      have HS := Lib.hid (hown.set hm.symm k (.string (tx c)))
      have HB2 := Lib.hid (HB.out.setCell (p := ⟨w.heap.size, k, none⟩) (Nat.le_refl _) (.string (tx c)))
      clear hown hd
      generalize hG : w.heap.size = G at *
      unfold tv at HC
      generalize tx c = c at *
      go_wp2_with fail
      subst hG
      go_roundw
      case rel =>
        refine ⟨k + 1, m.set k _, by omega, by go_num, by rw [List.length_set]; exact hm, fun j hj => ?_, HS.out, HB2.out⟩
        by_cases he : j = k
        · subst he; rw [List.getElem?_set_self (by omega), HC.out]
        · rw [List.getElem?_set_ne (by omega)]; exact HM.out j (by omega)
      case measure => simp [intV]; omega
    · obtain rfl : k = L := by omega
      have hml : m = txL l := by
        apply List.ext_getElem?
        intro i
        by_cases hi : i < k
        · exact HM.out i hi
        · rw [List.getElem?_eq_none (by omega), List.getElem?_eq_none (by rw [txL_len]; omega)]
      subst hml
      have HO := Lib.hid hown; clear hown
      go_wp2_with fail
      go_ret
      exact ⟨_, rfl, Nat.le_refl _, HO.out, HB.out⟩
set_option maxHeartbeats 4000000 in
set_option maxRecDepth 100000 in
theorem eqStringS_is (w : World) (a b : Option Addr) (ca cb : Nat) (l : List Tk) (n : Nat) (hn : l.length = n) (hv : V1 w a ca (txL l)) (hu : V1 w b cb (txL l)) (hl : n ≤ 4194304) :
    Calls Tryz.prog 33 #[.slice a n ca, .slice b n cb] w fun e w' => e = .returned (.bool true) ∧ Below w.heap.size w w' := by
  have HV := Lib.hid hv; clear hv
  have HU := Lib.hid hu; clear hu
  have q0 : ((n : Int) != (n : Int)) = false := by simp
  go_enter Tryz.func33, Tryz.ntmps33
  go_wp2_with fail
  go_loopw [5] (fun i wr => ∃ k : Nat, k ≤ n ∧ i = .int .i64 k ∧ Below w.heap.size w wr) (fun i _ => n - intV i)
  case atStart => exact ⟨0, Nat.zero_le _, rfl, Below.refl _ _⟩
  case round =>
    obtain ⟨k, hk, rfl, hbel⟩ := hrel
    have HB := Lib.hid hbel; clear hbel
    by_cases hlt : k < n
    · obtain ⟨c, hc⟩ : ∃ c, l[k]? = some c := ⟨l[k], List.getElem?_eq_getElem (by omega)⟩
      obtain ⟨g, o, rfl, hg, g5⟩ := HV.out.tx hc
      obtain ⟨h, p, rfl, hh, h5⟩ := HU.out.tx hc
      have c1 : wr.cell? ⟨g, o + k, none⟩ = some (.string (tx c)) := (World.cell?_of_block (w := w) (HB.out.block g hg)).trans g5
      have c2 : wr.cell? ⟨h, p + k, none⟩ = some (.string (tx c)) := (World.cell?_of_block (w := w) (HB.out.block h hh)).trans h5
      clear hc g5 h5 hg hh HV HU
      generalize tx c = x at c1 c2
      have q1 : (x.toList == x.toList) = true := by simp
      go_wp2_with fail
      go_quiet (fail)
      go_wp2_with fail
      go_roundw
      case rel => exact ⟨k + 1, by omega, by go_num, bel_drewN HB.out _⟩
      case measure => simp [intV]; omega
    · obtain rfl : k = n := by omega
      go_wp2_with fail
      go_ret
      exact ⟨rfl, HB.out⟩
set_option maxHeartbeats 4000000 in
set_option maxRecDepth 100000 in
theorem toInt64S_is (w : World) (a : Option Addr) (cap : Nat) (l : List Int) (L : Nat) (hL : l.length = L) (hv : V1 w a cap (inL l)) (hl : L ≤ 1048576) :
    Calls Tryz.prog 31 #[.slice a L cap] w fun e w' => ∃ g, e = .returned (.slice (some ⟨g, 0, none⟩) L L) ∧ w.heap.size ≤ g ∧ ON w.heap.size w' (.slice (some ⟨g, 0, none⟩) L L) l ∧ Below w.heap.size w w' := by
  obtain ⟨i0, hi, hz0, hz1, hz2⟩ := info_parts info1N
  have HV := Lib.hid hv; clear hv
  go_enter Tryz.func31, Tryz.ntmps31
  go_wp2_with (first
    | (at_make; refine wpList_make_full _ rfl (.tmp 6) (.tmp 6) 26 rfl w.heap.size 2 i0 _ 1 Tryz.underlying26 hi hz0 hz1 .i64 .i64 _ _ L rfl rfl rfl rfl (by rw [hz2]; omega) (by unfold maxLen; omega) (Nat.le_refl _) ?_; intro w1 hown1 hgrow1))
  rw [Nat.mul_one] at hown1
  have hst : ∃ m, m.length = L ∧ O1 2 w.heap.size w1 (.slice (some ⟨w.heap.size, 0, none⟩) L L) m := ⟨_, (by have h0 := hown1.1; rw [Nat.mul_one] at h0; exact h0), (by unfold O1; have h0 := hown1.1; rw [Nat.mul_one] at h0; rw [h0]; exact hown1)⟩
  have hb1 : Below w.heap.size w w1 := (Below.refl _ _).grown hgrow1 (Nat.le_refl _) (fun _ h => by cases h)
  have H1 := Lib.hid (And.intro hst hb1); clear hst hb1 hown1 hgrow1
  go_loopw [4] (fun i wr => ∃ (k : Nat) (m : List Value), k ≤ L ∧ i = .int .i64 k ∧ m.length = L ∧ (∀ j, j < k → m[j]? = (inL l)[j]?) ∧ O1 2 w.heap.size wr (.slice (some ⟨w.heap.size, 0, none⟩) L L) m ∧ Below w.heap.size w wr) (fun i _ => L - intV i)
  case atStart =>
    obtain ⟨⟨m, hm, ho⟩, hb⟩ := H1.out
    exact ⟨0, m, Nat.zero_le _, rfl, hm, fun j hj => by omega, ho, hb⟩
  case round =>
    clear H1
    obtain ⟨k, m, hk, rfl, hm, hmk, hown, hbel⟩ := hrel
    have HB := Lib.hid hbel; clear hbel
    have HM := Lib.hid hmk; clear hmk
    by_cases hlk : k < L
    · obtain ⟨c, hc⟩ : ∃ c, l[k]? = some c := ⟨l[k], List.getElem?_eq_getElem (by omega)⟩
      obtain ⟨g, o, rfl, hg, h5⟩ := HV.out.iv hc
      have c0 : wr.cell? ⟨g, o + k, none⟩ = some (.int .i64 c) := (World.cell?_of_block (w := w) (HB.out.block g hg)).trans h5
      have HC := Lib.hid (inL_get hc); clear hc h5 hg
      have f0 := hown.frozen hm.symm k
      obtain ⟨d, hd⟩ : ∃ d, m[k]? = some d := ⟨m[k], List.getElem?_eq_getElem (by omega)⟩
      obtain ⟨g2, o2, e2, -, d0⟩ := hown.vw.cell hd
      cases e2
      rw [Nat.zero_add] at d0
      have HS := Lib.hid (hown.set hm.symm k (.int .i64 c))
      have HB2 := Lib.hid (HB.out.setCell (p := ⟨w.heap.size, k, none⟩) (Nat.le_refl _) (.int .i64 c))
      clear hown hd
      generalize hG : w.heap.size = G at *
      unfold Cl.iv at HC
      go_wp2_with fail
      subst hG
      go_roundw
      case rel =>
        refine ⟨k + 1, m.set k _, by omega, by go_num, by rw [List.length_set]; exact hm, fun j hj => ?_, HS.out, HB2.out⟩
        by_cases he : j = k
        · subst he; rw [List.getElem?_set_self (by omega), HC.out]
        · rw [List.getElem?_set_ne (by omega)]; exact HM.out j (by omega)
      case measure => simp [intV]; omega
    · obtain rfl : k = L := by omega
      have hml : m = inL l := by
        apply List.ext_getElem?
        intro i
        by_cases hi : i < k
        · exact HM.out i hi
        · rw [List.getElem?_eq_none (by omega), List.getElem?_eq_none (by rw [inL_len]; omega)]
      subst hml
      have HO := Lib.hid hown; clear hown
      go_wp2_with fail
      go_ret
      exact ⟨_, rfl, Nat.le_refl _, HO.out, HB.out⟩
set_option maxHeartbeats 4000000 in
set_option maxRecDepth 100000 in
theorem eqInt64S_is (w : World) (a b : Option Addr) (ca cb : Nat) (l : List Int) (n : Nat) (hn : l.length = n) (hv : V1 w a ca (inL l)) (hu : V1 w b cb (inL l)) (hl : n ≤ 4194304) :
    Calls Tryz.prog 35 #[.slice a n ca, .slice b n cb] w fun e w' => e = .returned (.bool true) ∧ Below w.heap.size w w' := by
  have HV := Lib.hid hv; clear hv
  have HU := Lib.hid hu; clear hu
  have q0 : ((n : Int) != (n : Int)) = false := by simp
  go_enter Tryz.func35, Tryz.ntmps35
  go_wp2_with fail
  go_loopw [5] (fun i wr => ∃ k : Nat, k ≤ n ∧ i = .int .i64 k ∧ Below w.heap.size w wr) (fun i _ => n - intV i)
  case atStart => exact ⟨0, Nat.zero_le _, rfl, Below.refl _ _⟩
  case round =>
    obtain ⟨k, hk, rfl, hbel⟩ := hrel
    have HB := Lib.hid hbel; clear hbel
    by_cases hlt : k < n
    · obtain ⟨c, hc⟩ : ∃ c, l[k]? = some c := ⟨l[k], List.getElem?_eq_getElem (by omega)⟩
      obtain ⟨g, o, rfl, hg, g5⟩ := HV.out.iv hc
      obtain ⟨h, p, rfl, hh, h5⟩ := HU.out.iv hc
      have c1 : wr.cell? ⟨g, o + k, none⟩ = some (.int .i64 c) := (World.cell?_of_block (w := w) (HB.out.block g hg)).trans g5
      have c2 : wr.cell? ⟨h, p + k, none⟩ = some (.int .i64 c) := (World.cell?_of_block (w := w) (HB.out.block h hh)).trans h5
      clear hc g5 h5 hg hh HV HU
      have q1 : (c != c) = false := by simp
      go_wp2_with fail
      go_quiet (fail)
      go_wp2_with fail
      go_roundw
      case rel => exact ⟨k + 1, by omega, by go_num, bel_drewN HB.out _⟩
      case measure => simp [intV]; omega
    · obtain rfl : k = n := by omega
      go_wp2_with fail
      go_ret
      exact ⟨rfl, HB.out⟩
end Go.Proofs.YtfnnoehpahdgcaaGreatDoor.Cl
