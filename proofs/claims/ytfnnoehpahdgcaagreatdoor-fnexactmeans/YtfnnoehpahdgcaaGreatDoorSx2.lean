/-
  Texts of mine, joined (part 2 of 9): what the law at hand reaches of them; each text's own words stand in the verifier's repo.
-/
import Derived.Test.YtfnnoehpahdgcaaGreatDoorSx1
import Derived.Test.YtfnnoehpahdgcaaGreatDoorRows
import Derived.WalkKit
import Derived.IntWalk
import Derived.Laws.Bits128
import Derived.Lib.Hide
import Derived.Lib.ParseIntBTie
import Derived.Lib.ParseIntBCases
import Derived.Lib.ItoaMem
import Derived.Lib.IndexMore
import Derived.Lib.Repeat
import Derived.WalkSpells
import Derived.Below
import Derived.Carry
import Derived.WalkSmall
import Derived.Laws.Closers25b
import Derived.Lib.Strings
import Derived.Lib.SmallJoins
import Derived.Lib.AppendIntMem
import Derived.Maps.AppendAt
import Derived.OwnWalk
import Derived.WalkLawsBesides
import Derived.Deep.QuietTactic
import Derived.BigQuiet
import Derived.Deep.RegionHeld3
import Derived.Laws.OwnMore
import Derived.Laws.StructEq
import Derived.BigFrame
import Derived.Deep.Upon
import Derived.Laws.CopyRow
import Derived.Laws.BytesArg
import Derived.RowKit3
import Derived.Shelf.Strconv.Itoa4
import Derived.Shelf.Strconv.ParseIntPublic10
import Derived.Shelf.Strconv.ErrVarParseInt
import Derived.Test.YtfnnoehpahdgcaaGreatDoorProg
import Derived.LaidMore
import Derived.Stop.LaidErr
import Derived.Lib.LaidTab
import Derived.RangeFuncWrites
import Derived.RangeFuncCalls
import Derived.RangeFuncBox
import Derived.RangeFuncNested
import Derived.RangeFuncLeaves
import Derived.Shelf.Abstract
import Derived.Shelf.RegionOpen
import Derived.OwnWalkIn
import Derived.TacticsInMore
import Derived.LoopNIn
import Derived.LoopIn
import Derived.Lib.Bytealg
import Derived.Deep.LoopGhost
import Derived.Lib.AtoiErrMem
import Derived.OpenShut
import Derived.Lib.ConvBytes
import Derived.Deep.RegionLaw
import Derived.Deep.AppendLies
import Derived.Lib.AppendZeros
import Derived.Defers
import Derived.Recover
import Derived.ProofKit
import Derived.Handed
import Derived.SizedLaws
import Derived.ShutString
import Derived.Deep.Slices
import Derived.Deep.Fields
import Derived.ChangeSame
namespace Go.Proofs.YtfnnoehpahdgcaaGreatDoor.Cl
set_option linter.unusedVariables false
open Go.RowKit Wd Rp Kp
def tv (s : Tk) : Value := .string (tx s)
def iv (n : Int) : Value := .int .i64 n
def V1 (w : World) (a : Option Addr) (cap : Nat) (xs : List Value) : Prop :=
  xs.length ≤ cap ∧ cap ≤ maxLen ∧ (a = none → cap = 0) ∧ ∀ k x, xs[k]? = some x → ∃ g o, a = some ⟨g, o, none⟩ ∧ g < w.heap.size ∧ w.cell? ⟨g, o + k, none⟩ = some x
theorem V1.below {w w' : World} {a : Option Addr} {cap : Nat} {l : List Value} (h : V1 w a cap l) (hb : Below w.heap.size w w') : V1 w' a cap l := by
  obtain ⟨h1, h2, h3, h4⟩ := h
  refine ⟨h1, h2, h3, fun k c hk => ?_⟩
  obtain ⟨g, o, e, hg, hc⟩ := h4 k c hk
  exact ⟨g, o, e, Nat.lt_of_lt_of_le hg hb.size, (World.cell?_of_block (w := w) (hb.block g hg)).trans hc⟩
theorem V1.drop {w : World} {a : Option Addr} {cap : Nat} {l : List Value} (h : V1 w a cap l) {k : Nat} (hk : k ≤ l.length) : V1 w (if cap = k then a else a.map (·.add (k * 1))) (cap - k) (l.drop k) := by
  obtain ⟨h1, h2, h3, h4⟩ := h
  refine ⟨by rw [List.length_drop]; omega, by omega, fun e => ?_, fun i c hi => ?_⟩
  · split at e
    · have := h3 e; omega
    · have := h3 (by simpa using e); omega
  · rw [List.getElem?_drop] at hi
    have hil := (List.getElem?_eq_some_iff.1 hi).1
    obtain ⟨g, o, rfl, hg, h5⟩ := h4 (k + i) c hi
    rw [if_neg (by omega)]
    refine ⟨g, o + k, ?_, hg, ?_⟩
    · cases k <;> simp [Addr.add]
    · rwa [show o + (k + i) = o + k + i by omega] at h5
theorem V1.take {w : World} {a : Option Addr} {cap : Nat} {l : List Value} (h : V1 w a cap l) (k : Nat) : V1 w a cap (l.take k) := by
  obtain ⟨h1, h2, h3, h4⟩ := h
  refine ⟨by rw [List.length_take]; omega, h2, h3, fun i c hi => ?_⟩
  rw [List.getElem?_take] at hi
  split at hi
  · exact h4 i c hi
  · cases hi
theorem V1.cell {w : World} {a : Option Addr} {cap : Nat} {l : List Value} (h : V1 w a cap l) {k : Nat} {x : Value} (hk : l[k]? = some x) : ∃ g o, a = some ⟨g, o, none⟩ ∧ g < w.heap.size ∧ w.cell? ⟨g, o + k, none⟩ = some x := h.2.2.2 k x hk
def O1 (T : TypeId) (B : Nat) (w : World) (v : Value) (xs : List Value) : Prop := w.ownsRow B T 1 v xs.length xs
theorem O1.next {T : TypeId} {B : Nat} {w w' : World} {v : Value} {l : List Value} (h : O1 T B w v l) (hb : Below w.heap.size w w') : O1 T B w' v l := row_next h fun g _ hg => hb.block g hg
theorem O1.mono {T : TypeId} {B C : Nat} {w : World} {v : Value} {l : List Value} (h : O1 T B w v l) (hC : C ≤ B) : O1 T C w v l := by
  obtain ⟨h1, h2⟩ := h
  refine ⟨h1, ?_⟩
  rcases h2 with h2 | ⟨g, cap, cur, hv, hB, h3⟩
  · exact .inl h2
  · exact .inr ⟨g, cap, cur, hv, Nat.le_trans hC hB, h3⟩
theorem O1.view {T : TypeId} {B : Nat} {w : World} {v : Value} {l : List Value} (h : O1 T B w v l) : ∃ a cap, v = .slice a l.length cap ∧ V1 w a cap l := by
  obtain ⟨h1, h2⟩ := h
  rcases h2 with ⟨rfl, hn⟩ | ⟨g, cap, cur, rfl, hB, hg, hn, hc, hsz, hxs⟩
  · refine ⟨none, 0, by rw [hn], ⟨by omega, by decide, fun _ => rfl, fun k c hk => ?_⟩⟩
    have := (List.getElem?_eq_some_iff.1 hk).1; omega
  · refine ⟨_, cap, rfl, ⟨hn, hc, (fun e => by cases e), fun k c hk => ⟨g, 0, rfl, (Array.getElem?_eq_some_iff.1 hg).1, ?_⟩⟩⟩
    have hkl := (List.getElem?_eq_some_iff.1 hk).1
    have e1 := hk
    rw [← hxs, List.getElem?_take_of_lt (by omega)] at e1
    rw [← e1, Nat.zero_add]
    simp [World.cell?, hg]
theorem O1.lt {T : TypeId} {B : Nat} {w : World} {v : Value} {l : List Value} (h : O1 T B w v l) : ∀ k, v.ownBlock = some k → B ≤ k := fun k hk => (World.ownsRow.lt h k hk).1
theorem O1.low {T : TypeId} {B : Nat} {w : World} {v : Value} {l : List Value} (h : O1 T B w v l) : ∀ k, v.ownBlock = some k → k < w.heap.size := fun k hk => (World.ownsRow.lt h k hk).2
theorem O1.vw {T : TypeId} {B : Nat} {w : World} {a : Option Addr} {n cap : Nat} {l : List Value} (h : O1 T B w (.slice a n cap) l) : V1 w a cap l := by
  obtain ⟨a', cap', e, hv⟩ := h.view
  cases e
  exact hv
theorem O1.len {T : TypeId} {B : Nat} {w : World} {a : Option Addr} {n cap : Nat} {l : List Value} (h : O1 T B w (.slice a n cap) l) : l.length = n := by
  obtain ⟨a', cap', e, hv⟩ := h.view
  cases e
  rfl
theorem O1.start {T : TypeId} {B : Nat} {w : World} (h : B ≤ w.heap.size) : O1 T B (w.alloc (.cells #[] T)) (.slice (some ⟨w.heap.size, 0, none⟩) 0 0) [] := World.ownsRow_made w #[] 0 h (by decide) rfl
theorem O1.nothing (T : TypeId) (B : Nat) (w : World) : O1 T B w (.slice none 0 0) [] := World.ownsRow_nil w B _ _
theorem O1.lit {T : TypeId} {B : Nat} {w : World} (h : B ≤ w.heap.size) (cs : Array Value) (hm : cs.size ≤ maxLen) : O1 T B (w.alloc (.cells cs T)) (.slice (some ⟨w.heap.size, 0, none⟩) cs.size cs.size) cs.toList := by
  have := World.ownsRow_lit (base := B) (e := T) (size := 1) w cs cs.size h hm (by omega)
  unfold O1
  rw [Array.length_toList]; exact this
theorem O1.grown {T : TypeId} {B : Nat} {w w' : World} {v : Value} {l : List Value} {row : Option Nat} (h : O1 T B w v l) (hg : w.grownBy w' row) (hne : ∀ k, v.ownBlock = some k → row ≠ some k) : O1 T B w' v l := row_next h fun g hk hlt => hg.block g hlt (fun e => hne g hk e.symm)
theorem O1.frozen {T : TypeId} {B : Nat} {w : World} {g n cap : Nat} {l : List Value} (h : O1 T B w (.slice (some ⟨g, 0, none⟩) n cap) l) (hn : n = l.length) (j : Nat) : w.frozen? ⟨g, j, none⟩ = false := by
  subst hn
  exact World.ownsRow.frozenAt h j
theorem O1.set {T : TypeId} {B : Nat} {w : World} {g n cap : Nat} {l : List Value} (h : O1 T B w (.slice (some ⟨g, 0, none⟩) n cap) l) (hn : n = l.length) (k : Nat) (x : Value) :
    O1 T B (w.setCell ⟨g, k, none⟩ x) (.slice (some ⟨g, 0, none⟩) n cap) (l.set k x) := by
  subst hn
  unfold O1
  rw [List.length_set]
  exact (World.ownsRow.stored h k x).1
set_option maxRecDepth 100000 in
theorem cut1 (T : TypeId) (hu : Tryz.prog.underlying T = some (.slice (Tryz.prog.elem T))) (hs : ∀ w, (sizeOf (Tryz.prog.elem T)).run Tryz.prog w = .ok 1 w) (a : Option Addr) (n cap i j : Nat) (hij : i ≤ j) (hj : j ≤ n) (hc : n ≤ cap) : ∃ b cb, (∀ w, (Instr.slice T (.slice a n cap) (some (.int .i64 (i : Int))) (some (.int .i64 (j : Int))) none).run Tryz.prog w = .ok (.slice b (j - i) cb) w) ∧
    ∀ w l, V1 w a cap l → l.length = n → V1 w b cb ((l.drop i).take (j - i)) := by
  refine ⟨_, _, fun w => ?_, fun w l h hl => (h.drop (k := i) (by omega)).take (j - i)⟩
  rw [run_slice_lh w T a n cap hu .i64 .i64 (i : Int) (j : Int) (by omega) (by omega) (by omega), hs]
  rfl
def txL (l : List Tk) : List Value := l.map tv
def inL (l : List Int) : List Value := l.map iv
theorem txL_len (l : List Tk) : (txL l).length = l.length := List.length_map _
theorem inL_len (l : List Int) : (inL l).length = l.length := List.length_map _
theorem txL_get {l : List Tk} {k : Nat} {s : Tk} (h : l[k]? = some s) : (txL l)[k]? = some (tv s) := by unfold txL; rw [List.getElem?_map, h]; rfl
theorem inL_get {l : List Int} {k : Nat} {n : Int} (h : l[k]? = some n) : (inL l)[k]? = some (iv n) := by unfold inL; rw [List.getElem?_map, h]; rfl
theorem V1.tx {w : World} {a : Option Addr} {cap : Nat} {l : List Tk} (h : V1 w a cap (txL l)) {k : Nat} {s : Tk} (hk : l[k]? = some s) : ∃ g o, a = some ⟨g, o, none⟩ ∧ g < w.heap.size ∧ w.cell? ⟨g, o + k, none⟩ = some (.string (tx s)) := h.cell (txL_get hk)
theorem V1.iv {w : World} {a : Option Addr} {cap : Nat} {l : List Int} (h : V1 w a cap (inL l)) {k : Nat} {n : Int} (hk : l[k]? = some n) : ∃ g o, a = some ⟨g, o, none⟩ ∧ g < w.heap.size ∧ w.cell? ⟨g, o + k, none⟩ = some (.int .i64 n) := h.cell (inL_get hk)
def OT (B : Nat) (w : World) (v : Value) (l : List Tk) : Prop := O1 9 B w v (txL l)
def ON (B : Nat) (w : World) (v : Value) (l : List Int) : Prop := O1 2 B w v (inL l)
theorem OT.next {B : Nat} {w w' : World} {v : Value} {l : List Tk} (h : OT B w v l) (hb : Below w.heap.size w w') : OT B w' v l := O1.next h hb
theorem ON.next {B : Nat} {w w' : World} {v : Value} {l : List Int} (h : ON B w v l) (hb : Below w.heap.size w w') : ON B w' v l := O1.next h hb
theorem OT.lt {B : Nat} {w : World} {v : Value} {l : List Tk} (h : OT B w v l) : ∀ k, v.ownBlock = some k → B ≤ k := O1.lt h
theorem ON.lt {B : Nat} {w : World} {v : Value} {l : List Int} (h : ON B w v l) : ∀ k, v.ownBlock = some k → B ≤ k := O1.lt h
theorem OT.low {B : Nat} {w : World} {v : Value} {l : List Tk} (h : OT B w v l) : ∀ k, v.ownBlock = some k → k < w.heap.size := O1.low h
theorem ON.low {B : Nat} {w : World} {v : Value} {l : List Int} (h : ON B w v l) : ∀ k, v.ownBlock = some k → k < w.heap.size := O1.low h
theorem OT.vw {B : Nat} {w : World} {a : Option Addr} {n cap : Nat} {l : List Tk} (h : OT B w (.slice a n cap) l) : V1 w a cap (txL l) := O1.vw h
theorem ON.vw {B : Nat} {w : World} {a : Option Addr} {n cap : Nat} {l : List Int} (h : ON B w (.slice a n cap) l) : V1 w a cap (inL l) := O1.vw h
theorem info1T : (Tryz.prog.info? 9).map (fun i => (i.zero, i.size, i.bytes)) = some (some (.string ⟨#[]⟩), 1, 16) := by kernel_rfl
theorem info1N : (Tryz.prog.info? 2).map (fun i => (i.zero, i.size, i.bytes)) = some (some (.int .i64 0), 1, 8) := by kernel_rfl
def SzT (l : List Tk) (n : Int) (w : World) (e : Ending) (w' : World) : Prop := ∃ z : Int, e = .returned (.int .i64 z) ∧ Below w.heap.size w w' ∧ (z < 0 ∨ 0 ≤ z ∧ z ≤ n ∧ (l.length : Int) ≤ n ∧ ∀ s ∈ l, (s.length : Int) ≤ n)
set_option maxHeartbeats 4000000 in
set_option maxRecDepth 100000 in
theorem szStringS_any (w : World) (a : Option Addr) (cap : Nat) (l : List Tk) (L : Nat) (n : Int) (hL : l.length = L) (hv : V1 w a cap (txL l)) (hm : ∀ s ∈ l, s.length ≤ 9223372036854775807) (h0 : 0 ≤ n) (hn : n ≤ 1048576) :
    Calls Tryz.prog 27 #[.slice a L cap, .int .i64 n] w (SzT l n w) := by
  have hlm : L ≤ 9223372036854775807 := by have := hv.1; have h2 := hv.2.1; rw [txL_len] at this; unfold maxLen at h2; omega
  have HV := Lib.hid hv; clear hv
  have HM := Lib.hid hm; clear hm
  by_cases hlt : n - (L : Int) < 0
  · go_enter Tryz.func27, Tryz.ntmps27
    go_wp2_with fail
    go_ret
    exact ⟨-1, rfl, Below.refl _ _, Or.inl (by decide)⟩
  · go_enter Tryz.func27, Tryz.ntmps27
    go_wp2_with fail
    go_loopw [1, 5] (fun q i wr => ∃ (k : Nat) (z : Int), k ≤ L ∧ i = .int .i64 k ∧ q = .int .i64 z ∧ 0 ≤ z ∧ z ≤ n ∧ (∀ (j : Nat) (c : Tk), j < k → l[j]? = some c → (c.length : Int) ≤ n) ∧ Below w.heap.size w wr) (fun _ i _ => L - intV i)
    case atStart => exact ⟨0, n - L, Nat.zero_le _, rfl, rfl, by omega, by omega, fun j c hj => by omega, Below.refl _ _⟩
    case round =>
      obtain ⟨k, z, hk, rfl, rfl, z0, z1, hok, hbel⟩ := hrel
      have HB := Lib.hid hbel; clear hbel
      have HO := Lib.hid hok; clear hok
      by_cases hlk : k < L
      · obtain ⟨c, hc⟩ : ∃ c, l[k]? = some c := ⟨l[k], List.getElem?_eq_getElem (by omega)⟩
        obtain ⟨g, o, rfl, hg, h5⟩ := HV.out.tx hc
        have c0 : wr.cell? ⟨g, o + k, none⟩ = some (.string (tx c)) := (World.cell?_of_block (w := w) (HB.out.block g hg)).trans h5
        have hcl := HM.out c (List.mem_of_getElem? hc)
        have HS := Lib.hid (tx_size c)
        have HC := Lib.hid hc; clear hc h5 hg
        generalize hsz : (tx c) = s at *
        have hcl2 : s.size ≤ 9223372036854775807 := by have := HS.out; omega
        by_cases hy : z - s.size < 0
        · go_wp2_with fail
          go_ret
          exact ⟨-1, rfl, HB.out, Or.inl (by decide)⟩
        · go_wp2_with fail
          go_roundw
          case rel =>
            refine ⟨k + 1, z - s.size, by omega, by go_num, rfl, by omega, by omega, fun j d hj hd => ?_, HB.out⟩
            by_cases he : j = k
            · subst he
              obtain rfl : c = d := Option.some.inj (HC.out.symm.trans hd)
              have := HS.out
              omega
            · exact HO.out j d (by omega) hd
          case measure => simp [intV]; omega
      · obtain rfl : k = L := by omega
        go_wp2_with fail
        go_ret
        refine ⟨z, rfl, HB.out, Or.inr ⟨z0, z1, by omega, fun c hc => ?_⟩⟩
        obtain ⟨j, hj⟩ := List.mem_iff_getElem?.1 hc
        exact HO.out j c (by have := (List.getElem?_eq_some_iff.1 hj).1; omega) hj
set_option maxHeartbeats 4000000 in
set_option maxRecDepth 100000 in
theorem toStringS_is (w : World) (a : Option Addr) (cap : Nat) (l : List Tk) (L : Nat) (hL : l.length = L) (hv : V1 w a cap (txL l)) (hl : L ≤ 1048576) :
    Calls Tryz.prog 29 #[.slice a L cap] w fun e w' => ∃ g, e = .returned (.slice (some ⟨g, 0, none⟩) L L) ∧ w.heap.size ≤ g ∧ OT w.heap.size w' (.slice (some ⟨g, 0, none⟩) L L) l ∧ Below w.heap.size w w' := by
  obtain ⟨i0, hi, hz0, hz1, hz2⟩ := info_parts info1T
  have HV := Lib.hid hv; clear hv
  go_enter Tryz.func29, Tryz.ntmps29
  go_wp2_with (first
    | (at_make; refine wpList_make_full _ rfl (.tmp 6) (.tmp 6) 24 rfl w.heap.size 9 i0 _ 1 Tryz.underlying24 hi hz0 hz1 .i64 .i64 _ _ L rfl rfl rfl rfl (by rw [hz2]; omega) (by unfold maxLen; omega) (Nat.le_refl _) ?_; intro w1 hown1 hgrow1))
  rw [Nat.mul_one] at hown1
  have hst : ∃ m, m.length = L ∧ O1 9 w.heap.size w1 (.slice (some ⟨w.heap.size, 0, none⟩) L L) m := ⟨_, (by have h0 := hown1.1; rw [Nat.mul_one] at h0; exact h0), (by unfold O1; have h0 := hown1.1; rw [Nat.mul_one] at h0; rw [h0]; exact hown1)⟩
  have hb1 : Below w.heap.size w w1 := (Below.refl _ _).grown hgrow1 (Nat.le_refl _) (fun _ h => by cases h)
  have H1 := Lib.hid (And.intro hst hb1); clear hst hb1 hown1 hgrow1
  go_loopw [4] (fun i wr => ∃ (k : Nat) (m : List Value), k ≤ L ∧ i = .int .i64 k ∧ m.length = L ∧ (∀ j, j < k → m[j]? = (txL l)[j]?) ∧ O1 9 w.heap.size wr (.slice (some ⟨w.heap.size, 0, none⟩) L L) m ∧ Below w.heap.size w wr) (fun i _ => L - intV i)
  case atStart =>
    obtain ⟨⟨m, hm, ho⟩, hb⟩ := H1.out
    exact ⟨0, m, Nat.zero_le _, rfl, hm, fun j hj => by omega, ho, hb⟩
  case round =>
    clear H1
    obtain ⟨k, m, hk, rfl, hm, hmk, hown, hbel⟩ := hrel
    have HB := Lib.hid hbel; clear hbel
    have HM := Lib.hid hmk; clear hmk
    by_cases hlk : k < L
    · obtain ⟨c, hc⟩ : ∃ c, l[k]? = some c := ⟨l[k], List.getElem?_eq_getElem (by omega)⟩
      obtain ⟨g, o, rfl, hg, h5⟩ := HV.out.tx hc
      have c0 : wr.cell? ⟨g, o + k, none⟩ = some (.string (tx c)) := (World.cell?_of_block (w := w) (HB.out.block g hg)).trans h5
      have HC := Lib.hid (txL_get hc); clear hc h5 hg
      have f0 := hown.frozen hm.symm k
      obtain ⟨d, hd⟩ : ∃ d, m[k]? = some d := ⟨m[k], List.getElem?_eq_getElem (by omega)⟩
      obtain ⟨g2, o2, e2, -, d0⟩ := hown.vw.cell hd
      cases e2
      rw [Nat.zero_add] at d0
      have HS := Lib.hid (hown.set hm.symm k (.string (tx c)))
      have HB2 := Lib.hid (HB.out.setCell (p := ⟨w.heap.size, k, none⟩) (Nat.le_refl _) (.string (tx c)))
      clear hown hd
      generalize hG : w.heap.size = G at *
      unfold tv at HC
      generalize tx c = c at *
      go_wp2_with fail
      subst hG
      go_roundw
      case rel =>
        refine ⟨k + 1, m.set k _, by omega, by go_num, by rw [List.length_set]; exact hm, fun j hj => ?_, HS.out, HB2.out⟩
        by_cases he : j = k
        · subst he; rw [List.getElem?_set_self (by omega), HC.out]
        · rw [List.getElem?_set_ne (by omega)]; exact HM.out j (by omega)
      case measure => simp [intV]; omega
    · obtain rfl : k = L := by omega
      have hml : m = txL l := by
        apply List.ext_getElem?
        intro i
        by_cases hi : i < k
        · exact HM.out i hi
        · rw [List.getElem?_eq_none (by omega), List.getElem?_eq_none (by rw [txL_len]; omega)]
      subst hml
      have HO := Lib.hid hown; clear hown
      go_wp2_with fail
      go_ret
      exact ⟨_, rfl, Nat.le_refl _, HO.out, HB.out⟩
set_option maxHeartbeats 4000000 in
set_option maxRecDepth 100000 in
theorem eqStringS_is (w : World) (a b : Option Addr) (ca cb : Nat) (l : List Tk) (n : Nat) (hn : l.length = n) (hv : V1 w a ca (txL l)) (hu : V1 w b cb (txL l)) (hl : n ≤ 4194304) :
    Calls Tryz.prog 33 #[.slice a n ca, .slice b n cb] w fun e w' => e = .returned (.bool true) ∧ Below w.heap.size w w' := by
  have HV := Lib.hid hv; clear hv
  have HU := Lib.hid hu; clear hu
  have q0 : ((n : Int) != (n : Int)) = false := by simp
  go_enter Tryz.func33, Tryz.ntmps33
  go_wp2_with fail
  go_loopw [5] (fun i wr => ∃ k : Nat, k ≤ n ∧ i = .int .i64 k ∧ Below w.heap.size w wr) (fun i _ => n - intV i)
  case atStart => exact ⟨0, Nat.zero_le _, rfl, Below.refl _ _⟩
  case round =>
    obtain ⟨k, hk, rfl, hbel⟩ := hrel
    have HB := Lib.hid hbel; clear hbel
    by_cases hlt : k < n
    · obtain ⟨c, hc⟩ : ∃ c, l[k]? = some c := ⟨l[k], List.getElem?_eq_getElem (by omega)⟩
      obtain ⟨g, o, rfl, hg, g5⟩ := HV.out.tx hc
      obtain ⟨h, p, rfl, hh, h5⟩ := HU.out.tx hc
      have c1 : wr.cell? ⟨g, o + k, none⟩ = some (.string (tx c)) := (World.cell?_of_block (w := w) (HB.out.block g hg)).trans g5
      have c2 : wr.cell? ⟨h, p + k, none⟩ = some (.string (tx c)) := (World.cell?_of_block (w := w) (HB.out.block h hh)).trans h5
      clear hc g5 h5 hg hh HV HU
      generalize tx c = x at c1 c2
      have q1 : (x.toList == x.toList) = true := by simp
      go_wp2_with fail
      go_quiet (fail)
      go_wp2_with fail
      go_roundw
      case rel => exact ⟨k + 1, by omega, by go_num, bel_drewN HB.out _⟩
      case measure => simp [intV]; omega
    · obtain rfl : k = n := by omega
      go_wp2_with fail
      go_ret
      exact ⟨rfl, HB.out⟩
set_option maxHeartbeats 4000000 in
set_option maxRecDepth 100000 in
theorem toInt64S_is (w : World) (a : Option Addr) (cap : Nat) (l : List Int) (L : Nat) (hL : l.length = L) (hv : V1 w a cap (inL l)) (hl : L ≤ 1048576) :
    Calls Tryz.prog 31 #[.slice a L cap] w fun e w' => ∃ g, e = .returned (.slice (some ⟨g, 0, none⟩) L L) ∧ w.heap.size ≤ g ∧ ON w.heap.size w' (.slice (some ⟨g, 0, none⟩) L L) l ∧ Below w.heap.size w w' := by
  obtain ⟨i0, hi, hz0, hz1, hz2⟩ := info_parts info1N
  have HV := Lib.hid hv; clear hv
  go_enter Tryz.func31, Tryz.ntmps31
  go_wp2_with (first
    | (at_make; refine wpList_make_full _ rfl (.tmp 6) (.tmp 6) 26 rfl w.heap.size 2 i0 _ 1 Tryz.underlying26 hi hz0 hz1 .i64 .i64 _ _ L rfl rfl rfl rfl (by rw [hz2]; omega) (by unfold maxLen; omega) (Nat.le_refl _) ?_; intro w1 hown1 hgrow1))
  rw [Nat.mul_one] at hown1
  have hst : ∃ m, m.length = L ∧ O1 2 w.heap.size w1 (.slice (some ⟨w.heap.size, 0, none⟩) L L) m := ⟨_, (by have h0 := hown1.1; rw [Nat.mul_one] at h0; exact h0), (by unfold O1; have h0 := hown1.1; rw [Nat.mul_one] at h0; rw [h0]; exact hown1)⟩
  have hb1 : Below w.heap.size w w1 := (Below.refl _ _).grown hgrow1 (Nat.le_refl _) (fun _ h => by cases h)
  have H1 := Lib.hid (And.intro hst hb1); clear hst hb1 hown1 hgrow1
  go_loopw [4] (fun i wr => ∃ (k : Nat) (m : List Value), k ≤ L ∧ i = .int .i64 k ∧ m.length = L ∧ (∀ j, j < k → m[j]? = (inL l)[j]?) ∧ O1 2 w.heap.size wr (.slice (some ⟨w.heap.size, 0, none⟩) L L) m ∧ Below w.heap.size w wr) (fun i _ => L - intV i)
  case atStart =>
    obtain ⟨⟨m, hm, ho⟩, hb⟩ := H1.out
    exact ⟨0, m, Nat.zero_le _, rfl, hm, fun j hj => by omega, ho, hb⟩
  case round =>
    clear H1
    obtain ⟨k, m, hk, rfl, hm, hmk, hown, hbel⟩ := hrel
    have HB := Lib.hid hbel; clear hbel
    have HM := Lib.hid hmk; clear hmk
    by_cases hlk : k < L
    · obtain ⟨c, hc⟩ : ∃ c, l[k]? = some c := ⟨l[k], List.getElem?_eq_getElem (by omega)⟩
      obtain ⟨g, o, rfl, hg, h5⟩ := HV.out.iv hc
      have c0 : wr.cell? ⟨g, o + k, none⟩ = some (.int .i64 c) := (World.cell?_of_block (w := w) (HB.out.block g hg)).trans h5
      have HC := Lib.hid (inL_get hc); clear hc h5 hg
      have f0 := hown.frozen hm.symm k
      obtain ⟨d, hd⟩ : ∃ d, m[k]? = some d := ⟨m[k], List.getElem?_eq_getElem (by omega)⟩
      obtain ⟨g2, o2, e2, -, d0⟩ := hown.vw.cell hd
      cases e2
      rw [Nat.zero_add] at d0
      have HS := Lib.hid (hown.set hm.symm k (.int .i64 c))
      have HB2 := Lib.hid (HB.out.setCell (p := ⟨w.heap.size, k, none⟩) (Nat.le_refl _) (.int .i64 c))
      clear hown hd
      generalize hG : w.heap.size = G at *
      unfold Cl.iv at HC
      go_wp2_with fail
      subst hG
      go_roundw
      case rel =>
        refine ⟨k + 1, m.set k _, by omega, by go_num, by rw [List.length_set]; exact hm, fun j hj => ?_, HS.out, HB2.out⟩
        by_cases he : j = k
        · subst he; rw [List.getElem?_set_self (by omega), HC.out]
        · rw [List.getElem?_set_ne (by omega)]; exact HM.out j (by omega)
      case measure => simp [intV]; omega
    · obtain rfl : k = L := by omega
      have hml : m = inL l := by
        apply List.ext_getElem?
        intro i
        by_cases hi : i < k
        · exact HM.out i hi
        · rw [List.getElem?_eq_none (by omega), List.getElem?_eq_none (by rw [inL_len]; omega)]
      subst hml
      have HO := Lib.hid hown; clear hown
      go_wp2_with fail
      go_ret
      exact ⟨_, rfl, Nat.le_refl _, HO.out, HB.out⟩
set_option maxHeartbeats 4000000 in
set_option maxRecDepth 100000 in
theorem eqInt64S_is (w : World) (a b : Option Addr) (ca cb : Nat) (l : List Int) (n : Nat) (hn : l.length = n) (hv : V1 w a ca (inL l)) (hu : V1 w b cb (inL l)) (hl : n ≤ 4194304) :
    Calls Tryz.prog 35 #[.slice a n ca, .slice b n cb] w fun e w' => e = .returned (.bool true) ∧ Below w.heap.size w w' := by
  have HV := Lib.hid hv; clear hv
  have HU := Lib.hid hu; clear hu
  have q0 : ((n : Int) != (n : Int)) = false := by simp
  go_enter Tryz.func35, Tryz.ntmps35
  go_wp2_with fail
  go_loopw [5] (fun i wr => ∃ k : Nat, k ≤ n ∧ i = .int .i64 k ∧ Below w.heap.size w wr) (fun i _ => n - intV i)
  case atStart => exact ⟨0, Nat.zero_le _, rfl, Below.refl _ _⟩
  case round =>
    obtain ⟨k, hk, rfl, hbel⟩ := hrel
    have HB := Lib.hid hbel; clear hbel
    by_cases hlt : k < n
    · obtain ⟨c, hc⟩ : ∃ c, l[k]? = some c := ⟨l[k], List.getElem?_eq_getElem (by omega)⟩
      obtain ⟨g, o, rfl, hg, g5⟩ := HV.out.iv hc
      obtain ⟨h, p, rfl, hh, h5⟩ := HU.out.iv hc
      have c1 : wr.cell? ⟨g, o + k, none⟩ = some (.int .i64 c) := (World.cell?_of_block (w := w) (HB.out.block g hg)).trans g5
      have c2 : wr.cell? ⟨h, p + k, none⟩ = some (.int .i64 c) := (World.cell?_of_block (w := w) (HB.out.block h hh)).trans h5
      clear hc g5 h5 hg hh HV HU
      have q1 : (c != c) = false := by simp
      go_wp2_with fail
      go_quiet (fail)
      go_wp2_with fail
      go_roundw
      case rel => exact ⟨k + 1, by omega, by go_num, bel_drewN HB.out _⟩
      case measure => simp [intV]; omega
    · obtain rfl : k = n := by omega
      go_wp2_with fail
      go_ret
      exact ⟨rfl, HB.out⟩
end Go.Proofs.YtfnnoehpahdgcaaGreatDoor.Cl
namespace Go.Proofs.YtfnnoehpahdgcaaGreatDoor.Rp
set_option linter.unusedVariables false
open Go.RowKit Wd
def piece (s : ByteArray) (i k : Nat) : List UInt8 := (s.data.toList.take k).drop i
theorem take_snoc (s : ByteArray) (k : Nat) (h : k < s.size) : s.data.toList.take (k + 1) = s.data.toList.take k ++ [s[k]] := by
  rw [List.take_succ_eq_append_getElem (by simpa using h)]; rfl
theorem len_eq (s : ByteArray) : s.data.toList.length = s.size := (Lib.size_eq s).symm
theorem piece_snoc (s : ByteArray) (i k : Nat) (hi : i ≤ k) (h : k < s.size) : piece s i (k + 1) = piece s i k ++ [s[k]] := by
  unfold piece
  rw [take_snoc s k h, List.drop_append_of_le_length]
  rw [List.length_take, len_eq]; omega
theorem piece_len (s : ByteArray) (i k : Nat) (h : k ≤ s.size) : (piece s i k).length = k - i := by
  unfold piece; rw [List.length_drop, List.length_take, len_eq]; omega
theorem piece_all (s : ByteArray) (i : Nat) : piece s i s.size = s.data.toList.drop i := by
  unfold piece; rw [List.take_of_length_le (by rw [len_eq]; exact Nat.le_refl _)]
theorem piece_start (s : ByteArray) (i : Nat) : piece s i i = [] := by
  unfold piece; apply List.drop_eq_nil_of_le; rw [List.length_take]; omega
theorem get_head (s : ByteArray) (i : Nat) (h : i < s.size) : (s.data.toList.drop i).head? = some s[i] := by
  rw [List.head?_drop, List.getElem?_eq_getElem (by rw [len_eq]; exact h)]; rfl
theorem not_all (s : ByteArray) (i k : Nat) (hi : i ≤ k) (h : k < s.size) (hd : isDig s[k] = false) : ¬ (s.data.toList.drop i).all isDig = true := by
  intro ha
  rw [List.all_eq_true] at ha
  have hm : s[k] ∈ s.data.toList.drop i := by
    rw [List.mem_iff_getElem?]
    refine ⟨k - i, ?_⟩
    rw [List.getElem?_drop, show i + (k - i) = k by omega, List.getElem?_eq_getElem (by rw [len_eq]; exact h)]; rfl
  rw [ha _ hm] at hd
  cases hd
theorem not_nil (s : ByteArray) (h : 0 < s.size) : ¬ s.toList = [] := by
  rw [toList_nil_iff_emptyBytes]
  intro e
  rw [e] at h
  exact absurd h (by decide)
theorem not_nilB (s : ByteArray) (h : 0 < s.size) : (!s.toList.isEmpty) = true := by
  have := not_nil s h
  cases hl : s.toList with
  | nil => exact absurd hl this
  | cons _ _ => rfl
theorem dig_of {c : UInt8} (h : isDig c = true) : (48 : Int) ≤ (c.toNat : Int) ∧ (c.toNat : Int) ≤ 57 := by simp [isDig] at h; omega
theorem dig_not {c : UInt8} (h : isDig c = false) : (c.toNat : Int) < 48 ∨ (57 : Int) < (c.toNat : Int) := by
  have : ¬ (48 ≤ c.toNat ∧ c.toNat ≤ 57) := by intro g; have : isDig c = true := by simp [isDig, g.1, g.2]
                                               rw [this] at h; cases h
  omega
theorem byte_is (c d : UInt8) (h : (c.toNat : Int) = d.toNat) : c = d := UInt8.toNat_inj.1 (by omega)
theorem val_bd (s : ByteArray) (i k : Nat) (h : (piece s i k).all isDig = true) (hk : k ≤ s.size) (hl : s.size - i ≤ 10) : (val (piece s i k) : Int) ≤ 10000000000 := by
  have h1 := val_lt _ h
  rw [piece_len s i k hk] at h1
  have h2 : 10 ^ (k - i) ≤ 10 ^ 10 := Nat.pow_le_pow_right (by decide) (by omega)
  omega

def RdPost (s : ByteArray) (w : World) (e : Ending) (w' : World) : Prop := e = .returned (.tuple #[.int .i64 (rdV s.data.toList), .bool (rdB s.data.toList)]) ∧ w = w'
theorem rd_none {s : ByteArray} {w : World} (h : rd s.data.toList = none) : RdPost s w (.returned (.tuple #[.int .i64 0, .bool false])) w := by
  refine ⟨?_, rfl⟩; simp [rdV, rdB, h]
theorem rd_some {s : ByteArray} {w : World} {v : Int} (h : rd s.data.toList = some v) : RdPost s w (.returned (.tuple #[.int .i64 v, .bool true])) w := by
  refine ⟨?_, rfl⟩; simp [rdV, rdB, h]

theorem empty_calls (w : World) : Calls Tryz.prog 88 #[.string ⟨#[]⟩] w fun e w' => e = .returned (.tuple #[.int .i64 0, .bool false]) ∧ w = w' := by
  go_enter Tryz.func88, Tryz.ntmps88
  go_wp2
  go_ret2
  exact ⟨rfl, rfl⟩

set_option maxHeartbeats 1000000 in
theorem long_plain (s : ByteArray) (w : World) (hs : s.size ≤ 9223372036854775807) (h0 : 0 < s.size) (g1 : (((s[0]'h0).toNat : Int) == 45) = false) (hl : 10 < s.size) :
    Calls Tryz.prog 88 #[.string s] w fun e w' => e = .returned (.tuple #[.int .i64 0, .bool false]) ∧ w = w' := by
  have g2 : (0 : Int) < (s.size : Int) := by omega
  have g3 := not_nil s h0
  have g5 := not_nilB s h0
  go_enter Tryz.func88, Tryz.ntmps88
  go_wp2
  go_ret2
  exact ⟨rfl, rfl⟩
set_option maxHeartbeats 4000000 in
theorem short_plain (s : ByteArray) (w : World) (h0 : 0 < s.size) (g1 : (((s[0]'h0).toNat : Int) == 45) = false) (hlo : 1 ≤ s.size) (hl : s.size ≤ 10)
    (hrd : rd s.data.toList = if ¬ (s.data.toList.drop 0).all isDig = true then none else if ((s[0]'(by omega)).toNat = 48 ∧ 1 < s.size) then none else if isW (val (s.data.toList.drop 0) : Int) then some (val (s.data.toList.drop 0) : Int) else none) :
    Calls Tryz.prog 88 #[.string s] w (RdPost s w) := by
  have HR := Lib.hid hrd; clear hrd
  have g2 : (0 : Int) < (s.size : Int) := by omega
  have g3 := not_nil s h0
  have g5 := not_nilB s h0
  have g4 : (0 : Int) < (s.size : Int) := by omega
  go_enter Tryz.func88, Tryz.ntmps88
  go_wp2
  go_loop [6, 7] (fun n i => ∃ k : Nat, 0 ≤ k ∧ k ≤ s.size ∧ i = .int .i64 k ∧ n = .int .i64 (val (piece s 0 k)) ∧ (piece s 0 k).all isDig = true) (fun _ i => s.size - (intOf i).toNat)
  case atStart => exact ⟨0, Nat.le_refl _, by omega, rfl, by rw [piece_start]; rfl, by rw [piece_start]; rfl⟩
  case round =>
    obtain ⟨k, hk0, hk, rfl, rfl, hall⟩ := hrel
    have hv := val_bd s 0 k hall hk (by omega)
    have HA := Lib.hid hall; clear hall
    by_cases hlt : k < s.size
    · have hps := piece_snoc s 0 k hk0 hlt
      have HP := Lib.hid hps; clear hps
      cases hd : isDig s[k]
      · have hn := rd_none (s := s) (w := w) (by rw [HR.out, if_pos (not_all s 0 k hk0 hlt hd)])
        have HN := Lib.hid hn; clear hn
        have hx := dig_not hd
        clear hd
        rcases hx with hx | hx
        · go_wp2
          go_ret2
          exact HN.out
        · go_wp2
          go_ret2
          exact HN.out
      · obtain ⟨d0, d1⟩ := dig_of hd
        have HD := Lib.hid hd; clear hd
        go_wp2
        go_round
        case rel =>
          refine ⟨k + 1, by omega, by omega, by go_num, ?_, ?_⟩
          · rw [HP.out, val_snoc]; go_num
          · rw [HP.out, List.all_append, HA.out]; simp [HD.out]
        case measure => simp [intOf]; omega
    · obtain rfl : k = s.size := by omega
      have hall := HA.out
      rw [piece_all] at hall hv ⊢
      have HL := Lib.hid hall; clear hall HA
      have hr : rd s.data.toList = if ((s[0]'(by omega)).toNat = 48 ∧ 1 < s.size) then none else if isW (val (s.data.toList.drop 0) : Int) then some (val (s.data.toList.drop 0) : Int) else none := by
        rw [HR.out, if_neg (fun g => g HL.out)]
      have H2 := Lib.hid hr; clear hr HR
      generalize hg : (val (s.data.toList.drop 0) : Int) = v at hv H2 ⊢
      have HG := Lib.hid hg; clear hg
      have v0 : 0 ≤ v := by rw [← HG.out]; omega
      by_cases hz : (s[0]'(by omega)).toNat = 48 ∧ 1 < s.size
      · have hn := rd_none (s := s) (w := w) (by rw [H2.out, if_pos hz])
        have HN := Lib.hid hn; clear hn
        have z1 : (((s[0]'(by omega)).toNat : Int) == 48) = true := by rw [beq_iff_eq]; omega
        have z2 : (1 : Int) < (s.size : Int) := by omega
        have HZ := Lib.hid hz; clear hz
        go_wp2
        go_ret2
        exact HN.out
      · have hr : rd s.data.toList = if isW v then some v else none := by rw [H2.out, if_neg hz]
        have H3 := Lib.hid hr; clear hr H2
        have hz' : (((s[0]'(by omega)).toNat : Int) == 48) = false ∨ ((((s[0]'(by omega)).toNat : Int) == 48) = true ∧ ¬ (1 : Int) < (s.size : Int)) := by
          by_cases q : (s[0]'(by omega)).toNat = 48
          · exact Or.inr ⟨by rw [beq_iff_eq]; omega, by omega⟩
          · exact Or.inl (by rw [beq_eq_false_iff_ne]; omega)
        clear hz
        cases hw : isW v
        · have hn := rd_none (s := s) (w := w) (by rw [H3.out, hw]; rfl)
          have HN := Lib.hid hn; clear hn
          rcases hz' with z1 | ⟨z1, z2⟩
          all_goals
            go_wp2_with (go_at_call 57; refine (l1Word_any _ _).mono ?_; rintro e w' ⟨rfl, rfl⟩)
            go_ret2
            exact HN.out
        · have hn := rd_some (s := s) (w := w) (v := v) (by rw [H3.out, hw]; rfl)
          have HN := Lib.hid hn; clear hn
          rcases hz' with z1 | ⟨z1, z2⟩
          all_goals
            go_wp2_with (go_at_call 57; refine (l1Word_any _ _).mono ?_; rintro e w' ⟨rfl, rfl⟩)
            go_ret2
            exact HN.out

set_option maxHeartbeats 1000000 in
theorem long_minus (s : ByteArray) (w : World) (hs : s.size ≤ 9223372036854775807) (h0 : 0 < s.size) (g1 : (((s[0]'h0).toNat : Int) == 45) = true) (hl : 11 < s.size) :
    Calls Tryz.prog 88 #[.string s] w fun e w' => e = .returned (.tuple #[.int .i64 0, .bool false]) ∧ w = w' := by
  have g2 : (0 : Int) < (s.size : Int) := by omega
  have g3 := not_nil s h0
  have g5 := not_nilB s h0
  go_enter Tryz.func88, Tryz.ntmps88
  go_wp2
  go_ret2
  exact ⟨rfl, rfl⟩
set_option maxHeartbeats 4000000 in
theorem short_minus (s : ByteArray) (w : World) (h0 : 0 < s.size) (g1 : (((s[0]'h0).toNat : Int) == 45) = true) (hlo : 2 ≤ s.size) (hl : s.size ≤ 11)
    (hrd : rd s.data.toList = if ¬ (s.data.toList.drop 1).all isDig = true then none else if (s[1]'(by omega)).toNat = 48 then none else if isW (-(val (s.data.toList.drop 1) : Int)) then some (-(val (s.data.toList.drop 1) : Int)) else none) :
    Calls Tryz.prog 88 #[.string s] w (RdPost s w) := by
  have HR := Lib.hid hrd; clear hrd
  have g2 : (0 : Int) < (s.size : Int) := by omega
  have g3 := not_nil s h0
  have g5 := not_nilB s h0
  have g4 : (1 : Int) < (s.size : Int) := by omega
  go_enter Tryz.func88, Tryz.ntmps88
  go_wp2
  go_loop [6, 7] (fun n i => ∃ k : Nat, 1 ≤ k ∧ k ≤ s.size ∧ i = .int .i64 k ∧ n = .int .i64 (val (piece s 1 k)) ∧ (piece s 1 k).all isDig = true) (fun _ i => s.size - (intOf i).toNat)
  case atStart => exact ⟨1, Nat.le_refl _, by omega, rfl, by rw [piece_start]; rfl, by rw [piece_start]; rfl⟩
  case round =>
    obtain ⟨k, hk0, hk, rfl, rfl, hall⟩ := hrel
    have hv := val_bd s 1 k hall hk (by omega)
    have HA := Lib.hid hall; clear hall
    by_cases hlt : k < s.size
    · have hps := piece_snoc s 1 k hk0 hlt
      have HP := Lib.hid hps; clear hps
      cases hd : isDig s[k]
      · have hn := rd_none (s := s) (w := w) (by rw [HR.out, if_pos (not_all s 1 k hk0 hlt hd)])
        have HN := Lib.hid hn; clear hn
        have hx := dig_not hd
        clear hd
        rcases hx with hx | hx
        · go_wp2
          go_ret2
          exact HN.out
        · go_wp2
          go_ret2
          exact HN.out
      · obtain ⟨d0, d1⟩ := dig_of hd
        have HD := Lib.hid hd; clear hd
        go_wp2
        go_round
        case rel =>
          refine ⟨k + 1, by omega, by omega, by go_num, ?_, ?_⟩
          · rw [HP.out, val_snoc]; go_num
          · rw [HP.out, List.all_append, HA.out]; simp [HD.out]
        case measure => simp [intOf]; omega
    · obtain rfl : k = s.size := by omega
      have hall := HA.out
      rw [piece_all] at hall hv ⊢
      have HL := Lib.hid hall; clear hall HA
      have hr : rd s.data.toList = if (s[1]'(by omega)).toNat = 48 then none else if isW (-(val (s.data.toList.drop 1) : Int)) then some (-(val (s.data.toList.drop 1) : Int)) else none := by
        rw [HR.out, if_neg (fun g => g HL.out)]
      have H2 := Lib.hid hr; clear hr HR
      generalize hg : (val (s.data.toList.drop 1) : Int) = v at hv H2 ⊢
      have HG := Lib.hid hg; clear hg
      have v0 : 0 ≤ v := by rw [← HG.out]; omega
      by_cases hz : (s[1]'(by omega)).toNat = 48
      · have hn := rd_none (s := s) (w := w) (by rw [H2.out, if_pos hz])
        have HN := Lib.hid hn; clear hn
        have z1 : (((s[1]'(by omega)).toNat : Int) == 48) = true := by rw [beq_iff_eq]; omega
        have HZ := Lib.hid hz; clear hz
        go_wp2
        go_ret2
        exact HN.out
      · have z1 : (((s[1]'(by omega)).toNat : Int) == 48) = false := by rw [beq_eq_false_iff_ne]; omega
        have hr : rd s.data.toList = if isW (-v) then some (-v) else none := by rw [H2.out, if_neg hz]
        have H3 := Lib.hid hr; clear hr H2 hz
        cases hw : isW (-v)
        · have hn := rd_none (s := s) (w := w) (by rw [H3.out, hw]; rfl)
          have HN := Lib.hid hn; clear hn
          go_wp2_with (go_at_call 57; refine (l1Word_any _ _).mono ?_; rintro e w' ⟨rfl, rfl⟩)
          go_ret2
          exact HN.out
        · have hn := rd_some (s := s) (w := w) (v := -v) (by rw [H3.out, hw]; rfl)
          have HN := Lib.hid hn; clear hn
          go_wp2_with (go_at_call 57; refine (l1Word_any _ _).mono ?_; rintro e w' ⟨rfl, rfl⟩)
          go_ret2
          exact HN.out

set_option maxHeartbeats 1000000 in
theorem one_minus (s : ByteArray) (w : World) (h0 : 0 < s.size) (g1 : (((s[0]'h0).toNat : Int) == 45) = true) (hl : s.size = 1) :
    Calls Tryz.prog 88 #[.string s] w fun e w' => e = .returned (.tuple #[.int .i64 0, .bool false]) ∧ w = w' := by
  have g2 : (0 : Int) < (s.size : Int) := by omega
  have g3 := not_nil s h0
  have g5 := not_nilB s h0
  have g4 : (s.size : Int) ≤ 1 := by omega
  clear hl
  go_enter Tryz.func88, Tryz.ntmps88
  go_wp2
  go_ret2
  exact ⟨rfl, rfl⟩

theorem specRead_any (s : ByteArray) (w : World) (hs : s.size ≤ 9223372036854775807) : Calls Tryz.prog 88 #[.string s] w (RdPost s w) := by
  by_cases h0 : 0 < s.size
  · have hh := get_head s 0 h0
    rw [List.drop_zero] at hh
    by_cases hm : (s[0]'h0).toNat = 45
    · have hc : s[0]'h0 = 45 := byte_is _ _ (by rw [hm]; rfl)
      have hhead : s.data.toList.head? = some 45 := by rw [hh, hc]
      have htail : s.data.toList.tail = s.data.toList.drop 1 := by cases s.data.toList <;> rfl
      have hlen : (s.data.toList.drop 1).length = s.size - 1 := by rw [List.length_drop, len_eq]
      have g1 : (((s[0]'h0).toNat : Int) == 45) = true := by rw [beq_iff_eq]; omega
      have hrd : rd s.data.toList = if s.size - 1 < 1 ∨ 10 < s.size - 1 then none else if ¬ (s.data.toList.drop 1).all isDig = true then none else if (s.data.toList.drop 1).head? = some 48 then none else if isW (-(val (s.data.toList.drop 1) : Int)) then some (-(val (s.data.toList.drop 1) : Int)) else none := by
        unfold rd; rw [if_pos hhead, htail, hlen]
      by_cases hl : 11 < s.size
      · refine (long_minus s w hs h0 g1 hl).mono ?_
        rintro e w' ⟨rfl, rfl⟩
        exact rd_none (by rw [hrd, if_pos (by omega)])
      · by_cases h1 : 2 ≤ s.size
        · refine short_minus s w h0 g1 h1 (by omega) ?_
          rw [hrd, if_neg (by omega)]
          have h2 := get_head s 1 (by omega)
          rw [h2]
          have he : (some (s[1]'(by omega)) = some (48 : UInt8)) ↔ (s[1]'(by omega)).toNat = 48 := by
            rw [Option.some.injEq]
            exact ⟨fun e => by rw [e]; rfl, fun e => byte_is _ _ (by rw [e]; rfl)⟩
          by_cases hz : (s[1]'(by omega)).toNat = 48
          · rw [if_pos (he.2 hz), if_pos hz]
          · rw [if_neg (fun e => hz (he.1 e)), if_neg hz]
        · refine (one_minus s w h0 g1 (by omega)).mono ?_
          rintro e w' ⟨rfl, rfl⟩
          exact rd_none (by rw [hrd, if_pos (by omega)])
    · have hhead : ¬ s.data.toList.head? = some 45 := by
        rw [hh, Option.some.injEq]; intro e; apply hm; rw [e]; rfl
      have g1 : (((s[0]'h0).toNat : Int) == 45) = false := by rw [beq_eq_false_iff_ne]; omega
      have hrd : rd s.data.toList = if s.size < 1 ∨ 10 < s.size then none else if ¬ (s.data.toList.drop 0).all isDig = true then none else if (s.data.toList.drop 0).head? = some 48 ∧ 1 < s.size then none else if isW (val (s.data.toList.drop 0) : Int) then some (val (s.data.toList.drop 0) : Int) else none := by
        unfold rd; rw [if_neg hhead, len_eq, List.drop_zero]
      by_cases hl : 10 < s.size
      · refine (long_plain s w hs h0 g1 hl).mono ?_
        rintro e w' ⟨rfl, rfl⟩
        exact rd_none (by rw [hrd, if_pos (by omega)])
      · refine short_plain s w h0 g1 (by omega) (by omega) ?_
        rw [hrd, if_neg (by omega)]
        have h2 := get_head s 0 h0
        rw [h2]
        have he : (some (s[0]'h0) = some (48 : UInt8) ∧ 1 < s.size) ↔ ((s[0]'h0).toNat = 48 ∧ 1 < s.size) := by
          rw [Option.some.injEq]
          exact ⟨fun e => ⟨by rw [e.1]; rfl, e.2⟩, fun e => ⟨byte_is _ _ (by rw [e.1]; rfl), e.2⟩⟩
        by_cases hz : (s[0]'h0).toNat = 48 ∧ 1 < s.size
        · rw [if_pos (he.2 hz), if_pos hz]
        · rw [if_neg (fun e => hz (he.1 e)), if_neg hz]
  · obtain rfl : s = ⟨#[]⟩ := by
      obtain ⟨a⟩ := s
      have : a.size = 0 := by have : ¬ 0 < a.size := h0; omega
      rw [Array.size_eq_zero_iff] at this
      rw [this]
    refine (empty_calls w).mono ?_
    rintro e w' ⟨rfl, rfl⟩
    exact rd_none rfl
end Go.Proofs.YtfnnoehpahdgcaaGreatDoor.Rp
namespace Go.Proofs
set_option linter.unusedVariables false
open Go.Shelf
def Tryz.laysM173_ren : Go.Shelf.Ren := ⟨fun | 173 => 167 | 246 => 178 | 283 => 184 | 284 => 185 | 285 => 186 | 286 => 187 | 129 => 194 | 317 => 193 | 318 => 195 | 319 => 196 | 320 => 197 | 337 => 199 | 338 => 200 | n => n, fun | 2 => 2 | 3 => 3 | 9 => 9 | 4 => 4 | 171 => 193 | 0 => 0 | 53 => 187 | 37 => 22 | 5 => 5 | 173 => 196 | 212 => 205 | 51 => 206 | 20 => 20 | 213 => 207 | 46 => 117 | 232 => 215 | 233 => 216 | n => n, fun | 17 => 3 | 18 => 4 | 19 => 5 | n => n⟩
theorem Tryz.laysM173 : Go.Proofs.LaysM.n173 Tryz.prog Tryz.laysM173_ren := {
  mixed := by kernel_rfl
  f129 := Tryz.func194.trans (congrArg some (by kernel_rfl))
  f173 := Tryz.func167.trans (congrArg some (by kernel_rfl))
  f246 := Tryz.func178.trans (congrArg some (by kernel_rfl))
  f283 := Tryz.func184.trans (congrArg some (by kernel_rfl))
  f284 := Tryz.func185.trans (congrArg some (by kernel_rfl))
  f285 := Tryz.func186.trans (congrArg some (by kernel_rfl))
  f286 := Tryz.func187.trans (congrArg some (by kernel_rfl))
  f317 := Tryz.func193.trans (congrArg some (by kernel_rfl))
  f318 := Tryz.func195.trans (congrArg some (by kernel_rfl))
  f319 := Tryz.func196.trans (congrArg some (by kernel_rfl))
  f320 := Tryz.func197.trans (congrArg some (by kernel_rfl))
  f337 := Tryz.func199.trans (congrArg some (by kernel_rfl))
  f338 := Tryz.func200.trans (congrArg some (by kernel_rfl))
  t0 := Tryz.underlying0
  a0 := Tryz.isAgg0
  z0 := Tryz.sizeOf0
  v0 := Tryz.zeroValue0
  t2 := Tryz.underlying2
  a2 := Tryz.isAgg2
  z2 := Tryz.sizeOf2
  v2 := Tryz.zeroValue2
  t3 := Tryz.underlying3
  a3 := Tryz.isAgg3
  z3 := Tryz.sizeOf3
  v3 := Tryz.zeroValue3
  t4 := Tryz.underlying4
  a4 := Tryz.isAgg4
  z4 := Tryz.sizeOf4
  v4 := Tryz.zeroValue4
  t5 := Tryz.underlying5
  a5 := Tryz.isAgg5
  z5 := Tryz.sizeOf5
  v5 := Tryz.zeroValue5
  t9 := Tryz.underlying9
  a9 := Tryz.isAgg9
  z9 := Tryz.sizeOf9
  v9 := Tryz.zeroValue9
  t20 := Tryz.underlying20
  a20 := Tryz.isAgg20
  z20 := Tryz.sizeOf20
  v20 := Tryz.zeroValue20
  t37 := Tryz.underlying22
  a37 := Tryz.isAgg22
  z37 := Tryz.sizeOf22
  v37 := Tryz.zeroValue22
  t46 := Tryz.underlying117
  a46 := Tryz.isAgg117
  z46 := Tryz.sizeOf117
  v46 := Tryz.zeroValue117
  t51 := Tryz.underlying206
  a51 := Tryz.isAgg206
  z51 := Tryz.sizeOf206
  v51 := Tryz.zeroValue206
  t53 := Tryz.underlying187
  a53 := Tryz.isAgg187
  z53 := Tryz.sizeOf187
  v53 := Tryz.zeroValue187
  t171 := Tryz.underlying193
  a171 := Tryz.isAgg193
  z171 := Tryz.sizeOf193
  v171 := Tryz.zeroValue193
  t173 := Tryz.underlying196
  a173 := Tryz.isAgg196
  z173 := Tryz.sizeOf196
  v173 := Tryz.zeroValue196
  t212 := Tryz.underlying205
  a212 := Tryz.isAgg205
  z212 := Tryz.sizeOf205
  v212 := Tryz.zeroValue205
  t213 := Tryz.underlying207
  a213 := Tryz.isAgg207
  z213 := Tryz.sizeOf207
  t232 := Tryz.underlying215
  a232 := Tryz.isAgg215
  z232 := Tryz.sizeOf215
  v232 := Tryz.zeroValue215
  t233 := Tryz.underlying216
  a233 := Tryz.isAgg216
  z233 := Tryz.sizeOf216
  v233 := Tryz.zeroValue216
  g17 := by kernel_rfl
  g18 := by kernel_rfl
  g19 := by kernel_rfl
  i0 := by kernel_rfl
  i2 := by kernel_rfl
  i3 := by kernel_rfl
  i4 := by kernel_rfl
  i5 := by kernel_rfl
  i9 := by kernel_rfl
  i20 := by kernel_rfl
  i37 := by kernel_rfl
  i46 := by kernel_rfl
  i51 := by kernel_rfl
  i53 := by kernel_rfl
  i171 := by kernel_rfl
  i173 := by kernel_rfl
  i212 := by kernel_rfl
  i232 := by kernel_rfl
  i233 := by kernel_rfl
  m17 := by kernel_rfl
  m18 := by kernel_rfl
  m19 := by kernel_rfl }
def Tryz.laysC174_ren : Go.Shelf.Ren := ⟨fun | 174 => 166 | 247 => 176 | 245 => 177 | 287 => 179 | 279 => 180 | 280 => 181 | 281 => 182 | 282 => 183 | 321 => 188 | 322 => 189 | 316 => 190 | 171 => 192 | 205 => 191 | 243 => 198 | 246 => 178 | 283 => 184 | 284 => 185 | 285 => 186 | 286 => 187 | 129 => 194 | 317 => 193 | 318 => 195 | 319 => 196 | 320 => 197 | 337 => 199 | 338 => 200 | n => n, fun | 9 => 9 | 3 => 3 | 2 => 2 | 75 => 180 | 85 => 181 | 4 => 4 | 167 => 186 | 5 => 5 | 53 => 187 | 175 => 188 | 46 => 117 | 168 => 190 | 37 => 22 | 0 => 0 | 210 => 201 | 21 => 21 | 127 => 210 | 145 => 213 | 143 => 211 | 171 => 193 | 173 => 196 | 212 => 205 | 51 => 206 | 20 => 20 | 213 => 207 | 232 => 215 | 233 => 216 | 80 => 126 | n => n, fun | 15 => 1 | 16 => 2 | 17 => 3 | 18 => 4 | 19 => 5 | n => n⟩
theorem Tryz.laysC174 : Go.Proofs.LaysC.n174 Tryz.prog Tryz.laysC174_ren := {
  mixed := by kernel_rfl
  f129 := Tryz.func194.trans (congrArg some (by kernel_rfl))
  f171 := Tryz.func192.trans (congrArg some (by kernel_rfl))
  f174 := Tryz.func166.trans (congrArg some (by kernel_rfl))
  f205 := Tryz.func191.trans (congrArg some (by kernel_rfl))
  f243 := Tryz.func198.trans (congrArg some (by kernel_rfl))
  f245 := Tryz.func177.trans (congrArg some (by kernel_rfl))
  f246 := Tryz.func178.trans (congrArg some (by kernel_rfl))
  f247 := Tryz.func176.trans (congrArg some (by kernel_rfl))
  f279 := Tryz.func180.trans (congrArg some (by kernel_rfl))
  f280 := Tryz.func181.trans (congrArg some (by kernel_rfl))
  f281 := Tryz.func182.trans (congrArg some (by kernel_rfl))
  f282 := Tryz.func183.trans (congrArg some (by kernel_rfl))
  f283 := Tryz.func184.trans (congrArg some (by kernel_rfl))
  f284 := Tryz.func185.trans (congrArg some (by kernel_rfl))
  f285 := Tryz.func186.trans (congrArg some (by kernel_rfl))
  f286 := Tryz.func187.trans (congrArg some (by kernel_rfl))
  f287 := Tryz.func179.trans (congrArg some (by kernel_rfl))
  f316 := Tryz.func190.trans (congrArg some (by kernel_rfl))
  f317 := Tryz.func193.trans (congrArg some (by kernel_rfl))
  f318 := Tryz.func195.trans (congrArg some (by kernel_rfl))
  f319 := Tryz.func196.trans (congrArg some (by kernel_rfl))
  f320 := Tryz.func197.trans (congrArg some (by kernel_rfl))
  f321 := Tryz.func188.trans (congrArg some (by kernel_rfl))
  f322 := Tryz.func189.trans (congrArg some (by kernel_rfl))
  f337 := Tryz.func199.trans (congrArg some (by kernel_rfl))
  f338 := Tryz.func200.trans (congrArg some (by kernel_rfl))
  t0 := Tryz.underlying0
  a0 := Tryz.isAgg0
  z0 := Tryz.sizeOf0
  v0 := Tryz.zeroValue0
  t2 := Tryz.underlying2
  a2 := Tryz.isAgg2
  z2 := Tryz.sizeOf2
  v2 := Tryz.zeroValue2
  t3 := Tryz.underlying3
  a3 := Tryz.isAgg3
  z3 := Tryz.sizeOf3
  v3 := Tryz.zeroValue3
  t4 := Tryz.underlying4
  a4 := Tryz.isAgg4
  z4 := Tryz.sizeOf4
  v4 := Tryz.zeroValue4
  t5 := Tryz.underlying5
  a5 := Tryz.isAgg5
  z5 := Tryz.sizeOf5
  v5 := Tryz.zeroValue5
  t9 := Tryz.underlying9
  a9 := Tryz.isAgg9
  z9 := Tryz.sizeOf9
  v9 := Tryz.zeroValue9
  t20 := Tryz.underlying20
  a20 := Tryz.isAgg20
  z20 := Tryz.sizeOf20
  v20 := Tryz.zeroValue20
  t21 := Tryz.underlying21
  a21 := Tryz.isAgg21
  z21 := Tryz.sizeOf21
  v21 := Tryz.zeroValue21
  t37 := Tryz.underlying22
  a37 := Tryz.isAgg22
  z37 := Tryz.sizeOf22
  v37 := Tryz.zeroValue22
  t46 := Tryz.underlying117
  a46 := Tryz.isAgg117
  z46 := Tryz.sizeOf117
  v46 := Tryz.zeroValue117
  t51 := Tryz.underlying206
  a51 := Tryz.isAgg206
  z51 := Tryz.sizeOf206
  v51 := Tryz.zeroValue206
  t53 := Tryz.underlying187
  a53 := Tryz.isAgg187
  z53 := Tryz.sizeOf187
  v53 := Tryz.zeroValue187
  t75 := Tryz.underlying180
  a75 := Tryz.isAgg180
  z75 := Tryz.sizeOf180
  v75 := Tryz.zeroValue180
  t85 := Tryz.underlying181
  a85 := Tryz.isAgg181
  z85 := Tryz.sizeOf181
  v85 := Tryz.zeroValue181
  t127 := Tryz.underlying210
  a127 := Tryz.isAgg210
  z127 := Tryz.sizeOf210
  v127 := Tryz.zeroValue210
  t143 := Tryz.underlying211
  a143 := Tryz.isAgg211
  z143 := Tryz.sizeOf211
  v143 := Tryz.zeroValue211
  t145 := Tryz.underlying213
  a145 := Tryz.isAgg213
  z145 := Tryz.sizeOf213
  v145 := Tryz.zeroValue213
  t167 := Tryz.underlying186
  a167 := Tryz.isAgg186
  z167 := Tryz.sizeOf186
  v167 := Tryz.zeroValue186
  t168 := Tryz.underlying190
  a168 := Tryz.isAgg190
  z168 := Tryz.sizeOf190
  v168 := Tryz.zeroValue190
  t171 := Tryz.underlying193
  a171 := Tryz.isAgg193
  z171 := Tryz.sizeOf193
  v171 := Tryz.zeroValue193
  t173 := Tryz.underlying196
  a173 := Tryz.isAgg196
  z173 := Tryz.sizeOf196
  v173 := Tryz.zeroValue196
  t175 := Tryz.underlying188
  a175 := Tryz.isAgg188
  z175 := Tryz.sizeOf188
  v175 := Tryz.zeroValue188
  t210 := Tryz.underlying201
  a210 := Tryz.isAgg201
  z210 := Tryz.sizeOf201
  v210 := Tryz.zeroValue201
  t212 := Tryz.underlying205
  a212 := Tryz.isAgg205
  z212 := Tryz.sizeOf205
  v212 := Tryz.zeroValue205
  t213 := Tryz.underlying207
  a213 := Tryz.isAgg207
  z213 := Tryz.sizeOf207
  t232 := Tryz.underlying215
  a232 := Tryz.isAgg215
  z232 := Tryz.sizeOf215
  v232 := Tryz.zeroValue215
  t233 := Tryz.underlying216
  a233 := Tryz.isAgg216
  z233 := Tryz.sizeOf216
  v233 := Tryz.zeroValue216
  g15 := by kernel_rfl
  g16 := by kernel_rfl
  g17 := by kernel_rfl
  g18 := by kernel_rfl
  g19 := by kernel_rfl
  t80 := Tryz.underlying126
  a80 := Tryz.isAgg126
  z80 := Tryz.sizeOf126
  v80 := Tryz.zeroValue126
  i0 := by kernel_rfl
  i2 := by kernel_rfl
  i3 := by kernel_rfl
  i4 := by kernel_rfl
  i5 := by kernel_rfl
  i9 := by kernel_rfl
  i20 := by kernel_rfl
  i21 := by kernel_rfl
  i37 := by kernel_rfl
  i46 := by kernel_rfl
  i51 := by kernel_rfl
  i53 := by kernel_rfl
  i75 := by kernel_rfl
  i80 := by kernel_rfl
  i85 := by kernel_rfl
  i127 := by kernel_rfl
  i143 := by kernel_rfl
  i145 := by kernel_rfl
  i167 := by kernel_rfl
  i168 := by kernel_rfl
  i171 := by kernel_rfl
  i173 := by kernel_rfl
  i175 := by kernel_rfl
  i210 := by kernel_rfl
  i212 := by kernel_rfl
  i232 := by kernel_rfl
  i233 := by kernel_rfl
  m15 := by kernel_rfl
  m16 := by kernel_rfl
  m17 := by kernel_rfl
  m18 := by kernel_rfl
  m19 := by kernel_rfl
  c0 := by kernel_rfl
  c2 := by kernel_rfl
  c3 := by kernel_rfl
  c4 := by kernel_rfl
  c5 := by kernel_rfl
  c9 := by kernel_rfl
  c20 := by kernel_rfl
  c21 := by kernel_rfl
  c37 := by kernel_rfl
  c46 := by kernel_rfl
  c51 := by kernel_rfl
  c53 := by kernel_rfl
  c75 := by kernel_rfl
  c80 := by kernel_rfl
  c85 := by kernel_rfl
  c127 := by kernel_rfl
  c143 := by kernel_rfl
  c145 := by kernel_rfl
  c167 := by kernel_rfl
  c168 := by kernel_rfl
  c171 := by kernel_rfl
  c173 := by kernel_rfl
  c175 := by kernel_rfl
  c210 := by kernel_rfl
  c212 := by kernel_rfl
  c213 := by kernel_rfl
  c232 := by kernel_rfl
  c233 := by kernel_rfl }
open Go.RowKit Go.Sort Go.Lib in
theorem Tryz.strconv_FormatInt_10 (n : Int) (h0 : -9223372036854775808 ≤ n) (h1 : n ≤ 9223372036854775807) (w : World) (htab : Lib.TabIs Tryz.prog w "internal/strconv.uint64pow10" .u64 Lib.pow10Tab) :
    Calls Tryz.prog 167 #[.int .i64 n, .int .i64 10] w fun e w' => e = .returned (.string ⟨(Lib.itoa n).toArray⟩) ∧ ∃ k os, w' = grow (w.drewN k) os := Any.strconv_FormatInt_10 Tryz.laysM173 n h0 h1 w htab
open Go.RowKit in
theorem Tryz.strconv_ParseInt_10_at32_ok (s : ByteArray) (hmax : s.size ≤ 9223372036854775806) (v : Int) (h : Lib.parseIntB 32 s.data.toList = .ok v) (w : World) :
    Calls Tryz.prog 166 #[.string s, .int .i64 10, .int .i64 32] w fun e w' => e = .returned (.tuple #[.int .i64 v, .nilIface]) ∧ (w' = w ∨ ∃ t, w' = Lib.bytesWorld w 5 t) := Any.strconv_ParseInt_10_at32_ok Tryz.laysC174 s hmax v h w
open Go.RowKit in
theorem Tryz.strconv_ParseInt_10_at32_range_var (s : ByteArray) (hlim : s.size ≤ 281474976710656) (h : Lib.parseIntB 32 s.data.toList = .range) (tp : TypeId) (p : Value) (w : World) (hvar : w.var? Tryz.prog "strconv.ErrRange" = some #[.iface tp p]) :
    Calls Tryz.prog 166 #[.string s, .int .i64 10, .int .i64 32] w fun e w' => ∃ N, e = .returned (.tuple #[.int .i64 (Lib.intSat 32 s.data.toList), .iface 190 (.pointer (some ⟨N, 0, none⟩))]) ∧ w.heap.size ≤ N ∧ w'.heap[N]? = some (.cells #[.string ⟨#[80, 97, 114, 115, 101, 73, 110, 116]⟩, .string s, .iface tp p] 201 (0, 0)) ∧ Below w.heap.size w w' := Any.strconv_ParseInt_10_at32_range_var Tryz.laysC174 s hlim h tp p w hvar
end Go.Proofs
namespace Go.Proofs.YtfnnoehpahdgcaaGreatDoor.Rp
set_option linter.unusedVariables false
open Go.RowKit Wd
def Lib3 (w : World) : Prop := (∃ tp p, w.var? Tryz.prog "strconv.ErrSyntax" = some #[.iface tp p]) ∧ (∃ tp p, w.var? Tryz.prog "strconv.ErrRange" = some #[.iface tp p]) ∧ Lib.TabIs Tryz.prog w "internal/strconv.uint64pow10" .u64 Lib.pow10Tab ∧ 1 < w.heap.size ∧ 2 < w.heap.size ∧ 3 < w.heap.size
theorem gS : Tryz.prog.globalNamed "strconv.ErrSyntax" = some 1 := by kernel_rfl
theorem gR : Tryz.prog.globalNamed "strconv.ErrRange" = some 2 := by kernel_rfl
theorem gT : Tryz.prog.globalNamed "internal/strconv.uint64pow10" = some 3 := by kernel_rfl
theorem Lib3.carry {w w' : World} {B : Nat} (h : Lib3 w) (hb : Below B w w') (hB : 1 < B ∧ 2 < B ∧ 3 < B) : Lib3 w' := by
  obtain ⟨⟨t1, p1, h1⟩, ⟨t2, p2, h2⟩, h3, h4, h5, h6⟩ := h
  have hs := hb.size
  exact ⟨⟨t1, p1, var?_below hb gS hB.1 h1⟩, ⟨t2, p2, var?_below hb gR hB.2.1 h2⟩, var?_below hb gT hB.2.2 h3, by omega, by omega, by omega⟩

def RdGrown (s : ByteArray) (w : World) (e : Ending) (w' : World) : Prop := e = .returned (.tuple #[.int .i64 (rdV s.data.toList), .bool (rdB s.data.toList)]) ∧ Below w.heap.size w w'
theorem rdg_none {s : ByteArray} {w w' : World} (h : rd s.data.toList = none) (hb : Below w.heap.size w w') : RdGrown s w (.returned (.tuple #[.int .i64 0, .bool false])) w' := by
  refine ⟨?_, hb⟩; simp [rdV, rdB, h]
theorem rdg_some {s : ByteArray} {w w' : World} {v : Int} (h : rd s.data.toList = some v) (hb : Below w.heap.size w w') : RdGrown s w (.returned (.tuple #[.int .i64 v, .bool true])) w' := by
  refine ⟨?_, hb⟩; simp [rdV, rdB, h]

theorem lists_ne {t s : ByteArray} (h : ¬ t = s) : (t.toList == s.toList) = false := by
  rw [beq_eq_false_iff_ne]
  intro e
  rw [Lib.toList_data, Lib.toList_data] at e
  apply h
  obtain ⟨a⟩ := t
  obtain ⟨b⟩ := s
  have : a = b := Array.toList_inj.1 e
  rw [this]
set_option maxHeartbeats 1000000 in
theorem implRead_err (s : ByteArray) (w : World) (hr : rd s.data.toList = none) (x : Int) (T : Nat)
    (hp : Calls Tryz.prog 166 #[.string s, .int .i64 10, .int .i64 32] w fun e w' => ∃ N, e = .returned (.tuple #[.int .i64 x, .iface T (.pointer (some ⟨N, 0, none⟩))]) ∧ Below w.heap.size w w') :
    Calls Tryz.prog 161 #[.string s] w (RdGrown s w) := by
  have HP := Lib.hid hp; clear hp
  have HR := Lib.hid hr; clear hr
  go_enter Tryz.func161, Tryz.ntmps161
  go_wp2_with fail
  refine HP.out.mono ?_; rintro e w1 ⟨N, rfl, hb⟩
  go_wp2
  go_ret2
  exact rdg_none HR.out hb

set_option maxHeartbeats 1000000 in
theorem implRead_ok (s : ByteArray) (w : World) (hL : Lib3 w) (hs : s.size ≤ 9223372036854775806) (v : Int) (hv : Lib.parseIntB 32 s.data.toList = .ok v) :
    Calls Tryz.prog 161 #[.string s] w (RdGrown s w) := by
  have hp := Tryz.strconv_ParseInt_10_at32_ok s hs v hv w
  have hw := (isW_iff v).1 (parse_isW hv)
  have HP := Lib.hid hp; clear hp
  have HV := Lib.hid hv; clear hv
  have HL := Lib.hid hL; clear hL
  go_enter Tryz.func161, Tryz.ntmps161
  go_wp2_with fail
  refine HP.out.mono ?_; rintro e w1 ⟨rfl, hw1⟩
  have hb1 : Below w.heap.size w w1 := by
    rcases hw1 with rfl | ⟨t, rfl⟩
    · exact Below.refl _ _
    · exact Lib.bytesWorld_below _ _ _
  clear hw1
  have hL1 : Lib3 w1 := HL.out.carry hb1 ⟨HL.out.2.2.2.1, HL.out.2.2.2.2.1, HL.out.2.2.2.2.2⟩
  have HL1 := Lib.hid hL1; clear hL1
  have hf := Tryz.strconv_FormatInt_10 v (by omega) (by omega) w1 HL1.out.2.2.1
  have HF := Lib.hid hf; clear hf
  by_cases he : Lib.itoa v = s.data.toList
  · have hs' : (⟨(Lib.itoa v).toArray⟩ : ByteArray) = s := by rw [he]
    have hf : Calls Tryz.prog 167 #[.int .i64 v, .int .i64 10] w1 fun e w' => e = .returned (.string s) ∧ Below w1.heap.size w1 w' := by
      refine HF.out.mono ?_; rintro e w2 ⟨rfl, k, os, rfl⟩
      exact ⟨by rw [hs'], Lib.below_grow _ _ (Nat.le_refl _) _ _⟩
    have HF2 := Lib.hid hf; clear hf HF
    have hr := rd_ok HV.out he
    have HR := Lib.hid hr; clear hr he hs'
    go_wp2_with (go_at_call 167; refine HF2.out.mono ?_; rintro e w2 ⟨rfl, hb2⟩)
    go_ret2
    exact rdg_some HR.out (hb1.trans (hb2.mono hb1.size))
  · have hs' : ¬ (⟨(Lib.itoa v).toArray⟩ : ByteArray) = s := by
      intro e; apply he; rw [← e]
    have hf : Calls Tryz.prog 167 #[.int .i64 v, .int .i64 10] w1 fun e w' => ∃ t : ByteArray, (t.toList == s.toList) = false ∧ e = .returned (.string t) ∧ Below w1.heap.size w1 w' := by
      refine HF.out.mono ?_; rintro e w2 ⟨rfl, k, os, rfl⟩
      exact ⟨_, lists_ne hs', rfl, Lib.below_grow _ _ (Nat.le_refl _) _ _⟩
    have HF2 := Lib.hid hf; clear hf HF
    have hr := rd_other HV.out he
    have HR := Lib.hid hr; clear hr he hs'
    go_wp2_with (go_at_call 167; refine HF2.out.mono ?_; rintro e w2 ⟨t, ht, rfl, hb2⟩)
    go_ret2
    exact rdg_none HR.out (hb1.trans (hb2.mono hb1.size))
theorem implRead_any (s : ByteArray) (w : World) (hL : Lib3 w) (hs : s.size ≤ 281474976710656) : Calls Tryz.prog 161 #[.string s] w (RdGrown s w) := by
  cases hv : Lib.parseIntB 32 s.data.toList
  · rename_i v
    exact implRead_ok s w hL (by omega) v hv
  · obtain ⟨tp, p, h1⟩ := hL.1
    exact implRead_err s w (rd_bad fun v e => by rw [hv] at e; cases e) _ _ ((Any.strconv_ParseInt_10_at32_syntax_var Tryz.laysC174 s hs hv tp p w h1).mono fun e w' ⟨N, h, _, _, hb⟩ => ⟨N, h, hb⟩)
  · obtain ⟨tp, p, h1⟩ := hL.2.1
    exact implRead_err s w (rd_bad fun v e => by rw [hv] at e; cases e) _ _ ((Tryz.strconv_ParseInt_10_at32_range_var s hs hv tp p w h1).mono fun e w' ⟨N, h, _, _, hb⟩ => ⟨N, h, hb⟩)
end Go.Proofs.YtfnnoehpahdgcaaGreatDoor.Rp
namespace Go.Proofs.YtfnnoehpahdgcaaGreatDoor.Rp
set_option linter.unusedVariables false
open Go.RowKit Go.ChangeShapes
theorem star : "*" ++ "errors.errorString" = "*errors.errorString" := by decide
theorem rowOf (u : TypeId) (h : Tryz.prog.typeName? 3 u = some "*errors.errorString") : u = 211 :=
  typeName_ptr_named (nm := "errors.errorString") (by rw [star]; kernel_rfl) (by kernel_rfl) (by decide) u (by rw [star]; exact h)
theorem lt_of_var {w : World} {n : String} {g : Nat} {cs : Array Value} {v : Value} (hg : Tryz.prog.globalNamed n = some g) (h : w.var? Tryz.prog n = some cs) (hv : cs[0]? = some v) : g < w.heap.size := by
  have := World.var?_cell hg h 0
  rw [hv] at this
  exact Lib.lt_of_cell this
theorem lib3_of {W : World} (h : laidMet Tryz.prog [("internal/strconv.uint64pow10", Rows.laid_internal_strconv_uint64pow10), ("strconv.ErrRange", Rows.laid_strconv_ErrRange), ("strconv.ErrSyntax", Rows.laid_strconv_ErrSyntax)] W) : Lib3 W := by
  have e : (Rows.laid_internal_strconv_uint64pow10 : DataW Unit) = Lib.tabData .u64 Lib.pow10Tab := by kernel_rfl
  have h1 := h
  rw [e] at h1
  have ht := Lib.tabIs_of_head (g := 3) gT (by kernel_rfl : (Tryz.prog.globals[3]?).map (·.type) = some 205) Tryz.underlying205 Tryz.underlying187 (by kernel_rfl) (by kernel_rfl) h1
  obtain ⟨a0, s0, hv0, -, -, -⟩ := laid_sentinel h.tail gR (by kernel_rfl : (Tryz.prog.globals[2]?).map (·.type) = some 180) Tryz.underlying180 rowOf Tryz.underlying211 Tryz.underlying213 rfl rfl Tryz.underlying9 (by kernel_rfl) (by kernel_rfl)
  obtain ⟨a1, s1, hv1, -, -, -⟩ := laid_sentinel h.tail.tail gS (by kernel_rfl : (Tryz.prog.globals[1]?).map (·.type) = some 180) Tryz.underlying180 rowOf Tryz.underlying211 Tryz.underlying213 rfl rfl Tryz.underlying9 (by kernel_rfl) (by kernel_rfl)
  refine ⟨⟨_, _, hv1⟩, ⟨_, _, hv0⟩, ht, lt_of_var gS hv1 rfl, lt_of_var gR hv0 rfl, ?_⟩
  exact Lib.lt_of_cell (ht.cell gT 0 (by decide))
end Go.Proofs.YtfnnoehpahdgcaaGreatDoor.Rp
namespace Go.Proofs.YtfnnoehpahdgcaaGreatDoor.Cl
set_option linter.unusedVariables false
open Go.RowKit Wd Rp Kp
theorem tx_inj {a b : Tk} (h : tx a = tx b) : a = b := by rw [← tx_data a, ← tx_data b, h]
theorem tx_ne {a b : Tk} (h : ¬ a = b) : ((tx a).toList == (tx b).toList) = false := lists_ne fun e => h (tx_inj e)
theorem tx_beq (a : Tk) : ((tx a).toList == (tx a).toList) = true := by simp
set_option maxHeartbeats 4000000 in
set_option maxRecDepth 100000 in
theorem l1At_any (w : World) (a : Option Addr) (cap : Nat) (l : List Tk) (n : Nat) (s : Tk) (hn : l.length = n) (hv : V1 w a cap (txL l)) (hl : n ≤ 4194304) :
    Calls Tryz.prog 102 #[.slice a n cap, .string (tx s)] w fun e w' => e = .returned (.int .i64 (atI l s)) ∧ w = w' := by
  have HV := Lib.hid hv; clear hv
  have HN := Lib.hid hn; clear hn
  go_enter Tryz.func102, Tryz.ntmps102
  go_wp2_with fail
  go_loop [5] (fun i => ∃ k : Nat, k ≤ n ∧ i = .int .i64 k ∧ ∀ (j : Nat) (y : Tk), j < k → l[j]? = some y → y ≠ s) (fun i => n - (intOf i).toNat)
  case atStart => exact ⟨0, Nat.zero_le _, rfl, fun j y hj => by omega⟩
  case round =>
    obtain ⟨k, hk, rfl, hno⟩ := hrel
    have HO := Lib.hid hno; clear hno
    by_cases hlt : k < n
    · obtain ⟨c, hc⟩ : ∃ c, l[k]? = some c := ⟨l[k]'(by have := HN.out; omega), List.getElem?_eq_getElem _⟩
      obtain ⟨g, o, rfl, hg, c0⟩ := HV.out.tx hc
      have HC := Lib.hid hc; clear hc hg
      by_cases he : c = s
      · subst he
        have HA := Lib.hid (show atI l c = (k : Int) by unfold atI; rw [at?_at HC.out HO.out])
        have q1 := tx_beq c
        generalize tx c = x at *
        go_wp2_with fail
        go_ret
        exact ⟨by rw [HA.out]; rfl, rfl⟩
      · have q1 := tx_ne he
        generalize tx c = x at *
        generalize tx s = y at *
        go_wp2_with fail
        go_round
        case rel =>
          refine ⟨k + 1, by omega, by go_num, fun j z hj hz => ?_⟩
          by_cases e : j = k
          · subst e
            rw [HC.out] at hz; cases hz; exact he
          · exact HO.out j z (by omega) hz
        case measure => simp [intOf]; omega
    · obtain rfl : k = n := by omega
      have HA := Lib.hid (show atI l s = -1 by unfold atI; rw [at?_none fun j y hy => HO.out j y (by have := (List.getElem?_eq_some_iff.1 hy).1; have := HN.out; omega) hy])
      go_wp2_with fail
      go_ret
      exact ⟨by rw [HA.out]; rfl, rfl⟩
theorem litT {B : Nat} (w : World) (l : List Tk) (hl : l.length ≤ 1000) : V1 (w.alloc (.cells (l.map tv).toArray 9)) (some ⟨w.heap.size, 0, none⟩) l.length (txL l) := by
  have h := O1.lit (T := 9) (Nat.zero_le w.heap.size) (l.map tv).toArray (by unfold maxLen; simp; omega)
  rw [show (l.map tv).toArray.size = l.length by simp] at h
  exact h.vw
set_option maxRecDepth 100000 in
theorem l8Ops_any (w : World) : Calls Tryz.prog 103 #[] w fun e w' => e = .returned (.slice (some ⟨w.heap.size, 0, none⟩) 7 7) ∧ w' = w.alloc (.cells #[.string ⟨#[43]⟩, .string ⟨#[45]⟩, .string ⟨#[42]⟩, .string ⟨#[47]⟩, .string ⟨#[60]⟩, .string ⟨#[61]⟩, .string ⟨#[38]⟩] 9) := by
  go_enter Tryz.func103, Tryz.ntmps103
  go_wp2_with fail
  go_ret
  exact ⟨rfl, rfl⟩
set_option maxRecDepth 100000 in
theorem l8Op_any (w : World) (s : Tk) : Calls Tryz.prog 89 #[.string (tx s)] w fun e w' => e = .returned (.int .i64 (opN s)) ∧ Below w.heap.size w w' := by
  have HB := Lib.hid (bel1 w)
  have HA := Lib.hid (l1At_any (w.alloc (.cells #[.string ⟨#[43]⟩, .string ⟨#[45]⟩, .string ⟨#[42]⟩, .string ⟨#[47]⟩, .string ⟨#[60]⟩, .string ⟨#[61]⟩, .string ⟨#[38]⟩] 9)) (some ⟨w.heap.size, 0, none⟩) 7 opsL 7 s rfl (litT (B := 0) w opsL (by decide)) (by decide))
  have HI := Lib.hid (opN_I s)
  have HL := Lib.hid (opN_le s)
  have hlo : 0 ≤ atI opsL s + 1 := by rw [HI.out]; omega
  have hhi : atI opsL s + 1 ≤ 7 := by rw [HI.out]; have := HL.out; omega
  generalize atI opsL s = m at *
  generalize tx s = x at *
  go_enter Tryz.func89, Tryz.ntmps89
  go_wp2_with fail
  refine (l8Ops_any _).mono ?_; rintro e w1 ⟨rfl, rfl⟩
  go_wp2_with fail
  refine HA.out.mono ?_; rintro e w1 ⟨rfl, rfl⟩
  go_wp2_with fail
  go_ret
  exact ⟨by rw [← HI.out]; rfl, HB.out _⟩
set_option maxRecDepth 100000 in
theorem l8Given_any (w : World) (s : Tk) : Calls Tryz.prog 90 #[.string (tx s)] w fun e w' => e = .returned (.int .i64 ((gvN s : Int) - 1)) ∧ Below w.heap.size w w' := by
  have HB := Lib.hid (bel1 w)
  have HA := Lib.hid (l1At_any (w.alloc (.cells #[.string ⟨#[64, 48]⟩, .string ⟨#[64, 49]⟩, .string ⟨#[64, 50]⟩] 9)) (some ⟨w.heap.size, 0, none⟩) 3 gvsL 3 s rfl (litT (B := 0) w gvsL (by decide)) (by decide))
  have HI := Lib.hid (show atI gvsL s = (gvN s : Int) - 1 by have := gvN_I s; omega)
  generalize atI gvsL s = m at *
  generalize tx s = x at *
  go_enter Tryz.func90, Tryz.ntmps90
  go_wp2_with fail
  refine HA.out.mono ?_; rintro e w1 ⟨rfl, rfl⟩
  go_wp2_with fail
  go_ret
  exact ⟨by rw [← HI.out]; rfl, HB.out _⟩
theorem rdS_any (s : Tk) (w : World) (hs : s.length ≤ 9223372036854775807) : Calls Tryz.prog 88 #[.string (tx s)] w fun e w' => e = .returned (.tuple #[.int .i64 (rdV s), .bool (rdB s)]) ∧ w = w' := by
  have h := specRead_any (tx s) w (by rw [tx_size]; exact hs)
  unfold RdPost at h
  rw [tx_data] at h; exact h
theorem rdI_any (s : Tk) (w : World) (hL : Lib3 w) (hs : s.length ≤ 281474976710656) : Calls Tryz.prog 161 #[.string (tx s)] w fun e w' => e = .returned (.tuple #[.int .i64 (rdV s), .bool (rdB s)]) ∧ Below w.heap.size w w' := by
  have h := implRead_any (tx s) w hL (by rw [tx_size]; exact hs)
  unfold RdGrown at h
  rw [tx_data] at h; exact h
theorem nmS_any (s : Tk) (w : World) (hs : s.length ≤ 9223372036854775806) : Calls Tryz.prog 56 #[.string (tx s)] w fun e w' => e = .returned (.bool (nmB s)) ∧ w = w' := by
  have h := specName_any (tx s) w (by rw [tx_size]; exact hs)
  unfold NmPost at h
  rw [tx_data] at h; exact h
theorem nmI_any (s : Tk) (w : World) : Calls Tryz.prog 107 #[.string (tx s)] w fun e w' => e = .returned (.bool (nmB s)) ∧ w = w' := by
  have h := implName_any (tx s) w
  unfold NmPost at h
  rw [tx_data] at h; exact h
theorem ta_op (v : Value) (w : World) : (Instr.typeAssert (.iface 150 v) 142 150 true).run Tryz.prog w = .ok (.tuple #[v, .bool true]) w := by kernel_rfl
theorem ta_op_gv (v : Value) (w : World) : (Instr.typeAssert (.iface 158 v) 142 150 true).run Tryz.prog w = .ok (.tuple #[.int .i64 0, .bool false]) w := by kernel_rfl
theorem ta_op_nm (v : Value) (w : World) : (Instr.typeAssert (.iface 159 v) 142 150 true).run Tryz.prog w = .ok (.tuple #[.int .i64 0, .bool false]) w := by kernel_rfl
theorem ta_op_wd (v : Value) (w : World) : (Instr.typeAssert (.iface 134 v) 142 150 true).run Tryz.prog w = .ok (.tuple #[.int .i64 0, .bool false]) w := by kernel_rfl
theorem nn_if (T : TypeId) (v : Value) (w : World) : (binOp BinOp.eql 142 (.iface T v) .nilIface).run Tryz.prog w = .ok (.bool false) w := by kernel_rfl
theorem nn_nil (w : World) : (binOp BinOp.eql 142 .nilIface .nilIface).run Tryz.prog w = .ok (.bool true) w := by kernel_rfl
end Go.Proofs.YtfnnoehpahdgcaaGreatDoor.Cl
namespace Go.Proofs.YtfnnoehpahdgcaaGreatDoor.Cl
set_option linter.unusedVariables false
open Go.RowKit Wd Rp Kp
theorem en_step_op {l : List Tk} {k m : Nat} {c : Tk} (hc : l[k]? = some c) (h : isO c = true) : en (l.drop k) (m + 1) = (en (l.drop (k + 1)) (m + 2)).map (· + 1) := by
  rw [List.drop_eq_getElem_cons (List.getElem?_eq_some_iff.1 hc).1, (List.getElem?_eq_some_iff.1 hc).2, en_op h]
theorem en_step_leaf {l : List Tk} {k m : Nat} {c : Tk} (hc : l[k]? = some c) (h : isL c = true) : en (l.drop k) (m + 1) = (en (l.drop (k + 1)) m).map (· + 1) := by
  rw [List.drop_eq_getElem_cons (List.getElem?_eq_some_iff.1 hc).1, (List.getElem?_eq_some_iff.1 hc).2, en_leaf h]
theorem en_step_bad {l : List Tk} {k m : Nat} {c : Tk} (hc : l[k]? = some c) (h : isO c = false) (h2 : isL c = false) : en (l.drop k) (m + 1) = none := by
  rw [List.drop_eq_getElem_cons (List.getElem?_eq_some_iff.1 hc).1, (List.getElem?_eq_some_iff.1 hc).2, en_bad h h2]
def Opn (l : List Tk) (k j m : Nat) : Prop := k ≤ j ∧ m ≤ j - k + 1 ∧ en (l.drop k) 1 = (en (l.drop j) m).map (· + (j - k))
theorem Opn.start (l : List Tk) (k : Nat) : Opn l k k 1 := ⟨Nat.le_refl _, by omega, by simp⟩
theorem Opn.op {l : List Tk} {k j m : Nat} {c : Tk} (h : Opn l k j (m + 1)) (hc : l[j]? = some c) (ho : isO c = true) : Opn l k (j + 1) (m + 2) := by
  obtain ⟨h1, h2, h3⟩ := h
  refine ⟨by omega, by omega, ?_⟩
  rw [h3, en_step_op hc ho, Option.map_map]
  congr 1; funext x; show x + 1 + (j - k) = x + (j + 1 - k); omega
theorem Opn.leaf {l : List Tk} {k j m : Nat} {c : Tk} (h : Opn l k j (m + 1)) (hc : l[j]? = some c) (ho : isL c = true) : Opn l k (j + 1) m := by
  obtain ⟨h1, h2, h3⟩ := h
  refine ⟨by omega, by omega, ?_⟩
  rw [h3, en_step_leaf hc ho, Option.map_map]
  congr 1; funext x; show x + 1 + (j - k) = x + (j + 1 - k); omega
theorem Opn.bad {l : List Tk} {k j m : Nat} {c : Tk} (h : Opn l k j (m + 1)) (hc : l[j]? = some c) (h1 : isO c = false) (h2 : isL c = false) : edV l (k : Int) = -1 := by
  unfold edV; rw [enA_nat, h.2.2, en_step_bad hc h1 h2]; rfl
theorem Opn.out {l : List Tk} {k j m : Nat} (h : Opn l k j (m + 1)) (hj : l.length ≤ j) : edV l (k : Int) = -1 := by
  unfold edV; rw [enA_nat, h.2.2, List.drop_eq_nil_of_le hj, en_nil]; rfl
theorem Opn.done {l : List Tk} {k j : Nat} (h : Opn l k j 0) : edV l (k : Int) = (j : Int) := by
  unfold edV; rw [enA_nat, h.2.2, en_zero]
  have := h.1
  show (k : Int) + ((0 + (j - k) : Nat) : Int) = j
  omega
theorem isL_of {c : Tk} (ho : isO c = false) (h : rdB c = true ∨ gvN c ≠ 0 ∨ nmB c = true) : isL c = true := by
  unfold isO at ho; unfold isL
  have e : opN c = 0 := by simpa using ho
  rcases h with h | h | h <;> simp [e, h]
theorem isL_not {c : Tk} (h1 : rdB c = false) (h2 : gvN c = 0) (h3 : nmB c = false) : isL c = false := by unfold isL; simp [h1, h2, h3]
theorem edV_neg {l : List Tk} {i : Int} (h : i < 0) : edV l i = -1 := by unfold edV; rw [enA_neg h]
theorem isO_ne {s : Tk} (h : isO s = true) : opN s ≠ 0 := by unfold isO at h; simpa using h
theorem isL_0 {s : Tk} (h : isL s = true) : opN s = 0 := by
  have := isL_O h
  unfold isO at this; simpa using this
theorem rd_word {s : Tk} (h : rdB s = true) : isW (rdV s) = true := by
  unfold rdB at h; unfold rdV
  cases e : rd s with
  | none => rw [e] at h; cases h
  | some v => exact ((rd_iff s v).1 e).1
theorem wrap32_w {n : Int} (h : isW n = true) : wrap32 n = n := by
  obtain ⟨h1, h2⟩ := (isW_iff n).1 h
  unfold wrap32; omega
theorem tx_neL {a b : Tk} (h : ¬ a = b) : ((tx a).toList == b) = false := by rw [Lib.toList_data, tx_data, beq_eq_false_iff_ne]; exact h
theorem lib3_below {w w' : World} (h : Lib3 w) (hb : Below w.heap.size w w') : Lib3 w' := h.carry hb ⟨h.2.2.2.1, h.2.2.2.2.1, h.2.2.2.2.2⟩
set_option maxHeartbeats 4000000 in
set_option maxRecDepth 100000 in
theorem l8End_any (w : World) (a : Option Addr) (cap : Nat) (l : List Tk) (n : Nat) (i : Int) (hi : I64 i) (hn : l.length = n) (hv : V1 w a cap (txL l)) (hl : n ≤ 4194304) (hm : ∀ s ∈ l, s.length ≤ 4194304) :
    Calls Tryz.prog 59 #[.slice a n cap, .int .i64 i] w fun e w' => e = .returned (.int .i64 (edV l i)) ∧ Below w.heap.size w w' := by
  have HV := Lib.hid hv; clear hv
  have HN := Lib.hid hn; clear hn
  have HM := Lib.hid hm; clear hm
  by_cases hneg : i < 0
  · have HE := Lib.hid (edV_neg (l := l) hneg)
    go_enter Tryz.func59, Tryz.ntmps59
    go_wp2_with fail
    go_loopw [1, 5] (fun q o wr => q = .int .i64 i ∧ o = .int .i64 1 ∧ wr = w) (fun _ _ _ => 0)
    case atStart => exact ⟨rfl, rfl, rfl⟩
    case round =>
      obtain ⟨rfl, rfl, rfl⟩ := hrel
      go_wp2_with fail
      go_ret
      exact ⟨by rw [HE.out]; rfl, Below.refl _ _⟩
  obtain ⟨k, rfl⟩ : ∃ k : Nat, i = k := ⟨i.toNat, by omega⟩
  obtain ⟨hi0, hi1⟩ := hi
  go_enter Tryz.func59, Tryz.ntmps59
  go_wp2_with fail
  go_loopw [1, 5] (fun q o wr => ∃ j m : Nat, q = .int .i64 j ∧ o = .int .i64 m ∧ (j ≤ n ∨ j = k) ∧ Opn l k j m ∧ Below w.heap.size w wr) (fun q _ _ => n - intV q)
  case atStart => exact ⟨k, 1, rfl, rfl, Or.inr rfl, Opn.start l k, Below.refl _ _⟩
  case round =>
    obtain ⟨j, m, rfl, rfl, hj, hop, hbel⟩ := hrel
    have HB := Lib.hid hbel; clear hbel
    have HO := Lib.hid hop
    obtain ⟨hkj, hmj, -⟩ := hop
    have hj2 : j ≤ 9223372036854775807 := by omega
    cases m with
    | zero =>
      have HE := Lib.hid HO.out.done
      go_wp2_with fail
      go_ret
      exact ⟨by rw [HE.out]; rfl, HB.out⟩
    | succ m =>
      have p0 : (0 : Int) < ((m + 1 : Nat) : Int) := by omega
      have p1 : ¬ (j : Int) < 0 := by omega
      have p1d : decide ((j : Int) < 0) = false := by simp
      by_cases hlt : j < n
      · have p2 : ¬ (n : Int) ≤ (j : Int) := by omega
        have p2d : decide ((n : Int) ≤ (j : Int)) = false := by simpa using p2
        obtain ⟨c, hc⟩ : ∃ c, l[j]? = some c := ⟨l[j]'(by have := HN.out; omega), List.getElem?_eq_getElem _⟩
        obtain ⟨g, o, rfl, hg, g0⟩ := HV.out.tx hc
        have c0 : wr.cell? ⟨g, o + j, none⟩ = some (.string (tx c)) := (World.cell?_of_block (w := w) (HB.out.block g hg)).trans g0
        have HC := Lib.hid hc
        have hcl : c.length ≤ 4194304 := HM.out c (List.mem_of_getElem? hc)
        have HR := Lib.hid (fun w => rdS_any c w (by omega))
        have HP := Lib.hid (fun w => l8Op_any w c)
        have HG := Lib.hid (fun w => l8Given_any w c)
        have HS := Lib.hid (fun w => nmS_any c w (by omega))
        have HGL := Lib.hid (gvN_le c)
        have HPL := Lib.hid (opN_le c)
        clear hc hg g0
        by_cases ho : opN c = 0
        · have HX := Lib.hid (show isO c = false by unfold isO; simp [ho])
          rw [ho] at HP
          have HLF := Lib.hid (fun h => (HO.out.leaf HC.out (isL_of HX.out h)))
          have HBD := Lib.hid (fun h1 h2 h3 => (HO.out.bad HC.out HX.out (isL_not h1 h2 h3)))
          clear ho
          cases hr : rdB c
          · rw [hr] at HR HBD
            by_cases hgv : gvN c = 0
            · rw [hgv] at HG HBD
              cases hnm : nmB c
              · rw [hnm] at HS HBD
                have HE := Lib.hid (HBD.out rfl rfl rfl)
                clear HBD HLF HX hr hgv hnm
                generalize rdV c = rv at *
                generalize tx c = x at *
                go_wp2_with fail
                refine (HR.out _).mono ?_; rintro e w1 ⟨rfl, rfl⟩
                go_wp2_with fail
                refine (HP.out _).mono ?_; rintro e w2 ⟨rfl, b2⟩
                have B2 := Lib.hid (bel_tr HB.out b2 (Nat.le_refl _)); clear b2
                go_wp2_with fail
                refine (HG.out _).mono ?_; rintro e w3 ⟨rfl, b3⟩
                have B3 := Lib.hid (bel_tr B2.out b3 (Nat.le_refl _)); clear b3
                go_wp2_with fail
                refine (HS.out _).mono ?_; rintro e w4 ⟨rfl, rfl⟩
                go_wp2_with fail
                go_ret
                exact ⟨by rw [HE.out]; rfl, B3.out⟩
              · rw [hnm] at HS
                have HN2 := Lib.hid (HLF.out (Or.inr (Or.inr hnm)))
                clear HBD HLF HX hr hgv hnm
                generalize rdV c = rv at *
                generalize tx c = x at *
                go_wp2_with fail
                refine (HR.out _).mono ?_; rintro e w1 ⟨rfl, rfl⟩
                go_wp2_with fail
                refine (HP.out _).mono ?_; rintro e w2 ⟨rfl, b2⟩
                have B2 := Lib.hid (bel_tr HB.out b2 (Nat.le_refl _)); clear b2
                go_wp2_with fail
                refine (HG.out _).mono ?_; rintro e w3 ⟨rfl, b3⟩
                have B3 := Lib.hid (bel_tr B2.out b3 (Nat.le_refl _)); clear b3
                go_wp2_with fail
                refine (HS.out _).mono ?_; rintro e w4 ⟨rfl, rfl⟩
                go_wp2_with fail
                go_roundw
                case rel => exact ⟨j + 1, m, by go_num, by go_num, Or.inl (by omega), HN2.out, B3.out⟩
                case measure => simp [intV]; omega
            · have HN2 := Lib.hid (HLF.out (Or.inr (Or.inl hgv)))
              have p3 : (0 : Int) ≤ (gvN c : Int) - 1 := by omega
              have p3d : decide ((0 : Int) ≤ (gvN c : Int) - 1) = true := by simpa using p3
              clear HBD HLF HX hr hgv
              generalize (gvN c : Int) - 1 = y at *
              generalize rdV c = rv at *
              generalize tx c = x at *
              go_wp2_with fail
              refine (HR.out _).mono ?_; rintro e w1 ⟨rfl, rfl⟩
              go_wp2_with fail
              refine (HP.out _).mono ?_; rintro e w2 ⟨rfl, b2⟩
              have B2 := Lib.hid (bel_tr HB.out b2 (Nat.le_refl _)); clear b2
              go_wp2_with fail
              refine (HG.out _).mono ?_; rintro e w3 ⟨rfl, b3⟩
              have B3 := Lib.hid (bel_tr B2.out b3 (Nat.le_refl _)); clear b3
              go_wp2_with fail
              go_roundw
              case rel => exact ⟨j + 1, m, by go_num, by go_num, Or.inl (by omega), HN2.out, B3.out⟩
              case measure => simp [intV]; omega
          · rw [hr] at HR
            have HN2 := Lib.hid (HLF.out (Or.inl hr))
            clear HBD HLF HX hr
            generalize rdV c = rv at *
            generalize tx c = x at *
            go_wp2_with fail
            refine (HR.out _).mono ?_; rintro e w1 ⟨rfl, rfl⟩
            go_wp2_with fail
            refine (HP.out _).mono ?_; rintro e w2 ⟨rfl, b2⟩
            have B2 := Lib.hid (bel_tr HB.out b2 (Nat.le_refl _)); clear b2
            go_wp2_with fail
            go_roundw
            case rel => exact ⟨j + 1, m, by go_num, by go_num, Or.inl (by omega), HN2.out, B2.out⟩
            case measure => simp [intV]; omega
        · have HN2 := Lib.hid (HO.out.op HC.out (show isO c = true by unfold isO; simp [ho]))
          have p4 : (0 : Int) < (opN c : Int) := by omega
          have p5 : (opN c : Int) ≤ 7 := by have := HPL.out; omega
          clear HPL HGL HC ho
          generalize (opN c : Int) = y at *
          generalize rdB c = rb at *
          generalize rdV c = rv at *
          generalize tx c = x at *
          go_wp2_with fail
          refine (HR.out _).mono ?_; rintro e w1 ⟨rfl, rfl⟩
          go_wp2_with fail
          refine (HP.out _).mono ?_; rintro e w2 ⟨rfl, b2⟩
          have B2 := Lib.hid (bel_tr HB.out b2 (Nat.le_refl _)); clear b2
          go_wp2_with fail
          go_roundw
          case rel => exact ⟨j + 1, m + 2, by go_num, by go_num, Or.inl (by omega), HN2.out, B2.out⟩
          case measure => simp [intV]; omega
      · have p2 : (n : Int) ≤ (j : Int) := by omega
        have p2d : decide ((n : Int) ≤ (j : Int)) = true := by simpa using p2
        have HE := Lib.hid (HO.out.out (by have := HN.out; omega))
        go_wp2_with fail
        go_ret
        exact ⟨by rw [HE.out]; rfl, HB.out⟩
set_option maxHeartbeats 4000000 in
set_option maxRecDepth 100000 in
theorem operatorOf_any (s : Tk) (w : World) : Calls Tryz.prog 160 #[.string (tx s)] w fun e w' => e = .returned (.int .i64 (opN s)) ∧ w = w' := by
  by_cases h0 : s = [43]
  · subst h0
    show Calls Tryz.prog 160 #[.string ⟨#[43]⟩] w _
    go_enter Tryz.func160, Tryz.ntmps160
    go_wp2_with fail
    go_ret
    exact ⟨rfl, rfl⟩
  by_cases h1 : s = [45]
  · subst h1
    show Calls Tryz.prog 160 #[.string ⟨#[45]⟩] w _
    go_enter Tryz.func160, Tryz.ntmps160
    go_wp2_with fail
    go_ret
    exact ⟨rfl, rfl⟩
  by_cases h2 : s = [42]
  · subst h2
    show Calls Tryz.prog 160 #[.string ⟨#[42]⟩] w _
    go_enter Tryz.func160, Tryz.ntmps160
    go_wp2_with fail
    go_ret
    exact ⟨rfl, rfl⟩
  by_cases h3 : s = [47]
  · subst h3
    show Calls Tryz.prog 160 #[.string ⟨#[47]⟩] w _
    go_enter Tryz.func160, Tryz.ntmps160
    go_wp2_with fail
    go_ret
    exact ⟨rfl, rfl⟩
  by_cases h4 : s = [60]
  · subst h4
    show Calls Tryz.prog 160 #[.string ⟨#[60]⟩] w _
    go_enter Tryz.func160, Tryz.ntmps160
    go_wp2_with fail
    go_ret
    exact ⟨rfl, rfl⟩
  by_cases h5 : s = [61]
  · subst h5
    show Calls Tryz.prog 160 #[.string ⟨#[61]⟩] w _
    go_enter Tryz.func160, Tryz.ntmps160
    go_wp2_with fail
    go_ret
    exact ⟨rfl, rfl⟩
  by_cases h6 : s = [38]
  · subst h6
    show Calls Tryz.prog 160 #[.string ⟨#[38]⟩] w _
    go_enter Tryz.func160, Tryz.ntmps160
    go_wp2_with fail
    go_ret
    exact ⟨rfl, rfl⟩
  have q0 : ((tx s).toList == [43]) = false := tx_neL h0
  have q1 : ((tx s).toList == [45]) = false := tx_neL h1
  have q2 : ((tx s).toList == [42]) = false := tx_neL h2
  have q3 : ((tx s).toList == [47]) = false := tx_neL h3
  have q4 : ((tx s).toList == [60]) = false := tx_neL h4
  have q5 : ((tx s).toList == [61]) = false := tx_neL h5
  have q6 : ((tx s).toList == [38]) = false := tx_neL h6
  have HE := Lib.hid (show opN s = 0 by unfold opN opsL; simp only [at?]; rw [if_neg (fun e => h0 e.symm), if_neg (fun e => h1 e.symm), if_neg (fun e => h2 e.symm), if_neg (fun e => h3 e.symm), if_neg (fun e => h4 e.symm), if_neg (fun e => h5 e.symm), if_neg (fun e => h6 e.symm)]; rfl)
  clear h0 h1 h2 h3 h4 h5 h6
  generalize tx s = x at *
  go_enter Tryz.func160, Tryz.ntmps160
  go_wp2_with fail
  go_ret
  exact ⟨by rw [HE.out]; rfl, rfl⟩
def sgV (s : Tk) : Value := if gvN s ≠ 0 then .iface 158 (.int .i64 ((gvN s : Int) - 1)) else if opN s ≠ 0 then .iface 150 (.int .i64 (opN s)) else if nmB s then .iface 159 (.string (tx s)) else if rdB s then .iface 134 (.int .i32 (rdV s)) else .nilIface
theorem sgV_op {s : Tk} (h : isO s = true) : sgV s = .iface 150 (.int .i64 (opN s)) := by
  have h1 : opN s ≠ 0 := by unfold isO at h; simpa using h
  have h2 : gvN s = 0 := by
    apply Decidable.byContradiction; intro h2
    exact h1 (gv_op h2)
  unfold sgV; rw [if_neg (by omega), if_pos h1]
theorem sgV_bad {s : Tk} (h : isO s = false) (h2 : isL s = false) : sgV s = .nilIface := by
  have h1 : opN s = 0 := by unfold isO at h; simpa using h
  unfold isL at h2
  simp only [h1, beq_self_eq_true, Bool.true_and, Bool.or_eq_false_iff] at h2
  obtain ⟨h3, h4, h5⟩ := h2
  unfold sgV; rw [if_neg (by simpa using h3), if_neg (by omega), h4, h5]; rfl
theorem sgV_leaf {s : Tk} (h : isL s = true) : ∃ T x, sgV s = .iface T x ∧ ∀ w, (Instr.typeAssert (.iface T x) 142 150 true).run Tryz.prog w = .ok (.tuple #[.int .i64 0, .bool false]) w := by
  unfold isL at h
  simp only [Bool.and_eq_true, beq_iff_eq, Bool.or_eq_true] at h
  obtain ⟨h1, h2⟩ := h
  unfold sgV
  by_cases hg : gvN s ≠ 0
  · rw [if_pos hg]; exact ⟨_, _, rfl, ta_op_gv _⟩
  rw [if_neg hg, if_neg (by omega)]
  cases hn : nmB s
  · cases hr : rdB s
    · rw [hn, hr] at h2; simp at h2; exact absurd h2 hg
    · exact ⟨_, _, rfl, ta_op_wd _⟩
  · exact ⟨_, _, rfl, ta_op_nm _⟩
set_option maxHeartbeats 4000000 in
set_option maxRecDepth 100000 in
theorem signOf_any (s : Tk) (w : World) (hL : Lib3 w) (hs : s.length ≤ 4194304) : Calls Tryz.prog 150 #[.string (tx s)] w fun e w' => e = .returned (sgV s) ∧ Below w.heap.size w w' := by
  by_cases h0 : s = [64, 48]
  · subst h0
    show Calls Tryz.prog 150 #[.string ⟨#[64, 48]⟩] w _
    go_enter Tryz.func150, Tryz.ntmps150
    go_wp2_with fail
    go_ret
    exact ⟨rfl, Below.refl _ _⟩
  by_cases h1 : s = [64, 49]
  · subst h1
    show Calls Tryz.prog 150 #[.string ⟨#[64, 49]⟩] w _
    go_enter Tryz.func150, Tryz.ntmps150
    go_wp2_with fail
    go_ret
    exact ⟨rfl, Below.refl _ _⟩
  by_cases h2 : s = [64, 50]
  · subst h2
    show Calls Tryz.prog 150 #[.string ⟨#[64, 50]⟩] w _
    go_enter Tryz.func150, Tryz.ntmps150
    go_wp2_with fail
    go_ret
    exact ⟨rfl, Below.refl _ _⟩
  have q0 : ((tx s).toList == [64, 48]) = false := tx_neL h0
  have q1 : ((tx s).toList == [64, 49]) = false := tx_neL h1
  have q2 : ((tx s).toList == [64, 50]) = false := tx_neL h2
  have HG := Lib.hid (show gvN s = 0 by unfold gvN gvsL; simp only [at?]; rw [if_neg (fun e => h0 e.symm), if_neg (fun e => h1 e.symm), if_neg (fun e => h2 e.symm)]; rfl)
  have HSG := Lib.hid (show sgV s = if opN s ≠ 0 then .iface 150 (.int .i64 (opN s)) else if nmB s then .iface 159 (.string (tx s)) else if rdB s then .iface 134 (.int .i32 (rdV s)) else .nilIface by unfold sgV; rw [HG.out]; rfl)
  have HO := Lib.hid (fun w => operatorOf_any s w)
  have HN := Lib.hid (fun w => nmI_any s w)
  have HR := Lib.hid (rdI_any s w hL (by omega))
  clear h0 h1 h2 hL
  generalize sgV s = y at *
  obtain ⟨o, ho⟩ : ∃ o, opN s = o := ⟨_, rfl⟩
  rw [ho] at HO HSG
  have ho7 : o ≤ 7 := by rw [← ho]; exact opN_le s
  clear ho
  by_cases h : o = 0
  · subst h
    cases hn : nmB s
    · rw [hn] at HN HSG
      cases hr : rdB s
      · rw [hr] at HR HSG
        have HE := Lib.hid (HSG.out.trans rfl); clear HSG hn hr
        
        generalize nmB s = nb at *
        generalize rdB s = rb at *
        generalize rdV s = rv at *
        generalize tx s = x at *
        go_enter Tryz.func150, Tryz.ntmps150
        go_wp2_with fail
        refine (HO.out _).mono ?_; rintro e w1 ⟨rfl, rfl⟩
        go_wp2_with fail
        refine (HN.out _).mono ?_; rintro e w2 ⟨rfl, rfl⟩
        go_wp2_with fail
        refine HR.out.mono ?_; rintro e w3 ⟨rfl, b3⟩
        have B3 := Lib.hid b3; clear b3
        go_wp2_with fail
        go_ret
        exact ⟨by rw [HE.out]; rfl, B3.out⟩
      · rw [hr] at HR HSG
        have HW := Lib.hid (wrap32_w (rd_word hr))
        have HE := Lib.hid (HSG.out.trans rfl); clear HSG hn hr
        
        generalize nmB s = nb at *
        generalize rdB s = rb at *
        generalize rdV s = rv at *
        generalize tx s = x at *
        go_enter Tryz.func150, Tryz.ntmps150
        go_wp2_with fail
        refine (HO.out _).mono ?_; rintro e w1 ⟨rfl, rfl⟩
        go_wp2_with fail
        refine (HN.out _).mono ?_; rintro e w2 ⟨rfl, rfl⟩
        go_wp2_with fail
        refine HR.out.mono ?_; rintro e w3 ⟨rfl, b3⟩
        have B3 := Lib.hid b3; clear b3
        go_wp2_with fail
        go_ret
        exact ⟨by rw [HE.out]; show Ending.returned (Value.iface 134 (.int .i32 (wrap32 rv))) = _; rw [HW.out]; rfl, B3.out⟩
    · rw [hn] at HN HSG
      have HE := Lib.hid (HSG.out.trans rfl); clear HSG hn HR
      
      generalize nmB s = nb at *
      generalize rdB s = rb at *
      generalize rdV s = rv at *
      generalize tx s = x at *
      go_enter Tryz.func150, Tryz.ntmps150
      go_wp2_with fail
      refine (HO.out _).mono ?_; rintro e w1 ⟨rfl, rfl⟩
      go_wp2_with fail
      refine (HN.out _).mono ?_; rintro e w2 ⟨rfl, rfl⟩
      go_wp2_with fail
      go_ret
      exact ⟨by rw [HE.out]; rfl, Below.refl _ _⟩
  · have HE := Lib.hid (HSG.out.trans (if_pos h)); clear HSG HR
    have q5 : (((o : Int) != 0)) = true := by simp; omega
    
    generalize nmB s = nb at *
    generalize rdB s = rb at *
    generalize rdV s = rv at *
    generalize tx s = x at *
    go_enter Tryz.func150, Tryz.ntmps150
    go_wp2_with fail
    refine (HO.out _).mono ?_; rintro e w1 ⟨rfl, rfl⟩
    go_wp2_with fail
    go_ret
    exact ⟨by rw [HE.out]; rfl, Below.refl _ _⟩
set_option maxHeartbeats 4000000 in
set_option maxRecDepth 100000 in
theorem implEnd_any (w : World) (a : Option Addr) (cap : Nat) (l : List Tk) (n : Nat) (i : Int) (hi : I64 i) (hn : l.length = n) (hv : V1 w a cap (txL l)) (hl : n ≤ 4194304) (hm : ∀ s ∈ l, s.length ≤ 4194304) (hL : Lib3 w) :
    Calls Tryz.prog 142 #[.slice a n cap, .int .i64 i] w fun e w' => e = .returned (.int .i64 (edV l i)) ∧ Below w.heap.size w w' := by
  have HV := Lib.hid hv; clear hv
  have HN := Lib.hid hn; clear hn
  have HM := Lib.hid hm; clear hm
  have HL := Lib.hid hL; clear hL
  by_cases hneg : i < 0
  · have HE := Lib.hid (edV_neg (l := l) hneg)
    go_enter Tryz.func142, Tryz.ntmps142
    go_wp2_with fail
    go_ret
    exact ⟨by rw [HE.out]; rfl, Below.refl _ _⟩
  obtain ⟨k, rfl⟩ : ∃ k : Nat, i = k := ⟨i.toNat, by omega⟩
  obtain ⟨hi0, hi1⟩ := hi
  go_enter Tryz.func142, Tryz.ntmps142
  go_wp2_with fail
  go_loopw [5, 6] (fun o q wr => ∃ j m : Nat, q = .int .i64 j ∧ o = .int .i64 (m + 1 : Nat) ∧ (j ≤ n ∨ j = k) ∧ Opn l k j (m + 1) ∧ Below w.heap.size w wr) (fun _ q _ => n - intV q)
  case atStart => exact ⟨k, 0, rfl, rfl, Or.inr rfl, Opn.start l k, Below.refl _ _⟩
  case round =>
    obtain ⟨j, m, rfl, rfl, hj, hop, hbel⟩ := hrel
    have HB := Lib.hid hbel; clear hbel
    have HO := Lib.hid hop
    obtain ⟨hkj, hmj, -⟩ := hop
    have hj2 : j ≤ 9223372036854775807 := by omega
    by_cases hlt : j < n
    · obtain ⟨c, hc⟩ : ∃ c, l[j]? = some c := ⟨l[j]'(by have := HN.out; omega), List.getElem?_eq_getElem _⟩
      obtain ⟨g, o, rfl, hg, g0⟩ := HV.out.tx hc
      have c0 : wr.cell? ⟨g, o + j, none⟩ = some (.string (tx c)) := (World.cell?_of_block (w := w) (HB.out.block g hg)).trans g0
      have HC := Lib.hid hc
      have hcl : c.length ≤ 4194304 := HM.out c (List.mem_of_getElem? hc)
      have HS := Lib.hid (signOf_any c wr (lib3_below HL.out HB.out) hcl)
      clear hc hg g0
      cases ho : isO c
      · cases hl2 : isL c
        · have HE := Lib.hid (HO.out.bad HC.out ho hl2)
          rw [sgV_bad ho hl2] at HS
          have nn := nn_nil
          clear HC HO ho hl2
          generalize tx c = x at *
          go_wp2_with fail
          refine HS.out.mono ?_; rintro e w1 ⟨rfl, b1⟩
          have B1 := Lib.hid (bel_tr HB.out b1 (Nat.le_refl _)); clear b1
          go_wp2_with fail
          go_ret
          exact ⟨by rw [HE.out]; rfl, B1.out⟩
        · obtain ⟨T, v, hsv, hta⟩ := sgV_leaf hl2
          rw [hsv] at HS
          have nn := nn_if T v
          have HN2 := Lib.hid (HO.out.leaf HC.out hl2)
          clear HC HO ho hl2 hsv
          generalize tx c = x at *
          cases m with
          | zero =>
            have HE := Lib.hid HN2.out.done
            go_wp2_with fail
            refine HS.out.mono ?_; rintro e w1 ⟨rfl, b1⟩
            have B1 := Lib.hid (bel_tr HB.out b1 (Nat.le_refl _)); clear b1
            go_wp2_with fail
            go_ret
            exact ⟨by rw [HE.out]; rfl, B1.out⟩
          | succ m =>
            have p6 : (((m + 1 + 1 : Nat) : Int) - 1 == 0) = false := by rw [beq_eq_false_iff_ne]; omega
            go_wp2_with fail
            refine HS.out.mono ?_; rintro e w1 ⟨rfl, b1⟩
            have B1 := Lib.hid (bel_tr HB.out b1 (Nat.le_refl _)); clear b1
            go_wp2_with fail
            go_roundw
            case rel => exact ⟨j + 1, m, by go_num, by go_num, Or.inl (by omega), HN2.out, B1.out⟩
            case measure => simp [intV]; omega
      · rw [sgV_op ho] at HS
        have nn := nn_if 150 (.int .i64 (opN c))
        have hta := ta_op (.int .i64 (opN c))
        have HN2 := Lib.hid (HO.out.op HC.out ho)
        clear HC HO ho
        generalize (opN c : Int) = y at *
        generalize tx c = x at *
        have p6 : (((m + 1 : Nat) : Int) + 1 == 0) = false := by rw [beq_eq_false_iff_ne]; omega
        go_wp2_with fail
        refine HS.out.mono ?_; rintro e w1 ⟨rfl, b1⟩
        have B1 := Lib.hid (bel_tr HB.out b1 (Nat.le_refl _)); clear b1
        go_wp2_with fail
        go_roundw
        case rel => exact ⟨j + 1, m + 1, by go_num, by go_num, Or.inl (by omega), HN2.out, B1.out⟩
        case measure => simp [intV]; omega
    · have HE := Lib.hid (HO.out.out (by have := HN.out; omega))
      go_wp2_with fail
      go_ret
      exact ⟨by rw [HE.out]; rfl, HB.out⟩
end Go.Proofs.YtfnnoehpahdgcaaGreatDoor.Cl
namespace Go.Proofs.YtfnnoehpahdgcaaGreatDoor.Ra
set_option linter.unusedVariables false
open Go.RowKit
structure Kept (F : Nat → Prop) (g : Option Nat) (w w' : World) : Prop where
  os : w'.os = w.os
  tape : w'.tape = w.tape
  output : w'.output = w.output
  size : w.heap.size ≤ w'.heap.size
  block : ∀ k, k < w.heap.size → ¬ F k → g ≠ some k → w'.heap[k]? = w.heap[k]?
  other : ∀ (k : Nat) (o : Obj), w.heap[k]? = some o → o.isCells = false → ¬ F k → w'.heap[k]? = some o
theorem Kept.refl (F : Nat → Prop) (g : Option Nat) (w : World) : Kept F g w w := ⟨rfl, rfl, rfl, Nat.le_refl _, fun _ _ _ _ => rfl, fun _ _ h _ _ => h⟩
theorem Kept.trans {F : Nat → Prop} {g : Option Nat} {x y z : World} (h : Kept F g x y) (k : Kept F g y z) : Kept F g x z :=
  ⟨k.os.trans h.os, k.tape.trans h.tape, k.output.trans h.output, Nat.le_trans h.size k.size, fun i hi hf hg => (k.block i (Nat.lt_of_lt_of_le hi h.size) hf hg).trans (h.block i hi hf hg), fun i o hi ho hf => k.other i o (h.other i o hi ho hf) ho hf⟩
theorem Kept.wider {F G : Nat → Prop} {g : Option Nat} {x y : World} (h : Kept F g x y) (hF : ∀ k, F k → G k) : Kept G g x y := ⟨h.os, h.tape, h.output, h.size, fun i hi hf hg => h.block i hi (fun e => hf (hF i e)) hg, fun i o hi ho hf => h.other i o hi ho (fun e => hf (hF i e))⟩
theorem Kept.of_below {F : Nat → Prop} {g : Option Nat} {x y : World} (h : Below x.heap.size x y) : Kept F g x y := ⟨h.os, h.tape, h.output, h.size, fun i hi _ _ => h.block i hi, fun i o hi _ _ => (h.block i (Array.getElem?_eq_some_iff.1 hi).1).trans hi⟩
theorem Kept.of_grown {F : Nat → Prop} {g : Option Nat} {x y : World} {row : Option Nat} (h : x.grownBy y row) (hr : ∀ k, row = some k → F k ∨ (g = some k ∧ ∀ o, x.heap[k]? = some o → o.isCells = true)) : Kept F g x y :=
  ⟨h.os, h.tape, h.output, h.size, fun i hi hf hg => h.block i hi (fun e => (hr i e.symm).elim hf (fun q => hg q.1)), fun i o hi ho hf => (h.block i (Array.getElem?_eq_some_iff.1 hi).1 (fun e => (hr i e.symm).elim hf (fun q => by rw [q.2 o hi] at ho; cases ho))).trans hi⟩
theorem Kept.keeps {F : Nat → Prop} {g : Option Nat} {x y : World} {B : Nat} (h : Kept F g x y) (hF : ∀ k, F k → k < B) : KeepsFrom B x y := ⟨h.size, fun k o hk ho hc => h.other k o ho hc (fun e => by have := hF k e; omega)⟩
theorem Kept.below {F : Nat → Prop} {g : Option Nat} {x y : World} {B : Nat} (h : Kept F g x y) (hB : B ≤ x.heap.size) (hF : ∀ k, F k → B ≤ k) (hg : ∀ k, g = some k → B ≤ k) : Below B x y :=
  ⟨h.os, h.tape, h.output, h.size, fun i hi => h.block i (by omega) (fun e => by have := hF i e; omega) (fun e => by have := hg i e; omega)⟩
theorem Kept.set {F : Nat → Prop} {g : Option Nat} {w : World} {p : Addr} (h : F p.block) (v : Value) : Kept F g w (w.setCell p v) :=
  ⟨rfl, rfl, rfl, by rw [World.size_setCell]; exact Nat.le_refl _, fun k _ hf _ => Below.heap_setCell _ _ _ k (fun e => hf (by rw [e]; exact h)), fun k o hk _ hf => (Below.heap_setCell _ _ _ k (fun e => hf (by rw [e]; exact h))).trans hk⟩
def Newer (n m : Nat) (g g' : Option Nat) : Prop := g' = g ∨ ∃ k, g' = some k ∧ n ≤ k ∧ k < m
def Hands (P : Program) (f : Nat) (lb : Array Value) (F : Nat → Prop) (xs : List Value) (w : World) : Prop :=
  ∀ (l : Nat) (J : List Value × Option Nat → World → Prop) (Jx : List Value → World → Prop) (W : World), Below w.heap.size w W → w.heap.size ≤ l → l < W.heap.size → (∀ k, F k → k < l) → OwnFrom W.heap.size J → OwnFrom W.heap.size Jx →
    (∀ pre x, (pre ++ [x]) <+: xs → ∀ g W1 m, J (pre, g) W1 → YieldAt Fence.wide m P l #[x] W1 fun e W' =>
      (e = .returned (.bool true) ∧ ∃ g', J (pre ++ [x], g') W' ∧ Newer W1.heap.size W'.heap.size g g' ∧ Kept (fun k => F k ∨ k = l) g W1 W') ∨ (e = .returned (.bool false) ∧ Jx (pre ++ [x]) W' ∧ KeepsFrom (l + 1) W1 W')) →
    J ([], none) W → ∀ n, CallsIn Fence.wide n P f (#[.func (.yield l) #[] #[]] ++ lb) W fun e W' => (∃ v, e = .returned v) ∧ ((∃ g, J (xs, g) W') ∨ ∃ pre, pre <+: xs ∧ Jx pre W')
theorem Hands.later {P : Program} {f : Nat} {lb : Array Value} {F : Nat → Prop} {xs : List Value} {w w' : World} (h : Hands P f lb F xs w) (hb : Below w.heap.size w w') : Hands P f lb F xs w' :=
  fun l J Jx W hW hl => h l J Jx W (hb.trans (hW.mono hb.size)) (Nat.le_trans hb.size hl)
theorem OwnFrom.wider {β : Type} {B C : Nat} {I : β → World → Prop} (h : OwnFrom B I) (hBC : B ≤ C) : OwnFrom C I :=
  fun s W W' row hs hg hr => h s W W' row hs hg fun r e => ⟨Nat.le_trans hBC (hr r e).1, (hr r e).2⟩
theorem KeepsFrom.wider {B C : Nat} {W W' : World} (h : KeepsFrom B W W') (hBC : B ≤ C) : KeepsFrom C W W' := ⟨h.size, fun k o hk => h.same k o (Nat.le_trans hBC hk)⟩
theorem Below.keeps {B : Nat} {W W' : World} (h : Below W.heap.size W W') : KeepsFrom B W W' := ⟨h.size, fun k o _ hk _ => (h.block k (Array.getElem?_eq_some_iff.1 hk).1).trans hk⟩
def Two (D : Nat) (r : Loop) (W : World) : Prop := W.heap[D + 1]? = some (.loop r) ∧ W.heap[D]? = some (.deferred (some []))
theorem Two.put {D : Nat} {r : Loop} {W : World} (h : Two D r W) (r' : Loop) : Two D r' (W.putObj (D + 1) (.loop r')) :=
  ⟨World.putObj_heap_same (Array.getElem?_eq_some_iff.1 h.1).1, (World.putObj_heap_other (by omega)).trans h.2⟩
theorem Two.own (D : Nat) (r : Loop) {B : Nat} (hB : D + 2 ≤ B) {β : Type} : OwnFrom B (fun (_ : β) W => Two D r W) := fun _ W W' row hs hg hr => by
  have key : ∀ k o, k < B → W.heap[k]? = some o → W'.heap[k]? = some o := fun k o hk ho =>
    (hg.block k (Array.getElem?_eq_some_iff.1 ho).1 (fun e => by have := (hr k e.symm).1; omega)).trans ho
  exact ⟨key _ _ (by omega) hs.1, key _ _ (by omega) hs.2⟩
theorem Two.keeps {D B : Nat} {r : Loop} {W W' : World} (h : Two D r W) (hk : KeepsFrom B W W') (hB : B ≤ D) : Two D r W' := ⟨hk.same _ _ (by omega) h.1 rfl, hk.same _ _ hB h.2 rfl⟩
theorem put_kept {F : Nat → Prop} {g : Option Nat} {l : Nat} {W : World} {o : Obj} (h : F l) : Kept F g W (W.putObj l o) :=
  ⟨rfl, rfl, rfl, by simp, fun k _ hf _ => World.putObj_heap_other (fun e => hf (by rw [e]; exact h)), fun k o hk _ hf => (World.putObj_heap_other (fun e => hf (by rw [e]; exact h))).trans hk⟩
theorem put_below {n₀ l : Nat} {W : World} {o : Obj} (h : n₀ ≤ l) (hn : n₀ ≤ W.heap.size) : Below n₀ W (W.putObj l o) :=
  (Below.refl n₀ W).grown (grownBy_putObj' W l o) hn (fun k e => by cases e; exact h)
theorem put_keeps {B l : Nat} {W : World} {o : Obj} (h : l < B) : KeepsFrom B W (W.putObj l o) := ⟨by simp, fun k o' hk ho _ => (World.putObj_heap_other (by omega)).trans ho⟩
theorem put_keeps' {l : Nat} {W W2 : World} {o : Obj} (h : W.putObj l o = W2) : KeepsFrom (l + 1) W W2 := by rw [← h]; exact put_keeps (by omega)
end Go.Proofs.YtfnnoehpahdgcaaGreatDoor.Ra
namespace Go.Proofs.YtfnnoehpahdgcaaGreatDoor.Ra
set_option linter.unusedVariables false
open Go.RowKit Go.Shelf
attribute [local go_sem] Oper.semAt_some
structure Hd where
  a : Option Addr
  n : Nat
  c : Nat
def Hd.val (h : Hd) : Value := .slice h.a h.n h.c
def Hds (n₀ : Nat) (w : World) (a : Option Addr) (hs : List Hd) : Prop := ∀ (j : Nat) (h : Hd), hs[j]? = some h → ∃ g o, a = some ⟨g, o, none⟩ ∧ g < n₀ ∧ w.cell? ⟨g, o + j, none⟩ = some (.slice h.a h.n h.c)
theorem Hds.below {n₀ : Nat} {w w' : World} {a : Option Addr} {hs : List Hd} (h : Hds n₀ w a hs) (hb : Below n₀ w w') : Hds n₀ w' a hs := fun j x hx => by
  obtain ⟨g, o, e, hg, hc⟩ := h j x hx
  exact ⟨g, o, e, hg, (hb.cell (p := ⟨g, o + j, none⟩) hg).trans hc⟩
end Go.Proofs.YtfnnoehpahdgcaaGreatDoor.Ra
namespace Go.Proofs.YtfnnoehpahdgcaaGreatDoor.Ra
set_option linter.unusedVariables false
open Go.RowKit Go.Shelf
attribute [local go_sem] Oper.semAt_some
theorem cell_block {w w' : World} {q o : Nat} {v : Value} (e : w'.heap[q]? = w.heap[q]?) (h : w.cell? ⟨q, o, none⟩ = some v) : w'.cell? ⟨q, o, none⟩ = some v := (World.cell?_of_block (w := w) e).trans h
theorem cell_lt {w : World} {p : Addr} {v : Value} (h : w.cell? p = some v) : p.block < w.heap.size := by
  unfold World.cell? at h
  cases ho : w.heap[p.block]? with
  | none => simp [ho] at h
  | some o => exact (Array.getElem?_eq_some_iff.1 ho).1
def Mine (Y B : Nat) (l n c sn sc : Nat) (a sa : Option Addr) (hs : List Hd) (n₀ : Nat) (W : World) : Prop :=
  W.cell? ⟨Y, 0, none⟩ = some (.func (.yield l) #[] #[]) ∧ W.cell? ⟨B, 0, none⟩ = some (.slice a n c) ∧ W.cell? ⟨B, 1, none⟩ = some (.slice sa sn sc) ∧ Hds n₀ W sa hs
theorem Mine.kept {Y B l n c sn sc n₀ : Nat} {a sa : Option Addr} {hs : List Hd} {W W' : World} {F : Nat → Prop} {g : Option Nat} (h : Mine Y B l n c sn sc a sa hs n₀ W) (hk : Kept F g W W') (hY : ¬ F Y) (hB : ¬ F B) (hS : ∀ g o, sa = some ⟨g, o, none⟩ → hs ≠ [] → ¬ F g) (gY : g ≠ some Y) (gB : g ≠ some B) (gS : ∀ q, g = some q → n₀ ≤ q) : Mine Y B l n c sn sc a sa hs n₀ W' := by
  obtain ⟨h1, h2, h3, h4⟩ := h
  refine ⟨cell_block (hk.block Y (cell_lt h1) hY gY) h1, cell_block (hk.block B (cell_lt h2) hB gB) h2, cell_block (hk.block B (cell_lt h2) hB gB) h3, fun j x hx => ?_⟩
  obtain ⟨q, o, e, hq, hc⟩ := h4 j x hx
  exact ⟨q, o, e, hq, cell_block (hk.block q (cell_lt hc) (hS q o e (fun e => by rw [e] at hx; simp at hx)) (fun e => by have := gS q e; omega)) hc⟩
theorem Mine.below {Y B l n c sn sc n₀ m : Nat} {a sa : Option Addr} {hs : List Hd} {W W' : World} (h : Mine Y B l n c sn sc a sa hs n₀ W) (hb : Below m W W') (hY : Y < m) (hB : B < m) (hn : n₀ ≤ m) : Mine Y B l n c sn sc a sa hs n₀ W' := by
  obtain ⟨h1, h2, h3, h4⟩ := h
  refine ⟨cell_block (hb.block Y hY) h1, cell_block (hb.block B hB) h2, cell_block (hb.block B hB) h3, fun j x hx => ?_⟩
  obtain ⟨q, o, e, hq, hc⟩ := h4 j x hx
  exact ⟨q, o, e, hq, cell_block (hb.block q (by omega)) hc⟩
end Go.Proofs.YtfnnoehpahdgcaaGreatDoor.Ra
namespace Go.Proofs.YtfnnoehpahdgcaaGreatDoor.Ra
set_option linter.unusedVariables false
open Go.RowKit
def Hands2 (P : Program) (f : Nat) (lb : Array Value) (F : Nat → Prop) (xs : List (Array Value)) (w : World) : Prop :=
  ∀ (l : Nat) (J : List (Array Value) × Option Nat → World → Prop) (Jx : List (Array Value) → World → Prop) (W : World), Below w.heap.size w W → w.heap.size ≤ l → l < W.heap.size → (∀ k, F k → k < l) → OwnFrom W.heap.size J → OwnFrom W.heap.size Jx →
    (∀ pre x, (pre ++ [x]) <+: xs → ∀ g W1 m, J (pre, g) W1 → YieldAt Fence.wide m P l x W1 fun e W' =>
      (e = .returned (.bool true) ∧ ∃ g', J (pre ++ [x], g') W' ∧ Newer W1.heap.size W'.heap.size g g' ∧ Kept (fun k => F k ∨ k = l) g W1 W') ∨ (e = .returned (.bool false) ∧ Jx (pre ++ [x]) W' ∧ KeepsFrom (l + 1) W1 W')) →
    J ([], none) W → ∀ n, CallsIn Fence.wide n P f (#[.func (.yield l) #[] #[]] ++ lb) W fun e W' => (∃ v, e = .returned v) ∧ ((∃ g, J (xs, g) W') ∨ ∃ pre, pre <+: xs ∧ Jx pre W')
theorem Hands2.later {P : Program} {f : Nat} {lb : Array Value} {F : Nat → Prop} {xs : List (Array Value)} {w w' : World} (h : Hands2 P f lb F xs w) (hb : Below w.heap.size w w') : Hands2 P f lb F xs w' :=
  fun l J Jx W hW hl => h l J Jx W (hb.trans (hW.mono hb.size)) (Nat.le_trans hb.size hl)
def Rounds2 (B : Nat) (F : Nat → Prop) (I : List (Array Value) × Option Nat → World → Prop) (Ix : Code → List (Array Value) → World → Prop) (xs : List (Array Value)) (g : Option Nat) (W : World) : Exit → Act → World → Prop
  | .normal, _, W' => KeepsFrom B W W' ∧ Kept F g W W' ∧ ∃ g', Newer W.heap.size W'.heap.size g g' ∧ I (xs, g') W'
  | .ret, _, W' => KeepsFrom B W W' ∧ Ix .ret xs W'
  | .exit id, _, W' => KeepsFrom B W W' ∧ Ix (.exit id) xs W'
  | .goto t, _, W' => KeepsFrom B W W' ∧ Ix (.goto t) xs W'
  | .panic _, _, _ => False
  | .outgrown, _, _ => False
theorem loop_hands2 {P : Program} {n : Nat} {g : Operand} {ps : Array Tmp} {assign body : Code} {Q : Exit → Act → World → Prop} {a : Act} {w : World}
    {gf : Nat} {lb : Array Value} (hg : a.eval g = .func (.func gf) #[] lb) (eg : ∀ args w, (callFunc gf args).run P w = .ok (.enter gf args) w)
    {F : Nat → Prop} {xs : List (Array Value)} {w0 : World} (hseq : Hands2 P gf lb F xs w0) (hb0 : Below w0.heap.size w0 w) (hF : ∀ k, F k → k < w.heap.size) (hps : ∀ x ∈ xs, ps.size = x.size)
    (I : List (Array Value) × Option Nat → World → Prop) (Ix : Code → List (Array Value) → World → Prop) (hI : OwnFrom w.heap.size I) (hIx : ∀ c, OwnFrom w.heap.size (Ix c)) (h0 : I ([], none) w) (a₁ : Array Value → Act)
    (hassign : ∀ (l m : Nat) (x : Array Value), x ∈ xs → ∀ (W : World) (K : Act → World → Prop), K (a₁ x) W →
      assign.wpIn (Fence.wide.inRound l) m P (Exit.then K (fun _ _ _ => False)) { tmps := (ps.zip x).foldl (fun t (p, v) => t.setIfInBounds p v) a.tmps, defers := [] } W)
    (hbody : ∀ (l m : Nat) (pre : List (Array Value)) (x : Array Value) (g : Option Nat) (W : World), (pre ++ [x]) <+: xs → w.heap.size ≤ W.heap.size → I (pre, g) W → body.wpIn (Fence.wide.inRound l) m P (Rounds2 w.heap.size F I Ix (pre ++ [x]) g W) (a₁ x) W)
    (hdone : ∀ (D : Nat) (g : Option Nat) (W : World), w.heap.size ≤ D → I (xs, g) W → W.heap[D]? = some (.deferred (some [])) → Q .normal { a with defers := { target := .collected D, args := #[] } :: a.defers } W)
    (hstop : ∀ (D : Nat) (c : Code) (pre : List (Array Value)) (W : World), w.heap.size ≤ D → pre <+: xs → Ix c pre W → W.heap[D]? = some (.deferred (some [])) → c.wpIn Fence.wide n P Q { a with defers := { target := .collected D, args := #[] } :: a.defers } W) :
    (Code.rangeFunc g ps assign body).wpIn Fence.wide n P Q a w := by
  refine wpIn_rangeFunc fun fn _ => ?_
  generalize hD : w.heap.size = D at *
  have hrc : ∃ rc : LoopState → Option Code → Loop, rc = fun st pe => { state := st, pending := pe, fn, tmps := a.tmps, params := ps, assign, body, defers := D } := ⟨_, rfl⟩
  obtain ⟨rc, hrc⟩ := hrc
  have hent := run_enterLoop_outer (P := P) (w := w) fn a.tmps ps assign body
  rw [hD] at hent
  have hW1 : ∃ W1, W1 = (w.alloc (.deferred (some []))).alloc (.loop (rc .ready none)) := ⟨_, rfl⟩
  obtain ⟨W1, hW1⟩ := hW1
  have s1 : W1.heap.size = D + 2 := by rw [hW1]; simp [hD]
  have t1 : Two D (rc .ready none) W1 := by
    have e2 := World.alloc_heap_new (w.alloc (.deferred (some []))) (.loop (rc .ready none))
    have e1 := World.alloc_heap_new w (.deferred (some []))
    rw [World.size_alloc, hD] at e2
    rw [hD] at e1
    rw [hW1]
    exact ⟨e2, (Below.heap_alloc _ _ D (by simp [hD])).trans e1⟩
  have i1 : I ([], none) W1 := by rw [hW1]; exact hI.alloc _ (hI.alloc _ h0)
  have b1 : Below w0.heap.size w0 W1 := by
    have := hb0.size
    rw [hW1]; exact hb0.trans ((((Below.refl _ w).alloc (Nat.le_refl _) _).alloc (by simp) _).mono this)
  have hend := fun (st : LoopState) (pe : Option Code) (h : (rc st pe).state ≠ .busy) (W : World) (t : Two D (rc st pe) W) => run_endLoop (P := P) t.1 h
  refine ⟨D + 1, [{ target := .collected D, args := #[] }], W1, { target := .fn (.func gf) lb, args := #[.func (.yield (D + 1)) #[] #[]] }, W1, gf, #[.func (.yield (D + 1)) #[] #[]] ++ lb, W1, ?_, ?_, fun _ _ => trivial, ?_, fun h => (by cases h), ?_⟩
  · rw [hW1, hrc]; exact hent
  · simp only [resolve, hg]; simp [go_sem]
  · simp [invoke, go_sem, eg]
  refine (hseq (D + 1) (fun s W => I s W ∧ Two D (rc .ready none) W) (fun pre W => ∃ c, Ix c pre W ∧ Two D (rc .done (some c)) W) W1 b1 (by have := hb0.size; omega) (by omega) (fun k hk => by have := hF k hk; omega) ?_ ?_ ?_ ⟨i1, t1⟩ (n - 1)).mono ?_
  · exact OwnFrom.and (OwnFrom.wider hI (by omega)) (Two.own D _ (by omega))
  · rintro pre W W' row ⟨c, hc, ht⟩ hgr hr
    exact ⟨c, OwnFrom.wider (hIx c) (by omega) pre W W' row hc hgr hr, Two.own D _ (Nat.le_of_eq s1.symm) pre W W' row ht hgr hr⟩
  · rintro pre x hx gg W m ⟨hi, ht⟩
    have hlt : D + 1 < W.heap.size := (Array.getElem?_eq_some_iff.1 ht.1).1
    have hy := run_yield (P := P) (args := x) ht.1 (by rw [hrc]; exact (hps x (hx.subset (by simp))).symm)
    have hbe := run_beginRound (P := P) ht.1 (by rw [hrc])
    have t2 := ht.put { rc .ready none with state := .busy }
    have i2 : I (pre, gg) (W.putObj (D + 1) (.loop { rc .ready none with state := .busy })) := hI.putObj _ hi (by omega) ht.1 rfl
    have k2 : Kept (fun k => F k ∨ k = D + 1) gg W (W.putObj (D + 1) (.loop { rc .ready none with state := .busy })) := put_kept (Or.inr rfl)
    have z2 : (W.putObj (D + 1) (.loop { rc .ready none with state := .busy })).heap.size = W.heap.size := by simp
    rw [hrc] at hy
    refine ⟨fn, _, assign, body, hy, roundIn_of_wpIn trivial (hassign (D + 1) m x (hx.subset (by simp)) W _ ⟨_, hbe, ?_⟩)⟩
    generalize hW2 : W.putObj (D + 1) (.loop { rc .ready none with state := .busy }) = W2 at t2 i2 k2 z2 ⊢
    have l2 : D + 1 < W2.heap.size := (Array.getElem?_eq_some_iff.1 t2.1).1
    refine wpIn_mono (hbody (D + 1) m pre x gg W2 hx (by omega) i2) ?_
    have out : ∀ (c : Code) (W3 : World), KeepsFrom D W2 W3 → Ix c (pre ++ [x]) W3 → ∃ v w', (Instr.endRound (D + 1) (some c)).run P W3 = .ok v w' ∧ ((Ending.returned v = .returned (.bool true) ∧ ∃ g', (I (pre ++ [x], g') w' ∧ Two D (rc .ready none) w') ∧ Newer W.heap.size w'.heap.size gg g' ∧ Kept (fun k => F k ∨ k = D + 1) gg W w') ∨ (Ending.returned v = .returned (.bool false) ∧ (∃ c, Ix c (pre ++ [x]) w' ∧ Two D (rc .done (some c)) w') ∧ KeepsFrom (D + 1 + 1) W w')) := fun c W3 hk hix => by
      have t3 := t2.keeps hk (Nat.le_refl _)
      refine ⟨_, _, run_endRound (P := P) (some c) t3.1, .inr ⟨rfl, ⟨c, (hIx c).putObj _ hix (by omega) t3.1 rfl, ?_⟩, ((put_keeps' hW2).trans (KeepsFrom.wider hk (by omega))).trans (put_keeps (by omega))⟩⟩
      have := t3.put (rc .done (some c))
      rw [hrc] at this ⊢; exact this
    rintro e a3 W3 hp
    cases e with
    | normal =>
      obtain ⟨hk, hb, g', hn', hi3⟩ := hp
      have t3 := t2.keeps hk (Nat.le_refl _)
      have l3 : D + 1 < W3.heap.size := (Array.getElem?_eq_some_iff.1 t3.1).1
      refine ⟨_, _, run_endRound (P := P) none t3.1, .inl ⟨rfl, g', ⟨hI.putObj _ hi3 (by omega) t3.1 rfl, ?_⟩, by rw [← z2, World.putObj_size]; exact hn', (k2.trans (hb.wider fun _ h => Or.inl h)).trans (put_kept (Or.inr rfl))⟩⟩
      have := t3.put (rc .ready none)
      rw [hrc] at this ⊢; exact this
    | ret => exact out _ W3 hp.1 hp.2
    | exit id => exact out _ W3 hp.1 hp.2
    | goto t => exact out _ W3 hp.1 hp.2
    | panic ch => exact hp.elim
    | outgrown => exact hp.elim
  · rintro e W2 ⟨⟨v, rfl⟩, ⟨gg, hi, ht⟩ | ⟨pre, hpre, c, hi, ht⟩⟩
    · refine ⟨none, W2.putObj (D + 1) (.loop { rc .ready none with state := .exhausted }), ?_, hdone D gg _ (Nat.le_refl _) (hI.putObj _ hi (by omega) ht.1 rfl) ((World.putObj_heap_other (by omega)).trans ht.2)⟩
      have := hend .ready none (by rw [hrc]; simp) W2 ht
      rw [hrc] at this ⊢; exact this
    · refine ⟨some c, W2.putObj (D + 1) (.loop { rc .done (some c) with state := .exhausted }), ?_, hstop D c pre _ (Nat.le_refl _) hpre ((hIx c).putObj _ hi (by omega) ht.1 rfl) ((World.putObj_heap_other (by omega)).trans ht.2)⟩
      have := hend .done (some c) (by rw [hrc]; simp) W2 ht
      rw [hrc] at this ⊢; exact this
theorem loop_hands22 (p1 p2 d : Nat) {P : Program} {n : Nat} {g : Operand} {assign body : Code} {Q : Exit → Act → World → Prop} {a : Act} {w : World}
    {gf : Nat} {lb : Array Value} (hg : a.eval g = .func (.func gf) #[] lb) (eg : ∀ args w, (callFunc gf args).run P w = .ok (.enter gf args) w)
    {F : Nat → Prop} {xs : List (Array Value)} {w0 : World} (hx2 : ∀ x ∈ xs, ∃ y z, x = #[y, z]) (hseq : Hands2 P gf lb F xs w0) (hb0 : Below w0.heap.size w0 w) (hF : ∀ k, F k → k < w.heap.size)
    (I : List (Array Value) × Option Nat → World → Prop) (Ix : Code → List (Array Value) → World → Prop) (hI : OwnFrom w.heap.size I) (hIx : ∀ c, OwnFrom w.heap.size (Ix c)) (h0 : I ([], none) w)
    (hassign : ∀ (l m : Nat) (x y : Value) (W : World) (K : Act → World → Prop), K { tmps := (((a.tmps.setIfInBounds p1 x).setIfInBounds p2 y)).setIfInBounds d y, defers := [] } W →
      assign.wpIn (Fence.wide.inRound l) m P (Exit.then K (fun _ _ _ => False)) { tmps := (a.tmps.setIfInBounds p1 x).setIfInBounds p2 y, defers := [] } W)
    (hbody : ∀ (l m : Nat) (pre : List (Array Value)) (x y : Value) (g : Option Nat) (W : World), (pre ++ [#[x, y]]) <+: xs → w.heap.size ≤ W.heap.size → I (pre, g) W → body.wpIn (Fence.wide.inRound l) m P (Rounds2 w.heap.size F I Ix (pre ++ [#[x, y]]) g W) { tmps := ((a.tmps.setIfInBounds p1 x).setIfInBounds p2 y).setIfInBounds d y, defers := [] } W)
    (hdone : ∀ (D : Nat) (g : Option Nat) (W : World), w.heap.size ≤ D → I (xs, g) W → W.heap[D]? = some (.deferred (some [])) → Q .normal { a with defers := { target := .collected D, args := #[] } :: a.defers } W)
    (hstop : ∀ (D : Nat) (c : Code) (pre : List (Array Value)) (W : World), w.heap.size ≤ D → pre <+: xs → Ix c pre W → W.heap[D]? = some (.deferred (some [])) → c.wpIn Fence.wide n P Q { a with defers := { target := .collected D, args := #[] } :: a.defers } W) :
    (Code.rangeFunc g #[p1, p2] assign body).wpIn Fence.wide n P Q a w := by
  refine loop_hands2 hg eg hseq hb0 hF (fun x hx => by obtain ⟨y, z, rfl⟩ := hx2 x hx; rfl) I Ix hI hIx h0 (fun x => { tmps := ((a.tmps.setIfInBounds p1 (x.getD 0 undef)).setIfInBounds p2 (x.getD 1 undef)).setIfInBounds d (x.getD 1 undef), defers := [] }) ?_ ?_ hdone hstop
  · intro l m x hx W K hK
    obtain ⟨y, z, rfl⟩ := hx2 x hx
    have := hassign l m y z W K hK
    simpa using this
  · intro l m pre x g W hx hw hi
    obtain ⟨y, z, rfl⟩ := hx2 x (hx.subset (by simp))
    exact hbody l m pre y z g W hx hw hi
end Go.Proofs.YtfnnoehpahdgcaaGreatDoor.Ra
namespace Go.Proofs.YtfnnoehpahdgcaaGreatDoor.Cl
set_option linter.unusedVariables false
open Go.RowKit Wd Rp Kp Ra Go.Shelf
attribute [local go_sem] Oper.semAt_some
def bkI (l : List Tk) (j : Nat) : Array Value := #[.int .i64 ((l.length - 1 - j : Nat) : Int), tv (l.getD (l.length - 1 - j) [])]
def bkL (l : List Tk) : List (Array Value) := (List.range l.length).map (bkI l)
theorem bkL_len (l : List Tk) : (bkL l).length = l.length := by unfold bkL; rw [List.length_map, List.length_range]
theorem bkL_get {l : List Tk} {k : Nat} (h : k < l.length) : (bkL l)[k]? = some (bkI l k) := by unfold bkL; rw [List.getElem?_map, List.getElem?_range h]; rfl
theorem bkL_two (l : List Tk) : ∀ x ∈ bkL l, ∃ y z, x = #[y, z] := fun x hx => by
  unfold bkL at hx
  rw [List.mem_map] at hx
  obtain ⟨k, -, rfl⟩ := hx
  exact ⟨_, _, rfl⟩
theorem pre_bk {l : List Tk} {pre : List (Array Value)} {x : Array Value} (h : (pre ++ [x]) <+: bkL l) : pre.length < l.length ∧ x = bkI l pre.length := by
  obtain ⟨r, hr⟩ := h
  have h1 : (bkL l)[pre.length]? = some x := by rw [← hr]; simp
  have h2 := (List.getElem?_eq_some_iff.1 h1).1
  rw [bkL_len] at h2
  rw [bkL_get h2] at h1
  exact ⟨h2, (Option.some.inj h1).symm⟩
theorem next_bk {xs : List (Array Value)} {k : Nat} {x : Array Value} (h : xs[k]? = some x) : xs.take (k + 1) = xs.take k ++ [x] := by
  rw [List.take_succ_eq_append_getElem (List.getElem?_eq_some_iff.1 h).1, (List.getElem?_eq_some_iff.1 h).2]
set_option maxRecDepth 100000 in
set_option maxHeartbeats 2000000 in
theorem backward1_hands (F : Nat → Prop) (n₀ B : Nat) (a : Option Addr) (cap N : Nat) (ts : List Tk) (hN : ts.length = N) (hlen : N ≤ 4194304) (w : World) (hB : B < w.heap.size) (hn : n₀ ≤ w.heap.size)
    (hbox : w.cell? ⟨B, 0, none⟩ = some (.slice a N cap)) (hx : ∀ k c, ts[k]? = some c → ∃ g o, a = some ⟨g, o, none⟩ ∧ g < n₀ ∧ w.cell? ⟨g, o + k, none⟩ = some (.string (tx c))) (hF : ∀ g o, a = some ⟨g, o, none⟩ → ts ≠ [] → ¬ F g) (hFB : ¬ F B) (hB0 : B < n₀) :
    Hands2 Tryz.prog 159 #[.pointer (some ⟨B, 0, none⟩)] F (bkL ts) w := by
  intro l J Jx W hW hl0 hl hFk hJ hJx hY h0 n
  clear hFk
  have hc0 := Lib.hid ((hW.cell (p := ⟨B, 0, none⟩) hB).trans hbox)
  have hx0 := Lib.hid (show ∀ k c, ts[k]? = some c → ∃ g o, a = some ⟨g, o, none⟩ ∧ g < n₀ ∧ W.cell? ⟨g, o + k, none⟩ = some (.string (tx c)) from fun k c hk => by
    obtain ⟨g, o, e, hg, hc⟩ := hx k c hk
    exact ⟨g, o, e, hg, (hW.cell (p := ⟨g, o + k, none⟩) (Nat.lt_of_lt_of_le hg hn)).trans hc⟩); clear hx hbox
  have hws := hW.size
  clear hW
  have HY := Lib.hid hY; clear hY
  have HF := Lib.hid (And.intro hF hFB); clear hF hFB
  have HL := Lib.hid hN
  have hcw := hc0.out
  refine callsIn_of_wp Tryz.func159 rfl trivial ?_ rfl
  simp only [Tryz.ntmps159, List.size_toArray, List.length_cons, List.length_nil, Nat.reduceAdd, Nat.reduceSub, Array.replicate_succ, Array.replicate_zero, List.push_toArray, List.append_toArray, List.nil_append, List.cons_append]
  gi_wp2
  gi_loopw [3] (fun i wr => ∃ (k m : Nat) (gg : Option Nat), k + m = N ∧ i = .int .i64 ((m : Int) - 1) ∧ J ((bkL ts).take k, gg) wr ∧ (∀ q, gg = some q → W.heap.size ≤ q) ∧ W.heap.size ≤ wr.heap.size ∧ ∀ q, q < n₀ → ¬ F q → wr.heap[q]? = W.heap[q]?) (fun i _ => (intOf i + 1).toNat)
  case atStart => exact ⟨0, N, none, by omega, rfl, h0, (fun q e => by cases e), Nat.le_refl _, fun _ _ _ => rfl⟩
  case round =>
    obtain ⟨k, m, gg, hk, rfl, hJs, hgg, hsz, hnx⟩ := hrel
    clear hcw
    cases m with
    | succ m =>
      have hmi : ((m + 1 : Nat) : Int) - 1 = (m : Int) := by omega
      rw [hmi]
      obtain ⟨c, hc⟩ : ∃ c, ts[m]? = some c := ⟨ts[m]'(by omega), List.getElem?_eq_getElem _⟩
      have hv : (bkL ts)[k]? = some #[.int .i64 (m : Int), .string (tx c)] := by
        rw [bkL_get (by omega)]
        unfold bkI
        rw [show ts.length - 1 - k = m by omega, List.getD_eq_getElem?_getD, hc]; rfl
      obtain ⟨g, o, rfl, hg, hgc⟩ := hx0.out m c hc
      have hcx : wr.cell? ⟨g, o + m, none⟩ = some (.string (tx c)) := (World.cell?_of_block (hnx g hg (HF.out.1 g o rfl (fun e => by rw [e] at hc; simp at hc)))).trans hgc
      have hcb : wr.cell? ⟨B, 0, none⟩ = some (.slice (some ⟨g, o, none⟩) N cap) := (World.cell?_of_block (hnx B hB0 HF.out.2)).trans hc0.out
      obtain ⟨fn, tmps, assign, body, hy, hR⟩ := HY.out _ _ (by rw [← next_bk hv]; exact List.take_prefix _ _) gg wr (n - 1) hJs
      rw [← next_bk hv] at hR
      have HNX := Lib.hid hnx; clear hnx
      have HGG := Lib.hid hgg; clear hgg
      clear hgc hc hv hmi
      generalize tx c = s at *
      gi_wp2
      refine ⟨fun h => (by cases h), hR.mono ?_⟩
      rintro e W3 (⟨rfl, g', hJ3, hn3, hk3⟩ | ⟨rfl, hJx3, -⟩)
      · have K3 := Lib.hid (And.intro hn3 hk3); clear hn3 hk3
        gi_wp2
        go_roundw
        case rel =>
          refine ⟨k + 1, m, g', by omega, rfl, hJ3, fun q hq => ?_, Nat.le_trans hsz K3.out.2.size, fun q hq hf => (K3.out.2.block q (by omega) (fun e => e.elim hf (fun e => by omega)) (fun e => by have := HGG.out q e; omega)).trans (HNX.out q hq hf)⟩
          rcases K3.out.1 with e | ⟨q', e, h', -⟩
          · exact HGG.out q (by rw [← e]; exact hq)
          · rw [e] at hq; cases hq; omega
        case measure => simp [intOf]
      · gi_wp2
        refine bodyPost_ret (results_none rfl _ _ _) rfl ?_
        exact ⟨⟨_, rfl⟩, .inr ⟨_, List.take_prefix _ _, hJx3⟩⟩
    | zero =>
      obtain rfl : k = N := by omega
      rw [List.take_of_length_le (by rw [bkL_len, HL.out]; exact Nat.le_refl _)] at hJs
      have HJ := Lib.hid hJs; clear hJs hnx hgg
      gi_wp2
      go_end0
      exact ⟨⟨_, rfl⟩, .inl ⟨gg, HJ.out⟩⟩
set_option maxHeartbeats 1000000 in
theorem backward_any (a : Option Addr) (n cap : Nat) (w : World) : Calls Tryz.prog 149 #[.slice a n cap] w fun e w' =>
    e = .returned (.func (.func 159) #[] #[.pointer (some ⟨w.heap.size, 0, none⟩)]) ∧ w' = w.alloc (.cells #[.slice a n cap] 24) := by
  go_enter Tryz.func149, Tryz.ntmps149
  go_wp2
  go_ret
  exact ⟨rfl, rfl⟩
end Go.Proofs.YtfnnoehpahdgcaaGreatDoor.Cl
namespace Go.Proofs.YtfnnoehpahdgcaaGreatDoor.Ra
set_option linter.unusedVariables false
open Go.RowKit
theorem rowsIn_of {P : Program} {n : Nat} {row : String} {args : Array Value} {w : World} {R : Value → World → Prop} (h : Rows P row args w R) : RowsIn Fence.wide n P row args w R :=
  fun c cs _ => let ⟨v, w', r, s⟩ := h c cs; ⟨v, w', r, stepsIn_wide.2 s⟩
theorem uponIn_of {P : Program} {n l : Nat} {o : Oper} {a : Act} {K K' : Act → World → Prop} {Q : Exit → Act → World → Prop} {r : Result Next} (hK : ∀ a w, K a w → K' a w) (h : o.upon P a K Q r) : o.uponIn (Fence.wide.inRound l) n P a K' Q r := by
  cases r with
  | ok x w' =>
    cases x with
    | value v => exact hK _ _ h
    | skip => exact hK _ _ h
    | defer d => exact hK _ _ h
    | enter f args =>
      refine ⟨(fun e => by cases e), CallsIn.inRound l (callsIn_wide.2 (Calls.mono h fun e w'' he => ?_))⟩
      cases e with
      | returned v => exact hK _ _ he
      | panicked c => exact he
      | outgrown => exact he
    | row row args => exact ⟨(fun e => by cases e), rowsIn_of (Rows.mono h fun v w'' he => hK _ _ he)⟩
    | _ => exact h.elim
  | halt x w' => cases x <;> first | exact h | exact h.elim
theorem wpAnyIn_of {P : Program} {md : Region.Mode} {ops : Array Oper} {Q : Exit → Act → World → Prop} {n l : Nat} (hd : ∀ (i : Nat) (o : Oper), ops[i]? = some o → ∀ c, o.op ≠ .defer c) (hl : ∀ a w, ¬ Q .outgrown a w) :
    ∀ (fuel : Nat) (listed : Array Bool) (a : Act) (w : World), wpAny P md ops Q fuel listed a w → wpAnyIn (Fence.wide.inRound l) n P md ops Q fuel listed a w
  | 0, _, _, _, h => h
  | fuel + 1, listed, a, w, h => by
    refine ⟨h.1, fun i hi => ?_⟩
    have hk := h.2 i hi
    unfold wpOp at hk
    unfold wpOpIn
    cases ho : ops[i]? with
    | none => rw [ho] at hk; exact wpAnyIn_of hd hl fuel _ a w hk
    | some o =>
      rw [ho] at hk
      simp only at hk ⊢
      split
      · rename_i hw
        rw [if_pos hw] at hk
        rcases hk with hk | ⟨-, a', w', hq⟩
        · refine ⟨fun _ _ => trivial, ?_⟩
          have e := Oper.semAt_some l a.eval o (hd i o ho)
          rw [Fence.inRound_round, e]
          exact uponIn_of (fun a w h => wpAnyIn_of hd hl fuel _ a w h) hk
        · exact absurd hq (hl a' w')
      · rename_i hw
        rw [if_neg hw] at hk
        exact ⟨fun _ _ => trivial, wpAnyIn_of hd hl fuel _ _ w hk⟩
theorem wpIn_region_held {P : Program} {ops : Array Oper} {Q : Exit → Act → World → Prop} {S : World → Prop} {n l id : Nat} {a : Act} {w : World} (hm : P.follows .mixedOrders = true) (hd : ∀ (i : Nat) (o : Oper), ops[i]? = some o → ∀ c, o.op ≠ .defer c) (hl : ∀ a w, ¬ Q .outgrown a w)
    (hS : S w.drew) (h : S w.drew → wpAnyH P .any ops Q S ops.size (Array.replicate ops.size false) a w.drew) : (Code.region id ops true).wpIn (Fence.wide.inRound l) n P Q a w :=
  wpIn_region_any hm (wpAnyIn_of hd hl _ _ _ _ (wpAny_of_held _ _ _ _ (h hS)))
def Op.defers : Op → Bool
  | .defer _ => true
  | _ => false
theorem defers_none {ops : Array Oper} (h : ops.all (fun o => !Op.defers o.op) = true) : ∀ (i : Nat) (o : Oper), ops[i]? = some o → ∀ c, o.op ≠ .defer c := fun i o hi c e => by
  have := Array.all_eq_true'.1 h o (Array.mem_of_getElem? hi)
  rw [e] at this; cases this
end Go.Proofs.YtfnnoehpahdgcaaGreatDoor.Ra
