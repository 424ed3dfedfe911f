/-
  Contracts of the cursor (spec.l1Cur): whatever it draws lies in its range, it writes its own block alone, and it stays a cursor.
  The walk of spec.l1Byte: some byte, whatever the cursor holds.
  Contracts of spec.l1Byte, l1Below, l1Once.
  Contracts of spec.l1DrawWord, l1DrawAny, l1New, DrawWordOk.
  From a slice of bytes that came in (as the row reads it) to the cursor's 'IsBytes'.
  Slices of bytes that the call itself makes: appending, storing and reslicing keep them slices of bytes; the cursor and all that was there stay.
-/
import Derived.Test.YtdalncgbbkeimaaGreatDoorRows
import Derived.WalkKit
import Derived.WalkSpells
import Derived.IntWalk
import Derived.Below
import Derived.Lib.Hide
import Derived.Laws.Bits128
import Derived.Deep.QuietTactic
import Derived.BigQuiet
import Derived.Lib.AtoiErrMem
import Derived.OpenShut
import Derived.Laws.BytesArg
import Derived.Lib.ConvBytes
import Derived.Maps.AppendAt
import Derived.Deep.RegionLaw
import Derived.Deep.AppendLies
import Derived.OwnWalk
namespace Go.Proofs.YtdalncgbbkeimaaGreatDoor.Cu
open Go.RowKit

theorem and_mask (m : Nat) (hm : m ≤ 32) (n : Int) (c : Int) (hc : c = 2 ^ m - 1) : bits .and .i64 n c = n % 2 ^ m := by
  have h2 : (BitVec.ofInt 64 c).toNat = 2 ^ m - 1 := by
    have hp : 2 ^ m ≤ 2 ^ 32 := Nat.pow_le_pow_right (by decide) hm
    have hp' : (2 : Int) ^ m = ((2 ^ m : Nat) : Int) := by simp
    have h1 : 1 ≤ 2 ^ m := Nat.one_le_two_pow
    rw [BitVec.toNat_ofInt, hc, hp']
    omega
  have key : (BitVec.ofInt 64 n &&& BitVec.ofInt 64 c).toNat = (n % ((2 ^ 64 : Nat) : Int)).toNat % 2 ^ m := by
    rw [BitVec.toNat_and, BitVec.toNat_ofInt, h2, Nat.and_two_pow_sub_one_eq_mod]
  show IntKind.i64.wrap ((BitVec.ofInt 64 n &&& BitVec.ofInt 64 c).toNat : Nat) = n % 2 ^ m
  rw [key, IntKind.wrap_i64]
  have hd : ((2 ^ m : Nat) : Int) ∣ ((2 ^ 64 : Nat) : Int) := Int.natCast_dvd_natCast.2 (Nat.pow_dvd_pow 2 (by omega))
  have hp' : (2 : Int) ^ m = ((2 ^ m : Nat) : Int) := by simp
  have e1 : (((n % ((2 ^ 64 : Nat) : Int)).toNat % 2 ^ m : Nat) : Int) = n % 2 ^ m := by
    rw [Int.natCast_emod, Int.toNat_of_nonneg (Int.emod_nonneg _ (by decide)), Int.emod_emod_of_dvd _ hd, hp']
  rw [e1]
  have hpos : 0 < (2 : Int) ^ m := by rw [hp']; exact Int.natCast_pos.2 (Nat.two_pow_pos m)
  have b0 := Int.emod_nonneg n (Int.ne_of_gt hpos)
  have b1 := Int.emod_lt_of_pos n hpos
  have b2 : (2 : Int) ^ m ≤ 4294967296 := by rw [hp']; have := Nat.pow_le_pow_right (n := 2) (by decide) hm; omega
  omega
theorem and255 (n : Int) : bits .and .i64 n 255 = n % 256 := and_mask 8 (by decide) n 255 (by decide)
theorem and30 (n : Int) : bits .and .i64 n 1073741823 = n % 1073741824 := and_mask 30 (by decide) n 1073741823 (by decide)

/-- Of what was there only block b may have turned. -/
structure But (b : Nat) (w w' : World) : Prop where
  os : w'.os = w.os
  tape : w'.tape = w.tape
  output : w'.output = w.output
  size : w.heap.size ≤ w'.heap.size
  block : ∀ k, k < w.heap.size → k ≠ b → w'.heap[k]? = w.heap[k]?
theorem But.refl (b : Nat) (w : World) : But b w w := ⟨rfl, rfl, rfl, Nat.le_refl _, fun _ _ _ => rfl⟩
theorem But.trans {b : Nat} {x y z : World} (h : But b x y) (k : But b y z) : But b x z :=
  ⟨k.os.trans h.os, k.tape.trans h.tape, k.output.trans h.output, Nat.le_trans h.size k.size, fun i hi hb => (k.block i (Nat.lt_of_lt_of_le hi h.size) hb).trans (h.block i hi hb)⟩
theorem But.drew {b : Nat} {x w : World} (h : But b x w) : But b x w.drew := ⟨h.os, h.tape, h.output, h.size, h.block⟩
theorem But.drewN {b : Nat} {x w : World} (h : But b x w) (n : Nat) : But b x (w.drewN n) := ⟨h.os, h.tape, h.output, h.size, h.block⟩
theorem But.setCell {b : Nat} {x w : World} (h : But b x w) {p : Addr} (hp : p.block = b) (u : Value) : But b x (w.setCell p u) :=
  h.trans ⟨rfl, rfl, rfl, by simp [World.setCell], fun k _ hk => Below.heap_setCell _ _ _ _ (by omega)⟩
theorem But.alloc {b : Nat} {x w : World} (h : But b x w) (o : Obj) : But b x (w.alloc o) :=
  h.trans ⟨rfl, rfl, rfl, by simp, fun k hk _ => Below.heap_alloc _ _ _ hk⟩
theorem But.below {b B : Nat} {w w' : World} (h : But b w w') (hB : B ≤ b) (hs : B ≤ w.heap.size) : Below B w w' :=
  ⟨h.os, h.tape, h.output, h.size, fun k hk => h.block k (by omega) (by omega)⟩
theorem But.cell {b : Nat} {w w' : World} (h : But b w w') {p : Addr} (hp : p.block < w.heap.size) (hb : p.block ≠ b) : w'.cell? p = w.cell? p := World.cell?_of_block (w := w) (h.block p.block hp hb)
theorem But.frozen {b : Nat} {w w' : World} (h : But b w w') {p : Addr} (hp : p.block < w.heap.size) (hb : p.block ≠ b) : w'.frozen? p = w.frozen? p := World.frozen?_of_block (w := w) (h.block p.block hp hb)

/-- The bytes behind a slice that lies below B: each place holds some byte. -/
def Bytes (w : World) (B : Nat) (a : Option Addr) (len : Nat) : Prop :=
  0 < len → ∃ ab ao, a = some ⟨ab, ao, none⟩ ∧ ab < B ∧ ∀ k, k < len → ∃ z : Int, w.cell? ⟨ab, ao + k, none⟩ = some (.int .u8 z) ∧ 0 ≤ z ∧ z ≤ 255
theorem Bytes.carry {w w' : World} {B : Nat} {a : Option Addr} {len : Nat} (h : Bytes w B a len) (hb : ∀ k, k < B → w'.heap[k]? = w.heap[k]?) : Bytes w' B a len := by
  intro hl
  obtain ⟨ab, ao, h1, h2, h3⟩ := h hl
  refine ⟨ab, ao, h1, h2, fun k hk => ?_⟩
  obtain ⟨z, h4, h5⟩ := h3 k hk
  exact ⟨z, (World.cell?_of_block (w := w) (hb ab h2)).trans h4, h5⟩
/-- Block b is a cursor over bytes that lie below B. -/
def Cur (B b : Nat) (w : World) : Prop :=
  B ≤ b ∧ ∃ (a : Option Addr) (len cap : Nat) (i h : Int), 0 ≤ i ∧ i ≤ len ∧ len ≤ 9223372036854775806 ∧ Bytes w B a len ∧
    w.heap[b]? = some (.cells #[.slice a len cap, .int .i64 i, .int .i64 h] 65 (0, 0))
theorem Cur.carry {B b : Nat} {w w' : World} (h : Cur B b w) (hb : ∀ k, k < B → w'.heap[k]? = w.heap[k]?) (hc : w'.heap[b]? = w.heap[b]?) : Cur B b w' := by
  obtain ⟨h1, a, len, cap, i, h, h2, h3, h4, h5, h6⟩ := h
  exact ⟨h1, a, len, cap, i, h, h2, h3, h4, h5.carry hb, hc.trans h6⟩
theorem Cur.lt {B b : Nat} {w : World} (h : Cur B b w) : b < w.heap.size := by
  obtain ⟨_, a, len, cap, i, h, _, _, _, _, h6⟩ := h
  exact (Array.getElem?_eq_some_iff.1 h6).1
theorem Cur.le {B b : Nat} {w : World} (h : Cur B b w) : B ≤ b := h.1
theorem Cur.alloc {B b : Nat} {w : World} (h : Cur B b w) (o : Obj) : Cur B b (w.alloc o) :=
  h.carry (fun k hk => Below.heap_alloc _ _ _ (by have := h.lt; have := h.le; omega)) (Below.heap_alloc _ _ _ h.lt)
theorem Cur.drew {B b : Nat} {w : World} (h : Cur B b w) : Cur B b w.drew := h.carry (fun _ _ => rfl) rfl
theorem Cur.drewN {B b : Nat} {w : World} (h : Cur B b w) (n : Nat) : Cur B b (w.drewN n) := h.carry (fun _ _ => rfl) rfl

/-- What a draw leaves: a number from lo to hi, the cursor still a cursor, nothing else turned. -/
def Draws (B b : Nat) (w : World) (lo hi : Int) (e : Ending) (w' : World) : Prop := ∃ x : Int, e = .returned (.int .i64 x) ∧ lo ≤ x ∧ x ≤ hi ∧ Cur B b w' ∧ But b w w'

theorem cells_of {w : World} {b : Nat} {x y z : Value} {T : Nat} (h : w.heap[b]? = some (.cells #[x, y, z] T (0, 0))) :
    w.cell? ⟨b, 0, none⟩ = some x ∧ w.cell? ⟨b, 1, none⟩ = some y ∧ w.cell? ⟨b, 2, none⟩ = some z ∧ w.frozen? ⟨b, 1, none⟩ = false ∧ w.frozen? ⟨b, 2, none⟩ = false := by
  refine ⟨?_, ?_, ?_, ?_, ?_⟩ <;> simp [World.cell?, World.frozen?, h]
end Go.Proofs.YtdalncgbbkeimaaGreatDoor.Cu
namespace Go.Proofs.YtdalncgbbkeimaaGreatDoor.Cu
open Go.RowKit

/-- What l1Byte leaves at the end of the bytes: the mix has turned. -/
def EndOf (b : Nat) (w : World) (e : Ending) (w' : World) : Prop := ∃ x h' : Int, e = .returned (.int .i64 x) ∧ 0 ≤ x ∧ x ≤ 255 ∧ w'.heap = (w.setCell ⟨b, 2, none⟩ (.int .i64 h')).heap ∧ w'.os = w.os ∧ w'.tape = w.tape ∧ w'.output = w.output
/-- What it leaves before their end: the place too. -/
def StepOf (b : Nat) (i : Int) (w : World) (e : Ending) (w' : World) : Prop := ∃ x h' : Int, e = .returned (.int .i64 x) ∧ 0 ≤ x ∧ x ≤ 255 ∧ w'.heap = ((w.setCell ⟨b, 2, none⟩ (.int .i64 h')).setCell ⟨b, 1, none⟩ (.int .i64 (i + 1))).heap ∧ w'.os = w.os ∧ w'.tape = w.tape ∧ w'.output = w.output

set_option maxRecDepth 100000 in
set_option maxHeartbeats 1000000 in
theorem byte_end (b : Nat) (a : Option Addr) (cap len : Nat) (i h : Int) (w : World) (h0 : w.cell? ⟨b, 0, none⟩ = some (.slice a len cap)) (h1 : w.cell? ⟨b, 1, none⟩ = some (.int .i64 i)) (h2 : w.cell? ⟨b, 2, none⟩ = some (.int .i64 h)) (f2 : w.frozen? ⟨b, 2, none⟩ = false)
    (hi : ¬ i < (len : Int)) :
    Calls Tryz.prog 63 #[.pointer (some ⟨b, 0, none⟩)] w (EndOf b w) := by
  have A := and255
  go_enter Tryz.func63, Tryz.ntmps63
  go_wp2
  go_quiet (fail)
  go_wp2
  go_quiet (fail)
  go_wp2
  go_ret
  exact ⟨_, _, rfl, Int.emod_nonneg _ (by decide), by omega, rfl, rfl, rfl, rfl⟩
set_option maxRecDepth 100000 in
set_option maxHeartbeats 1000000 in
theorem byte_step (b : Nat) (ab ao cap len : Nat) (i : Nat) (h z : Int) (w : World) (h0 : w.cell? ⟨b, 0, none⟩ = some (.slice (some ⟨ab, ao, none⟩) len cap)) (h1 : w.cell? ⟨b, 1, none⟩ = some (.int .i64 (i : Int))) (h2 : w.cell? ⟨b, 2, none⟩ = some (.int .i64 h)) (f1 : w.frozen? ⟨b, 1, none⟩ = false) (f2 : w.frozen? ⟨b, 2, none⟩ = false)
    (hi : (i : Int) < (len : Int)) (hl : len ≤ 9223372036854775806) (hne : ab ≠ b) (hz : w.cell? ⟨ab, ao + i, none⟩ = some (.int .u8 z)) (z0 : 0 ≤ z) (z1 : z ≤ 255) :
    Calls Tryz.prog 63 #[.pointer (some ⟨b, 0, none⟩)] w (StepOf b i w) := by
  have A := and255
  have p0 : (0 : Int) ≤ (i : Int) := by omega
  have p1 : (i : Int) + 1 ≤ 9223372036854775807 := by omega
  go_enter Tryz.func63, Tryz.ntmps63
  go_wp2
  go_quiet (fail)
  go_wp2
  go_quiet (fail)
  go_wp2
  go_quiet (fail)
  go_wp2
  go_ret
  exact ⟨_, _, rfl, Int.emod_nonneg _ (by decide), by omega, rfl, rfl, rfl, rfl⟩
end Go.Proofs.YtdalncgbbkeimaaGreatDoor.Cu
namespace Go.Proofs.YtdalncgbbkeimaaGreatDoor.Cu
open Go.RowKit

theorem heap_set {w : World} {b : Nat} {x y z : Value} {T : Nat} (h : w.heap[b]? = some (.cells #[x, y, z] T (0, 0))) (v : Value) :
    (w.setCell ⟨b, 2, none⟩ v).heap[b]? = some (.cells #[x, y, v] T (0, 0)) ∧ (w.setCell ⟨b, 1, none⟩ v).heap[b]? = some (.cells #[x, v, z] T (0, 0)) := by
  constructor <;> simp [World.setCell, Array.getElem?_modify, h]

theorem byte_any (B b : Nat) (w : World) (hc : Cur B b w) : Calls Tryz.prog 63 #[.pointer (some ⟨b, 0, none⟩)] w (Draws B b w 0 255) := by
  have hlt := hc.lt
  obtain ⟨hB, a, len, cap, i, h, i0, i1, hl, hb, hh⟩ := hc
  obtain ⟨c0, c1, c2, f1, f2⟩ := cells_of hh
  by_cases hi : i < (len : Int)
  · obtain ⟨n, rfl⟩ := Int.eq_ofNat_of_zero_le i0
    obtain ⟨ab, ao, rfl, hab, hcell⟩ := hb (by omega)
    obtain ⟨z, hz, z0, z1⟩ := hcell n (by omega)
    refine (byte_step b ab ao cap len n h z w c0 c1 c2 f1 f2 hi hl (by omega) hz z0 z1).mono ?_
    rintro e w' ⟨x, h', rfl, x0, x1, hw, ho, ht, hp⟩
    have hset := (heap_set ((heap_set hh (.int .i64 h')).1) (.int .i64 ((n : Int) + 1))).2
    have hoth : ∀ k, k ≠ b → w'.heap[k]? = w.heap[k]? := fun k hk => by
      rw [hw, Below.heap_setCell _ _ _ _ (by simpa using hk), Below.heap_setCell _ _ _ _ (by simpa using hk)]
    refine ⟨x, rfl, x0, x1, ⟨hB, some ⟨ab, ao, none⟩, len, cap, (n : Int) + 1, h', by omega, by omega, hl, ?_, by rw [hw]; exact hset⟩, ⟨ho, ht, hp, by rw [hw]; simp [World.setCell], fun k _ hk => hoth k hk⟩⟩
    exact hb.carry fun k hk => hoth k (by omega)
  · refine (byte_end b a cap len i h w c0 c1 c2 f2 hi).mono ?_
    rintro e w' ⟨x, h', rfl, x0, x1, hw, ho, ht, hp⟩
    have hset := (heap_set hh (.int .i64 h')).1
    have hoth : ∀ k, k ≠ b → w'.heap[k]? = w.heap[k]? := fun k hk => by
      rw [hw, Below.heap_setCell _ _ _ _ (by simpa using hk)]
    refine ⟨x, rfl, x0, x1, ⟨hB, a, len, cap, i, h', i0, i1, hl, ?_, by rw [hw]; exact hset⟩, ⟨ho, ht, hp, by rw [hw]; simp [World.setCell], fun k _ hk => hoth k hk⟩⟩
    exact hb.carry fun k hk => hoth k (by omega)

set_option maxRecDepth 100000 in
set_option maxHeartbeats 400000 in
theorem below_small (B b : Nat) (n : Int) (w : World) (hc : Cur B b w) (n1 : 1 ≤ n) (n2 : n ≤ 256) : Calls Tryz.prog 40 #[.pointer (some ⟨b, 0, none⟩), .int .i64 n] w (Draws B b w 0 (n - 1)) := by
  have HC := Lib.hid hc; clear hc
  go_enter Tryz.func40, Tryz.ntmps40
  go_wp2_with (go_at_call 63; refine (byte_any B b _ HC.out).mono ?_; rintro e w' ⟨x, rfl, x0, x1, hc1, hw1⟩)
  go_ret
  exact ⟨_, rfl, Int.emod_nonneg _ (by omega), by have := Int.emod_lt_of_pos x (show 0 < n by omega); omega, hc1, hw1⟩

set_option maxRecDepth 100000 in
set_option maxHeartbeats 1000000 in
theorem below_big (B b : Nat) (n : Int) (w : World) (hc : Cur B b w) (n1 : 256 < n) (n2 : n ≤ 9223372036854775807) : Calls Tryz.prog 40 #[.pointer (some ⟨b, 0, none⟩), .int .i64 n] w (Draws B b w 0 (n - 1)) := by
  have HC := Lib.hid hc; clear hc
  go_enter Tryz.func40, Tryz.ntmps40
  go_wp2_with fail
  refine (byte_any B b _ HC.out).mono ?_; rintro e w1 ⟨x, rfl, x0, x1, hc1, hw1⟩
  go_wp2_with fail
  refine (byte_any B b _ hc1).mono ?_; rintro e w2 ⟨y, rfl, y0, y1, hc2, hw2⟩
  go_wp2_with fail
  refine (byte_any B b _ hc2).mono ?_; rintro e w3 ⟨z, rfl, z0, z1, hc3, hw3⟩
  go_wp2_with fail
  refine (byte_any B b _ hc3).mono ?_; rintro e w4 ⟨u, rfl, u0, u1, hc4, hw4⟩
  go_wp2_with fail
  go_ret
  exact ⟨_, rfl, Int.emod_nonneg _ (by omega), by have := Int.emod_lt_of_pos (x * 16777216 + y * 65536 + z * 256 + u) (show 0 < n by omega); omega, hc4, ((hw1.trans hw2).trans hw3).trans hw4⟩

theorem below_any (B b : Nat) (n : Int) (w : World) (hc : Cur B b w) (n1 : 1 ≤ n) (n2 : n ≤ 9223372036854775807) : Calls Tryz.prog 40 #[.pointer (some ⟨b, 0, none⟩), .int .i64 n] w (Draws B b w 0 (n - 1)) := by
  by_cases h : n ≤ 256
  · exact below_small B b n w hc n1 h
  · exact below_big B b n w hc (by omega) n2

/-- A draw of a truth value. -/
def DrawsB (B b : Nat) (w : World) (e : Ending) (w' : World) : Prop := ∃ t : Bool, e = .returned (.bool t) ∧ Cur B b w' ∧ But b w w'
theorem once_any (B b : Nat) (n : Int) (w : World) (hc : Cur B b w) (n1 : 1 ≤ n) (n2 : n ≤ 9223372036854775807) : Calls Tryz.prog 21 #[.pointer (some ⟨b, 0, none⟩), .int .i64 n] w (DrawsB B b w) := by
  have HC := Lib.hid hc; clear hc
  go_enter Tryz.func21, Tryz.ntmps21
  go_wp2_with (go_at_call 40; refine (below_any B b _ _ HC.out n1 n2).mono ?_; rintro e w' ⟨x, rfl, x0, x1, hc1, hw1⟩)
  go_ret
  exact ⟨_, rfl, hc1, hw1⟩
end Go.Proofs.YtdalncgbbkeimaaGreatDoor.Cu
namespace Go.Proofs.YtdalncgbbkeimaaGreatDoor.Cu
open Go.RowKit

/-- A slice literal of int64, each from lo to hi, kept while a cursor draws. -/
theorem pick_cell {w w1 : World} {b T : Nat} {vs : Array Value} {lo hi : Int} (hb : b < w.heap.size) (h : But b (w.alloc (.cells vs T)) w1) (hv : ∀ k, k < vs.size → ∃ v : Int, vs[k]? = some (.int .i64 v) ∧ lo ≤ v ∧ v ≤ hi) (k : Nat) (hk : k < vs.size) :
    ∃ v : Int, w1.cell? ⟨w.heap.size, k, none⟩ = some (.int .i64 v) ∧ lo ≤ v ∧ v ≤ hi := by
  obtain ⟨v, h1, h2⟩ := hv k hk
  refine ⟨v, ?_, h2⟩
  have hp : (w.alloc (.cells vs T)).heap[w.heap.size]? = some (.cells vs T) := by show (w.heap.push _)[w.heap.size]? = _; simp
  have hc : (w.alloc (.cells vs T)).cell? ⟨w.heap.size, k, none⟩ = some (.int .i64 v) := by simp only [World.cell?, hp]; exact h1
  exact (h.cell (p := ⟨w.heap.size, k, none⟩) (by simp) (by show w.heap.size ≠ b; omega)).trans hc

set_option maxRecDepth 100000 in
set_option maxHeartbeats 1000000 in
theorem drawWord_any (B b : Nat) (w : World) (hc : Cur B b w) : Calls Tryz.prog 66 #[.pointer (some ⟨b, 0, none⟩)] w (Draws B b w (-2147483648) 2147483647) := by
  have HC := Lib.hid hc; clear hc
  go_enter Tryz.func66, Tryz.ntmps66
  go_wp2_with fail
  refine (below_any B b _ _ HC.out (by decide) (by decide)).mono ?_; rintro e w1 ⟨x, rfl, x0, x1, hc1, hw1⟩
  by_cases h0 : x = 0
  · subst h0
    go_wp2_with fail
    have hlt := hc1.lt
    refine (below_any B b _ _ (hc1.alloc _) (by decide) (by decide)).mono ?_; rintro e w2 ⟨y, rfl, y0, y1, hc2, hw2⟩
    obtain ⟨n, rfl⟩ := Int.eq_ofNat_of_zero_le y0
    obtain ⟨v, hv, v0, v1⟩ := pick_cell (lo := -2147483648) (hi := 2147483647) hlt hw2 (fun k hk => by
      have hk : k < 6 := hk
      match k, hk with
      | 0, _ => exact ⟨_, rfl, by decide, by decide⟩
      | 1, _ => exact ⟨_, rfl, by decide, by decide⟩
      | 2, _ => exact ⟨_, rfl, by decide, by decide⟩
      | 3, _ => exact ⟨_, rfl, by decide, by decide⟩
      | 4, _ => exact ⟨_, rfl, by decide, by decide⟩
      | 5, _ => exact ⟨_, rfl, by decide, by decide⟩) n (by show n < 6; omega)
    have n1 : (n : Int) < 6 := by omega
    go_wp2_with fail
    go_ret
    exact ⟨_, rfl, v0, v1, hc2, hw1.trans (((But.refl b w1).alloc _).trans hw2)⟩
  by_cases h1 : x = 1
  · subst h1
    go_wp2_with fail
    refine (below_any B b _ _ hc1 (by decide) (by decide)).mono ?_; rintro e w2 ⟨y, rfl, y0, y1, hc2, hw2⟩
    go_wp2_with fail
    go_ret
    exact ⟨_, rfl, by omega, by omega, hc2, hw1.trans hw2⟩
  · have e0 : (x == 0) = false := beq_eq_false_iff_ne.2 h0
    have e1 : (x == 1) = false := beq_eq_false_iff_ne.2 h1
    go_wp2_with fail
    refine (below_any B b _ _ hc1 (by decide) (by decide)).mono ?_; rintro e w2 ⟨y, rfl, y0, y1, hc2, hw2⟩
    go_wp2_with fail
    go_ret
    exact ⟨_, rfl, by omega, by omega, hc2, hw1.trans hw2⟩
set_option maxRecDepth 100000 in
set_option maxHeartbeats 1000000 in
theorem drawAny_any (B b : Nat) (w : World) (hc : Cur B b w) : Calls Tryz.prog 79 #[.pointer (some ⟨b, 0, none⟩)] w (Draws B b w (-4611686018427387904) 4611686018427387904) := by
  have HC := Lib.hid hc; clear hc
  go_enter Tryz.func79, Tryz.ntmps79
  go_wp2_with fail
  refine (once_any B b _ _ HC.out (by decide) (by decide)).mono ?_; rintro e w1 ⟨t, rfl, hc1, hw1⟩
  cases t
  · go_wp2_with fail
    refine (drawWord_any B b _ hc1).mono ?_; rintro e w2 ⟨y, rfl, y0, y1, hc2, hw2⟩
    go_wp2_with fail
    go_ret
    exact ⟨_, rfl, by omega, by omega, hc2, hw1.trans hw2⟩
  · go_wp2_with fail
    have hlt := hc1.lt
    refine (below_any B b _ _ (hc1.alloc _) (by decide) (by decide)).mono ?_; rintro e w2 ⟨y, rfl, y0, y1, hc2, hw2⟩
    obtain ⟨n, rfl⟩ := Int.eq_ofNat_of_zero_le y0
    obtain ⟨v, hv, v0, v1⟩ := pick_cell (lo := -4611686018427387904) (hi := 4611686018427387904) hlt hw2 (fun k hk => by
      have hk : k < 4 := hk
      match k, hk with
      | 0, _ => exact ⟨_, rfl, by decide, by decide⟩
      | 1, _ => exact ⟨_, rfl, by decide, by decide⟩
      | 2, _ => exact ⟨_, rfl, by decide, by decide⟩
      | 3, _ => exact ⟨_, rfl, by decide, by decide⟩) n (by show n < 4; omega)
    have n1 : (n : Int) < 4 := by omega
    go_wp2_with fail
    go_ret
    exact ⟨_, rfl, v0, v1, hc2, hw1.trans (((But.refl b w1).alloc _).trans hw2)⟩

/-- The bytes behind a slice that came in. -/
def IsBytes (w : World) (a : Option Addr) (len : Nat) : Prop :=
  len ≤ 9223372036854775806 ∧ Bytes w w.heap.size a len

/-- What l1New leaves: a cursor in a new block. -/
def NewCur (w : World) (e : Ending) (w' : World) : Prop := ∃ b, e = .returned (.pointer (some ⟨b, 0, none⟩)) ∧ Cur w.heap.size b w' ∧ Below w.heap.size w w'
set_option maxRecDepth 100000 in
set_option maxHeartbeats 1000000 in
theorem new_any (w : World) (a : Option Addr) (len cap : Nat) (hb : IsBytes w a len) (hl : len ≤ 4096) : Calls Tryz.prog 19 #[.slice a len cap] w (NewCur w) := by
  have HB := Lib.hid hb; clear hb
  have A := and30
  go_enter Tryz.func19, Tryz.ntmps19
  go_wp2
  go_loop [3, 4] (fun h i => ∃ (k : Nat) (g : Int), k ≤ len ∧ i = .int .i64 k ∧ h = .int .i64 g ∧ 0 ≤ g ∧ g ≤ 2000000000) (fun _ i => len - (intOf i).toNat)
  case atStart => exact ⟨0, _, Nat.zero_le _, rfl, rfl, by omega, by omega⟩
  case round =>
    obtain ⟨k, g, hk, rfl, rfl, g0, g1⟩ := hrel
    by_cases hlt : k < len
    · obtain ⟨ab, ao, ha, hab, hcell⟩ := HB.out.2 (by omega)
      subst ha
      obtain ⟨z, hz, z0, z1⟩ := hcell k hlt
      clear hcell
      go_wp2
      go_round
      case rel => exact ⟨k + 1, _, by omega, by go_num, rfl, Int.emod_nonneg _ (by decide), by omega⟩
      case measure => simp [intOf]; omega
    · go_wp2
      go_ret
      refine ⟨w.heap.size, rfl, ⟨Nat.le_refl _, a, len, cap, 0, g, Int.le_refl _, by omega, by omega, HB.out.2.carry (fun j hj => Below.heap_alloc _ _ _ hj), ?_⟩, (Below.refl _ _).alloc (Nat.le_refl _) _⟩
      show (w.heap.push _)[w.heap.size]? = _
      simp

/-- A drawn int64, in a world that has only grown. -/
def Drawn (w : World) (lo hi : Int) (e : Ending) (w' : World) : Prop := ∃ x : Int, e = .returned (.int .i64 x) ∧ lo ≤ x ∧ x ≤ hi ∧ Below w.heap.size w w'
end Go.Proofs.YtdalncgbbkeimaaGreatDoor.Cu
namespace Go.Proofs.YtdalncgbbkeimaaGreatDoor.Cu
open Go.RowKit
theorem isBytes_of_row {w : World} {a : Option Addr} {len cap : Nat} {zs : List Int} (hl : len ≤ 4096)
    (h : (a = none ∧ len = 0 ∧ cap = 0 ∧ zs = []) ∨ ∃ x, a = some x ∧ len ≤ cap ∧ cap ≤ maxLen ∧ zs.length = cap ∧ (∀ i, i < zs.length → w.cell? (x.add i) = some (.int .u8 (zs.getD i 0))) ∧ ∀ n ∈ zs, (Lit.int .u8 n).wf = true) : IsBytes w a len := by
  refine ⟨by omega, fun h0 => ?_⟩
  rcases h with ⟨_, h, _⟩ | ⟨⟨b, off, spot⟩, rfl, hlen, hm, hz, hcell, hwz⟩
  · omega
  have hc0 := hcell 0 (by omega)
  have hspot : spot = none := by simpa [Addr.add] using World.cell?_spot hc0
  subst hspot
  refine ⟨b, off, rfl, ?_, fun k hk => ?_⟩
  · have := Lib.lt_of_cell hc0
    simpa [Addr.add] using this
  · have hk' : k < zs.length := by omega
    have hadd : Addr.add ⟨b, off, none⟩ k = ⟨b, off + k, none⟩ := by
      cases k with
      | zero => rfl
      | succ k => simp [Addr.add]
    have hv : zs.getD k 0 = zs[k] := by simp [hk']
    have h1 := hcell k hk'
    rw [hadd, hv] at h1
    have h2 := hwz _ (List.getElem_mem hk')
    simp [Lit.wf, IntKind.min, IntKind.max, IntKind.signed, IntKind.bits] at h2
    exact ⟨zs[k], h1, by omega, by omega⟩
theorem big_yes (w : World) (a : Option Addr) (len cap : Nat) (hl : 4096 < len) :
    Calls Tryz.prog 4 #[.slice a len cap] w fun e w' => e = .returned (.bool true) ∧ w = w' := by
  have h : decide ((4096 : Int) < (len : Int)) = true := by simp; omega
  go_enter Tryz.func4, Tryz.ntmps4
  go_wp2
  go_ret
  exact ⟨rfl, rfl⟩
theorem big_no (w : World) (a : Option Addr) (len cap : Nat) (hl : len ≤ 4096) :
    Calls Tryz.prog 4 #[.slice a len cap] w fun e w' => e = .returned (.bool false) ∧ w = w' := by
  have h : decide ((4096 : Int) < (len : Int)) = false := by simp; omega
  go_enter Tryz.func4, Tryz.ntmps4
  go_wp2
  go_ret
  exact ⟨rfl, rfl⟩
end Go.Proofs.YtdalncgbbkeimaaGreatDoor.Cu
namespace Go.Proofs.YtdalncgbbkeimaaGreatDoor.Cu
open Go.RowKit

theorem But.setNew {b : Nat} {x w : World} (h : But b x w) {p : Addr} (hp : x.heap.size ≤ p.block) (u : Value) : But b x (w.setCell p u) :=
  ⟨h.os, h.tape, h.output, by have := h.size; simpa [World.setCell] using this, fun k hk hb => (Below.heap_setCell _ _ _ _ (by omega)).trans (h.block k hk hb)⟩
theorem But.grown {b : Nat} {x w w' : World} {row : Option Nat} (h : But b x w) (hg : w.grownBy w' row) (hr : ∀ k, row = some k → x.heap.size ≤ k) : But b x w' :=
  ⟨hg.os.trans h.os, hg.tape.trans h.tape, hg.output.trans h.output, Nat.le_trans h.size hg.size, fun k hk hb => (hg.block k (Nat.lt_of_lt_of_le hk h.size) (fun e => by have := hr k e.symm; omega)).trans (h.block k hk hb)⟩
theorem But.below' {b : Nat} {x w w' : World} (h : But b x w) (hw : Below w.heap.size w w') : But b x w' :=
  ⟨hw.os.trans h.os, hw.tape.trans h.tape, hw.output.trans h.output, Nat.le_trans h.size hw.size, fun k hk hb => (hw.block k (Nat.lt_of_lt_of_le hk h.size)).trans (h.block k hk hb)⟩

/-- Where a call stands that began in w0 with the cursor b. -/
structure St (w0 : World) (B b : Nat) (w : World) : Prop where
  but : But b w0 w
  cur : Cur B b w
  lt : b < w0.heap.size
theorem St.alloc {w0 w : World} {B b : Nat} (h : St w0 B b w) (o : Obj) : St w0 B b (w.alloc o) := ⟨h.but.alloc o, h.cur.alloc o, h.lt⟩
theorem St.drew {w0 w : World} {B b : Nat} (h : St w0 B b w) : St w0 B b w.drew := ⟨h.but.drew, h.cur.drew, h.lt⟩
theorem St.drewN {w0 w : World} {B b : Nat} (h : St w0 B b w) (n : Nat) : St w0 B b (w.drewN n) := ⟨h.but.drewN n, h.cur.drewN n, h.lt⟩
theorem St.setNew {w0 w : World} {B b : Nat} (h : St w0 B b w) {p : Addr} (hp : w0.heap.size ≤ p.block) (u : Value) : St w0 B b (w.setCell p u) :=
  ⟨h.but.setNew hp u, h.cur.carry (fun k hk => Below.heap_setCell _ _ _ _ (by have := h.cur.le; have := h.lt; omega)) (Below.heap_setCell _ _ _ _ (by have := h.lt; omega)), h.lt⟩
theorem St.grown {w0 w w' : World} {B b : Nat} {row : Option Nat} (h : St w0 B b w) (hg : w.grownBy w' row) (hr : ∀ k, row = some k → w0.heap.size ≤ k) : St w0 B b w' :=
  ⟨h.but.grown hg hr, h.cur.carry (fun k hk => hg.block k (by have := h.cur.le; have := h.cur.lt; omega) (fun e => by have := hr k e.symm; have := h.cur.le; have := h.lt; omega)) (hg.block b h.cur.lt (fun e => by have := hr b e.symm; have := h.lt; omega)), h.lt⟩
theorem St.draws {w0 w w' : World} {B b : Nat} (h : St w0 B b w) (hb : But b w w') (hc : Cur B b w') : St w0 B b w' := ⟨h.but.trans hb, hc, h.lt⟩
theorem St.size {w0 w : World} {B b : Nat} (h : St w0 B b w) : w0.heap.size ≤ w.heap.size := h.but.size

/-- Each of m places from ad on holds a byte. -/
def Src (w : World) (ad : Addr) (m : Nat) : Prop := ∀ j, j < m → ∃ z : Int, w.cell? (ad.add j) = some (.int .u8 z) ∧ 0 ≤ z ∧ z ≤ 255
def IsB (u : Value) : Prop := ∃ z : Int, u = .int .u8 z ∧ 0 ≤ z ∧ z ≤ 255
theorem Src.list {w : World} {ad : Addr} : ∀ {m : Nat}, Src w ad m → ∃ news : List Value, news.length = m * 1 ∧ (∀ j u, news[j]? = some u → w.cell? (ad.add j) = some u) ∧ ∀ u ∈ news, IsB u
  | 0, _ => ⟨[], rfl, fun j u h => by simp at h, fun u h => by cases h⟩
  | m + 1, h => by
    obtain ⟨l, h1, h2, h3⟩ := Src.list (m := m) (fun j hj => h j (by omega))
    obtain ⟨z, hz, z0, z1⟩ := h m (by omega)
    refine ⟨l ++ [.int .u8 z], by simp [h1], fun j u hu => ?_, fun u hu => ?_⟩
    · by_cases hj : j < l.length
      · rw [List.getElem?_append_left hj] at hu; exact h2 j u hu
      · rw [List.getElem?_append_right (by omega)] at hu
        have hj' : j = m := by
          rcases Nat.lt_trichotomy (j - l.length) 0 with g | g | g
          · omega
          · omega
          · rw [List.getElem?_eq_none (by simp; omega)] at hu; cases hu
        subst hj'
        rw [show j - l.length = 0 by omega] at hu
        simp at hu
        rw [← hu]; exact hz
    · rcases List.mem_append.1 hu with g | g
      · exact h3 u g
      · rw [List.mem_singleton] at g; exact ⟨z, g, z0, z1⟩
theorem Src.carry {w w' : World} {ad : Addr} {m : Nat} (h : Src w ad m) (hb : w'.heap[ad.block]? = w.heap[ad.block]?) : Src w' ad m := fun j hj => by
  obtain ⟨z, hz, hr⟩ := h j hj
  have hbl : (ad.add j).block = ad.block := by unfold Addr.add; split <;> rfl
  exact ⟨z, (World.cell?_of_block (w := w) (by rw [hbl]; exact hb)).trans hz, hr⟩

/-- A slice of n bytes that the call has made itself. -/
def OwnB (w0 w : World) (v : Value) (n : Nat) : Prop := v ≠ .slice none 0 0 ∧ ∃ xs, w.ownsRow w0.heap.size 5 1 v n xs ∧ ∀ u ∈ xs, IsB u
theorem OwnB.carry {w0 w w' : World} {v : Value} {n : Nat} {row : Option Nat} (h : OwnB w0 w v n) (hg : w.grownBy w' row) (hne : v.ownBlock ≠ row) : OwnB w0 w' v n := by
  obtain ⟨h0, xs, h1, h2⟩ := h
  exact ⟨h0, xs, h1.kept hg (Or.inr hne), h2⟩
theorem But.grownBy {b : Nat} {w w' : World} (h : But b w w') : w.grownBy w' (some b) := ⟨h.os, h.tape, h.output, h.size, fun k hk hne => h.block k hk (fun e => hne (by rw [e]))⟩
theorem OwnB.draws {w0 w w' : World} {v : Value} {n b : Nat} (h : OwnB w0 w v n) (hb : But b w w') (hlt : b < w0.heap.size) : OwnB w0 w' v n := by
  refine h.carry hb.grownBy (fun e => ?_)
  obtain ⟨h0, xs, h1, h2⟩ := h
  have := (h1.lt b e).1
  omega
theorem OwnB.alloc {w0 w : World} {v : Value} {n : Nat} (h : OwnB w0 w v n) (o : Obj) : OwnB w0 (w.alloc o) v n := by
  obtain ⟨h0, xs, h1, h2⟩ := h
  exact ⟨h0, xs, h1.alloc o, h2⟩
theorem OwnB.drew {w0 w : World} {v : Value} {n : Nat} (h : OwnB w0 w v n) : OwnB w0 w.drew v n := h
theorem OwnB.drewN {w0 w : World} {v : Value} {n : Nat} (h : OwnB w0 w v n) (k : Nat) : OwnB w0 (w.drewN k) v n := h
theorem OwnB.start {w0 w : World} (h : w0.heap.size ≤ w.heap.size) : OwnB w0 (w.alloc (.cells #[] 5)) (.slice (some ⟨w.heap.size, 0, none⟩) 0 0) 0 :=
  ⟨(fun e => by cases e), [], World.ownsRow_made w #[] 0 h (by decide) rfl, fun u hu => by cases hu⟩
/-- Written out: where it lies, and its cells. -/
theorem OwnB.form {w0 w : World} {v : Value} {n : Nat} (h : OwnB w0 w v n) : ∃ g cap, v = .slice (some ⟨g, 0, none⟩) n cap ∧ w0.heap.size ≤ g ∧ g < w.heap.size ∧ n ≤ cap ∧ cap ≤ maxLen ∧ ∀ k, k < n → (∃ z : Int, w.cell? ⟨g, k, none⟩ = some (.int .u8 z) ∧ 0 ≤ z ∧ z ≤ 255) ∧ w.frozen? ⟨g, k, none⟩ = false := by
  obtain ⟨h0, xs, ⟨hl, h1⟩, h2⟩ := h
  rcases h1 with ⟨rfl, _⟩ | ⟨g, cap, cur, rfl, hb, hg, hn, hc, hsz, hxs⟩
  · exact absurd rfl h0
  · refine ⟨g, cap, rfl, hb, (Array.getElem?_eq_some_iff.1 hg).1, hn, hc, fun k hk => ⟨?_, by simp [World.frozen?, hg]⟩⟩
    have hk' : k < xs.length := by omega
    have hm := h2 _ (List.getElem_mem hk')
    obtain ⟨z, hz, z0, z1⟩ := hm
    refine ⟨z, ?_, z0, z1⟩
    have e1 : xs[k]? = some (.int .u8 z) := by rw [List.getElem?_eq_getElem hk', hz]
    rw [← hxs, List.getElem?_take_of_lt (by omega)] at e1
    simpa [World.cell?, hg] using e1

theorem info5 : (Tryz.prog.info? 5).map (fun i => (i.zero, i.size, i.bytes)) = some (some (.int .u8 0), 1, 1) := by kernel_rfl
/-- append of bytes onto a slice that the call has made, as one step of a region that draws its order. -/
theorem step_append_bytes {ops : Array Oper} {o : Oper} {a : Act} {w : World} {K : Act → World → Prop} {Q : Exit → Act → World → Prop} {E : Prop}
    (hg : o.guard = none) (s x : Operand) (hop : o.op = Op.call { callee := Callee.builtin Builtin.append, args := #[s, x], argTypes := #[22, 22] })
    (w0 : World) (v : Value) (n : Nat) (hs : a.eval s = v) (hown : OwnB w0 w v n) (ad : Addr) (m c : Nat) (hx : a.eval x = .slice (some ad) m c) (hsrc : Src w ad m) (hbd : n + m ≤ 1000000) (hbase : w0.heap.size ≤ w.heap.size)
    (hK : ∀ v' w', OwnB w0 w' v' (n + m) → w.grownBy w' v.ownBlock → (v'.ownBlock = v.ownBlock ∨ v'.ownBlock = some w.heap.size) → K (a.put o.dst v') w') :
    if Region.wanted o (yielded ops a.tmps) = true then Oper.wp Tryz.prog o a w K Q else E := by
  have hw : Region.wanted o (yielded ops a.tmps) = true := by simp [Region.wanted, hg]
  rw [if_pos hw]
  obtain ⟨i0, hi, hz0, hz1, hz2⟩ := info_parts info5
  obtain ⟨news, hl, hnews, hB⟩ := hsrc.list
  obtain ⟨h0, xs, h1, h2⟩ := hown
  obtain ⟨v', w', hr, hown', hgr, hnil, hblk⟩ := run_append_own_at (P := Tryz.prog) w w0.heap.size 22 o.type 5 i0 (.int .u8 0) 1 1 Tryz.underlying22 hi hz0 hz1 hz2 rfl (by decide) v n xs h1 ad m c news hl hnews
    (fun u hu => by obtain ⟨z, rfl, _⟩ := hB u hu; rfl) (by unfold maxLen; omega) (by omega) hbase
  unfold Oper.wp execOp
  simp only [hop, resolve, invoke, builtin, Sem.run_bind, Sem.run_pure, Result.andThen_ok, List.map_toArray, List.map_cons, List.map_nil, hs, hx, hr]
  refine hK v' w' ⟨fun e => h0 (hnil.1 e).1, xs ++ news, hown', fun u hu => ?_⟩ hgr hblk
  rcases List.mem_append.1 hu with g | g
  · exact h2 u g
  · exact hB u g
end Go.Proofs.YtdalncgbbkeimaaGreatDoor.Cu
