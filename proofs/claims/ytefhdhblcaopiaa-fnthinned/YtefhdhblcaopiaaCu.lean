/-
  Contracts of the cursor (spec.l1Cur): whatever it draws lies in its range, it writes its own block alone, and it stays a cursor.
-/
import Derived.Test.YtefhdhblcaopiaaRows
import Derived.WalkKit
import Derived.WalkSpells
import Derived.IntWalk
import Derived.Below
import Derived.Lib.Hide
import Derived.Laws.Bits128
import Derived.Deep.QuietTactic
import Derived.BigQuiet
namespace Go.Proofs.Ytefhdhblcaopiaa.Cu
open Go.RowKit

theorem and_mask (m : Nat) (hm : m ≤ 32) (n : Int) (c : Int) (hc : c = 2 ^ m - 1) : bits .and .i64 n c = n % 2 ^ m := by
  have h2 : (BitVec.ofInt 64 c).toNat = 2 ^ m - 1 := by
    have hp : 2 ^ m ≤ 2 ^ 32 := Nat.pow_le_pow_right (by decide) hm
    have hp' : (2 : Int) ^ m = ((2 ^ m : Nat) : Int) := by simp
    have h1 : 1 ≤ 2 ^ m := Nat.one_le_two_pow
    rw [BitVec.toNat_ofInt, hc, hp']
    omega
  have key : (BitVec.ofInt 64 n &&& BitVec.ofInt 64 c).toNat = (n % ((2 ^ 64 : Nat) : Int)).toNat % 2 ^ m := by
    rw [BitVec.toNat_and, BitVec.toNat_ofInt, h2, Nat.and_two_pow_sub_one_eq_mod]
  show IntKind.i64.wrap ((BitVec.ofInt 64 n &&& BitVec.ofInt 64 c).toNat : Nat) = n % 2 ^ m
  rw [key, IntKind.wrap_i64]
  have hd : ((2 ^ m : Nat) : Int) ∣ ((2 ^ 64 : Nat) : Int) := Int.natCast_dvd_natCast.2 (Nat.pow_dvd_pow 2 (by omega))
  have hp' : (2 : Int) ^ m = ((2 ^ m : Nat) : Int) := by simp
  have e1 : (((n % ((2 ^ 64 : Nat) : Int)).toNat % 2 ^ m : Nat) : Int) = n % 2 ^ m := by
    rw [Int.natCast_emod, Int.toNat_of_nonneg (Int.emod_nonneg _ (by decide)), Int.emod_emod_of_dvd _ hd, hp']
  rw [e1]
  have hpos : 0 < (2 : Int) ^ m := by rw [hp']; exact Int.natCast_pos.2 (Nat.two_pow_pos m)
  have b0 := Int.emod_nonneg n (Int.ne_of_gt hpos)
  have b1 := Int.emod_lt_of_pos n hpos
  have b2 : (2 : Int) ^ m ≤ 4294967296 := by rw [hp']; have := Nat.pow_le_pow_right (n := 2) (by decide) hm; omega
  omega
theorem and255 (n : Int) : bits .and .i64 n 255 = n % 256 := and_mask 8 (by decide) n 255 (by decide)
theorem and30 (n : Int) : bits .and .i64 n 1073741823 = n % 1073741824 := and_mask 30 (by decide) n 1073741823 (by decide)

/-- Of what was there only block b may have turned. -/
structure But (b : Nat) (w w' : World) : Prop where
  os : w'.os = w.os
  tape : w'.tape = w.tape
  output : w'.output = w.output
  size : w.heap.size ≤ w'.heap.size
  block : ∀ k, k < w.heap.size → k ≠ b → w'.heap[k]? = w.heap[k]?
theorem But.refl (b : Nat) (w : World) : But b w w := ⟨rfl, rfl, rfl, Nat.le_refl _, fun _ _ _ => rfl⟩
theorem But.trans {b : Nat} {x y z : World} (h : But b x y) (k : But b y z) : But b x z :=
  ⟨k.os.trans h.os, k.tape.trans h.tape, k.output.trans h.output, Nat.le_trans h.size k.size, fun i hi hb => (k.block i (Nat.lt_of_lt_of_le hi h.size) hb).trans (h.block i hi hb)⟩
theorem But.drew {b : Nat} {x w : World} (h : But b x w) : But b x w.drew := ⟨h.os, h.tape, h.output, h.size, h.block⟩
theorem But.drewN {b : Nat} {x w : World} (h : But b x w) (n : Nat) : But b x (w.drewN n) := ⟨h.os, h.tape, h.output, h.size, h.block⟩
theorem But.setCell {b : Nat} {x w : World} (h : But b x w) {p : Addr} (hp : p.block = b) (u : Value) : But b x (w.setCell p u) :=
  h.trans ⟨rfl, rfl, rfl, by simp [World.setCell], fun k _ hk => Below.heap_setCell _ _ _ _ (by omega)⟩
theorem But.alloc {b : Nat} {x w : World} (h : But b x w) (o : Obj) : But b x (w.alloc o) :=
  h.trans ⟨rfl, rfl, rfl, by simp, fun k hk _ => Below.heap_alloc _ _ _ hk⟩
theorem But.below {b B : Nat} {w w' : World} (h : But b w w') (hB : B ≤ b) (hs : B ≤ w.heap.size) : Below B w w' :=
  ⟨h.os, h.tape, h.output, h.size, fun k hk => h.block k (by omega) (by omega)⟩
theorem But.cell {b : Nat} {w w' : World} (h : But b w w') {p : Addr} (hp : p.block < w.heap.size) (hb : p.block ≠ b) : w'.cell? p = w.cell? p := World.cell?_of_block (w := w) (h.block p.block hp hb)
theorem But.frozen {b : Nat} {w w' : World} (h : But b w w') {p : Addr} (hp : p.block < w.heap.size) (hb : p.block ≠ b) : w'.frozen? p = w.frozen? p := World.frozen?_of_block (w := w) (h.block p.block hp hb)

/-- The bytes behind a slice that lies below B: each place holds some byte. -/
def Bytes (w : World) (B : Nat) (a : Option Addr) (len : Nat) : Prop :=
  0 < len → ∃ ab ao, a = some ⟨ab, ao, none⟩ ∧ ab < B ∧ ∀ k, k < len → ∃ z : Int, w.cell? ⟨ab, ao + k, none⟩ = some (.int .u8 z) ∧ 0 ≤ z ∧ z ≤ 255
theorem Bytes.carry {w w' : World} {B : Nat} {a : Option Addr} {len : Nat} (h : Bytes w B a len) (hb : ∀ k, k < B → w'.heap[k]? = w.heap[k]?) : Bytes w' B a len := by
  intro hl
  obtain ⟨ab, ao, h1, h2, h3⟩ := h hl
  refine ⟨ab, ao, h1, h2, fun k hk => ?_⟩
  obtain ⟨z, h4, h5⟩ := h3 k hk
  exact ⟨z, (World.cell?_of_block (w := w) (hb ab h2)).trans h4, h5⟩
/-- Block b is a cursor over bytes that lie below B. -/
def Cur (B b : Nat) (w : World) : Prop :=
  B ≤ b ∧ ∃ (a : Option Addr) (len cap : Nat) (i h : Int), 0 ≤ i ∧ i ≤ len ∧ len ≤ 9223372036854775806 ∧ Bytes w B a len ∧
    w.heap[b]? = some (.cells #[.slice a len cap, .int .i64 i, .int .i64 h] 126 (0, 0))
theorem Cur.carry {B b : Nat} {w w' : World} (h : Cur B b w) (hb : ∀ k, k < B → w'.heap[k]? = w.heap[k]?) (hc : w'.heap[b]? = w.heap[b]?) : Cur B b w' := by
  obtain ⟨h1, a, len, cap, i, h, h2, h3, h4, h5, h6⟩ := h
  exact ⟨h1, a, len, cap, i, h, h2, h3, h4, h5.carry hb, hc.trans h6⟩
theorem Cur.lt {B b : Nat} {w : World} (h : Cur B b w) : b < w.heap.size := by
  obtain ⟨_, a, len, cap, i, h, _, _, _, _, h6⟩ := h
  exact (Array.getElem?_eq_some_iff.1 h6).1
theorem Cur.le {B b : Nat} {w : World} (h : Cur B b w) : B ≤ b := h.1
theorem Cur.alloc {B b : Nat} {w : World} (h : Cur B b w) (o : Obj) : Cur B b (w.alloc o) :=
  h.carry (fun k hk => Below.heap_alloc _ _ _ (by have := h.lt; have := h.le; omega)) (Below.heap_alloc _ _ _ h.lt)
theorem Cur.drew {B b : Nat} {w : World} (h : Cur B b w) : Cur B b w.drew := h.carry (fun _ _ => rfl) rfl
theorem Cur.drewN {B b : Nat} {w : World} (h : Cur B b w) (n : Nat) : Cur B b (w.drewN n) := h.carry (fun _ _ => rfl) rfl

/-- What a draw leaves: a number from lo to hi, the cursor still a cursor, nothing else turned. -/
def Draws (B b : Nat) (w : World) (lo hi : Int) (e : Ending) (w' : World) : Prop := ∃ x : Int, e = .returned (.int .i64 x) ∧ lo ≤ x ∧ x ≤ hi ∧ Cur B b w' ∧ But b w w'

theorem cells_of {w : World} {b : Nat} {x y z : Value} {T : Nat} (h : w.heap[b]? = some (.cells #[x, y, z] T (0, 0))) :
    w.cell? ⟨b, 0, none⟩ = some x ∧ w.cell? ⟨b, 1, none⟩ = some y ∧ w.cell? ⟨b, 2, none⟩ = some z ∧ w.frozen? ⟨b, 1, none⟩ = false ∧ w.frozen? ⟨b, 2, none⟩ = false := by
  refine ⟨?_, ?_, ?_, ?_, ?_⟩ <;> simp [World.cell?, World.frozen?, h]
end Go.Proofs.Ytefhdhblcaopiaa.Cu
