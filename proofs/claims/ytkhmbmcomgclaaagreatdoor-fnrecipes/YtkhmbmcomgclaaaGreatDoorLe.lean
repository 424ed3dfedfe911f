/-
  Exact draws: the cursor's state (Lc.S: bytes left, mix) behind each draw: spec.l1Byte, l1Below, l1Once, l1DrawWord, l2DrawName. (Made by gen_le.py.)
-/
import Derived.Test.YtkhmbmcomgclaaaGreatDoorKs
import Derived.Test.YtkhmbmcomgclaaaGreatDoorLc
namespace Go.Proofs.YtkhmbmcomgclaaaGreatDoor.Cu
open Go.RowKit Lc Kp
set_option linter.unusedVariables false
/-- The bytes behind a slice that lies below B are these. -/
def Bz (w : World) (B : Nat) (a : Option Addr) (zs : List Int) : Prop :=
  0 < zs.length → ∃ ab ao, a = some ⟨ab, ao, none⟩ ∧ ab < B ∧ ∀ k z, zs[k]? = some z → w.cell? ⟨ab, ao + k, none⟩ = some (.int .u8 z) ∧ 0 ≤ z ∧ z ≤ 255
theorem Bz.carry {w w' : World} {B : Nat} {a : Option Addr} {zs : List Int} (h : Bz w B a zs) (hb : ∀ k, k < B → w'.heap[k]? = w.heap[k]?) : Bz w' B a zs := by
  intro hl
  obtain ⟨ab, ao, h1, h2, h3⟩ := h hl
  refine ⟨ab, ao, h1, h2, fun k z hk => ?_⟩
  obtain ⟨h4, h5⟩ := h3 k z hk
  exact ⟨(World.cell?_of_block (w := w) (hb ab h2)).trans h4, h5⟩
theorem Bz.bytes {w : World} {B : Nat} {a : Option Addr} {zs : List Int} (h : Bz w B a zs) : Bytes w B a zs.length := by
  intro hl
  obtain ⟨ab, ao, h1, h2, h3⟩ := h hl
  exact ⟨ab, ao, h1, h2, fun k hk => ⟨zs[k], h3 k zs[k] (List.getElem?_eq_getElem hk)⟩⟩
theorem Bytes.exact {w : World} {B : Nat} {a : Option Addr} : ∀ {len : Nat}, Bytes w B a len → ∃ zs : List Int, zs.length = len ∧ Bz w B a zs
  | 0, _ => ⟨[], rfl, fun h => absurd h (by simp)⟩
  | n + 1, h => by
    obtain ⟨ab, ao, h1, h2, h3⟩ := h (by omega)
    obtain ⟨zs, hz, hb⟩ := Bytes.exact (len := n) (fun hl => ⟨ab, ao, h1, h2, fun k hk => h3 k (by omega)⟩)
    obtain ⟨z, hc⟩ := h3 n (by omega)
    refine ⟨zs ++ [z], by simp [hz], fun _ => ⟨ab, ao, h1, h2, fun k y hk => ?_⟩⟩
    by_cases hk' : k < zs.length
    · rw [List.getElem?_append_left hk'] at hk
      obtain ⟨ab', ao', h1', -, h3'⟩ := hb (by omega)
      rw [h1] at h1'; cases h1'
      exact h3' k y hk
    · rw [List.getElem?_append_right (by omega)] at hk
      have : k - zs.length = 0 := by
        rcases Nat.eq_zero_or_pos (k - zs.length) with g | g
        · exact g
        · rw [List.getElem?_eq_none (by simp; omega)] at hk; cases hk
      rw [this] at hk
      cases hk
      rw [show k = n by omega]; exact hc
/-- Block b is a cursor over bytes that lie below B, in this state. -/
def CurE (B b : Nat) (s : S) (w : World) : Prop :=
  B ≤ b ∧ ∃ (a : Option Addr) (len cap i : Nat) (h : Int) (zs : List Int), zs.length = len ∧ i ≤ len ∧ len ≤ 9223372036854775806 ∧ s = (zs.drop i, h) ∧ Bz w B a zs ∧
    w.heap[b]? = some (.cells #[.slice a len cap, .int .i64 i, .int .i64 h] 74 (0, 0))
theorem CurE.carry {B b : Nat} {s : S} {w w' : World} (h : CurE B b s w) (hb : ∀ k, k < B → w'.heap[k]? = w.heap[k]?) (hc : w'.heap[b]? = w.heap[b]?) : CurE B b s w' := by
  obtain ⟨h1, a, len, cap, i, h, zs, h2, h3, h4, h5, h6, h7⟩ := h
  exact ⟨h1, a, len, cap, i, h, zs, h2, h3, h4, h5, h6.carry hb, hc.trans h7⟩
theorem CurE.cur {B b : Nat} {s : S} {w : World} (h : CurE B b s w) : Cur B b w := by
  obtain ⟨h1, a, len, cap, i, h, zs, h2, h3, h4, h5, h6, h7⟩ := h
  exact ⟨h1, a, len, cap, i, h, by omega, by omega, h4, h2 ▸ h6.bytes, h7⟩
theorem Cur.exact {B b : Nat} {w : World} (h : Cur B b w) : ∃ s, CurE B b s w := by
  obtain ⟨h1, a, len, cap, i, h, h2, h3, h4, h5, h6⟩ := h
  obtain ⟨n, rfl⟩ := Int.eq_ofNat_of_zero_le h2
  obtain ⟨zs, hz, hb⟩ := h5.exact
  exact ⟨_, h1, a, len, cap, n, h, zs, hz, by omega, h4, rfl, hb, h6⟩
theorem CurE.lt {B b : Nat} {s : S} {w : World} (h : CurE B b s w) : b < w.heap.size := h.cur.lt
theorem CurE.le {B b : Nat} {s : S} {w : World} (h : CurE B b s w) : B ≤ b := h.1
theorem CurE.alloc {B b : Nat} {s : S} {w : World} (h : CurE B b s w) (o : Obj) : CurE B b s (w.alloc o) :=
  h.carry (fun k hk => Below.heap_alloc _ _ _ (by have := h.lt; have := h.le; omega)) (Below.heap_alloc _ _ _ h.lt)
/-- A draw that gives this number and leaves this state. -/
def DrawsE (B b : Nat) (w : World) (r : Int × S) (e : Ending) (w' : World) : Prop := e = .returned (.int .i64 r.1) ∧ CurE B b r.2 w' ∧ But b w w'

/-- What l1Byte leaves at the end of the bytes. -/
def EndE (b : Nat) (h : Int) (w : World) (e : Ending) (w' : World) : Prop := e = .returned (.int .i64 (X (F h))) ∧ w'.heap = (w.setCell ⟨b, 2, none⟩ (.int .i64 (F h))).heap ∧ w'.os = w.os ∧ w'.tape = w.tape ∧ w'.output = w.output
def StepE (b : Nat) (i h z : Int) (w : World) (e : Ending) (w' : World) : Prop := e = .returned (.int .i64 ((X (F h) + z) % 256)) ∧ w'.heap = ((w.setCell ⟨b, 2, none⟩ (.int .i64 (F h))).setCell ⟨b, 1, none⟩ (.int .i64 (i + 1))).heap ∧ w'.os = w.os ∧ w'.tape = w.tape ∧ w'.output = w.output
set_option maxRecDepth 100000 in
set_option maxHeartbeats 1000000 in
theorem byteE_end (b : Nat) (a : Option Addr) (cap len : Nat) (i h : Int) (w : World) (h0 : w.cell? ⟨b, 0, none⟩ = some (.slice a len cap)) (h1 : w.cell? ⟨b, 1, none⟩ = some (.int .i64 i)) (h2 : w.cell? ⟨b, 2, none⟩ = some (.int .i64 h)) (f2 : w.frozen? ⟨b, 2, none⟩ = false)
    (hi : ¬ i < (len : Int)) :
    Calls Tryz.prog 80 #[.pointer (some ⟨b, 0, none⟩)] w (EndE b h w) := by
  have A := and255
  go_enter Tryz.func80, Tryz.ntmps80
  go_wp2
  go_quiet (fail)
  go_wp2
  go_quiet (fail)
  go_wp2
  go_ret
  exact ⟨rfl, rfl, rfl, rfl, rfl⟩
set_option maxRecDepth 100000 in
set_option maxHeartbeats 1000000 in
theorem byteE_step (b : Nat) (ab ao cap len : Nat) (i : Nat) (h z : Int) (w : World) (h0 : w.cell? ⟨b, 0, none⟩ = some (.slice (some ⟨ab, ao, none⟩) len cap)) (h1 : w.cell? ⟨b, 1, none⟩ = some (.int .i64 (i : Int))) (h2 : w.cell? ⟨b, 2, none⟩ = some (.int .i64 h)) (f1 : w.frozen? ⟨b, 1, none⟩ = false) (f2 : w.frozen? ⟨b, 2, none⟩ = false)
    (hi : (i : Int) < (len : Int)) (hl : len ≤ 9223372036854775806) (hne : ab ≠ b) (hz : w.cell? ⟨ab, ao + i, none⟩ = some (.int .u8 z)) (z0 : 0 ≤ z) (z1 : z ≤ 255) :
    Calls Tryz.prog 80 #[.pointer (some ⟨b, 0, none⟩)] w (StepE b i h z w) := by
  have A := and255
  have p0 : (0 : Int) ≤ (i : Int) := by omega
  have p1 : (i : Int) + 1 ≤ 9223372036854775807 := by omega
  go_enter Tryz.func80, Tryz.ntmps80
  go_wp2
  go_quiet (fail)
  go_wp2
  go_quiet (fail)
  go_wp2
  go_quiet (fail)
  go_wp2
  go_ret
  refine ⟨?_, rfl, rfl, rfl, rfl⟩
  simp [Array.getD]
  unfold X F
  omega
theorem byteE (B b : Nat) (s : S) (w : World) (hc : CurE B b s w) : Calls Tryz.prog 80 #[.pointer (some ⟨b, 0, none⟩)] w (DrawsE B b w (byteM s)) := by
  have hlt := hc.lt
  obtain ⟨hB, a, len, cap, i, h, zs, hz, hi, hl, rfl, hb, hh⟩ := hc
  obtain ⟨c0, c1, c2, f1, f2⟩ := cells_of hh
  by_cases hlen : i < len
  · obtain ⟨ab, ao, rfl, hab, hcell⟩ := hb (by omega)
    have hd : zs.drop i = zs[i] :: zs.drop (i + 1) := List.drop_eq_getElem_cons (by omega)
    obtain ⟨hzc, z0, z1⟩ := hcell i zs[i] (List.getElem?_eq_getElem (by omega))
    rw [hd]
    refine (byteE_step b ab ao cap len i h zs[i] w c0 c1 c2 f1 f2 (by omega) hl (by omega) hzc z0 z1).mono ?_
    rintro e w' ⟨rfl, hw, ho, ht, hp⟩
    have hset := (heap_set ((heap_set hh (.int .i64 (F h))).1) (.int .i64 ((i : Int) + 1))).2
    have hoth : ∀ k, k ≠ b → w'.heap[k]? = w.heap[k]? := fun k hk => by
      rw [hw, Below.heap_setCell _ _ _ _ (by simpa using hk), Below.heap_setCell _ _ _ _ (by simpa using hk)]
    exact ⟨rfl, ⟨hB, some ⟨ab, ao, none⟩, len, cap, i + 1, F h, zs, hz, by omega, hl, rfl, hb.carry fun k hk => hoth k (by omega), by rw [hw]; exact hset⟩, ⟨ho, ht, hp, by rw [hw]; simp [World.setCell], fun k _ hk => hoth k hk⟩⟩
  · have hd : zs.drop i = [] := List.drop_eq_nil_iff.2 (by omega)
    rw [hd]
    refine (byteE_end b a cap len i h w c0 c1 c2 f2 (by omega)).mono ?_
    rintro e w' ⟨rfl, hw, ho, ht, hp⟩
    have hset := (heap_set hh (.int .i64 (F h))).1
    have hoth : ∀ k, k ≠ b → w'.heap[k]? = w.heap[k]? := fun k hk => by
      rw [hw, Below.heap_setCell _ _ _ _ (by simpa using hk)]
    exact ⟨rfl, ⟨hB, a, len, cap, i, F h, zs, hz, hi, hl, by show (([], F h) : S) = (zs.drop i, F h); rw [hd], hb.carry fun k hk => hoth k (by omega), by rw [hw]; exact hset⟩, ⟨ho, ht, hp, by rw [hw]; simp [World.setCell], fun k _ hk => hoth k hk⟩⟩
theorem byteM_range (s : S) : 0 ≤ (byteM s).1 ∧ (byteM s).1 ≤ 255 := by
  obtain ⟨r, h⟩ := s
  cases r with
  | nil => show 0 ≤ X (F h) ∧ X (F h) ≤ 255; unfold X; omega
  | cons z r => show 0 ≤ (X (F h) + z) % 256 ∧ (X (F h) + z) % 256 ≤ 255; omega
theorem belowM_range {n : Int} (h1 : 1 ≤ n) (s : S) : 0 ≤ (belowM n s).1 ∧ (belowM n s).1 ≤ n - 1 := by
  have key : ∀ x : Int, 0 ≤ x % n ∧ x % n ≤ n - 1 := fun x => by
    have := Int.emod_nonneg x (show n ≠ 0 by omega)
    have := Int.emod_lt_of_pos x (show 0 < n by omega)
    omega
  unfold belowM
  split
  · exact key _
  · exact key _
set_option maxRecDepth 100000 in
set_option maxHeartbeats 400000 in
theorem belowE_small (B b : Nat) (n : Int) (s : S) (w : World) (hc : CurE B b s w) (n1 : 1 ≤ n) (n2 : n ≤ 256) : Calls Tryz.prog 57 #[.pointer (some ⟨b, 0, none⟩), .int .i64 n] w (DrawsE B b w (belowM n s)) := by
  have HC := Lib.hid (byteE B b s w hc); clear hc
  have HR := byteM_range s
  have HM := Lib.hid (show belowM n s = ((byteM s).1 % n, (byteM s).2) by unfold belowM; rw [if_pos n2])
  generalize belowM n s = r at *
  generalize byteM s = q at *
  obtain ⟨x, s1⟩ := q
  dsimp only at HR HM
  go_enter Tryz.func57, Tryz.ntmps57
  go_wp2_with (go_at_call 80; refine HC.out.mono ?_; rintro e w' ⟨rfl, hc1, hw1⟩)
  go_ret
  rw [HM.out]
  exact ⟨rfl, hc1, hw1⟩
set_option maxRecDepth 100000 in
set_option maxHeartbeats 1000000 in
theorem belowE_big (B b : Nat) (n : Int) (s : S) (w : World) (hc : CurE B b s w) (n1 : 256 < n) (n2 : n ≤ 9223372036854775807) : Calls Tryz.prog 57 #[.pointer (some ⟨b, 0, none⟩), .int .i64 n] w (DrawsE B b w (belowM n s)) := by
  have HC := Lib.hid (byteE B b s w hc); clear hc
  have HM := Lib.hid (show belowM n s = (let a := byteM s; let b := byteM a.2; let c := byteM b.2; let d := byteM c.2; ((a.1 * 16777216 + b.1 * 65536 + c.1 * 256 + d.1) % n, d.2)) by unfold belowM; rw [if_neg (by omega)])
  generalize belowM n s = r at *
  have R1 := byteM_range s
  generalize byteM s = q at *
  obtain ⟨x, s1⟩ := q
  dsimp only at R1 HM
  go_enter Tryz.func57, Tryz.ntmps57
  go_wp2_with fail
  refine HC.out.mono ?_; rintro e w1 ⟨rfl, hc1, hw1⟩
  have HC1 := Lib.hid (byteE B b s1 w1 hc1); clear hc1
  have R2 := byteM_range s1
  generalize byteM s1 = q at *
  obtain ⟨y, s2⟩ := q
  dsimp only at R2 HM
  go_wp2_with fail
  refine HC1.out.mono ?_; rintro e w2 ⟨rfl, hc2, hw2⟩
  have HC2 := Lib.hid (byteE B b s2 w2 hc2); clear hc2
  have R3 := byteM_range s2
  generalize byteM s2 = q at *
  obtain ⟨z, s3⟩ := q
  dsimp only at R3 HM
  go_wp2_with fail
  refine HC2.out.mono ?_; rintro e w3 ⟨rfl, hc3, hw3⟩
  have HC3 := Lib.hid (byteE B b s3 w3 hc3); clear hc3
  have R4 := byteM_range s3
  generalize byteM s3 = q at *
  obtain ⟨u, s4⟩ := q
  dsimp only at R4 HM
  go_wp2_with fail
  refine HC3.out.mono ?_; rintro e w4 ⟨rfl, hc4, hw4⟩
  go_wp2_with fail
  go_ret
  rw [HM.out]
  exact ⟨rfl, hc4, ((hw1.trans hw2).trans hw3).trans hw4⟩
theorem belowE (B b : Nat) (n : Int) (s : S) (w : World) (hc : CurE B b s w) (n1 : 1 ≤ n) (n2 : n ≤ 9223372036854775807) : Calls Tryz.prog 57 #[.pointer (some ⟨b, 0, none⟩), .int .i64 n] w (DrawsE B b w (belowM n s)) := by
  by_cases h : n ≤ 256
  · exact belowE_small B b n s w hc n1 h
  · exact belowE_big B b n s w hc (by omega) n2
/-- A draw of a truth value. -/
def DrawsBE (B b : Nat) (w : World) (r : Int × S) (e : Ending) (w' : World) : Prop := e = .returned (.bool (r.1 == 0)) ∧ CurE B b r.2 w' ∧ But b w w'
set_option maxRecDepth 100000 in
theorem onceE (B b : Nat) (n : Int) (s : S) (w : World) (hc : CurE B b s w) (n1 : 1 ≤ n) (n2 : n ≤ 9223372036854775807) : Calls Tryz.prog 35 #[.pointer (some ⟨b, 0, none⟩), .int .i64 n] w (DrawsBE B b w (belowM n s)) := by
  have HC := Lib.hid (belowE B b n s w hc n1 n2); clear hc
  generalize belowM n s = r at *
  obtain ⟨x, s1⟩ := r
  go_enter Tryz.func35, Tryz.ntmps35
  go_wp2_with (go_at_call 57; refine HC.out.mono ?_; rintro e w' ⟨rfl, hc1, hw1⟩)
  go_ret
  exact ⟨rfl, hc1, hw1⟩
end Go.Proofs.YtkhmbmcomgclaaaGreatDoor.Cu
