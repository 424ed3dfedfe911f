/-
  Slices of texts of a call's own: laws.eqStringS and laws.likeTexts find equal ones equal, laws.markStringS marks each place, laws.heldStringS finds the marks.
  laws.markStringS turns the row that it marks, and nothing else that was there.
-/
import Derived.Test.YtfnnoehpahdgcaaGreatDoorTx
import Derived.Test.YtfnnoehpahdgcaaGreatDoorDg
import Derived.Test.YtfnnoehpahdgcaaGreatDoorYb
namespace Go.Proofs.YtfnnoehpahdgcaaGreatDoor.Nx
open Go.RowKit Wd Rp Kp
set_option linter.unusedVariables false
/-- A slice of these texts that the call has made, or none at all. -/
def OwT (B : Nat) (w : World) (v : Value) (l : List (List UInt8)) : Prop := w.ownsRow B 9 1 v l.length (l.map fun p => .string (tx p))
theorem row_below {B : Nat} {e : TypeId} {k : Nat} {v : Value} {n : Nat} {xs : List Value} {w w' : World} (h : w.ownsRow B e k v n xs) (hb : Below w.heap.size w w') : w'.ownsRow B e k v n xs := by
  obtain ⟨h1, h2⟩ := h
  refine ⟨h1, ?_⟩
  rcases h2 with h2 | ⟨g, cap, cur, hv, hB, hg, h3⟩
  · exact .inl h2
  · exact .inr ⟨g, cap, cur, hv, hB, (hb.block g (Array.getElem?_eq_some_iff.1 hg).1).trans hg, h3⟩
theorem OwT.snoc {B : Nat} {w : World} {v : Value} {l : List (List UInt8)} {p : List UInt8} (h : w.ownsRow B 9 1 v (l.length + 1) ((l.map fun p => .string (tx p)) ++ [.string (tx p)])) : OwT B w v (l ++ [p]) := by
  unfold OwT; rw [List.length_append, List.length_singleton, List.map_append]; exact h
theorem OwT.next {B : Nat} {w w' : World} {v : Value} {l : List (List UInt8)} (h : OwT B w v l) (hb : Below w.heap.size w w') : OwT B w' v l := row_below h hb
theorem OwT.mono {B C : Nat} {w : World} {v : Value} {l : List (List UInt8)} (h : OwT B w v l) (hC : C ≤ B) : OwT C w v l := by
  obtain ⟨h1, h2⟩ := h
  refine ⟨h1, ?_⟩
  rcases h2 with h2 | ⟨g, cap, cur, hv, hB, h3⟩
  · exact .inl h2
  · exact .inr ⟨g, cap, cur, hv, Nat.le_trans hC hB, h3⟩
theorem OwT.form {B : Nat} {w : World} {v : Value} {l : List (List UInt8)} (h : OwT B w v l) : ∃ a cap, v = .slice a l.length cap ∧
    ∀ k, k < l.length → ∃ g x, a = some ⟨g, 0, none⟩ ∧ B ≤ g ∧ g < w.heap.size ∧ l[k]? = some x ∧ w.cell? ⟨g, k, none⟩ = some (.string (tx x)) ∧ w.frozen? ⟨g, k, none⟩ = false := by
  obtain ⟨h1, h2⟩ := h
  rcases h2 with ⟨rfl, hn⟩ | ⟨g, cap, cur, rfl, hB, hg, hn, hc, hsz, hxs⟩
  · exact ⟨none, 0, by rw [hn], fun k hk => by omega⟩
  · refine ⟨_, cap, rfl, fun k hk => ⟨g, l[k], rfl, hB, (Array.getElem?_eq_some_iff.1 hg).1, List.getElem?_eq_getElem hk, ?_, by simp [World.frozen?, hg]⟩⟩
    have e1 : (l.map fun p => Value.string (tx p))[k]? = some (.string (tx l[k])) := by rw [List.getElem?_map, List.getElem?_eq_getElem hk]; rfl
    rw [← hxs, List.getElem?_take_of_lt (by omega)] at e1
    simpa [World.cell?, hg] using e1
set_option maxHeartbeats 2000000 in
theorem eqStringS_same {B C : Nat} {v u : Value} {l : List (List UInt8)} (w : World) (hv : OwT B w v l) (hu : OwT C w u l) (hl : l.length ≤ 4194304) :
    Calls Tryz.prog 33 #[v, u] w fun e w' => e = .returned (.bool true) ∧ Below w.heap.size w w' := by
  obtain ⟨a, ca, rfl, ha⟩ := hv.form
  obtain ⟨b, cb, rfl, hb⟩ := hu.form
  have HV := Lib.hid ha; clear ha hv
  have HU := Lib.hid hb; clear hb hu
  have q0 : ((l.length : Int) != (l.length : Int)) = false := by simp
  generalize hn : l.length = n at *
  go_enter Tryz.func33, Tryz.ntmps33
  go_wp2
  go_loopw [5] (fun i wr => ∃ k : Nat, k ≤ n ∧ i = .int .i64 k ∧ Below w.heap.size w wr) (fun i _ => n - intV i)
  case atStart => exact ⟨0, Nat.zero_le _, rfl, Below.refl _ _⟩
  case round =>
    obtain ⟨k, hk, rfl, hbel⟩ := hrel
    have HB := Lib.hid hbel; clear hbel
    by_cases hlt : k < n
    · obtain ⟨g, x, rfl, hg, gl, hx, gc, gf⟩ := HV.out k (by omega)
      obtain ⟨h, y, rfl, hh, hl2, hy, hc, hf⟩ := HU.out k (by omega)
      obtain rfl : x = y := Option.some.inj (hx.symm.trans hy)
      have c1 : wr.cell? ⟨g, k, none⟩ = some (.string (tx x)) := (World.cell?_of_block (w := w) (HB.out.block g gl)).trans gc
      have c2 : wr.cell? ⟨h, k, none⟩ = some (.string (tx x)) := (World.cell?_of_block (w := w) (HB.out.block h hl2)).trans hc
      clear hx hy
      generalize tx x = x at c1 c2
      have q1 : (x.toList == x.toList) = true := by simp
      clear gc gf hc hf hg hh gl hl2 HV HU
      go_wp2_with fail
      go_quiet (fail)
      go_wp2_with fail
      go_roundw
      case rel => exact ⟨k + 1, by omega, by go_num, bel_drewN HB.out _⟩
      case measure => simp [intV]; omega
    · obtain rfl : k = n := by omega
      go_wp2_with fail
      go_ret
      exact ⟨rfl, HB.out⟩
/-- A mark. -/
def mtx (k : Nat) : List UInt8 := 109 :: Lib.decDigits k
theorem mtx_app (t : ByteArray) (k : Nat) (h : t = ⟨(Lib.decDigits k).toArray⟩) : ((⟨#[109]⟩ : ByteArray) ++ t) = tx (mtx k) := by
  subst h
  apply ByteArray.ext
  apply Array.toList_inj.1
  rw [Joins.data_append]; rfl
theorem dgr_end {n : Nat} {t : ByteArray} (h : DgR n 0 t) (hn : 1 ≤ n) : t = ⟨(Lib.decDigits n).toArray⟩ :=
  h.done (fun e => by rcases h with ⟨_, h2⟩ | ⟨h1, _⟩; omega; exact h1 e)
set_option maxHeartbeats 1000000 in
theorem markText_any (n : Nat) (w : World) (hn1 : 1 ≤ n) (hn : n ≤ 9223372036854775807) :
    Calls Tryz.prog 65 #[.int .i64 n] w fun e w' => e = .returned (.string (tx (mtx n))) ∧ Below w.heap.size w w' := by
  have KC := conv_one
  have q0 : ¬ (n : Int) ≤ 0 := by omega
  go_enter Tryz.func65, Tryz.ntmps65
  go_wp2
  go_loopw [0, 3] (fun i s wr => ∃ (m : Nat) (t : ByteArray), i = .int .i64 m ∧ s = .string t ∧ m ≤ n ∧ DgR n m t ∧ Below w.heap.size w wr) (fun i _ _ => (intOf i).toNat)
  case atStart => exact ⟨n, ⟨#[]⟩, rfl, rfl, Nat.le_refl _, DgR.start n, Below.refl _ _⟩
  case round =>
    obtain ⟨m, t, rfl, rfl, hm, hd, hb⟩ := hrel
    have hsz := hd.size (by omega)
    have hsum : ¬ 9223372036854775807 < (one (48 + (m : Int) % 10)).size + t.size := by rw [one_size]; omega
    have HB := Lib.hid hb; clear hb
    have HD := Lib.hid hd; clear hd
    have hB : w.heap.size ≤ wr.heap.size := HB.out.size
    by_cases hp : 0 < m
    · go_wp2
      go_roundw
      case rel => exact ⟨m / 10, _, by go_num, rfl, by omega, HD.out.step (Or.inr hp), HB.out.alloc hB _⟩
      case measure => simp only [intOf]; omega
    · obtain rfl : m = 0 := by omega
      have HE := Lib.hid (mtx_app t n (dgr_end HD.out hn1))
      have hs2 : ¬ 9223372036854775807 < (⟨#[109]⟩ : ByteArray).size + t.size := by show ¬ _ < 1 + t.size; omega
      go_wp2
      go_ret
      exact ⟨by rw [← HE.out]; rfl, HB.out⟩
/-- Each place holds its mark, from k on. -/
def Mkd (k : Nat) (m : List (List UInt8)) : Prop := ∀ j, j < m.length → m[j]? = some (mtx (k + j))
theorem OwT.set {B : Nat} {w : World} {g n cap : Nat} {m : List (List UInt8)} (h : OwT B w (.slice (some ⟨g, 0, none⟩) n cap) m) (hn : n = m.length) (j : Nat) (x : List UInt8) : OwT B (w.setCell ⟨g, j, none⟩ (.string (tx x))) (.slice (some ⟨g, 0, none⟩) n cap) (m.set j x) := by
  subst hn
  have := World.ownsRow.stored h j (.string (tx x))
  unfold OwT
  rw [List.length_set, List.map_set]; exact this.1
set_option maxHeartbeats 2000000 in
theorem mark_any {B : Nat} {v : Value} {l : List (List UInt8)} (w : World) (hB : B ≤ w.heap.size) (hv : OwT B w v l) (hl : l.length ≤ 4194304) :
    Calls Tryz.prog 36 #[v, .int .i64 1] w fun e w' => e = .returned (.int .i64 ((l.length + 1 : Nat) : Int)) ∧ Below B w w' ∧ ∃ m, m.length = l.length ∧ Mkd 1 m ∧ OwT B w' v m := by
  obtain ⟨a, ca, rfl, ha⟩ := hv.form
  have HV := Lib.hid ha; clear ha
  have HO := Lib.hid hv; clear hv
  generalize hn : l.length = n at *
  go_enter Tryz.func36, Tryz.ntmps36
  go_wp2
  go_loopw [1, 5] (fun q i wr => ∃ (k : Nat) (m : List (List UInt8)), k ≤ n ∧ i = .int .i64 k ∧ q = .int .i64 ((k + 1 : Nat) : Int) ∧ Below B w wr ∧ m.length = n ∧ (∀ j, j < k → m[j]? = some (mtx (1 + j))) ∧ OwT B wr (.slice a n ca) m) (fun _ i _ => n - intV i)
  case atStart => exact ⟨0, l, Nat.zero_le _, rfl, rfl, Below.refl _ _, hn, fun j hj => by omega, HO.out⟩
  case round =>
    obtain ⟨k, m, hk, rfl, rfl, hbel, hm, hmk, hown⟩ := hrel
    have HB := Lib.hid hbel; clear hbel
    have HM := Lib.hid hmk; clear hmk
    have HW := Lib.hid hown; clear hown
    by_cases hlt : k < n
    · obtain ⟨g, -, rfl, hg, gl, -, -, -⟩ := HV.out k (by omega)
      have HT := Lib.hid (fun w => markText_any (k + 1) w (by omega) (by omega))
      have q1 : ((k + 1 : Nat) : Int) + 1 = ((k + 1 + 1 : Nat) : Int) := by omega
      clear gl
      go_wp2_with fail
      refine (HT.out _).mono ?_; rintro e w1 ⟨rfl, b1⟩
      have hsz : wr.heap.size ≤ w1.heap.size := b1.size
      have B1 := Lib.hid (bel_tr HB.out b1 hB)
      have HW1 := Lib.hid (HW.out.next b1); clear b1
      obtain ⟨a2, ca2, he, hcell⟩ := HW1.out.form
      obtain ⟨g2, x, rfl, hg2, gl2, -, gc, gf⟩ := hcell k (by omega)
      cases he
      clear hcell hg2
      generalize tx x = x at gc
      go_wp2_with fail
      go_roundw
      case rel =>
        refine ⟨k + 1, m.set k (mtx (k + 1)), by omega, by go_num, by go_num, B1.out.setCell (p := ⟨g, k, none⟩) hg _, by rw [List.length_set], fun j hj => ?_, HW1.out.set rfl k _⟩
        by_cases hjk : j = k
        · subst hjk; rw [List.getElem?_set_self (by omega), Nat.add_comm]
        · rw [List.getElem?_set_ne (by omega)]; exact HM.out j (by omega)
      case measure => simp [intV]; omega
    · obtain rfl : k = n := by omega
      go_wp2_with fail
      go_ret
      exact ⟨rfl, HB.out, m, hm, fun j hj => HM.out j (by omega), HW.out⟩
theorem cell_next {p : Addr} {v : Value} {r x y : World} (hp : p.block < r.heap.size) (hb : Below x.heap.size x y) (h : x.cell? p = some v ∧ Below r.heap.size r x) : y.cell? p = some v ∧ Below r.heap.size r y :=
  ⟨(World.cell?_of_block (w := x) (hb.block p.block (Nat.lt_of_lt_of_le hp h.2.size))).trans h.1, bel_tr h.2 hb (Nat.le_refl _)⟩
theorem owt_of {B : Nat} {w : World} {v : Value} {l : List Cl.Tk} (h : Cl.OT B w v l) : OwT B w v l := by
  unfold Cl.OT Cl.O1 at h
  rw [Cl.txL_len] at h
  exact h
end Go.Proofs.YtfnnoehpahdgcaaGreatDoor.Nx
namespace Go.Proofs.YtfnnoehpahdgcaaGreatDoor.Nx
open Go.RowKit Wd Rp Kp
set_option linter.unusedVariables false
end Go.Proofs.YtfnnoehpahdgcaaGreatDoor.Nx
