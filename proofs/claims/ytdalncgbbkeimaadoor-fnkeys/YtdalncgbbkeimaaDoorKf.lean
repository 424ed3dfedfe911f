/-
  The walk of laws.FnKeys on a code that is not too long.
-/
import Derived.Test.YtdalncgbbkeimaaDoorKq
import Derived.Test.YtdalncgbbkeimaaDoorKc
import Derived.Test.YtdalncgbbkeimaaDoorKe
namespace Go.Proofs.YtdalncgbbkeimaaDoor.Kp
open Go.RowKit Wd Rp Cu
theorem bytes_next {w w' : World} {a : Option Addr} {len : Nat} (h : IsBytes w a len) (hb : Below w.heap.size w w') : IsBytes w' a len := ⟨h.1, fun hl => by
  obtain ⟨ab, ao, h1, h2, h3⟩ := h.2 hl
  refine ⟨ab, ao, h1, Nat.lt_of_lt_of_le h2 hb.size, fun k hk => ?_⟩
  obtain ⟨z, h4, h5⟩ := h3 k hk
  exact ⟨z, (World.cell?_of_block (w := w) (hb.block ab h2)).trans h4, h5⟩⟩
theorem keyEq (r s : ByteArray) (t : Int) (r' s' : ByteArray) (t' : Int) (w : World) : (Op.equalIn 10000 25 (.agg #[.string r, .string s, .int .i64 t]) (.agg #[.string r', .string s', .int .i64 t'])).run Tryd.prog w = .ok (r == r' && (s == s' && t == t')) w := by
  have u3 := Tryd.underlying9
  have a3 := Tryd.isAgg9
  have z3 := Tryd.sizeOf9
  have u2 := Tryd.underlying2
  have a2 := Tryd.isAgg2
  have z2 := Tryd.sizeOf2
  have s9 := fun a b w => strEq 9998 a b w
  have hS : Tryd.prog.underlying 25 = some (.struct (Tryd.prog.fieldsOf 25)) := by kernel_rfl
  rw [show (10000 : Nat) = 9999 + 1 from rfl, run_equalIn_struct w 9999 25 _ _ hS (by kernel_rfl)]
  simp only [Program.fieldsOf, Tryd.underlying25]
  go_simp
  by_cases ht : t = t'
  · have e : (t == t') = true := by simpa using ht
    rw [if_pos ht, e]; cases r == r' <;> cases s == s' <;> rfl
  · have e : (t == t') = false := by simpa using ht
    rw [if_neg ht, e]; cases r == r' <;> cases s == s' <;> rfl
theorem ba_self (a : ByteArray) : (a == a) = true := by rw [ba_beq]; simp
/-- Since w nothing that was there has turned, and m blocks are there. -/
def Hw (w : World) (m : Nat) (z : World) : Prop := Below w.heap.size w z ∧ m ≤ z.heap.size
theorem four_next {w x y : World} {m na nb nk nx : Nat} {r s : ByteArray} {t : Int} {r' s' : ByteArray} {t' : Int} {p q : ByteArray} {u : Int} (hm : na < m ∧ nb < m ∧ nk < m ∧ nx < m) (hb : Below x.heap.size x y) (h : x.cell? ⟨na, 0, none⟩ = some (.string r) ∧ x.cell? ⟨na, 1, none⟩ = some (.string s) ∧ x.cell? ⟨na, 2, none⟩ = some (.int .i64 t) ∧ x.cell? ⟨nb, 0, none⟩ = some (.string r') ∧ x.cell? ⟨nb, 1, none⟩ = some (.string s') ∧ x.cell? ⟨nb, 2, none⟩ = some (.int .i64 t') ∧ x.cell? ⟨nk, 0, none⟩ = some (.string p) ∧ x.cell? ⟨nk, 1, none⟩ = some (.string q) ∧ x.cell? ⟨nk, 2, none⟩ = some (.int .i64 u) ∧ x.cell? ⟨nx, 0, none⟩ = some (.string p) ∧ x.cell? ⟨nx, 1, none⟩ = some (.string q) ∧ x.cell? ⟨nx, 2, none⟩ = some (.int .i64 u) ∧ Hw w m x) : y.cell? ⟨na, 0, none⟩ = some (.string r) ∧ y.cell? ⟨na, 1, none⟩ = some (.string s) ∧ y.cell? ⟨na, 2, none⟩ = some (.int .i64 t) ∧ y.cell? ⟨nb, 0, none⟩ = some (.string r') ∧ y.cell? ⟨nb, 1, none⟩ = some (.string s') ∧ y.cell? ⟨nb, 2, none⟩ = some (.int .i64 t') ∧ y.cell? ⟨nk, 0, none⟩ = some (.string p) ∧ y.cell? ⟨nk, 1, none⟩ = some (.string q) ∧ y.cell? ⟨nk, 2, none⟩ = some (.int .i64 u) ∧ y.cell? ⟨nx, 0, none⟩ = some (.string p) ∧ y.cell? ⟨nx, 1, none⟩ = some (.string q) ∧ y.cell? ⟨nx, 2, none⟩ = some (.int .i64 u) ∧ Hw w m y := by
  obtain ⟨na0, na1, na2, nb0, nb1, nb2, nk0, nk1, nk2, nx0, nx1, nx2, hd, hl⟩ := h
  have ena : y.heap[na]? = x.heap[na]? := hb.block _ (by omega)
  have enb : y.heap[nb]? = x.heap[nb]? := hb.block _ (by omega)
  have enk : y.heap[nk]? = x.heap[nk]? := hb.block _ (by omega)
  have enx : y.heap[nx]? = x.heap[nx]? := hb.block _ (by omega)
  exact ⟨(World.cell?_of_block (w := x) ena).trans na0, (World.cell?_of_block (w := x) ena).trans na1, (World.cell?_of_block (w := x) ena).trans na2, (World.cell?_of_block (w := x) enb).trans nb0, (World.cell?_of_block (w := x) enb).trans nb1, (World.cell?_of_block (w := x) enb).trans nb2, (World.cell?_of_block (w := x) enk).trans nk0, (World.cell?_of_block (w := x) enk).trans nk1, (World.cell?_of_block (w := x) enk).trans nk2, (World.cell?_of_block (w := x) enx).trans nx0, (World.cell?_of_block (w := x) enx).trans nx1, (World.cell?_of_block (w := x) enx).trans nx2, bel_tr hd hb (Nat.le_refl _), Nat.le_trans hl hb.size⟩
theorem three_next {w x y : World} {m na nb nx : Nat} {r s : ByteArray} {t : Int} {r' s' : ByteArray} {t' : Int} (hm : na < m ∧ nb < m ∧ nx < m) (hb : Below x.heap.size x y) (h : x.cell? ⟨na, 0, none⟩ = some (.string r) ∧ x.cell? ⟨na, 1, none⟩ = some (.string s) ∧ x.cell? ⟨na, 2, none⟩ = some (.int .i64 t) ∧ x.cell? ⟨nb, 0, none⟩ = some (.string r') ∧ x.cell? ⟨nb, 1, none⟩ = some (.string s') ∧ x.cell? ⟨nb, 2, none⟩ = some (.int .i64 t') ∧ x.cell? ⟨nx, 0, none⟩ = some (.string r) ∧ x.cell? ⟨nx, 1, none⟩ = some (.string s) ∧ x.cell? ⟨nx, 2, none⟩ = some (.int .i64 t) ∧ Hw w m x) : y.cell? ⟨na, 0, none⟩ = some (.string r) ∧ y.cell? ⟨na, 1, none⟩ = some (.string s) ∧ y.cell? ⟨na, 2, none⟩ = some (.int .i64 t) ∧ y.cell? ⟨nb, 0, none⟩ = some (.string r') ∧ y.cell? ⟨nb, 1, none⟩ = some (.string s') ∧ y.cell? ⟨nb, 2, none⟩ = some (.int .i64 t') ∧ y.cell? ⟨nx, 0, none⟩ = some (.string r) ∧ y.cell? ⟨nx, 1, none⟩ = some (.string s) ∧ y.cell? ⟨nx, 2, none⟩ = some (.int .i64 t) ∧ Hw w m y := by
  obtain ⟨na0, na1, na2, nb0, nb1, nb2, nx0, nx1, nx2, hd, hl⟩ := h
  have ena : y.heap[na]? = x.heap[na]? := hb.block _ (by omega)
  have enb : y.heap[nb]? = x.heap[nb]? := hb.block _ (by omega)
  have enx : y.heap[nx]? = x.heap[nx]? := hb.block _ (by omega)
  exact ⟨(World.cell?_of_block (w := x) ena).trans na0, (World.cell?_of_block (w := x) ena).trans na1, (World.cell?_of_block (w := x) ena).trans na2, (World.cell?_of_block (w := x) enb).trans nb0, (World.cell?_of_block (w := x) enb).trans nb1, (World.cell?_of_block (w := x) enb).trans nb2, (World.cell?_of_block (w := x) enx).trans nx0, (World.cell?_of_block (w := x) enx).trans nx1, (World.cell?_of_block (w := x) enx).trans nx2, bel_tr hd hb (Nat.le_refl _), Nat.le_trans hl hb.size⟩

theorem key_back {r s : ByteArray} {t : Int} (h : keyB r.data.toList s.data.toList t = true) : kof (tx (ktx r.data.toList s.data.toList t)).data.toList = some (r.data.toList, s.data.toList, t) := by
  rw [tx_data]; exact (kof_iff _ _ _ _).2 ⟨h, rfl⟩
theorem lib_held4 {w x : World} {m na nb nk nx : Nat} {r s : ByteArray} {t : Int} {r' s' : ByteArray} {t' : Int} {p q : ByteArray} {u : Int} (hL : LibO w) (h : x.cell? ⟨na, 0, none⟩ = some (.string r) ∧ x.cell? ⟨na, 1, none⟩ = some (.string s) ∧ x.cell? ⟨na, 2, none⟩ = some (.int .i64 t) ∧ x.cell? ⟨nb, 0, none⟩ = some (.string r') ∧ x.cell? ⟨nb, 1, none⟩ = some (.string s') ∧ x.cell? ⟨nb, 2, none⟩ = some (.int .i64 t') ∧ x.cell? ⟨nk, 0, none⟩ = some (.string p) ∧ x.cell? ⟨nk, 1, none⟩ = some (.string q) ∧ x.cell? ⟨nk, 2, none⟩ = some (.int .i64 u) ∧ x.cell? ⟨nx, 0, none⟩ = some (.string p) ∧ x.cell? ⟨nx, 1, none⟩ = some (.string q) ∧ x.cell? ⟨nx, 2, none⟩ = some (.int .i64 u) ∧ Hw w m x) : LibT x := hL.1.next h.2.2.2.2.2.2.2.2.2.2.2.2.1
theorem lib_held3 {w x : World} {m na nb nx : Nat} {r s : ByteArray} {t : Int} {r' s' : ByteArray} {t' : Int} (hL : LibO w) (h : x.cell? ⟨na, 0, none⟩ = some (.string r) ∧ x.cell? ⟨na, 1, none⟩ = some (.string s) ∧ x.cell? ⟨na, 2, none⟩ = some (.int .i64 t) ∧ x.cell? ⟨nb, 0, none⟩ = some (.string r') ∧ x.cell? ⟨nb, 1, none⟩ = some (.string s') ∧ x.cell? ⟨nb, 2, none⟩ = some (.int .i64 t') ∧ x.cell? ⟨nx, 0, none⟩ = some (.string r) ∧ x.cell? ⟨nx, 1, none⟩ = some (.string s) ∧ x.cell? ⟨nx, 2, none⟩ = some (.int .i64 t) ∧ Hw w m x) : LibT x := hL.1.next h.2.2.2.2.2.2.2.2.2.1
theorem lib_all4 {w x : World} {m na nb nk nx : Nat} {r s : ByteArray} {t : Int} {r' s' : ByteArray} {t' : Int} {p q : ByteArray} {u : Int} (hL : LibO w) (h : x.cell? ⟨na, 0, none⟩ = some (.string r) ∧ x.cell? ⟨na, 1, none⟩ = some (.string s) ∧ x.cell? ⟨na, 2, none⟩ = some (.int .i64 t) ∧ x.cell? ⟨nb, 0, none⟩ = some (.string r') ∧ x.cell? ⟨nb, 1, none⟩ = some (.string s') ∧ x.cell? ⟨nb, 2, none⟩ = some (.int .i64 t') ∧ x.cell? ⟨nk, 0, none⟩ = some (.string p) ∧ x.cell? ⟨nk, 1, none⟩ = some (.string q) ∧ x.cell? ⟨nk, 2, none⟩ = some (.int .i64 u) ∧ x.cell? ⟨nx, 0, none⟩ = some (.string p) ∧ x.cell? ⟨nx, 1, none⟩ = some (.string q) ∧ x.cell? ⟨nx, 2, none⟩ = some (.int .i64 u) ∧ Hw w m x) : LibO x := hL.next h.2.2.2.2.2.2.2.2.2.2.2.2.1
theorem three_of {w x : World} {T m na nb nk nx : Nat} {r s : ByteArray} {t : Int} {r' s' : ByteArray} {t' : Int} {p q : ByteArray} {u : Int} (hm : na < m ∧ nb < m ∧ nk < m ∧ nx < m) (h : x.cell? ⟨na, 0, none⟩ = some (.string r) ∧ x.cell? ⟨na, 1, none⟩ = some (.string s) ∧ x.cell? ⟨na, 2, none⟩ = some (.int .i64 t) ∧ x.cell? ⟨nb, 0, none⟩ = some (.string r') ∧ x.cell? ⟨nb, 1, none⟩ = some (.string s') ∧ x.cell? ⟨nb, 2, none⟩ = some (.int .i64 t') ∧ x.cell? ⟨nk, 0, none⟩ = some (.string p) ∧ x.cell? ⟨nk, 1, none⟩ = some (.string q) ∧ x.cell? ⟨nk, 2, none⟩ = some (.int .i64 u) ∧ x.cell? ⟨nx, 0, none⟩ = some (.string p) ∧ x.cell? ⟨nx, 1, none⟩ = some (.string q) ∧ x.cell? ⟨nx, 2, none⟩ = some (.int .i64 u) ∧ Hw w m x) : (x.alloc (.cells #[.string r, .string s, .int .i64 t] T)).cell? ⟨na, 0, none⟩ = some (.string r) ∧ (x.alloc (.cells #[.string r, .string s, .int .i64 t] T)).cell? ⟨na, 1, none⟩ = some (.string s) ∧ (x.alloc (.cells #[.string r, .string s, .int .i64 t] T)).cell? ⟨na, 2, none⟩ = some (.int .i64 t) ∧ (x.alloc (.cells #[.string r, .string s, .int .i64 t] T)).cell? ⟨nb, 0, none⟩ = some (.string r') ∧ (x.alloc (.cells #[.string r, .string s, .int .i64 t] T)).cell? ⟨nb, 1, none⟩ = some (.string s') ∧ (x.alloc (.cells #[.string r, .string s, .int .i64 t] T)).cell? ⟨nb, 2, none⟩ = some (.int .i64 t') ∧ (x.alloc (.cells #[.string r, .string s, .int .i64 t] T)).cell? ⟨x.heap.size, 0, none⟩ = some (.string r) ∧ (x.alloc (.cells #[.string r, .string s, .int .i64 t] T)).cell? ⟨x.heap.size, 1, none⟩ = some (.string s) ∧ (x.alloc (.cells #[.string r, .string s, .int .i64 t] T)).cell? ⟨x.heap.size, 2, none⟩ = some (.int .i64 t) ∧ Hw w (x.heap.size + 1) (x.alloc (.cells #[.string r, .string s, .int .i64 t] T)) := by
  have h' := four_next hm (bel1 x (.cells #[.string r, .string s, .int .i64 t] T)) h
  have hx := Bx.made r s t x T
  exact ⟨h'.1, h'.2.1, h'.2.2.1, h'.2.2.2.1, h'.2.2.2.2.1, h'.2.2.2.2.2.1, hx.1, hx.2.1, hx.2.2.1, h'.2.2.2.2.2.2.2.2.2.2.2.2.1, by simp⟩
theorem kof_case {x p q : ByteArray} {u : Int} {f : Bool} (h : kofV (kof x.data.toList) = .tuple #[.agg #[.string p, .string q, .int .i64 u], .bool f]) : (f = false ∧ p = ⟨#[]⟩ ∧ q = ⟨#[]⟩ ∧ u = 0) ∨ (f = true ∧ tx (ktx p.data.toList q.data.toList u) = x) := by
  cases hk : kof x.data.toList with
  | none =>
    rw [hk] at h
    simp [kofV] at h
    exact Or.inl ⟨h.2, h.1.1.symm, h.1.2.1.symm, h.1.2.2.symm⟩
  | some y =>
    obtain ⟨A, B, C⟩ := y
    rw [hk] at h
    simp [kofV] at h
    obtain ⟨⟨rfl, rfl, rfl⟩, rfl⟩ := h
    refine Or.inr ⟨rfl, ?_⟩
    rw [tx_data, tx_data, ((kof_iff _ _ _ _).1 hk).2, tx_of]
set_option maxRecDepth 100000 in
set_option maxHeartbeats 8000000 in
theorem walk_small (w : World) (a : Option Addr) (len cap : Nat) (hb : IsBytes w a len) (hl : len ≤ 4096) (hL : LibO w) :
    Calls Tryd.prog 3 #[.slice a len cap] w fun e w' => e = .returned (.bool true) ∧ Below w.heap.size w w' := by
  have HY := Lib.hid hb; clear hb
  have HL := Lib.hid hL; clear hL
  go_enter Tryd.func3, Tryd.ntmps3
  go_wp2_with fail
  refine (big_no w a len cap hl).mono ?_; rintro e w0 ⟨rfl, rfl⟩
  go_wp2_with fail
  refine (drawKeyLess_any w a len cap HY.out hl).mono ?_; rintro e w1 ⟨r, s, t, r', s', t', rfl, hk, hk', b1⟩
  have hsz : r.size ≤ 9223372036854775806 ∧ s.size ≤ 9223372036854775806 ∧ r'.size ≤ 9223372036854775806 ∧ s'.size ≤ 9223372036854775806 := ⟨by have := hk.1; omega, by have := hk.2.1; omega, by have := hk'.1; omega, by have := hk'.2.1; omega⟩
  have HSZ := Lib.hid hsz; clear hsz hk hk'
  have B1 := Lib.hid b1; clear b1
  have HX1 := Lib.hid (Bx.two r s t r' s' t' w1)
  have HB1 := Lib.hid (bel2 w1)
  obtain ⟨L, hLs⟩ : ∃ L, lessB r s t r' s' t' = L := ⟨_, rfl⟩
  have cLi : ∀ w, Calls Tryd.prog 13 #[.agg #[.string r, .string s, .int .i64 t], .agg #[.string r', .string s', .int .i64 t']] w fun e w' => e = .returned (.bool L) ∧ Below w.heap.size w w' := fun w => (implLess_any r s t r' s' t' w).mono fun _ _ ⟨he, hb⟩ => ⟨by rw [he, hLs], hb⟩
  have cLs : ∀ w, Calls Tryd.prog 18 #[.agg #[.string r, .string s, .int .i64 t], .agg #[.string r', .string s', .int .i64 t']] w fun e w' => e = .returned (.bool L) ∧ Below w.heap.size w w' := fun w => (specLess_any r s t r' s' t' w HSZ.out.1 HSZ.out.2.1 HSZ.out.2.2.1 HSZ.out.2.2.2).mono fun _ _ ⟨he, hb⟩ => ⟨by rw [he, hLs], hb⟩
  have CLi := Lib.hid cLi; have CLs := Lib.hid cLs; have HLs := Lib.hid hLs; clear cLi cLs hLs
  go_wp2_with fail
  refine (CLi.out _).mono ?_; rintro e w2 ⟨rfl, b2⟩
  have Xa2 := Lib.hid ((HX1.out _).1.next b2); have Xb2 := Lib.hid ((HX1.out _).2.next b2)
  have B2 := Lib.hid (bel_tr B1.out (bel_tr (HB1.out _ _) b2 (Nat.le_refl _)) (Nat.le_refl _)); clear b2 HX1 HB1
  go_wp2_with fail
  refine (drawKeyOf_any w2 a len cap (bytes_next HY.out B2.out) hl).mono ?_; rintro e w3 ⟨x, rfl, hx, b3⟩
  have Xa3 := Lib.hid (Xa2.out.next b3); have Xb3 := Lib.hid (Xb2.out.next b3)
  have B3 := Lib.hid (bel_tr B2.out b3 (Nat.le_refl _)); clear b3 Xa2 Xb2
  obtain ⟨p, q, u, f, hf⟩ := kofV_form (kof x.data.toList)
  have HF := Lib.hid hf; clear hf
  go_wp2_with fail
  refine (implKof_any x _ (by omega) (HL.out.next B3.out)).mono ?_; rintro e w4 ⟨rfl, b4⟩
  rw [HF.out]
  have Xa4 := Lib.hid (Xa3.out.next b4); have Xb4 := Lib.hid (Xb3.out.next b4)
  have B4 := Lib.hid (bel_tr B3.out b4 (Nat.le_refl _)); clear b4 Xa3 Xb3
  have HXk := Lib.hid (Bx.made p q u w4)
  have HB4 := Lib.hid (bel1 w4)
  go_wp2_with fail
  refine (drawNameOk_any _ a len cap (bytes_next (bytes_next HY.out B4.out) (HB4.out _)) hl).mono ?_; rintro e w5 ⟨n, rfl, hn, b5⟩
  have Xa5 := Lib.hid ((Xa4.out.next (HB4.out _)).next b5); have Xb5 := Lib.hid ((Xb4.out.next (HB4.out _)).next b5); have Xk5 := Lib.hid ((HXk.out _).next b5)
  have B5 := Lib.hid (bel_tr B4.out (bel_tr (HB4.out _) b5 (Nat.le_refl _)) (Nat.le_refl _)); clear b5 Xa4 Xb4 HXk HB4
  go_wp2_with fail
  refine (specKof_any x _ (by omega)).mono ?_; rintro e w6 ⟨rfl, b6⟩
  rw [HF.out]
  have Xa6 := Lib.hid ((Xa5.out.next b6).next (bel1 w6 (.cells #[.string p, .string q, .int .i64 u] 25))); have Xb6 := Lib.hid ((Xb5.out.next b6).next (bel1 w6 (.cells #[.string p, .string q, .int .i64 u] 25))); have Xk6 := Lib.hid ((Xk5.out.next b6).next (bel1 w6 (.cells #[.string p, .string q, .int .i64 u] 25)))
  have Xx6 := Lib.hid (Bx.made p q u w6 25)
  have B6 := Lib.hid (bel_tr (bel_tr B5.out b6 (Nat.le_refl _)) (bel1 w6 (.cells #[.string p, .string q, .int .i64 u] 25)) (Nat.le_refl _)); clear b6 Xa5 Xb5 Xk5
  go_wp2_with fail
  generalize w6.alloc (.cells #[.string p, .string q, .int .i64 u] 25) = w7 at Xa6 Xb6 Xk6 Xx6 B6 ⊢
  generalize w1.heap.size + 1 = nb at Xb6 ⊢
  generalize w1.heap.size = na at Xa6 ⊢
  generalize w4.heap.size = nk at Xk6 ⊢
  generalize w6.heap.size = nx at Xx6 ⊢
  obtain ⟨m, hm⟩ : ∃ m, m = w7.heap.size := ⟨_, rfl⟩
  have hlt : na < m ∧ nb < m ∧ nk < m ∧ nx < m := by rw [hm]; exact ⟨Xa6.out.2.2.2, Xb6.out.2.2.2, Xk6.out.2.2.2, Xx6.out.2.2.2⟩
  have hS : w7.cell? ⟨na, 0, none⟩ = some (.string r) ∧ w7.cell? ⟨na, 1, none⟩ = some (.string s) ∧ w7.cell? ⟨na, 2, none⟩ = some (.int .i64 t) ∧ w7.cell? ⟨nb, 0, none⟩ = some (.string r') ∧ w7.cell? ⟨nb, 1, none⟩ = some (.string s') ∧ w7.cell? ⟨nb, 2, none⟩ = some (.int .i64 t') ∧ w7.cell? ⟨nk, 0, none⟩ = some (.string p) ∧ w7.cell? ⟨nk, 1, none⟩ = some (.string q) ∧ w7.cell? ⟨nk, 2, none⟩ = some (.int .i64 u) ∧ w7.cell? ⟨nx, 0, none⟩ = some (.string p) ∧ w7.cell? ⟨nx, 1, none⟩ = some (.string q) ∧ w7.cell? ⟨nx, 2, none⟩ = some (.int .i64 u) ∧ Hw w m w7 := ⟨Xa6.out.1, Xa6.out.2.1, Xa6.out.2.2.1, Xb6.out.1, Xb6.out.2.1, Xb6.out.2.2.1, Xk6.out.1, Xk6.out.2.1, Xk6.out.2.2.1, Xx6.out.1, Xx6.out.2.1, Xx6.out.2.2.1, B6.out, Nat.le_of_eq hm⟩
  have HS7 := Lib.hid hS; have HLT := Lib.hid hlt; clear hS hlt hm Xa6 Xb6 Xk6 Xx6 B6 B1 B2 B3 B4 B5
  have HS8 := Lib.hid (four_next HLT.out (Below.refl _ w7).drew HS7.out)
  obtain ⟨T, hT⟩ : ∃ T, tx (ktx r.data.toList s.data.toList t) = T := ⟨_, rfl⟩
  have cTi : ∀ z, LibT z → Calls Tryd.prog 19 #[.agg #[.string r, .string s, .int .i64 t]] z fun e w' => e = .returned (.string T) ∧ Below z.heap.size z w' := fun z hz => (implText_any r s t z hz).mono fun _ _ ⟨he, hb⟩ => ⟨by rw [he, hT], hb⟩
  have cTs : ∀ z, Calls Tryd.prog 20 #[.agg #[.string r, .string s, .int .i64 t]] z fun e w' => e = .returned (.string T) ∧ Below z.heap.size z w' := fun z => (specText_any r s t z HSZ.out.1 HSZ.out.2.1).mono fun _ _ ⟨he, hb⟩ => ⟨by rw [he, hT], hb⟩
  obtain ⟨κ, hκ⟩ : ∃ κ, keyB r.data.toList s.data.toList t = κ := ⟨_, rfl⟩
  have cKi : ∀ z, Calls Tryd.prog 21 #[.agg #[.string r, .string s, .int .i64 t]] z fun e w' => e = .returned (.bool κ) ∧ Below z.heap.size z w' := fun z => implKey_is hκ z
  have cKs : ∀ z, Calls Tryd.prog 22 #[.agg #[.string r, .string s, .int .i64 t]] z fun e w' => e = .returned (.bool κ) ∧ Below z.heap.size z w' := fun z => specKey_is hκ z HSZ.out.1 HSZ.out.2.1
  obtain ⟨ν, hν⟩ : ∃ ν, nmB n.data.toList = ν := ⟨_, rfl⟩
  have cNi : ∀ z, Calls Tryd.prog 23 #[.string n] z fun e w' => e = .returned (.bool ν) ∧ Below z.heap.size z w' := fun z => (implName_is hν z).mono fun _ _ ⟨he, hb⟩ => ⟨he, hb ▸ Below.refl _ _⟩
  have cNs : ∀ z, Calls Tryd.prog 24 #[.string n] z fun e w' => e = .returned (.bool ν) ∧ Below z.heap.size z w' := fun z => (specName_is hν z (by omega)).mono fun _ _ ⟨he, hb⟩ => ⟨he, hb ▸ Below.refl _ _⟩
  have CTi := Lib.hid cTi; have CTs := Lib.hid cTs; have CKi := Lib.hid cKi; have CKs := Lib.hid cKs; have CNi := Lib.hid cNi; have CNs := Lib.hid cNs; have HT := Lib.hid hT; have Hκ := Lib.hid hκ
  clear cTi cTs cKi cKs cNi cNs hT hκ hν
  have q1 : (f == f) = true := by simp
  have q2 : (L == L) = true := by simp
  have q3 : (T.toList == T.toList) = true := by simp
  have q4 : (κ == κ) = true := by simp
  have q5 : (ν == ν) = true := by simp
  have he1 : ∀ z, (Op.equalIn 10000 25 (.agg #[.string p, .string q, .int .i64 u]) (.agg #[.string p, .string q, .int .i64 u])).run Tryd.prog z = .ok true z := fun z => by rw [keyEq, ba_self, ba_self]; simp
  go_region_held3 (fun z => z.cell? ⟨na, 0, none⟩ = some (.string r) ∧ z.cell? ⟨na, 1, none⟩ = some (.string s) ∧ z.cell? ⟨na, 2, none⟩ = some (.int .i64 t) ∧ z.cell? ⟨nb, 0, none⟩ = some (.string r') ∧ z.cell? ⟨nb, 1, none⟩ = some (.string s') ∧ z.cell? ⟨nb, 2, none⟩ = some (.int .i64 t') ∧ z.cell? ⟨nk, 0, none⟩ = some (.string p) ∧ z.cell? ⟨nk, 1, none⟩ = some (.string q) ∧ z.cell? ⟨nk, 2, none⟩ = some (.int .i64 u) ∧ z.cell? ⟨nx, 0, none⟩ = some (.string p) ∧ z.cell? ⟨nx, 1, none⟩ = some (.string q) ∧ z.cell? ⟨nx, 2, none⟩ = some (.int .i64 u) ∧ Hw w m z)
    (first | exact HS8.out | assumption | (refine four_next HLT.out (by assumption) ?_; assumption))
    (first
    | (go_at_call 18; refine (CLs.out _).mono ?_; rintro e w' ⟨rfl, bel⟩)
    | (go_at_call 19; refine (CTi.out _ ?_).mono ?_; exact lib_held4 HL.out (by assumption); rintro e w' ⟨rfl, bel⟩)
    | (go_at_call 20; refine (CTs.out _).mono ?_; rintro e w' ⟨rfl, bel⟩)
    | (go_at_call 21; refine (CKi.out _).mono ?_; rintro e w' ⟨rfl, bel⟩)
    | (go_at_call 22; refine (CKs.out _).mono ?_; rintro e w' ⟨rfl, bel⟩)
    | (go_at_call 23; refine (CNi.out _).mono ?_; rintro e w' ⟨rfl, bel⟩)
    | (go_at_call 24; refine (CNs.out _).mono ?_; rintro e w' ⟨rfl, bel⟩))
  rename_i hh
  have HS9 := Lib.hid hh; clear hh HS7 HS8 q5 q4
  rcases kof_case HF.out with ⟨rfl, rfl, rfl, rfl⟩ | ⟨rfl, hpx⟩
  · obtain ⟨x0, x1, x2, -, -, -, k0, k1, k2, -⟩ := id HS9.out
    go_wp2_with fail
    clear x0 x1 x2 k0 k1 k2
    refine (CKs.out _).mono ?_; rintro e z1 ⟨rfl, bz1⟩
    have HZ1 := Lib.hid (four_next HLT.out bz1 HS9.out); clear bz1
    cases κ
    · have hL0 : L = false := by rw [← HLs.out]; simp only [lessB, Hκ.out]; rfl
      subst hL0
      go_wp2_with fail
      go_ret
      exact ⟨rfl, HZ1.out.2.2.2.2.2.2.2.2.2.2.2.2.1⟩
    · obtain ⟨-, -, -, y0, y1, y2, -⟩ := id HZ1.out
      cases hκ' : keyB r'.data.toList s'.data.toList t'
      · have hL0 : L = false := by rw [← HLs.out]; simp only [lessB, Hκ.out, hκ']; rfl
        subst hL0
        have Hκ' := Lib.hid hκ'; clear hκ'
        go_wp2_with fail
        refine (specKey_is Hκ'.out _ HSZ.out.2.2.1 HSZ.out.2.2.2).mono ?_; rintro e z2 ⟨rfl, bz2⟩
        have HZ2 := Lib.hid (four_next HLT.out bz2 HZ1.out); clear bz2 y0 y1 y2
        go_wp2_with fail
        go_ret
        exact ⟨rfl, HZ2.out.2.2.2.2.2.2.2.2.2.2.2.2.1⟩
      · have Hκ' := Lib.hid hκ'; clear hκ'
        go_wp2_with fail
        refine (specKey_is Hκ'.out _ HSZ.out.2.2.1 HSZ.out.2.2.2).mono ?_; rintro e z2 ⟨rfl, bz2⟩
        have HZ2 := Lib.hid (four_next HLT.out bz2 HZ1.out); clear bz2 y0 y1 y2 HZ1
        obtain ⟨x0, x1, x2, -⟩ := id HZ2.out
        go_wp2_with fail
        refine (CTi.out _ (lib_held4 HL.out HZ2.out)).mono ?_; rintro e z3 ⟨rfl, bz3⟩
        have HZ3 := Lib.hid (four_next HLT.out bz3 HZ2.out); clear bz3 x0 x1 x2 HZ2
        have HKB := Lib.hid (key_back Hκ.out)
        have hTs : T.size ≤ 4194304 := by rw [← HT.out, tx_size]; have := ktx_len r.data.toList s.data.toList t; omega
        go_wp2_with fail
        refine (implKof_any T _ hTs (lib_all4 HL.out HZ3.out)).mono ?_; rintro e z4 ⟨rfl, bz4⟩
        rw [← HT.out, HKB.out]
        simp only [kofV, tx_of]
        have HZ4 := Lib.hid (four_next HLT.out bz4 HZ3.out); clear bz4 HZ3
        have hn4 : m ≤ z4.heap.size := HZ4.out.2.2.2.2.2.2.2.2.2.2.2.2.2
        have HS5 := Lib.hid (three_of (T := 25) HLT.out HZ4.out)
        have hLt := HLT.out
        have HLT3 := Lib.hid (show na < z4.heap.size + 1 ∧ nb < z4.heap.size + 1 ∧ z4.heap.size < z4.heap.size + 1 from ⟨by omega, by omega, by omega⟩)
        clear hLt HZ4 hTs
        have HLe := Lib.hid (show L = Op.bytesLess T.toList (tx (ktx r'.data.toList s'.data.toList t')).toList by rw [← HLs.out, ← HT.out, ← ls_text Hκ.out Hκ'.out]; simp only [lessB, Hκ.out, Hκ'.out]; rfl)
        have HLr := Lib.hid (show (L || lessB r' s' t' r s t) = !(r == r' && (s == s' && t == t')) by rw [← HLs.out, ← ls_tri]; simp only [lessB, Hκ.out, Hκ'.out]; rfl)
        obtain ⟨T', hT'⟩ : ∃ T', tx (ktx r'.data.toList s'.data.toList t') = T' := ⟨_, rfl⟩
        rw [hT'] at HLe
        have CTi' := Lib.hid (fun (z : World) (hz : LibT z) => ((implText_any r' s' t' z hz).mono fun _ _ ⟨he, hb⟩ => ⟨by rw [he, hT'], hb⟩ : Calls Tryd.prog 19 #[.agg #[.string r', .string s', .int .i64 t']] z fun e w' => e = .returned (.string T') ∧ Below z.heap.size z w')); clear hT'
        obtain ⟨L', hL'⟩ : ∃ L', lessB r' s' t' r s t = L' := ⟨_, rfl⟩
        rw [hL'] at HLr
        have CLr := Lib.hid (fun (z : World) => ((implLess_any r' s' t' r s t z).mono fun _ _ ⟨he, hb⟩ => ⟨by rw [he, hL'], hb⟩ : Calls Tryd.prog 13 #[.agg #[.string r', .string s', .int .i64 t'], .agg #[.string r, .string s, .int .i64 t]] z fun e w' => e = .returned (.bool L') ∧ Below z.heap.size z w')); clear hL'
        have he2 : ∀ z, (Op.equalIn 10000 25 (.agg #[.string r, .string s, .int .i64 t]) (.agg #[.string r, .string s, .int .i64 t])).run Tryd.prog z = .ok true z := fun z => by rw [keyEq, ba_self, ba_self]; simp
        have he3 : ∀ z, (Op.equalIn 10000 25 (.agg #[.string r, .string s, .int .i64 t]) (.agg #[.string r', .string s', .int .i64 t'])).run Tryd.prog z = .ok (r == r' && (s == s' && t == t')) z := fun z => keyEq _ _ _ _ _ _ z
        generalize (r == r' && (s == s' && t == t')) = E at he3 HLr
        have q6 : (Op.bytesLess T.toList T'.toList == Op.bytesLess T.toList T'.toList) = true := by simp
        go_wp2_with fail
        generalize z4.alloc (.cells #[.string r, .string s, .int .i64 t] 25) = z5 at HS5 ⊢
        generalize z4.heap.size = nz at HS5 HLT3 ⊢
        clear hn4
        have HS6 := Lib.hid (three_next HLT3.out (Below.refl _ z5).drew HS5.out)
        cases L
        · have hE : E = !L' := by have := HLr.out; cases L' <;> cases E <;> simp_all
          subst hE
          have hLe := HLe.out
          have q7 : Op.bytesLess T.toList T'.toList = false := hLe.symm
          clear hLe HLe HLr q6
          have q8 : (L' == L') = true := by simp
          go_region_held3 (fun z => z.cell? ⟨na, 0, none⟩ = some (.string r) ∧ z.cell? ⟨na, 1, none⟩ = some (.string s) ∧ z.cell? ⟨na, 2, none⟩ = some (.int .i64 t) ∧ z.cell? ⟨nb, 0, none⟩ = some (.string r') ∧ z.cell? ⟨nb, 1, none⟩ = some (.string s') ∧ z.cell? ⟨nb, 2, none⟩ = some (.int .i64 t') ∧ z.cell? ⟨nz, 0, none⟩ = some (.string r) ∧ z.cell? ⟨nz, 1, none⟩ = some (.string s) ∧ z.cell? ⟨nz, 2, none⟩ = some (.int .i64 t) ∧ Hw w (nz + 1) z)
            (first | exact HS6.out | assumption | (refine three_next HLT3.out (by assumption) ?_; assumption))
            (first
            | (go_at_call_of 19 r; refine (CTi.out _ ?_).mono ?_; exact lib_held3 HL.out (by assumption); rintro e w' ⟨rfl, bel⟩)
            | (go_at_call_of 19 r'; refine (CTi'.out _ ?_).mono ?_; exact lib_held3 HL.out (by assumption); rintro e w' ⟨rfl, bel⟩)
            | (go_at_call 13; refine (CLr.out _).mono ?_; rintro e w' ⟨rfl, bel⟩))
          rename_i hg
          have HG := Lib.hid hg; clear hg
          go_wp2_with fail
          go_ret
          exact ⟨rfl, HG.out.2.2.2.2.2.2.2.2.2.1⟩
        · have hE : E = false := by have := HLr.out; cases E <;> simp_all
          subst hE
          have hLe := HLe.out
          have q7 : Op.bytesLess T.toList T'.toList = true := hLe.symm
          clear hLe HLe HLr q6
          refine wp_region_held_drew (S := fun z => z.cell? ⟨na, 0, none⟩ = some (.string r) ∧ z.cell? ⟨na, 1, none⟩ = some (.string s) ∧ z.cell? ⟨na, 2, none⟩ = some (.int .i64 t) ∧ z.cell? ⟨nb, 0, none⟩ = some (.string r') ∧ z.cell? ⟨nb, 1, none⟩ = some (.string s') ∧ z.cell? ⟨nb, 2, none⟩ = some (.int .i64 t') ∧ z.cell? ⟨nz, 0, none⟩ = some (.string r) ∧ z.cell? ⟨nz, 1, none⟩ = some (.string s) ∧ z.cell? ⟨nz, 2, none⟩ = some (.int .i64 t) ∧ Hw w (nz + 1) z) (by kernel_rfl) HS6.out (fun hHeld => ?_)
          refine wpAnyH_take (i := 0) (v := ?v0a) rfl (by kernel_rfl) (by kernel_rfl) (by kernel_rfl) (fun _ _ _ h => h) (Or.inl ⟨by rfl, ?hy0a⟩) (by assumption) ?rest0a
          case hy0a => (intro zz hSw; (try dsimp only at hSw); go_simp; (try with_reducible rfl))
          change wpAnyH _ _ _ _ _ _ _ (Act.put _ (some 106) _) _
          simp only [Act.put, List.setIfInBounds_toArray, List.set_cons_zero, List.set_cons_succ]
          refine wpAnyH_take (i := 1) (v := ?v1a) rfl (by kernel_rfl) (by kernel_rfl) (by kernel_rfl) (fun _ _ _ h => h) (Or.inl ⟨by rfl, ?hy1a⟩) (by assumption) ?rest1a
          case hy1a => (intro zz hSw; (try dsimp only at hSw); go_simp; (try with_reducible rfl))
          change wpAnyH _ _ _ _ _ _ _ (Act.put _ (some 107) _) _
          simp only [Act.put, List.setIfInBounds_toArray, List.set_cons_zero, List.set_cons_succ]
          refine wpAnyH_take (i := 2) (v := ?v2a) rfl (by kernel_rfl) (by kernel_rfl) (by kernel_rfl) (fun _ _ _ h => h) (Or.inl ⟨by rfl, ?hy2a⟩) (by assumption) ?rest2a
          case hy2a => (intro zz hSw; (try dsimp only at hSw); go_simp; (try with_reducible rfl))
          change wpAnyH _ _ _ _ _ _ _ (Act.put _ (some 108) _) _
          simp only [Act.put, List.setIfInBounds_toArray, List.set_cons_zero, List.set_cons_succ]
          refine wpAnyH_take (i := 3) (v := ?v3a) rfl (by kernel_rfl) (by kernel_rfl) (by kernel_rfl) (fun _ _ _ h => h) (Or.inl ⟨by rfl, ?hy3a⟩) (by assumption) ?rest3a
          case hy3a => (intro zz hSw; (try dsimp only at hSw); go_simp; (try with_reducible rfl))
          change wpAnyH _ _ _ _ _ _ _ (Act.put _ (some 109) _) _
          simp only [Act.put, List.setIfInBounds_toArray, List.set_cons_zero, List.set_cons_succ]
          refine wpAnyH_take (i := 4) (v := ?v4a) rfl (by kernel_rfl) (by kernel_rfl) (by kernel_rfl) (fun _ _ _ h => h) (Or.inl ⟨by rfl, ?hy4a⟩) (by assumption) ?rest4a
          case hy4a => (intro zz hSw; (try dsimp only at hSw); go_simp; (try with_reducible rfl))
          change wpAnyH _ _ _ _ _ _ _ (Act.put _ (some 110) _) _
          simp only [Act.put, List.setIfInBounds_toArray, List.set_cons_zero, List.set_cons_succ]
          refine wpAnyH_take (i := 5) (v := ?v5a) rfl (by kernel_rfl) (by kernel_rfl) (by kernel_rfl) (fun _ _ _ h => h) (Or.inl ⟨by rfl, ?hy5a⟩) (by assumption) ?rest5a
          case hy5a => (intro zz hSw; (try dsimp only at hSw); go_simp; (try with_reducible rfl))
          change wpAnyH _ _ _ _ _ _ _ (Act.put _ (some 111) _) _
          simp only [Act.put, List.setIfInBounds_toArray, List.set_cons_zero, List.set_cons_succ]
          refine wpAnyH_take (i := 6) (v := ?v6a) rfl (by kernel_rfl) (by kernel_rfl) (by kernel_rfl) (fun _ _ _ h => h) (Or.inl ⟨by rfl, ?hy6a⟩) (by assumption) ?rest6a
          case hy6a => (intro zz hSw; (try dsimp only at hSw); go_simp; (try with_reducible rfl))
          change wpAnyH _ _ _ _ _ _ _ (Act.put _ (some 112) _) _
          simp only [Act.put, List.setIfInBounds_toArray, List.set_cons_zero, List.set_cons_succ]
          refine wpAnyH_take (i := 7) (v := ?v7a) rfl (by kernel_rfl) (by kernel_rfl) (by kernel_rfl) (fun _ _ _ h => h) (Or.inl ⟨by rfl, ?hy7a⟩) (by assumption) ?rest7a
          case hy7a => (intro zz hSw; (try dsimp only at hSw); go_simp; (try with_reducible rfl))
          change wpAnyH _ _ _ _ _ _ _ (Act.put _ (some 113) _) _
          simp only [Act.put, List.setIfInBounds_toArray, List.set_cons_zero, List.set_cons_succ]
          refine wpAnyH_take (i := 8) (v := ?v8a) rfl (by kernel_rfl) (by kernel_rfl) (by kernel_rfl) (fun _ _ _ h => h) (Or.inl ⟨by rfl, ?hy8a⟩) (by assumption) ?rest8a
          case hy8a => (intro zz hSw; (try dsimp only at hSw); go_simp; (try with_reducible rfl))
          change wpAnyH _ _ _ _ _ _ _ (Act.put _ (some 114) _) _
          simp only [Act.put, List.setIfInBounds_toArray, List.set_cons_zero, List.set_cons_succ]
          refine wpAnyH_take (i := 10) (v := ?v10a) rfl (by kernel_rfl) (by kernel_rfl) (by kernel_rfl) (fun _ _ _ h => h) (Or.inl ⟨by rfl, ?hy10a⟩) (by assumption) ?rest10a
          case hy10a => (intro zz hSw; (try dsimp only at hSw); go_simp; (try with_reducible rfl))
          change wpAnyH _ _ _ _ _ _ _ (Act.put _ (some 116) _) _
          simp only [Act.put, List.setIfInBounds_toArray, List.set_cons_zero, List.set_cons_succ]
          refine wpAnyH_ready (rs := [9]) (by kernel_rfl) (by simp) (AllReadyH.cons rfl (fun K hK => ?_) AllReadyH.nil)
          go_simp
          refine (CTi.out _ (lib_held3 HL.out hHeld)).mono ?_; rintro e w' ⟨rfl, bel⟩
          refine hK.out _ _ (three_next HLT3.out bel hHeld) (fun hHeld => ?_)
          clear hK K bel
          refine wpAnyH_ready (rs := [11]) (by kernel_rfl) (by simp) (AllReadyH.cons rfl (fun K hK => ?_) AllReadyH.nil)
          go_simp
          refine (CTi'.out _ (lib_held3 HL.out hHeld)).mono ?_; rintro e w' ⟨rfl, bel⟩
          refine hK.out _ _ (three_next HLT3.out bel hHeld) (fun hHeld => ?_)
          clear hK K bel
          refine wpAnyH_take (i := 12) (v := ?v12a) rfl (by kernel_rfl) (by kernel_rfl) (by kernel_rfl) (fun _ _ _ h => h) (Or.inl ⟨by rfl, ?hy12a⟩) (by assumption) ?rest12a
          case hy12a => (intro zz hSw; (try dsimp only at hSw); go_simp; (try with_reducible rfl))
          change wpAnyH _ _ _ _ _ _ _ (Act.put _ (some 118) _) _
          simp only [Act.put, List.setIfInBounds_toArray, List.set_cons_zero, List.set_cons_succ]
          refine wpAnyH_take (i := 13) (v := ?v13a) rfl (by kernel_rfl) (by kernel_rfl) (by kernel_rfl) (fun _ _ _ h => h) (Or.inl ⟨by rfl, ?hy13a⟩) (by assumption) ?rest13a
          case hy13a => (intro zz hSw; (try dsimp only at hSw); go_simp; (try with_reducible rfl))
          change wpAnyH _ _ _ _ _ _ _ (Act.put _ (some 119) _) _
          simp only [Act.put, List.setIfInBounds_toArray, List.set_cons_zero, List.set_cons_succ]
          refine wpAnyH_take (i := 14) (v := ?v14a) rfl (by kernel_rfl) (by kernel_rfl) (by kernel_rfl) (fun _ _ _ h => h) (Or.inl ⟨by rfl, ?hy14a⟩) (by assumption) ?rest14a
          case hy14a => (intro zz hSw; (try dsimp only at hSw); go_simp; (try with_reducible rfl))
          change wpAnyH _ _ _ _ _ _ _ (Act.put _ (some 120) _) _
          simp only [Act.put, List.setIfInBounds_toArray, List.set_cons_zero, List.set_cons_succ]
          refine wpAnyH_take (i := 15) (v := ?v15a) rfl (by kernel_rfl) (by kernel_rfl) (by kernel_rfl) (fun _ _ _ h => h) (Or.inl ⟨by rfl, ?hy15a⟩) (by assumption) ?rest15a
          case hy15a => (intro zz hSw; (try dsimp only at hSw); go_simp; (try with_reducible rfl))
          change wpAnyH _ _ _ _ _ _ _ (Act.put _ (some 121) _) _
          simp only [Act.put, List.setIfInBounds_toArray, List.set_cons_zero, List.set_cons_succ]
          refine wpAnyH_take (i := 16) (v := ?v16a) rfl (by kernel_rfl) (by kernel_rfl) (by kernel_rfl) (fun _ _ _ h => h) (Or.inl ⟨by rfl, ?hy16a⟩) (by assumption) ?rest16a
          case hy16a => (intro zz hSw; (try dsimp only at hSw); go_simp; (try with_reducible rfl))
          change wpAnyH _ _ _ _ _ _ _ (Act.put _ (some 122) _) _
          simp only [Act.put, List.setIfInBounds_toArray, List.set_cons_zero, List.set_cons_succ]
          refine wpAnyH_take (i := 17) (v := ?v17a) rfl (by kernel_rfl) (by kernel_rfl) (by kernel_rfl) (fun _ _ _ h => h) (Or.inl ⟨by rfl, ?hy17a⟩) (by assumption) ?rest17a
          case hy17a => (intro zz hSw; (try dsimp only at hSw); go_simp; (try with_reducible rfl))
          change wpAnyH _ _ _ _ _ _ _ (Act.put _ (some 123) _) _
          simp only [Act.put, List.setIfInBounds_toArray, List.set_cons_zero, List.set_cons_succ]
          refine wpAnyH_take (i := 18) (v := undef) rfl (by kernel_rfl) (by kernel_rfl) (by kernel_rfl) (fun _ _ _ h => h) (Or.inr ⟨by rfl, rfl⟩) (by assumption) ?_
          change wpAnyH _ _ _ _ _ _ _ (Act.put _ (some 124) _) _
          simp only [Act.put, List.setIfInBounds_toArray, List.set_cons_zero, List.set_cons_succ]
          refine wpAnyH_take (i := 19) (v := undef) rfl (by kernel_rfl) (by kernel_rfl) (by kernel_rfl) (fun _ _ _ h => h) (Or.inr ⟨by rfl, rfl⟩) (by assumption) ?_
          change wpAnyH _ _ _ _ _ _ _ (Act.put _ (some 125) _) _
          simp only [Act.put, List.setIfInBounds_toArray, List.set_cons_zero, List.set_cons_succ]
          refine wpAnyH_take (i := 20) (v := undef) rfl (by kernel_rfl) (by kernel_rfl) (by kernel_rfl) (fun _ _ _ h => h) (Or.inr ⟨by rfl, rfl⟩) (by assumption) ?_
          change wpAnyH _ _ _ _ _ _ _ (Act.put _ (some 126) _) _
          simp only [Act.put, List.setIfInBounds_toArray, List.set_cons_zero, List.set_cons_succ]
          refine wpAnyH_take (i := 21) (v := ?v21a) rfl (by kernel_rfl) (by kernel_rfl) (by kernel_rfl) (fun _ _ _ h => h) (Or.inl ⟨by rfl, ?hy21a⟩) (by assumption) ?rest21a
          case hy21a => (intro zz hSw; (try dsimp only at hSw); go_simp; (try with_reducible rfl))
          change wpAnyH _ _ _ _ _ _ _ (Act.put _ (some 127) _) _
          simp only [Act.put, List.setIfInBounds_toArray, List.set_cons_zero, List.set_cons_succ]
          refine wpAnyH_take (i := 22) (v := ?v22a) rfl (by kernel_rfl) (by kernel_rfl) (by kernel_rfl) (fun _ _ _ h => h) (Or.inl ⟨by rfl, ?hy22a⟩) (by assumption) ?rest22a
          case hy22a => (intro zz hSw; (try dsimp only at hSw); go_simp; (try with_reducible rfl))
          change wpAnyH _ _ _ _ _ _ _ (Act.put _ (some 128) _) _
          simp only [Act.put, List.setIfInBounds_toArray, List.set_cons_zero, List.set_cons_succ]
          refine wpAnyH_take (i := 23) (v := ?v23a) rfl (by kernel_rfl) (by kernel_rfl) (by kernel_rfl) (fun _ _ _ h => h) (Or.inl ⟨by rfl, ?hy23a⟩) (by assumption) ?rest23a
          case hy23a => (intro zz hSw; (try dsimp only at hSw); go_simp; (try with_reducible rfl))
          change wpAnyH _ _ _ _ _ _ _ (Act.put _ (some 129) _) _
          simp only [Act.put, List.setIfInBounds_toArray, List.set_cons_zero, List.set_cons_succ]
          refine wpAnyH_take (i := 24) (v := ?v24a) rfl (by kernel_rfl) (by kernel_rfl) (by kernel_rfl) (fun _ _ _ h => h) (Or.inl ⟨by rfl, ?hy24a⟩) (by assumption) ?rest24a
          case hy24a => (intro zz hSw; (try dsimp only at hSw); go_simp; (try with_reducible rfl))
          change wpAnyH _ _ _ _ _ _ _ (Act.put _ (some 130) _) _
          simp only [Act.put, List.setIfInBounds_toArray, List.set_cons_zero, List.set_cons_succ]
          refine wpAnyH_take (i := 25) (v := ?v25a) rfl (by kernel_rfl) (by kernel_rfl) (by kernel_rfl) (fun _ _ _ h => h) (Or.inl ⟨by rfl, ?hy25a⟩) (by assumption) ?rest25a
          case hy25a => (intro zz hSw; (try dsimp only at hSw); go_simp; (try with_reducible rfl))
          change wpAnyH _ _ _ _ _ _ _ (Act.put _ (some 131) _) _
          simp only [Act.put, List.setIfInBounds_toArray, List.set_cons_zero, List.set_cons_succ]
          refine wpAnyH_take (i := 26) (v := ?v26a) rfl (by kernel_rfl) (by kernel_rfl) (by kernel_rfl) (fun _ _ _ h => h) (Or.inl ⟨by rfl, ?hy26a⟩) (by assumption) ?rest26a
          case hy26a => (intro zz hSw; (try dsimp only at hSw); go_simp; (try with_reducible rfl))
          change wpAnyH _ _ _ _ _ _ _ (Act.put _ (some 132) _) _
          simp only [Act.put, List.setIfInBounds_toArray, List.set_cons_zero, List.set_cons_succ]
          refine wpAnyH_take (i := 27) (v := ?v27a) rfl (by kernel_rfl) (by kernel_rfl) (by kernel_rfl) (fun _ _ _ h => h) (Or.inl ⟨by rfl, ?hy27a⟩) (by assumption) ?rest27a
          case hy27a => (intro zz hSw; (try dsimp only at hSw); go_simp; (try with_reducible rfl))
          change wpAnyH _ _ _ _ _ _ _ (Act.put _ (some 2) _) _
          simp only [Act.put, List.setIfInBounds_toArray, List.set_cons_zero, List.set_cons_succ]
          refine wpAnyH_done (by kernel_rfl) ?_ _
          have hg := hHeld
          have HG := Lib.hid hg; clear hg
          go_wp2_with fail
          go_ret
          exact ⟨rfl, HG.out.2.2.2.2.2.2.2.2.2.1⟩
  · obtain ⟨-, -, -, -, -, -, k0, k1, k2, -⟩ := id HS9.out
    have HPX := Lib.hid hpx; clear hpx
    have q9 : (x.toList == x.toList) = true := by simp
    go_wp2_with fail
    refine (implText_any p q u _ (lib_held4 HL.out HS9.out)).mono ?_; rintro e z0 ⟨rfl, bz0⟩
    rw [HPX.out]
    have HS10 := Lib.hid (four_next HLT.out bz0 HS9.out); clear bz0 k0 k1 k2 HS9
    obtain ⟨x0, x1, x2, -⟩ := id HS10.out
    go_wp2_with fail
    clear x0 x1 x2
    refine (CKs.out _).mono ?_; rintro e z1 ⟨rfl, bz1⟩
    have HZ1 := Lib.hid (four_next HLT.out bz1 HS10.out); clear bz1
    cases κ
    · have hL0 : L = false := by rw [← HLs.out]; simp only [lessB, Hκ.out]; rfl
      subst hL0
      go_wp2_with fail
      go_ret
      exact ⟨rfl, HZ1.out.2.2.2.2.2.2.2.2.2.2.2.2.1⟩
    · obtain ⟨-, -, -, y0, y1, y2, -⟩ := id HZ1.out
      cases hκ' : keyB r'.data.toList s'.data.toList t'
      · have hL0 : L = false := by rw [← HLs.out]; simp only [lessB, Hκ.out, hκ']; rfl
        subst hL0
        have Hκ' := Lib.hid hκ'; clear hκ'
        go_wp2_with fail
        refine (specKey_is Hκ'.out _ HSZ.out.2.2.1 HSZ.out.2.2.2).mono ?_; rintro e z2 ⟨rfl, bz2⟩
        have HZ2 := Lib.hid (four_next HLT.out bz2 HZ1.out); clear bz2 y0 y1 y2
        go_wp2_with fail
        go_ret
        exact ⟨rfl, HZ2.out.2.2.2.2.2.2.2.2.2.2.2.2.1⟩
      · have Hκ' := Lib.hid hκ'; clear hκ'
        go_wp2_with fail
        refine (specKey_is Hκ'.out _ HSZ.out.2.2.1 HSZ.out.2.2.2).mono ?_; rintro e z2 ⟨rfl, bz2⟩
        have HZ2 := Lib.hid (four_next HLT.out bz2 HZ1.out); clear bz2 y0 y1 y2 HZ1
        obtain ⟨x0, x1, x2, -⟩ := id HZ2.out
        go_wp2_with fail
        refine (CTi.out _ (lib_held4 HL.out HZ2.out)).mono ?_; rintro e z3 ⟨rfl, bz3⟩
        have HZ3 := Lib.hid (four_next HLT.out bz3 HZ2.out); clear bz3 x0 x1 x2 HZ2
        have HKB := Lib.hid (key_back Hκ.out)
        have hTs : T.size ≤ 4194304 := by rw [← HT.out, tx_size]; have := ktx_len r.data.toList s.data.toList t; omega
        go_wp2_with fail
        refine (implKof_any T _ hTs (lib_all4 HL.out HZ3.out)).mono ?_; rintro e z4 ⟨rfl, bz4⟩
        rw [← HT.out, HKB.out]
        simp only [kofV, tx_of]
        have HZ4 := Lib.hid (four_next HLT.out bz4 HZ3.out); clear bz4 HZ3
        have hn4 : m ≤ z4.heap.size := HZ4.out.2.2.2.2.2.2.2.2.2.2.2.2.2
        have HS5 := Lib.hid (three_of (T := 25) HLT.out HZ4.out)
        have hLt := HLT.out
        have HLT3 := Lib.hid (show na < z4.heap.size + 1 ∧ nb < z4.heap.size + 1 ∧ z4.heap.size < z4.heap.size + 1 from ⟨by omega, by omega, by omega⟩)
        clear hLt HZ4 hTs
        have HLe := Lib.hid (show L = Op.bytesLess T.toList (tx (ktx r'.data.toList s'.data.toList t')).toList by rw [← HLs.out, ← HT.out, ← ls_text Hκ.out Hκ'.out]; simp only [lessB, Hκ.out, Hκ'.out]; rfl)
        have HLr := Lib.hid (show (L || lessB r' s' t' r s t) = !(r == r' && (s == s' && t == t')) by rw [← HLs.out, ← ls_tri]; simp only [lessB, Hκ.out, Hκ'.out]; rfl)
        obtain ⟨T', hT'⟩ : ∃ T', tx (ktx r'.data.toList s'.data.toList t') = T' := ⟨_, rfl⟩
        rw [hT'] at HLe
        have CTi' := Lib.hid (fun (z : World) (hz : LibT z) => ((implText_any r' s' t' z hz).mono fun _ _ ⟨he, hb⟩ => ⟨by rw [he, hT'], hb⟩ : Calls Tryd.prog 19 #[.agg #[.string r', .string s', .int .i64 t']] z fun e w' => e = .returned (.string T') ∧ Below z.heap.size z w')); clear hT'
        obtain ⟨L', hL'⟩ : ∃ L', lessB r' s' t' r s t = L' := ⟨_, rfl⟩
        rw [hL'] at HLr
        have CLr := Lib.hid (fun (z : World) => ((implLess_any r' s' t' r s t z).mono fun _ _ ⟨he, hb⟩ => ⟨by rw [he, hL'], hb⟩ : Calls Tryd.prog 13 #[.agg #[.string r', .string s', .int .i64 t'], .agg #[.string r, .string s, .int .i64 t]] z fun e w' => e = .returned (.bool L') ∧ Below z.heap.size z w')); clear hL'
        have he2 : ∀ z, (Op.equalIn 10000 25 (.agg #[.string r, .string s, .int .i64 t]) (.agg #[.string r, .string s, .int .i64 t])).run Tryd.prog z = .ok true z := fun z => by rw [keyEq, ba_self, ba_self]; simp
        have he3 : ∀ z, (Op.equalIn 10000 25 (.agg #[.string r, .string s, .int .i64 t]) (.agg #[.string r', .string s', .int .i64 t'])).run Tryd.prog z = .ok (r == r' && (s == s' && t == t')) z := fun z => keyEq _ _ _ _ _ _ z
        generalize (r == r' && (s == s' && t == t')) = E at he3 HLr
        have q6 : (Op.bytesLess T.toList T'.toList == Op.bytesLess T.toList T'.toList) = true := by simp
        go_wp2_with fail
        generalize z4.alloc (.cells #[.string r, .string s, .int .i64 t] 25) = z5 at HS5 ⊢
        generalize z4.heap.size = nz at HS5 HLT3 ⊢
        clear hn4
        have HS6 := Lib.hid (three_next HLT3.out (Below.refl _ z5).drew HS5.out)
        cases L
        · have hE : E = !L' := by have := HLr.out; cases L' <;> cases E <;> simp_all
          subst hE
          have hLe := HLe.out
          have q7 : Op.bytesLess T.toList T'.toList = false := hLe.symm
          clear hLe HLe HLr q6
          have q8 : (L' == L') = true := by simp
          go_region_held3 (fun z => z.cell? ⟨na, 0, none⟩ = some (.string r) ∧ z.cell? ⟨na, 1, none⟩ = some (.string s) ∧ z.cell? ⟨na, 2, none⟩ = some (.int .i64 t) ∧ z.cell? ⟨nb, 0, none⟩ = some (.string r') ∧ z.cell? ⟨nb, 1, none⟩ = some (.string s') ∧ z.cell? ⟨nb, 2, none⟩ = some (.int .i64 t') ∧ z.cell? ⟨nz, 0, none⟩ = some (.string r) ∧ z.cell? ⟨nz, 1, none⟩ = some (.string s) ∧ z.cell? ⟨nz, 2, none⟩ = some (.int .i64 t) ∧ Hw w (nz + 1) z)
            (first | exact HS6.out | assumption | (refine three_next HLT3.out (by assumption) ?_; assumption))
            (first
            | (go_at_call_of 19 r; refine (CTi.out _ ?_).mono ?_; exact lib_held3 HL.out (by assumption); rintro e w' ⟨rfl, bel⟩)
            | (go_at_call_of 19 r'; refine (CTi'.out _ ?_).mono ?_; exact lib_held3 HL.out (by assumption); rintro e w' ⟨rfl, bel⟩)
            | (go_at_call 13; refine (CLr.out _).mono ?_; rintro e w' ⟨rfl, bel⟩))
          rename_i hg
          have HG := Lib.hid hg; clear hg
          go_wp2_with fail
          go_ret
          exact ⟨rfl, HG.out.2.2.2.2.2.2.2.2.2.1⟩
        · have hE : E = false := by have := HLr.out; cases E <;> simp_all
          subst hE
          have hLe := HLe.out
          have q7 : Op.bytesLess T.toList T'.toList = true := hLe.symm
          clear hLe HLe HLr q6
          refine wp_region_held_drew (S := fun z => z.cell? ⟨na, 0, none⟩ = some (.string r) ∧ z.cell? ⟨na, 1, none⟩ = some (.string s) ∧ z.cell? ⟨na, 2, none⟩ = some (.int .i64 t) ∧ z.cell? ⟨nb, 0, none⟩ = some (.string r') ∧ z.cell? ⟨nb, 1, none⟩ = some (.string s') ∧ z.cell? ⟨nb, 2, none⟩ = some (.int .i64 t') ∧ z.cell? ⟨nz, 0, none⟩ = some (.string r) ∧ z.cell? ⟨nz, 1, none⟩ = some (.string s) ∧ z.cell? ⟨nz, 2, none⟩ = some (.int .i64 t) ∧ Hw w (nz + 1) z) (by kernel_rfl) HS6.out (fun hHeld => ?_)
          refine wpAnyH_take (i := 0) (v := ?v0b) rfl (by kernel_rfl) (by kernel_rfl) (by kernel_rfl) (fun _ _ _ h => h) (Or.inl ⟨by rfl, ?hy0b⟩) (by assumption) ?rest0b
          case hy0b => (intro zz hSw; (try dsimp only at hSw); go_simp; (try with_reducible rfl))
          change wpAnyH _ _ _ _ _ _ _ (Act.put _ (some 106) _) _
          simp only [Act.put, List.setIfInBounds_toArray, List.set_cons_zero, List.set_cons_succ]
          refine wpAnyH_take (i := 1) (v := ?v1b) rfl (by kernel_rfl) (by kernel_rfl) (by kernel_rfl) (fun _ _ _ h => h) (Or.inl ⟨by rfl, ?hy1b⟩) (by assumption) ?rest1b
          case hy1b => (intro zz hSw; (try dsimp only at hSw); go_simp; (try with_reducible rfl))
          change wpAnyH _ _ _ _ _ _ _ (Act.put _ (some 107) _) _
          simp only [Act.put, List.setIfInBounds_toArray, List.set_cons_zero, List.set_cons_succ]
          refine wpAnyH_take (i := 2) (v := ?v2b) rfl (by kernel_rfl) (by kernel_rfl) (by kernel_rfl) (fun _ _ _ h => h) (Or.inl ⟨by rfl, ?hy2b⟩) (by assumption) ?rest2b
          case hy2b => (intro zz hSw; (try dsimp only at hSw); go_simp; (try with_reducible rfl))
          change wpAnyH _ _ _ _ _ _ _ (Act.put _ (some 108) _) _
          simp only [Act.put, List.setIfInBounds_toArray, List.set_cons_zero, List.set_cons_succ]
          refine wpAnyH_take (i := 3) (v := ?v3b) rfl (by kernel_rfl) (by kernel_rfl) (by kernel_rfl) (fun _ _ _ h => h) (Or.inl ⟨by rfl, ?hy3b⟩) (by assumption) ?rest3b
          case hy3b => (intro zz hSw; (try dsimp only at hSw); go_simp; (try with_reducible rfl))
          change wpAnyH _ _ _ _ _ _ _ (Act.put _ (some 109) _) _
          simp only [Act.put, List.setIfInBounds_toArray, List.set_cons_zero, List.set_cons_succ]
          refine wpAnyH_take (i := 4) (v := ?v4b) rfl (by kernel_rfl) (by kernel_rfl) (by kernel_rfl) (fun _ _ _ h => h) (Or.inl ⟨by rfl, ?hy4b⟩) (by assumption) ?rest4b
          case hy4b => (intro zz hSw; (try dsimp only at hSw); go_simp; (try with_reducible rfl))
          change wpAnyH _ _ _ _ _ _ _ (Act.put _ (some 110) _) _
          simp only [Act.put, List.setIfInBounds_toArray, List.set_cons_zero, List.set_cons_succ]
          refine wpAnyH_take (i := 5) (v := ?v5b) rfl (by kernel_rfl) (by kernel_rfl) (by kernel_rfl) (fun _ _ _ h => h) (Or.inl ⟨by rfl, ?hy5b⟩) (by assumption) ?rest5b
          case hy5b => (intro zz hSw; (try dsimp only at hSw); go_simp; (try with_reducible rfl))
          change wpAnyH _ _ _ _ _ _ _ (Act.put _ (some 111) _) _
          simp only [Act.put, List.setIfInBounds_toArray, List.set_cons_zero, List.set_cons_succ]
          refine wpAnyH_take (i := 6) (v := ?v6b) rfl (by kernel_rfl) (by kernel_rfl) (by kernel_rfl) (fun _ _ _ h => h) (Or.inl ⟨by rfl, ?hy6b⟩) (by assumption) ?rest6b
          case hy6b => (intro zz hSw; (try dsimp only at hSw); go_simp; (try with_reducible rfl))
          change wpAnyH _ _ _ _ _ _ _ (Act.put _ (some 112) _) _
          simp only [Act.put, List.setIfInBounds_toArray, List.set_cons_zero, List.set_cons_succ]
          refine wpAnyH_take (i := 7) (v := ?v7b) rfl (by kernel_rfl) (by kernel_rfl) (by kernel_rfl) (fun _ _ _ h => h) (Or.inl ⟨by rfl, ?hy7b⟩) (by assumption) ?rest7b
          case hy7b => (intro zz hSw; (try dsimp only at hSw); go_simp; (try with_reducible rfl))
          change wpAnyH _ _ _ _ _ _ _ (Act.put _ (some 113) _) _
          simp only [Act.put, List.setIfInBounds_toArray, List.set_cons_zero, List.set_cons_succ]
          refine wpAnyH_take (i := 8) (v := ?v8b) rfl (by kernel_rfl) (by kernel_rfl) (by kernel_rfl) (fun _ _ _ h => h) (Or.inl ⟨by rfl, ?hy8b⟩) (by assumption) ?rest8b
          case hy8b => (intro zz hSw; (try dsimp only at hSw); go_simp; (try with_reducible rfl))
          change wpAnyH _ _ _ _ _ _ _ (Act.put _ (some 114) _) _
          simp only [Act.put, List.setIfInBounds_toArray, List.set_cons_zero, List.set_cons_succ]
          refine wpAnyH_take (i := 10) (v := ?v10b) rfl (by kernel_rfl) (by kernel_rfl) (by kernel_rfl) (fun _ _ _ h => h) (Or.inl ⟨by rfl, ?hy10b⟩) (by assumption) ?rest10b
          case hy10b => (intro zz hSw; (try dsimp only at hSw); go_simp; (try with_reducible rfl))
          change wpAnyH _ _ _ _ _ _ _ (Act.put _ (some 116) _) _
          simp only [Act.put, List.setIfInBounds_toArray, List.set_cons_zero, List.set_cons_succ]
          refine wpAnyH_ready (rs := [9]) (by kernel_rfl) (by simp) (AllReadyH.cons rfl (fun K hK => ?_) AllReadyH.nil)
          go_simp
          refine (CTi.out _ (lib_held3 HL.out hHeld)).mono ?_; rintro e w' ⟨rfl, bel⟩
          refine hK.out _ _ (three_next HLT3.out bel hHeld) (fun hHeld => ?_)
          clear hK K bel
          refine wpAnyH_ready (rs := [11]) (by kernel_rfl) (by simp) (AllReadyH.cons rfl (fun K hK => ?_) AllReadyH.nil)
          go_simp
          refine (CTi'.out _ (lib_held3 HL.out hHeld)).mono ?_; rintro e w' ⟨rfl, bel⟩
          refine hK.out _ _ (three_next HLT3.out bel hHeld) (fun hHeld => ?_)
          clear hK K bel
          refine wpAnyH_take (i := 12) (v := ?v12b) rfl (by kernel_rfl) (by kernel_rfl) (by kernel_rfl) (fun _ _ _ h => h) (Or.inl ⟨by rfl, ?hy12b⟩) (by assumption) ?rest12b
          case hy12b => (intro zz hSw; (try dsimp only at hSw); go_simp; (try with_reducible rfl))
          change wpAnyH _ _ _ _ _ _ _ (Act.put _ (some 118) _) _
          simp only [Act.put, List.setIfInBounds_toArray, List.set_cons_zero, List.set_cons_succ]
          refine wpAnyH_take (i := 13) (v := ?v13b) rfl (by kernel_rfl) (by kernel_rfl) (by kernel_rfl) (fun _ _ _ h => h) (Or.inl ⟨by rfl, ?hy13b⟩) (by assumption) ?rest13b
          case hy13b => (intro zz hSw; (try dsimp only at hSw); go_simp; (try with_reducible rfl))
          change wpAnyH _ _ _ _ _ _ _ (Act.put _ (some 119) _) _
          simp only [Act.put, List.setIfInBounds_toArray, List.set_cons_zero, List.set_cons_succ]
          refine wpAnyH_take (i := 14) (v := ?v14b) rfl (by kernel_rfl) (by kernel_rfl) (by kernel_rfl) (fun _ _ _ h => h) (Or.inl ⟨by rfl, ?hy14b⟩) (by assumption) ?rest14b
          case hy14b => (intro zz hSw; (try dsimp only at hSw); go_simp; (try with_reducible rfl))
          change wpAnyH _ _ _ _ _ _ _ (Act.put _ (some 120) _) _
          simp only [Act.put, List.setIfInBounds_toArray, List.set_cons_zero, List.set_cons_succ]
          refine wpAnyH_take (i := 15) (v := ?v15b) rfl (by kernel_rfl) (by kernel_rfl) (by kernel_rfl) (fun _ _ _ h => h) (Or.inl ⟨by rfl, ?hy15b⟩) (by assumption) ?rest15b
          case hy15b => (intro zz hSw; (try dsimp only at hSw); go_simp; (try with_reducible rfl))
          change wpAnyH _ _ _ _ _ _ _ (Act.put _ (some 121) _) _
          simp only [Act.put, List.setIfInBounds_toArray, List.set_cons_zero, List.set_cons_succ]
          refine wpAnyH_take (i := 16) (v := ?v16b) rfl (by kernel_rfl) (by kernel_rfl) (by kernel_rfl) (fun _ _ _ h => h) (Or.inl ⟨by rfl, ?hy16b⟩) (by assumption) ?rest16b
          case hy16b => (intro zz hSw; (try dsimp only at hSw); go_simp; (try with_reducible rfl))
          change wpAnyH _ _ _ _ _ _ _ (Act.put _ (some 122) _) _
          simp only [Act.put, List.setIfInBounds_toArray, List.set_cons_zero, List.set_cons_succ]
          refine wpAnyH_take (i := 17) (v := ?v17b) rfl (by kernel_rfl) (by kernel_rfl) (by kernel_rfl) (fun _ _ _ h => h) (Or.inl ⟨by rfl, ?hy17b⟩) (by assumption) ?rest17b
          case hy17b => (intro zz hSw; (try dsimp only at hSw); go_simp; (try with_reducible rfl))
          change wpAnyH _ _ _ _ _ _ _ (Act.put _ (some 123) _) _
          simp only [Act.put, List.setIfInBounds_toArray, List.set_cons_zero, List.set_cons_succ]
          refine wpAnyH_take (i := 18) (v := undef) rfl (by kernel_rfl) (by kernel_rfl) (by kernel_rfl) (fun _ _ _ h => h) (Or.inr ⟨by rfl, rfl⟩) (by assumption) ?_
          change wpAnyH _ _ _ _ _ _ _ (Act.put _ (some 124) _) _
          simp only [Act.put, List.setIfInBounds_toArray, List.set_cons_zero, List.set_cons_succ]
          refine wpAnyH_take (i := 19) (v := undef) rfl (by kernel_rfl) (by kernel_rfl) (by kernel_rfl) (fun _ _ _ h => h) (Or.inr ⟨by rfl, rfl⟩) (by assumption) ?_
          change wpAnyH _ _ _ _ _ _ _ (Act.put _ (some 125) _) _
          simp only [Act.put, List.setIfInBounds_toArray, List.set_cons_zero, List.set_cons_succ]
          refine wpAnyH_take (i := 20) (v := undef) rfl (by kernel_rfl) (by kernel_rfl) (by kernel_rfl) (fun _ _ _ h => h) (Or.inr ⟨by rfl, rfl⟩) (by assumption) ?_
          change wpAnyH _ _ _ _ _ _ _ (Act.put _ (some 126) _) _
          simp only [Act.put, List.setIfInBounds_toArray, List.set_cons_zero, List.set_cons_succ]
          refine wpAnyH_take (i := 21) (v := ?v21b) rfl (by kernel_rfl) (by kernel_rfl) (by kernel_rfl) (fun _ _ _ h => h) (Or.inl ⟨by rfl, ?hy21b⟩) (by assumption) ?rest21b
          case hy21b => (intro zz hSw; (try dsimp only at hSw); go_simp; (try with_reducible rfl))
          change wpAnyH _ _ _ _ _ _ _ (Act.put _ (some 127) _) _
          simp only [Act.put, List.setIfInBounds_toArray, List.set_cons_zero, List.set_cons_succ]
          refine wpAnyH_take (i := 22) (v := ?v22b) rfl (by kernel_rfl) (by kernel_rfl) (by kernel_rfl) (fun _ _ _ h => h) (Or.inl ⟨by rfl, ?hy22b⟩) (by assumption) ?rest22b
          case hy22b => (intro zz hSw; (try dsimp only at hSw); go_simp; (try with_reducible rfl))
          change wpAnyH _ _ _ _ _ _ _ (Act.put _ (some 128) _) _
          simp only [Act.put, List.setIfInBounds_toArray, List.set_cons_zero, List.set_cons_succ]
          refine wpAnyH_take (i := 23) (v := ?v23b) rfl (by kernel_rfl) (by kernel_rfl) (by kernel_rfl) (fun _ _ _ h => h) (Or.inl ⟨by rfl, ?hy23b⟩) (by assumption) ?rest23b
          case hy23b => (intro zz hSw; (try dsimp only at hSw); go_simp; (try with_reducible rfl))
          change wpAnyH _ _ _ _ _ _ _ (Act.put _ (some 129) _) _
          simp only [Act.put, List.setIfInBounds_toArray, List.set_cons_zero, List.set_cons_succ]
          refine wpAnyH_take (i := 24) (v := ?v24b) rfl (by kernel_rfl) (by kernel_rfl) (by kernel_rfl) (fun _ _ _ h => h) (Or.inl ⟨by rfl, ?hy24b⟩) (by assumption) ?rest24b
          case hy24b => (intro zz hSw; (try dsimp only at hSw); go_simp; (try with_reducible rfl))
          change wpAnyH _ _ _ _ _ _ _ (Act.put _ (some 130) _) _
          simp only [Act.put, List.setIfInBounds_toArray, List.set_cons_zero, List.set_cons_succ]
          refine wpAnyH_take (i := 25) (v := ?v25b) rfl (by kernel_rfl) (by kernel_rfl) (by kernel_rfl) (fun _ _ _ h => h) (Or.inl ⟨by rfl, ?hy25b⟩) (by assumption) ?rest25b
          case hy25b => (intro zz hSw; (try dsimp only at hSw); go_simp; (try with_reducible rfl))
          change wpAnyH _ _ _ _ _ _ _ (Act.put _ (some 131) _) _
          simp only [Act.put, List.setIfInBounds_toArray, List.set_cons_zero, List.set_cons_succ]
          refine wpAnyH_take (i := 26) (v := ?v26b) rfl (by kernel_rfl) (by kernel_rfl) (by kernel_rfl) (fun _ _ _ h => h) (Or.inl ⟨by rfl, ?hy26b⟩) (by assumption) ?rest26b
          case hy26b => (intro zz hSw; (try dsimp only at hSw); go_simp; (try with_reducible rfl))
          change wpAnyH _ _ _ _ _ _ _ (Act.put _ (some 132) _) _
          simp only [Act.put, List.setIfInBounds_toArray, List.set_cons_zero, List.set_cons_succ]
          refine wpAnyH_take (i := 27) (v := ?v27b) rfl (by kernel_rfl) (by kernel_rfl) (by kernel_rfl) (fun _ _ _ h => h) (Or.inl ⟨by rfl, ?hy27b⟩) (by assumption) ?rest27b
          case hy27b => (intro zz hSw; (try dsimp only at hSw); go_simp; (try with_reducible rfl))
          change wpAnyH _ _ _ _ _ _ _ (Act.put _ (some 2) _) _
          simp only [Act.put, List.setIfInBounds_toArray, List.set_cons_zero, List.set_cons_succ]
          refine wpAnyH_done (by kernel_rfl) ?_ _
          have hg := hHeld
          have HG := Lib.hid hg; clear hg
          go_wp2_with fail
          go_ret
          exact ⟨rfl, HG.out.2.2.2.2.2.2.2.2.2.1⟩
end Go.Proofs.YtdalncgbbkeimaaDoor.Kp
