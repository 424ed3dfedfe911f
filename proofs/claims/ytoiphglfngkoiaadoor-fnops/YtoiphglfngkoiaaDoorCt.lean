/-
  Contracts of spec.l4Show, spec.ShowCell and impl.ShowCell: the text 'shB' of a cell. (Made by gen_ct.py.)
-/
import Derived.Test.YtoiphglfngkoiaaDoorCa
import Derived.Test.YtoiphglfngkoiaaDoorTx
import Derived.Test.YtoiphglfngkoiaaDoorDg
import Derived.Test.YtoiphglfngkoiaaDoorSh
import Derived.Lib.ItoaLen
import Derived.Lib.AppendIntMem
import Derived.Deep.RegionHeld3
namespace Go.Proofs.YtoiphglfngkoiaaDoor.Cl
open Go.RowKit Wd Rp Kp
set_option linter.unusedVariables false
theorem coc {p : Addr} {v : Value} {r z : World} (hz : Below r.heap.size r z) (hg : p.block < r.heap.size) (h : r.cell? p = some v) : z.cell? p = some v := (World.cell?_of_block (w := r) (hz.block p.block hg)).trans h
def valT (v : Int) (g : Bool) : List UInt8 := if g then [45] else Lib.itoa v
def showB (r b : List UInt8) (t v : Int) (g : Bool) : List UInt8 := r ++ (32 :: (b ++ (32 :: (Lib.itoa t ++ (32 :: valT v g)))))
def shB (r b : ByteArray) (t v : Int) (g : Bool) : List UInt8 := if cellB r b t v g then showB r.data.toList b.data.toList t v g else []
theorem cell_facts {r b : ByteArray} {t v : Int} {g : Bool} (h : cellB r b t v g = true) : r.size ≤ 8 ∧ b.size ≤ 8 ∧ 0 ≤ t ∧ t ≤ 1000000 ∧ -2147483648 ≤ v ∧ v ≤ 2147483647 := by
  unfold cellB at h
  rw [Bool.and_eq_true, Bool.and_eq_true] at h
  have hk := keyB_iff.1 h.1
  have h1 := nm_len hk.1
  have h2 := nm_len hk.2.1
  rw [llen] at h1 h2
  have h3 := (isW_iff v).1 h.2.1
  exact ⟨by omega, by omega, hk.2.2.1, hk.2.2.2, h3.1, h3.2⟩
theorem itoa_size (n : Int) (h0 : -9223372036854775808 ≤ n) (h1 : n ≤ 9223372036854775807) : (tx (Lib.itoa n)).size ≤ 21 := by rw [tx_size]; exact Lib.itoa_length_le n h0 h1
theorem show_join {r b : ByteArray} {t v : Int} {g : Bool} {x : ByteArray} (hx : x = tx (valT v g)) : (((((r ++ (⟨#[32]⟩ : ByteArray)) ++ b) ++ (⟨#[32]⟩ : ByteArray)) ++ tx (Lib.itoa t)) ++ (⟨#[32]⟩ : ByteArray)) ++ x = tx (showB r.data.toList b.data.toList t v g) := by
  subst hx
  apply tx_eq
  simp only [Joins.data_append, tx_data]
  unfold showB
  simp
def ShPost (r b : ByteArray) (t v : Int) (g : Bool) (w : World) (e : Ending) (w' : World) : Prop := e = .returned (.string (tx (shB r b t v g))) ∧ Below w.heap.size w w'
theorem l1Int_is (n : Int) (h0 : -9223372036854775808 ≤ n) (h1 : n ≤ 9223372036854775807) (w : World) : Calls Tryd.prog 33 #[.int .i64 n] w fun e w' => e = .returned (.string (tx (Lib.itoa n))) ∧ Below w.heap.size w w' := l1Int_any n w h0 h1
theorem fmt_is (n : Int) (h0 : -9223372036854775808 ≤ n) (h1 : n ≤ 9223372036854775807) (w : World) (hL : LibT w) : Calls Tryd.prog 20 #[.int .i64 n, .int .i64 10] w fun e w' => e = .returned (.string (tx (Lib.itoa n))) ∧ Below w.heap.size w w' :=
  (Tryd.strconv_FormatInt_10 n h0 h1 w hL.1).mono fun e w' ⟨he, k, os, hw⟩ => ⟨he, by rw [hw]; exact Lib.below_grow _ w (Nat.le_refl _) k os⟩
end Go.Proofs.YtoiphglfngkoiaaDoor.Cl
