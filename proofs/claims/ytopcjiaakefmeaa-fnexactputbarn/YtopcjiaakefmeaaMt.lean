/-
  The contract of laws.markText: the letter m and the decimal digits.
-/
import Derived.Test.YtopcjiaakefmeaaTx
import Derived.Test.YtopcjiaakefmeaaDg
namespace Go.Proofs.Ytopcjiaakefmeaa.Cl
open Go.RowKit Wd Rp Kp
/-- A mark. -/
def mtx (k : Nat) : List UInt8 := 109 :: Lib.decDigits k
theorem mtx_app (t : ByteArray) (k : Nat) (h : t = ⟨(Lib.decDigits k).toArray⟩) : ((⟨#[109]⟩ : ByteArray) ++ t) = tx (mtx k) := by
  subst h
  apply ByteArray.ext
  apply Array.toList_inj.1
  rw [Joins.data_append]; rfl
theorem dgr_end {n : Nat} {t : ByteArray} (h : DgR n 0 t) (hn : 1 ≤ n) : t = ⟨(Lib.decDigits n).toArray⟩ :=
  h.done (fun e => by rcases h with ⟨_, h2⟩ | ⟨h1, _⟩; omega; exact h1 e)
set_option maxRecDepth 100000 in
set_option maxHeartbeats 1000000 in
theorem markText_any (n : Nat) (w : World) (hn1 : 1 ≤ n) (hn : n ≤ 9223372036854775807) :
    Calls Try.prog 95 #[.int .i64 n] w fun e w' => e = .returned (.string (tx (mtx n))) ∧ Below w.heap.size w w' := by
  have KC := conv_one
  have q0 : ¬ (n : Int) ≤ 0 := by omega
  go_enter Try.func95, Try.ntmps95
  go_wp2
  go_loopw [0, 3] (fun i s wr => ∃ (m : Nat) (t : ByteArray), i = .int .i64 m ∧ s = .string t ∧ m ≤ n ∧ DgR n m t ∧ Below w.heap.size w wr) (fun i _ _ => (intOf i).toNat)
  case atStart => exact ⟨n, ⟨#[]⟩, rfl, rfl, Nat.le_refl _, DgR.start n, Below.refl _ _⟩
  case round =>
    obtain ⟨m, t, rfl, rfl, hm, hd, hb⟩ := hrel
    have hsz := hd.size (by omega)
    have hsum : ¬ 9223372036854775807 < (one (48 + (m : Int) % 10)).size + t.size := by rw [one_size]; omega
    have HB := Lib.hid hb; clear hb
    have HD := Lib.hid hd; clear hd
    have hB : w.heap.size ≤ wr.heap.size := HB.out.size
    by_cases hp : 0 < m
    · go_wp2
      go_roundw
      case rel => exact ⟨m / 10, _, by go_num, rfl, by omega, HD.out.step (Or.inr hp), HB.out.alloc hB _⟩
      case measure => simp only [intOf]; omega
    · obtain rfl : m = 0 := by omega
      have HE := Lib.hid (mtx_app t n (dgr_end HD.out hn1))
      have hs2 : ¬ 9223372036854775807 < (⟨#[109]⟩ : ByteArray).size + t.size := by show ¬ _ < 1 + t.size; omega
      go_wp2
      go_ret
      exact ⟨by rw [← HE.out]; rfl, HB.out⟩
end Go.Proofs.Ytopcjiaakefmeaa.Cl
