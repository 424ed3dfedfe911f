/-
  The decimal form of a number, built by a loop from its last digit on: laws.digits and spec.l1Int give it, and nothing that was there turns.
  The contract of laws.markText: the letter m and the decimal digits.
-/
import Derived.Test.YtoiphglfngkoiaaRp
import Derived.Test.YtoiphglfngkoiaaTx
import Derived.WalkSpells
import Derived.Below
import Derived.Laws.BytesArg
import Derived.Laws.Closers25b
import Derived.Lib.Strings
import Derived.Lib.SmallJoins
namespace Go.Proofs.Ytoiphglfngkoiaa.Rp
open Go.RowKit Wd
/-- One byte as a text. -/
def one (x : Int) : ByteArray := strOfNums [x]
theorem one_list (x : Int) : (one x).data.toList = [UInt8.ofNat x.toNat] := rfl
theorem one_size (x : Int) : (one x).size = 1 := rfl
/-- So far: the digits behind the first ones, which m still spells. -/
def DgR (n m : Nat) (t : ByteArray) : Prop := (t.data.toList = [] ∧ m = n) ∨ (t.data.toList ≠ [] ∧ Lib.decDigits n = (if m = 0 then [] else Lib.decDigits m) ++ t.data.toList)
theorem DgR.start (n : Nat) : DgR n n ⟨#[]⟩ := Or.inl ⟨rfl, rfl⟩
theorem DgR.step {n m : Nat} {t : ByteArray} (h : DgR n m t) (hm : t.data.toList = [] ∨ 0 < m) : DgR n (m / 10) (one (48 + (m : Int) % 10) ++ t) := by
  have hl : (one (48 + (m : Int) % 10) ++ t).data.toList = UInt8.ofNat (48 + m % 10) :: t.data.toList := by
    rw [Joins.data_append, one_list, show (48 + (m : Int) % 10).toNat = 48 + m % 10 by omega]; rfl
  have hd : ∀ k : Nat, Lib.decDigits k = (if k / 10 = 0 then [] else Lib.decDigits (k / 10)) ++ [UInt8.ofNat (48 + k % 10)] := by
    intro k
    by_cases hk : k < 10
    · rw [Lib.decDigits_one hk, if_pos (by omega), show k % 10 = k by omega]; rfl
    · rw [Lib.decDigits, dif_neg hk, if_neg (by omega)]
  right
  refine ⟨by rw [hl]; simp, ?_⟩
  rw [hl]
  rcases h with ⟨h1, rfl⟩ | ⟨h1, h2⟩
  · rw [h1]; exact hd m
  · rw [h2, if_neg (by rcases hm with hm | hm; exact absurd hm h1; omega), hd m, List.append_assoc]; rfl
theorem DgR.done {n : Nat} {t : ByteArray} (h : DgR n 0 t) (ht : ¬ t.data.toList = []) : t = ⟨(Lib.decDigits n).toArray⟩ := by
  rcases h with ⟨h1, _⟩ | ⟨_, h2⟩
  · exact absurd h1 ht
  · rw [if_pos rfl, List.nil_append] at h2; rw [h2]
theorem DgR.size {n m : Nat} {t : ByteArray} (h : DgR n m t) (hn : n ≤ 9223372036854775808) : t.size ≤ 20 := by
  rw [Lib.size_eq]
  rcases h with ⟨h1, _⟩ | ⟨_, h2⟩
  · rw [h1]; decide
  · have h3 := congrArg List.length h2
    rw [List.length_append] at h3
    have := dec_len 18 n (by omega)
    omega
theorem list_nil (t : ByteArray) : t.toList = [] ↔ t.data.toList = [] := by rw [Lib.toList_data]
def lenOf : Value → Nat | .string t => t.size | _ => 0


theorem minus_app {t : ByteArray} {l : List UInt8} (h : t = ⟨l.toArray⟩) : ((⟨#[45]⟩ : ByteArray) ++ t) = ⟨(45 :: l).toArray⟩ := by
  subst h
  apply ByteArray.ext
  apply Array.toList_inj.1
  rw [Joins.data_append]; rfl
end Go.Proofs.Ytoiphglfngkoiaa.Rp
namespace Go.Proofs.Ytoiphglfngkoiaa.Cl
open Go.RowKit Wd Rp Kp
/-- A mark. -/
def mtx (k : Nat) : List UInt8 := 109 :: Lib.decDigits k
theorem mtx_app (t : ByteArray) (k : Nat) (h : t = ⟨(Lib.decDigits k).toArray⟩) : ((⟨#[109]⟩ : ByteArray) ++ t) = tx (mtx k) := by
  subst h
  apply ByteArray.ext
  apply Array.toList_inj.1
  rw [Joins.data_append]; rfl
theorem dgr_end {n : Nat} {t : ByteArray} (h : DgR n 0 t) (hn : 1 ≤ n) : t = ⟨(Lib.decDigits n).toArray⟩ :=
  h.done (fun e => by rcases h with ⟨_, h2⟩ | ⟨h1, _⟩; omega; exact h1 e)
end Go.Proofs.Ytoiphglfngkoiaa.Cl
