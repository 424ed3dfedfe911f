/-
  Plain: the cursor's mix (spec.l1Byte's h) runs through one single cycle: from every state it comes to 0.
  Draws as functions of the cursor's state (bytes left, mix): how many tokens l9DrawDeeds gives, and where it leaves the state; that l9Draw's loop ends.
-/
import Derived.WalkKit
import Derived.IntWalk
namespace Go.Proofs.YtkhmbmcomgclaaaGreatDoor.Lc
open Go.RowKit

/-- The mix a step on. -/
def F (h : Int) : Int := wrap64 (wrap64 (h * 6364136223846793005) + 1442695040888963407)
/-- n steps on. -/
def it : Nat → Int → Int
  | 0, h => h
  | n + 1, h => it n (F h)
theorem it_add : ∀ (m n : Nat) (h : Int), it (m + n) h = it n (it m h)
  | 0, n, h => by rw [Nat.zero_add]; rfl
  | m + 1, n, h => by rw [show m + 1 + n = (m + n) + 1 by omega]; exact it_add m n (F h)
theorem F_form (h : Int) : ∃ q, F h = 6364136223846793005 * h + 1442695040888963407 + q * 18446744073709551616 := by
  unfold F
  unfold wrap64
  refine ⟨(F h - (6364136223846793005 * h + 1442695040888963407)) / 18446744073709551616, ?_⟩
  unfold F
  unfold wrap64
  omega
theorem F_range (h : Int) : -9223372036854775808 ≤ F h ∧ F h ≤ 9223372036854775807 := by
  unfold F
  unfold wrap64
  omega
theorem pw : ∀ m : Nat, ∃ u v : Int, ∀ h, ∃ q, it (2 ^ m) h = (1 + 4 * 2 ^ m * u) * h + 2 ^ m * (2 * v + 1) + q * 18446744073709551616
  | 0 => ⟨1591034055961698251, 721347520444481703, fun h => by
    obtain ⟨q, hq⟩ := F_form h
    exact ⟨q, by show F h = _; rw [hq]; omega⟩⟩
  | m + 1 => by
    obtain ⟨u, v, hu⟩ := pw m
    refine ⟨u + 2 * 2 ^ m * (u * u), v + 2 ^ m * u * (2 * v + 1), fun h => ?_⟩
    obtain ⟨q, hq⟩ := hu h
    obtain ⟨r, hr⟩ := hu (it (2 ^ m) h)
    refine ⟨(1 + 4 * 2 ^ m * u) * q + r, ?_⟩
    rw [show (2 : Nat) ^ (m + 1) = 2 ^ m + 2 ^ m by rw [Nat.pow_succ]; omega, it_add, hr, hq, Int.pow_succ]
    generalize (2 : Int) ^ m = p
    grind
theorem reach : ∀ (m : Nat), m ≤ 64 → ∀ h h' : Int, ∃ (k : Nat) (q : Int), it k h = h' + 2 ^ m * q
  | 0, _, h, h' => ⟨0, h - h', by show h = _; omega⟩
  | m + 1, hm, h, h' => by
    obtain ⟨k, q, hk⟩ := reach m (by omega) h h'
    by_cases he : q % 2 = 0
    · refine ⟨k, q / 2, ?_⟩
      rw [hk, Int.pow_succ]
      obtain ⟨c, rfl⟩ : ∃ c, q = 2 * c := ⟨q / 2, by omega⟩
      rw [Int.mul_ediv_cancel_left _ (by decide)]
      grind
    · obtain ⟨c, rfl⟩ : ∃ c, q = 2 * c + 1 := ⟨q / 2, by omega⟩
      obtain ⟨u, v, hu⟩ := pw m
      obtain ⟨r, hr⟩ := hu (it k h)
      refine ⟨k + 2 ^ m, c + 2 * u * (it k h) + v + 1 + r * 2 ^ (63 - m), ?_⟩
      rw [it_add, hr, show (18446744073709551616 : Int) = 2 ^ m * 2 * 2 ^ (63 - m) by rw [← Int.pow_succ, ← Int.pow_add, show m + 1 + (63 - m) = 64 by omega]; rfl, Int.pow_succ]
      generalize he : it k h = g at *
      generalize (2 : Int) ^ (63 - m) = z
      generalize (2 : Int) ^ m = p at *
      grind
/-- From every state it comes to 0. -/
theorem to_zero (h : Int) : ∃ k, it (k + 1) h = 0 := by
  obtain ⟨k, q, hk⟩ := reach 64 (by omega) (F h) 0
  refine ⟨k, ?_⟩
  show it k (F h) = 0
  have hr : -9223372036854775808 ≤ it k (F h) ∧ it k (F h) ≤ 9223372036854775807 := by
    cases k with
    | zero => exact F_range h
    | succ k => rw [it_add k 1]; exact F_range _
  rw [show (2 : Int) ^ 64 = 18446744073709551616 by rfl] at hk
  omega

/-- What a cursor has before it: the bytes left, the mix. -/
abbrev S := List Int × Int
def X (h : Int) : Int := bits .xor .i64 (h / 8589934592) (h / 35184372088832) % 256
/-- A byte drawn: its value, the state behind it. -/
def byteM : S → Int × S
  | ([], h) => (X (F h), ([], F h))
  | (z :: r, h) => ((X (F h) + z) % 256, (r, F h))
def belowM (n : Int) (s : S) : Int × S :=
  if n ≤ 256 then ((byteM s).1 % n, (byteM s).2) else
    let a := byteM s
    let b := byteM a.2
    let c := byteM b.2
    let d := byteM c.2
    ((a.1 * 16777216 + b.1 * 65536 + c.1 * 256 + d.1) % n, d.2)
def wordM (s : S) : S :=
  let a := belowM 5 s
  if a.1 = 0 then (belowM 6 a.2).2 else if a.1 = 1 then (belowM 4294967296 a.2).2 else (belowM 12 a.2).2
def leafM (s : S) : S :=
  let a := belowM 4 s
  if a.1 = 0 then wordM a.2 else if a.1 = 1 then (belowM 3 a.2).2 else (belowM 6 a.2).2
/-- Two draws of lengths, one sign ahead. -/
def twoM (f : S → Nat × S) (s : S) : Nat × S := (1 + (f s).1 + (f (f s).2).1, (f (f s).2).2)
/-- Expressions of numbers, so deep. -/
def numM : Nat → S → Nat × S
  | 0, s => (1, leafM s)
  | d + 1, s =>
    let a := belowM 2 s
    if a.1 = 0 then (1, leafM a.2) else twoM (numM d) (belowM 4 a.2).2
/-- Expressions of truth values, so deep (1, 2, ..). -/
def truM : Nat → S → Nat × S
  | 0, s => (0, s)
  | 1, s => twoM (numM 0) (belowM 4 s).2
  | d + 2, s =>
    let a := belowM 4 s
    if a.1 = 3 then twoM (truM (d + 1)) a.2 else twoM (numM (d + 1)) a.2
def loopM (f : S → Nat × S) : Nat → S → Nat × S
  | 0, s => (0, s)
  | n + 1, s => ((f s).1 + (loopM f n (f s).2).1, (loopM f n (f s).2).2)
/-- A statement drawn; B: what stands in its brackets (none: brackets are left out). -/
def deedM (B : Option (Int → S → Nat × S)) (s : S) : Nat × S :=
  let a := belowM 8 s
  if a.1 = 0 then (2, (belowM 6 a.2).2)
  else if a.1 = 1 then (let b := belowM 4 a.2; (if b.1 = 0 then 1 else 0, b.2))
  else if a.1 = 2 ∨ a.1 = 3 then
    match B with
    | none => (0, a.2)
    | some B => (let t := truM 2 a.2; let b := B 3 t.2; let c := B 3 b.2; (1 + t.1 + 1 + b.1 + 2 + c.1 + 1, c.2))
  else if a.1 = 4 then
    match B with
    | none => (0, a.2)
    | some B => (let b := B 2 (belowM 12 (belowM 6 a.2).2).2; (5 + b.1 + 6, b.2))
  else (let b := numM 2 (belowM 6 a.2).2; (2 + b.1, b.2))
/-- Statements drawn, brackets so deep: how many tokens. -/
def deedsM : Nat → Int → S → Nat × S
  | 0, most, s => let a := belowM most s; loopM (deedM none) a.1.toNat a.2
  | d + 1, most, s => let a := belowM most s; loopM (deedM (some (deedsM d))) a.1.toNat a.2
/-- Behind each of n states from h on a round of l9Draw's loop gives at most 120 tokens. -/
def goodFrom : Nat → Int → Bool
  | 0, _ => true
  | n + 1, h => decide ((deedsM 1 4 ([], h)).1 ≤ 120) && goodFrom n (F h)
theorem window : goodFrom 600 0 = true := by kernel_rfl
theorem good_at : ∀ (n : Nat) (h : Int), goodFrom n h = true → ∀ j, j < n → (deedsM 1 4 ([], it j h)).1 ≤ 120
  | 0, _, _, j, hj => absurd hj (by omega)
  | n + 1, h, hg, 0, _ => by
    unfold goodFrom at hg
    rw [Bool.and_eq_true, decide_eq_true_eq] at hg
    exact hg.1
  | n + 1, h, hg, j + 1, hj => by
    unfold goodFrom at hg
    rw [Bool.and_eq_true] at hg
    exact good_at n (F h) hg.2 j (by omega)

/-- t bytes on. -/
def stp (t : Nat) (s : S) : S := (s.1.drop t, it t s.2)
theorem stp_add (m n : Nat) (s : S) : stp (m + n) s = stp n (stp m s) := by
  unfold stp
  rw [it_add, List.drop_drop]
/-- From lo to hi bytes on. -/
def Adv (lo hi : Nat) (s s' : S) : Prop := ∃ t, lo ≤ t ∧ t ≤ hi ∧ s' = stp t s
theorem Adv.trans {a b c d : Nat} {x y z : S} (h : Adv a b x y) (k : Adv c d y z) : Adv (a + c) (b + d) x z := by
  obtain ⟨t, t1, t2, rfl⟩ := h
  obtain ⟨u, u1, u2, rfl⟩ := k
  exact ⟨t + u, by omega, by omega, (stp_add t u x).symm⟩
theorem Adv.mono {a b c d : Nat} {x y : S} (h : Adv a b x y) (h1 : c ≤ a) (h2 : b ≤ d) : Adv c d x y := by
  obtain ⟨t, t1, t2, e⟩ := h
  exact ⟨t, by omega, by omega, e⟩
theorem Adv.refl (n : Nat) (x : S) : Adv 0 n x x := ⟨0, Nat.le_refl _, Nat.zero_le _, rfl⟩
theorem byte_adv (s : S) : Adv 1 1 s (byteM s).2 := by
  obtain ⟨r, h⟩ := s
  cases r with
  | nil => exact ⟨1, Nat.le_refl _, Nat.le_refl _, rfl⟩
  | cons z r => exact ⟨1, Nat.le_refl _, Nat.le_refl _, rfl⟩
theorem below_adv {n : Int} (hn : n ≤ 256) (s : S) : Adv 1 1 s (belowM n s).2 := by
  unfold belowM
  rw [if_pos hn]
  exact byte_adv s
theorem below_adv4 (n : Int) (s : S) : Adv 1 4 s (belowM n s).2 := by
  by_cases hn : n ≤ 256
  · exact (below_adv hn s).mono (by omega) (by omega)
  · unfold belowM
    rw [if_neg hn]
    exact ((((byte_adv s).trans (byte_adv _)).trans (byte_adv _)).trans (byte_adv _)).mono (by omega) (by omega)
theorem word_adv (s : S) : Adv 2 5 s (wordM s) := by
  unfold wordM
  have h := below_adv (n := 5) (by decide) s
  dsimp only
  split
  · exact (h.trans (below_adv (by decide) _)).mono (by omega) (by omega)
  · split
    · exact (h.trans (below_adv4 _ _)).mono (by omega) (by omega)
    · exact (h.trans (below_adv (by decide) _)).mono (by omega) (by omega)
theorem leaf_adv (s : S) : Adv 2 6 s (leafM s) := by
  unfold leafM
  have h := below_adv (n := 4) (by decide) s
  dsimp only
  split
  · exact (h.trans (word_adv _)).mono (by omega) (by omega)
  · split
    · exact (h.trans (below_adv (by decide) _)).mono (by omega) (by omega)
    · exact (h.trans (below_adv (by decide) _)).mono (by omega) (by omega)
theorem two_adv {f : S → Nat × S} {a b : Nat} (hf : ∀ s, Adv a b s (f s).2) (s : S) : Adv (a + a) (b + b) s (twoM f s).2 := (hf s).trans (hf _)
theorem num0_adv (s : S) : Adv 1 6 s (numM 0 s).2 := (leaf_adv s).mono (by omega) (by omega)
theorem num_adv {d b : Nat} (hd : ∀ s, Adv 1 b s (numM d s).2) (hb : 6 ≤ b) (s : S) : Adv 1 (2 + b + b) s (numM (d + 1) s).2 := by
  unfold numM
  have h := below_adv (n := 2) (by decide) s
  dsimp only
  split
  · exact (h.trans (leaf_adv _)).mono (by omega) (by omega)
  · exact ((h.trans (below_adv (n := 4) (by decide) _)).trans (two_adv hd _)).mono (by omega) (by omega)
theorem num1_adv (s : S) : Adv 1 14 s (numM 1 s).2 := num_adv num0_adv (by omega) s
theorem num2_adv (s : S) : Adv 1 30 s (numM 2 s).2 := num_adv num1_adv (by omega) s
theorem tru1_adv (s : S) : Adv 1 13 s (truM 1 s).2 := by
  unfold truM
  exact ((below_adv (n := 4) (by decide) s).trans (two_adv num0_adv _)).mono (by omega) (by omega)
theorem tru2_adv (s : S) : Adv 1 29 s (truM 2 s).2 := by
  unfold truM
  have h := below_adv (n := 4) (by decide) s
  dsimp only
  split
  · exact (h.trans (two_adv tru1_adv _)).mono (by omega) (by omega)
  · exact (h.trans (two_adv num1_adv _)).mono (by omega) (by omega)
theorem loop_adv {f : S → Nat × S} {b : Nat} (hf : ∀ s, Adv 1 b s (f s).2) : ∀ (n : Nat) (s : S), Adv 0 (n * b) s (loopM f n s).2
  | 0, s => Adv.refl _ s
  | n + 1, s => ((hf s).trans (loop_adv hf n _)).mono (by omega) (by rw [Nat.succ_mul]; omega)
theorem deed0_adv (s : S) : Adv 1 32 s (deedM none s).2 := by
  unfold deedM
  have h := below_adv (n := 8) (by decide) s
  dsimp only
  split
  · exact (h.trans (below_adv (by decide) _)).mono (by omega) (by omega)
  · split
    · exact (h.trans (below_adv (by decide) _)).mono (by omega) (by omega)
    · split
      · exact h.mono (by omega) (by omega)
      · split
        · exact h.mono (by omega) (by omega)
        · exact ((h.trans (below_adv (n := 6) (by decide) _)).trans (num2_adv _)).mono (by omega) (by omega)
theorem below_lt {n : Int} (h1 : 1 ≤ n) (s : S) : (belowM n s).1.toNat ≤ n.toNat - 1 := by
  have key : ∀ x : Int, (x % n).toNat ≤ n.toNat - 1 := fun x => by
    have := Int.emod_nonneg x (show n ≠ 0 by omega)
    have := Int.emod_lt_of_pos x (show 0 < n by omega)
    omega
  unfold belowM
  split
  · exact key _
  · exact key _
theorem deeds0_adv {most : Int} (h1 : 1 ≤ most) (h2 : most ≤ 3) (s : S) : Adv 1 65 s (deedsM 0 most s).2 := by
  unfold deedsM
  have h := below_adv (n := most) (by omega) s
  have hl := below_lt h1 s
  exact (h.trans (loop_adv deed0_adv _ _)).mono (by omega) (by have : (belowM most s).1.toNat * 32 ≤ 2 * 32 := Nat.mul_le_mul_right _ (by omega); omega)
theorem deed1_adv (s : S) : Adv 1 160 s (deedM (some (deedsM 0)) s).2 := by
  unfold deedM
  have h := below_adv (n := 8) (by decide) s
  dsimp only
  split
  · exact (h.trans (below_adv (by decide) _)).mono (by omega) (by omega)
  · split
    · exact (h.trans (below_adv (by decide) _)).mono (by omega) (by omega)
    · split
      · exact (((h.trans (tru2_adv _)).trans (deeds0_adv (by decide) (by decide) _)).trans (deeds0_adv (by decide) (by decide) _)).mono (by omega) (by omega)
      · split
        · exact (((h.trans (below_adv (n := 6) (by decide) _)).trans (below_adv (n := 12) (by decide) _)).trans (deeds0_adv (by decide) (by decide) _)).mono (by omega) (by omega)
        · exact ((h.trans (below_adv (n := 6) (by decide) _)).trans (num2_adv _)).mono (by omega) (by omega)
/-- A round of l9Draw's loop draws from 1 to 481 bytes. -/
theorem round_adv (s : S) : Adv 1 481 s (deedsM 1 4 s).2 := by
  unfold deedsM
  have h := below_adv (n := 4) (by decide) s
  have hl := below_lt (n := 4) (by decide) s
  exact (h.trans (loop_adv deed1_adv _ _)).mono (by omega) (by have : (belowM 4 s).1.toNat * 160 ≤ 3 * 160 := Nat.mul_le_mul_right _ hl; omega)

def Good (s : S) : Prop := (deedsM 1 4 s).1 ≤ 120
/-- n rounds on. -/
def rnd : Nat → S → S
  | 0, s => s
  | n + 1, s => rnd n (deedsM 1 4 s).2
theorem ends_pure : ∀ (D : Nat) (h : Int), it D h = 0 → ∃ n, Good (rnd n ([], h)) := by
  intro D
  induction D using Nat.strongRecOn with
  | _ D ih =>
    intro h hD
    obtain ⟨t, t1, t2, e⟩ := round_adv ([], h)
    have e' : (deedsM 1 4 ([], h)).2 = ([], it t h) := by rw [e]; unfold stp; rw [List.drop_nil]
    by_cases ht : t ≤ D
    · obtain ⟨n, hn⟩ := ih (D - t) (by omega) (it t h) (by rw [← it_add, show t + (D - t) = D by omega]; exact hD)
      exact ⟨n + 1, by show Good (rnd n (deedsM 1 4 ([], h)).2); rw [e']; exact hn⟩
    · refine ⟨1, ?_⟩
      show Good (deedsM 1 4 ([], h)).2
      rw [e', show t = D + (t - D) by omega, it_add, hD]
      exact good_at 600 0 window (t - D) (by omega)
theorem ends : ∀ (k : Nat) (s : S), s.1.length = k → ∃ n, Good (rnd n s) := by
  intro k
  induction k using Nat.strongRecOn with
  | _ k ih =>
    intro s hs
    obtain ⟨t, t1, t2, e⟩ := round_adv s
    obtain ⟨r, h⟩ := s
    cases r with
    | nil =>
      obtain ⟨k, hk⟩ := to_zero h
      exact ends_pure (k + 1) h hk
    | cons z r =>
      obtain ⟨n, hn⟩ := ih (stp t (z :: r, h)).1.length (by unfold stp; rw [List.length_drop]; rw [← hs]; simp only [List.length_cons]; omega) _ rfl
      exact ⟨n + 1, by show Good (rnd n (deedsM 1 4 (z :: r, h)).2); rw [e]; exact hn⟩
/-- What falls from round to round. -/
theorem falls : ∃ m : S → Nat, ∀ s, ¬ Good s → m (deedsM 1 4 s).2 < m s := by
  have least : ∀ s, ∃ n, Good (rnd n s) ∧ ∀ j, j < n → ¬ Good (rnd j s) := fun s => by
    obtain ⟨n, hn⟩ := ends _ s rfl
    revert hn
    induction n using Nat.strongRecOn with
    | _ n ih =>
      intro hn
      by_cases h : ∃ j, j < n ∧ Good (rnd j s)
      · obtain ⟨j, hj, hg⟩ := h
        exact ih j hj hg
      · exact ⟨n, hn, fun j hj hg => h ⟨j, hj, hg⟩⟩
  obtain ⟨m, hm⟩ := Classical.axiomOfChoice least
  refine ⟨m, fun s hb => ?_⟩
  obtain ⟨a1, a2⟩ := hm s
  obtain ⟨b1, b2⟩ := hm (deedsM 1 4 s).2
  generalize m s = n at *
  generalize m (deedsM 1 4 s).2 = m at *
  cases n with
  | zero => exact absurd a1 hb
  | succ n =>
    show m < n + 1
    have : ¬ n < m := fun h => b2 n h a1
    omega
end Go.Proofs.YtkhmbmcomgclaaaGreatDoor.Lc
