/-
  Slices of cells of a call's own at the laws' helpers; what carries them over a write elsewhere.
-/
import Derived.Test.YtagfbgmglhlhbaaCf
import Derived.Test.YtagfbgmglhlhbaaCp
import Derived.Test.YtagfbgmglhlhbaaCn
namespace Go.Proofs.Ytagfbgmglhlhbaa.Cl
open Go.RowKit Wd Rp Kp
set_option linter.unusedVariables false
theorem OwC.vw {B : Nat} {w : World} {a : Option Addr} {n cap : Nat} {l : List Cel} (h : OwC B w (.slice a n cap) l) : Vw w a cap l := by
  obtain ⟨a', cap', e, hv, -⟩ := h.view
  cases e
  exact hv
theorem OwC.grown {B : Nat} {w w' : World} {v : Value} {l : List Cel} {row : Option Nat} (h : OwC B w v l) (hg : w.grownBy w' row) (hne : ∀ k, v.ownBlock = some k → row ≠ some k) : OwC B w' v l :=
  row_next h fun g hb hlt => hg.block g hlt (fun e => hne g hb e.symm)
theorem OwC.low {B : Nat} {w : World} {v : Value} {l : List Cel} (h : OwC B w v l) : ∀ k, v.ownBlock = some k → k < w.heap.size := fun k hk => (World.ownsRow.lt h k hk).2
theorem eqS_own {B C : Nat} {v u : Value} {l : List Cel} (w : World) (hv : OwC B w v l) (hu : OwC C w u l) (hl : l.length ≤ 4194304) :
    Calls Try.prog 24 #[v, u] w fun e w' => e = .returned (.bool true) ∧ Below w.heap.size w w' := by
  obtain ⟨a, ca, rfl, h1, -⟩ := hv.view
  obtain ⟨b, cb, rfl, h2, -⟩ := hu.view
  exact eqCellS_same w a b ca cb l h1 h2 hl
theorem held_own {B : Nat} {v : Value} {l : List Cel} {n : Nat} (w : World) (hv : OwC B w v l) (hn : l.length = n) (hm : MkdC l) (hl : n ≤ 4194304) :
    Calls Try.prog 26 #[v, .int .i64 1] w fun e w' => e = .returned (.int .i64 ((1 + 5 * n : Nat) : Int)) ∧ Below w.heap.size w w' := by
  subst hn
  obtain ⟨a, ca, rfl, h1, -⟩ := hv.view
  exact heldC_any w a ca l _ rfl h1 hm hl
theorem mark_own {B : Nat} {v : Value} {l : List Cel} {n : Nat} (w : World) (hv : OwC B w v l) (hn : l.length = n) (hl : n ≤ 4194304) :
    Calls Try.prog 25 #[v, .int .i64 1] w fun e w' => e = .returned (.int .i64 ((1 + 5 * n : Nat) : Int)) ∧ w.grownBy w' v.ownBlock ∧ ∃ m, m.length = n ∧ MkdC m ∧ OwC B w' v m := by
  subst hn
  exact markC_any w hv hl
theorem toCellS_is (w : World) (a : Option Addr) (cap : Nat) (l : List Cel) (n : Nat) (hn : l.length = n) (hv : Vw w a cap l) (hl : n ≤ 1048576) :
    Calls Try.prog 23 #[.slice a n cap] w fun e w' => ∃ g, e = .returned (.slice (some ⟨g, 0, none⟩) n n) ∧ w.heap.size ≤ g ∧ OwC w.heap.size w' (.slice (some ⟨g, 0, none⟩) n n) l ∧ Below w.heap.size w w' := by
  subst hn
  exact (toCellS_any w a cap l hv hl).mono fun e w' ⟨g, he, ho, hb⟩ => ⟨g, he, OwC.lt ho g rfl, ho, hb⟩
theorem putP_len (l : List Cel) (c : Cel) : (putP l c).1.length ≤ l.length + 1 := by
  have := putL_len l c
  unfold putP
  split
  · split
    · split
      · simp
      · simp only; rw [this]; omega
    · simp
  · simp
/-- As PutPost, the length under its own name. -/
theorem specPut_own (w : World) {B : Nat} {v : Value} {l : List Cel} {c : Cel} {n : Nat} (ho : OwC B w v l) (hn : l.length = n) (hm : ∀ c ∈ l, c.mod) (hc : c.mod) (hl : n ≤ 4194304) :
    Calls Try.prog 13 #[v, .agg #[.string c.r, .string c.b, .int .i64 c.t, .int .i64 c.v, .bool c.g]] w (PutPost l c w) := by
  obtain ⟨a, ca, rfl, h1, -⟩ := ho.view
  rw [hn]
  exact specPut_any w a ca l c n hn h1 hm hc hl
theorem implPut_own (w : World) {B : Nat} {v : Value} {l : List Cel} {c : Cel} {n : Nat} (ho : OwC B w v l) (hn : l.length = n) (hl : n ≤ 4194304) :
    Calls Try.prog 10 #[v, .agg #[.string c.r, .string c.b, .int .i64 c.t, .int .i64 c.v, .bool c.g]] w (PutPost l c w) := by
  obtain ⟨a, ca, rfl, h1, -⟩ := ho.view
  rw [hn]
  exact implPut_any w a ca l c n hn h1 hl
end Go.Proofs.Ytagfbgmglhlhbaa.Cl
