/-
  Slices of cells of a call's own at the laws' helpers; what carries them over a write elsewhere.
-/
import Derived.Test.YtopcjiaakefmeaaCf
import Derived.Test.YtopcjiaakefmeaaCp
import Derived.Test.YtopcjiaakefmeaaCn
namespace Go.Proofs.Ytopcjiaakefmeaa.Cl
open Go.RowKit Wd Rp Kp
set_option linter.unusedVariables false
theorem OwC.vw {B : Nat} {w : World} {a : Option Addr} {n cap : Nat} {l : List Cel} (h : OwC B w (.slice a n cap) l) : Vw w a cap l := by
  obtain ⟨a', cap', e, hv, -⟩ := h.view
  cases e
  exact hv
theorem OwC.grown {B : Nat} {w w' : World} {v : Value} {l : List Cel} {row : Option Nat} (h : OwC B w v l) (hg : w.grownBy w' row) (hne : ∀ k, v.ownBlock = some k → row ≠ some k) : OwC B w' v l :=
  row_next h fun g hb hlt => hg.block g hlt (fun e => hne g hb e.symm)
theorem OwC.low {B : Nat} {w : World} {v : Value} {l : List Cel} (h : OwC B w v l) : ∀ k, v.ownBlock = some k → k < w.heap.size := fun k hk => (World.ownsRow.lt h k hk).2
theorem eqS_own {B C : Nat} {v u : Value} {l : List Cel} (w : World) (hv : OwC B w v l) (hu : OwC C w u l) (hl : l.length ≤ 4194304) :
    Calls Try.prog 45 #[v, u] w fun e w' => e = .returned (.bool true) ∧ Below w.heap.size w w' := by
  obtain ⟨a, ca, rfl, h1, -⟩ := hv.view
  obtain ⟨b, cb, rfl, h2, -⟩ := hu.view
  exact eqCellS_same w a b ca cb l h1 h2 hl
theorem held_own {B : Nat} {v : Value} {l : List Cel} {n : Nat} (w : World) (hv : OwC B w v l) (hn : l.length = n) (hm : MkdC 1 l) (hl : n ≤ 4194304) :
    Calls Try.prog 47 #[v, .int .i64 1] w fun e w' => e = .returned (.int .i64 ((1 + 5 * n : Nat) : Int)) ∧ Below w.heap.size w w' := by
  subst hn
  obtain ⟨a, ca, rfl, h1, -⟩ := hv.view
  exact heldC_any 1 w a ca l _ rfl h1 hm hl (by decide) (by decide)
/-- From another number on. -/
theorem held_from {B : Nat} {v : Value} {l : List Cel} {n s : Nat} (w : World) (hv : OwC B w v l) (hn : l.length = n) (hm : MkdC s l) (hl : n ≤ 4194304) (hs1 : 1 ≤ s) (hs2 : s ≤ 9000000) :
    Calls Try.prog 47 #[v, .int .i64 (s : Int)] w fun e w' => e = .returned (.int .i64 ((s + 5 * n : Nat) : Int)) ∧ Below w.heap.size w w' := by
  subst hn
  obtain ⟨a, ca, rfl, h1, -⟩ := hv.view
  exact heldC_any s w a ca l _ rfl h1 hm hl hs1 hs2
theorem mark_from {B : Nat} {v : Value} {l : List Cel} {n s : Nat} (w : World) (hv : OwC B w v l) (hn : l.length = n) (hl : n ≤ 4194304) (hs1 : 1 ≤ s) (hs2 : s ≤ 9000000) :
    Calls Try.prog 46 #[v, .int .i64 (s : Int)] w fun e w' => e = .returned (.int .i64 ((s + 5 * n : Nat) : Int)) ∧ w.grownBy w' v.ownBlock ∧ ∃ m, m.length = n ∧ MkdC s m ∧ OwC B w' v m := by
  subst hn
  exact markC_any w hv hl s hs1 hs2
theorem mark_own {B : Nat} {v : Value} {l : List Cel} {n : Nat} (w : World) (hv : OwC B w v l) (hn : l.length = n) (hl : n ≤ 4194304) :
    Calls Try.prog 46 #[v, .int .i64 1] w fun e w' => e = .returned (.int .i64 ((1 + 5 * n : Nat) : Int)) ∧ w.grownBy w' v.ownBlock ∧ ∃ m, m.length = n ∧ MkdC 1 m ∧ OwC B w' v m := by
  subst hn
  exact markC_any w hv hl 1 (by decide) (by decide)
theorem toCellS_is (w : World) (a : Option Addr) (cap : Nat) (l : List Cel) (n : Nat) (hn : l.length = n) (hv : Vw w a cap l) (hl : n ≤ 1048576) :
    Calls Try.prog 44 #[.slice a n cap] w fun e w' => ∃ g, e = .returned (.slice (some ⟨g, 0, none⟩) n n) ∧ w.heap.size ≤ g ∧ OwC w.heap.size w' (.slice (some ⟨g, 0, none⟩) n n) l ∧ Below w.heap.size w w' := by
  subst hn
  exact (toCellS_any w a cap l hv hl).mono fun e w' ⟨g, he, ho, hb⟩ => ⟨g, he, OwC.lt ho g rfl, ho, hb⟩
theorem implPut_own (w : World) {B : Nat} {v : Value} {l : List Cel} {c : Cel} {n : Nat} (ho : OwC B w v l) (hn : l.length = n) (hl : n ≤ 4194304) :
    Calls Try.prog 79 #[v, .agg #[.string c.r, .string c.b, .int .i64 c.t, .int .i64 c.v, .bool c.g]] w (PutPost l c w) := by
  obtain ⟨a, ca, rfl, h1, -⟩ := ho.view
  rw [hn]
  exact implPut_any w a ca l c n hn h1 hl
end Go.Proofs.Ytopcjiaakefmeaa.Cl
