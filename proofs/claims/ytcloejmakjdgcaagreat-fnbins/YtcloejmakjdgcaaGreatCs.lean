/-
  The contract of impl.Find: 'findP'. (Made by gen_cs.py.)
-/
import Derived.Test.YtcloejmakjdgcaaGreatCk
import Derived.Test.YtcloejmakjdgcaaGreatCn
namespace Go.Proofs.YtcloejmakjdgcaaGreat.Cl
open Go.RowKit Wd Rp Kp
set_option linter.unusedVariables false
theorem findR_at {l : List Cel} {K c : Cel} (h : okL l = true) (hK : keyB K.r.data.toList K.b.data.toList K.t = true) {m : Nat} (hm : cnt l K = m) (hc : l[m]? = some c) : findR l K = if (c.r == K.r && c.b == K.b) then (c, true) else (zz, false) := by
  subst hm
  unfold findR
  rw [findL_at h hK hc, ba_beq, ba_beq]
  by_cases e1 : c.r.toList = K.r.toList
  · by_cases e2 : c.b.toList = K.b.toList
    · rw [if_pos ⟨e1, e2⟩, e1, e2, beq_self_eq_true, beq_self_eq_true]; rfl
    · rw [if_neg (fun h => e2 h.2), (beq_eq_false_iff_ne).2 e2, Bool.and_false]; rfl
  · rw [if_neg (fun h => e1 h.1), (beq_eq_false_iff_ne).2 e1, Bool.false_and]; rfl
theorem findR_out {l : List Cel} {K : Cel} (hm : cnt l K = l.length) : findR l K = (zz, false) := by
  unfold findR; rw [findL_end hm]
theorem plEq_of {c K : Cel} {x : Bool} (h : (c.r == K.r && c.b == K.b) = x) (w : World) : (Op.equalIn 10000 107 (.agg #[.string c.r, .string c.b]) (.agg #[.string K.r, .string K.b])).run Tryz.prog w = .ok x w := by
  rw [plEq, h]
/-- A block that holds a key. -/
theorem key_next {n : Nat} {K : Cel} {w w' : World} (h : Bx n K.r K.b K.t w) (hb : Below w.heap.size w w') : Bx n K.r K.b K.t w' := h.next hb
end Go.Proofs.YtcloejmakjdgcaaGreat.Cl
