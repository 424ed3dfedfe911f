/-
  Recipes as trees: the text of a tree ('fl'), which trees are recipes ('wf'), what is read of them ('rd'); a recipe is a tree's text ('rc_tree').
-/
import Derived.Test.YtfnnoehpahdgcaaGreatDoorMh
namespace Go.Proofs.YtfnnoehpahdgcaaGreatDoor.Cl
open Go.RowKit Wd Rp Kp
set_option linter.unusedVariables false
mutual
/-- A statement's text. -/
def Sm.fl : Sm → List Tk
  | .set n e => setT :: n :: e
  | .cut n => [cutT, n]
  | .stop => [stopT]
  | .ifs e a b => ifT :: (e ++ ([91] :: (Sl.fl a ++ ([93] :: [91] :: (Sl.fl b ++ [[93]])))))
  | .whl e a => whT :: (e ++ ([91] :: (Sl.fl a ++ [[93]])))
def Sl.fl : Sl → List Tk
  | .nil => []
  | .cons s r => Sm.fl s ++ Sl.fl r
end
/-- An expression of a kind, not too deep. -/
def eK (kind : Int) (e : List Tk) : Prop := ∃ u : Su, u.ok ∧ e = u.fl ∧ u.fo kdF kdG = kind ∧ ¬ 5 < u.fo dpF dpG
mutual
/-- Brackets so deep at most. -/
def Sm.wf : Nat → Sm → Prop
  | _, .set n e => nmB n = true ∧ eK 1 e
  | _, .cut n => nmB n = true
  | _, .stop => True
  | 0, .ifs _ _ _ => False
  | 0, .whl _ _ => False
  | d + 1, .ifs e a b => eK 2 e ∧ Sl.wf d a ∧ Sl.wf d b
  | d + 1, .whl e a => eK 2 e ∧ Sl.wf d a
def Sl.wf : Nat → Sl → Prop
  | _, .nil => True
  | d, .cons s r => Sm.wf d s ∧ Sl.wf d r
end
mutual
/-- What is read of a statement. -/
def Sm.rd : Sm → List Rc
  | .set n e => [(n, e)]
  | .cut n => [(n, [])]
  | .stop => [([], [])]
  | .ifs e a b => ([], e) :: (Sl.rd a ++ Sl.rd b)
  | .whl e a => ([], e) :: Sl.rd a
def Sl.rd : Sl → List Rc
  | .nil => []
  | .cons s r => Sm.rd s ++ Sl.rd r
end
theorem Sm.pos (s : Sm) : 1 ≤ s.fl.length := by cases s <;> simp [Sm.fl]
theorem Sl.fl_app : ∀ a b : Sl, (a.app b).fl = a.fl ++ b.fl
  | .nil, b => by simp [Sl.app, Sl.fl]
  | .cons s r, b => by rw [Sl.app, Sl.fl, Sl.fl, Sl.fl_app r b, List.append_assoc]
theorem Sl.wf_app {d : Nat} : ∀ {a b : Sl}, a.wf d → b.wf d → (a.app b).wf d
  | .nil, b, _, h => h
  | .cons s r, b, h, hb => by
    rw [Sl.wf] at h
    rw [Sl.app, Sl.wf]
    exact ⟨h.1, Sl.wf_app h.2 hb⟩
theorem eK.ok {kind : Int} {e : List Tk} (h : eK kind e) : eOk e := by obtain ⟨u, h1, h2, -⟩ := h; exact ⟨u, h1, h2⟩
mutual
theorem Sm.wf_up : ∀ (s : Sm) {d D : Nat}, d ≤ D → s.wf d → s.wf D
  | .set n e, d, D, h, hw => by rw [Sm.wf] at hw ⊢; exact hw
  | .cut n, d, D, h, hw => by rw [Sm.wf] at hw ⊢; exact hw
  | .stop, d, D, h, hw => by rw [Sm.wf]; trivial
  | .ifs e a b, 0, D, h, hw => by rw [Sm.wf] at hw; exact hw.elim
  | .ifs e a b, d + 1, 0, h, hw => by omega
  | .ifs e a b, d + 1, D + 1, h, hw => by
    rw [Sm.wf] at hw ⊢
    exact ⟨hw.1, Sl.wf_up a (by omega) hw.2.1, Sl.wf_up b (by omega) hw.2.2⟩
  | .whl e a, 0, D, h, hw => by rw [Sm.wf] at hw; exact hw.elim
  | .whl e a, d + 1, 0, h, hw => by omega
  | .whl e a, d + 1, D + 1, h, hw => by
    rw [Sm.wf] at hw ⊢
    exact ⟨hw.1, Sl.wf_up a (by omega) hw.2⟩
theorem Sl.wf_up : ∀ (s : Sl) {d D : Nat}, d ≤ D → s.wf d → s.wf D
  | .nil, d, D, h, hw => by rw [Sl.wf]; trivial
  | .cons s r, d, D, h, hw => by
    rw [Sl.wf] at hw ⊢
    exact ⟨Sm.wf_up s h hw.1, Sl.wf_up r h hw.2⟩
end
mutual
theorem Sm.wf_all : ∀ (s : Sm) {d : Nat}, s.wf d → s.all (fun n e => nmB n = true ∧ eOk e) (fun n => nmB n = true) eOk
  | .set n e, d, hw => by rw [Sm.wf] at hw; rw [Sm.all]; exact ⟨hw.1, hw.2.ok⟩
  | .cut n, d, hw => by rw [Sm.wf] at hw; rw [Sm.all]; exact hw
  | .stop, d, hw => by rw [Sm.all]; trivial
  | .ifs e a b, 0, hw => by rw [Sm.wf] at hw; exact hw.elim
  | .ifs e a b, d + 1, hw => by
    rw [Sm.wf] at hw; rw [Sm.all]
    exact ⟨hw.1.ok, Sl.wf_all a hw.2.1, Sl.wf_all b hw.2.2⟩
  | .whl e a, 0, hw => by rw [Sm.wf] at hw; exact hw.elim
  | .whl e a, d + 1, hw => by
    rw [Sm.wf] at hw; rw [Sm.all]
    exact ⟨hw.1.ok, Sl.wf_all a hw.2⟩
theorem Sl.wf_all : ∀ (s : Sl) {d : Nat}, s.wf d → s.all (fun n e => nmB n = true ∧ eOk e) (fun n => nmB n = true) eOk
  | .nil, d, hw => by rw [Sl.all]; trivial
  | .cons s r, d, hw => by
    rw [Sl.wf] at hw; rw [Sl.all]
    exact ⟨Sm.wf_all s hw.1, Sl.wf_all r hw.2⟩
end
mutual
theorem Sm.all_rd {Q : Rc → Prop} : ∀ s : Sm, (∀ p ∈ s.rd, Q p) → s.all (fun n e => Q (n, e)) (fun n => Q (n, [])) (fun e => Q ([], e))
  | .set n e, h => by rw [Sm.all]; exact h _ (by simp [Sm.rd])
  | .cut n, h => by rw [Sm.all]; exact h _ (by simp [Sm.rd])
  | .stop, h => by rw [Sm.all]; trivial
  | .ifs e a b, h => by
    rw [Sm.rd] at h; rw [Sm.all]
    exact ⟨h _ (by simp), Sl.all_rd a (fun p hp => h p (by simp [hp])), Sl.all_rd b (fun p hp => h p (by simp [hp]))⟩
  | .whl e a, h => by
    rw [Sm.rd] at h; rw [Sm.all]
    exact ⟨h _ (by simp), Sl.all_rd a (fun p hp => h p (by simp [hp]))⟩
theorem Sl.all_rd {Q : Rc → Prop} : ∀ s : Sl, (∀ p ∈ s.rd, Q p) → s.all (fun n e => Q (n, e)) (fun n => Q (n, [])) (fun e => Q ([], e))
  | .nil, h => by rw [Sl.all]; trivial
  | .cons s r, h => by
    rw [Sl.rd] at h; rw [Sl.all]
    exact ⟨Sm.all_rd s (fun p hp => h p (by simp [hp])), Sl.all_rd r (fun p hp => h p (by simp [hp]))⟩
end
mutual
theorem Sm.all_mono {S S' : Tk → List Tk → Prop} {C C' : Tk → Prop} {E E' : List Tk → Prop} (hS : ∀ n e, S n e → S' n e) (hC : ∀ n, C n → C' n) (hE : ∀ e, E e → E' e) : ∀ s : Sm, s.all S C E → s.all S' C' E'
  | .set n e, h => by rw [Sm.all] at h ⊢; exact hS _ _ h
  | .cut n, h => by rw [Sm.all] at h ⊢; exact hC _ h
  | .stop, h => by rw [Sm.all]; trivial
  | .ifs e a b, h => by
    rw [Sm.all] at h ⊢
    exact ⟨hE _ h.1, Sl.all_mono hS hC hE a h.2.1, Sl.all_mono hS hC hE b h.2.2⟩
  | .whl e a, h => by
    rw [Sm.all] at h ⊢
    exact ⟨hE _ h.1, Sl.all_mono hS hC hE a h.2⟩
theorem Sl.all_mono {S S' : Tk → List Tk → Prop} {C C' : Tk → Prop} {E E' : List Tk → Prop} (hS : ∀ n e, S n e → S' n e) (hC : ∀ n, C n → C' n) (hE : ∀ e, E e → E' e) : ∀ s : Sl, s.all S C E → s.all S' C' E'
  | .nil, h => by rw [Sl.all]; trivial
  | .cons s r, h => by
    rw [Sl.all] at h ⊢
    exact ⟨Sm.all_mono hS hC hE s h.1, Sl.all_mono hS hC hE r h.2⟩
end
end Go.Proofs.YtfnnoehpahdgcaaGreatDoor.Cl
