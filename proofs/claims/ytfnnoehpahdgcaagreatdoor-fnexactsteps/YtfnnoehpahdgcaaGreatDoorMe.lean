/-
  The specification's run of a recipe: its state in a block ('Rn'), contract of spec.l10Sum.
-/
import Derived.Test.YtfnnoehpahdgcaaGreatDoorMb
import Derived.Test.YtfnnoehpahdgcaaGreatDoorMn
import Derived.Test.YtfnnoehpahdgcaaGreatDoorIl
namespace Go.Proofs.YtfnnoehpahdgcaaGreatDoor.Cl
open Go.RowKit Wd Rp Kp
set_option linter.unusedVariables false
/-- A run's state in block p, in a world that only adds to w0. -/
structure Rn (w0 : World) (p : Nat) (st : St0) (w : World) : Prop where
  hB : w0.heap.size ≤ p
  hp : p < w.heap.size
  fz : w.frozen? ⟨p, 0, none⟩ = false ∧ w.frozen? ⟨p, 1, none⟩ = false ∧ w.frozen? ⟨p, 2, none⟩ = false
  c : w.cell? ⟨p, 0, none⟩ = some (.int .i64 st.c)
  f : w.cell? ⟨p, 2, none⟩ = some (.int .i64 st.f)
  b : ∃ v, w.cell? ⟨p, 1, none⟩ = some v ∧ OwI w0.heap.size w v st.b ∧ v.ownBlock ≠ some p
  bw : Below w0.heap.size w0 w
  bl : st.b.length ≤ 12
  f0 : 0 ≤ st.f ∧ st.f ≤ 400
theorem OwI.off {B : Nat} {w : World} {v : Value} {l : List Bi} (h : OwI B w v l) {q : Addr} (hq : v.ownBlock ≠ some q.block) (u : Value) : OwI B (w.setCell q u) v l :=
  row_next h fun g hg _ => Below.heap_setCell w q u g (fun e => hq (by rw [hg, e]))
theorem Rn.next {w0 w w' : World} {p : Nat} {st : St0} (h : Rn w0 p st w) (hb : Below w.heap.size w w') : Rn w0 p st w' := by
  have e := hb.block p h.hp
  obtain ⟨v, h1, h2, h3⟩ := h.b
  exact ⟨h.hB, Nat.lt_of_lt_of_le h.hp hb.size, ⟨(World.frozen?_of_block (w := w) e).trans h.fz.1, (World.frozen?_of_block (w := w) e).trans h.fz.2.1, (World.frozen?_of_block (w := w) e).trans h.fz.2.2⟩,
    (World.cell?_of_block (w := w) e).trans h.c, (World.cell?_of_block (w := w) e).trans h.f, ⟨v, (World.cell?_of_block (w := w) e).trans h1, h2.next hb, h3⟩, bel_tr h.bw hb (Nat.le_refl _), h.bl, h.f0⟩
theorem Rn.putC {w0 w : World} {p : Nat} {st : St0} (h : Rn w0 p st w) (x : Int) : Rn w0 p ⟨x, st.b, st.f⟩ (w.setCell ⟨p, 0, none⟩ (.int .i64 x)) := by
  obtain ⟨v, h1, h2, h3⟩ := h.b
  exact ⟨h.hB, by rw [World.size_setCell]; exact h.hp, by simp only [World.frozen?_setCell]; exact h.fz, World.cell?_setCell_same' _ _ _ (by rw [h.c]; rfl), (World.cell?_setCell_other _ _ _ _ (ofst (by decide))).trans h.f,
    ⟨v, (World.cell?_setCell_other _ _ _ _ (ofst (by decide))).trans h1, h2.off (q := ⟨p, 0, none⟩) h3 _, h3⟩, h.bw.setCell (p := ⟨p, 0, none⟩) h.hB _, h.bl, h.f0⟩
theorem Rn.putF {w0 w : World} {p : Nat} {st : St0} (h : Rn w0 p st w) (x : Int) (hx : 0 ≤ x ∧ x ≤ 400) : Rn w0 p ⟨st.c, st.b, x⟩ (w.setCell ⟨p, 2, none⟩ (.int .i64 x)) := by
  obtain ⟨v, h1, h2, h3⟩ := h.b
  exact ⟨h.hB, by rw [World.size_setCell]; exact h.hp, by simp only [World.frozen?_setCell]; exact h.fz, (World.cell?_setCell_other _ _ _ _ (ofst (by decide))).trans h.c, World.cell?_setCell_same' _ _ _ (by rw [h.f]; rfl),
    ⟨v, (World.cell?_setCell_other _ _ _ _ (ofst (by decide))).trans h1, h2.off (q := ⟨p, 2, none⟩) h3 _, h3⟩, h.bw.setCell (p := ⟨p, 2, none⟩) h.hB _, h.bl, hx⟩
/-- Other bins: what a call made of the bins that were there. -/
theorem Rn.putB {w0 w w' : World} {p : Nat} {st : St0} {v v' : Value} {l : List Bi} (h : Rn w0 p st w) (hv : w.cell? ⟨p, 1, none⟩ = some v) (hk : KpI w w' v v') (ho : OwI w0.heap.size w' v' l) (hb : Below w0.heap.size w w') (hl : l.length ≤ 12) : Rn w0 p ⟨st.c, l, st.f⟩ (w'.setCell ⟨p, 1, none⟩ v') := by
  obtain ⟨v2, h1, h2, h3⟩ := h.b
  rw [h1] at hv
  cases hv
  have e := hk.blk p h.hp h3
  have h4 : v'.ownBlock ≠ some p := fun e2 => by
    rcases hk.own p e2 with e3 | e3
    · exact h3 e3
    · have := h.hp; omega
  have hC := (World.cell?_of_block (w := w) (a := ⟨p, 0, none⟩) e).trans h.c
  have hF := (World.cell?_of_block (w := w) (a := ⟨p, 2, none⟩) e).trans h.f
  have hV := (World.cell?_of_block (w := w) (a := ⟨p, 1, none⟩) e).trans h1
  exact ⟨h.hB, by rw [World.size_setCell]; exact Nat.lt_of_lt_of_le h.hp hk.size, by simp only [World.frozen?_setCell]; exact ⟨(World.frozen?_of_block (w := w) e).trans h.fz.1, (World.frozen?_of_block (w := w) e).trans h.fz.2.1, (World.frozen?_of_block (w := w) e).trans h.fz.2.2⟩,
    (World.cell?_setCell_other _ _ _ _ (ofst (by decide))).trans hC, (World.cell?_setCell_other _ _ _ _ (ofst (by decide))).trans hF,
    ⟨v', World.cell?_setCell_same' _ _ _ (by rw [hV]; rfl), ho.off (q := ⟨p, 1, none⟩) h4 _, h4⟩, (h.bw.trans hb).setCell (p := ⟨p, 1, none⟩) h.hB _, hl, h.f0⟩
set_option maxHeartbeats 4000000 in
set_option maxRecDepth 100000 in
theorem l10Sum_any (w0 : World) (p : Nat) (a : Option Addr) (cap : Nat) (l : List Tk) (n : Nat) (hn : l.length = n) (hl : n ≤ 4194304) (hm : ∀ s ∈ l, s.length ≤ 4194304) (hv : V1 w0 a cap (txL l)) (ga : Option Addr) (gc : Nat) (gs : List Int) (hg : V1 w0 ga gc (inL gs)) (hg3 : gs.length = 3)
    {e : List Tk} (he : eOk e) (k : Nat) (r : List Tk) (hd : l.drop k = e ++ r) (st : St0) (w : World) (hR : Rn w0 p st w) :
    Calls Tryz.prog 98 #[.pointer (some ⟨p, 0, none⟩), .slice a n cap, .int .i64 (k : Int), .slice ga (3 : Nat) gc] w fun e' w' => e' = .returned (.tuple #[.int .i64 (evE gs st.b e).1, .int .i64 ((k + e.length : Nat) : Int)]) ∧
      Rn w0 p (if (evE gs st.b e).2 = false then ⟨2, st.b, st.f⟩ else st) w' := by
  obtain ⟨u, hu, rfl⟩ := he
  rw [evE_fl gs st.b hu]
  obtain ⟨v, hc1, hO, hne⟩ := hR.b
  obtain ⟨ba, bc, rfl, hV⟩ := hO.view
  obtain ⟨bn, hbn⟩ : ∃ bn, st.b.length = bn := ⟨_, rfl⟩
  have hbl := hR.bl
  have HS := Lib.hid (l8Sum_any a cap l n hn hl hm ba bc bn st.b ga gc gs u hu (k : Int) r w (by omega) (by rw [Int.toNat_natCast]; exact hd) (hv.below hR.bw) ⟨hbn, hV, by omega, hg.below hR.bw, hg3⟩)
  have hlen := congrArg List.length hd
  rw [List.length_drop, List.length_append] at hlen
  rw [hbn] at hc1
  rw [show (k : Int) + (u.fl.length : Int) = ((k + u.fl.length : Nat) : Int) by omega] at HS
  have hf0 := hR.fz.1
  have h0 := hR.c
  have hp := hR.hp
  have HR := Lib.hid hR; clear hR hv hd hV hO hg hne hlen
  generalize u.fo (vlF gs st.b) vlG = x at *
  generalize ((k + u.fl.length : Nat) : Int) = y at *
  obtain ⟨x, is⟩ := x
  go_enter Tryz.func98, Tryz.ntmps98
  go_wp2_with fail
  refine HS.out.mono ?_; rintro e w1 ⟨rfl, b1⟩
  have HR1 := Lib.hid (HR.out.next b1); clear b1
  have f1 := HR1.out.fz.1
  have c1 := HR1.out.c
  cases is
  · go_wp2_with fail
    refine bodyPost_ret (v := .tuple #[.int .i64 x, .int .i64 y]) (by simp [results, Tryz.results98, go_sem]) rfl ⟨rfl, ?_⟩
    exact HR1.out.putC 2
  · go_wp2_with fail
    refine bodyPost_ret (v := .tuple #[.int .i64 x, .int .i64 y]) (by simp [results, Tryz.results98, go_sem]) rfl ⟨rfl, ?_⟩
    exact HR1.out
end Go.Proofs.YtfnnoehpahdgcaaGreatDoor.Cl
