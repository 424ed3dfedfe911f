/-
  A statement read: contract of the reader's deed. (Made by gen_nd.py.)
-/
import Derived.Test.YtkhmbmcomgclaaaDoorNc
namespace Go.Proofs.YtkhmbmcomgclaaaDoor.Cl
open Go.RowKit Wd Rp Cu Kp
set_option linter.unusedVariables false
theorem tx_eqL (a : Tk) : ((tx a).toList == a) = true := by rw [Lib.toList_data, tx_data, beq_iff_eq]
theorem ddX {l : List Tk} {B : Int → Int} {x : Int} : ddG l B x = (if tkN l x = setT then smV l 1 (nmX l (tkX l x)) else if tkN l x = cutT then nmX l (tkX l x) else if tkN l x = stopT then tkX l x
    else if tkN l x = ifT then B (B (smV l 2 (tkX l x))) else if tkN l x = whT then B (smV l 2 (tkX l x)) else -1) := by
  cases h : tkA l x with
  | none =>
    have e : tkN l x = [] := by unfold tkN; rw [h]; rfl
    rw [ddG_none h, e]
    simp [setT, cutT, stopT, ifT, whT]
  | some s =>
    have e : tkN l x = s := by unfold tkN; rw [h]; rfl
    have e2 : tkX l x = x + 1 := by unfold tkX; rw [if_neg (by rw [h]; simp)]
    rw [ddG_some h, e, e2]
    unfold nmX
    split
    · split
      · rw [show x + 1 + 1 = x + 2 by omega]
      · rw [sm_neg1]
    · split
      · rw [show x + 1 + 1 = x + 2 by omega]
      · rfl
theorem tkX_neg {l : List Tk} {x : Int} (h : tkX l x ≠ -1) : tkX l x = x + 1 ∧ ∃ s, tkA l x = some s ∧ tkN l x = s := by
  unfold tkX at h ⊢
  split at h
  · exact absurd rfl h
  · rename_i e
    rw [if_neg e]
    cases h2 : tkA l x with
    | none => exact absurd h2 e
    | some s => exact ⟨rfl, s, rfl, by unfold tkN; rw [h2]; rfl⟩
theorem nmX_ne {l : List Tk} {x : Int} (h : nmX l x ≠ -1) : nmX l x = x + 1 := by
  unfold nmX at h ⊢
  split at h
  · rename_i e; rw [if_pos e]
  · exact absurd rfl h
theorem ddQ_x {l : List Tk} {B : Int → Int} {R : Int → List Rc} {x : Int} {s : Tk} (h : tkA l x = some s) (e : tkN l x = s) : ddQ l B R x = (if tkN l x = setT then [(tkN l (x + 1), smT l (x + 2))] else if tkN l x = cutT then [(tkN l (x + 1), [])] else if tkN l x = stopT then [([], [])]
    else if tkN l x = ifT then ([], smT l (x + 1)) :: (R (smV l 2 (x + 1)) ++ R (B (smV l 2 (x + 1)))) else if tkN l x = whT then ([], smT l (x + 1)) :: R (smV l 2 (x + 1)) else []) := by rw [ddQ_some h, e]
/-- The contract of the reader's block. -/
def BlkC (w0 : World) (p : Nat) (l : List Tk) (D : Nat) (o : Int) (B : Int → Int) (R : Int → List Rc) : Prop := ∀ (x : Int) (z : World), Sx w0 p l o x z →
  Calls Tryd.prog 40 #[.pointer (some ⟨p, 0, none⟩)] z fun e z' => ∃ a n c, e = .returned (.slice a n c) ∧ But p z z' ∧ Sx w0 p l o (B x) z' ∧ (B x ≠ -1 → DM w0 (z.heap.size ≤ ·) z' D (.slice a n c) (R x))
/-- The contract of the reader's deed. -/
def DeedC (w0 : World) (p : Nat) (l : List Tk) (D : Nat) (o : Int) (f : Int → Int) (R : Int → List Rc) : Prop := ∀ (x : Int) (z : World), Sx w0 p l o x z →
  Calls Tryd.prog 24 #[.pointer (some ⟨p, 0, none⟩)] z fun e z' => ∃ d : Dv, e = .returned d.v ∧ But p z z' ∧ Sx w0 p l o (f x) z' ∧ (f x ≠ -1 → DdM w0 (z.heap.size ≤ ·) z' (DM w0 (z.heap.size ≤ ·) z' D) d (R x))
/-- Four stores into a block. -/
def put4 (w : World) (q : Nat) (a b c d : Value) : World := (((w.setCell ⟨q, 0, none⟩ a).setCell ⟨q, 1, none⟩ b).setCell ⟨q, 2, none⟩ c).setCell ⟨q, 3, none⟩ d
theorem put4_heap (w : World) (q : Nat) (a b c d : Value) {k : Nat} (h : k ≠ q) : (put4 w q a b c d).heap[k]? = w.heap[k]? := by
  unfold put4
  rw [Below.heap_setCell _ _ _ _ h, Below.heap_setCell _ _ _ _ h, Below.heap_setCell _ _ _ _ h, Below.heap_setCell _ _ _ _ h]
theorem put4_size (w : World) (q : Nat) (a b c d : Value) : (put4 w q a b c d).heap.size = w.heap.size := by unfold put4; rw [World.size_setCell, World.size_setCell, World.size_setCell, World.size_setCell]
theorem but_put4 {p q : Nat} {w W : World} (h : But p w W) (hq : w.heap.size ≤ q) (a b c d : Value) : But p w (put4 W q a b c d) :=
  (((h.setNew (p := ⟨q, 0, none⟩) hq a).setNew (p := ⟨q, 1, none⟩) hq b).setNew (p := ⟨q, 2, none⟩) hq c).setNew (p := ⟨q, 3, none⟩) hq d
theorem Sx.put4 {w0 W : World} {p q : Nat} {l : List Tk} {o x : Int} (h : Sx w0 p l o x W) (hq : w0.heap.size ≤ q) (hne : p ≠ q) (a b c d : Value) : Sx w0 p l o x (put4 W q a b c d) :=
  (((h.set (j := 0) hq hne a).set (j := 1) hq hne b).set (j := 2) hq hne c).set (j := 3) hq hne d
theorem put4_c0 {w : World} {q : Nat} {v0 v1 v2 v3 : Value} (h : B4 q v0 v1 v2 v3 w) (a b c d : Value) : ((((w.setCell ⟨q, 0, none⟩ a).setCell ⟨q, 1, none⟩ b).setCell ⟨q, 2, none⟩ c).setCell ⟨q, 3, none⟩ d).cell? ⟨q, 0, none⟩ = some a := ((((h.set0 a).set1 b).set2 c).set3 d).c0
theorem put4_c1 {w : World} {q : Nat} {v0 v1 v2 v3 : Value} (h : B4 q v0 v1 v2 v3 w) (a b c d : Value) : ((((w.setCell ⟨q, 0, none⟩ a).setCell ⟨q, 1, none⟩ b).setCell ⟨q, 2, none⟩ c).setCell ⟨q, 3, none⟩ d).cell? ⟨q, 1, none⟩ = some b := ((((h.set0 a).set1 b).set2 c).set3 d).c1
theorem put4_c2 {w : World} {q : Nat} {v0 v1 v2 v3 : Value} (h : B4 q v0 v1 v2 v3 w) (a b c d : Value) : ((((w.setCell ⟨q, 0, none⟩ a).setCell ⟨q, 1, none⟩ b).setCell ⟨q, 2, none⟩ c).setCell ⟨q, 3, none⟩ d).cell? ⟨q, 2, none⟩ = some c := ((((h.set0 a).set1 b).set2 c).set3 d).c2
theorem put4_c3 {w : World} {q : Nat} {v0 v1 v2 v3 : Value} (h : B4 q v0 v1 v2 v3 w) (a b c d : Value) : ((((w.setCell ⟨q, 0, none⟩ a).setCell ⟨q, 1, none⟩ b).setCell ⟨q, 2, none⟩ c).setCell ⟨q, 3, none⟩ d).cell? ⟨q, 3, none⟩ = some d := ((((h.set0 a).set1 b).set2 c).set3 d).c3
theorem put4a_c0 {w : World} {q : Nat} {v0 v1 v2 v3 : Value} (h : B4 q v0 v1 v2 v3 w) (a b c d : Value) (ob : Obj) : (((((w.setCell ⟨q, 0, none⟩ a).setCell ⟨q, 1, none⟩ b).setCell ⟨q, 2, none⟩ c).setCell ⟨q, 3, none⟩ d).alloc ob).cell? ⟨q, 0, none⟩ = some a := (((((h.set0 a).set1 b).set2 c).set3 d).next (bel1 _ ob)).c0
theorem put4a_c1 {w : World} {q : Nat} {v0 v1 v2 v3 : Value} (h : B4 q v0 v1 v2 v3 w) (a b c d : Value) (ob : Obj) : (((((w.setCell ⟨q, 0, none⟩ a).setCell ⟨q, 1, none⟩ b).setCell ⟨q, 2, none⟩ c).setCell ⟨q, 3, none⟩ d).alloc ob).cell? ⟨q, 1, none⟩ = some b := (((((h.set0 a).set1 b).set2 c).set3 d).next (bel1 _ ob)).c1
theorem put4a_c2 {w : World} {q : Nat} {v0 v1 v2 v3 : Value} (h : B4 q v0 v1 v2 v3 w) (a b c d : Value) (ob : Obj) : (((((w.setCell ⟨q, 0, none⟩ a).setCell ⟨q, 1, none⟩ b).setCell ⟨q, 2, none⟩ c).setCell ⟨q, 3, none⟩ d).alloc ob).cell? ⟨q, 2, none⟩ = some c := (((((h.set0 a).set1 b).set2 c).set3 d).next (bel1 _ ob)).c2
theorem put4a_c3 {w : World} {q : Nat} {v0 v1 v2 v3 : Value} (h : B4 q v0 v1 v2 v3 w) (a b c d : Value) (ob : Obj) : (((((w.setCell ⟨q, 0, none⟩ a).setCell ⟨q, 1, none⟩ b).setCell ⟨q, 2, none⟩ c).setCell ⟨q, 3, none⟩ d).alloc ob).cell? ⟨q, 3, none⟩ = some d := (((((h.set0 a).set1 b).set2 c).set3 d).next (bel1 _ ob)).c3
theorem dd_plain (w0 : World) (K : Nat → Prop) (W : World) (sub : Value → List Rc → Prop) (h n : Tk) {sa : Option Addr} {sn sc : Nat} {sm : List Tk} (hn : sn = sm.length) (hv : V1 w0 sa sc (txL sm)) : DdM w0 K W sub ⟨h, n, sa, sn, sc, none, 0, 0⟩ [(n, sm)] :=
  ⟨sm, [], [], hn, hv, rfl, ⟨Nat.le_refl _, Nat.zero_le _, fun _ => rfl, fun k x hk => by simp at hk⟩, (fun g o e => by cases e), rfl, (fun k b g hk => by simp at hk), rfl⟩
theorem v1_nil (w : World) : V1 w none 0 (txL []) := ⟨Nat.le_refl _, by decide, fun _ => rfl, fun k x hk => by simp [txL] at hk⟩
/-- A slice built of values. -/
theorem v1_lit {W : World} {s : Nat} {T : TypeId} (xs : List Value) (hm : xs.length ≤ 1000) (hs : s < W.heap.size) (he : W.heap[s]? = some (.cells xs.toArray T (0, 0))) : V1 W (some ⟨s, 0, none⟩) xs.length xs :=
  ⟨Nat.le_refl _, by unfold maxLen; omega, (fun e => by cases e), fun k x hk => ⟨s, 0, rfl, hs, by simp [World.cell?, he, hk]⟩⟩
set_option maxHeartbeats 8000000 in
set_option maxRecDepth 100000 in
theorem deed_of {w0 : World} {p : Nat} {l : List Tk} {D : Nat} {o : Int} {B : Int → Int} {R : Int → List Rc} (hL : Lib3 w0) (hB0 : B (-1) = -1) (hB : BlkC w0 p l D o B R) : DeedC w0 p l D o (ddG l B) (ddQ l B R) := by
  intro x w hs
  have hlo := hs.lo.1
  have hlt := hs.lo.2
  have HB := Lib.hid hB
  have HS := Lib.hid (fun (y : Int) (z : World) (kind : Int) (hk : kind ≠ 0) (h : Sx w0 p l o y z) => sum_x hL kind hk h)
  have H1 := Lib.hid (bel1 w (.cells #[.string ⟨#[]⟩, .string ⟨#[]⟩, .slice none 0 0, .slice none 0 0] 39))
  have HN := new_of w (.cells #[.string ⟨#[]⟩, .string ⟨#[]⟩, .slice none 0 0, .slice none 0 0] 39)
  have HT := Lib.hid (token_x (hs.next H1.out))
  have HBU := Lib.hid (But.of H1.out : But p w _)
  have HD := Lib.hid (ddX (l := l) (B := B) (x := x))
  have HQ := Lib.hid (fun s h e => ddQ_x (l := l) (B := B) (R := R) (x := x) (s := s) h e)
  have HTX := Lib.hid (fun h => tkX_neg (l := l) (x := x) h)
  clear hs hB hL
  generalize ddG l B x = rr at *
  generalize ddQ l B R x = rq at *
  generalize hx1 : tkX l x = x1 at *
  clear hx1
  generalize hq : w.heap.size = q at *
  have Q1 := Lib.hid (B4.of HN)
  have BL1 := Lib.hid (show Below q w _ from H1.out)
  clear HN H1
  go_enter Tryd.func24, Tryd.ntmps24
  go_wp2_with fail
  generalize w.alloc (.cells #[.string ⟨#[]⟩, .string ⟨#[]⟩, .slice none 0 0, .slice none 0 0] 39) = w1 at *
  have HQW := Lib.hid hq
  clear hq
  refine HT.out.mono ?_; rintro e w2 ⟨t, rfl, b2, r2, ht⟩
  have HTN := Lib.hid ht
  rw [← ht] at HD HQ HTX
  clear ht HT
  have Q2 := Lib.hid (Q1.out.but b2 (by omega))
  have BU2 := Lib.hid (HBU.out.trans b2)
  have hz2 : q < w2.heap.size := Q2.out.lt
  have R3 := Lib.hid (r2.next (bel1 w2 (.cells #[.string (tx t), .string ⟨#[]⟩, .slice none 0 0, .slice none 0 0] 39)))
  have Q3 := Lib.hid (Q2.out.next (bel1 w2 (.cells #[.string (tx t), .string ⟨#[]⟩, .slice none 0 0, .slice none 0 0] 39)))
  have D3 := Lib.hid (B4.of (new_of w2 (.cells #[.string (tx t), .string ⟨#[]⟩, .slice none 0 0, .slice none 0 0] 39)))
  have BU3 := Lib.hid (BU2.out.alloc (.cells #[.string (tx t), .string ⟨#[]⟩, .slice none 0 0, .slice none 0 0] 39))
  have R2 := Lib.hid r2
  clear r2 b2 Q1 HBU BL1
  have hrp : w2.heap.size ≠ p := by omega
  have hpr : p ≠ w2.heap.size := by omega
  have hqp : q ≠ p := by omega
  have hpq : p ≠ q := by omega
  have hqr : q ≠ w2.heap.size := by omega
  have hrb : w0.heap.size ≤ w2.heap.size := by omega
  have hqb : w0.heap.size ≤ q := by omega
  have hwq : w.heap.size ≤ q := by have := HQW.out; omega
  have hwr : w.heap.size ≤ w2.heap.size := by have := HQW.out; omega
  have hrz : w2.heap.size < _ := D3.out.lt
  by_cases b0 : t = setT
  · subst b0
    have qe : ((tx setT).toList == [115, 101, 116]) = true := tx_eqL _
    replace HD := Lib.hid (HD.out.trans (if_pos rfl))
    replace HQ := Lib.hid (fun s h e => (HQ.out s h e).trans (if_pos rfl))
    have d0 := D3.out.c0; have d1 := D3.out.c1; have d2 := D3.out.c2; have d3 := D3.out.c3
    have g0 := D3.out.f0; have g1 := D3.out.f1; have g2 := D3.out.f2; have g3 := D3.out.f3
    have e0 := Q3.out.c0; have e1 := Q3.out.c1; have e2 := Q3.out.c2; have e3 := Q3.out.c3
    have k0 := Q3.out.f0; have k1 := Q3.out.f1; have k2 := Q3.out.f2; have k3 := Q3.out.f3
    go_wp2_with fail
    generalize w2.heap.size = r at *
    generalize w2.alloc (.cells #[.string (tx setT), .string ⟨#[]⟩, .slice none 0 0, .slice none 0 0] 39) = w4 at *
    clear d0 d1 d2 d3 g0 g1 g2 g3 e0 e1 e2 e3 k0 k1 k2 k3
    have D4 := D3; have Q4 := Q3; have R4 := R3; have BU4 := BU3
    refine (name_x R4.out).mono ?_; rintro e w5 ⟨n5, rfl, b5, r5, hn5⟩
    have D5 := Lib.hid (D4.out.but b5 hrp)
    have Q5 := Lib.hid (Q4.out.but b5 hqp)
    have BU5 := Lib.hid (BU4.out.trans b5)
    have hz5 : w4.heap.size ≤ w5.heap.size := b5.size
    have hk5 := Lib.hid b5
    have R5 := Lib.hid r5; have HN5 := Lib.hid hn5; clear r5 hn5 b5
    have D6 := Lib.hid (D5.out.set1 (.string (tx n5)))
    have Q6 := Lib.hid (Q5.out.same (Below.heap_setCell w5 ⟨r, 1, none⟩ (.string (tx n5)) q hqr) (by rw [World.size_setCell]; exact Nat.le_refl _))
    have BU6 := Lib.hid (BU5.out.setNew (p := ⟨r, 1, none⟩) hwr (.string (tx n5)))
    have R6 := Lib.hid (R5.out.set (j := 1) hrb hpr (.string (tx n5)))
    have hs6 : (w5.setCell ⟨r, 1, none⟩ (.string (tx n5))).heap.size = w5.heap.size := World.size_setCell _ _ _
    have d0 := D5.out.c0; have d1 := D5.out.c1; have d2 := D5.out.c2; have d3 := D5.out.c3
    have g0 := D5.out.f0; have g1 := D5.out.f1; have g2 := D5.out.f2; have g3 := D5.out.f3
    have e0 := Q5.out.c0; have e1 := Q5.out.c1; have e2 := Q5.out.c2; have e3 := Q5.out.c3
    have k0 := Q5.out.f0; have k1 := Q5.out.f1; have k2 := Q5.out.f2; have k3 := Q5.out.f3
    go_wp2_with fail
    generalize (w5.setCell ⟨r, 1, none⟩ (.string (tx n5))) = w6 at *
    clear d0 d1 d2 d3 g0 g1 g2 g3 e0 e1 e2 e3 k0 k1 k2 k3
    refine (HS.out _ _ 1 (by decide) R6.out).mono ?_; rintro e w7 ⟨a7, n7, c7, rfl, b7, r7, m7⟩
    have D7 := Lib.hid (D6.out.but b7 hrp)
    have Q7 := Lib.hid (Q6.out.but b7 hqp)
    have BU7 := Lib.hid (BU6.out.trans b7)
    have hz7 : w6.heap.size ≤ w7.heap.size := b7.size
    have hk7 := Lib.hid b7
    have R7 := Lib.hid r7; have M7 := Lib.hid m7; clear r7 m7 b7
    have D8 := Lib.hid (D7.out.set2 (.slice a7 n7 c7))
    have Q8 := Lib.hid (Q7.out.same (Below.heap_setCell w7 ⟨r, 2, none⟩ (.slice a7 n7 c7) q hqr) (by rw [World.size_setCell]; exact Nat.le_refl _))
    have BU8 := Lib.hid (BU7.out.setNew (p := ⟨r, 2, none⟩) hwr (.slice a7 n7 c7))
    have R8 := Lib.hid (R7.out.set (j := 2) hrb hpr (.slice a7 n7 c7))
    have hs8 : (w7.setCell ⟨r, 2, none⟩ (.slice a7 n7 c7)).heap.size = w7.heap.size := World.size_setCell _ _ _
    have d0 := D7.out.c0; have d1 := D7.out.c1; have d2 := D7.out.c2; have d3 := D7.out.c3
    have g0 := D7.out.f0; have g1 := D7.out.f1; have g2 := D7.out.f2; have g3 := D7.out.f3
    have e0 := Q7.out.c0; have e1 := Q7.out.c1; have e2 := Q7.out.c2; have e3 := Q7.out.c3
    have k0 := Q7.out.f0; have k1 := Q7.out.f1; have k2 := Q7.out.f2; have k3 := Q7.out.f3
    have d0' := D8.out.c0; have d1' := D8.out.c1; have d2' := D8.out.c2; have d3' := D8.out.c3
    go_wp2_with fail
    refine bodyPost_ret (v := Dv.v ⟨setT, n5, a7, n7, c7, none, 0, 0⟩) (by simp [results, Tryd.results24, go_sem, Dv.v, put4_c0 Q8.out, put4_c1 Q8.out, put4_c2 Q8.out, put4_c3 Q8.out]) rfl ⟨⟨setT, n5, a7, n7, c7, none, 0, 0⟩, rfl, but_put4 BU8.out hwq _ _ _ _, (by rw [HD.out]; exact R8.out.put4 hqb hpq _ _ _ _), ?_⟩
    intro hn
    rw [HD.out] at hn
    have hy1 : nmX l x1 ≠ -1 := fun e => hn (by rw [e]; exact sm_neg1 l 1)
    have hx1 : x1 ≠ -1 := fun e => hy1 (by rw [e]; exact nmX_neg l)
    obtain ⟨e1, s, h1, h2⟩ := HTX.out hx1
    have e2 := nmX_ne hy1
    have m7 := M7.out hn
    rw [HQ.out s h1 h2, show x + 2 = nmX l x1 by omega, ← e1, ← HN5.out]
    exact dd_plain _ _ _ _ _ _ m7.1 m7.2
  replace HD := Lib.hid (HD.out.trans (if_neg b0))
  replace HQ := Lib.hid (fun s h e => (HQ.out s h e).trans (if_neg b0))
  by_cases b1 : t = cutT
  · subst b1
    have qe : ((tx cutT).toList == [99, 117, 116]) = true := tx_eqL _
    have q0 : ((tx cutT).toList == [115, 101, 116]) = false := by rw [Lib.toList_data, tx_data]; decide
    replace HD := Lib.hid (HD.out.trans (if_pos rfl))
    replace HQ := Lib.hid (fun s h e => (HQ.out s h e).trans (if_pos rfl))
    have d0 := D3.out.c0; have d1 := D3.out.c1; have d2 := D3.out.c2; have d3 := D3.out.c3
    have g0 := D3.out.f0; have g1 := D3.out.f1; have g2 := D3.out.f2; have g3 := D3.out.f3
    have e0 := Q3.out.c0; have e1 := Q3.out.c1; have e2 := Q3.out.c2; have e3 := Q3.out.c3
    have k0 := Q3.out.f0; have k1 := Q3.out.f1; have k2 := Q3.out.f2; have k3 := Q3.out.f3
    go_wp2_with fail
    generalize w2.heap.size = r at *
    generalize w2.alloc (.cells #[.string (tx cutT), .string ⟨#[]⟩, .slice none 0 0, .slice none 0 0] 39) = w4 at *
    clear d0 d1 d2 d3 g0 g1 g2 g3 e0 e1 e2 e3 k0 k1 k2 k3
    have D4 := D3; have Q4 := Q3; have R4 := R3; have BU4 := BU3
    refine (name_x R4.out).mono ?_; rintro e w5 ⟨n5, rfl, b5, r5, hn5⟩
    have D5 := Lib.hid (D4.out.but b5 hrp)
    have Q5 := Lib.hid (Q4.out.but b5 hqp)
    have BU5 := Lib.hid (BU4.out.trans b5)
    have hz5 : w4.heap.size ≤ w5.heap.size := b5.size
    have hk5 := Lib.hid b5
    have R5 := Lib.hid r5; have HN5 := Lib.hid hn5; clear r5 hn5 b5
    have D6 := Lib.hid (D5.out.set1 (.string (tx n5)))
    have Q6 := Lib.hid (Q5.out.same (Below.heap_setCell w5 ⟨r, 1, none⟩ (.string (tx n5)) q hqr) (by rw [World.size_setCell]; exact Nat.le_refl _))
    have BU6 := Lib.hid (BU5.out.setNew (p := ⟨r, 1, none⟩) hwr (.string (tx n5)))
    have R6 := Lib.hid (R5.out.set (j := 1) hrb hpr (.string (tx n5)))
    have hs6 : (w5.setCell ⟨r, 1, none⟩ (.string (tx n5))).heap.size = w5.heap.size := World.size_setCell _ _ _
    have d0 := D5.out.c0; have d1 := D5.out.c1; have d2 := D5.out.c2; have d3 := D5.out.c3
    have g0 := D5.out.f0; have g1 := D5.out.f1; have g2 := D5.out.f2; have g3 := D5.out.f3
    have e0 := Q5.out.c0; have e1 := Q5.out.c1; have e2 := Q5.out.c2; have e3 := Q5.out.c3
    have k0 := Q5.out.f0; have k1 := Q5.out.f1; have k2 := Q5.out.f2; have k3 := Q5.out.f3
    have d0' := D6.out.c0; have d1' := D6.out.c1; have d2' := D6.out.c2; have d3' := D6.out.c3
    go_wp2_with fail
    refine bodyPost_ret (v := Dv.v ⟨cutT, n5, none, 0, 0, none, 0, 0⟩) (by simp [results, Tryd.results24, go_sem, Dv.v, put4_c0 Q6.out, put4_c1 Q6.out, put4_c2 Q6.out, put4_c3 Q6.out]) rfl ⟨⟨cutT, n5, none, 0, 0, none, 0, 0⟩, rfl, but_put4 BU6.out hwq _ _ _ _, (by rw [HD.out]; exact R6.out.put4 hqb hpq _ _ _ _), ?_⟩
    intro hn
    rw [HD.out] at hn
    have hx1 : x1 ≠ -1 := fun e => hn (by rw [e]; exact nmX_neg l)
    obtain ⟨e1, s, h1, h2⟩ := HTX.out hx1
    rw [HQ.out s h1 h2, ← e1, ← HN5.out]
    exact dd_plain _ _ _ _ _ _ rfl (v1_nil _)
  replace HD := Lib.hid (HD.out.trans (if_neg b1))
  replace HQ := Lib.hid (fun s h e => (HQ.out s h e).trans (if_neg b1))
  by_cases b2 : t = stopT
  · subst b2
    have qe : ((tx stopT).toList == [115, 116, 111, 112]) = true := tx_eqL _
    have q0 : ((tx stopT).toList == [115, 101, 116]) = false := by rw [Lib.toList_data, tx_data]; decide
    have q1 : ((tx stopT).toList == [99, 117, 116]) = false := by rw [Lib.toList_data, tx_data]; decide
    replace HD := Lib.hid (HD.out.trans (if_pos rfl))
    replace HQ := Lib.hid (fun s h e => (HQ.out s h e).trans (if_pos rfl))
    have y0 := Q2.out.c0; have y1 := Q2.out.c1; have y2 := Q2.out.c2; have y3 := Q2.out.c3
    have z0 := Q2.out.f0; have z1 := Q2.out.f1; have z2 := Q2.out.f2; have z3 := Q2.out.f3
    clear Q3 D3 R3 BU3
    go_wp2_with fail
    refine bodyPost_ret (v := Dv.v ⟨stopT, [], none, 0, 0, none, 0, 0⟩) (by simp [results, Tryd.results24, go_sem, Dv.v, tx_nil, put4a_c0 Q2.out, put4a_c1 Q2.out, put4a_c2 Q2.out, put4a_c3 Q2.out]) rfl ⟨⟨stopT, [], none, 0, 0, none, 0, 0⟩, rfl, (but_put4 BU2.out hwq _ _ _ _).alloc _, (by rw [HD.out]; exact (R2.out.put4 hqb hpq _ _ _ _).next (bel1 _ _)), ?_⟩
    intro hn
    rw [HD.out] at hn
    obtain ⟨-, s, h1, h2⟩ := HTX.out hn
    rw [HQ.out s h1 h2]
    exact dd_plain _ _ _ _ _ _ rfl (v1_nil _)
  replace HD := Lib.hid (HD.out.trans (if_neg b2))
  replace HQ := Lib.hid (fun s h e => (HQ.out s h e).trans (if_neg b2))
  by_cases b3 : t = ifT
  · subst b3
    have qe : ((tx ifT).toList == [105, 102]) = true := tx_eqL _
    have q0 : ((tx ifT).toList == [115, 101, 116]) = false := by rw [Lib.toList_data, tx_data]; decide
    have q1 : ((tx ifT).toList == [99, 117, 116]) = false := by rw [Lib.toList_data, tx_data]; decide
    have q2 : ((tx ifT).toList == [115, 116, 111, 112]) = false := by rw [Lib.toList_data, tx_data]; decide
    replace HD := Lib.hid (HD.out.trans (if_pos rfl))
    replace HQ := Lib.hid (fun s h e => (HQ.out s h e).trans (if_pos rfl))
    have d0 := D3.out.c0; have d1 := D3.out.c1; have d2 := D3.out.c2; have d3 := D3.out.c3
    have g0 := D3.out.f0; have g1 := D3.out.f1; have g2 := D3.out.f2; have g3 := D3.out.f3
    have e0 := Q3.out.c0; have e1 := Q3.out.c1; have e2 := Q3.out.c2; have e3 := Q3.out.c3
    have k0 := Q3.out.f0; have k1 := Q3.out.f1; have k2 := Q3.out.f2; have k3 := Q3.out.f3
    go_wp2_with fail
    generalize w2.heap.size = r at *
    generalize w2.alloc (.cells #[.string (tx ifT), .string ⟨#[]⟩, .slice none 0 0, .slice none 0 0] 39) = w4 at *
    clear d0 d1 d2 d3 g0 g1 g2 g3 e0 e1 e2 e3 k0 k1 k2 k3
    have D4 := D3; have Q4 := Q3; have R4 := R3; have BU4 := BU3
    refine (HS.out _ _ 2 (by decide) R4.out).mono ?_; rintro e w5 ⟨a5, n5, c5, rfl, b5, r5, m5⟩
    have D5 := Lib.hid (D4.out.but b5 hrp)
    have Q5 := Lib.hid (Q4.out.but b5 hqp)
    have BU5 := Lib.hid (BU4.out.trans b5)
    have hz5 : w4.heap.size ≤ w5.heap.size := b5.size
    have hk5 := Lib.hid b5
    have R5 := Lib.hid r5; have M5 := Lib.hid m5; clear r5 m5 b5
    have D6 := Lib.hid (D5.out.set2 (.slice a5 n5 c5))
    have Q6 := Lib.hid (Q5.out.same (Below.heap_setCell w5 ⟨r, 2, none⟩ (.slice a5 n5 c5) q hqr) (by rw [World.size_setCell]; exact Nat.le_refl _))
    have BU6 := Lib.hid (BU5.out.setNew (p := ⟨r, 2, none⟩) hwr (.slice a5 n5 c5))
    have R6 := Lib.hid (R5.out.set (j := 2) hrb hpr (.slice a5 n5 c5))
    have hs6 : (w5.setCell ⟨r, 2, none⟩ (.slice a5 n5 c5)).heap.size = w5.heap.size := World.size_setCell _ _ _
    have d0 := D5.out.c0; have d1 := D5.out.c1; have d2 := D5.out.c2; have d3 := D5.out.c3
    have g0 := D5.out.f0; have g1 := D5.out.f1; have g2 := D5.out.f2; have g3 := D5.out.f3
    have e0 := Q5.out.c0; have e1 := Q5.out.c1; have e2 := Q5.out.c2; have e3 := Q5.out.c3
    have k0 := Q5.out.f0; have k1 := Q5.out.f1; have k2 := Q5.out.f2; have k3 := Q5.out.f3
    go_wp2_with fail
    generalize (w5.setCell ⟨r, 2, none⟩ (.slice a5 n5 c5)) = w6 at *
    clear d0 d1 d2 d3 g0 g1 g2 g3 e0 e1 e2 e3 k0 k1 k2 k3
    refine (HB.out _ _ R6.out).mono ?_; rintro e w7 ⟨a7, n7, c7, rfl, b7, r7, m7⟩
    have D7 := Lib.hid (D6.out.but b7 hrp)
    have Q7 := Lib.hid (Q6.out.but b7 hqp)
    have BU7 := Lib.hid (BU6.out.trans b7)
    have hz7 : w6.heap.size ≤ w7.heap.size := b7.size
    have hk7 := Lib.hid b7
    have R7 := Lib.hid r7; have M7 := Lib.hid m7; clear r7 m7 b7
    go_wp2_with fail
    refine (HB.out _ _ R7.out).mono ?_; rintro e w8 ⟨a8, n8, c8, rfl, b8, r8, m8⟩
    have D8 := Lib.hid (D7.out.but b8 hrp)
    have Q8 := Lib.hid (Q7.out.but b8 hqp)
    have BU8 := Lib.hid (BU7.out.trans b8)
    have hz8 : w7.heap.size ≤ w8.heap.size := b8.size
    have hk8 := Lib.hid b8
    have R8 := Lib.hid r8; have M8 := Lib.hid m8; clear r8 m8 b8
    have hbl := bel1 w8 (.cells #[.slice a7 n7 c7, .slice a8 n8 c8] 41)
    have D9 := Lib.hid (D8.out.next hbl)
    have Q9 := Lib.hid (Q8.out.next hbl)
    have R9 := Lib.hid (R8.out.next hbl)
    have BU9 := Lib.hid (BU8.out.alloc (.cells #[.slice a7 n7 c7, .slice a8 n8 c8] 41))
    have HN9 := Lib.hid (new_of w8 (.cells #[.slice a7 n7 c7, .slice a8 n8 c8] 41))
    have HL9 := Lib.hid hbl
    have hz9 : (w8.alloc (.cells #[.slice a7 n7 c7, .slice a8 n8 c8] 41)).heap.size = w8.heap.size + 1 := World.size_alloc _ _
    clear hbl
    generalize hs : w8.heap.size = s at *
    generalize hw9 : w8.alloc (.cells #[.slice a7 n7 c7, .slice a8 n8 c8] 41) = w9 at *
    have D10 := Lib.hid (D9.out.set3 (.slice (some ⟨s, 0, none⟩) 2 2))
    have Q10 := Lib.hid (Q9.out.same (Below.heap_setCell w9 ⟨r, 3, none⟩ (.slice (some ⟨s, 0, none⟩) 2 2) q hqr) (by rw [World.size_setCell]; exact Nat.le_refl _))
    have BU10 := Lib.hid (BU9.out.setNew (p := ⟨r, 3, none⟩) hwr (.slice (some ⟨s, 0, none⟩) 2 2))
    have R10 := Lib.hid (R9.out.set (j := 3) hrb hpr (.slice (some ⟨s, 0, none⟩) 2 2))
    have hs10 : (w9.setCell ⟨r, 3, none⟩ (.slice (some ⟨s, 0, none⟩) 2 2)).heap.size = w9.heap.size := World.size_setCell _ _ _
    have d0 := D9.out.c0; have d1 := D9.out.c1; have d2 := D9.out.c2; have d3 := D9.out.c3
    have g0 := D9.out.f0; have g1 := D9.out.f1; have g2 := D9.out.f2; have g3 := D9.out.f3
    have e0 := Q9.out.c0; have e1 := Q9.out.c1; have e2 := Q9.out.c2; have e3 := Q9.out.c3
    have k0 := Q9.out.f0; have k1 := Q9.out.f1; have k2 := Q9.out.f2; have k3 := Q9.out.f3
    have d0' := D10.out.c0; have d1' := D10.out.c1; have d2' := D10.out.c2; have d3' := D10.out.c3
    go_wp2_with fail
    refine bodyPost_ret (v := Dv.v ⟨ifT, [], a5, n5, c5, some ⟨s, 0, none⟩, 2, 2⟩) (by simp [results, Tryd.results24, go_sem, Dv.v, tx_nil, put4_c0 Q10.out, put4_c1 Q10.out, put4_c2 Q10.out, put4_c3 Q10.out]) rfl ⟨⟨ifT, [], a5, n5, c5, some ⟨s, 0, none⟩, 2, 2⟩, rfl, but_put4 BU10.out hwq _ _ _ _, (by rw [HD.out]; exact R10.out.put4 hqb hpq _ _ _ _), ?_⟩
    intro hn
    rw [HD.out] at hn
    have hy : B (smV l 2 x1) ≠ -1 := fun e => hn (by rw [e]; exact hB0)
    have hsm : smV l 2 x1 ≠ -1 := fun e => hy (by rw [e]; exact hB0)
    have hx1 : x1 ≠ -1 := fun e => hsm (by rw [e]; exact sm_neg1 l 2)
    obtain ⟨e1, s', h1, h2⟩ := HTX.out hx1
    rw [HQ.out s' h1 h2, ← e1]
    have m5 := M5.out hsm
    have m7 := M7.out hy
    have m8 := M8.out hn
    have key : ∀ W : World, (∀ g, g ≠ q → W.heap[g]? = (w9.setCell ⟨r, 3, none⟩ (.slice (some ⟨s, 0, none⟩) 2 2)).heap[g]?) → W.heap.size = (w9.setCell ⟨r, 3, none⟩ (.slice (some ⟨s, 0, none⟩) 2 2)).heap.size → DdM w0 (fun x => q ≤ x) W (DM w0 (fun x => q ≤ x) W D) ⟨ifT, [], a5, n5, c5, some ⟨s, 0, none⟩, 2, 2⟩ (([], smT l x1) :: (R (smV l 2 x1) ++ R (B (smV l 2 x1)))) := by
      intro W hW hZ
      have hz10 : W.heap.size = s + 1 := by rw [hZ, hs10, hz9]
      have hk0 : ∀ g, g ≠ q → g ≠ r → g < s → W.heap[g]? = w8.heap[g]? := fun g h1 h2 h3 => ((hW g h1).trans (Below.heap_setCell _ _ _ _ h2)).trans (HL9.out.block g h3)
      have hsr : s ≠ r := by omega
      have hsq : s ≠ q := by omega
      refine ⟨smT l x1, [.slice a7 n7 c7, .slice a8 n8 c8], [R (smV l 2 x1), R (B (smV l 2 x1))], m5.1, m5.2, rfl, ?_, ?_, rfl, ?_, ?_⟩
      · exact v1_lit [.slice a7 n7 c7, .slice a8 n8 c8] (by simp) (by omega) (((hW s hsq).trans (Below.heap_setCell _ _ _ _ hsr)).trans HN9.out)
      · intro g o e
        cases e
        exact ⟨by show q ≤ s; omega, by omega⟩
      · intro k b g hb hg
        cases k with
        | zero =>
          simp at hb hg
          subst hb; subst hg
          exact DM.keep (by omega) (fun g h1 h2 => (hk0 g (by omega) (by omega) (by omega)).trans (hk8.out.block g h2 (by omega))) (fun g h _ => by show q ≤ g; omega) D _ _ m7
        | succ k =>
          cases k with
          | zero =>
            simp at hb hg
            subst hb; subst hg
            exact DM.keep (by omega) (fun g h1 h2 => hk0 g (by omega) (by omega) (by omega)) (fun g h _ => by show q ≤ g; omega) D _ _ m8
          | succ k => simp at hb
      · simp
    exact key _ (fun g hg => put4_heap _ _ _ _ _ _ hg) (put4_size _ _ _ _ _ _)
  replace HD := Lib.hid (HD.out.trans (if_neg b3))
  replace HQ := Lib.hid (fun s h e => (HQ.out s h e).trans (if_neg b3))
  by_cases b4 : t = whT
  · subst b4
    have qe : ((tx whT).toList == [119, 104, 105, 108, 101]) = true := tx_eqL _
    have q0 : ((tx whT).toList == [115, 101, 116]) = false := by rw [Lib.toList_data, tx_data]; decide
    have q1 : ((tx whT).toList == [99, 117, 116]) = false := by rw [Lib.toList_data, tx_data]; decide
    have q2 : ((tx whT).toList == [115, 116, 111, 112]) = false := by rw [Lib.toList_data, tx_data]; decide
    have q3 : ((tx whT).toList == [105, 102]) = false := by rw [Lib.toList_data, tx_data]; decide
    replace HD := Lib.hid (HD.out.trans (if_pos rfl))
    replace HQ := Lib.hid (fun s h e => (HQ.out s h e).trans (if_pos rfl))
    have d0 := D3.out.c0; have d1 := D3.out.c1; have d2 := D3.out.c2; have d3 := D3.out.c3
    have g0 := D3.out.f0; have g1 := D3.out.f1; have g2 := D3.out.f2; have g3 := D3.out.f3
    have e0 := Q3.out.c0; have e1 := Q3.out.c1; have e2 := Q3.out.c2; have e3 := Q3.out.c3
    have k0 := Q3.out.f0; have k1 := Q3.out.f1; have k2 := Q3.out.f2; have k3 := Q3.out.f3
    go_wp2_with fail
    generalize w2.heap.size = r at *
    generalize w2.alloc (.cells #[.string (tx whT), .string ⟨#[]⟩, .slice none 0 0, .slice none 0 0] 39) = w4 at *
    clear d0 d1 d2 d3 g0 g1 g2 g3 e0 e1 e2 e3 k0 k1 k2 k3
    have D4 := D3; have Q4 := Q3; have R4 := R3; have BU4 := BU3
    refine (HS.out _ _ 2 (by decide) R4.out).mono ?_; rintro e w5 ⟨a5, n5, c5, rfl, b5, r5, m5⟩
    have D5 := Lib.hid (D4.out.but b5 hrp)
    have Q5 := Lib.hid (Q4.out.but b5 hqp)
    have BU5 := Lib.hid (BU4.out.trans b5)
    have hz5 : w4.heap.size ≤ w5.heap.size := b5.size
    have hk5 := Lib.hid b5
    have R5 := Lib.hid r5; have M5 := Lib.hid m5; clear r5 m5 b5
    have D6 := Lib.hid (D5.out.set2 (.slice a5 n5 c5))
    have Q6 := Lib.hid (Q5.out.same (Below.heap_setCell w5 ⟨r, 2, none⟩ (.slice a5 n5 c5) q hqr) (by rw [World.size_setCell]; exact Nat.le_refl _))
    have BU6 := Lib.hid (BU5.out.setNew (p := ⟨r, 2, none⟩) hwr (.slice a5 n5 c5))
    have R6 := Lib.hid (R5.out.set (j := 2) hrb hpr (.slice a5 n5 c5))
    have hs6 : (w5.setCell ⟨r, 2, none⟩ (.slice a5 n5 c5)).heap.size = w5.heap.size := World.size_setCell _ _ _
    have d0 := D5.out.c0; have d1 := D5.out.c1; have d2 := D5.out.c2; have d3 := D5.out.c3
    have g0 := D5.out.f0; have g1 := D5.out.f1; have g2 := D5.out.f2; have g3 := D5.out.f3
    have e0 := Q5.out.c0; have e1 := Q5.out.c1; have e2 := Q5.out.c2; have e3 := Q5.out.c3
    have k0 := Q5.out.f0; have k1 := Q5.out.f1; have k2 := Q5.out.f2; have k3 := Q5.out.f3
    go_wp2_with fail
    generalize (w5.setCell ⟨r, 2, none⟩ (.slice a5 n5 c5)) = w6 at *
    clear d0 d1 d2 d3 g0 g1 g2 g3 e0 e1 e2 e3 k0 k1 k2 k3
    refine (HB.out _ _ R6.out).mono ?_; rintro e w7 ⟨a7, n7, c7, rfl, b7, r7, m7⟩
    have D7 := Lib.hid (D6.out.but b7 hrp)
    have Q7 := Lib.hid (Q6.out.but b7 hqp)
    have BU7 := Lib.hid (BU6.out.trans b7)
    have hz7 : w6.heap.size ≤ w7.heap.size := b7.size
    have hk7 := Lib.hid b7
    have R7 := Lib.hid r7; have M7 := Lib.hid m7; clear r7 m7 b7
    have hbl := bel1 w7 (.cells #[.slice a7 n7 c7] 41)
    have D9 := Lib.hid (D7.out.next hbl)
    have Q9 := Lib.hid (Q7.out.next hbl)
    have R9 := Lib.hid (R7.out.next hbl)
    have BU9 := Lib.hid (BU7.out.alloc (.cells #[.slice a7 n7 c7] 41))
    have HN9 := Lib.hid (new_of w7 (.cells #[.slice a7 n7 c7] 41))
    have HL9 := Lib.hid hbl
    have hz9 : (w7.alloc (.cells #[.slice a7 n7 c7] 41)).heap.size = w7.heap.size + 1 := World.size_alloc _ _
    clear hbl
    generalize hs : w7.heap.size = s at *
    generalize hw9 : w7.alloc (.cells #[.slice a7 n7 c7] 41) = w9 at *
    have D10 := Lib.hid (D9.out.set3 (.slice (some ⟨s, 0, none⟩) 1 1))
    have Q10 := Lib.hid (Q9.out.same (Below.heap_setCell w9 ⟨r, 3, none⟩ (.slice (some ⟨s, 0, none⟩) 1 1) q hqr) (by rw [World.size_setCell]; exact Nat.le_refl _))
    have BU10 := Lib.hid (BU9.out.setNew (p := ⟨r, 3, none⟩) hwr (.slice (some ⟨s, 0, none⟩) 1 1))
    have R10 := Lib.hid (R9.out.set (j := 3) hrb hpr (.slice (some ⟨s, 0, none⟩) 1 1))
    have hs10 : (w9.setCell ⟨r, 3, none⟩ (.slice (some ⟨s, 0, none⟩) 1 1)).heap.size = w9.heap.size := World.size_setCell _ _ _
    have d0 := D9.out.c0; have d1 := D9.out.c1; have d2 := D9.out.c2; have d3 := D9.out.c3
    have g0 := D9.out.f0; have g1 := D9.out.f1; have g2 := D9.out.f2; have g3 := D9.out.f3
    have e0 := Q9.out.c0; have e1 := Q9.out.c1; have e2 := Q9.out.c2; have e3 := Q9.out.c3
    have k0 := Q9.out.f0; have k1 := Q9.out.f1; have k2 := Q9.out.f2; have k3 := Q9.out.f3
    have d0' := D10.out.c0; have d1' := D10.out.c1; have d2' := D10.out.c2; have d3' := D10.out.c3
    go_wp2_with fail
    refine bodyPost_ret (v := Dv.v ⟨whT, [], a5, n5, c5, some ⟨s, 0, none⟩, 1, 1⟩) (by simp [results, Tryd.results24, go_sem, Dv.v, tx_nil, put4_c0 Q10.out, put4_c1 Q10.out, put4_c2 Q10.out, put4_c3 Q10.out]) rfl ⟨⟨whT, [], a5, n5, c5, some ⟨s, 0, none⟩, 1, 1⟩, rfl, but_put4 BU10.out hwq _ _ _ _, (by rw [HD.out]; exact R10.out.put4 hqb hpq _ _ _ _), ?_⟩
    intro hn
    rw [HD.out] at hn
    have hy := hn
    have hsm : smV l 2 x1 ≠ -1 := fun e => hy (by rw [e]; exact hB0)
    have hx1 : x1 ≠ -1 := fun e => hsm (by rw [e]; exact sm_neg1 l 2)
    obtain ⟨e1, s', h1, h2⟩ := HTX.out hx1
    rw [HQ.out s' h1 h2, ← e1]
    have m5 := M5.out hsm
    have m7 := M7.out hy
    have key : ∀ W : World, (∀ g, g ≠ q → W.heap[g]? = (w9.setCell ⟨r, 3, none⟩ (.slice (some ⟨s, 0, none⟩) 1 1)).heap[g]?) → W.heap.size = (w9.setCell ⟨r, 3, none⟩ (.slice (some ⟨s, 0, none⟩) 1 1)).heap.size → DdM w0 (fun x => q ≤ x) W (DM w0 (fun x => q ≤ x) W D) ⟨whT, [], a5, n5, c5, some ⟨s, 0, none⟩, 1, 1⟩ (([], smT l x1) :: R (smV l 2 x1)) := by
      intro W hW hZ
      have hz10 : W.heap.size = s + 1 := by rw [hZ, hs10, hz9]
      have hk0 : ∀ g, g ≠ q → g ≠ r → g < s → W.heap[g]? = w7.heap[g]? := fun g h1 h2 h3 => ((hW g h1).trans (Below.heap_setCell _ _ _ _ h2)).trans (HL9.out.block g h3)
      have hsr : s ≠ r := by omega
      have hsq : s ≠ q := by omega
      refine ⟨smT l x1, [.slice a7 n7 c7], [R (smV l 2 x1)], m5.1, m5.2, rfl, ?_, ?_, rfl, ?_, ?_⟩
      · exact v1_lit [.slice a7 n7 c7] (by simp) (by omega) (((hW s hsq).trans (Below.heap_setCell _ _ _ _ hsr)).trans HN9.out)
      · intro g o e
        cases e
        exact ⟨by show q ≤ s; omega, by omega⟩
      · intro k b g hb hg
        cases k with
        | zero =>
          simp at hb hg
          subst hb; subst hg
          exact DM.keep (by omega) (fun g h1 h2 => hk0 g (by omega) (by omega) (by omega)) (fun g h _ => by show q ≤ g; omega) D _ _ m7
        | succ k =>
          simp at hb
      · simp
    exact key _ (fun g hg => put4_heap _ _ _ _ _ _ hg) (put4_size _ _ _ _ _ _)
  replace HD := Lib.hid (HD.out.trans (if_neg b4))
  replace HQ := Lib.hid (fun s h e => (HQ.out s h e).trans (if_neg b4))
  have q0 : ((tx t).toList == [115, 101, 116]) = false := by rw [Lib.toList_data, tx_data, beq_eq_false_iff_ne]; exact b0
  have q1 : ((tx t).toList == [99, 117, 116]) = false := by rw [Lib.toList_data, tx_data, beq_eq_false_iff_ne]; exact b1
  have q2 : ((tx t).toList == [115, 116, 111, 112]) = false := by rw [Lib.toList_data, tx_data, beq_eq_false_iff_ne]; exact b2
  have q3 : ((tx t).toList == [105, 102]) = false := by rw [Lib.toList_data, tx_data, beq_eq_false_iff_ne]; exact b3
  have q4 : ((tx t).toList == [119, 104, 105, 108, 101]) = false := by rw [Lib.toList_data, tx_data, beq_eq_false_iff_ne]; exact b4
  have d0 := D3.out.c0; have d1 := D3.out.c1; have d2 := D3.out.c2; have d3 := D3.out.c3
  have g0 := D3.out.f0; have g1 := D3.out.f1; have g2 := D3.out.f2; have g3 := D3.out.f3
  have e0 := Q3.out.c0; have e1 := Q3.out.c1; have e2 := Q3.out.c2; have e3 := Q3.out.c3
  have k0 := Q3.out.f0; have k1 := Q3.out.f1; have k2 := Q3.out.f2; have k3 := Q3.out.f3
  go_wp2_with fail
  generalize w2.heap.size = r at *
  generalize w2.alloc (.cells #[.string (tx t), .string ⟨#[]⟩, .slice none 0 0, .slice none 0 0] 39) = w4 at *
  clear d0 d1 d2 d3 g0 g1 g2 g3 e0 e1 e2 e3 k0 k1 k2 k3
  have D4 := D3; have Q4 := Q3; have R4 := R3; have BU4 := BU3
  refine (require_x R4.out false).mono ?_; rintro e w5 ⟨rfl, b5, r5⟩
  have D5 := Lib.hid (D4.out.but b5 hrp)
  have Q5 := Lib.hid (Q4.out.but b5 hqp)
  have BU5 := Lib.hid (BU4.out.trans b5)
  have hz5 : w4.heap.size ≤ w5.heap.size := b5.size
  have hk5 := Lib.hid b5
  have R5 := Lib.hid r5; clear r5 b5
  have d0 := D5.out.c0; have d1 := D5.out.c1; have d2 := D5.out.c2; have d3 := D5.out.c3
  have g0 := D5.out.f0; have g1 := D5.out.f1; have g2 := D5.out.f2; have g3 := D5.out.f3
  have e0 := Q5.out.c0; have e1 := Q5.out.c1; have e2 := Q5.out.c2; have e3 := Q5.out.c3
  have k0 := Q5.out.f0; have k1 := Q5.out.f1; have k2 := Q5.out.f2; have k3 := Q5.out.f3
  go_wp2_with fail
  refine bodyPost_ret (v := Dv.v ⟨t, [], none, 0, 0, none, 0, 0⟩) (by simp [results, Tryd.results24, go_sem, Dv.v, tx_nil, put4_c0 Q5.out, put4_c1 Q5.out, put4_c2 Q5.out, put4_c3 Q5.out]) rfl ⟨⟨t, [], none, 0, 0, none, 0, 0⟩, rfl, but_put4 BU5.out hwq _ _ _ _, (by rw [HD.out]; exact R5.out.put4 hqb hpq _ _ _ _), ?_⟩
  exact fun hn => absurd HD.out hn
end Go.Proofs.YtkhmbmcomgclaaaDoor.Cl
