/-
  Statements in memory as trees: what the reader leaves in memory is the tree that its text shows ('DdM', 'DM' of trees; contracts of the reader, impl.deedsOf). (Made by gen_zt.py out of the parts Nd, Ne, Nf, Ng.)
-/
import Derived.Test.YtfnnoehpahdgcaaGreatDoorZb
import Derived.Test.YtfnnoehpahdgcaaGreatDoorMc
namespace Go.Proofs.YtfnnoehpahdgcaaGreatDoor.Cl.T
open Go.RowKit Wd Rp Cu Kp
set_option linter.unusedVariables false
/-- The tree that stands at a place, blocks given. -/
def ddQ (l : List Tk) (B : Int → Int) (R : Int → Sl) (i : Int) : Sm := match tkA l i with
  | none => .stop
  | some s => if s = setT then .set (tkN l (i + 1)) (smT l (i + 2)) else if s = cutT then .cut (tkN l (i + 1)) else if s = stopT then .stop
    else if s = ifT then .ifs (smT l (i + 1)) (R (smV l 2 (i + 1))) (R (B (smV l 2 (i + 1)))) else if s = whT then .whl (smT l (i + 1)) (R (smV l 2 (i + 1))) else .stop
def dlR (l : List Tk) (f : Int → Int) (R : Int → Sm) : Nat → Int → Sl
  | 0, _ => .nil
  | n + 1, i => match tkA l i with | none => .nil | some s => if s = [93] then .nil else .cons (R i) (dlR l f R n (f i))
def blR (l : List Tk) (f : Int → Int) (R : Int → Sm) (i : Int) : Sl := dlR l f R (l.length + 1) (i + 1)
def ddR (l : List Tk) : Nat → Int → Sm
  | 0 => ddQ l (fun _ => -1) (fun _ => .nil)
  | d + 1 => ddQ l (blS l (ddE l d)) (blR l (ddE l d) (ddR l d))
/-- The tree that is read of a recipe. -/
def rcR (l : List Tk) : Sl := dlR l (ddE l 5) (ddR l 5) (l.length + 1) 0
theorem ddQ_some {l : List Tk} {B : Int → Int} {R : Int → Sl} {i : Int} {s : Tk} (h : tkA l i = some s) : ddQ l B R i = if s = setT then .set (tkN l (i + 1)) (smT l (i + 2)) else if s = cutT then .cut (tkN l (i + 1)) else if s = stopT then .stop
    else if s = ifT then .ifs (smT l (i + 1)) (R (smV l 2 (i + 1))) (R (B (smV l 2 (i + 1)))) else if s = whT then .whl (smT l (i + 1)) (R (smV l 2 (i + 1))) else .stop := by unfold ddQ; rw [h]
/-- Statements ahead of others. -/
def preS : List Sm → Sl → Sl
  | [], t => t
  | s :: ss, t => .cons s (preS ss t)
theorem preS_snoc (ss : List Sm) (s : Sm) (t : Sl) : preS ss (.cons s t) = preS (ss ++ [s]) t := by
  induction ss with
  | nil => rfl
  | cons x ss ih => rw [List.cons_append, preS, preS, ih]
/-- A statement in memory: the tree that it is. -/
def DdM (w0 : World) (K : Nat → Prop) (w : World) (sub : Value → Sl → Prop) (d : Dv) : Sm → Prop
  | .set n e => d.h = setT ∧ d.n = n ∧ d.sn = e.length ∧ V1 w0 d.sa d.sc (txL e)
  | .cut n => d.h = cutT ∧ d.n = n
  | .stop => d.h = stopT
  | .ifs e a b => d.h = ifT ∧ d.sn = e.length ∧ V1 w0 d.sa d.sc (txL e) ∧ ∃ va vb, d.bn = 2 ∧ V1 w d.ba d.bc [va, vb] ∧ (∀ g o, d.ba = some ⟨g, o, none⟩ → K g ∧ g < w.heap.size) ∧ sub va a ∧ sub vb b
  | .whl e a => d.h = whT ∧ d.sn = e.length ∧ V1 w0 d.sa d.sc (txL e) ∧ ∃ va, d.bn = 1 ∧ V1 w d.ba d.bc [va] ∧ (∀ g o, d.ba = some ⟨g, o, none⟩ → K g ∧ g < w.heap.size) ∧ sub va a
/-- A slice of statements, brackets so deep: the tree that it is. -/
def DM (w0 : World) (K : Nat → Prop) (w : World) : Nat → Value → Sl → Prop
  | 0 => fun _ _ => False
  | D + 1 => fun v F => ∃ (ds : List Dv) (fs : List Sm), OwD 0 w v ds ∧ (∀ k, v.ownBlock = some k → K k) ∧ ds.length = fs.length ∧ (∀ (k : Nat) (d : Dv) (f : Sm), ds[k]? = some d → fs[k]? = some f → DdM w0 K w (DM w0 K w D) d f) ∧ F = preS fs .nil
theorem DdM.keep {w0 w w' : World} {K K' : Nat → Prop} (hs : w.heap.size ≤ w'.heap.size) (hk : ∀ g, K g → g < w.heap.size → w'.heap[g]? = w.heap[g]?) (hK : ∀ g, K g → g < w.heap.size → K' g) {sub sub' : Value → Sl → Prop} (hsub : ∀ v f, sub v f → sub' v f) {d : Dv} {f : Sm} (h : DdM w0 K w sub d f) : DdM w0 K' w' sub' d f := by
  cases f with
  | set n e => exact h
  | cut n => exact h
  | stop => exact h
  | ifs e a b =>
    obtain ⟨h1, h2, h3, va, vb, h4, h5, h6, h7, h8⟩ := h
    exact ⟨h1, h2, h3, va, vb, h4, h5.keep hs (fun g o e hg => hk g (h6 g o e).1 hg), (fun g o e => ⟨hK g (h6 g o e).1 (h6 g o e).2, Nat.lt_of_lt_of_le (h6 g o e).2 hs⟩), hsub _ _ h7, hsub _ _ h8⟩
  | whl e a =>
    obtain ⟨h1, h2, h3, va, h4, h5, h6, h7⟩ := h
    exact ⟨h1, h2, h3, va, h4, h5.keep hs (fun g o e hg => hk g (h6 g o e).1 hg), (fun g o e => ⟨hK g (h6 g o e).1 (h6 g o e).2, Nat.lt_of_lt_of_le (h6 g o e).2 hs⟩), hsub _ _ h7⟩
theorem DM.keep {w0 w w' : World} {K K' : Nat → Prop} (hs : w.heap.size ≤ w'.heap.size) (hk : ∀ g, K g → g < w.heap.size → w'.heap[g]? = w.heap[g]?) (hK : ∀ g, K g → g < w.heap.size → K' g) : ∀ (D : Nat) (v : Value) (F : Sl), DM w0 K w D v F → DM w0 K' w' D v F
  | 0, v, F, h => by cases h
  | D + 1, v, F, h => by
    obtain ⟨ds, fs, h1, h2, h3, h4, h5⟩ := h
    exact ⟨ds, fs, h1.same fun k hk' => hk k (h2 k hk') (h1.low k hk'), fun k hk' => hK k (h2 k hk') (h1.low k hk'), h3, fun k d f hd hf => (h4 k d f hd hf).keep hs hk hK (fun v f h => DM.keep hs hk hK D v f h), h5⟩
theorem ddQ_x {l : List Tk} {B : Int → Int} {R : Int → Sl} {x : Int} {s : Tk} (h : tkA l x = some s) (e : tkN l x = s) : ddQ l B R x = (if tkN l x = setT then .set (tkN l (x + 1)) (smT l (x + 2)) else if tkN l x = cutT then .cut (tkN l (x + 1)) else if tkN l x = stopT then .stop
    else if tkN l x = ifT then .ifs (smT l (x + 1)) (R (smV l 2 (x + 1))) (R (B (smV l 2 (x + 1)))) else if tkN l x = whT then .whl (smT l (x + 1)) (R (smV l 2 (x + 1))) else .stop) := by rw [ddQ_some h, e]
/-- The contract of the reader's block. -/
def BlkC (w0 : World) (p : Nat) (l : List Tk) (D : Nat) (o : Int) (B : Int → Int) (R : Int → Sl) : Prop := ∀ (x : Int) (z : World), Sx w0 p l o x z →
  Calls Tryz.prog 120 #[.pointer (some ⟨p, 0, none⟩)] z fun e z' => ∃ a n c, e = .returned (.slice a n c) ∧ But p z z' ∧ Sx w0 p l o (B x) z' ∧ (B x ≠ -1 → DM w0 (z.heap.size ≤ ·) z' D (.slice a n c) (R x))
/-- The contract of the reader's deed. -/
def DeedC (w0 : World) (p : Nat) (l : List Tk) (D : Nat) (o : Int) (f : Int → Int) (R : Int → Sm) : Prop := ∀ (x : Int) (z : World), Sx w0 p l o x z →
  Calls Tryz.prog 106 #[.pointer (some ⟨p, 0, none⟩)] z fun e z' => ∃ d : Dv, e = .returned d.v ∧ But p z z' ∧ Sx w0 p l o (f x) z' ∧ (f x ≠ -1 → DdM w0 (z.heap.size ≤ ·) z' (DM w0 (z.heap.size ≤ ·) z' D) d (R x))
set_option maxHeartbeats 8000000 in
set_option maxRecDepth 100000 in
theorem deed_of {w0 : World} {p : Nat} {l : List Tk} {D : Nat} {o : Int} {B : Int → Int} {R : Int → Sl} (hL : Lib3 w0) (hB0 : B (-1) = -1) (hB : BlkC w0 p l D o B R) : DeedC w0 p l D o (ddG l B) (ddQ l B R) := by
  intro x w hs
  have hlo := hs.lo.1
  have hlt := hs.lo.2
  have HB := Lib.hid hB
  have HS := Lib.hid (fun (y : Int) (z : World) (kind : Int) (hk : kind ≠ 0) (h : Sx w0 p l o y z) => sum_x hL kind hk h)
  have H1 := Lib.hid (bel1 w (.cells #[.string ⟨#[]⟩, .string ⟨#[]⟩, .slice none 0 0, .slice none 0 0] 115))
  have HN := new_of w (.cells #[.string ⟨#[]⟩, .string ⟨#[]⟩, .slice none 0 0, .slice none 0 0] 115)
  have HT := Lib.hid (token_x (hs.next H1.out))
  have HBU := Lib.hid (But.of H1.out : But p w _)
  have HD := Lib.hid (ddX (l := l) (B := B) (x := x))
  have HQ := Lib.hid (fun s h e => ddQ_x (l := l) (B := B) (R := R) (x := x) (s := s) h e)
  have HTX := Lib.hid (fun h => tkX_neg (l := l) (x := x) h)
  clear hs hB hL
  generalize ddG l B x = rr at *
  generalize ddQ l B R x = rq at *
  generalize hx1 : tkX l x = x1 at *
  clear hx1
  generalize hq : w.heap.size = q at *
  have Q1 := Lib.hid (B4.of HN)
  have BL1 := Lib.hid (show Below q w _ from H1.out)
  clear HN H1
  go_enter Tryz.func106, Tryz.ntmps106
  go_wp2_with fail
  generalize w.alloc (.cells #[.string ⟨#[]⟩, .string ⟨#[]⟩, .slice none 0 0, .slice none 0 0] 115) = w1 at *
  have HQW := Lib.hid hq
  clear hq
  refine HT.out.mono ?_; rintro e w2 ⟨t, rfl, b2, r2, ht⟩
  have HTN := Lib.hid ht
  rw [← ht] at HD HQ HTX
  clear ht HT
  have Q2 := Lib.hid (Q1.out.but b2 (by omega))
  have BU2 := Lib.hid (HBU.out.trans b2)
  have hz2 : q < w2.heap.size := Q2.out.lt
  have R3 := Lib.hid (r2.next (bel1 w2 (.cells #[.string (tx t), .string ⟨#[]⟩, .slice none 0 0, .slice none 0 0] 115)))
  have Q3 := Lib.hid (Q2.out.next (bel1 w2 (.cells #[.string (tx t), .string ⟨#[]⟩, .slice none 0 0, .slice none 0 0] 115)))
  have D3 := Lib.hid (B4.of (new_of w2 (.cells #[.string (tx t), .string ⟨#[]⟩, .slice none 0 0, .slice none 0 0] 115)))
  have BU3 := Lib.hid (BU2.out.alloc (.cells #[.string (tx t), .string ⟨#[]⟩, .slice none 0 0, .slice none 0 0] 115))
  have R2 := Lib.hid r2
  clear r2 b2 Q1 HBU BL1
  have hrp : w2.heap.size ≠ p := by omega
  have hpr : p ≠ w2.heap.size := by omega
  have hqp : q ≠ p := by omega
  have hpq : p ≠ q := by omega
  have hqr : q ≠ w2.heap.size := by omega
  have hrb : w0.heap.size ≤ w2.heap.size := by omega
  have hqb : w0.heap.size ≤ q := by omega
  have hwq : w.heap.size ≤ q := by have := HQW.out; omega
  have hwr : w.heap.size ≤ w2.heap.size := by have := HQW.out; omega
  have hrz : w2.heap.size < _ := D3.out.lt
  by_cases b0 : t = setT
  · subst b0
    have qe : ((tx setT).toList == [115, 101, 116]) = true := tx_eqL _
    replace HD := Lib.hid (HD.out.trans (if_pos rfl))
    replace HQ := Lib.hid (fun s h e => (HQ.out s h e).trans (if_pos rfl))
    have d0 := D3.out.c0; have d1 := D3.out.c1; have d2 := D3.out.c2; have d3 := D3.out.c3
    have g0 := D3.out.f0; have g1 := D3.out.f1; have g2 := D3.out.f2; have g3 := D3.out.f3
    have e0 := Q3.out.c0; have e1 := Q3.out.c1; have e2 := Q3.out.c2; have e3 := Q3.out.c3
    have k0 := Q3.out.f0; have k1 := Q3.out.f1; have k2 := Q3.out.f2; have k3 := Q3.out.f3
    go_wp2_with fail
    generalize w2.heap.size = r at *
    generalize w2.alloc (.cells #[.string (tx setT), .string ⟨#[]⟩, .slice none 0 0, .slice none 0 0] 115) = w4 at *
    clear d0 d1 d2 d3 g0 g1 g2 g3 e0 e1 e2 e3 k0 k1 k2 k3
    have D4 := D3; have Q4 := Q3; have R4 := R3; have BU4 := BU3
    refine (name_x R4.out).mono ?_; rintro e w5 ⟨n5, rfl, b5, r5, hn5⟩
    have D5 := Lib.hid (D4.out.but b5 hrp)
    have Q5 := Lib.hid (Q4.out.but b5 hqp)
    have BU5 := Lib.hid (BU4.out.trans b5)
    have hz5 : w4.heap.size ≤ w5.heap.size := b5.size
    have hk5 := Lib.hid b5
    have R5 := Lib.hid r5; have HN5 := Lib.hid hn5; clear r5 hn5 b5
    have D6 := Lib.hid (D5.out.set1 (.string (tx n5)))
    have Q6 := Lib.hid (Q5.out.same (Below.heap_setCell w5 ⟨r, 1, none⟩ (.string (tx n5)) q hqr) (by rw [World.size_setCell]; exact Nat.le_refl _))
    have BU6 := Lib.hid (BU5.out.setNew (p := ⟨r, 1, none⟩) hwr (.string (tx n5)))
    have R6 := Lib.hid (R5.out.set (j := 1) hrb hpr (.string (tx n5)))
    have hs6 : (w5.setCell ⟨r, 1, none⟩ (.string (tx n5))).heap.size = w5.heap.size := World.size_setCell _ _ _
    have d0 := D5.out.c0; have d1 := D5.out.c1; have d2 := D5.out.c2; have d3 := D5.out.c3
    have g0 := D5.out.f0; have g1 := D5.out.f1; have g2 := D5.out.f2; have g3 := D5.out.f3
    have e0 := Q5.out.c0; have e1 := Q5.out.c1; have e2 := Q5.out.c2; have e3 := Q5.out.c3
    have k0 := Q5.out.f0; have k1 := Q5.out.f1; have k2 := Q5.out.f2; have k3 := Q5.out.f3
    go_wp2_with fail
    generalize (w5.setCell ⟨r, 1, none⟩ (.string (tx n5))) = w6 at *
    clear d0 d1 d2 d3 g0 g1 g2 g3 e0 e1 e2 e3 k0 k1 k2 k3
    refine (HS.out _ _ 1 (by decide) R6.out).mono ?_; rintro e w7 ⟨a7, n7, c7, rfl, b7, r7, m7⟩
    have D7 := Lib.hid (D6.out.but b7 hrp)
    have Q7 := Lib.hid (Q6.out.but b7 hqp)
    have BU7 := Lib.hid (BU6.out.trans b7)
    have hz7 : w6.heap.size ≤ w7.heap.size := b7.size
    have hk7 := Lib.hid b7
    have R7 := Lib.hid r7; have M7 := Lib.hid m7; clear r7 m7 b7
    have D8 := Lib.hid (D7.out.set2 (.slice a7 n7 c7))
    have Q8 := Lib.hid (Q7.out.same (Below.heap_setCell w7 ⟨r, 2, none⟩ (.slice a7 n7 c7) q hqr) (by rw [World.size_setCell]; exact Nat.le_refl _))
    have BU8 := Lib.hid (BU7.out.setNew (p := ⟨r, 2, none⟩) hwr (.slice a7 n7 c7))
    have R8 := Lib.hid (R7.out.set (j := 2) hrb hpr (.slice a7 n7 c7))
    have hs8 : (w7.setCell ⟨r, 2, none⟩ (.slice a7 n7 c7)).heap.size = w7.heap.size := World.size_setCell _ _ _
    have d0 := D7.out.c0; have d1 := D7.out.c1; have d2 := D7.out.c2; have d3 := D7.out.c3
    have g0 := D7.out.f0; have g1 := D7.out.f1; have g2 := D7.out.f2; have g3 := D7.out.f3
    have e0 := Q7.out.c0; have e1 := Q7.out.c1; have e2 := Q7.out.c2; have e3 := Q7.out.c3
    have k0 := Q7.out.f0; have k1 := Q7.out.f1; have k2 := Q7.out.f2; have k3 := Q7.out.f3
    have d0' := D8.out.c0; have d1' := D8.out.c1; have d2' := D8.out.c2; have d3' := D8.out.c3
    go_wp2_with fail
    refine bodyPost_ret (v := Dv.v ⟨setT, n5, a7, n7, c7, none, 0, 0⟩) (by simp [results, Tryz.results106, go_sem, Dv.v, put4_c0 Q8.out, put4_c1 Q8.out, put4_c2 Q8.out, put4_c3 Q8.out]) rfl ⟨⟨setT, n5, a7, n7, c7, none, 0, 0⟩, rfl, but_put4 BU8.out hwq _ _ _ _, (by rw [HD.out]; exact R8.out.put4 hqb hpq _ _ _ _), ?_⟩
    intro hn
    rw [HD.out] at hn
    have hy1 : nmX l x1 ≠ -1 := fun e => hn (by rw [e]; exact sm_neg1 l 1)
    have hx1 : x1 ≠ -1 := fun e => hy1 (by rw [e]; exact nmX_neg l)
    obtain ⟨e1, s, h1, h2⟩ := HTX.out hx1
    have e2 := nmX_ne hy1
    have m7 := M7.out hn
    rw [HQ.out s h1 h2, show x + 2 = nmX l x1 by omega, ← e1, ← HN5.out]
    exact ⟨rfl, rfl, m7.1, m7.2⟩
  replace HD := Lib.hid (HD.out.trans (if_neg b0))
  replace HQ := Lib.hid (fun s h e => (HQ.out s h e).trans (if_neg b0))
  by_cases b1 : t = cutT
  · subst b1
    have qe : ((tx cutT).toList == [99, 117, 116]) = true := tx_eqL _
    have q0 : ((tx cutT).toList == [115, 101, 116]) = false := by rw [Lib.toList_data, tx_data]; decide
    replace HD := Lib.hid (HD.out.trans (if_pos rfl))
    replace HQ := Lib.hid (fun s h e => (HQ.out s h e).trans (if_pos rfl))
    have d0 := D3.out.c0; have d1 := D3.out.c1; have d2 := D3.out.c2; have d3 := D3.out.c3
    have g0 := D3.out.f0; have g1 := D3.out.f1; have g2 := D3.out.f2; have g3 := D3.out.f3
    have e0 := Q3.out.c0; have e1 := Q3.out.c1; have e2 := Q3.out.c2; have e3 := Q3.out.c3
    have k0 := Q3.out.f0; have k1 := Q3.out.f1; have k2 := Q3.out.f2; have k3 := Q3.out.f3
    go_wp2_with fail
    generalize w2.heap.size = r at *
    generalize w2.alloc (.cells #[.string (tx cutT), .string ⟨#[]⟩, .slice none 0 0, .slice none 0 0] 115) = w4 at *
    clear d0 d1 d2 d3 g0 g1 g2 g3 e0 e1 e2 e3 k0 k1 k2 k3
    have D4 := D3; have Q4 := Q3; have R4 := R3; have BU4 := BU3
    refine (name_x R4.out).mono ?_; rintro e w5 ⟨n5, rfl, b5, r5, hn5⟩
    have D5 := Lib.hid (D4.out.but b5 hrp)
    have Q5 := Lib.hid (Q4.out.but b5 hqp)
    have BU5 := Lib.hid (BU4.out.trans b5)
    have hz5 : w4.heap.size ≤ w5.heap.size := b5.size
    have hk5 := Lib.hid b5
    have R5 := Lib.hid r5; have HN5 := Lib.hid hn5; clear r5 hn5 b5
    have D6 := Lib.hid (D5.out.set1 (.string (tx n5)))
    have Q6 := Lib.hid (Q5.out.same (Below.heap_setCell w5 ⟨r, 1, none⟩ (.string (tx n5)) q hqr) (by rw [World.size_setCell]; exact Nat.le_refl _))
    have BU6 := Lib.hid (BU5.out.setNew (p := ⟨r, 1, none⟩) hwr (.string (tx n5)))
    have R6 := Lib.hid (R5.out.set (j := 1) hrb hpr (.string (tx n5)))
    have hs6 : (w5.setCell ⟨r, 1, none⟩ (.string (tx n5))).heap.size = w5.heap.size := World.size_setCell _ _ _
    have d0 := D5.out.c0; have d1 := D5.out.c1; have d2 := D5.out.c2; have d3 := D5.out.c3
    have g0 := D5.out.f0; have g1 := D5.out.f1; have g2 := D5.out.f2; have g3 := D5.out.f3
    have e0 := Q5.out.c0; have e1 := Q5.out.c1; have e2 := Q5.out.c2; have e3 := Q5.out.c3
    have k0 := Q5.out.f0; have k1 := Q5.out.f1; have k2 := Q5.out.f2; have k3 := Q5.out.f3
    have d0' := D6.out.c0; have d1' := D6.out.c1; have d2' := D6.out.c2; have d3' := D6.out.c3
    go_wp2_with fail
    refine bodyPost_ret (v := Dv.v ⟨cutT, n5, none, 0, 0, none, 0, 0⟩) (by simp [results, Tryz.results106, go_sem, Dv.v, put4_c0 Q6.out, put4_c1 Q6.out, put4_c2 Q6.out, put4_c3 Q6.out]) rfl ⟨⟨cutT, n5, none, 0, 0, none, 0, 0⟩, rfl, but_put4 BU6.out hwq _ _ _ _, (by rw [HD.out]; exact R6.out.put4 hqb hpq _ _ _ _), ?_⟩
    intro hn
    rw [HD.out] at hn
    have hx1 : x1 ≠ -1 := fun e => hn (by rw [e]; exact nmX_neg l)
    obtain ⟨e1, s, h1, h2⟩ := HTX.out hx1
    rw [HQ.out s h1 h2, ← e1, ← HN5.out]
    exact ⟨rfl, rfl⟩
  replace HD := Lib.hid (HD.out.trans (if_neg b1))
  replace HQ := Lib.hid (fun s h e => (HQ.out s h e).trans (if_neg b1))
  by_cases b2 : t = stopT
  · subst b2
    have qe : ((tx stopT).toList == [115, 116, 111, 112]) = true := tx_eqL _
    have q0 : ((tx stopT).toList == [115, 101, 116]) = false := by rw [Lib.toList_data, tx_data]; decide
    have q1 : ((tx stopT).toList == [99, 117, 116]) = false := by rw [Lib.toList_data, tx_data]; decide
    replace HD := Lib.hid (HD.out.trans (if_pos rfl))
    replace HQ := Lib.hid (fun s h e => (HQ.out s h e).trans (if_pos rfl))
    have y0 := Q2.out.c0; have y1 := Q2.out.c1; have y2 := Q2.out.c2; have y3 := Q2.out.c3
    have z0 := Q2.out.f0; have z1 := Q2.out.f1; have z2 := Q2.out.f2; have z3 := Q2.out.f3
    clear Q3 D3 R3 BU3
    go_wp2_with fail
    refine bodyPost_ret (v := Dv.v ⟨stopT, [], none, 0, 0, none, 0, 0⟩) (by simp [results, Tryz.results106, go_sem, Dv.v, tx_nil, put4a_c0 Q2.out, put4a_c1 Q2.out, put4a_c2 Q2.out, put4a_c3 Q2.out]) rfl ⟨⟨stopT, [], none, 0, 0, none, 0, 0⟩, rfl, (but_put4 BU2.out hwq _ _ _ _).alloc _, (by rw [HD.out]; exact (R2.out.put4 hqb hpq _ _ _ _).next (bel1 _ _)), ?_⟩
    intro hn
    rw [HD.out] at hn
    obtain ⟨-, s, h1, h2⟩ := HTX.out hn
    rw [HQ.out s h1 h2]
    exact (rfl : _ = _)
  replace HD := Lib.hid (HD.out.trans (if_neg b2))
  replace HQ := Lib.hid (fun s h e => (HQ.out s h e).trans (if_neg b2))
  by_cases b3 : t = ifT
  · subst b3
    have qe : ((tx ifT).toList == [105, 102]) = true := tx_eqL _
    have q0 : ((tx ifT).toList == [115, 101, 116]) = false := by rw [Lib.toList_data, tx_data]; decide
    have q1 : ((tx ifT).toList == [99, 117, 116]) = false := by rw [Lib.toList_data, tx_data]; decide
    have q2 : ((tx ifT).toList == [115, 116, 111, 112]) = false := by rw [Lib.toList_data, tx_data]; decide
    replace HD := Lib.hid (HD.out.trans (if_pos rfl))
    replace HQ := Lib.hid (fun s h e => (HQ.out s h e).trans (if_pos rfl))
    have d0 := D3.out.c0; have d1 := D3.out.c1; have d2 := D3.out.c2; have d3 := D3.out.c3
    have g0 := D3.out.f0; have g1 := D3.out.f1; have g2 := D3.out.f2; have g3 := D3.out.f3
    have e0 := Q3.out.c0; have e1 := Q3.out.c1; have e2 := Q3.out.c2; have e3 := Q3.out.c3
    have k0 := Q3.out.f0; have k1 := Q3.out.f1; have k2 := Q3.out.f2; have k3 := Q3.out.f3
    go_wp2_with fail
    generalize w2.heap.size = r at *
    generalize w2.alloc (.cells #[.string (tx ifT), .string ⟨#[]⟩, .slice none 0 0, .slice none 0 0] 115) = w4 at *
    clear d0 d1 d2 d3 g0 g1 g2 g3 e0 e1 e2 e3 k0 k1 k2 k3
    have D4 := D3; have Q4 := Q3; have R4 := R3; have BU4 := BU3
    refine (HS.out _ _ 2 (by decide) R4.out).mono ?_; rintro e w5 ⟨a5, n5, c5, rfl, b5, r5, m5⟩
    have D5 := Lib.hid (D4.out.but b5 hrp)
    have Q5 := Lib.hid (Q4.out.but b5 hqp)
    have BU5 := Lib.hid (BU4.out.trans b5)
    have hz5 : w4.heap.size ≤ w5.heap.size := b5.size
    have hk5 := Lib.hid b5
    have R5 := Lib.hid r5; have M5 := Lib.hid m5; clear r5 m5 b5
    have D6 := Lib.hid (D5.out.set2 (.slice a5 n5 c5))
    have Q6 := Lib.hid (Q5.out.same (Below.heap_setCell w5 ⟨r, 2, none⟩ (.slice a5 n5 c5) q hqr) (by rw [World.size_setCell]; exact Nat.le_refl _))
    have BU6 := Lib.hid (BU5.out.setNew (p := ⟨r, 2, none⟩) hwr (.slice a5 n5 c5))
    have R6 := Lib.hid (R5.out.set (j := 2) hrb hpr (.slice a5 n5 c5))
    have hs6 : (w5.setCell ⟨r, 2, none⟩ (.slice a5 n5 c5)).heap.size = w5.heap.size := World.size_setCell _ _ _
    have d0 := D5.out.c0; have d1 := D5.out.c1; have d2 := D5.out.c2; have d3 := D5.out.c3
    have g0 := D5.out.f0; have g1 := D5.out.f1; have g2 := D5.out.f2; have g3 := D5.out.f3
    have e0 := Q5.out.c0; have e1 := Q5.out.c1; have e2 := Q5.out.c2; have e3 := Q5.out.c3
    have k0 := Q5.out.f0; have k1 := Q5.out.f1; have k2 := Q5.out.f2; have k3 := Q5.out.f3
    go_wp2_with fail
    generalize (w5.setCell ⟨r, 2, none⟩ (.slice a5 n5 c5)) = w6 at *
    clear d0 d1 d2 d3 g0 g1 g2 g3 e0 e1 e2 e3 k0 k1 k2 k3
    refine (HB.out _ _ R6.out).mono ?_; rintro e w7 ⟨a7, n7, c7, rfl, b7, r7, m7⟩
    have D7 := Lib.hid (D6.out.but b7 hrp)
    have Q7 := Lib.hid (Q6.out.but b7 hqp)
    have BU7 := Lib.hid (BU6.out.trans b7)
    have hz7 : w6.heap.size ≤ w7.heap.size := b7.size
    have hk7 := Lib.hid b7
    have R7 := Lib.hid r7; have M7 := Lib.hid m7; clear r7 m7 b7
    go_wp2_with fail
    refine (HB.out _ _ R7.out).mono ?_; rintro e w8 ⟨a8, n8, c8, rfl, b8, r8, m8⟩
    have D8 := Lib.hid (D7.out.but b8 hrp)
    have Q8 := Lib.hid (Q7.out.but b8 hqp)
    have BU8 := Lib.hid (BU7.out.trans b8)
    have hz8 : w7.heap.size ≤ w8.heap.size := b8.size
    have hk8 := Lib.hid b8
    have R8 := Lib.hid r8; have M8 := Lib.hid m8; clear r8 m8 b8
    have hbl := bel1 w8 (.cells #[.slice a7 n7 c7, .slice a8 n8 c8] 91)
    have D9 := Lib.hid (D8.out.next hbl)
    have Q9 := Lib.hid (Q8.out.next hbl)
    have R9 := Lib.hid (R8.out.next hbl)
    have BU9 := Lib.hid (BU8.out.alloc (.cells #[.slice a7 n7 c7, .slice a8 n8 c8] 91))
    have HN9 := Lib.hid (new_of w8 (.cells #[.slice a7 n7 c7, .slice a8 n8 c8] 91))
    have HL9 := Lib.hid hbl
    have hz9 : (w8.alloc (.cells #[.slice a7 n7 c7, .slice a8 n8 c8] 91)).heap.size = w8.heap.size + 1 := World.size_alloc _ _
    clear hbl
    generalize hs : w8.heap.size = s at *
    generalize hw9 : w8.alloc (.cells #[.slice a7 n7 c7, .slice a8 n8 c8] 91) = w9 at *
    have D10 := Lib.hid (D9.out.set3 (.slice (some ⟨s, 0, none⟩) 2 2))
    have Q10 := Lib.hid (Q9.out.same (Below.heap_setCell w9 ⟨r, 3, none⟩ (.slice (some ⟨s, 0, none⟩) 2 2) q hqr) (by rw [World.size_setCell]; exact Nat.le_refl _))
    have BU10 := Lib.hid (BU9.out.setNew (p := ⟨r, 3, none⟩) hwr (.slice (some ⟨s, 0, none⟩) 2 2))
    have R10 := Lib.hid (R9.out.set (j := 3) hrb hpr (.slice (some ⟨s, 0, none⟩) 2 2))
    have hs10 : (w9.setCell ⟨r, 3, none⟩ (.slice (some ⟨s, 0, none⟩) 2 2)).heap.size = w9.heap.size := World.size_setCell _ _ _
    have d0 := D9.out.c0; have d1 := D9.out.c1; have d2 := D9.out.c2; have d3 := D9.out.c3
    have g0 := D9.out.f0; have g1 := D9.out.f1; have g2 := D9.out.f2; have g3 := D9.out.f3
    have e0 := Q9.out.c0; have e1 := Q9.out.c1; have e2 := Q9.out.c2; have e3 := Q9.out.c3
    have k0 := Q9.out.f0; have k1 := Q9.out.f1; have k2 := Q9.out.f2; have k3 := Q9.out.f3
    have d0' := D10.out.c0; have d1' := D10.out.c1; have d2' := D10.out.c2; have d3' := D10.out.c3
    go_wp2_with fail
    refine bodyPost_ret (v := Dv.v ⟨ifT, [], a5, n5, c5, some ⟨s, 0, none⟩, 2, 2⟩) (by simp [results, Tryz.results106, go_sem, Dv.v, tx_nil, put4_c0 Q10.out, put4_c1 Q10.out, put4_c2 Q10.out, put4_c3 Q10.out]) rfl ⟨⟨ifT, [], a5, n5, c5, some ⟨s, 0, none⟩, 2, 2⟩, rfl, but_put4 BU10.out hwq _ _ _ _, (by rw [HD.out]; exact R10.out.put4 hqb hpq _ _ _ _), ?_⟩
    intro hn
    rw [HD.out] at hn
    have hy : B (smV l 2 x1) ≠ -1 := fun e => hn (by rw [e]; exact hB0)
    have hsm : smV l 2 x1 ≠ -1 := fun e => hy (by rw [e]; exact hB0)
    have hx1 : x1 ≠ -1 := fun e => hsm (by rw [e]; exact sm_neg1 l 2)
    obtain ⟨e1, s', h1, h2⟩ := HTX.out hx1
    rw [HQ.out s' h1 h2, ← e1]
    have m5 := M5.out hsm
    have m7 := M7.out hy
    have m8 := M8.out hn
    have key : ∀ W : World, (∀ g, g ≠ q → W.heap[g]? = (w9.setCell ⟨r, 3, none⟩ (.slice (some ⟨s, 0, none⟩) 2 2)).heap[g]?) → W.heap.size = (w9.setCell ⟨r, 3, none⟩ (.slice (some ⟨s, 0, none⟩) 2 2)).heap.size → DdM w0 (fun x => q ≤ x) W (DM w0 (fun x => q ≤ x) W D) ⟨ifT, [], a5, n5, c5, some ⟨s, 0, none⟩, 2, 2⟩ (.ifs (smT l x1) (R (smV l 2 x1)) (R (B (smV l 2 x1)))) := by
      intro W hW hZ
      have hz10 : W.heap.size = s + 1 := by rw [hZ, hs10, hz9]
      have hk0 : ∀ g, g ≠ q → g ≠ r → g < s → W.heap[g]? = w8.heap[g]? := fun g h1 h2 h3 => ((hW g h1).trans (Below.heap_setCell _ _ _ _ h2)).trans (HL9.out.block g h3)
      have hsr : s ≠ r := by omega
      have hsq : s ≠ q := by omega
      refine ⟨rfl, m5.1, m5.2, .slice a7 n7 c7, .slice a8 n8 c8, rfl, ?_, ?_, ?_, ?_⟩
      · exact v1_lit [.slice a7 n7 c7, .slice a8 n8 c8] (by simp) (by omega) (((hW s hsq).trans (Below.heap_setCell _ _ _ _ hsr)).trans HN9.out)
      · intro g o e
        cases e
        exact ⟨by show q ≤ s; omega, by omega⟩
      · exact DM.keep (by omega) (fun g h1 h2 => (hk0 g (by omega) (by omega) (by omega)).trans (hk8.out.block g h2 (by omega))) (fun g h _ => by show q ≤ g; omega) D _ _ m7
      · exact DM.keep (by omega) (fun g h1 h2 => hk0 g (by omega) (by omega) (by omega)) (fun g h _ => by show q ≤ g; omega) D _ _ m8
    exact key _ (fun g hg => put4_heap _ _ _ _ _ _ hg) (put4_size _ _ _ _ _ _)
  replace HD := Lib.hid (HD.out.trans (if_neg b3))
  replace HQ := Lib.hid (fun s h e => (HQ.out s h e).trans (if_neg b3))
  by_cases b4 : t = whT
  · subst b4
    have qe : ((tx whT).toList == [119, 104, 105, 108, 101]) = true := tx_eqL _
    have q0 : ((tx whT).toList == [115, 101, 116]) = false := by rw [Lib.toList_data, tx_data]; decide
    have q1 : ((tx whT).toList == [99, 117, 116]) = false := by rw [Lib.toList_data, tx_data]; decide
    have q2 : ((tx whT).toList == [115, 116, 111, 112]) = false := by rw [Lib.toList_data, tx_data]; decide
    have q3 : ((tx whT).toList == [105, 102]) = false := by rw [Lib.toList_data, tx_data]; decide
    replace HD := Lib.hid (HD.out.trans (if_pos rfl))
    replace HQ := Lib.hid (fun s h e => (HQ.out s h e).trans (if_pos rfl))
    have d0 := D3.out.c0; have d1 := D3.out.c1; have d2 := D3.out.c2; have d3 := D3.out.c3
    have g0 := D3.out.f0; have g1 := D3.out.f1; have g2 := D3.out.f2; have g3 := D3.out.f3
    have e0 := Q3.out.c0; have e1 := Q3.out.c1; have e2 := Q3.out.c2; have e3 := Q3.out.c3
    have k0 := Q3.out.f0; have k1 := Q3.out.f1; have k2 := Q3.out.f2; have k3 := Q3.out.f3
    go_wp2_with fail
    generalize w2.heap.size = r at *
    generalize w2.alloc (.cells #[.string (tx whT), .string ⟨#[]⟩, .slice none 0 0, .slice none 0 0] 115) = w4 at *
    clear d0 d1 d2 d3 g0 g1 g2 g3 e0 e1 e2 e3 k0 k1 k2 k3
    have D4 := D3; have Q4 := Q3; have R4 := R3; have BU4 := BU3
    refine (HS.out _ _ 2 (by decide) R4.out).mono ?_; rintro e w5 ⟨a5, n5, c5, rfl, b5, r5, m5⟩
    have D5 := Lib.hid (D4.out.but b5 hrp)
    have Q5 := Lib.hid (Q4.out.but b5 hqp)
    have BU5 := Lib.hid (BU4.out.trans b5)
    have hz5 : w4.heap.size ≤ w5.heap.size := b5.size
    have hk5 := Lib.hid b5
    have R5 := Lib.hid r5; have M5 := Lib.hid m5; clear r5 m5 b5
    have D6 := Lib.hid (D5.out.set2 (.slice a5 n5 c5))
    have Q6 := Lib.hid (Q5.out.same (Below.heap_setCell w5 ⟨r, 2, none⟩ (.slice a5 n5 c5) q hqr) (by rw [World.size_setCell]; exact Nat.le_refl _))
    have BU6 := Lib.hid (BU5.out.setNew (p := ⟨r, 2, none⟩) hwr (.slice a5 n5 c5))
    have R6 := Lib.hid (R5.out.set (j := 2) hrb hpr (.slice a5 n5 c5))
    have hs6 : (w5.setCell ⟨r, 2, none⟩ (.slice a5 n5 c5)).heap.size = w5.heap.size := World.size_setCell _ _ _
    have d0 := D5.out.c0; have d1 := D5.out.c1; have d2 := D5.out.c2; have d3 := D5.out.c3
    have g0 := D5.out.f0; have g1 := D5.out.f1; have g2 := D5.out.f2; have g3 := D5.out.f3
    have e0 := Q5.out.c0; have e1 := Q5.out.c1; have e2 := Q5.out.c2; have e3 := Q5.out.c3
    have k0 := Q5.out.f0; have k1 := Q5.out.f1; have k2 := Q5.out.f2; have k3 := Q5.out.f3
    go_wp2_with fail
    generalize (w5.setCell ⟨r, 2, none⟩ (.slice a5 n5 c5)) = w6 at *
    clear d0 d1 d2 d3 g0 g1 g2 g3 e0 e1 e2 e3 k0 k1 k2 k3
    refine (HB.out _ _ R6.out).mono ?_; rintro e w7 ⟨a7, n7, c7, rfl, b7, r7, m7⟩
    have D7 := Lib.hid (D6.out.but b7 hrp)
    have Q7 := Lib.hid (Q6.out.but b7 hqp)
    have BU7 := Lib.hid (BU6.out.trans b7)
    have hz7 : w6.heap.size ≤ w7.heap.size := b7.size
    have hk7 := Lib.hid b7
    have R7 := Lib.hid r7; have M7 := Lib.hid m7; clear r7 m7 b7
    have hbl := bel1 w7 (.cells #[.slice a7 n7 c7] 91)
    have D9 := Lib.hid (D7.out.next hbl)
    have Q9 := Lib.hid (Q7.out.next hbl)
    have R9 := Lib.hid (R7.out.next hbl)
    have BU9 := Lib.hid (BU7.out.alloc (.cells #[.slice a7 n7 c7] 91))
    have HN9 := Lib.hid (new_of w7 (.cells #[.slice a7 n7 c7] 91))
    have HL9 := Lib.hid hbl
    have hz9 : (w7.alloc (.cells #[.slice a7 n7 c7] 91)).heap.size = w7.heap.size + 1 := World.size_alloc _ _
    clear hbl
    generalize hs : w7.heap.size = s at *
    generalize hw9 : w7.alloc (.cells #[.slice a7 n7 c7] 91) = w9 at *
    have D10 := Lib.hid (D9.out.set3 (.slice (some ⟨s, 0, none⟩) 1 1))
    have Q10 := Lib.hid (Q9.out.same (Below.heap_setCell w9 ⟨r, 3, none⟩ (.slice (some ⟨s, 0, none⟩) 1 1) q hqr) (by rw [World.size_setCell]; exact Nat.le_refl _))
    have BU10 := Lib.hid (BU9.out.setNew (p := ⟨r, 3, none⟩) hwr (.slice (some ⟨s, 0, none⟩) 1 1))
    have R10 := Lib.hid (R9.out.set (j := 3) hrb hpr (.slice (some ⟨s, 0, none⟩) 1 1))
    have hs10 : (w9.setCell ⟨r, 3, none⟩ (.slice (some ⟨s, 0, none⟩) 1 1)).heap.size = w9.heap.size := World.size_setCell _ _ _
    have d0 := D9.out.c0; have d1 := D9.out.c1; have d2 := D9.out.c2; have d3 := D9.out.c3
    have g0 := D9.out.f0; have g1 := D9.out.f1; have g2 := D9.out.f2; have g3 := D9.out.f3
    have e0 := Q9.out.c0; have e1 := Q9.out.c1; have e2 := Q9.out.c2; have e3 := Q9.out.c3
    have k0 := Q9.out.f0; have k1 := Q9.out.f1; have k2 := Q9.out.f2; have k3 := Q9.out.f3
    have d0' := D10.out.c0; have d1' := D10.out.c1; have d2' := D10.out.c2; have d3' := D10.out.c3
    go_wp2_with fail
    refine bodyPost_ret (v := Dv.v ⟨whT, [], a5, n5, c5, some ⟨s, 0, none⟩, 1, 1⟩) (by simp [results, Tryz.results106, go_sem, Dv.v, tx_nil, put4_c0 Q10.out, put4_c1 Q10.out, put4_c2 Q10.out, put4_c3 Q10.out]) rfl ⟨⟨whT, [], a5, n5, c5, some ⟨s, 0, none⟩, 1, 1⟩, rfl, but_put4 BU10.out hwq _ _ _ _, (by rw [HD.out]; exact R10.out.put4 hqb hpq _ _ _ _), ?_⟩
    intro hn
    rw [HD.out] at hn
    have hy := hn
    have hsm : smV l 2 x1 ≠ -1 := fun e => hy (by rw [e]; exact hB0)
    have hx1 : x1 ≠ -1 := fun e => hsm (by rw [e]; exact sm_neg1 l 2)
    obtain ⟨e1, s', h1, h2⟩ := HTX.out hx1
    rw [HQ.out s' h1 h2, ← e1]
    have m5 := M5.out hsm
    have m7 := M7.out hy
    have key : ∀ W : World, (∀ g, g ≠ q → W.heap[g]? = (w9.setCell ⟨r, 3, none⟩ (.slice (some ⟨s, 0, none⟩) 1 1)).heap[g]?) → W.heap.size = (w9.setCell ⟨r, 3, none⟩ (.slice (some ⟨s, 0, none⟩) 1 1)).heap.size → DdM w0 (fun x => q ≤ x) W (DM w0 (fun x => q ≤ x) W D) ⟨whT, [], a5, n5, c5, some ⟨s, 0, none⟩, 1, 1⟩ (.whl (smT l x1) (R (smV l 2 x1))) := by
      intro W hW hZ
      have hz10 : W.heap.size = s + 1 := by rw [hZ, hs10, hz9]
      have hk0 : ∀ g, g ≠ q → g ≠ r → g < s → W.heap[g]? = w7.heap[g]? := fun g h1 h2 h3 => ((hW g h1).trans (Below.heap_setCell _ _ _ _ h2)).trans (HL9.out.block g h3)
      have hsr : s ≠ r := by omega
      have hsq : s ≠ q := by omega
      refine ⟨rfl, m5.1, m5.2, .slice a7 n7 c7, rfl, ?_, ?_, ?_⟩
      · exact v1_lit [.slice a7 n7 c7] (by simp) (by omega) (((hW s hsq).trans (Below.heap_setCell _ _ _ _ hsr)).trans HN9.out)
      · intro g o e
        cases e
        exact ⟨by show q ≤ s; omega, by omega⟩
      · exact DM.keep (by omega) (fun g h1 h2 => hk0 g (by omega) (by omega) (by omega)) (fun g h _ => by show q ≤ g; omega) D _ _ m7
    exact key _ (fun g hg => put4_heap _ _ _ _ _ _ hg) (put4_size _ _ _ _ _ _)
  replace HD := Lib.hid (HD.out.trans (if_neg b4))
  replace HQ := Lib.hid (fun s h e => (HQ.out s h e).trans (if_neg b4))
  have q0 : ((tx t).toList == [115, 101, 116]) = false := by rw [Lib.toList_data, tx_data, beq_eq_false_iff_ne]; exact b0
  have q1 : ((tx t).toList == [99, 117, 116]) = false := by rw [Lib.toList_data, tx_data, beq_eq_false_iff_ne]; exact b1
  have q2 : ((tx t).toList == [115, 116, 111, 112]) = false := by rw [Lib.toList_data, tx_data, beq_eq_false_iff_ne]; exact b2
  have q3 : ((tx t).toList == [105, 102]) = false := by rw [Lib.toList_data, tx_data, beq_eq_false_iff_ne]; exact b3
  have q4 : ((tx t).toList == [119, 104, 105, 108, 101]) = false := by rw [Lib.toList_data, tx_data, beq_eq_false_iff_ne]; exact b4
  have d0 := D3.out.c0; have d1 := D3.out.c1; have d2 := D3.out.c2; have d3 := D3.out.c3
  have g0 := D3.out.f0; have g1 := D3.out.f1; have g2 := D3.out.f2; have g3 := D3.out.f3
  have e0 := Q3.out.c0; have e1 := Q3.out.c1; have e2 := Q3.out.c2; have e3 := Q3.out.c3
  have k0 := Q3.out.f0; have k1 := Q3.out.f1; have k2 := Q3.out.f2; have k3 := Q3.out.f3
  go_wp2_with fail
  generalize w2.heap.size = r at *
  generalize w2.alloc (.cells #[.string (tx t), .string ⟨#[]⟩, .slice none 0 0, .slice none 0 0] 115) = w4 at *
  clear d0 d1 d2 d3 g0 g1 g2 g3 e0 e1 e2 e3 k0 k1 k2 k3
  have D4 := D3; have Q4 := Q3; have R4 := R3; have BU4 := BU3
  refine (require_x R4.out false).mono ?_; rintro e w5 ⟨rfl, b5, r5⟩
  have D5 := Lib.hid (D4.out.but b5 hrp)
  have Q5 := Lib.hid (Q4.out.but b5 hqp)
  have BU5 := Lib.hid (BU4.out.trans b5)
  have hz5 : w4.heap.size ≤ w5.heap.size := b5.size
  have hk5 := Lib.hid b5
  have R5 := Lib.hid r5; clear r5 b5
  have d0 := D5.out.c0; have d1 := D5.out.c1; have d2 := D5.out.c2; have d3 := D5.out.c3
  have g0 := D5.out.f0; have g1 := D5.out.f1; have g2 := D5.out.f2; have g3 := D5.out.f3
  have e0 := Q5.out.c0; have e1 := Q5.out.c1; have e2 := Q5.out.c2; have e3 := Q5.out.c3
  have k0 := Q5.out.f0; have k1 := Q5.out.f1; have k2 := Q5.out.f2; have k3 := Q5.out.f3
  go_wp2_with fail
  refine bodyPost_ret (v := Dv.v ⟨t, [], none, 0, 0, none, 0, 0⟩) (by simp [results, Tryz.results106, go_sem, Dv.v, tx_nil, put4_c0 Q5.out, put4_c1 Q5.out, put4_c2 Q5.out, put4_c3 Q5.out]) rfl ⟨⟨t, [], none, 0, 0, none, 0, 0⟩, rfl, but_put4 BU5.out hwq _ _ _ _, (by rw [HD.out]; exact R5.out.put4 hqb hpq _ _ _ _), ?_⟩
  exact fun hn => absurd HD.out hn
/-- The contract of the reader's deeds. -/
def DdsC (w0 : World) (p : Nat) (l : List Tk) (D : Nat) (o : Int) (f : Int → Int) (R : Int → Sm) : Prop := ∀ (x : Int) (z : World), Sx w0 p l o x z →
  Calls Tryz.prog 93 #[.pointer (some ⟨p, 0, none⟩)] z fun e z' => ∃ a n c, e = .returned (.slice a n c) ∧ But p z z' ∧ Sx w0 p l o (dlE l f (l.length + 1) x) z' ∧ (dlE l f (l.length + 1) x ≠ -1 → DM w0 (z.heap.size ≤ ·) z' (D + 1) (.slice a n c) (dlR l f R (l.length + 1) x))
/-- Statements read so far. -/
def DsI (w0 : World) (p : Nat) (l : List Tk) (D : Nat) (o : Int) (f : Int → Int) (R : Int → Sm) (z : World) (j : Int) (F : Sl) (k : Nat) (v : Value) (wr : World) : Prop :=
  ∃ (x : Int) (ds : List Dv) (fs : List Sm), Sx w0 p l o x wr ∧ But p z wr ∧ OwD z.heap.size wr v ds ∧ (x = -1 ∨ (l.length : Int) - x < k) ∧ j = dlE l f k x ∧ (x ≠ -1 → (ds.length : Int) ≤ x ∧ ds.length = fs.length ∧ F = preS fs (dlR l f R k x) ∧
    ∀ (i : Nat) (d : Dv) (g : Sm), ds[i]? = some d → fs[i]? = some g → DdM w0 (Kv z.heap.size v) wr (DM w0 (Kv z.heap.size v) wr D) d g)
theorem DsI.done {w0 : World} {p : Nat} {l : List Tk} {D : Nat} {o : Int} {f : Int → Int} {R : Int → Sm} {z : World} {j : Int} {F : Sl} {k : Nat} {v : Value} {wr : World} {x : Int} {ds : List Dv} {fs : List Sm}
    (ho : OwD z.heap.size wr v ds) (hx : x ≠ -1) (hk : (l.length : Int) - x < k) (hl : x ≤ l.length) (hc : tkA l x = none ∨ tkA l x = some [93])
    (h : (ds.length : Int) ≤ x ∧ ds.length = fs.length ∧ F = preS fs (dlR l f R k x) ∧ ∀ (i : Nat) (d : Dv) (g : Sm), ds[i]? = some d → fs[i]? = some g → DdM w0 (Kv z.heap.size v) wr (DM w0 (Kv z.heap.size v) wr D) d g) :
    dlE l f k x = x ∧ DM w0 (z.heap.size ≤ ·) wr (D + 1) v F := by
  obtain ⟨k, rfl⟩ : ∃ k', k = k' + 1 := ⟨k - 1, by omega⟩
  obtain ⟨-, h2, h3, h4⟩ := h
  have e1 : dlE l f (k + 1) x = x := by
    rw [dlE]
    rcases hc with hc | hc
    · rw [hc]
    · rw [hc]; exact if_pos rfl
  have e2 : dlR l f R (k + 1) x = .nil := by
    rw [dlR]
    rcases hc with hc | hc
    · rw [hc]
    · rw [hc]; exact if_pos rfl
  rw [e2] at h3
  refine ⟨e1, ds, fs, ho.mono fun _ _ => Nat.zero_le _, ho.lt, h2, fun i d g hd hg => ?_, h3⟩
  exact (h4 i d g hd hg).keep (Nat.le_refl _) (fun _ _ _ => rfl) (fun g h _ => h.1) (fun v f h => DM.keep (Nat.le_refl _) (fun _ _ _ => rfl) (fun g h _ => h.1) D v f h)
theorem DsI.step {w0 : World} {p : Nat} {l : List Tk} {D : Nat} {o : Int} {f : Int → Int} {R : Int → Sm} {z : World} {j : Int} {F : Sl} {k : Nat} {v v3 : Value} {wr w1 w2 w3 : World} {x : Int} {ds : List Dv} {fs : List Sm} {d : Dv} {s : Tk}
    (hA : ∀ i, Ahd l i (f i)) (hp : p < z.heap.size) (hb : But p z wr) (ho : OwD z.heap.size wr v ds) (hx : x ≠ -1) (hk : (l.length : Int) - x < (k + 1 : Nat)) (hj : j = dlE l f (k + 1) x) (hs : tkA l x = some s) (hne : s ≠ [93])
    (h : (ds.length : Int) ≤ x ∧ ds.length = fs.length ∧ F = preS fs (dlR l f R (k + 1) x) ∧ ∀ (i : Nat) (d : Dv) (g : Sm), ds[i]? = some d → fs[i]? = some g → DdM w0 (Kv z.heap.size v) wr (DM w0 (Kv z.heap.size v) wr D) d g)
    (b1 : But p wr w1) (hd : f x ≠ -1 → DdM w0 (wr.heap.size ≤ ·) w1 (DM w0 (wr.heap.size ≤ ·) w1 D) d (R x)) (b2 : Below w1.heap.size w1 w2) (hlt : w1.heap.size ≤ w2.heap.size) (g3 : w2.grownBy w3 v.ownBlock) (n3 : v3.ownBlock = v.ownBlock ∨ v3.ownBlock = some w2.heap.size) (o3 : OwD z.heap.size w3 v3 (ds ++ [d])) (hsx : Sx w0 p l o (f x) w3) :
    DsI w0 p l D o f R z j F k v3 w3 := by
  have e1 : dlE l f (k + 1) x = dlE l f k (f x) := by rw [dlE, hs]; exact if_neg hne
  have e2 : dlR l f R (k + 1) x = .cons (R x) (dlR l f R k (f x)) := by rw [dlR, hs]; exact if_neg hne
  obtain ⟨h1, h2, h3, h4⟩ := h
  have ha := hA x
  unfold Ahd at ha
  have hz := hb.size
  have hz1 := b1.size
  have hz3 := g3.size
  have hvlo : ∀ g, v.ownBlock = some g → z.heap.size ≤ g := ho.lt
  have hvhi : ∀ g, v.ownBlock = some g → g < wr.heap.size := ho.low
  refine ⟨f x, ds ++ [d], fs ++ [R x], hsx, ?_, o3, ?_, hj.trans e1, fun hn => ?_⟩
  · refine ⟨(g3.os.trans (b2.os.trans b1.os)).trans hb.os, (g3.tape.trans (b2.tape.trans b1.tape)).trans hb.tape, (g3.output.trans (b2.output.trans b1.output)).trans hb.output, by omega, fun g hg hne => ?_⟩
    exact ((g3.block g (by omega) (fun e => by have := hvlo g e.symm; omega)).trans (b2.block g (by omega))).trans ((b1.block g (by omega) hne).trans (hb.block g hg hne))
  · by_cases e : f x = -1
    · exact Or.inl e
    · right; omega
  · refine ⟨by rw [List.length_append]; simp; omega, by rw [List.length_append, List.length_append, h2]; rfl, by rw [h3, e2, preS_snoc], fun i d' g hd' hg' => ?_⟩
    have hv3 : ∀ g, g < w1.heap.size → v.ownBlock ≠ some g → v3.ownBlock ≠ some g := fun g hg hne e => by
      rcases n3 with n3 | n3
      · exact hne (n3.symm.trans e)
      · rw [n3] at e; cases e; omega
    rcases Nat.lt_or_ge i ds.length with hi | hi
    · rw [List.getElem?_append_left hi] at hd'
      rw [List.getElem?_append_left (by omega)] at hg'
      have hk1 : ∀ g, Kv z.heap.size v g → g < wr.heap.size → w3.heap[g]? = wr.heap[g]? := fun g hK hg =>
        ((g3.block g (by omega) (fun e => hK.2 e.symm)).trans (b2.block g (by omega))).trans (b1.block g hg (by have := hK.1; omega))
      have hk2 : ∀ g, Kv z.heap.size v g → g < wr.heap.size → Kv z.heap.size v3 g := fun g hK hg => ⟨hK.1, hv3 g (by omega) hK.2⟩
      exact (h4 i d' g hd' hg').keep (by omega) hk1 hk2 (fun v f h => DM.keep (by omega) hk1 hk2 D v f h)
    · rw [List.getElem?_append_right hi] at hd'
      rw [List.getElem?_append_right (by omega)] at hg'
      have hi0 : i - ds.length = 0 := by
        have := (List.getElem?_eq_some_iff.1 hd').1
        simp at this; omega
      rw [hi0] at hd'
      rw [← h2, hi0] at hg'
      simp at hd' hg'
      subst hd'; subst hg'
      have hne : ∀ g, wr.heap.size ≤ g → v.ownBlock ≠ some g := fun g hg e => by have := hvhi g e; omega
      have hk1 : ∀ g, wr.heap.size ≤ g → g < w1.heap.size → w3.heap[g]? = w1.heap[g]? := fun g hK hg => (g3.block g (by omega) (fun e => hne g hK e.symm)).trans (b2.block g hg)
      have hk2 : ∀ g, wr.heap.size ≤ g → g < w1.heap.size → Kv z.heap.size v3 g := fun g hK hg => ⟨by omega, hv3 g hg (hne g hK)⟩
      exact (hd hn).keep (by omega) hk1 hk2 (fun v f h => DM.keep (by omega) hk1 hk2 D v f h)
set_option maxHeartbeats 8000000 in
set_option maxRecDepth 100000 in
theorem deeds_of {w0 : World} {p : Nat} {l : List Tk} {D : Nat} {o : Int} {f : Int → Int} {R : Int → Sm} (hll : l.length ≤ 4194304) (hA : ∀ i, Ahd l i (f i)) (hC : DeedC w0 p l D o f R) : DdsC w0 p l D o f R := by
  intro x0 z hs
  have HC := Lib.hid hC
  have HA := Lib.hid hA
  have hp := hs.lo.2
  have hplo := hs.lo.1
  have HS := Lib.hid hs
  have HX0 := Lib.hid (show x0 = -1 ∨ (0 ≤ x0 ∧ x0 ≤ l.length) from by
    rcases hs with ⟨e, -⟩ | ⟨-, h0, h1, -⟩
    · exact Or.inl e
    · exact Or.inr ⟨h0, h1⟩)
  clear hs hC hA
  have HJ := Lib.hid (show dlE l f (l.length + 1) x0 = dlE l f (l.length + 1) x0 from rfl)
  have HF := Lib.hid (show dlR l f R (l.length + 1) x0 = dlR l f R (l.length + 1) x0 from rfl)
  have HN1 := Lib.hid (show x0 = -1 → dlE l f (l.length + 1) x0 = -1 from fun e => by rw [e]; exact dlE_neg _ _ _ (by omega))
  obtain ⟨j, hj⟩ : ∃ j, dlE l f (l.length + 1) x0 = j := ⟨_, rfl⟩
  obtain ⟨F, hF⟩ : ∃ F, dlR l f R (l.length + 1) x0 = F := ⟨_, rfl⟩
  rw [hj, hF]
  have H0 := Lib.hid (show DsI w0 p l D o f R z j F (l.length + 1) (.slice none 0 0) z from
    ⟨x0, [], [], HS.out, But.refl _ _, OwD.nothing _ _, (by have := HX0.out; omega), hj.symm, fun hn => ⟨by have := HX0.out; simp; omega, rfl, hF.symm, fun i d g hd => by simp at hd⟩⟩)
  clear hj hF HJ HF HN1 HX0 HS
  go_enter Tryz.func93, Tryz.ntmps93
  go_wp2_with fail
  go_loopg [3] (l.length + 1) (fun k v wr => DsI w0 p l D o f R z j F k v wr)
  case atStart => exact H0.out
  case round =>
    clear H0
    obtain ⟨x, ds, fs, hsx, hb, ho, hk, hj, hm⟩ := hrel
    obtain ⟨va, vc, rfl, -, -⟩ := ho.form
    have HO := Lib.hid ho
    have HB := Lib.hid hb
    have HJ := Lib.hid hj
    have HM := Lib.hid hm
    have HSX := Lib.hid hsx
    clear hb hj hm ho
    generalize hdl : ds.length = dl at *
    rcases hsx with ⟨e, lf, r⟩ | ⟨e, h0, h1, r⟩
    · have c2 := r.c2
      clear r
      go_wp2_with fail
      go_ret
      subst e
      have hjj : j = -1 := HJ.out.trans (dlE_neg _ _ _ (by omega))
      exact ⟨_, _, _, rfl, HB.out, by rw [hjj]; exact HSX.out, fun hn => absurd hjj hn⟩
    · have c2 := r.c2
      have hkk : (l.length : Int) - x < (gk : Nat) := by omega
      obtain ⟨a, cap, c0, hv⟩ := r.vw
      have hvl := hv.below r.bel
      clear r hv
      have HM' := Lib.hid (HM.out e)
      cases hs : tkA l x with
      | none =>
        rw [drop_no h0 hs] at c0
        replace c0 : wr.cell? ⟨p, 0, none⟩ = some (.slice a 0 cap) := c0
        clear hvl
        go_wp2_with fail
        go_ret
        obtain ⟨e1, e2⟩ := DsI.done (R := R) (o := o) (p := p) (j := j) HO.out e hkk h1 (Or.inl hs) (by rw [hdl]; exact HM'.out)
        have hjj : j = x := HJ.out.trans e1
        exact ⟨_, _, _, rfl, HB.out, by rw [hjj]; exact HSX.out, fun _ => e2⟩
      | some s =>
        rw [drop_tk hs] at c0 hvl
        obtain ⟨n, hn⟩ : ∃ n, (l.drop (x + 1).toNat).length = n := ⟨_, rfl⟩
        rw [List.length_cons, hn] at c0
        obtain ⟨g, q, rfl, hg, x0'⟩ := hvl.tx (l := s :: l.drop (x + 1).toNat) (k := 0) rfl
        rw [Nat.add_zero] at x0'
        clear hvl hn
        have t0 : decide ((0 : Int) < ((n + 1 : Nat) : Int)) = true := by simp
        have t1 : (0 : Int) < ((n + 1 : Nat) : Int) := by omega
        by_cases hb : s = [93]
        · subst hb
          have qe : ((tx [93]).toList == [93]) = true := tx_eqL _
          go_wp2_with fail
          go_ret
          obtain ⟨e1, e2⟩ := DsI.done (R := R) (o := o) (p := p) (j := j) HO.out e hkk h1 (Or.inr hs) (by rw [hdl]; exact HM'.out)
          have hjj : j = x := HJ.out.trans e1
          exact ⟨_, _, _, rfl, HB.out, by rw [hjj]; exact HSX.out, fun _ => e2⟩
        · have qe : ((tx s).toList == [93]) = false := by rw [Lib.toList_data, tx_data, beq_eq_false_iff_ne]; exact hb
          have HD := Lib.hid (HC.out x wr HSX.out)
          have HTS := Lib.hid hs
          obtain ⟨k, rfl⟩ : ∃ k', gk = k' + 1 := ⟨gk - 1, by omega⟩
          clear hg hs
          go_wp2_with fail
          refine HD.out.mono ?_; rintro e w1 ⟨d, rfl, b1, r1, m1⟩
          have B1 := Lib.hid b1
          have M1 := Lib.hid m1
          have R1 := Lib.hid r1
          have BO := Lib.hid (HB.out.trans b1)
          have O1 := Lib.hid (HO.out.same (fun g hg => b1.block g (HO.out.low g hg) (by have := HO.out.lt g hg; omega)))
          clear b1 m1 r1
          have VL := Lib.hid (litD w1 d)
          have hbl := bel1 w1 (.cells #[.string (tx d.h), .string (tx d.n), .slice d.sa d.sn d.sc, .slice d.ba d.bn d.bc] 115)
          have O2 := Lib.hid (O1.out.same (fun g hg => hbl.block g (O1.out.low g hg)))
          have R2 := Lib.hid (R1.out.next hbl)
          have BL2 := Lib.hid hbl
          have hz2 := hbl.size
          have hzz : z.heap.size ≤ (w1.alloc (.cells #[.string (tx d.h), .string (tx d.n), .slice d.sa d.sn d.sc, .slice d.ba d.bn d.bc] 115)).heap.size := by have := BO.out.size; omega
          have hdm : ds.length ≤ 4194304 := by have := HM'.out.1; omega
          clear hbl
          unfold Dv.v
          go_wp2_with (first
            | (at_builtin; refine append_deeds rfl (.tmp 26) (.tmp 29) rfl (base := z.heap.size) (l := ds) (m := [d]) rfl rfl rfl O2.out VL.out (by simp; omega) hzz ?_; intro v3 w3 o3 g3 n3; have G3 := Lib.hid (And.intro o3 (And.intro g3 n3)); clear o3 g3 n3)
            | fail)
          go_roundg k
          case measure => omega
          case rel =>
            obtain ⟨o3, g3, n3⟩ := G3.out
            exact DsI.step HA.out hp HB.out HO.out e hkk HJ.out HTS.out hb (by rw [hdl]; exact HM'.out) B1.out M1.out BL2.out hz2 g3 n3 o3 (R2.out.grown g3 (fun g hg => ⟨by have := O2.out.lt g hg; omega, by have := O2.out.lt g hg; omega⟩))
theorem blR_y {l : List Tk} {f : Int → Int} {R : Int → Sm} {x y : Int} (hy : y = if tkN l x = [91] then tkX l x else -1) (h : y ≠ -1) : blR l f R x = dlR l f R (l.length + 1) y := by
  split at hy
  · rename_i e
    have e1 := (tkN_is (by simp)).1 e
    have e2 : tkX l x = x + 1 := by unfold tkX; rw [if_neg (by rw [e1]; simp)]
    rw [hy, e2]; rfl
  · exact absurd hy h
set_option maxHeartbeats 8000000 in
set_option maxRecDepth 100000 in
theorem block_core {w0 : World} {p : Nat} {l : List Tk} {D : Nat} {o x y J : Int} {F : Sl} {z : World} (hs : Sx w0 p l o x z) (ho : -1000 ≤ o ∧ o ≤ 1000) (hy : y = if tkN l x = [91] then (if o + 1 ≤ 5 then tkX l x else -1) else -1)
    (hD : ∀ z, Sx w0 p l (o + 1) y z → Calls Tryz.prog 93 #[.pointer (some ⟨p, 0, none⟩)] z fun e z' => ∃ a n c, e = .returned (.slice a n c) ∧ But p z z' ∧ Sx w0 p l (o + 1) J z' ∧ (J ≠ -1 → DM w0 (z.heap.size ≤ ·) z' D (.slice a n c) F)) :
    Calls Tryz.prog 120 #[.pointer (some ⟨p, 0, none⟩)] z fun e z' => ∃ a n c, e = .returned (.slice a n c) ∧ But p z z' ∧ Sx w0 p l o (if tkN l J = [93] then tkX l J else -1) z' ∧ (J ≠ -1 → DM w0 (z.heap.size ≤ ·) z' D (.slice a n c) F) := by
  have HD := Lib.hid hD; clear hD
  have hp := hs.lo.2
  have c1 := hs.c1
  have f1 := hs.f1
  have i1 : IntKind.i64.wrap (o + 1) = o + 1 := by rw [IntKind.wrap_i64]; omega
  have i2 : IntKind.i64.wrap (o + 1 - 1) = o := by rw [IntKind.wrap_i64]; omega
  have HT := Lib.hid (token_x (hs.open (o + 1)))
  have BU1 := Lib.hid (but_set z p 1 (.int .i64 (o + 1)))
  have HY := Lib.hid hy
  clear hs hy
  obtain ⟨zz, hzz⟩ : ∃ zz, (if tkN l J = [93] then tkX l J else -1) = zz := ⟨_, rfl⟩
  rw [hzz]
  have HZ := Lib.hid hzz
  clear hzz
  generalize hx1 : tkX l x = x1 at *
  clear hx1
  go_enter Tryz.func120, Tryz.ntmps120
  go_wp2_with fail
  generalize z.setCell ⟨p, 1, none⟩ (.int .i64 (o + 1)) = w1 at *
  clear c1 f1
  refine HT.out.mono ?_; rintro e w2 ⟨t, rfl, b2, r2, ht⟩
  have BU2 := Lib.hid (BU1.out.trans b2)
  have R2 := Lib.hid r2
  rw [← ht] at HY
  have c2 := r2.c1
  clear b2 r2 ht HT
  by_cases h91 : t = [91]
  · subst h91
    have qe : ((tx [91]).toList == [91]) = true := tx_eqL _
    by_cases ho5 : o + 1 ≤ 5
    · have q5 : decide (o + 1 ≤ 5) = true := by simpa using ho5
      have hq0 : True := trivial
      go_wp2_with fail
      have HY' := Lib.hid (show y = (if (true : Bool) then x1 else -1) from by rw [HY.out]; simp [ho5])
      refine (require_x R2.out true).mono ?_; rintro e w3 ⟨rfl, b3, r3⟩
      rw [← HY'.out] at r3
      have BU3 := Lib.hid (BU2.out.trans b3)
      have R3 := Lib.hid r3
      clear b3 r3
      go_wp2_with fail
      refine (HD.out w3 R3.out).mono ?_; rintro e w4 ⟨a4, n4, cc4, rfl, b4, r4, m4⟩
      have BU4 := Lib.hid (BU3.out.trans b4)
      have R4 := Lib.hid r4
      have M4 := Lib.hid m4
      have hz3 : z.heap.size ≤ w3.heap.size := BU3.out.size
      clear b4 r4 m4
      go_wp2_with fail
      refine (token_x R4.out).mono ?_; rintro e w5 ⟨t5, rfl, b5, r5, ht5⟩
      have BU5 := Lib.hid (BU4.out.trans b5)
      have R5 := Lib.hid r5
      have B5 := Lib.hid b5
      have HT5 := Lib.hid ht5
      clear b5 r5 ht5
      by_cases h93 : t5 = [93]
      · subst h93
        have qe5 : ((tx [93]).toList == [93]) = true := tx_eqL _
        go_wp2_with fail
        refine (require_x R5.out true).mono ?_; rintro e w6 ⟨rfl, b6, r6⟩
        have BU6 := Lib.hid (BU5.out.trans b6)
        have B6 := Lib.hid (B5.out.trans b6)
        have R6 := Lib.hid (r6.open o)
        have c6 := r6.c1
        have f6 := r6.f1
        clear b6 r6
        go_wp2_with fail
        go_ret
        refine ⟨a4, n4, cc4, rfl, BU6.out.trans (but_set w6 p 1 _), ?_, fun hn => ?_⟩
        · rw [← HZ.out, ← HT5.out, if_pos rfl]; exact R6.out
        · have hbb := B6.out.trans (but_set w6 p 1 (.int .i64 o))
          exact DM.keep hbb.size (fun g h1 h2 => hbb.block g h2 (by have := BU3.out.size; omega)) (fun g h1 h2 => by show z.heap.size ≤ g; omega) D _ _ (M4.out hn)
      · have qe5 : ((tx t5).toList == [93]) = false := by rw [Lib.toList_data, tx_data, beq_eq_false_iff_ne]; exact h93
        go_wp2_with fail
        refine (require_x R5.out false).mono ?_; rintro e w6 ⟨rfl, b6, r6⟩
        have BU6 := Lib.hid (BU5.out.trans b6)
        have B6 := Lib.hid (B5.out.trans b6)
        have R6 := Lib.hid (r6.open o)
        have c6 := r6.c1
        have f6 := r6.f1
        clear b6 r6
        go_wp2_with fail
        go_ret
        refine ⟨a4, n4, cc4, rfl, BU6.out.trans (but_set w6 p 1 _), ?_, fun hn => ?_⟩
        · rw [← HZ.out, ← HT5.out, if_neg h93]; exact R6.out
        · have hbb := B6.out.trans (but_set w6 p 1 (.int .i64 o))
          exact DM.keep hbb.size (fun g h1 h2 => hbb.block g h2 (by have := BU3.out.size; omega)) (fun g h1 h2 => by show z.heap.size ≤ g; omega) D _ _ (M4.out hn)
    · have q5 : decide (o + 1 ≤ 5) = false := by simpa using ho5
      have hq0 : True := trivial
      go_wp2_with fail
      have HY' := Lib.hid (show y = (if (false : Bool) then x1 else -1) from by rw [HY.out]; simp; omega)
      refine (require_x R2.out false).mono ?_; rintro e w3 ⟨rfl, b3, r3⟩
      rw [← HY'.out] at r3
      have BU3 := Lib.hid (BU2.out.trans b3)
      have R3 := Lib.hid r3
      clear b3 r3
      go_wp2_with fail
      refine (HD.out w3 R3.out).mono ?_; rintro e w4 ⟨a4, n4, cc4, rfl, b4, r4, m4⟩
      have BU4 := Lib.hid (BU3.out.trans b4)
      have R4 := Lib.hid r4
      have M4 := Lib.hid m4
      have hz3 : z.heap.size ≤ w3.heap.size := BU3.out.size
      clear b4 r4 m4
      go_wp2_with fail
      refine (token_x R4.out).mono ?_; rintro e w5 ⟨t5, rfl, b5, r5, ht5⟩
      have BU5 := Lib.hid (BU4.out.trans b5)
      have R5 := Lib.hid r5
      have B5 := Lib.hid b5
      have HT5 := Lib.hid ht5
      clear b5 r5 ht5
      by_cases h93 : t5 = [93]
      · subst h93
        have qe5 : ((tx [93]).toList == [93]) = true := tx_eqL _
        go_wp2_with fail
        refine (require_x R5.out true).mono ?_; rintro e w6 ⟨rfl, b6, r6⟩
        have BU6 := Lib.hid (BU5.out.trans b6)
        have B6 := Lib.hid (B5.out.trans b6)
        have R6 := Lib.hid (r6.open o)
        have c6 := r6.c1
        have f6 := r6.f1
        clear b6 r6
        go_wp2_with fail
        go_ret
        refine ⟨a4, n4, cc4, rfl, BU6.out.trans (but_set w6 p 1 _), ?_, fun hn => ?_⟩
        · rw [← HZ.out, ← HT5.out, if_pos rfl]; exact R6.out
        · have hbb := B6.out.trans (but_set w6 p 1 (.int .i64 o))
          exact DM.keep hbb.size (fun g h1 h2 => hbb.block g h2 (by have := BU3.out.size; omega)) (fun g h1 h2 => by show z.heap.size ≤ g; omega) D _ _ (M4.out hn)
      · have qe5 : ((tx t5).toList == [93]) = false := by rw [Lib.toList_data, tx_data, beq_eq_false_iff_ne]; exact h93
        go_wp2_with fail
        refine (require_x R5.out false).mono ?_; rintro e w6 ⟨rfl, b6, r6⟩
        have BU6 := Lib.hid (BU5.out.trans b6)
        have B6 := Lib.hid (B5.out.trans b6)
        have R6 := Lib.hid (r6.open o)
        have c6 := r6.c1
        have f6 := r6.f1
        clear b6 r6
        go_wp2_with fail
        go_ret
        refine ⟨a4, n4, cc4, rfl, BU6.out.trans (but_set w6 p 1 _), ?_, fun hn => ?_⟩
        · rw [← HZ.out, ← HT5.out, if_neg h93]; exact R6.out
        · have hbb := B6.out.trans (but_set w6 p 1 (.int .i64 o))
          exact DM.keep hbb.size (fun g h1 h2 => hbb.block g h2 (by have := BU3.out.size; omega)) (fun g h1 h2 => by show z.heap.size ≤ g; omega) D _ _ (M4.out hn)
  · have qe : ((tx t).toList == [91]) = false := by rw [Lib.toList_data, tx_data, beq_eq_false_iff_ne]; exact h91
    have hq0 : True := trivial
    go_wp2_with fail
    have HY' := Lib.hid (show y = (if (false : Bool) then x1 else -1) from by rw [HY.out]; simp [h91])
    refine (require_x R2.out false).mono ?_; rintro e w3 ⟨rfl, b3, r3⟩
    rw [← HY'.out] at r3
    have BU3 := Lib.hid (BU2.out.trans b3)
    have R3 := Lib.hid r3
    clear b3 r3
    go_wp2_with fail
    refine (HD.out w3 R3.out).mono ?_; rintro e w4 ⟨a4, n4, cc4, rfl, b4, r4, m4⟩
    have BU4 := Lib.hid (BU3.out.trans b4)
    have R4 := Lib.hid r4
    have M4 := Lib.hid m4
    have hz3 : z.heap.size ≤ w3.heap.size := BU3.out.size
    clear b4 r4 m4
    go_wp2_with fail
    refine (token_x R4.out).mono ?_; rintro e w5 ⟨t5, rfl, b5, r5, ht5⟩
    have BU5 := Lib.hid (BU4.out.trans b5)
    have R5 := Lib.hid r5
    have B5 := Lib.hid b5
    have HT5 := Lib.hid ht5
    clear b5 r5 ht5
    by_cases h93 : t5 = [93]
    · subst h93
      have qe5 : ((tx [93]).toList == [93]) = true := tx_eqL _
      go_wp2_with fail
      refine (require_x R5.out true).mono ?_; rintro e w6 ⟨rfl, b6, r6⟩
      have BU6 := Lib.hid (BU5.out.trans b6)
      have B6 := Lib.hid (B5.out.trans b6)
      have R6 := Lib.hid (r6.open o)
      have c6 := r6.c1
      have f6 := r6.f1
      clear b6 r6
      go_wp2_with fail
      go_ret
      refine ⟨a4, n4, cc4, rfl, BU6.out.trans (but_set w6 p 1 _), ?_, fun hn => ?_⟩
      · rw [← HZ.out, ← HT5.out, if_pos rfl]; exact R6.out
      · have hbb := B6.out.trans (but_set w6 p 1 (.int .i64 o))
        exact DM.keep hbb.size (fun g h1 h2 => hbb.block g h2 (by have := BU3.out.size; omega)) (fun g h1 h2 => by show z.heap.size ≤ g; omega) D _ _ (M4.out hn)
    · have qe5 : ((tx t5).toList == [93]) = false := by rw [Lib.toList_data, tx_data, beq_eq_false_iff_ne]; exact h93
      go_wp2_with fail
      refine (require_x R5.out false).mono ?_; rintro e w6 ⟨rfl, b6, r6⟩
      have BU6 := Lib.hid (BU5.out.trans b6)
      have B6 := Lib.hid (B5.out.trans b6)
      have R6 := Lib.hid (r6.open o)
      have c6 := r6.c1
      have f6 := r6.f1
      clear b6 r6
      go_wp2_with fail
      go_ret
      refine ⟨a4, n4, cc4, rfl, BU6.out.trans (but_set w6 p 1 _), ?_, fun hn => ?_⟩
      · rw [← HZ.out, ← HT5.out, if_neg h93]; exact R6.out
      · have hbb := B6.out.trans (but_set w6 p 1 (.int .i64 o))
        exact DM.keep hbb.size (fun g h1 h2 => hbb.block g h2 (by have := BU3.out.size; omega)) (fun g h1 h2 => by show z.heap.size ≤ g; omega) D _ _ (M4.out hn)
theorem block0 {w0 : World} {p : Nat} {l : List Tk} : BlkC w0 p l 0 5 (fun _ => -1) (fun _ => .nil) := by
  intro x z hs
  refine (block_core (D := 0) (J := -1) (F := .nil) (y := -1) hs (by decide) ?_ (fun z h => ?_)).mono ?_
  · split <;> simp
  · refine (deeds_fail h).mono ?_; rintro e z' ⟨rfl, rfl⟩
    exact ⟨_, _, _, rfl, But.refl _ _, h, fun e => absurd rfl e⟩
  · rintro e z' ⟨a, n, c, rfl, b, r, -⟩
    rw [tkN_neg, if_neg (by simp)] at r
    exact ⟨a, n, c, rfl, b, r, fun e => absurd rfl e⟩
theorem block_of {w0 : World} {p : Nat} {l : List Tk} {D : Nat} {o : Int} {f : Int → Int} {R : Int → Sm} (ho : -1000 ≤ o ∧ o ≤ 4) (hA : ∀ i, Ahd l i (f i)) (hC : DdsC w0 p l D (o + 1) f R) : BlkC w0 p l (D + 1) o (blS l f) (blR l f R) := by
  intro x z hs
  obtain ⟨y, hy⟩ : ∃ y, y = if tkN l x = [91] then tkX l x else -1 := ⟨_, rfl⟩
  have hb := blX hA x y _ hy rfl
  refine (block_core (D := D + 1) (J := dlE l f (l.length + 1) y) (F := dlR l f R (l.length + 1) y) (y := y) hs (by omega) (by rw [hy, if_pos (by omega : o + 1 ≤ 5)]) (fun z h => hC y z h)).mono ?_
  rintro e z' ⟨a, n, c, rfl, b, r, m⟩
  rw [← hb] at r
  refine ⟨a, n, c, rfl, b, r, fun hn => ?_⟩
  have hy1 : y ≠ -1 := fun e => hn (by rw [hb, e, dlE_neg _ _ _ (by omega), tkN_neg]; simp)
  have hj1 : dlE l f (l.length + 1) y ≠ -1 := fun e => hn (by rw [hb, e, tkN_neg]; simp)
  rw [blR_y hy hy1]
  exact m hj1
/-- The reader at every depth. -/
theorem deed_all {w0 : World} {p : Nat} {l : List Tk} (hL : Lib3 w0) (hll : l.length ≤ 4194304) : ∀ D : Nat, D ≤ 5 → DeedC w0 p l D (5 - D) (ddE l D) (ddR l D)
  | 0, _ => deed_of hL rfl block0
  | D + 1, h => by
    have ih := deed_all (p := p) hL hll D (by omega)
    have h1 := deeds_of hll (ddE_ahd l D) ih
    have h2 := block_of (o := 5 - ((D + 1 : Nat) : Int)) (by omega) (ddE_ahd l D) (by rw [show (5 : Int) - ((D + 1 : Nat) : Int) + 1 = 5 - (D : Int) by omega]; exact h1)
    exact deed_of hL (ahd_neg (bls_ahd (ddE_ahd l D))) h2
theorem deeds_top {w0 : World} {p : Nat} {l : List Tk} (hL : Lib3 w0) (hll : l.length ≤ 4194304) : DdsC w0 p l 5 0 (ddE l 5) (ddR l 5) := deeds_of hll (ddE_ahd l 5) (deed_all hL hll 5 (by omega))
theorem Rd.at_ {w0 w : World} (hb : Below w0.heap.size w0 w) {a : Option Addr} {cap n : Nat} {l : List Tk} {T : TypeId} (hn : l.length = n) (hbd : Bd l) (hv : V1 w0 a cap (txL l)) : Rd w0 w.heap.size l 0 false (w.alloc (.cells #[.slice a n cap, .int .i64 0, .bool false] T)) := by
  have e := new_of w (.cells #[.slice a n cap, .int .i64 0, .bool false] T)
  exact ⟨hb.trans ((bel1 _ _).mono hb.size), hb.size, by rw [World.size_alloc]; omega, hbd, ⟨a, cap, by rw [hn]; simp only [World.cell?, e]; rfl, hv⟩, by simp only [World.cell?, e]; rfl, by simp only [World.cell?, e]; rfl,
    by simp only [World.frozen?, e]; rfl, by simp only [World.frozen?, e]; rfl, by simp only [World.frozen?, e]; rfl⟩
set_option maxHeartbeats 4000000 in
set_option maxRecDepth 100000 in
theorem deedsOf_any (w0 w : World) (hw0 : Below w0.heap.size w0 w) (a : Option Addr) (cap : Nat) (l : List Tk) (n : Nat) (hn : l.length = n) (hv : V1 w0 a cap (txL l)) (hl : n ≤ 4194304) (hm : ∀ s ∈ l, s.length ≤ 4194304) (hL : Lib3 w0) :
    Calls Tryz.prog 74 #[.slice a n cap] w fun e w' => ∃ b m c, e = .returned (.tuple #[.slice b m c, .bool (rcB l)]) ∧ Below w.heap.size w w' ∧ (rcB l = true → DM w0 (w.heap.size ≤ ·) w' 6 (.slice b m c) (rcR l)) := by
  have HR := Lib.hid (rcB_dl l)
  by_cases h120 : l.length ≤ 120
  · rw [decide_eq_true h120, Bool.true_and] at HR
    have y0 : decide ((120 : Int) < (n : Int)) = false := by simp; omega
    have y1 : ¬ (120 : Int) < (n : Int) := by omega
    have y2 : decide (120 < n) = false := by simp; omega
    have hrd := Rd.at_ (T := 108) hw0 hn ⟨by omega, hm⟩ hv
    have HBL := Lib.hid (bel1 w (.cells #[.slice a n cap, .int .i64 0, .bool false] 108))
    have hz : (w.alloc (.cells #[.slice a n cap, .int .i64 0, .bool false] 108)).heap.size = w.heap.size + 1 := World.size_alloc _ _
    have HD := Lib.hid (deeds_top (p := w.heap.size) hL (by omega) 0 _ (Or.inr ⟨by decide, by decide, by omega, hrd⟩))
    have HF := Lib.hid (show rcR l = dlR l (ddE l 5) (ddR l 5) (l.length + 1) 0 from rfl)
    clear hrd hv hm hw0
    generalize hq : w.heap.size = q at *
    obtain ⟨J, hJ⟩ : ∃ J, dlE l (ddE l 5) (l.length + 1) 0 = J := ⟨_, rfl⟩
    obtain ⟨G, hG⟩ : ∃ G, dlR l (ddE l 5) (ddR l 5) (l.length + 1) 0 = G := ⟨_, rfl⟩
    obtain ⟨rb, hrb⟩ : ∃ rb, rcB l = rb := ⟨_, rfl⟩
    rw [hJ] at HR HD
    rw [hG] at HF HD
    rw [hrb] at HR ⊢
    rw [HF.out]
    clear hJ hG hrb HF
    go_enter Tryz.func74, Tryz.ntmps74
    go_wp2_with fail
    generalize w.alloc (.cells #[.slice a n cap, .int .i64 0, .bool false] 108) = w1 at *
    refine HD.out.mono ?_; rintro e w2 ⟨b, m, c, rfl, b2, r2, m2⟩
    have B2 := Lib.hid (HBL.out.trans (b2.below (Nat.le_refl _) (by omega)))
    have M2 := Lib.hid m2
    have hk : ∀ g, w1.heap.size ≤ g → q ≤ g := fun g hg => by omega
    have HK := Lib.hid (fun (hn : J ≠ -1) => DM.keep (w' := w2) (K' := (q ≤ ·)) (Nat.le_refl _) (fun _ _ _ => rfl) (fun g h _ => hk g h) 6 _ _ (m2 hn))
    have hc := r2.cases
    clear b2 r2 m2 M2 hk HD
    rcases hc with ⟨hx, c2⟩ | ⟨h0, h1, c2, a3, cap3, c0⟩
    · go_wp2_with fail
      have hf : rb = false := by rw [HR.out, hx]; simp
      refine bodyPost_ret (v := .tuple #[.slice none 0 0, .bool false]) (by simp [results, Tryz.results74, go_sem]) rfl ⟨none, 0, 0, by rw [hf], B2.out, fun e => by rw [hf] at e; cases e⟩
    · obtain ⟨k, hkk⟩ : ∃ k, l.length - J.toNat = k := ⟨_, rfl⟩
      rw [hkk] at c0
      by_cases hk0 : k = 0
      · have t0 : decide ((0 : Int) < (k : Int)) = false := by simp; omega
        have t1 : decide (0 < k) = false := by simp; omega
        have t2 : ¬ (0 : Int) < (k : Int) := by omega
        have hrb : rb = true := by rw [HR.out]; simp; omega
        have hj : J ≠ -1 := by omega
        clear hkk
        subst hk0
        go_wp2_with fail
        refine bodyPost_ret (v := .tuple #[.slice b m c, .bool true]) (by simp [results, Tryz.results74, go_sem]) rfl ⟨b, m, c, by rw [hrb], B2.out, fun _ => HK.out hj⟩
      · have t0 : decide ((0 : Int) < (k : Int)) = true := by simp; omega
        have t1 : decide (0 < k) = true := by simp; omega
        have t2 : (0 : Int) < (k : Int) := by omega
        have hrb : rb = false := by rw [HR.out]; simp; omega
        clear hkk hk0
        go_wp2_with fail
        refine bodyPost_ret (v := .tuple #[.slice none 0 0, .bool false]) (by simp [results, Tryz.results74, go_sem]) rfl ⟨none, 0, 0, by rw [hrb], B2.out, fun e => by rw [hrb] at e; cases e⟩
  · rw [decide_eq_false h120, Bool.false_and] at HR
    have y0 : decide ((120 : Int) < (n : Int)) = true := by simp; omega
    have y1 : (120 : Int) < (n : Int) := by omega
    have y2 : decide (120 < n) = true := by simp; omega
    rw [HR.out]
    clear hv hm
    go_enter Tryz.func74, Tryz.ntmps74
    go_wp2_with fail
    refine bodyPost_ret (v := .tuple #[.slice none 0 0, .bool false]) (by simp [results, Tryz.results74, go_sem]) rfl ⟨none, 0, 0, rfl, Below.refl _ _, fun e => by cases e⟩
end Go.Proofs.YtfnnoehpahdgcaaGreatDoor.Cl.T
