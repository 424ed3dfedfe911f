/-
  Texts of mine, joined (part 6 of 9): what the law at hand reaches of them; each text's own words stand in the verifier's repo.
-/
import Derived.Test.YtfnnoehpahdgcaaGreatDoorSs5
import Derived.Test.YtfnnoehpahdgcaaGreatDoorRows
import Derived.WalkKit
import Derived.IntWalk
import Derived.Laws.Bits128
import Derived.Lib.Hide
import Derived.Lib.ParseIntBTie
import Derived.Lib.ParseIntBCases
import Derived.Lib.ItoaMem
import Derived.Lib.IndexMore
import Derived.Lib.Repeat
import Derived.WalkSpells
import Derived.Below
import Derived.Carry
import Derived.WalkSmall
import Derived.Laws.Closers25b
import Derived.Lib.Strings
import Derived.Lib.SmallJoins
import Derived.Lib.AppendIntMem
import Derived.Maps.AppendAt
import Derived.OwnWalk
import Derived.WalkLawsBesides
import Derived.Deep.QuietTactic
import Derived.BigQuiet
import Derived.Deep.RegionHeld3
import Derived.Laws.OwnMore
import Derived.Laws.StructEq
import Derived.BigFrame
import Derived.Deep.Upon
import Derived.Laws.CopyRow
import Derived.Laws.BytesArg
import Derived.RowKit3
import Derived.Shelf.Strconv.Itoa4
import Derived.Shelf.Strconv.ParseIntPublic10
import Derived.Shelf.Strconv.ErrVarParseInt
import Derived.Test.YtfnnoehpahdgcaaGreatDoorProg
import Derived.LaidMore
import Derived.Stop.LaidErr
import Derived.Lib.LaidTab
import Derived.RangeFuncWrites
import Derived.RangeFuncCalls
import Derived.RangeFuncBox
import Derived.RangeFuncNested
import Derived.RangeFuncLeaves
import Derived.Shelf.Abstract
import Derived.Shelf.RegionOpen
import Derived.OwnWalkIn
import Derived.TacticsInMore
import Derived.LoopNIn
import Derived.LoopIn
import Derived.Lib.Bytealg
import Derived.Deep.LoopGhost
import Derived.Lib.AtoiErrMem
import Derived.OpenShut
import Derived.Lib.ConvBytes
import Derived.Deep.RegionLaw
import Derived.Deep.AppendLies
import Derived.Lib.AppendZeros
import Derived.Defers
import Derived.Recover
import Derived.ProofKit
import Derived.Handed
import Derived.SizedLaws
import Derived.ShutString
import Derived.Deep.Slices
import Derived.Deep.Fields
import Derived.ChangeSame
namespace Go.Proofs.YtfnnoehpahdgcaaGreatDoor.Cl.T
set_option linter.unusedVariables false
open Go.RowKit Wd Rp Cu Kp
def ddQ (l : List Tk) (B : Int → Int) (R : Int → Sl) (i : Int) : Sm := match tkA l i with
  | none => .stop
  | some s => if s = setT then .set (tkN l (i + 1)) (smT l (i + 2)) else if s = cutT then .cut (tkN l (i + 1)) else if s = stopT then .stop
    else if s = ifT then .ifs (smT l (i + 1)) (R (smV l 2 (i + 1))) (R (B (smV l 2 (i + 1)))) else if s = whT then .whl (smT l (i + 1)) (R (smV l 2 (i + 1))) else .stop
def dlR (l : List Tk) (f : Int → Int) (R : Int → Sm) : Nat → Int → Sl
  | 0, _ => .nil
  | n + 1, i => match tkA l i with | none => .nil | some s => if s = [93] then .nil else .cons (R i) (dlR l f R n (f i))
def blR (l : List Tk) (f : Int → Int) (R : Int → Sm) (i : Int) : Sl := dlR l f R (l.length + 1) (i + 1)
def ddR (l : List Tk) : Nat → Int → Sm
  | 0 => ddQ l (fun _ => -1) (fun _ => .nil)
  | d + 1 => ddQ l (blS l (ddE l d)) (blR l (ddE l d) (ddR l d))
def rcR (l : List Tk) : Sl := dlR l (ddE l 5) (ddR l 5) (l.length + 1) 0
theorem ddQ_some {l : List Tk} {B : Int → Int} {R : Int → Sl} {i : Int} {s : Tk} (h : tkA l i = some s) : ddQ l B R i = if s = setT then .set (tkN l (i + 1)) (smT l (i + 2)) else if s = cutT then .cut (tkN l (i + 1)) else if s = stopT then .stop
    else if s = ifT then .ifs (smT l (i + 1)) (R (smV l 2 (i + 1))) (R (B (smV l 2 (i + 1)))) else if s = whT then .whl (smT l (i + 1)) (R (smV l 2 (i + 1))) else .stop := by unfold ddQ; rw [h]
def preS : List Sm → Sl → Sl
  | [], t => t
  | s :: ss, t => .cons s (preS ss t)
theorem preS_snoc (ss : List Sm) (s : Sm) (t : Sl) : preS ss (.cons s t) = preS (ss ++ [s]) t := by
  induction ss with
  | nil => rfl
  | cons x ss ih => rw [List.cons_append, preS, preS, ih]
def DdM (w0 : World) (K : Nat → Prop) (w : World) (sub : Value → Sl → Prop) (d : Dv) : Sm → Prop
  | .set n e => d.h = setT ∧ d.n = n ∧ d.sn = e.length ∧ V1 w0 d.sa d.sc (txL e)
  | .cut n => d.h = cutT ∧ d.n = n
  | .stop => d.h = stopT
  | .ifs e a b => d.h = ifT ∧ d.sn = e.length ∧ V1 w0 d.sa d.sc (txL e) ∧ ∃ va vb, d.bn = 2 ∧ V1 w d.ba d.bc [va, vb] ∧ (∀ g o, d.ba = some ⟨g, o, none⟩ → K g ∧ g < w.heap.size) ∧ sub va a ∧ sub vb b
  | .whl e a => d.h = whT ∧ d.sn = e.length ∧ V1 w0 d.sa d.sc (txL e) ∧ ∃ va, d.bn = 1 ∧ V1 w d.ba d.bc [va] ∧ (∀ g o, d.ba = some ⟨g, o, none⟩ → K g ∧ g < w.heap.size) ∧ sub va a
def DM (w0 : World) (K : Nat → Prop) (w : World) : Nat → Value → Sl → Prop
  | 0 => fun _ _ => False
  | D + 1 => fun v F => ∃ (ds : List Dv) (fs : List Sm), OwD 0 w v ds ∧ (∀ k, v.ownBlock = some k → K k) ∧ ds.length = fs.length ∧ (∀ (k : Nat) (d : Dv) (f : Sm), ds[k]? = some d → fs[k]? = some f → DdM w0 K w (DM w0 K w D) d f) ∧ F = preS fs .nil
theorem DdM.keep {w0 w w' : World} {K K' : Nat → Prop} (hs : w.heap.size ≤ w'.heap.size) (hk : ∀ g, K g → g < w.heap.size → w'.heap[g]? = w.heap[g]?) (hK : ∀ g, K g → g < w.heap.size → K' g) {sub sub' : Value → Sl → Prop} (hsub : ∀ v f, sub v f → sub' v f) {d : Dv} {f : Sm} (h : DdM w0 K w sub d f) : DdM w0 K' w' sub' d f := by
  cases f with
  | set n e => exact h
  | cut n => exact h
  | stop => exact h
  | ifs e a b =>
    obtain ⟨h1, h2, h3, va, vb, h4, h5, h6, h7, h8⟩ := h
    exact ⟨h1, h2, h3, va, vb, h4, h5.keep hs (fun g o e hg => hk g (h6 g o e).1 hg), (fun g o e => ⟨hK g (h6 g o e).1 (h6 g o e).2, Nat.lt_of_lt_of_le (h6 g o e).2 hs⟩), hsub _ _ h7, hsub _ _ h8⟩
  | whl e a =>
    obtain ⟨h1, h2, h3, va, h4, h5, h6, h7⟩ := h
    exact ⟨h1, h2, h3, va, h4, h5.keep hs (fun g o e hg => hk g (h6 g o e).1 hg), (fun g o e => ⟨hK g (h6 g o e).1 (h6 g o e).2, Nat.lt_of_lt_of_le (h6 g o e).2 hs⟩), hsub _ _ h7⟩
theorem DM.keep {w0 w w' : World} {K K' : Nat → Prop} (hs : w.heap.size ≤ w'.heap.size) (hk : ∀ g, K g → g < w.heap.size → w'.heap[g]? = w.heap[g]?) (hK : ∀ g, K g → g < w.heap.size → K' g) : ∀ (D : Nat) (v : Value) (F : Sl), DM w0 K w D v F → DM w0 K' w' D v F
  | 0, v, F, h => by cases h
  | D + 1, v, F, h => by
    obtain ⟨ds, fs, h1, h2, h3, h4, h5⟩ := h
    exact ⟨ds, fs, h1.same fun k hk' => hk k (h2 k hk') (h1.low k hk'), fun k hk' => hK k (h2 k hk') (h1.low k hk'), h3, fun k d f hd hf => (h4 k d f hd hf).keep hs hk hK (fun v f h => DM.keep hs hk hK D v f h), h5⟩
theorem ddQ_x {l : List Tk} {B : Int → Int} {R : Int → Sl} {x : Int} {s : Tk} (h : tkA l x = some s) (e : tkN l x = s) : ddQ l B R x = (if tkN l x = setT then .set (tkN l (x + 1)) (smT l (x + 2)) else if tkN l x = cutT then .cut (tkN l (x + 1)) else if tkN l x = stopT then .stop
    else if tkN l x = ifT then .ifs (smT l (x + 1)) (R (smV l 2 (x + 1))) (R (B (smV l 2 (x + 1)))) else if tkN l x = whT then .whl (smT l (x + 1)) (R (smV l 2 (x + 1))) else .stop) := by rw [ddQ_some h, e]
def BlkC (w0 : World) (p : Nat) (l : List Tk) (D : Nat) (o : Int) (B : Int → Int) (R : Int → Sl) : Prop := ∀ (x : Int) (z : World), Sx w0 p l o x z →
  Calls Tryz.prog 120 #[.pointer (some ⟨p, 0, none⟩)] z fun e z' => ∃ a n c, e = .returned (.slice a n c) ∧ But p z z' ∧ Sx w0 p l o (B x) z' ∧ (B x ≠ -1 → DM w0 (z.heap.size ≤ ·) z' D (.slice a n c) (R x))
def DeedC (w0 : World) (p : Nat) (l : List Tk) (D : Nat) (o : Int) (f : Int → Int) (R : Int → Sm) : Prop := ∀ (x : Int) (z : World), Sx w0 p l o x z →
  Calls Tryz.prog 106 #[.pointer (some ⟨p, 0, none⟩)] z fun e z' => ∃ d : Dv, e = .returned d.v ∧ But p z z' ∧ Sx w0 p l o (f x) z' ∧ (f x ≠ -1 → DdM w0 (z.heap.size ≤ ·) z' (DM w0 (z.heap.size ≤ ·) z' D) d (R x))
set_option maxHeartbeats 8000000 in
set_option maxRecDepth 100000 in
theorem deed_of {w0 : World} {p : Nat} {l : List Tk} {D : Nat} {o : Int} {B : Int → Int} {R : Int → Sl} (hL : Lib3 w0) (hB0 : B (-1) = -1) (hB : BlkC w0 p l D o B R) : DeedC w0 p l D o (ddG l B) (ddQ l B R) := by
  intro x w hs
  have hlo := hs.lo.1
  have hlt := hs.lo.2
  have HB := Lib.hid hB
  have HS := Lib.hid (fun (y : Int) (z : World) (kind : Int) (hk : kind ≠ 0) (h : Sx w0 p l o y z) => sum_x hL kind hk h)
  have H1 := Lib.hid (bel1 w (.cells #[.string ⟨#[]⟩, .string ⟨#[]⟩, .slice none 0 0, .slice none 0 0] 115))
  have HN := new_of w (.cells #[.string ⟨#[]⟩, .string ⟨#[]⟩, .slice none 0 0, .slice none 0 0] 115)
  have HT := Lib.hid (token_x (hs.next H1.out))
  have HBU := Lib.hid (But.of H1.out : But p w _)
  have HD := Lib.hid (ddX (l := l) (B := B) (x := x))
  have HQ := Lib.hid (fun s h e => ddQ_x (l := l) (B := B) (R := R) (x := x) (s := s) h e)
  have HTX := Lib.hid (fun h => tkX_neg (l := l) (x := x) h)
  clear hs hB hL
  generalize ddG l B x = rr at *
  generalize ddQ l B R x = rq at *
  generalize hx1 : tkX l x = x1 at *
  clear hx1
  generalize hq : w.heap.size = q at *
  have Q1 := Lib.hid (B4.of HN)
  have BL1 := Lib.hid (show Below q w _ from H1.out)
  clear HN H1
  go_enter Tryz.func106, Tryz.ntmps106
  go_wp2_with fail
  generalize w.alloc (.cells #[.string ⟨#[]⟩, .string ⟨#[]⟩, .slice none 0 0, .slice none 0 0] 115) = w1 at *
  have HQW := Lib.hid hq
  clear hq
  refine HT.out.mono ?_; rintro e w2 ⟨t, rfl, b2, r2, ht⟩
  have HTN := Lib.hid ht
  rw [← ht] at HD HQ HTX
  clear ht HT
  have Q2 := Lib.hid (Q1.out.but b2 (by omega))
  have BU2 := Lib.hid (HBU.out.trans b2)
  have hz2 : q < w2.heap.size := Q2.out.lt
  have R3 := Lib.hid (r2.next (bel1 w2 (.cells #[.string (tx t), .string ⟨#[]⟩, .slice none 0 0, .slice none 0 0] 115)))
  have Q3 := Lib.hid (Q2.out.next (bel1 w2 (.cells #[.string (tx t), .string ⟨#[]⟩, .slice none 0 0, .slice none 0 0] 115)))
  have D3 := Lib.hid (B4.of (new_of w2 (.cells #[.string (tx t), .string ⟨#[]⟩, .slice none 0 0, .slice none 0 0] 115)))
  have BU3 := Lib.hid (BU2.out.alloc (.cells #[.string (tx t), .string ⟨#[]⟩, .slice none 0 0, .slice none 0 0] 115))
  have R2 := Lib.hid r2
  clear r2 b2 Q1 HBU BL1
  have hrp : w2.heap.size ≠ p := by omega
  have hpr : p ≠ w2.heap.size := by omega
  have hqp : q ≠ p := by omega
  have hpq : p ≠ q := by omega
  have hqr : q ≠ w2.heap.size := by omega
  have hrb : w0.heap.size ≤ w2.heap.size := by omega
  have hqb : w0.heap.size ≤ q := by omega
  have hwq : w.heap.size ≤ q := by have := HQW.out; omega
  have hwr : w.heap.size ≤ w2.heap.size := by have := HQW.out; omega
  have hrz : w2.heap.size < _ := D3.out.lt
  by_cases b0 : t = setT
  · subst b0
    have qe : ((tx setT).toList == [115, 101, 116]) = true := tx_eqL _
    replace HD := Lib.hid (HD.out.trans (if_pos rfl))
    replace HQ := Lib.hid (fun s h e => (HQ.out s h e).trans (if_pos rfl))
    have d0 := D3.out.c0; have d1 := D3.out.c1; have d2 := D3.out.c2; have d3 := D3.out.c3
    have g0 := D3.out.f0; have g1 := D3.out.f1; have g2 := D3.out.f2; have g3 := D3.out.f3
    have e0 := Q3.out.c0; have e1 := Q3.out.c1; have e2 := Q3.out.c2; have e3 := Q3.out.c3
    have k0 := Q3.out.f0; have k1 := Q3.out.f1; have k2 := Q3.out.f2; have k3 := Q3.out.f3
    go_wp2_with fail
    generalize w2.heap.size = r at *
    generalize w2.alloc (.cells #[.string (tx setT), .string ⟨#[]⟩, .slice none 0 0, .slice none 0 0] 115) = w4 at *
    clear d0 d1 d2 d3 g0 g1 g2 g3 e0 e1 e2 e3 k0 k1 k2 k3
    have D4 := D3; have Q4 := Q3; have R4 := R3; have BU4 := BU3
    refine (name_x R4.out).mono ?_; rintro e w5 ⟨n5, rfl, b5, r5, hn5⟩
    have D5 := Lib.hid (D4.out.but b5 hrp)
    have Q5 := Lib.hid (Q4.out.but b5 hqp)
    have BU5 := Lib.hid (BU4.out.trans b5)
    have hz5 : w4.heap.size ≤ w5.heap.size := b5.size
    have hk5 := Lib.hid b5
    have R5 := Lib.hid r5; have HN5 := Lib.hid hn5; clear r5 hn5 b5
    have D6 := Lib.hid (D5.out.set1 (.string (tx n5)))
    have Q6 := Lib.hid (Q5.out.same (Below.heap_setCell w5 ⟨r, 1, none⟩ (.string (tx n5)) q hqr) (by rw [World.size_setCell]; exact Nat.le_refl _))
    have BU6 := Lib.hid (BU5.out.setNew (p := ⟨r, 1, none⟩) hwr (.string (tx n5)))
    have R6 := Lib.hid (R5.out.set (j := 1) hrb hpr (.string (tx n5)))
    have hs6 : (w5.setCell ⟨r, 1, none⟩ (.string (tx n5))).heap.size = w5.heap.size := World.size_setCell _ _ _
    have d0 := D5.out.c0; have d1 := D5.out.c1; have d2 := D5.out.c2; have d3 := D5.out.c3
    have g0 := D5.out.f0; have g1 := D5.out.f1; have g2 := D5.out.f2; have g3 := D5.out.f3
    have e0 := Q5.out.c0; have e1 := Q5.out.c1; have e2 := Q5.out.c2; have e3 := Q5.out.c3
    have k0 := Q5.out.f0; have k1 := Q5.out.f1; have k2 := Q5.out.f2; have k3 := Q5.out.f3
    go_wp2_with fail
    generalize (w5.setCell ⟨r, 1, none⟩ (.string (tx n5))) = w6 at *
    clear d0 d1 d2 d3 g0 g1 g2 g3 e0 e1 e2 e3 k0 k1 k2 k3
    refine (HS.out _ _ 1 (by decide) R6.out).mono ?_; rintro e w7 ⟨a7, n7, c7, rfl, b7, r7, m7⟩
    have D7 := Lib.hid (D6.out.but b7 hrp)
    have Q7 := Lib.hid (Q6.out.but b7 hqp)
    have BU7 := Lib.hid (BU6.out.trans b7)
    have hz7 : w6.heap.size ≤ w7.heap.size := b7.size
    have hk7 := Lib.hid b7
    have R7 := Lib.hid r7; have M7 := Lib.hid m7; clear r7 m7 b7
    have D8 := Lib.hid (D7.out.set2 (.slice a7 n7 c7))
    have Q8 := Lib.hid (Q7.out.same (Below.heap_setCell w7 ⟨r, 2, none⟩ (.slice a7 n7 c7) q hqr) (by rw [World.size_setCell]; exact Nat.le_refl _))
    have BU8 := Lib.hid (BU7.out.setNew (p := ⟨r, 2, none⟩) hwr (.slice a7 n7 c7))
    have R8 := Lib.hid (R7.out.set (j := 2) hrb hpr (.slice a7 n7 c7))
    have hs8 : (w7.setCell ⟨r, 2, none⟩ (.slice a7 n7 c7)).heap.size = w7.heap.size := World.size_setCell _ _ _
    have d0 := D7.out.c0; have d1 := D7.out.c1; have d2 := D7.out.c2; have d3 := D7.out.c3
    have g0 := D7.out.f0; have g1 := D7.out.f1; have g2 := D7.out.f2; have g3 := D7.out.f3
    have e0 := Q7.out.c0; have e1 := Q7.out.c1; have e2 := Q7.out.c2; have e3 := Q7.out.c3
    have k0 := Q7.out.f0; have k1 := Q7.out.f1; have k2 := Q7.out.f2; have k3 := Q7.out.f3
    have d0' := D8.out.c0; have d1' := D8.out.c1; have d2' := D8.out.c2; have d3' := D8.out.c3
    go_wp2_with fail
    refine bodyPost_ret (v := Dv.v ⟨setT, n5, a7, n7, c7, none, 0, 0⟩) (by simp [results, Tryz.results106, go_sem, Dv.v, put4_c0 Q8.out, put4_c1 Q8.out, put4_c2 Q8.out, put4_c3 Q8.out]) rfl ⟨⟨setT, n5, a7, n7, c7, none, 0, 0⟩, rfl, but_put4 BU8.out hwq _ _ _ _, (by rw [HD.out]; exact R8.out.put4 hqb hpq _ _ _ _), ?_⟩
    intro hn
    rw [HD.out] at hn
    have hy1 : nmX l x1 ≠ -1 := fun e => hn (by rw [e]; exact sm_neg1 l 1)
    have hx1 : x1 ≠ -1 := fun e => hy1 (by rw [e]; exact nmX_neg l)
    obtain ⟨e1, s, h1, h2⟩ := HTX.out hx1
    have e2 := nmX_ne hy1
    have m7 := M7.out hn
    rw [HQ.out s h1 h2, show x + 2 = nmX l x1 by omega, ← e1, ← HN5.out]
    exact ⟨rfl, rfl, m7.1, m7.2⟩
  replace HD := Lib.hid (HD.out.trans (if_neg b0))
  replace HQ := Lib.hid (fun s h e => (HQ.out s h e).trans (if_neg b0))
  by_cases b1 : t = cutT
  · subst b1
    have qe : ((tx cutT).toList == [99, 117, 116]) = true := tx_eqL _
    have q0 : ((tx cutT).toList == [115, 101, 116]) = false := by rw [Lib.toList_data, tx_data]; decide
    replace HD := Lib.hid (HD.out.trans (if_pos rfl))
    replace HQ := Lib.hid (fun s h e => (HQ.out s h e).trans (if_pos rfl))
    have d0 := D3.out.c0; have d1 := D3.out.c1; have d2 := D3.out.c2; have d3 := D3.out.c3
    have g0 := D3.out.f0; have g1 := D3.out.f1; have g2 := D3.out.f2; have g3 := D3.out.f3
    have e0 := Q3.out.c0; have e1 := Q3.out.c1; have e2 := Q3.out.c2; have e3 := Q3.out.c3
    have k0 := Q3.out.f0; have k1 := Q3.out.f1; have k2 := Q3.out.f2; have k3 := Q3.out.f3
    go_wp2_with fail
    generalize w2.heap.size = r at *
    generalize w2.alloc (.cells #[.string (tx cutT), .string ⟨#[]⟩, .slice none 0 0, .slice none 0 0] 115) = w4 at *
    clear d0 d1 d2 d3 g0 g1 g2 g3 e0 e1 e2 e3 k0 k1 k2 k3
    have D4 := D3; have Q4 := Q3; have R4 := R3; have BU4 := BU3
    refine (name_x R4.out).mono ?_; rintro e w5 ⟨n5, rfl, b5, r5, hn5⟩
    have D5 := Lib.hid (D4.out.but b5 hrp)
    have Q5 := Lib.hid (Q4.out.but b5 hqp)
    have BU5 := Lib.hid (BU4.out.trans b5)
    have hz5 : w4.heap.size ≤ w5.heap.size := b5.size
    have hk5 := Lib.hid b5
    have R5 := Lib.hid r5; have HN5 := Lib.hid hn5; clear r5 hn5 b5
    have D6 := Lib.hid (D5.out.set1 (.string (tx n5)))
    have Q6 := Lib.hid (Q5.out.same (Below.heap_setCell w5 ⟨r, 1, none⟩ (.string (tx n5)) q hqr) (by rw [World.size_setCell]; exact Nat.le_refl _))
    have BU6 := Lib.hid (BU5.out.setNew (p := ⟨r, 1, none⟩) hwr (.string (tx n5)))
    have R6 := Lib.hid (R5.out.set (j := 1) hrb hpr (.string (tx n5)))
    have hs6 : (w5.setCell ⟨r, 1, none⟩ (.string (tx n5))).heap.size = w5.heap.size := World.size_setCell _ _ _
    have d0 := D5.out.c0; have d1 := D5.out.c1; have d2 := D5.out.c2; have d3 := D5.out.c3
    have g0 := D5.out.f0; have g1 := D5.out.f1; have g2 := D5.out.f2; have g3 := D5.out.f3
    have e0 := Q5.out.c0; have e1 := Q5.out.c1; have e2 := Q5.out.c2; have e3 := Q5.out.c3
    have k0 := Q5.out.f0; have k1 := Q5.out.f1; have k2 := Q5.out.f2; have k3 := Q5.out.f3
    have d0' := D6.out.c0; have d1' := D6.out.c1; have d2' := D6.out.c2; have d3' := D6.out.c3
    go_wp2_with fail
    refine bodyPost_ret (v := Dv.v ⟨cutT, n5, none, 0, 0, none, 0, 0⟩) (by simp [results, Tryz.results106, go_sem, Dv.v, put4_c0 Q6.out, put4_c1 Q6.out, put4_c2 Q6.out, put4_c3 Q6.out]) rfl ⟨⟨cutT, n5, none, 0, 0, none, 0, 0⟩, rfl, but_put4 BU6.out hwq _ _ _ _, (by rw [HD.out]; exact R6.out.put4 hqb hpq _ _ _ _), ?_⟩
    intro hn
    rw [HD.out] at hn
    have hx1 : x1 ≠ -1 := fun e => hn (by rw [e]; exact nmX_neg l)
    obtain ⟨e1, s, h1, h2⟩ := HTX.out hx1
    rw [HQ.out s h1 h2, ← e1, ← HN5.out]
    exact ⟨rfl, rfl⟩
  replace HD := Lib.hid (HD.out.trans (if_neg b1))
  replace HQ := Lib.hid (fun s h e => (HQ.out s h e).trans (if_neg b1))
  by_cases b2 : t = stopT
  · subst b2
    have qe : ((tx stopT).toList == [115, 116, 111, 112]) = true := tx_eqL _
    have q0 : ((tx stopT).toList == [115, 101, 116]) = false := by rw [Lib.toList_data, tx_data]; decide
    have q1 : ((tx stopT).toList == [99, 117, 116]) = false := by rw [Lib.toList_data, tx_data]; decide
    replace HD := Lib.hid (HD.out.trans (if_pos rfl))
    replace HQ := Lib.hid (fun s h e => (HQ.out s h e).trans (if_pos rfl))
    have y0 := Q2.out.c0; have y1 := Q2.out.c1; have y2 := Q2.out.c2; have y3 := Q2.out.c3
    have z0 := Q2.out.f0; have z1 := Q2.out.f1; have z2 := Q2.out.f2; have z3 := Q2.out.f3
    clear Q3 D3 R3 BU3
    go_wp2_with fail
    refine bodyPost_ret (v := Dv.v ⟨stopT, [], none, 0, 0, none, 0, 0⟩) (by simp [results, Tryz.results106, go_sem, Dv.v, tx_nil, put4a_c0 Q2.out, put4a_c1 Q2.out, put4a_c2 Q2.out, put4a_c3 Q2.out]) rfl ⟨⟨stopT, [], none, 0, 0, none, 0, 0⟩, rfl, (but_put4 BU2.out hwq _ _ _ _).alloc _, (by rw [HD.out]; exact (R2.out.put4 hqb hpq _ _ _ _).next (bel1 _ _)), ?_⟩
    intro hn
    rw [HD.out] at hn
    obtain ⟨-, s, h1, h2⟩ := HTX.out hn
    rw [HQ.out s h1 h2]
    exact (rfl : _ = _)
  replace HD := Lib.hid (HD.out.trans (if_neg b2))
  replace HQ := Lib.hid (fun s h e => (HQ.out s h e).trans (if_neg b2))
  by_cases b3 : t = ifT
  · subst b3
    have qe : ((tx ifT).toList == [105, 102]) = true := tx_eqL _
    have q0 : ((tx ifT).toList == [115, 101, 116]) = false := by rw [Lib.toList_data, tx_data]; decide
    have q1 : ((tx ifT).toList == [99, 117, 116]) = false := by rw [Lib.toList_data, tx_data]; decide
    have q2 : ((tx ifT).toList == [115, 116, 111, 112]) = false := by rw [Lib.toList_data, tx_data]; decide
    replace HD := Lib.hid (HD.out.trans (if_pos rfl))
    replace HQ := Lib.hid (fun s h e => (HQ.out s h e).trans (if_pos rfl))
    have d0 := D3.out.c0; have d1 := D3.out.c1; have d2 := D3.out.c2; have d3 := D3.out.c3
    have g0 := D3.out.f0; have g1 := D3.out.f1; have g2 := D3.out.f2; have g3 := D3.out.f3
    have e0 := Q3.out.c0; have e1 := Q3.out.c1; have e2 := Q3.out.c2; have e3 := Q3.out.c3
    have k0 := Q3.out.f0; have k1 := Q3.out.f1; have k2 := Q3.out.f2; have k3 := Q3.out.f3
    go_wp2_with fail
    generalize w2.heap.size = r at *
    generalize w2.alloc (.cells #[.string (tx ifT), .string ⟨#[]⟩, .slice none 0 0, .slice none 0 0] 115) = w4 at *
    clear d0 d1 d2 d3 g0 g1 g2 g3 e0 e1 e2 e3 k0 k1 k2 k3
    have D4 := D3; have Q4 := Q3; have R4 := R3; have BU4 := BU3
    refine (HS.out _ _ 2 (by decide) R4.out).mono ?_; rintro e w5 ⟨a5, n5, c5, rfl, b5, r5, m5⟩
    have D5 := Lib.hid (D4.out.but b5 hrp)
    have Q5 := Lib.hid (Q4.out.but b5 hqp)
    have BU5 := Lib.hid (BU4.out.trans b5)
    have hz5 : w4.heap.size ≤ w5.heap.size := b5.size
    have hk5 := Lib.hid b5
    have R5 := Lib.hid r5; have M5 := Lib.hid m5; clear r5 m5 b5
    have D6 := Lib.hid (D5.out.set2 (.slice a5 n5 c5))
    have Q6 := Lib.hid (Q5.out.same (Below.heap_setCell w5 ⟨r, 2, none⟩ (.slice a5 n5 c5) q hqr) (by rw [World.size_setCell]; exact Nat.le_refl _))
    have BU6 := Lib.hid (BU5.out.setNew (p := ⟨r, 2, none⟩) hwr (.slice a5 n5 c5))
    have R6 := Lib.hid (R5.out.set (j := 2) hrb hpr (.slice a5 n5 c5))
    have hs6 : (w5.setCell ⟨r, 2, none⟩ (.slice a5 n5 c5)).heap.size = w5.heap.size := World.size_setCell _ _ _
    have d0 := D5.out.c0; have d1 := D5.out.c1; have d2 := D5.out.c2; have d3 := D5.out.c3
    have g0 := D5.out.f0; have g1 := D5.out.f1; have g2 := D5.out.f2; have g3 := D5.out.f3
    have e0 := Q5.out.c0; have e1 := Q5.out.c1; have e2 := Q5.out.c2; have e3 := Q5.out.c3
    have k0 := Q5.out.f0; have k1 := Q5.out.f1; have k2 := Q5.out.f2; have k3 := Q5.out.f3
    go_wp2_with fail
    generalize (w5.setCell ⟨r, 2, none⟩ (.slice a5 n5 c5)) = w6 at *
    clear d0 d1 d2 d3 g0 g1 g2 g3 e0 e1 e2 e3 k0 k1 k2 k3
    refine (HB.out _ _ R6.out).mono ?_; rintro e w7 ⟨a7, n7, c7, rfl, b7, r7, m7⟩
    have D7 := Lib.hid (D6.out.but b7 hrp)
    have Q7 := Lib.hid (Q6.out.but b7 hqp)
    have BU7 := Lib.hid (BU6.out.trans b7)
    have hz7 : w6.heap.size ≤ w7.heap.size := b7.size
    have hk7 := Lib.hid b7
    have R7 := Lib.hid r7; have M7 := Lib.hid m7; clear r7 m7 b7
    go_wp2_with fail
    refine (HB.out _ _ R7.out).mono ?_; rintro e w8 ⟨a8, n8, c8, rfl, b8, r8, m8⟩
    have D8 := Lib.hid (D7.out.but b8 hrp)
    have Q8 := Lib.hid (Q7.out.but b8 hqp)
    have BU8 := Lib.hid (BU7.out.trans b8)
    have hz8 : w7.heap.size ≤ w8.heap.size := b8.size
    have hk8 := Lib.hid b8
    have R8 := Lib.hid r8; have M8 := Lib.hid m8; clear r8 m8 b8
    have hbl := bel1 w8 (.cells #[.slice a7 n7 c7, .slice a8 n8 c8] 91)
    have D9 := Lib.hid (D8.out.next hbl)
    have Q9 := Lib.hid (Q8.out.next hbl)
    have R9 := Lib.hid (R8.out.next hbl)
    have BU9 := Lib.hid (BU8.out.alloc (.cells #[.slice a7 n7 c7, .slice a8 n8 c8] 91))
    have HN9 := Lib.hid (new_of w8 (.cells #[.slice a7 n7 c7, .slice a8 n8 c8] 91))
    have HL9 := Lib.hid hbl
    have hz9 : (w8.alloc (.cells #[.slice a7 n7 c7, .slice a8 n8 c8] 91)).heap.size = w8.heap.size + 1 := World.size_alloc _ _
    clear hbl
    generalize hs : w8.heap.size = s at *
    generalize hw9 : w8.alloc (.cells #[.slice a7 n7 c7, .slice a8 n8 c8] 91) = w9 at *
    have D10 := Lib.hid (D9.out.set3 (.slice (some ⟨s, 0, none⟩) 2 2))
    have Q10 := Lib.hid (Q9.out.same (Below.heap_setCell w9 ⟨r, 3, none⟩ (.slice (some ⟨s, 0, none⟩) 2 2) q hqr) (by rw [World.size_setCell]; exact Nat.le_refl _))
    have BU10 := Lib.hid (BU9.out.setNew (p := ⟨r, 3, none⟩) hwr (.slice (some ⟨s, 0, none⟩) 2 2))
    have R10 := Lib.hid (R9.out.set (j := 3) hrb hpr (.slice (some ⟨s, 0, none⟩) 2 2))
    have hs10 : (w9.setCell ⟨r, 3, none⟩ (.slice (some ⟨s, 0, none⟩) 2 2)).heap.size = w9.heap.size := World.size_setCell _ _ _
    have d0 := D9.out.c0; have d1 := D9.out.c1; have d2 := D9.out.c2; have d3 := D9.out.c3
    have g0 := D9.out.f0; have g1 := D9.out.f1; have g2 := D9.out.f2; have g3 := D9.out.f3
    have e0 := Q9.out.c0; have e1 := Q9.out.c1; have e2 := Q9.out.c2; have e3 := Q9.out.c3
    have k0 := Q9.out.f0; have k1 := Q9.out.f1; have k2 := Q9.out.f2; have k3 := Q9.out.f3
    have d0' := D10.out.c0; have d1' := D10.out.c1; have d2' := D10.out.c2; have d3' := D10.out.c3
    go_wp2_with fail
    refine bodyPost_ret (v := Dv.v ⟨ifT, [], a5, n5, c5, some ⟨s, 0, none⟩, 2, 2⟩) (by simp [results, Tryz.results106, go_sem, Dv.v, tx_nil, put4_c0 Q10.out, put4_c1 Q10.out, put4_c2 Q10.out, put4_c3 Q10.out]) rfl ⟨⟨ifT, [], a5, n5, c5, some ⟨s, 0, none⟩, 2, 2⟩, rfl, but_put4 BU10.out hwq _ _ _ _, (by rw [HD.out]; exact R10.out.put4 hqb hpq _ _ _ _), ?_⟩
    intro hn
    rw [HD.out] at hn
    have hy : B (smV l 2 x1) ≠ -1 := fun e => hn (by rw [e]; exact hB0)
    have hsm : smV l 2 x1 ≠ -1 := fun e => hy (by rw [e]; exact hB0)
    have hx1 : x1 ≠ -1 := fun e => hsm (by rw [e]; exact sm_neg1 l 2)
    obtain ⟨e1, s', h1, h2⟩ := HTX.out hx1
    rw [HQ.out s' h1 h2, ← e1]
    have m5 := M5.out hsm
    have m7 := M7.out hy
    have m8 := M8.out hn
    have key : ∀ W : World, (∀ g, g ≠ q → W.heap[g]? = (w9.setCell ⟨r, 3, none⟩ (.slice (some ⟨s, 0, none⟩) 2 2)).heap[g]?) → W.heap.size = (w9.setCell ⟨r, 3, none⟩ (.slice (some ⟨s, 0, none⟩) 2 2)).heap.size → DdM w0 (fun x => q ≤ x) W (DM w0 (fun x => q ≤ x) W D) ⟨ifT, [], a5, n5, c5, some ⟨s, 0, none⟩, 2, 2⟩ (.ifs (smT l x1) (R (smV l 2 x1)) (R (B (smV l 2 x1)))) := by
      intro W hW hZ
      have hz10 : W.heap.size = s + 1 := by rw [hZ, hs10, hz9]
      have hk0 : ∀ g, g ≠ q → g ≠ r → g < s → W.heap[g]? = w8.heap[g]? := fun g h1 h2 h3 => ((hW g h1).trans (Below.heap_setCell _ _ _ _ h2)).trans (HL9.out.block g h3)
      have hsr : s ≠ r := by omega
      have hsq : s ≠ q := by omega
      refine ⟨rfl, m5.1, m5.2, .slice a7 n7 c7, .slice a8 n8 c8, rfl, ?_, ?_, ?_, ?_⟩
      · exact v1_lit [.slice a7 n7 c7, .slice a8 n8 c8] (by simp) (by omega) (((hW s hsq).trans (Below.heap_setCell _ _ _ _ hsr)).trans HN9.out)
      · intro g o e
        cases e
        exact ⟨by show q ≤ s; omega, by omega⟩
      · exact DM.keep (by omega) (fun g h1 h2 => (hk0 g (by omega) (by omega) (by omega)).trans (hk8.out.block g h2 (by omega))) (fun g h _ => by show q ≤ g; omega) D _ _ m7
      · exact DM.keep (by omega) (fun g h1 h2 => hk0 g (by omega) (by omega) (by omega)) (fun g h _ => by show q ≤ g; omega) D _ _ m8
    exact key _ (fun g hg => put4_heap _ _ _ _ _ _ hg) (put4_size _ _ _ _ _ _)
  replace HD := Lib.hid (HD.out.trans (if_neg b3))
  replace HQ := Lib.hid (fun s h e => (HQ.out s h e).trans (if_neg b3))
  by_cases b4 : t = whT
  · subst b4
    have qe : ((tx whT).toList == [119, 104, 105, 108, 101]) = true := tx_eqL _
    have q0 : ((tx whT).toList == [115, 101, 116]) = false := by rw [Lib.toList_data, tx_data]; decide
    have q1 : ((tx whT).toList == [99, 117, 116]) = false := by rw [Lib.toList_data, tx_data]; decide
    have q2 : ((tx whT).toList == [115, 116, 111, 112]) = false := by rw [Lib.toList_data, tx_data]; decide
    have q3 : ((tx whT).toList == [105, 102]) = false := by rw [Lib.toList_data, tx_data]; decide
    replace HD := Lib.hid (HD.out.trans (if_pos rfl))
    replace HQ := Lib.hid (fun s h e => (HQ.out s h e).trans (if_pos rfl))
    have d0 := D3.out.c0; have d1 := D3.out.c1; have d2 := D3.out.c2; have d3 := D3.out.c3
    have g0 := D3.out.f0; have g1 := D3.out.f1; have g2 := D3.out.f2; have g3 := D3.out.f3
    have e0 := Q3.out.c0; have e1 := Q3.out.c1; have e2 := Q3.out.c2; have e3 := Q3.out.c3
    have k0 := Q3.out.f0; have k1 := Q3.out.f1; have k2 := Q3.out.f2; have k3 := Q3.out.f3
    go_wp2_with fail
    generalize w2.heap.size = r at *
    generalize w2.alloc (.cells #[.string (tx whT), .string ⟨#[]⟩, .slice none 0 0, .slice none 0 0] 115) = w4 at *
    clear d0 d1 d2 d3 g0 g1 g2 g3 e0 e1 e2 e3 k0 k1 k2 k3
    have D4 := D3; have Q4 := Q3; have R4 := R3; have BU4 := BU3
    refine (HS.out _ _ 2 (by decide) R4.out).mono ?_; rintro e w5 ⟨a5, n5, c5, rfl, b5, r5, m5⟩
    have D5 := Lib.hid (D4.out.but b5 hrp)
    have Q5 := Lib.hid (Q4.out.but b5 hqp)
    have BU5 := Lib.hid (BU4.out.trans b5)
    have hz5 : w4.heap.size ≤ w5.heap.size := b5.size
    have hk5 := Lib.hid b5
    have R5 := Lib.hid r5; have M5 := Lib.hid m5; clear r5 m5 b5
    have D6 := Lib.hid (D5.out.set2 (.slice a5 n5 c5))
    have Q6 := Lib.hid (Q5.out.same (Below.heap_setCell w5 ⟨r, 2, none⟩ (.slice a5 n5 c5) q hqr) (by rw [World.size_setCell]; exact Nat.le_refl _))
    have BU6 := Lib.hid (BU5.out.setNew (p := ⟨r, 2, none⟩) hwr (.slice a5 n5 c5))
    have R6 := Lib.hid (R5.out.set (j := 2) hrb hpr (.slice a5 n5 c5))
    have hs6 : (w5.setCell ⟨r, 2, none⟩ (.slice a5 n5 c5)).heap.size = w5.heap.size := World.size_setCell _ _ _
    have d0 := D5.out.c0; have d1 := D5.out.c1; have d2 := D5.out.c2; have d3 := D5.out.c3
    have g0 := D5.out.f0; have g1 := D5.out.f1; have g2 := D5.out.f2; have g3 := D5.out.f3
    have e0 := Q5.out.c0; have e1 := Q5.out.c1; have e2 := Q5.out.c2; have e3 := Q5.out.c3
    have k0 := Q5.out.f0; have k1 := Q5.out.f1; have k2 := Q5.out.f2; have k3 := Q5.out.f3
    go_wp2_with fail
    generalize (w5.setCell ⟨r, 2, none⟩ (.slice a5 n5 c5)) = w6 at *
    clear d0 d1 d2 d3 g0 g1 g2 g3 e0 e1 e2 e3 k0 k1 k2 k3
    refine (HB.out _ _ R6.out).mono ?_; rintro e w7 ⟨a7, n7, c7, rfl, b7, r7, m7⟩
    have D7 := Lib.hid (D6.out.but b7 hrp)
    have Q7 := Lib.hid (Q6.out.but b7 hqp)
    have BU7 := Lib.hid (BU6.out.trans b7)
    have hz7 : w6.heap.size ≤ w7.heap.size := b7.size
    have hk7 := Lib.hid b7
    have R7 := Lib.hid r7; have M7 := Lib.hid m7; clear r7 m7 b7
    have hbl := bel1 w7 (.cells #[.slice a7 n7 c7] 91)
    have D9 := Lib.hid (D7.out.next hbl)
    have Q9 := Lib.hid (Q7.out.next hbl)
    have R9 := Lib.hid (R7.out.next hbl)
    have BU9 := Lib.hid (BU7.out.alloc (.cells #[.slice a7 n7 c7] 91))
    have HN9 := Lib.hid (new_of w7 (.cells #[.slice a7 n7 c7] 91))
    have HL9 := Lib.hid hbl
    have hz9 : (w7.alloc (.cells #[.slice a7 n7 c7] 91)).heap.size = w7.heap.size + 1 := World.size_alloc _ _
    clear hbl
    generalize hs : w7.heap.size = s at *
    generalize hw9 : w7.alloc (.cells #[.slice a7 n7 c7] 91) = w9 at *
    have D10 := Lib.hid (D9.out.set3 (.slice (some ⟨s, 0, none⟩) 1 1))
    have Q10 := Lib.hid (Q9.out.same (Below.heap_setCell w9 ⟨r, 3, none⟩ (.slice (some ⟨s, 0, none⟩) 1 1) q hqr) (by rw [World.size_setCell]; exact Nat.le_refl _))
    have BU10 := Lib.hid (BU9.out.setNew (p := ⟨r, 3, none⟩) hwr (.slice (some ⟨s, 0, none⟩) 1 1))
    have R10 := Lib.hid (R9.out.set (j := 3) hrb hpr (.slice (some ⟨s, 0, none⟩) 1 1))
    have hs10 : (w9.setCell ⟨r, 3, none⟩ (.slice (some ⟨s, 0, none⟩) 1 1)).heap.size = w9.heap.size := World.size_setCell _ _ _
    have d0 := D9.out.c0; have d1 := D9.out.c1; have d2 := D9.out.c2; have d3 := D9.out.c3
    have g0 := D9.out.f0; have g1 := D9.out.f1; have g2 := D9.out.f2; have g3 := D9.out.f3
    have e0 := Q9.out.c0; have e1 := Q9.out.c1; have e2 := Q9.out.c2; have e3 := Q9.out.c3
    have k0 := Q9.out.f0; have k1 := Q9.out.f1; have k2 := Q9.out.f2; have k3 := Q9.out.f3
    have d0' := D10.out.c0; have d1' := D10.out.c1; have d2' := D10.out.c2; have d3' := D10.out.c3
    go_wp2_with fail
    refine bodyPost_ret (v := Dv.v ⟨whT, [], a5, n5, c5, some ⟨s, 0, none⟩, 1, 1⟩) (by simp [results, Tryz.results106, go_sem, Dv.v, tx_nil, put4_c0 Q10.out, put4_c1 Q10.out, put4_c2 Q10.out, put4_c3 Q10.out]) rfl ⟨⟨whT, [], a5, n5, c5, some ⟨s, 0, none⟩, 1, 1⟩, rfl, but_put4 BU10.out hwq _ _ _ _, (by rw [HD.out]; exact R10.out.put4 hqb hpq _ _ _ _), ?_⟩
    intro hn
    rw [HD.out] at hn
    have hy := hn
    have hsm : smV l 2 x1 ≠ -1 := fun e => hy (by rw [e]; exact hB0)
    have hx1 : x1 ≠ -1 := fun e => hsm (by rw [e]; exact sm_neg1 l 2)
    obtain ⟨e1, s', h1, h2⟩ := HTX.out hx1
    rw [HQ.out s' h1 h2, ← e1]
    have m5 := M5.out hsm
    have m7 := M7.out hy
    have key : ∀ W : World, (∀ g, g ≠ q → W.heap[g]? = (w9.setCell ⟨r, 3, none⟩ (.slice (some ⟨s, 0, none⟩) 1 1)).heap[g]?) → W.heap.size = (w9.setCell ⟨r, 3, none⟩ (.slice (some ⟨s, 0, none⟩) 1 1)).heap.size → DdM w0 (fun x => q ≤ x) W (DM w0 (fun x => q ≤ x) W D) ⟨whT, [], a5, n5, c5, some ⟨s, 0, none⟩, 1, 1⟩ (.whl (smT l x1) (R (smV l 2 x1))) := by
      intro W hW hZ
      have hz10 : W.heap.size = s + 1 := by rw [hZ, hs10, hz9]
      have hk0 : ∀ g, g ≠ q → g ≠ r → g < s → W.heap[g]? = w7.heap[g]? := fun g h1 h2 h3 => ((hW g h1).trans (Below.heap_setCell _ _ _ _ h2)).trans (HL9.out.block g h3)
      have hsr : s ≠ r := by omega
      have hsq : s ≠ q := by omega
      refine ⟨rfl, m5.1, m5.2, .slice a7 n7 c7, rfl, ?_, ?_, ?_⟩
      · exact v1_lit [.slice a7 n7 c7] (by simp) (by omega) (((hW s hsq).trans (Below.heap_setCell _ _ _ _ hsr)).trans HN9.out)
      · intro g o e
        cases e
        exact ⟨by show q ≤ s; omega, by omega⟩
      · exact DM.keep (by omega) (fun g h1 h2 => hk0 g (by omega) (by omega) (by omega)) (fun g h _ => by show q ≤ g; omega) D _ _ m7
    exact key _ (fun g hg => put4_heap _ _ _ _ _ _ hg) (put4_size _ _ _ _ _ _)
  replace HD := Lib.hid (HD.out.trans (if_neg b4))
  replace HQ := Lib.hid (fun s h e => (HQ.out s h e).trans (if_neg b4))
  have q0 : ((tx t).toList == [115, 101, 116]) = false := by rw [Lib.toList_data, tx_data, beq_eq_false_iff_ne]; exact b0
  have q1 : ((tx t).toList == [99, 117, 116]) = false := by rw [Lib.toList_data, tx_data, beq_eq_false_iff_ne]; exact b1
  have q2 : ((tx t).toList == [115, 116, 111, 112]) = false := by rw [Lib.toList_data, tx_data, beq_eq_false_iff_ne]; exact b2
  have q3 : ((tx t).toList == [105, 102]) = false := by rw [Lib.toList_data, tx_data, beq_eq_false_iff_ne]; exact b3
  have q4 : ((tx t).toList == [119, 104, 105, 108, 101]) = false := by rw [Lib.toList_data, tx_data, beq_eq_false_iff_ne]; exact b4
  have d0 := D3.out.c0; have d1 := D3.out.c1; have d2 := D3.out.c2; have d3 := D3.out.c3
  have g0 := D3.out.f0; have g1 := D3.out.f1; have g2 := D3.out.f2; have g3 := D3.out.f3
  have e0 := Q3.out.c0; have e1 := Q3.out.c1; have e2 := Q3.out.c2; have e3 := Q3.out.c3
  have k0 := Q3.out.f0; have k1 := Q3.out.f1; have k2 := Q3.out.f2; have k3 := Q3.out.f3
  go_wp2_with fail
  generalize w2.heap.size = r at *
  generalize w2.alloc (.cells #[.string (tx t), .string ⟨#[]⟩, .slice none 0 0, .slice none 0 0] 115) = w4 at *
  clear d0 d1 d2 d3 g0 g1 g2 g3 e0 e1 e2 e3 k0 k1 k2 k3
  have D4 := D3; have Q4 := Q3; have R4 := R3; have BU4 := BU3
  refine (require_x R4.out false).mono ?_; rintro e w5 ⟨rfl, b5, r5⟩
  have D5 := Lib.hid (D4.out.but b5 hrp)
  have Q5 := Lib.hid (Q4.out.but b5 hqp)
  have BU5 := Lib.hid (BU4.out.trans b5)
  have hz5 : w4.heap.size ≤ w5.heap.size := b5.size
  have hk5 := Lib.hid b5
  have R5 := Lib.hid r5; clear r5 b5
  have d0 := D5.out.c0; have d1 := D5.out.c1; have d2 := D5.out.c2; have d3 := D5.out.c3
  have g0 := D5.out.f0; have g1 := D5.out.f1; have g2 := D5.out.f2; have g3 := D5.out.f3
  have e0 := Q5.out.c0; have e1 := Q5.out.c1; have e2 := Q5.out.c2; have e3 := Q5.out.c3
  have k0 := Q5.out.f0; have k1 := Q5.out.f1; have k2 := Q5.out.f2; have k3 := Q5.out.f3
  go_wp2_with fail
  refine bodyPost_ret (v := Dv.v ⟨t, [], none, 0, 0, none, 0, 0⟩) (by simp [results, Tryz.results106, go_sem, Dv.v, tx_nil, put4_c0 Q5.out, put4_c1 Q5.out, put4_c2 Q5.out, put4_c3 Q5.out]) rfl ⟨⟨t, [], none, 0, 0, none, 0, 0⟩, rfl, but_put4 BU5.out hwq _ _ _ _, (by rw [HD.out]; exact R5.out.put4 hqb hpq _ _ _ _), ?_⟩
  exact fun hn => absurd HD.out hn
def DdsC (w0 : World) (p : Nat) (l : List Tk) (D : Nat) (o : Int) (f : Int → Int) (R : Int → Sm) : Prop := ∀ (x : Int) (z : World), Sx w0 p l o x z →
  Calls Tryz.prog 93 #[.pointer (some ⟨p, 0, none⟩)] z fun e z' => ∃ a n c, e = .returned (.slice a n c) ∧ But p z z' ∧ Sx w0 p l o (dlE l f (l.length + 1) x) z' ∧ (dlE l f (l.length + 1) x ≠ -1 → DM w0 (z.heap.size ≤ ·) z' (D + 1) (.slice a n c) (dlR l f R (l.length + 1) x))
def DsI (w0 : World) (p : Nat) (l : List Tk) (D : Nat) (o : Int) (f : Int → Int) (R : Int → Sm) (z : World) (j : Int) (F : Sl) (k : Nat) (v : Value) (wr : World) : Prop :=
  ∃ (x : Int) (ds : List Dv) (fs : List Sm), Sx w0 p l o x wr ∧ But p z wr ∧ OwD z.heap.size wr v ds ∧ (x = -1 ∨ (l.length : Int) - x < k) ∧ j = dlE l f k x ∧ (x ≠ -1 → (ds.length : Int) ≤ x ∧ ds.length = fs.length ∧ F = preS fs (dlR l f R k x) ∧
    ∀ (i : Nat) (d : Dv) (g : Sm), ds[i]? = some d → fs[i]? = some g → DdM w0 (Kv z.heap.size v) wr (DM w0 (Kv z.heap.size v) wr D) d g)
theorem DsI.done {w0 : World} {p : Nat} {l : List Tk} {D : Nat} {o : Int} {f : Int → Int} {R : Int → Sm} {z : World} {j : Int} {F : Sl} {k : Nat} {v : Value} {wr : World} {x : Int} {ds : List Dv} {fs : List Sm}
    (ho : OwD z.heap.size wr v ds) (hx : x ≠ -1) (hk : (l.length : Int) - x < k) (hl : x ≤ l.length) (hc : tkA l x = none ∨ tkA l x = some [93])
    (h : (ds.length : Int) ≤ x ∧ ds.length = fs.length ∧ F = preS fs (dlR l f R k x) ∧ ∀ (i : Nat) (d : Dv) (g : Sm), ds[i]? = some d → fs[i]? = some g → DdM w0 (Kv z.heap.size v) wr (DM w0 (Kv z.heap.size v) wr D) d g) :
    dlE l f k x = x ∧ DM w0 (z.heap.size ≤ ·) wr (D + 1) v F := by
  obtain ⟨k, rfl⟩ : ∃ k', k = k' + 1 := ⟨k - 1, by omega⟩
  obtain ⟨-, h2, h3, h4⟩ := h
  have e1 : dlE l f (k + 1) x = x := by
    rw [dlE]
    rcases hc with hc | hc
    · rw [hc]
    · rw [hc]; exact if_pos rfl
  have e2 : dlR l f R (k + 1) x = .nil := by
    rw [dlR]
    rcases hc with hc | hc
    · rw [hc]
    · rw [hc]; exact if_pos rfl
  rw [e2] at h3
  refine ⟨e1, ds, fs, ho.mono fun _ _ => Nat.zero_le _, ho.lt, h2, fun i d g hd hg => ?_, h3⟩
  exact (h4 i d g hd hg).keep (Nat.le_refl _) (fun _ _ _ => rfl) (fun g h _ => h.1) (fun v f h => DM.keep (Nat.le_refl _) (fun _ _ _ => rfl) (fun g h _ => h.1) D v f h)
theorem DsI.step {w0 : World} {p : Nat} {l : List Tk} {D : Nat} {o : Int} {f : Int → Int} {R : Int → Sm} {z : World} {j : Int} {F : Sl} {k : Nat} {v v3 : Value} {wr w1 w2 w3 : World} {x : Int} {ds : List Dv} {fs : List Sm} {d : Dv} {s : Tk}
    (hA : ∀ i, Ahd l i (f i)) (hp : p < z.heap.size) (hb : But p z wr) (ho : OwD z.heap.size wr v ds) (hx : x ≠ -1) (hk : (l.length : Int) - x < (k + 1 : Nat)) (hj : j = dlE l f (k + 1) x) (hs : tkA l x = some s) (hne : s ≠ [93])
    (h : (ds.length : Int) ≤ x ∧ ds.length = fs.length ∧ F = preS fs (dlR l f R (k + 1) x) ∧ ∀ (i : Nat) (d : Dv) (g : Sm), ds[i]? = some d → fs[i]? = some g → DdM w0 (Kv z.heap.size v) wr (DM w0 (Kv z.heap.size v) wr D) d g)
    (b1 : But p wr w1) (hd : f x ≠ -1 → DdM w0 (wr.heap.size ≤ ·) w1 (DM w0 (wr.heap.size ≤ ·) w1 D) d (R x)) (b2 : Below w1.heap.size w1 w2) (hlt : w1.heap.size ≤ w2.heap.size) (g3 : w2.grownBy w3 v.ownBlock) (n3 : v3.ownBlock = v.ownBlock ∨ v3.ownBlock = some w2.heap.size) (o3 : OwD z.heap.size w3 v3 (ds ++ [d])) (hsx : Sx w0 p l o (f x) w3) :
    DsI w0 p l D o f R z j F k v3 w3 := by
  have e1 : dlE l f (k + 1) x = dlE l f k (f x) := by rw [dlE, hs]; exact if_neg hne
  have e2 : dlR l f R (k + 1) x = .cons (R x) (dlR l f R k (f x)) := by rw [dlR, hs]; exact if_neg hne
  obtain ⟨h1, h2, h3, h4⟩ := h
  have ha := hA x
  unfold Ahd at ha
  have hz := hb.size
  have hz1 := b1.size
  have hz3 := g3.size
  have hvlo : ∀ g, v.ownBlock = some g → z.heap.size ≤ g := ho.lt
  have hvhi : ∀ g, v.ownBlock = some g → g < wr.heap.size := ho.low
  refine ⟨f x, ds ++ [d], fs ++ [R x], hsx, ?_, o3, ?_, hj.trans e1, fun hn => ?_⟩
  · refine ⟨(g3.os.trans (b2.os.trans b1.os)).trans hb.os, (g3.tape.trans (b2.tape.trans b1.tape)).trans hb.tape, (g3.output.trans (b2.output.trans b1.output)).trans hb.output, by omega, fun g hg hne => ?_⟩
    exact ((g3.block g (by omega) (fun e => by have := hvlo g e.symm; omega)).trans (b2.block g (by omega))).trans ((b1.block g (by omega) hne).trans (hb.block g hg hne))
  · by_cases e : f x = -1
    · exact Or.inl e
    · right; omega
  · refine ⟨by rw [List.length_append]; simp; omega, by rw [List.length_append, List.length_append, h2]; rfl, by rw [h3, e2, preS_snoc], fun i d' g hd' hg' => ?_⟩
    have hv3 : ∀ g, g < w1.heap.size → v.ownBlock ≠ some g → v3.ownBlock ≠ some g := fun g hg hne e => by
      rcases n3 with n3 | n3
      · exact hne (n3.symm.trans e)
      · rw [n3] at e; cases e; omega
    rcases Nat.lt_or_ge i ds.length with hi | hi
    · rw [List.getElem?_append_left hi] at hd'
      rw [List.getElem?_append_left (by omega)] at hg'
      have hk1 : ∀ g, Kv z.heap.size v g → g < wr.heap.size → w3.heap[g]? = wr.heap[g]? := fun g hK hg =>
        ((g3.block g (by omega) (fun e => hK.2 e.symm)).trans (b2.block g (by omega))).trans (b1.block g hg (by have := hK.1; omega))
      have hk2 : ∀ g, Kv z.heap.size v g → g < wr.heap.size → Kv z.heap.size v3 g := fun g hK hg => ⟨hK.1, hv3 g (by omega) hK.2⟩
      exact (h4 i d' g hd' hg').keep (by omega) hk1 hk2 (fun v f h => DM.keep (by omega) hk1 hk2 D v f h)
    · rw [List.getElem?_append_right hi] at hd'
      rw [List.getElem?_append_right (by omega)] at hg'
      have hi0 : i - ds.length = 0 := by
        have := (List.getElem?_eq_some_iff.1 hd').1
        simp at this; omega
      rw [hi0] at hd'
      rw [← h2, hi0] at hg'
      simp at hd' hg'
      subst hd'; subst hg'
      have hne : ∀ g, wr.heap.size ≤ g → v.ownBlock ≠ some g := fun g hg e => by have := hvhi g e; omega
      have hk1 : ∀ g, wr.heap.size ≤ g → g < w1.heap.size → w3.heap[g]? = w1.heap[g]? := fun g hK hg => (g3.block g (by omega) (fun e => hne g hK e.symm)).trans (b2.block g hg)
      have hk2 : ∀ g, wr.heap.size ≤ g → g < w1.heap.size → Kv z.heap.size v3 g := fun g hK hg => ⟨by omega, hv3 g hg (hne g hK)⟩
      exact (hd hn).keep (by omega) hk1 hk2 (fun v f h => DM.keep (by omega) hk1 hk2 D v f h)
set_option maxHeartbeats 8000000 in
set_option maxRecDepth 100000 in
theorem deeds_of {w0 : World} {p : Nat} {l : List Tk} {D : Nat} {o : Int} {f : Int → Int} {R : Int → Sm} (hll : l.length ≤ 4194304) (hA : ∀ i, Ahd l i (f i)) (hC : DeedC w0 p l D o f R) : DdsC w0 p l D o f R := by
  intro x0 z hs
  have HC := Lib.hid hC
  have HA := Lib.hid hA
  have hp := hs.lo.2
  have hplo := hs.lo.1
  have HS := Lib.hid hs
  have HX0 := Lib.hid (show x0 = -1 ∨ (0 ≤ x0 ∧ x0 ≤ l.length) from by
    rcases hs with ⟨e, -⟩ | ⟨-, h0, h1, -⟩
    · exact Or.inl e
    · exact Or.inr ⟨h0, h1⟩)
  clear hs hC hA
  have HJ := Lib.hid (show dlE l f (l.length + 1) x0 = dlE l f (l.length + 1) x0 from rfl)
  have HF := Lib.hid (show dlR l f R (l.length + 1) x0 = dlR l f R (l.length + 1) x0 from rfl)
  have HN1 := Lib.hid (show x0 = -1 → dlE l f (l.length + 1) x0 = -1 from fun e => by rw [e]; exact dlE_neg _ _ _ (by omega))
  obtain ⟨j, hj⟩ : ∃ j, dlE l f (l.length + 1) x0 = j := ⟨_, rfl⟩
  obtain ⟨F, hF⟩ : ∃ F, dlR l f R (l.length + 1) x0 = F := ⟨_, rfl⟩
  rw [hj, hF]
  have H0 := Lib.hid (show DsI w0 p l D o f R z j F (l.length + 1) (.slice none 0 0) z from
    ⟨x0, [], [], HS.out, But.refl _ _, OwD.nothing _ _, (by have := HX0.out; omega), hj.symm, fun hn => ⟨by have := HX0.out; simp; omega, rfl, hF.symm, fun i d g hd => by simp at hd⟩⟩)
  clear hj hF HJ HF HN1 HX0 HS
  go_enter Tryz.func93, Tryz.ntmps93
  go_wp2_with fail
  go_loopg [3] (l.length + 1) (fun k v wr => DsI w0 p l D o f R z j F k v wr)
  case atStart => exact H0.out
  case round =>
    clear H0
    obtain ⟨x, ds, fs, hsx, hb, ho, hk, hj, hm⟩ := hrel
    obtain ⟨va, vc, rfl, -, -⟩ := ho.form
    have HO := Lib.hid ho
    have HB := Lib.hid hb
    have HJ := Lib.hid hj
    have HM := Lib.hid hm
    have HSX := Lib.hid hsx
    clear hb hj hm ho
    generalize hdl : ds.length = dl at *
    rcases hsx with ⟨e, lf, r⟩ | ⟨e, h0, h1, r⟩
    · have c2 := r.c2
      clear r
      go_wp2_with fail
      go_ret
      subst e
      have hjj : j = -1 := HJ.out.trans (dlE_neg _ _ _ (by omega))
      exact ⟨_, _, _, rfl, HB.out, by rw [hjj]; exact HSX.out, fun hn => absurd hjj hn⟩
    · have c2 := r.c2
      have hkk : (l.length : Int) - x < (gk : Nat) := by omega
      obtain ⟨a, cap, c0, hv⟩ := r.vw
      have hvl := hv.below r.bel
      clear r hv
      have HM' := Lib.hid (HM.out e)
      cases hs : tkA l x with
      | none =>
        rw [drop_no h0 hs] at c0
        replace c0 : wr.cell? ⟨p, 0, none⟩ = some (.slice a 0 cap) := c0
        clear hvl
        go_wp2_with fail
        go_ret
        obtain ⟨e1, e2⟩ := DsI.done (R := R) (o := o) (p := p) (j := j) HO.out e hkk h1 (Or.inl hs) (by rw [hdl]; exact HM'.out)
        have hjj : j = x := HJ.out.trans e1
        exact ⟨_, _, _, rfl, HB.out, by rw [hjj]; exact HSX.out, fun _ => e2⟩
      | some s =>
        rw [drop_tk hs] at c0 hvl
        obtain ⟨n, hn⟩ : ∃ n, (l.drop (x + 1).toNat).length = n := ⟨_, rfl⟩
        rw [List.length_cons, hn] at c0
        obtain ⟨g, q, rfl, hg, x0'⟩ := hvl.tx (l := s :: l.drop (x + 1).toNat) (k := 0) rfl
        rw [Nat.add_zero] at x0'
        clear hvl hn
        have t0 : decide ((0 : Int) < ((n + 1 : Nat) : Int)) = true := by simp
        have t1 : (0 : Int) < ((n + 1 : Nat) : Int) := by omega
        by_cases hb : s = [93]
        · subst hb
          have qe : ((tx [93]).toList == [93]) = true := tx_eqL _
          go_wp2_with fail
          go_ret
          obtain ⟨e1, e2⟩ := DsI.done (R := R) (o := o) (p := p) (j := j) HO.out e hkk h1 (Or.inr hs) (by rw [hdl]; exact HM'.out)
          have hjj : j = x := HJ.out.trans e1
          exact ⟨_, _, _, rfl, HB.out, by rw [hjj]; exact HSX.out, fun _ => e2⟩
        · have qe : ((tx s).toList == [93]) = false := by rw [Lib.toList_data, tx_data, beq_eq_false_iff_ne]; exact hb
          have HD := Lib.hid (HC.out x wr HSX.out)
          have HTS := Lib.hid hs
          obtain ⟨k, rfl⟩ : ∃ k', gk = k' + 1 := ⟨gk - 1, by omega⟩
          clear hg hs
          go_wp2_with fail
          refine HD.out.mono ?_; rintro e w1 ⟨d, rfl, b1, r1, m1⟩
          have B1 := Lib.hid b1
          have M1 := Lib.hid m1
          have R1 := Lib.hid r1
          have BO := Lib.hid (HB.out.trans b1)
          have O1 := Lib.hid (HO.out.same (fun g hg => b1.block g (HO.out.low g hg) (by have := HO.out.lt g hg; omega)))
          clear b1 m1 r1
          have VL := Lib.hid (litD w1 d)
          have hbl := bel1 w1 (.cells #[.string (tx d.h), .string (tx d.n), .slice d.sa d.sn d.sc, .slice d.ba d.bn d.bc] 115)
          have O2 := Lib.hid (O1.out.same (fun g hg => hbl.block g (O1.out.low g hg)))
          have R2 := Lib.hid (R1.out.next hbl)
          have BL2 := Lib.hid hbl
          have hz2 := hbl.size
          have hzz : z.heap.size ≤ (w1.alloc (.cells #[.string (tx d.h), .string (tx d.n), .slice d.sa d.sn d.sc, .slice d.ba d.bn d.bc] 115)).heap.size := by have := BO.out.size; omega
          have hdm : ds.length ≤ 4194304 := by have := HM'.out.1; omega
          clear hbl
          unfold Dv.v
          go_wp2_with (first
            | (at_builtin; refine append_deeds rfl (.tmp 26) (.tmp 29) rfl (base := z.heap.size) (l := ds) (m := [d]) rfl rfl rfl O2.out VL.out (by simp; omega) hzz ?_; intro v3 w3 o3 g3 n3; have G3 := Lib.hid (And.intro o3 (And.intro g3 n3)); clear o3 g3 n3)
            | fail)
          go_roundg k
          case measure => omega
          case rel =>
            obtain ⟨o3, g3, n3⟩ := G3.out
            exact DsI.step HA.out hp HB.out HO.out e hkk HJ.out HTS.out hb (by rw [hdl]; exact HM'.out) B1.out M1.out BL2.out hz2 g3 n3 o3 (R2.out.grown g3 (fun g hg => ⟨by have := O2.out.lt g hg; omega, by have := O2.out.lt g hg; omega⟩))
theorem blR_y {l : List Tk} {f : Int → Int} {R : Int → Sm} {x y : Int} (hy : y = if tkN l x = [91] then tkX l x else -1) (h : y ≠ -1) : blR l f R x = dlR l f R (l.length + 1) y := by
  split at hy
  · rename_i e
    have e1 := (tkN_is (by simp)).1 e
    have e2 : tkX l x = x + 1 := by unfold tkX; rw [if_neg (by rw [e1]; simp)]
    rw [hy, e2]; rfl
  · exact absurd hy h
set_option maxHeartbeats 8000000 in
set_option maxRecDepth 100000 in
theorem block_core {w0 : World} {p : Nat} {l : List Tk} {D : Nat} {o x y J : Int} {F : Sl} {z : World} (hs : Sx w0 p l o x z) (ho : -1000 ≤ o ∧ o ≤ 1000) (hy : y = if tkN l x = [91] then (if o + 1 ≤ 5 then tkX l x else -1) else -1)
    (hD : ∀ z, Sx w0 p l (o + 1) y z → Calls Tryz.prog 93 #[.pointer (some ⟨p, 0, none⟩)] z fun e z' => ∃ a n c, e = .returned (.slice a n c) ∧ But p z z' ∧ Sx w0 p l (o + 1) J z' ∧ (J ≠ -1 → DM w0 (z.heap.size ≤ ·) z' D (.slice a n c) F)) :
    Calls Tryz.prog 120 #[.pointer (some ⟨p, 0, none⟩)] z fun e z' => ∃ a n c, e = .returned (.slice a n c) ∧ But p z z' ∧ Sx w0 p l o (if tkN l J = [93] then tkX l J else -1) z' ∧ (J ≠ -1 → DM w0 (z.heap.size ≤ ·) z' D (.slice a n c) F) := by
  have HD := Lib.hid hD; clear hD
  have hp := hs.lo.2
  have c1 := hs.c1
  have f1 := hs.f1
  have i1 : IntKind.i64.wrap (o + 1) = o + 1 := by rw [IntKind.wrap_i64]; omega
  have i2 : IntKind.i64.wrap (o + 1 - 1) = o := by rw [IntKind.wrap_i64]; omega
  have HT := Lib.hid (token_x (hs.open (o + 1)))
  have BU1 := Lib.hid (but_set z p 1 (.int .i64 (o + 1)))
  have HY := Lib.hid hy
  clear hs hy
  obtain ⟨zz, hzz⟩ : ∃ zz, (if tkN l J = [93] then tkX l J else -1) = zz := ⟨_, rfl⟩
  rw [hzz]
  have HZ := Lib.hid hzz
  clear hzz
  generalize hx1 : tkX l x = x1 at *
  clear hx1
  go_enter Tryz.func120, Tryz.ntmps120
  go_wp2_with fail
  generalize z.setCell ⟨p, 1, none⟩ (.int .i64 (o + 1)) = w1 at *
  clear c1 f1
  refine HT.out.mono ?_; rintro e w2 ⟨t, rfl, b2, r2, ht⟩
  have BU2 := Lib.hid (BU1.out.trans b2)
  have R2 := Lib.hid r2
  rw [← ht] at HY
  have c2 := r2.c1
  clear b2 r2 ht HT
  by_cases h91 : t = [91]
  · subst h91
    have qe : ((tx [91]).toList == [91]) = true := tx_eqL _
    by_cases ho5 : o + 1 ≤ 5
    · have q5 : decide (o + 1 ≤ 5) = true := by simpa using ho5
      have hq0 : True := trivial
      go_wp2_with fail
      have HY' := Lib.hid (show y = (if (true : Bool) then x1 else -1) from by rw [HY.out]; simp [ho5])
      refine (require_x R2.out true).mono ?_; rintro e w3 ⟨rfl, b3, r3⟩
      rw [← HY'.out] at r3
      have BU3 := Lib.hid (BU2.out.trans b3)
      have R3 := Lib.hid r3
      clear b3 r3
      go_wp2_with fail
      refine (HD.out w3 R3.out).mono ?_; rintro e w4 ⟨a4, n4, cc4, rfl, b4, r4, m4⟩
      have BU4 := Lib.hid (BU3.out.trans b4)
      have R4 := Lib.hid r4
      have M4 := Lib.hid m4
      have hz3 : z.heap.size ≤ w3.heap.size := BU3.out.size
      clear b4 r4 m4
      go_wp2_with fail
      refine (token_x R4.out).mono ?_; rintro e w5 ⟨t5, rfl, b5, r5, ht5⟩
      have BU5 := Lib.hid (BU4.out.trans b5)
      have R5 := Lib.hid r5
      have B5 := Lib.hid b5
      have HT5 := Lib.hid ht5
      clear b5 r5 ht5
      by_cases h93 : t5 = [93]
      · subst h93
        have qe5 : ((tx [93]).toList == [93]) = true := tx_eqL _
        go_wp2_with fail
        refine (require_x R5.out true).mono ?_; rintro e w6 ⟨rfl, b6, r6⟩
        have BU6 := Lib.hid (BU5.out.trans b6)
        have B6 := Lib.hid (B5.out.trans b6)
        have R6 := Lib.hid (r6.open o)
        have c6 := r6.c1
        have f6 := r6.f1
        clear b6 r6
        go_wp2_with fail
        go_ret
        refine ⟨a4, n4, cc4, rfl, BU6.out.trans (but_set w6 p 1 _), ?_, fun hn => ?_⟩
        · rw [← HZ.out, ← HT5.out, if_pos rfl]; exact R6.out
        · have hbb := B6.out.trans (but_set w6 p 1 (.int .i64 o))
          exact DM.keep hbb.size (fun g h1 h2 => hbb.block g h2 (by have := BU3.out.size; omega)) (fun g h1 h2 => by show z.heap.size ≤ g; omega) D _ _ (M4.out hn)
      · have qe5 : ((tx t5).toList == [93]) = false := by rw [Lib.toList_data, tx_data, beq_eq_false_iff_ne]; exact h93
        go_wp2_with fail
        refine (require_x R5.out false).mono ?_; rintro e w6 ⟨rfl, b6, r6⟩
        have BU6 := Lib.hid (BU5.out.trans b6)
        have B6 := Lib.hid (B5.out.trans b6)
        have R6 := Lib.hid (r6.open o)
        have c6 := r6.c1
        have f6 := r6.f1
        clear b6 r6
        go_wp2_with fail
        go_ret
        refine ⟨a4, n4, cc4, rfl, BU6.out.trans (but_set w6 p 1 _), ?_, fun hn => ?_⟩
        · rw [← HZ.out, ← HT5.out, if_neg h93]; exact R6.out
        · have hbb := B6.out.trans (but_set w6 p 1 (.int .i64 o))
          exact DM.keep hbb.size (fun g h1 h2 => hbb.block g h2 (by have := BU3.out.size; omega)) (fun g h1 h2 => by show z.heap.size ≤ g; omega) D _ _ (M4.out hn)
    · have q5 : decide (o + 1 ≤ 5) = false := by simpa using ho5
      have hq0 : True := trivial
      go_wp2_with fail
      have HY' := Lib.hid (show y = (if (false : Bool) then x1 else -1) from by rw [HY.out]; simp; omega)
      refine (require_x R2.out false).mono ?_; rintro e w3 ⟨rfl, b3, r3⟩
      rw [← HY'.out] at r3
      have BU3 := Lib.hid (BU2.out.trans b3)
      have R3 := Lib.hid r3
      clear b3 r3
      go_wp2_with fail
      refine (HD.out w3 R3.out).mono ?_; rintro e w4 ⟨a4, n4, cc4, rfl, b4, r4, m4⟩
      have BU4 := Lib.hid (BU3.out.trans b4)
      have R4 := Lib.hid r4
      have M4 := Lib.hid m4
      have hz3 : z.heap.size ≤ w3.heap.size := BU3.out.size
      clear b4 r4 m4
      go_wp2_with fail
      refine (token_x R4.out).mono ?_; rintro e w5 ⟨t5, rfl, b5, r5, ht5⟩
      have BU5 := Lib.hid (BU4.out.trans b5)
      have R5 := Lib.hid r5
      have B5 := Lib.hid b5
      have HT5 := Lib.hid ht5
      clear b5 r5 ht5
      by_cases h93 : t5 = [93]
      · subst h93
        have qe5 : ((tx [93]).toList == [93]) = true := tx_eqL _
        go_wp2_with fail
        refine (require_x R5.out true).mono ?_; rintro e w6 ⟨rfl, b6, r6⟩
        have BU6 := Lib.hid (BU5.out.trans b6)
        have B6 := Lib.hid (B5.out.trans b6)
        have R6 := Lib.hid (r6.open o)
        have c6 := r6.c1
        have f6 := r6.f1
        clear b6 r6
        go_wp2_with fail
        go_ret
        refine ⟨a4, n4, cc4, rfl, BU6.out.trans (but_set w6 p 1 _), ?_, fun hn => ?_⟩
        · rw [← HZ.out, ← HT5.out, if_pos rfl]; exact R6.out
        · have hbb := B6.out.trans (but_set w6 p 1 (.int .i64 o))
          exact DM.keep hbb.size (fun g h1 h2 => hbb.block g h2 (by have := BU3.out.size; omega)) (fun g h1 h2 => by show z.heap.size ≤ g; omega) D _ _ (M4.out hn)
      · have qe5 : ((tx t5).toList == [93]) = false := by rw [Lib.toList_data, tx_data, beq_eq_false_iff_ne]; exact h93
        go_wp2_with fail
        refine (require_x R5.out false).mono ?_; rintro e w6 ⟨rfl, b6, r6⟩
        have BU6 := Lib.hid (BU5.out.trans b6)
        have B6 := Lib.hid (B5.out.trans b6)
        have R6 := Lib.hid (r6.open o)
        have c6 := r6.c1
        have f6 := r6.f1
        clear b6 r6
        go_wp2_with fail
        go_ret
        refine ⟨a4, n4, cc4, rfl, BU6.out.trans (but_set w6 p 1 _), ?_, fun hn => ?_⟩
        · rw [← HZ.out, ← HT5.out, if_neg h93]; exact R6.out
        · have hbb := B6.out.trans (but_set w6 p 1 (.int .i64 o))
          exact DM.keep hbb.size (fun g h1 h2 => hbb.block g h2 (by have := BU3.out.size; omega)) (fun g h1 h2 => by show z.heap.size ≤ g; omega) D _ _ (M4.out hn)
  · have qe : ((tx t).toList == [91]) = false := by rw [Lib.toList_data, tx_data, beq_eq_false_iff_ne]; exact h91
    have hq0 : True := trivial
    go_wp2_with fail
    have HY' := Lib.hid (show y = (if (false : Bool) then x1 else -1) from by rw [HY.out]; simp [h91])
    refine (require_x R2.out false).mono ?_; rintro e w3 ⟨rfl, b3, r3⟩
    rw [← HY'.out] at r3
    have BU3 := Lib.hid (BU2.out.trans b3)
    have R3 := Lib.hid r3
    clear b3 r3
    go_wp2_with fail
    refine (HD.out w3 R3.out).mono ?_; rintro e w4 ⟨a4, n4, cc4, rfl, b4, r4, m4⟩
    have BU4 := Lib.hid (BU3.out.trans b4)
    have R4 := Lib.hid r4
    have M4 := Lib.hid m4
    have hz3 : z.heap.size ≤ w3.heap.size := BU3.out.size
    clear b4 r4 m4
    go_wp2_with fail
    refine (token_x R4.out).mono ?_; rintro e w5 ⟨t5, rfl, b5, r5, ht5⟩
    have BU5 := Lib.hid (BU4.out.trans b5)
    have R5 := Lib.hid r5
    have B5 := Lib.hid b5
    have HT5 := Lib.hid ht5
    clear b5 r5 ht5
    by_cases h93 : t5 = [93]
    · subst h93
      have qe5 : ((tx [93]).toList == [93]) = true := tx_eqL _
      go_wp2_with fail
      refine (require_x R5.out true).mono ?_; rintro e w6 ⟨rfl, b6, r6⟩
      have BU6 := Lib.hid (BU5.out.trans b6)
      have B6 := Lib.hid (B5.out.trans b6)
      have R6 := Lib.hid (r6.open o)
      have c6 := r6.c1
      have f6 := r6.f1
      clear b6 r6
      go_wp2_with fail
      go_ret
      refine ⟨a4, n4, cc4, rfl, BU6.out.trans (but_set w6 p 1 _), ?_, fun hn => ?_⟩
      · rw [← HZ.out, ← HT5.out, if_pos rfl]; exact R6.out
      · have hbb := B6.out.trans (but_set w6 p 1 (.int .i64 o))
        exact DM.keep hbb.size (fun g h1 h2 => hbb.block g h2 (by have := BU3.out.size; omega)) (fun g h1 h2 => by show z.heap.size ≤ g; omega) D _ _ (M4.out hn)
    · have qe5 : ((tx t5).toList == [93]) = false := by rw [Lib.toList_data, tx_data, beq_eq_false_iff_ne]; exact h93
      go_wp2_with fail
      refine (require_x R5.out false).mono ?_; rintro e w6 ⟨rfl, b6, r6⟩
      have BU6 := Lib.hid (BU5.out.trans b6)
      have B6 := Lib.hid (B5.out.trans b6)
      have R6 := Lib.hid (r6.open o)
      have c6 := r6.c1
      have f6 := r6.f1
      clear b6 r6
      go_wp2_with fail
      go_ret
      refine ⟨a4, n4, cc4, rfl, BU6.out.trans (but_set w6 p 1 _), ?_, fun hn => ?_⟩
      · rw [← HZ.out, ← HT5.out, if_neg h93]; exact R6.out
      · have hbb := B6.out.trans (but_set w6 p 1 (.int .i64 o))
        exact DM.keep hbb.size (fun g h1 h2 => hbb.block g h2 (by have := BU3.out.size; omega)) (fun g h1 h2 => by show z.heap.size ≤ g; omega) D _ _ (M4.out hn)
theorem block0 {w0 : World} {p : Nat} {l : List Tk} : BlkC w0 p l 0 5 (fun _ => -1) (fun _ => .nil) := by
  intro x z hs
  refine (block_core (D := 0) (J := -1) (F := .nil) (y := -1) hs (by decide) ?_ (fun z h => ?_)).mono ?_
  · split <;> simp
  · refine (deeds_fail h).mono ?_; rintro e z' ⟨rfl, rfl⟩
    exact ⟨_, _, _, rfl, But.refl _ _, h, fun e => absurd rfl e⟩
  · rintro e z' ⟨a, n, c, rfl, b, r, -⟩
    rw [tkN_neg, if_neg (by simp)] at r
    exact ⟨a, n, c, rfl, b, r, fun e => absurd rfl e⟩
theorem block_of {w0 : World} {p : Nat} {l : List Tk} {D : Nat} {o : Int} {f : Int → Int} {R : Int → Sm} (ho : -1000 ≤ o ∧ o ≤ 4) (hA : ∀ i, Ahd l i (f i)) (hC : DdsC w0 p l D (o + 1) f R) : BlkC w0 p l (D + 1) o (blS l f) (blR l f R) := by
  intro x z hs
  obtain ⟨y, hy⟩ : ∃ y, y = if tkN l x = [91] then tkX l x else -1 := ⟨_, rfl⟩
  have hb := blX hA x y _ hy rfl
  refine (block_core (D := D + 1) (J := dlE l f (l.length + 1) y) (F := dlR l f R (l.length + 1) y) (y := y) hs (by omega) (by rw [hy, if_pos (by omega : o + 1 ≤ 5)]) (fun z h => hC y z h)).mono ?_
  rintro e z' ⟨a, n, c, rfl, b, r, m⟩
  rw [← hb] at r
  refine ⟨a, n, c, rfl, b, r, fun hn => ?_⟩
  have hy1 : y ≠ -1 := fun e => hn (by rw [hb, e, dlE_neg _ _ _ (by omega), tkN_neg]; simp)
  have hj1 : dlE l f (l.length + 1) y ≠ -1 := fun e => hn (by rw [hb, e, tkN_neg]; simp)
  rw [blR_y hy hy1]
  exact m hj1
theorem deed_all {w0 : World} {p : Nat} {l : List Tk} (hL : Lib3 w0) (hll : l.length ≤ 4194304) : ∀ D : Nat, D ≤ 5 → DeedC w0 p l D (5 - D) (ddE l D) (ddR l D)
  | 0, _ => deed_of hL rfl block0
  | D + 1, h => by
    have ih := deed_all (p := p) hL hll D (by omega)
    have h1 := deeds_of hll (ddE_ahd l D) ih
    have h2 := block_of (o := 5 - ((D + 1 : Nat) : Int)) (by omega) (ddE_ahd l D) (by rw [show (5 : Int) - ((D + 1 : Nat) : Int) + 1 = 5 - (D : Int) by omega]; exact h1)
    exact deed_of hL (ahd_neg (bls_ahd (ddE_ahd l D))) h2
theorem deeds_top {w0 : World} {p : Nat} {l : List Tk} (hL : Lib3 w0) (hll : l.length ≤ 4194304) : DdsC w0 p l 5 0 (ddE l 5) (ddR l 5) := deeds_of hll (ddE_ahd l 5) (deed_all hL hll 5 (by omega))
theorem Rd.at_ {w0 w : World} (hb : Below w0.heap.size w0 w) {a : Option Addr} {cap n : Nat} {l : List Tk} {T : TypeId} (hn : l.length = n) (hbd : Bd l) (hv : V1 w0 a cap (txL l)) : Rd w0 w.heap.size l 0 false (w.alloc (.cells #[.slice a n cap, .int .i64 0, .bool false] T)) := by
  have e := new_of w (.cells #[.slice a n cap, .int .i64 0, .bool false] T)
  exact ⟨hb.trans ((bel1 _ _).mono hb.size), hb.size, by rw [World.size_alloc]; omega, hbd, ⟨a, cap, by rw [hn]; simp only [World.cell?, e]; rfl, hv⟩, by simp only [World.cell?, e]; rfl, by simp only [World.cell?, e]; rfl,
    by simp only [World.frozen?, e]; rfl, by simp only [World.frozen?, e]; rfl, by simp only [World.frozen?, e]; rfl⟩
set_option maxHeartbeats 4000000 in
set_option maxRecDepth 100000 in
theorem deedsOf_any (w0 w : World) (hw0 : Below w0.heap.size w0 w) (a : Option Addr) (cap : Nat) (l : List Tk) (n : Nat) (hn : l.length = n) (hv : V1 w0 a cap (txL l)) (hl : n ≤ 4194304) (hm : ∀ s ∈ l, s.length ≤ 4194304) (hL : Lib3 w0) :
    Calls Tryz.prog 74 #[.slice a n cap] w fun e w' => ∃ b m c, e = .returned (.tuple #[.slice b m c, .bool (rcB l)]) ∧ Below w.heap.size w w' ∧ (rcB l = true → DM w0 (w.heap.size ≤ ·) w' 6 (.slice b m c) (rcR l)) := by
  have HR := Lib.hid (rcB_dl l)
  by_cases h120 : l.length ≤ 120
  · rw [decide_eq_true h120, Bool.true_and] at HR
    have y0 : decide ((120 : Int) < (n : Int)) = false := by simp; omega
    have y1 : ¬ (120 : Int) < (n : Int) := by omega
    have y2 : decide (120 < n) = false := by simp; omega
    have hrd := Rd.at_ (T := 108) hw0 hn ⟨by omega, hm⟩ hv
    have HBL := Lib.hid (bel1 w (.cells #[.slice a n cap, .int .i64 0, .bool false] 108))
    have hz : (w.alloc (.cells #[.slice a n cap, .int .i64 0, .bool false] 108)).heap.size = w.heap.size + 1 := World.size_alloc _ _
    have HD := Lib.hid (deeds_top (p := w.heap.size) hL (by omega) 0 _ (Or.inr ⟨by decide, by decide, by omega, hrd⟩))
    have HF := Lib.hid (show rcR l = dlR l (ddE l 5) (ddR l 5) (l.length + 1) 0 from rfl)
    clear hrd hv hm hw0
    generalize hq : w.heap.size = q at *
    obtain ⟨J, hJ⟩ : ∃ J, dlE l (ddE l 5) (l.length + 1) 0 = J := ⟨_, rfl⟩
    obtain ⟨G, hG⟩ : ∃ G, dlR l (ddE l 5) (ddR l 5) (l.length + 1) 0 = G := ⟨_, rfl⟩
    obtain ⟨rb, hrb⟩ : ∃ rb, rcB l = rb := ⟨_, rfl⟩
    rw [hJ] at HR HD
    rw [hG] at HF HD
    rw [hrb] at HR ⊢
    rw [HF.out]
    clear hJ hG hrb HF
    go_enter Tryz.func74, Tryz.ntmps74
    go_wp2_with fail
    generalize w.alloc (.cells #[.slice a n cap, .int .i64 0, .bool false] 108) = w1 at *
    refine HD.out.mono ?_; rintro e w2 ⟨b, m, c, rfl, b2, r2, m2⟩
    have B2 := Lib.hid (HBL.out.trans (b2.below (Nat.le_refl _) (by omega)))
    have M2 := Lib.hid m2
    have hk : ∀ g, w1.heap.size ≤ g → q ≤ g := fun g hg => by omega
    have HK := Lib.hid (fun (hn : J ≠ -1) => DM.keep (w' := w2) (K' := (q ≤ ·)) (Nat.le_refl _) (fun _ _ _ => rfl) (fun g h _ => hk g h) 6 _ _ (m2 hn))
    have hc := r2.cases
    clear b2 r2 m2 M2 hk HD
    rcases hc with ⟨hx, c2⟩ | ⟨h0, h1, c2, a3, cap3, c0⟩
    · go_wp2_with fail
      have hf : rb = false := by rw [HR.out, hx]; simp
      refine bodyPost_ret (v := .tuple #[.slice none 0 0, .bool false]) (by simp [results, Tryz.results74, go_sem]) rfl ⟨none, 0, 0, by rw [hf], B2.out, fun e => by rw [hf] at e; cases e⟩
    · obtain ⟨k, hkk⟩ : ∃ k, l.length - J.toNat = k := ⟨_, rfl⟩
      rw [hkk] at c0
      by_cases hk0 : k = 0
      · have t0 : decide ((0 : Int) < (k : Int)) = false := by simp; omega
        have t1 : decide (0 < k) = false := by simp; omega
        have t2 : ¬ (0 : Int) < (k : Int) := by omega
        have hrb : rb = true := by rw [HR.out]; simp; omega
        have hj : J ≠ -1 := by omega
        clear hkk
        subst hk0
        go_wp2_with fail
        refine bodyPost_ret (v := .tuple #[.slice b m c, .bool true]) (by simp [results, Tryz.results74, go_sem]) rfl ⟨b, m, c, by rw [hrb], B2.out, fun _ => HK.out hj⟩
      · have t0 : decide ((0 : Int) < (k : Int)) = true := by simp; omega
        have t1 : decide (0 < k) = true := by simp; omega
        have t2 : (0 : Int) < (k : Int) := by omega
        have hrb : rb = false := by rw [HR.out]; simp; omega
        clear hkk hk0
        go_wp2_with fail
        refine bodyPost_ret (v := .tuple #[.slice none 0 0, .bool false]) (by simp [results, Tryz.results74, go_sem]) rfl ⟨none, 0, 0, by rw [hrb], B2.out, fun e => by rw [hrb] at e; cases e⟩
  · rw [decide_eq_false h120, Bool.false_and] at HR
    have y0 : decide ((120 : Int) < (n : Int)) = true := by simp; omega
    have y1 : (120 : Int) < (n : Int) := by omega
    have y2 : decide (120 < n) = true := by simp; omega
    rw [HR.out]
    clear hv hm
    go_enter Tryz.func74, Tryz.ntmps74
    go_wp2_with fail
    refine bodyPost_ret (v := .tuple #[.slice none 0 0, .bool false]) (by simp [results, Tryz.results74, go_sem]) rfl ⟨none, 0, 0, rfl, Below.refl _ _, fun e => by cases e⟩
end Go.Proofs.YtfnnoehpahdgcaaGreatDoor.Cl.T
namespace Go.Proofs.YtfnnoehpahdgcaaGreatDoor.Cl
set_option linter.unusedVariables false
open Go.RowKit Wd Rp Kp Ra Go.Shelf
attribute [local go_sem] Oper.semAt_some
def csO (p : Int × Bool) : List Value := [.int .i64 p.1, .bool p.2]
theorem csO_len : ∀ l : List (Int × Bool), (l.flatMap csO).length = l.length * 2
  | [] => rfl
  | c :: l => by rw [List.flatMap_cons, List.length_append, csO_len l, List.length_cons]; show 2 + l.length * 2 = _; omega
theorem infoOutP : (Tryz.prog.info? 144).map (fun i => (i.zero, i.size, i.bytes)) = some (some (.agg #[.int .i64 0, .bool false]), 2, 16) := by kernel_rfl
theorem lit_news2 (w : World) (x y : Value) (T : TypeId) : ∀ (j : Nat) (u : Value), [x, y][j]? = some u → (w.alloc (.cells #[x, y] T)).cell? ((⟨w.heap.size, 0, none⟩ : Addr).add j) = some u := fun j u hj => by
  obtain ⟨h0, h1, -, -⟩ := two_cells (new_of w (.cells #[x, y] T))
  match j, hj with
  | 0, hj => simp at hj; subst hj; exact h0
  | 1, hj => simp at hj; subst hj; exact h1
theorem topO {w : World} {B g k cap : Nat} {T : TypeId} {r : List (Int × Bool)} {a b : Int × Bool} (h : w.ownsRow B T 2 (.slice (some ⟨g, 0, none⟩) (k + 1 + 1) cap) (k + 1 + 1) ((r ++ [b, a]).flatMap csO)) (hk : r.length = k) :
    (w.cell? ⟨g, (k + 1) * 2, none⟩ = some (.int .i64 a.1) ∧ w.cell? ⟨g, (k + 1) * 2 + 1, none⟩ = some (.bool a.2)) ∧ (w.cell? ⟨g, k * 2, none⟩ = some (.int .i64 b.1) ∧ w.cell? ⟨g, k * 2 + 1, none⟩ = some (.bool b.2)) ∧ w.frozen? ⟨g, k * 2, none⟩ = false ∧ w.frozen? ⟨g, k * 2 + 1, none⟩ = false := by
  have e : (r ++ [b, a]).flatMap csO = r.flatMap csO ++ [.int .i64 b.1, .bool b.2, .int .i64 a.1, .bool a.2] := by rw [List.flatMap_append]; rfl
  have hl := csO_len r
  rw [hk] at hl
  have key : ∀ j, j < 4 → w.cell? ⟨g, k * 2 + j, none⟩ = [Value.int .i64 b.1, .bool b.2, .int .i64 a.1, .bool a.2][j]? := fun j hj => by
    rw [World.ownsRow.cellAt h (k * 2 + j) (by omega), e, List.getElem?_append_right (by omega), show k * 2 + j - (r.flatMap csO).length = j by omega]
  refine ⟨⟨?_, ?_⟩, ⟨key 0 (by decide), key 1 (by decide)⟩, World.ownsRow.frozenAt h _, World.ownsRow.frozenAt h _⟩
  · have := key 2 (by decide); rwa [show k * 2 + 2 = (k + 1) * 2 by omega] at this
  · have := key 3 (by decide); rwa [show k * 2 + 3 = (k + 1) * 2 + 1 by omega] at this
theorem putO {k : Nat} {r : List (Int × Bool)} {a b x : Int × Bool} (hk : r.length = k) : (r ++ [x]).flatMap csO = ((((r ++ [b, a]).flatMap csO).set (k * 2) (.int .i64 x.1)).set (k * 2 + 1) (.bool x.2)).take ((k + 1) * 2) := by
  have hl := csO_len r
  rw [hk] at hl
  have e : (r ++ [b, a]).flatMap csO = r.flatMap csO ++ [.int .i64 b.1, .bool b.2, .int .i64 a.1, .bool a.2] := by rw [List.flatMap_append]; rfl
  have e2 : (r ++ [x]).flatMap csO = r.flatMap csO ++ [.int .i64 x.1, .bool x.2] := by rw [List.flatMap_append]; rfl
  rw [e, e2]
  generalize r.flatMap csO = m at *
  rw [List.set_append_right _ _ (by omega), List.set_append_right _ _ (by omega), hl, Nat.sub_self, show k * 2 + 1 - k * 2 = 1 by omega]
  rw [show (k + 1) * 2 = m.length + 2 by omega, List.take_length_add_append]; rfl
set_option maxHeartbeats 8000000 in
set_option maxRecDepth 100000 in
theorem foldedOut_any (f : Tk → (Int × Bool)) (g : Nat → (Int × Bool) → (Int × Bool) → (Int × Bool)) (w : World) (a : Option Addr) (cap n : Nat) (t : List Tk) (hn : t.length = n) (hv : V1 w a cap (txL t)) (hl : n ≤ 4194304) (hm : ∀ s ∈ t, s.length ≤ 4194304) (hL : Lib3 w) (hen : en t 1 = some t.length)
    (f1 f2 : Nat) (lb1 : Array Value) (he1 : ∀ args z, (callFunc f1 args).run Tryz.prog z = .ok (.enter f1 args) z) (he2 : ∀ args z, (callFunc f2 args).run Tryz.prog z = .ok (.enter f2 args) z)
    (hone : ∀ (s : Tk) (W : World), s ∈ t → isL s = true → Below w.heap.size w W → Calls Tryz.prog f1 (#[sgV s] ++ lb1) W fun e w' => e = .returned (.agg #[.int .i64 (f s).1, .bool (f s).2]) ∧ Below W.heap.size W w')
    (htwo : ∀ (o : Nat) (x y : (Int × Bool)) (W : World), 1 ≤ o → o ≤ 7 → Calls Tryz.prog f2 #[.int .i64 o, .agg #[.int .i64 x.1, .bool x.2], .agg #[.int .i64 y.1, .bool y.2]] W fun e w' => e = .returned (.agg #[.int .i64 (g o x y).1, .bool (g o x y).2]) ∧ Below W.heap.size W w') :
    Calls Tryz.prog 136 #[.slice a n cap, .func (.func f1) #[] lb1, .func (.func f2) #[] #[]] w fun e w' => ∃ r, stk f g t = [r] ∧ e = .returned (.agg #[.int .i64 r.1, .bool r.2]) ∧ Below w.heap.size w w' := by
  have HN := Lib.hid hn
  have HV := Lib.hid hv
  have HM := Lib.hid hm
  have HL := Lib.hid hL
  have HEN := Lib.hid hen
  have HONE := Lib.hid hone
  have HTWO := Lib.hid htwo
  have hn1 : 1 ≤ n := by have := en_pos hen; omega
  clear hv hm hL hen hone htwo
  obtain ⟨i0, hi, hz0, hz1, hz2⟩ := info_parts infoOutP
  obtain ⟨c00, hc00⟩ : ∃ c, t[0]? = some c := ⟨t[0]'(by omega), List.getElem?_eq_getElem _⟩
  obtain ⟨ga, go, rfl, hga, -⟩ := HV.out.tx hc00
  clear hc00
  have qn0 : ((n : Int) == 0) = false := by rw [beq_eq_false_iff_ne]; omega
  generalize hq : w.heap.size = q at *
  generalize hF1 : Value.func (Fn.func f1) #[] lb1 = F1
  generalize hF2 : Value.func (Fn.func f2) #[] #[] = F2
  have H0 := Lib.hid ((bel3 w (.cells #[F1] 146) (.cells #[F2] 148) (.cells #[.int .i64 0, .bool false] 144)).alloc (bel3 w (.cells #[F1] 146) (.cells #[F2] 148) (.cells #[.int .i64 0, .bool false] 144)).size (.cells #[.slice none 0 0] 160))
  have hz3 : ((((w.alloc (.cells #[F1] 146)).alloc (.cells #[F2] 148)).alloc (.cells #[.int .i64 0, .bool false] 144)).alloc (.cells #[.slice none 0 0] 160)).heap.size = q + 4 := by simp [hq]
  have hb3 : ((((w.alloc (.cells #[F1] 146)).alloc (.cells #[F2] 148)).alloc (.cells #[.int .i64 0, .bool false] 144)).alloc (.cells #[.slice none 0 0] 160)).heap[q]? = some (.cells #[F1] 146 (0, 0)) ∧
      ((((w.alloc (.cells #[F1] 146)).alloc (.cells #[F2] 148)).alloc (.cells #[.int .i64 0, .bool false] 144)).alloc (.cells #[.slice none 0 0] 160)).heap[q + 1]? = some (.cells #[F2] 148 (0, 0)) ∧
      ((((w.alloc (.cells #[F1] 146)).alloc (.cells #[F2] 148)).alloc (.cells #[.int .i64 0, .bool false] 144)).alloc (.cells #[.slice none 0 0] 160)).heap[q + 1 + 1]? = some (.cells #[.int .i64 0, .bool false] 144 (0, 0)) ∧
      ((((w.alloc (.cells #[F1] 146)).alloc (.cells #[F2] 148)).alloc (.cells #[.int .i64 0, .bool false] 144)).alloc (.cells #[.slice none 0 0] 160)).heap[q + 1 + 1 + 1]? = some (.cells #[.slice none 0 0] 160 (0, 0)) := by
    subst hq
    have e0 := new_of w (.cells #[F1] 146)
    have e1 := new_of (w.alloc (.cells #[F1] 146)) (.cells #[F2] 148)
    have e2 := new_of ((w.alloc (.cells #[F1] 146)).alloc (.cells #[F2] 148)) (.cells #[.int .i64 0, .bool false] 144)
    have e3 := new_of (((w.alloc (.cells #[F1] 146)).alloc (.cells #[F2] 148)).alloc (.cells #[.int .i64 0, .bool false] 144)) (.cells #[.slice none 0 0] 160)
    have b1 := bel1 (w.alloc (.cells #[F1] 146)) (.cells #[F2] 148)
    have b2 := bel1 ((w.alloc (.cells #[F1] 146)).alloc (.cells #[F2] 148)) (.cells #[.int .i64 0, .bool false] 144)
    have b3 := bel1 (((w.alloc (.cells #[F1] 146)).alloc (.cells #[F2] 148)).alloc (.cells #[.int .i64 0, .bool false] 144)) (.cells #[.slice none 0 0] 160)
    simp only [World.size_alloc] at e1 e2 e3 b1 b2 b3
    exact ⟨((b3.block _ (by omega)).trans ((b2.block _ (by omega)).trans ((b1.block _ (by omega)).trans e0))), ((b3.block _ (by omega)).trans ((b2.block _ (by omega)).trans e1)), ((b3.block _ (by omega)).trans e2), e3⟩
  have HB3 := Lib.hid hb3; clear hb3
  rw [hq] at H0
  generalize hw3 : ((((w.alloc (.cells #[F1] 146)).alloc (.cells #[F2] 148)).alloc (.cells #[.int .i64 0, .bool false] 144)).alloc (.cells #[.slice none 0 0] 160)) = w3 at *
  have hb4 := bel1 w3 (.cells #[.slice (some ⟨ga, go, none⟩) n cap] 24)
  have hz4 : (w3.alloc (.cells #[.slice (some ⟨ga, go, none⟩) n cap] 24)).heap.size = q + 4 + 1 := by simp [hz3]
  have HX4 := Lib.hid (new_of w3 (.cells #[.slice (some ⟨ga, go, none⟩) n cap] 24))
  generalize hw4 : w3.alloc (.cells #[.slice (some ⟨ga, go, none⟩) n cap] 24) = w4 at *
  rw [hz3] at hb4 HX4
  have B4 := Lib.hid (H0.out.trans (hb4.mono (by omega)))
  obtain ⟨x0, x1, xr, x2⟩ := HB3.out
  have C0 := Lib.hid ((Bq.of x0).same (hb4.block _ (by omega))).1
  have C1 := Lib.hid ((Bq.of x1).same (hb4.block _ (by omega))).1
  have XM := Lib.hid ((Bq.of x2).same (hb4.block _ (by omega)))
  have XR := Lib.hid ((hb4.block (q + 1 + 1) (by omega)).trans xr)
  have HHA := Lib.hid (backward1_hands (fun k => k = q + 1 + 1 + 1) w4.heap.size (q + 4) (some ⟨ga, go, none⟩) cap n t HN.out hl w4 (by omega) (Nat.le_refl _) (Bq.of HX4.out).1 (fun k c hk => by
      obtain ⟨g', o', e, hg, hc⟩ := HV.out.tx hk
      exact ⟨g', o', e, by omega, (World.cell?_of_block (w := w) (B4.out.block g' (by rw [hq] at hg; exact hg))).trans hc⟩) (fun g' o' e _ e2 => by cases e; omega) (by omega) (by omega))
  clear x0 x1 x2 HB3 H0 HX4 xr hb4
  have HWE := Lib.hid (show w3.alloc (.cells #[.slice (some ⟨ga, go, none⟩) n cap] 24) = w4 from hw4)
  have HBK := Lib.hid (backward_any (some ⟨ga, go, none⟩) n cap w3)
  rw [HWE.out, hz3] at HBK
  refine (callsIn_wide (n := 9)).1 (callsIn_of_wp_marks Tryz.func136 rfl trivial ?_ rfl)
  simp only [Tryz.ntmps136, List.size_toArray, List.length_cons, List.length_nil, Nat.reduceAdd, Nat.reduceSub, Array.replicate_succ, Array.replicate_zero, List.push_toArray, List.append_toArray, List.nil_append, List.cons_append]
  gi_wp2_with fail
  rw [hw3]
  refine ⟨trivial, (callsIn_wide.2 HBK.out).mono ?_⟩
  rintro e w5 ⟨rfl, rfl⟩
  clear hw3 hw4 HWE HBK
  gi_wp2_with fail
  refine loop_hands22 20 21 10 rfl (enters_of Tryz.func159 (by kernel_rfl) rfl) (bkL_two t) HHA.out (Below.refl _ _) (fun k hk => by have : k = q + 1 + 1 + 1 := hk; omega) (Fld 144 2 csO (plP f g t) q (q + 1 + 1 + 1) w5.heap.size F1 F2 w w5) (fun _ _ _ => False) ?_ ?_ ?_ ?_ ?_ ?_ ?_
  · rintro s W W' row ⟨h1, sv, ho, hr, hg, hb, hc0, hc1, hsm⟩ hgr hrow
    have hbb : Below w5.heap.size W W' := (Below.refl _ W).grown hgr h1 (fun k e => (hrow k e).1)
    refine ⟨Nat.le_trans h1 hgr.size, sv, ho.same (hbb.block _ (by omega)), row_next hr fun k hk hlt => hgr.block k hlt (fun e => ?_), hg, hb.trans (hbb.mono (by omega)), (World.cell?_of_block (w := W) (hbb.block q (by omega))).trans hc0, (World.cell?_of_block (w := W) (hbb.block (q + 1) (by omega))).trans hc1, fun k hk hne => (hbb.block k hk).trans (hsm k hk hne)⟩
    obtain ⟨-, o, ho2, hc⟩ := hrow k e.symm
    rw [cells_of_row hr hk o ho2] at hc; cases hc
  · exact fun k => fun _ _ _ _ h _ _ => h
  · exact ⟨Nat.le_refl _, .slice none 0 0, XM.out, (show w5.ownsRow w5.heap.size 144 2 (.slice none 0 0) (plP f g t 0).length ((plP f g t 0).flatMap csO) from by rw [plP_zero]; exact World.ownsRow_nil w5 _ _ _), rfl, B4.out, C0.out, C1.out, fun _ _ _ => rfl⟩
  · intro l m x y W K hK
    simp only [List.setIfInBounds_toArray, List.set_cons_zero, List.set_cons_succ] at hK ⊢
    gi_wp2
    exact hK
  · rintro l2 m pre x y gg W hpre hsz1 ⟨hs1, sv, ho, hr, hg, hb, hc0, hc1, hsm⟩
    obtain ⟨hj, hxy⟩ := pre_bk hpre
    replace hg : sv.ownBlock = gg := hg
    replace hr : W.ownsRow w5.heap.size 144 2 sv (plP f g t pre.length).length ((plP f g t pre.length).flatMap csO) := hr
    simp only [List.setIfInBounds_toArray, List.set_cons_zero, List.set_cons_succ]
    obtain ⟨c, hc⟩ : ∃ c, t[t.length - 1 - pre.length]? = some c := ⟨t[t.length - 1 - pre.length]'(by omega), List.getElem?_eq_getElem _⟩
    obtain rfl : y = .string (tx c) := by
      unfold bkI at hxy
      rw [List.getD_eq_getElem?_getD, hc] at hxy
      have := congrArg (fun z : Array Value => z[1]?) hxy
      simpa [tv] using this
    have hcm := List.mem_of_getElem? hc
    have HS := Lib.hid (signOf_any c W (HL.out.carry hb (by rw [← hq]; exact ⟨HL.out.2.2.2.1, HL.out.2.2.2.2.1, HL.out.2.2.2.2.2⟩)) (HM.out c hcm))
    have HPL := Lib.hid (plP_len f g t pre.length)
    have HO := Lib.hid ho
    have HR := Lib.hid hr
    have HB := Lib.hid hb
    have HG := Lib.hid hg
    have HC0 := Lib.hid hc0
    have HC1 := Lib.hid hc1
    have HSM := Lib.hid hsm; clear hsm
    clear ho hr hb hg hc0 hc1 hxy
    cases hio : isO c
    · have hil := ((stk_two f g HEN.out).2 _ c hc).2 hio
      obtain ⟨Ts, vs, hsv, hta⟩ := sgV_leaf hil
      have HF := Lib.hid (fun W' (hW : Below q w W') => HONE.out c W' hcm hil hW)
      rw [hsv] at HS HF
      have HP1 := Lib.hid (plP_leaf f g hj hc hio)
      have HGI := Lib.hid (And.intro hj hc)
      clear hsv hil hio hcm hc
      generalize plP f g t pre.length = pl at *
      generalize tx c = xs at *
      gi_wp2_with fail
      refine ⟨trivial, (fun h => by cases h), (CallsIn.inRound l2 (callsIn_wide.2 HS.out)).mono ?_⟩
      rintro e w6 ⟨rfl, b6⟩
      have B6 := Lib.hid b6; clear b6
      gi_wp2_with fail
      subst hF1
      have O6 := Lib.hid (HO.out.same (B6.out.block (q + 1 + 1 + 1) (by omega)))
      have R6 := Lib.hid (row_next HR.out fun g _ hlt => B6.out.block g hlt)
      have z6 := B6.out.size
      have D6 := Lib.hid (bel_drewN B6.out 1)
      have hf6 := HF.out w6.drew (HB.out.trans (D6.out.mono (by omega)))
      have HF6 := Lib.hid hf6; clear hf6
      have HS6 := Lib.hid (show w6.drew.cell? ⟨q, 0, none⟩ = some (.func (.func f1) #[] lb1) from (World.cell?_of_block (w := W) (B6.out.block q (by omega))).trans HC0.out)
      refine wpIn_region_held (S := fun z => z.cell? ⟨q, 0, none⟩ = some (.func (.func f1) #[] lb1)) (by kernel_rfl) (defers_none (by kernel_rfl)) (fun _ _ h => h) HS6.out (fun hHeld => ?_)
      refine wpAnyH_take (i := 1) (v := ?v1t) rfl (by kernel_rfl) (by kernel_rfl) (by kernel_rfl) (fun _ _ _ h => h) (Or.inl ⟨by rfl, ?hy1t⟩) (by assumption) ?rest1t
      case hy1t => (intro zz hSw; (try dsimp only at hSw); go_simp; (try with_reducible rfl))
      change wpAnyH _ _ _ _ _ _ _ (Act.put _ (some 25) _) _
      simp only [Act.put, List.setIfInBounds_toArray, List.set_cons_zero, List.set_cons_succ]
      refine wpAnyH_take (i := 2) (v := ?v2t) rfl (by kernel_rfl) (by kernel_rfl) (by kernel_rfl) (fun _ _ _ h => h) (Or.inl ⟨by rfl, ?hy2t⟩) (by assumption) ?rest2t
      case hy2t => (intro zz hSw; (try dsimp only at hSw); go_simp; (try with_reducible rfl))
      change wpAnyH _ _ _ _ _ _ _ (Act.put _ (some 26) _) _
      simp only [Act.put, List.setIfInBounds_toArray, List.set_cons_zero, List.set_cons_succ]
      refine wpAnyH_ready (rs := [0, 3]) (by kernel_rfl) (by simp) (AllReadyH.cons rfl (fun K hK => ?_) (AllReadyH.cons rfl (fun K hK => ?_) (AllReadyH.nil)))
      · skip
        obtain ⟨lo, -, -⟩ := O6.out.drew
        go_simp
        refine hK.out _ _ hHeld (fun hHeld => ?_)
        clear hK K lo
        refine wpAnyH_ready (rs := [3]) (by kernel_rfl) (by simp) (AllReadyH.cons rfl (fun K hK => ?_) (AllReadyH.nil))
        go_simp
        refine HF6.out.mono ?_; rintro e w7 ⟨rfl, b7⟩
        have B7 := Lib.hid (bel_tr D6.out b7 (Nat.le_refl _))
        have z7 : w6.heap.size ≤ w7.heap.size := b7.size
        have O7 := Lib.hid (O6.out.drew.next b7)
        have R7 := Lib.hid (row_next R6.out fun g _ hlt => b7.block g hlt)
        have HS7 := Lib.hid ((World.cell?_of_block (w := w6.drew) (b7.block q (show q < w6.heap.size by omega))).trans HS6.out)
        have B8 := Lib.hid (bel_tr B7.out (bel1 w7 (.cells #[.int .i64 (f c).1, .bool (f c).2] 144)) (Nat.le_refl _))
        have O8 := Lib.hid (O7.out.next (bel1 w7 (.cells #[.int .i64 (f c).1, .bool (f c).2] 144)))
        have R8 := Lib.hid (row_next R7.out fun g _ hlt => (bel1 w7 (.cells #[.int .i64 (f c).1, .bool (f c).2] 144)).block g hlt)
        have N8 := Lib.hid (new_of w7 (.cells #[.int .i64 (f c).1, .bool (f c).2] 144))
        have HS8 := Lib.hid ((World.cell?_of_block (w := w7) ((bel1 w7 (.cells #[.int .i64 (f c).1, .bool (f c).2] 144)).block q (show q < w7.heap.size by omega))).trans HS7.out)
        clear b7
        refine hK.out _ _ HS7.out (fun hHeld => ?_)
        clear hK K
        refine wpAnyH_ready (rs := [4]) (by kernel_rfl) (by simp) (AllReadyH.cons rfl (fun K hK => ?_) (AllReadyH.nil))
        go_simp
        refine hK.out _ _ HS8.out (fun hHeld => ?_)
        clear hK K
        refine wpAnyH_ready (rs := [5]) (by kernel_rfl) (by simp) (AllReadyH.cons rfl (fun K hK => ?_) (AllReadyH.nil))
        refine step_append_row rfl (.tmp 24) (.tmp 28) 160 144 i0 _ 2 _ Tryz.underlying160 hi hz0 hz1 hz2 rfl (by decide) rfl (base := w5.heap.size) (v := sv) (ad := ⟨w7.heap.size, 0, none⟩) (n := pl.length) (m := 1) (news := csO (f c)) rfl rfl R8.out rfl (by exact lit_news2 w7 _ _ _) (by intro u hu; simp [csO] at hu; rcases hu with rfl | rfl <;> rfl) (by have := HPL.out; unfold maxLen; omega) (by have := HPL.out; omega) (by simp; omega) ?_
        intro v9 w9 r9 g9 n9
        obtain ⟨v9a, v9c, ev⟩ := row_view r9
        subst ev
        have N9 := Lib.hid (And.intro r9 (And.intro g9 n9))
        have O9 := Lib.hid (O8.out.same (g9.block _ (show q + 1 + 1 + 1 < (w7.alloc (.cells #[.int .i64 (f c).1, .bool (f c).2] 144)).heap.size by simp; omega) (fun e => by have := (World.ownsRow.lt HR.out _ e.symm).1; omega)))
        have HS9 := Lib.hid (gcellq g9 (show q < (w7.alloc (.cells #[.int .i64 (f c).1, .bool (f c).2] 144)).heap.size by simp; omega) (fun e => by have := (World.ownsRow.lt HR.out _ e.symm).1; omega) HS8.out)
        clear r9 g9 n9
        refine hK.out _ _ HS9.out (fun hHeld => ?_)
        clear hK K
        change wpAnyH _ _ _ _ _ _ _ (Act.put _ (some 29) _) _
        simp only [Act.put, List.setIfInBounds_toArray, List.set_cons_zero, List.set_cons_succ]
        refine wpAnyH_ready (rs := [6]) (by kernel_rfl) (by simp) (AllReadyH.cons rfl (fun K hK => ?_) (AllReadyH.nil))
        have hcz := O9.out.1
        have hfz := O9.out.2.1
        go_simp
        refine hK.out _ _ (csetq (show q ≠ q + 1 + 1 + 1 by omega) HS9.out) (fun hHeld => ?_)
        clear hK K hcz hfz
        refine wpAnyH_done (by kernel_rfl) ?_ _
        exact fl_end { tmps := #[], defers := [] } B8.out hs1 HO.out HR.out HG.out HB.out HC0.out HC1.out HSM.out (by omega) (by omega) N9.out.1 N9.out.2.1 N9.out.2.2 (by rw [HP1.out, List.length_append]; rfl) (by rw [HP1.out, List.flatMap_append]; simp)
      · skip
        go_simp
        refine HF6.out.mono ?_; rintro e w7 ⟨rfl, b7⟩
        have B7 := Lib.hid (bel_tr D6.out b7 (Nat.le_refl _))
        have z7 : w6.heap.size ≤ w7.heap.size := b7.size
        have O7 := Lib.hid (O6.out.drew.next b7)
        have R7 := Lib.hid (row_next R6.out fun g _ hlt => b7.block g hlt)
        have HS7 := Lib.hid ((World.cell?_of_block (w := w6.drew) (b7.block q (show q < w6.heap.size by omega))).trans HS6.out)
        have B8 := Lib.hid (bel_tr B7.out (bel1 w7 (.cells #[.int .i64 (f c).1, .bool (f c).2] 144)) (Nat.le_refl _))
        have O8 := Lib.hid (O7.out.next (bel1 w7 (.cells #[.int .i64 (f c).1, .bool (f c).2] 144)))
        have R8 := Lib.hid (row_next R7.out fun g _ hlt => (bel1 w7 (.cells #[.int .i64 (f c).1, .bool (f c).2] 144)).block g hlt)
        have N8 := Lib.hid (new_of w7 (.cells #[.int .i64 (f c).1, .bool (f c).2] 144))
        have HS8 := Lib.hid ((World.cell?_of_block (w := w7) ((bel1 w7 (.cells #[.int .i64 (f c).1, .bool (f c).2] 144)).block q (show q < w7.heap.size by omega))).trans HS7.out)
        clear b7
        refine hK.out _ _ HS7.out (fun hHeld => ?_)
        clear hK K
        refine wpAnyH_ready (rs := [0, 4]) (by kernel_rfl) (by simp) (AllReadyH.cons rfl (fun K hK => ?_) (AllReadyH.cons rfl (fun K hK => ?_) (AllReadyH.nil)))
        · skip
          obtain ⟨lo, -, -⟩ := O7.out
          go_simp
          refine hK.out _ _ hHeld (fun hHeld => ?_)
          clear hK K lo
          refine wpAnyH_ready (rs := [4]) (by kernel_rfl) (by simp) (AllReadyH.cons rfl (fun K hK => ?_) (AllReadyH.nil))
          go_simp
          refine hK.out _ _ HS8.out (fun hHeld => ?_)
          clear hK K
          refine wpAnyH_ready (rs := [5]) (by kernel_rfl) (by simp) (AllReadyH.cons rfl (fun K hK => ?_) (AllReadyH.nil))
          refine step_append_row rfl (.tmp 24) (.tmp 28) 160 144 i0 _ 2 _ Tryz.underlying160 hi hz0 hz1 hz2 rfl (by decide) rfl (base := w5.heap.size) (v := sv) (ad := ⟨w7.heap.size, 0, none⟩) (n := pl.length) (m := 1) (news := csO (f c)) rfl rfl R8.out rfl (by exact lit_news2 w7 _ _ _) (by intro u hu; simp [csO] at hu; rcases hu with rfl | rfl <;> rfl) (by have := HPL.out; unfold maxLen; omega) (by have := HPL.out; omega) (by simp; omega) ?_
          intro v9 w9 r9 g9 n9
          obtain ⟨v9a, v9c, ev⟩ := row_view r9
          subst ev
          have N9 := Lib.hid (And.intro r9 (And.intro g9 n9))
          have O9 := Lib.hid (O8.out.same (g9.block _ (show q + 1 + 1 + 1 < (w7.alloc (.cells #[.int .i64 (f c).1, .bool (f c).2] 144)).heap.size by simp; omega) (fun e => by have := (World.ownsRow.lt HR.out _ e.symm).1; omega)))
          have HS9 := Lib.hid (gcellq g9 (show q < (w7.alloc (.cells #[.int .i64 (f c).1, .bool (f c).2] 144)).heap.size by simp; omega) (fun e => by have := (World.ownsRow.lt HR.out _ e.symm).1; omega) HS8.out)
          clear r9 g9 n9
          refine hK.out _ _ HS9.out (fun hHeld => ?_)
          clear hK K
          change wpAnyH _ _ _ _ _ _ _ (Act.put _ (some 29) _) _
          simp only [Act.put, List.setIfInBounds_toArray, List.set_cons_zero, List.set_cons_succ]
          refine wpAnyH_ready (rs := [6]) (by kernel_rfl) (by simp) (AllReadyH.cons rfl (fun K hK => ?_) (AllReadyH.nil))
          have hcz := O9.out.1
          have hfz := O9.out.2.1
          go_simp
          refine hK.out _ _ (csetq (show q ≠ q + 1 + 1 + 1 by omega) HS9.out) (fun hHeld => ?_)
          clear hK K hcz hfz
          refine wpAnyH_done (by kernel_rfl) ?_ _
          exact fl_end { tmps := #[], defers := [] } B8.out hs1 HO.out HR.out HG.out HB.out HC0.out HC1.out HSM.out (by omega) (by omega) N9.out.1 N9.out.2.1 N9.out.2.2 (by rw [HP1.out, List.length_append]; rfl) (by rw [HP1.out, List.flatMap_append]; simp)
        · skip
          go_simp
          refine hK.out _ _ HS8.out (fun hHeld => ?_)
          clear hK K
          refine wpAnyH_ready (rs := [0]) (by kernel_rfl) (by simp) (AllReadyH.cons rfl (fun K hK => ?_) (AllReadyH.nil))
          obtain ⟨lo, -, -⟩ := O8.out
          go_simp
          refine hK.out _ _ hHeld (fun hHeld => ?_)
          clear hK K lo
          refine wpAnyH_ready (rs := [5]) (by kernel_rfl) (by simp) (AllReadyH.cons rfl (fun K hK => ?_) (AllReadyH.nil))
          refine step_append_row rfl (.tmp 24) (.tmp 28) 160 144 i0 _ 2 _ Tryz.underlying160 hi hz0 hz1 hz2 rfl (by decide) rfl (base := w5.heap.size) (v := sv) (ad := ⟨w7.heap.size, 0, none⟩) (n := pl.length) (m := 1) (news := csO (f c)) rfl rfl R8.out rfl (by exact lit_news2 w7 _ _ _) (by intro u hu; simp [csO] at hu; rcases hu with rfl | rfl <;> rfl) (by have := HPL.out; unfold maxLen; omega) (by have := HPL.out; omega) (by simp; omega) ?_
          intro v9 w9 r9 g9 n9
          obtain ⟨v9a, v9c, ev⟩ := row_view r9
          subst ev
          have N9 := Lib.hid (And.intro r9 (And.intro g9 n9))
          have O9 := Lib.hid (O8.out.same (g9.block _ (show q + 1 + 1 + 1 < (w7.alloc (.cells #[.int .i64 (f c).1, .bool (f c).2] 144)).heap.size by simp; omega) (fun e => by have := (World.ownsRow.lt HR.out _ e.symm).1; omega)))
          have HS9 := Lib.hid (gcellq g9 (show q < (w7.alloc (.cells #[.int .i64 (f c).1, .bool (f c).2] 144)).heap.size by simp; omega) (fun e => by have := (World.ownsRow.lt HR.out _ e.symm).1; omega) HS8.out)
          clear r9 g9 n9
          refine hK.out _ _ HS9.out (fun hHeld => ?_)
          clear hK K
          change wpAnyH _ _ _ _ _ _ _ (Act.put _ (some 29) _) _
          simp only [Act.put, List.setIfInBounds_toArray, List.set_cons_zero, List.set_cons_succ]
          refine wpAnyH_ready (rs := [6]) (by kernel_rfl) (by simp) (AllReadyH.cons rfl (fun K hK => ?_) (AllReadyH.nil))
          have hcz := O9.out.1
          have hfz := O9.out.2.1
          go_simp
          refine hK.out _ _ (csetq (show q ≠ q + 1 + 1 + 1 by omega) HS9.out) (fun hHeld => ?_)
          clear hK K hcz hfz
          refine wpAnyH_done (by kernel_rfl) ?_ _
          exact fl_end { tmps := #[], defers := [] } B8.out hs1 HO.out HR.out HG.out HB.out HC0.out HC1.out HSM.out (by omega) (by omega) N9.out.1 N9.out.2.1 N9.out.2.2 (by rw [HP1.out, List.length_append]; rfl) (by rw [HP1.out, List.flatMap_append]; simp)
    · obtain ⟨va, vb, r, e1, e2⟩ := plP_op f g HEN.out hj hc hio
      have ho1 : 1 ≤ opN c := by have := isO_ne hio; omega
      have ho7 := opN_le c
      rw [sgV_op hio] at HS
      have hta := ta_op (.int .i64 (opN c))
      have HP1 := Lib.hid e2
      rw [e1] at HR HPL
      have hlen : (r ++ [vb, va]).length = r.length + 2 := by simp
      rw [hlen] at HR HPL
      obtain ⟨pb, pc, hsv, hpb, hpl⟩ := row_own HR.out
      subst hsv
      have HTW := Lib.hid (fun W' => HTWO.out (opN c) va vb W' ho1 ho7)
      clear hlen e1 e2 hio hcm hc
      generalize plP f g t pre.length = pl at *
      generalize tx c = xs at *
      generalize opN c = o at *
      generalize hk : r.length = k at *
      have HR0 := Lib.hid hk; clear hk
      have kb : k ≤ 4194304 := by have := HPL.out; omega
      have i1 : (0 : Int) ≤ (k : Int) + 1 := by omega
      have i2 : (k : Int) < (k : Int) + 1 := by omega
      have i3 : (k : Int) < (k : Int) + 1 + 1 := by omega
      have i4 : (0 : Int) ≤ (k : Int) := by omega
      have hwk : IntKind.i64.wrap (k : Int) = (k : Int) := by rw [IntKind.wrap_i64]; omega
      gi_wp2_with fail
      refine ⟨trivial, (fun h => by cases h), (CallsIn.inRound l2 (callsIn_wide.2 HS.out)).mono ?_⟩
      rintro e w6 ⟨rfl, b6⟩
      have B6 := Lib.hid b6; clear b6
      have O6 := Lib.hid (HO.out.same (B6.out.block (q + 1 + 1 + 1) (by omega)))
      have hm6 := O6.out.1
      have kb1 : (k : Int) + 1 ≤ 4194305 := by omega
      gi_wp2_with fail
      subst hF2
      clear hm6
      have R6 := Lib.hid (row_next HR.out fun g _ hlt => B6.out.block g hlt)
      have z6 := B6.out.size
      have D6 := Lib.hid (bel_drewN B6.out 1)
      have HT6 := Lib.hid (HTW.out w6.drew)
      have HTP := Lib.hid (topO R6.out HR0.out)
      have HS6 := Lib.hid (show w6.drew.cell? ⟨q + 1 + 1 + 1, 0, none⟩ = some (.slice (some ⟨pb, 0, none⟩) (k + 1 + 1) pc) ∧ w6.drew.cell? ⟨q + 1, 0, none⟩ = some (.func (.func f2) #[] #[]) ∧ w6.drew.cell? ⟨pb, (k + 1) * 2, none⟩ = some (.int .i64 va.1) ∧ w6.drew.cell? ⟨pb, (k + 1) * 2 + 1, none⟩ = some (.bool va.2) from ⟨O6.out.1, (World.cell?_of_block (w := W) (B6.out.block (q + 1) (by omega))).trans HC1.out, HTP.out.1⟩)
      refine wpIn_region_held (S := fun z => z.cell? ⟨q + 1 + 1 + 1, 0, none⟩ = some (.slice (some ⟨pb, 0, none⟩) (k + 1 + 1) pc) ∧ z.cell? ⟨q + 1, 0, none⟩ = some (.func (.func f2) #[] #[]) ∧ z.cell? ⟨pb, (k + 1) * 2, none⟩ = some (.int .i64 va.1) ∧ z.cell? ⟨pb, (k + 1) * 2 + 1, none⟩ = some (.bool va.2)) (by kernel_rfl) (defers_none (by kernel_rfl)) (fun _ _ h => h) HS6.out (fun hHeld => ?_)
      refine wpAnyH_take (i := 0) (v := ?v0u) rfl (by kernel_rfl) (by kernel_rfl) (by kernel_rfl) (fun _ _ _ h => h) (Or.inl ⟨by rfl, ?hy0u⟩) (by assumption) ?rest0u
      case hy0u => (intro zz hSw; (try dsimp only at hSw); go_simp; (try with_reducible rfl))
      change wpAnyH _ _ _ _ _ _ _ (Act.put _ (some 36) _) _
      simp only [Act.put, List.setIfInBounds_toArray, List.set_cons_zero, List.set_cons_succ]
      refine wpAnyH_take (i := 1) (v := ?v1u) rfl (by kernel_rfl) (by kernel_rfl) (by kernel_rfl) (fun _ _ _ h => h) (Or.inl ⟨by rfl, ?hy1u⟩) (by assumption) ?rest1u
      case hy1u => (intro zz hSw; (try dsimp only at hSw); go_simp; (try with_reducible rfl))
      change wpAnyH _ _ _ _ _ _ _ (Act.put _ (some 37) _) _
      simp only [Act.put, List.setIfInBounds_toArray, List.set_cons_zero, List.set_cons_succ]
      refine wpAnyH_take (i := 2) (v := ?v2u) rfl (by kernel_rfl) (by kernel_rfl) (by kernel_rfl) (fun _ _ _ h => h) (Or.inl ⟨by rfl, ?hy2u⟩) (by assumption) ?rest2u
      case hy2u => (intro zz hSw; (try dsimp only at hSw); go_simp; (try with_reducible rfl))
      change wpAnyH _ _ _ _ _ _ _ (Act.put _ (some 38) _) _
      simp only [Act.put, List.setIfInBounds_toArray, List.set_cons_zero, List.set_cons_succ]
      refine wpAnyH_take (i := 3) (v := ?v3u) rfl (by kernel_rfl) (by kernel_rfl) (by kernel_rfl) (fun _ _ _ h => h) (Or.inl ⟨by rfl, ?hy3u⟩) (by assumption) ?rest3u
      case hy3u => (intro zz hSw; (try dsimp only at hSw); go_simp; (try with_reducible rfl))
      change wpAnyH _ _ _ _ _ _ _ (Act.put _ (some 39) _) _
      simp only [Act.put, List.setIfInBounds_toArray, List.set_cons_zero, List.set_cons_succ]
      refine wpAnyH_take (i := 4) (v := ?v4u) rfl (by kernel_rfl) (by kernel_rfl) (by kernel_rfl) (fun _ _ _ h => h) (Or.inl ⟨by rfl, ?hy4u⟩) (by assumption) ?rest4u
      case hy4u => (intro zz hSw; (try dsimp only at hSw); go_simp; (try with_reducible rfl))
      change wpAnyH _ _ _ _ _ _ _ (Act.put _ (some 40) _) _
      simp only [Act.put, List.setIfInBounds_toArray, List.set_cons_zero, List.set_cons_succ]
      refine wpAnyH_take (i := 5) (v := ?v5u) rfl (by kernel_rfl) (by kernel_rfl) (by kernel_rfl) (fun _ _ _ h => h) (Or.inl ⟨by rfl, ?hy5u⟩) (by assumption) ?rest5u
      case hy5u => (intro zz hSw; (try dsimp only at hSw); go_simp; (try with_reducible rfl))
      change wpAnyH _ _ _ _ _ _ _ (Act.put _ (some 41) _) _
      simp only [Act.put, List.setIfInBounds_toArray, List.set_cons_zero, List.set_cons_succ]
      refine wpAnyH_take (i := 6) (v := ?v6u) rfl (by kernel_rfl) (by kernel_rfl) (by kernel_rfl) (fun _ _ _ h => h) (Or.inl ⟨by rfl, ?hy6u⟩) (by assumption) ?rest6u
      case hy6u => (intro zz hSw; (try dsimp only at hSw); go_simp; (try with_reducible rfl))
      change wpAnyH _ _ _ _ _ _ _ (Act.put _ (some 42) _) _
      simp only [Act.put, List.setIfInBounds_toArray, List.set_cons_zero, List.set_cons_succ]
      refine wpAnyH_take (i := 7) (v := ?v7u) rfl (by kernel_rfl) (by kernel_rfl) (by kernel_rfl) (fun _ _ _ h => h) (Or.inl ⟨by rfl, ?hy7u⟩) (by assumption) ?rest7u
      case hy7u => (intro zz hSw; (try dsimp only at hSw); go_simp; (try with_reducible rfl))
      change wpAnyH _ _ _ _ _ _ _ (Act.put _ (some 43) _) _
      simp only [Act.put, List.setIfInBounds_toArray, List.set_cons_zero, List.set_cons_succ]
      refine wpAnyH_take (i := 8) (v := ?v8u) rfl (by kernel_rfl) (by kernel_rfl) (by kernel_rfl) (fun _ _ _ h => h) (Or.inl ⟨by rfl, ?hy8u⟩) (by assumption) ?rest8u
      case hy8u => (intro zz hSw; (try dsimp only at hSw); go_simp; (try with_reducible rfl))
      change wpAnyH _ _ _ _ _ _ _ (Act.put _ (some 44) _) _
      simp only [Act.put, List.setIfInBounds_toArray, List.set_cons_zero, List.set_cons_succ]
      refine wpAnyH_take (i := 9) (v := ?v9u) rfl (by kernel_rfl) (by kernel_rfl) (by kernel_rfl) (fun _ _ _ h => h) (Or.inl ⟨by rfl, ?hy9u⟩) (by assumption) ?rest9u
      case hy9u => (intro zz hSw; (try dsimp only at hSw); go_simp; (try with_reducible rfl))
      change wpAnyH _ _ _ _ _ _ _ (Act.put _ (some 45) _) _
      simp only [Act.put, List.setIfInBounds_toArray, List.set_cons_zero, List.set_cons_succ]
      refine wpAnyH_take (i := 10) (v := ?v10u) rfl (by kernel_rfl) (by kernel_rfl) (by kernel_rfl) (fun _ _ _ h => h) (Or.inl ⟨by rfl, ?hy10u⟩) (by assumption) ?rest10u
      case hy10u => (intro zz hSw; (try dsimp only at hSw); go_simp; (try with_reducible rfl))
      change wpAnyH _ _ _ _ _ _ _ (Act.put _ (some 46) _) _
      simp only [Act.put, List.setIfInBounds_toArray, List.set_cons_zero, List.set_cons_succ]
      refine wpAnyH_take (i := 11) (v := ?v11u) rfl (by kernel_rfl) (by kernel_rfl) (by kernel_rfl) (fun _ _ _ h => h) (Or.inl ⟨by rfl, ?hy11u⟩) (by assumption) ?rest11u
      case hy11u => (intro zz hSw; (try dsimp only at hSw); go_simp; (try with_reducible rfl))
      change wpAnyH _ _ _ _ _ _ _ (Act.put _ (some 47) _) _
      simp only [Act.put, List.setIfInBounds_toArray, List.set_cons_zero, List.set_cons_succ]
      refine wpAnyH_take (i := 12) (v := ?v12u) rfl (by kernel_rfl) (by kernel_rfl) (by kernel_rfl) (fun _ _ _ h => h) (Or.inl ⟨by rfl, ?hy12u⟩) (by assumption) ?rest12u
      case hy12u => (intro zz hSw; (try dsimp only at hSw); go_simp; (try with_reducible rfl))
      change wpAnyH _ _ _ _ _ _ _ (Act.put _ (some 48) _) _
      simp only [Act.put, List.setIfInBounds_toArray, List.set_cons_zero, List.set_cons_succ]
      refine wpAnyH_ready (rs := [13]) (by kernel_rfl) (by simp) (AllReadyH.cons rfl (fun K hK => ?_) (AllReadyH.nil))
      obtain ⟨lo0, lo1⟩ := HTP.out.2.1
      go_simp
      refine hK.out _ _ hHeld (fun hHeld => ?_)
      clear hK K lo0 lo1
      refine wpAnyH_ready (rs := [14]) (by kernel_rfl) (by simp) (AllReadyH.cons rfl (fun K hK => ?_) (AllReadyH.nil))
      go_simp
      refine HT6.out.mono ?_; rintro e w7 ⟨rfl, b7⟩
      have B7 := Lib.hid (bel_tr D6.out b7 (Nat.le_refl _))
      have z7 : w6.heap.size ≤ w7.heap.size := b7.size
      have O7 := Lib.hid (O6.out.drew.next b7)
      have R7 := Lib.hid (row_next R6.out fun g _ hlt => b7.block g hlt)
      have HTP7 := Lib.hid (topO R7.out HR0.out)
      have HS7 := Lib.hid (show w7.cell? ⟨q + 1 + 1 + 1, 0, none⟩ = some (.slice (some ⟨pb, 0, none⟩) (k + 1 + 1) pc) ∧ w7.cell? ⟨q + 1, 0, none⟩ = some (.func (.func f2) #[] #[]) ∧ w7.cell? ⟨pb, (k + 1) * 2, none⟩ = some (.int .i64 va.1) ∧ w7.cell? ⟨pb, (k + 1) * 2 + 1, none⟩ = some (.bool va.2) from ⟨O7.out.1, (World.cell?_of_block (w := w6.drew) (b7.block (q + 1) (show q + 1 < w6.heap.size by omega))).trans HS6.out.2.1, HTP7.out.1⟩)
      clear b7
      refine hK.out _ _ HS7.out (fun hHeld => ?_)
      clear hK K
      refine wpAnyH_take (i := 15) (v := ?v15u) rfl (by kernel_rfl) (by kernel_rfl) (by kernel_rfl) (fun _ _ _ h => h) (Or.inl ⟨by rfl, ?hy15u⟩) (by assumption) ?rest15u
      case hy15u => (intro zz hSw; (try dsimp only at hSw); go_simp; (try with_reducible rfl))
      change wpAnyH _ _ _ _ _ _ _ (Act.put _ (some 51) _) _
      simp only [Act.put, List.setIfInBounds_toArray, List.set_cons_zero, List.set_cons_succ]
      refine wpAnyH_ready (rs := [16]) (by kernel_rfl) (by simp) (AllReadyH.cons rfl (fun K hK => ?_) (AllReadyH.nil))
      obtain ⟨-, ⟨hc0z, hc1z⟩, hf0z, hf1z⟩ := HTP7.out
      go_simp
      have HS8 := Lib.hid (show ((w7.setCell ⟨pb, k * 2, none⟩ (.int .i64 (g o va vb).1)).setCell ⟨pb, k * 2 + 1, none⟩ (.bool (g o va vb).2)).cell? ⟨q + 1 + 1 + 1, 0, none⟩ = some (.slice (some ⟨pb, 0, none⟩) (k + 1 + 1) pc) ∧ ((w7.setCell ⟨pb, k * 2, none⟩ (.int .i64 (g o va vb).1)).setCell ⟨pb, k * 2 + 1, none⟩ (.bool (g o va vb).2)).cell? ⟨q + 1, 0, none⟩ = some (.func (.func f2) #[] #[]) ∧ ((w7.setCell ⟨pb, k * 2, none⟩ (.int .i64 (g o va vb).1)).setCell ⟨pb, k * 2 + 1, none⟩ (.bool (g o va vb).2)).cell? ⟨pb, (k + 1) * 2, none⟩ = some (.int .i64 va.1) ∧ ((w7.setCell ⟨pb, k * 2, none⟩ (.int .i64 (g o va vb).1)).setCell ⟨pb, k * 2 + 1, none⟩ (.bool (g o va vb).2)).cell? ⟨pb, (k + 1) * 2 + 1, none⟩ = some (.bool va.2) from ⟨csetq (show q + 1 + 1 + 1 ≠ pb by omega) (csetq (show q + 1 + 1 + 1 ≠ pb by omega) HS7.out.1), csetq (show q + 1 ≠ pb by omega) (csetq (show q + 1 ≠ pb by omega) HS7.out.2.1), coff (by omega) (coff (by omega) HS7.out.2.2.1), coff (by omega) (coff (by omega) HS7.out.2.2.2)⟩)
      refine hK.out _ _ HS8.out (fun hHeld => ?_)
      clear hK K hc0z hc1z hf0z hf1z
      refine wpAnyH_done (by kernel_rfl) ?_ _
      have O8 := Lib.hid (O7.out.same ((Below.heap_setCell _ ⟨pb, k * 2 + 1, none⟩ (.bool (g o va vb).2) (q + 1 + 1 + 1) (fun e => by have e' : q + 1 + 1 + 1 = pb := e; omega)).trans (Below.heap_setCell _ ⟨pb, k * 2, none⟩ (.int .i64 (g o va vb).1) (q + 1 + 1 + 1) (fun e => by have e' : q + 1 + 1 + 1 = pb := e; omega))))
      have R8 := Lib.hid (row_cut ((World.ownsRow.stored ((World.ownsRow.stored R7.out (k * 2) (.int .i64 (g o va vb).1)).1) (k * 2 + 1) (.bool (g o va vb).2)).1) (m := k + 1) (by omega))
      have G8 := Lib.hid (show w7.grownBy ((w7.setCell ⟨pb, k * 2, none⟩ (.int .i64 (g o va vb).1)).setCell ⟨pb, k * 2 + 1, none⟩ (.bool (g o va vb).2)) (Value.slice (some ⟨pb, 0, none⟩) (k + 1 + 1) pc).ownBlock from grown_trans grown_setq grown_setq)
      clear hHeld HS8
      generalize ((w7.setCell ⟨pb, k * 2, none⟩ (.int .i64 (g o va vb).1)).setCell ⟨pb, k * 2 + 1, none⟩ (.bool (g o va vb).2)) = w8 at *
      obtain ⟨hm8, hf8, -⟩ := id O8.out
      have hcut : ∀ w, (Instr.slice 160 (.slice (some ⟨pb, 0, none⟩) (k + 1 + 1) pc) none (some (.int .i64 ((k : Int) + 1))) none).run Tryz.prog w = .ok (.slice (some ⟨pb, 0, none⟩) (k + 1) pc) w := cut_toK 160 2 (by kernel_rfl) (by intro w; exact Tryz.sizeOf144 w) (some ⟨pb, 0, none⟩) (k + 1 + 1) pc (k + 1) (by omega) (row_cap R7.out)
      clear i1 i2 i3 i4 hwk kb1
      gi_wp2_with fail
      exact fl_end { tmps := #[], defers := [] } B7.out hs1 HO.out HR.out HG.out HB.out HC0.out HC1.out HSM.out (by omega) (by omega) R8.out G8.out (Or.inl rfl) (by rw [HP1.out, List.length_append, HR0.out]; rfl) (by rw [HP1.out]; exact putO HR0.out)
  · rintro D gg W hD ⟨hs1, sv, ho, hr, hg, hb, hc0, hc1, hsm⟩ hK
    obtain ⟨r, hrs⟩ : ∃ r, stk f g t = [r] := by
      have := (stk_two f g HEN.out).1
      match hs : stk f g t, this with
      | [r], _ => exact ⟨r, rfl⟩
    rw [show ((bkL t, gg) : List (Array Value) × Option Nat).1.length = t.length from bkL_len t, plP_all, hrs] at hr
    obtain ⟨pb, pc, hsv, hpb, hpl⟩ := row_own (n := 0) hr
    subst hsv
    have HB := Lib.hid hb
    have l0 : W.cell? ⟨pb, 0, none⟩ = some (.int .i64 r.1) := World.ownsRow.cellAt hr 0 (by decide)
    have l1 : W.cell? ⟨pb, 1, none⟩ = some (.bool r.2) := World.ownsRow.cellAt hr 1 (by decide)
    obtain ⟨z0, z1, fz0, fz1⟩ := two_cells ((hsm (q + 1 + 1) (by omega) (by omega)).trans XR.out)
    obtain ⟨o1, o2, o3⟩ := ho
    have HRS := Lib.hid hrs
    clear hr hb hg hc0 hc1 hrs
    have PB := Lib.hid (put_below (n₀ := q) (l := D) (W := W) (o := .deferred none) (by omega) (by omega))
    gi_wp2_with fail
    have hK2 : ((W.setCell ⟨q + 1 + 1, 0, none⟩ (.int .i64 r.1)).setCell ⟨q + 1 + 1, 1, none⟩ (.bool r.2)).heap[D]? = some (.deferred (some [])) := (Below.heap_setCell _ ⟨q + 1 + 1, 1, none⟩ _ D (fun e => by have e' : D = q + 1 + 1 := e; omega)).trans ((Below.heap_setCell _ ⟨q + 1 + 1, 0, none⟩ _ D (fun e => by have e' : D = q + 1 + 1 := e; omega)).trans hK)
    have y0 : ((W.setCell ⟨q + 1 + 1, 0, none⟩ (.int .i64 r.1)).setCell ⟨q + 1 + 1, 1, none⟩ (.bool r.2)).cell? ⟨q + 1 + 1, 0, none⟩ = some (.int .i64 r.1) := coff (by omega) (World.cell?_setCell_same' _ _ _ (by rw [z0]; rfl))
    have y1 : ((W.setCell ⟨q + 1 + 1, 0, none⟩ (.int .i64 r.1)).setCell ⟨q + 1 + 1, 1, none⟩ (.bool r.2)).cell? ⟨q + 1 + 1, 1, none⟩ = some (.bool r.2) := World.cell?_setCell_same' _ _ _ (by rw [coff (by omega) z1]; rfl)
    have B2 : Below q W ((W.setCell ⟨q + 1 + 1, 0, none⟩ (.int .i64 r.1)).setCell ⟨q + 1 + 1, 1, none⟩ (.bool r.2)) := ((Below.refl q W).setCell (p := ⟨q + 1 + 1, 0, none⟩) (by show q ≤ q + 1 + 1; omega) _).setCell (p := ⟨q + 1 + 1, 1, none⟩) (by show q ≤ q + 1 + 1; omega) _
    have hz2 := B2.size
    generalize (W.setCell ⟨q + 1 + 1, 0, none⟩ (.int .i64 r.1)).setCell ⟨q + 1 + 1, 1, none⟩ (.bool r.2) = W2 at *
    have PB2 := put_below (n₀ := q) (l := D) (W := W2) (o := .deferred none) (by omega) (by omega)
    have y0' : (W2.putObj D (.deferred none)).cell? ⟨q + 1 + 1, 0, none⟩ = some (.int .i64 r.1) := (World.cell?_of_block (w := W2) (World.putObj_heap_other (by show q + 1 + 1 ≠ D; omega))).trans y0
    have y1' : (W2.putObj D (.deferred none)).cell? ⟨q + 1 + 1, 1, none⟩ = some (.bool r.2) := (World.cell?_of_block (w := W2) (World.putObj_heap_other (by show q + 1 + 1 ≠ D; omega))).trans y1
    refine ⟨by simp, .inl ⟨_, _, rfl, run_takeDeferred hK2, ?_⟩⟩
    exact ⟨.agg #[.int .i64 r.1, .bool r.2], by simp [results, Tryz.results136, go_sem, y0', y1'], r, HRS.out, rfl, HB.out.trans (B2.trans PB2)⟩
  · rintro D k pre W hD hpre hf hK
    exact hf.elim
end Go.Proofs.YtfnnoehpahdgcaaGreatDoor.Cl
namespace Go.Proofs.YtfnnoehpahdgcaaGreatDoor.Cl
set_option linter.unusedVariables false
open Go.RowKit Wd Rp Kp
theorem vlF_gv {gs : List Int} {bs : List Bi} {s : Tk} (h : gvN s ≠ 0) : vlF gs bs s = (gs.getD (gvN s - 1) 0, true) := by unfold vlF; rw [if_pos h]
theorem vlF_rd {gs : List Int} {bs : List Bi} {s : Tk} (h : gvN s = 0) (h2 : rdB s = true) : vlF gs bs s = (rdV s, true) := by
  have hn : nmB s = false := by
    cases e : nmB s with
    | false => rfl
    | true => unfold rdB at h2; rw [nm_rd e] at h2; cases h2
  unfold vlF; rw [if_neg (by omega), hn]; rfl
theorem vlF_nm {gs : List Int} {bs : List Bi} {s : Tk} (h : gvN s = 0) (h2 : nmB s = true) : vlF gs bs s = ((valL (tx s) bs).1, true) := by unfold vlF; rw [if_neg (by omega), h2]; rfl
theorem isL_nm {s : Tk} (h : isL s = true) (h1 : gvN s = 0) (h2 : rdB s = false) : nmB s = true := by
  unfold isL at h
  rw [h1, h2] at h
  simp at h
  exact h.2
structure Env (w : World) (ba : Option Addr) (bc bn : Nat) (bs : List Bi) (ga : Option Addr) (gc : Nat) (gs : List Int) : Prop where
  bl : bs.length = bn
  bv : VwI w ba bc bs
  b4 : bn ≤ 4194304
  gv : V1 w ga gc (inL gs)
  g3 : gs.length = 3
theorem Env.below {w w' : World} {ba : Option Addr} {bc bn : Nat} {bs : List Bi} {ga : Option Addr} {gc : Nat} {gs : List Int} (h : Env w ba bc bn bs ga gc gs) (hb : Below w.heap.size w w') : Env w' ba bc bn bs ga gc gs := ⟨h.bl, h.bv.below hb, h.b4, h.gv.below hb, h.g3⟩
set_option maxHeartbeats 4000000 in
set_option maxRecDepth 100000 in
theorem l8Sum_any (a : Option Addr) (cap : Nat) (l : List Tk) (n : Nat) (hn : l.length = n) (hl : n ≤ 4194304) (hm : ∀ s ∈ l, s.length ≤ 4194304) (ba : Option Addr) (bc bn : Nat) (bs : List Bi) (ga : Option Addr) (gc : Nat) (gs : List Int) : ∀ (u : Su), u.ok → ∀ (i : Int) (r : List Tk) (w : World), 0 ≤ i → l.drop i.toNat = u.fl ++ r → V1 w a cap (txL l) → Env w ba bc bn bs ga gc gs →
    Calls Tryz.prog 114 #[.slice a n cap, .int .i64 i, .slice ba bn bc, .slice ga (3 : Nat) gc] w fun e w' => e = .returned (.tuple #[.int .i64 (u.fo (vlF gs bs) vlG).1, .int .i64 (i + (u.fl.length : Int)), .bool (u.fo (vlF gs bs) vlG).2]) ∧ Below w.heap.size w w' := by
  intro u
  induction u with
  | one s =>
    intro hu i r w hi hd hv he
    have h0 := isL_0 hu
    obtain ⟨hs, hlt, -⟩ := drop_head hd
    obtain ⟨k, rfl⟩ : ∃ k : Nat, i = k := ⟨i.toNat, by omega⟩
    simp only [Int.toNat_natCast] at hs hlt
    obtain ⟨g, o, rfl, hg, c0⟩ := hv.tx hs
    have HO := Lib.hid (fun w => l8Op_any w s)
    have hsl : s.length ≤ 4194304 := hm s (List.mem_of_getElem? hs)
    have hlk : k < n := by omega
    clear hv hs hg hd
    rw [h0] at HO
    have HG := Lib.hid (fun w => l8Given_any w s)
    have HR := Lib.hid (fun w => rdS_any s w (by omega))
    have HV := Lib.hid (fun w h => specValue_any w ba bc bs bn (tx s) he.bl (VwI.below he.bv h) he.b4)
    have HGL := Lib.hid (gvN_le s)
    have HF := Lib.hid (show Su.fo (vlF gs bs) vlG (.one s) = vlF gs bs s from rfl)
    generalize Su.fo (vlF gs bs) vlG (.one s) = kr at *
    by_cases hgv : gvN s = 0
    · rw [hgv] at HG
      cases hrd : rdB s
      · rw [hrd] at HR
        have HE := Lib.hid (HF.out.trans (vlF_nm hgv (isL_nm hu hgv hrd))); clear HF hu hgv hrd
        generalize (valL (tx s) bs).1 = va at *
        generalize (valL (tx s) bs).2 = vb at *
        generalize tx s = x at *
        go_enter Tryz.func114, Tryz.ntmps114
        go_wp2_with fail
        refine (HO.out _).mono ?_; rintro e w1 ⟨rfl, b1⟩
        have B1 := Lib.hid b1; clear b1
        go_wp2_with fail
        refine (HG.out _).mono ?_; rintro e w2 ⟨rfl, b2⟩
        have B2 := Lib.hid (bel_tr B1.out b2 (Nat.le_refl _))
        clear b2
        go_wp2_with fail
        refine (HR.out _).mono ?_; rintro e w3 ⟨rfl, rfl⟩
        have HV2 := Lib.hid (HV.out _ B2.out)
        go_wp2_with fail
        refine HV2.out.mono ?_; rintro e w4 ⟨rfl, b4⟩
        have B4 := Lib.hid (bel_tr B2.out b4 (Nat.le_refl _)); clear b4
        go_wp2_with fail
        refine bodyPost_ret (v := .tuple #[.int .i64 va, .int .i64 ((k : Int) + 1), .bool true]) (by simp [results, Tryz.results114, go_sem]) rfl ⟨by rw [HE.out]; rfl, B4.out⟩
      · rw [hrd] at HR
        have HE := Lib.hid (HF.out.trans (vlF_rd hgv hrd)); clear HF hu hgv hrd HV
        generalize rdV s = rv at *
        generalize tx s = x at *
        go_enter Tryz.func114, Tryz.ntmps114
        go_wp2_with fail
        refine (HO.out _).mono ?_; rintro e w1 ⟨rfl, b1⟩
        have B1 := Lib.hid b1; clear b1
        go_wp2_with fail
        refine (HG.out _).mono ?_; rintro e w2 ⟨rfl, b2⟩
        have B2 := Lib.hid (bel_tr B1.out b2 (Nat.le_refl _))
        clear b2
        go_wp2_with fail
        refine (HR.out _).mono ?_; rintro e w3 ⟨rfl, rfl⟩
        go_wp2_with fail
        refine bodyPost_ret (v := .tuple #[.int .i64 rv, .int .i64 ((k : Int) + 1), .bool true]) (by simp [results, Tryz.results114, go_sem]) rfl ⟨by rw [HE.out]; rfl, B2.out⟩
    · have HE := Lib.hid (HF.out.trans (vlF_gv hgv)); clear HF hu HV HR
      obtain ⟨j, hj⟩ : ∃ j : Nat, gvN s - 1 = j := ⟨_, rfl⟩
      have hj3 : j < 3 := by have := HGL.out; omega
      have hjg : (gvN s : Int) - 1 = (j : Int) := by omega
      rw [hjg] at HG
      rw [hj] at HE
      clear hgv hj hjg HGL
      have p0 : (0 : Int) ≤ (j : Int) := by omega
      have p0d : decide ((0 : Int) ≤ (j : Int)) = true := by simp
      obtain ⟨v, hv⟩ : ∃ v, gs[j]? = some v := ⟨gs[j]'(by have := he.g3; omega), List.getElem?_eq_getElem _⟩
      have hgd : gs.getD j 0 = v := by rw [List.getD_eq_getElem?_getD, hv]; rfl
      rw [hgd] at HE
      obtain ⟨gg, go, rfl, hgg, gc0⟩ := he.gv.iv hv
      have HGC := Lib.hid gc0
      clear hv hgd he gc0
      generalize tx s = x at *
      go_enter Tryz.func114, Tryz.ntmps114
      go_wp2_with fail
      refine (HO.out _).mono ?_; rintro e w1 ⟨rfl, b1⟩
      have B1 := Lib.hid b1; clear b1
      go_wp2_with fail
      refine (HG.out _).mono ?_; rintro e w2 ⟨rfl, b2⟩
      have B2 := Lib.hid (bel_tr B1.out b2 (Nat.le_refl _))
      clear b2
      have gc2 := (B2.out.cell (p := ⟨gg, go + j, none⟩) hgg).trans HGC.out
      go_wp2_with fail
      refine bodyPost_ret (v := .tuple #[.int .i64 v, .int .i64 ((k : Int) + 1), .bool true]) (by simp [results, Tryz.results114, go_sem]) rfl ⟨by rw [HE.out]; rfl, B2.out⟩
  | two s x y ihx ihy =>
    intro hu i r w hi hd hv he
    rw [Su.fl, List.cons_append, List.append_assoc] at hd
    obtain ⟨hs, hlt, hd2⟩ := drop_head hd
    have hd1 := hd2
    have hd3 := drop_more hd2
    have e1 : i.toNat + 1 = (i + 1).toNat := by omega
    have e3 : i.toNat + 1 + x.fl.length = (i + 1 + x.fl.length).toNat := by omega
    rw [e1] at hd1
    rw [e3] at hd3
    have hlx := su_len (u := x) (by omega) hd1
    have hly := su_len (u := y) (by omega) hd3
    have HX := Lib.hid (fun w h he => ihx hu.2.1 (i + 1) (y.fl ++ r) w (by omega) hd1 h he)
    have HY := Lib.hid (fun w h he => ihy hu.2.2 (i + 1 + x.fl.length) r w (by omega) hd3 h he)
    have hon := isO_ne hu.1
    have ho7 := opN_le s
    have hln : ((Su.two s x y).fl.length : Int) = 1 + x.fl.length + y.fl.length := by simp [Su.fl]; omega
    have HLN := Lib.hid hln; clear hln ihx ihy hd hd1 hd2 hd3 e1 e3 hu
    obtain ⟨k, rfl⟩ : ∃ k : Nat, i = k := ⟨i.toNat, by omega⟩
    simp only [Int.toNat_natCast] at hs hlt
    obtain ⟨g, q, rfl, hg, c0⟩ := hv.tx hs
    have HV := Lib.hid hv
    have HO := Lib.hid (fun w => l8Op_any w s)
    have hlk : k < n := by omega
    clear hs hg hv
    have HF := Lib.hid (show Su.fo (vlF gs bs) vlG (.two s x y) = vlG (opN s) (x.fo (vlF gs bs) vlG) (y.fo (vlF gs bs) vlG) from rfl)
    have hp : (0 : Int) < (opN s : Int) := by omega
    have HEV := Lib.hid he; clear he
    generalize hlx' : x.fl.length = lx at *
    generalize hly' : y.fl.length = ly at *
    generalize Su.fo (vlF gs bs) vlG (.two s x y) = kr at *
    generalize x.fo (vlF gs bs) vlG = kx at *
    generalize y.fo (vlF gs bs) vlG = ky at *
    generalize opN s = o at *
    generalize (Su.two s x y).fl.length = ll at *
    generalize tx s = xs at *
    clear hlx' hly' hon
    obtain ⟨kx, kxb⟩ := kx
    obtain ⟨ky, kyb⟩ := ky
    have HD := Lib.hid (fun w => specDid_any (o : Int) kx ky w)
    simp only at HX HY
    cases kxb
    · have HE2 := Lib.hid (HF.out.trans (vlG_no1 rfl)); clear HF
      go_enter Tryz.func114, Tryz.ntmps114
      go_wp2_with fail
      refine (HO.out _).mono ?_; rintro e w1 ⟨rfl, b1⟩
      have V1' := Lib.hid (HV.out.below b1)
      have E1' := Lib.hid (HEV.out.below b1)
      have B1 := Lib.hid b1; clear b1
      go_wp2_with fail
      refine (HX.out w1 V1'.out E1'.out).mono ?_; rintro e w2 ⟨rfl, b2⟩
      have V2' := Lib.hid (V1'.out.below b2)
      have E2' := Lib.hid (E1'.out.below b2)
      have B2 := Lib.hid (bel_tr B1.out b2 (Nat.le_refl _)); clear b2
      go_wp2_with fail
      refine (HY.out w2 V2'.out E2'.out).mono ?_; rintro e w3 ⟨rfl, b3⟩
      have B3 := Lib.hid (bel_tr B2.out b3 (Nat.le_refl _)); clear b3
      go_wp2_with fail
      refine bodyPost_ret (v := .tuple #[.int .i64 0, .int .i64 ((k : Int) + 1 + (lx : Int) + (ly : Int)), .bool false]) (by simp [results, Tryz.results114, go_sem]) rfl ⟨?_, B3.out⟩
      rw [HE2.out, HLN.out]
      exact congrArg (fun z => Ending.returned (Value.tuple #[.int .i64 0, .int .i64 z, .bool false])) (by omega)
    · cases kyb
      · have HE2 := Lib.hid (HF.out.trans (vlG_no2 rfl)); clear HF
        go_enter Tryz.func114, Tryz.ntmps114
        go_wp2_with fail
        refine (HO.out _).mono ?_; rintro e w1 ⟨rfl, b1⟩
        have V1' := Lib.hid (HV.out.below b1)
        have E1' := Lib.hid (HEV.out.below b1)
        have B1 := Lib.hid b1; clear b1
        go_wp2_with fail
        refine (HX.out w1 V1'.out E1'.out).mono ?_; rintro e w2 ⟨rfl, b2⟩
        have V2' := Lib.hid (V1'.out.below b2)
        have E2' := Lib.hid (E1'.out.below b2)
        have B2 := Lib.hid (bel_tr B1.out b2 (Nat.le_refl _)); clear b2
        go_wp2_with fail
        refine (HY.out w2 V2'.out E2'.out).mono ?_; rintro e w3 ⟨rfl, b3⟩
        have B3 := Lib.hid (bel_tr B2.out b3 (Nat.le_refl _)); clear b3
        go_wp2_with fail
        refine bodyPost_ret (v := .tuple #[.int .i64 0, .int .i64 ((k : Int) + 1 + (lx : Int) + (ly : Int)), .bool false]) (by simp [results, Tryz.results114, go_sem]) rfl ⟨?_, B3.out⟩
        rw [HE2.out, HLN.out]
        exact congrArg (fun z => Ending.returned (Value.tuple #[.int .i64 0, .int .i64 z, .bool false])) (by omega)
      · have HE2 := Lib.hid (HF.out.trans (vlG_yes rfl rfl)); clear HF
        simp only at HE2
        generalize didV (o : Int) kx ky = dv at *
        generalize didB (o : Int) kx ky = db at *
        go_enter Tryz.func114, Tryz.ntmps114
        go_wp2_with fail
        refine (HO.out _).mono ?_; rintro e w1 ⟨rfl, b1⟩
        have V1' := Lib.hid (HV.out.below b1)
        have E1' := Lib.hid (HEV.out.below b1)
        have B1 := Lib.hid b1; clear b1
        go_wp2_with fail
        refine (HX.out w1 V1'.out E1'.out).mono ?_; rintro e w2 ⟨rfl, b2⟩
        have V2' := Lib.hid (V1'.out.below b2)
        have E2' := Lib.hid (E1'.out.below b2)
        have B2 := Lib.hid (bel_tr B1.out b2 (Nat.le_refl _)); clear b2
        go_wp2_with fail
        refine (HY.out w2 V2'.out E2'.out).mono ?_; rintro e w3 ⟨rfl, b3⟩
        have B3 := Lib.hid (bel_tr B2.out b3 (Nat.le_refl _)); clear b3
        go_wp2_with fail
        refine (HD.out _).mono ?_; rintro e w4 ⟨rfl, rfl⟩
        go_wp2_with fail
        refine bodyPost_ret (v := .tuple #[.int .i64 dv, .int .i64 ((k : Int) + 1 + (lx : Int) + (ly : Int)), .bool db]) (by simp [results, Tryz.results114, go_sem]) rfl ⟨?_, B3.out⟩
        rw [HE2.out, HLN.out]
        exact congrArg (fun z => Ending.returned (Value.tuple #[.int .i64 dv, .int .i64 z, .bool db])) (by omega)
theorem vlV_0 {l : List Tk} {i : Int} {bs : List Bi} {gs : List Int} (h : kdV l i = 0) : vlV l i bs gs = (0, false) := by unfold vlV; rw [if_pos h]
theorem vlV_1 {l : List Tk} {i : Int} {bs : List Bi} {gs : List Int} (h : okI bs = false) : vlV l i bs gs = (0, false) := by unfold vlV; rw [h]; split <;> rfl
theorem vlV_2 {l : List Tk} {i : Int} {bs : List Bi} {gs : List Int} (h : thB gs = false) : vlV l i bs gs = (0, false) := by unfold vlV; rw [h]; split <;> (try split) <;> rfl
theorem vlV_3 {l : List Tk} {i : Int} {bs : List Bi} {gs : List Int} (h : kdV l i ≠ 0) (h1 : okI bs = true) (h2 : thB gs = true) : vlV l i bs gs = foV (vlF gs bs) vlG (0, false) l i := by unfold vlV; rw [if_neg h, if_pos h1, if_pos h2]
theorem kdV_some {l : List Tk} {i : Int} (h : kdV l i ≠ 0) : ∃ n, enA l i = some n := by
  cases e : enA l i with
  | none => exact absurd (foV_none kdF kdG 0 e) h
  | some n => exact ⟨n, rfl⟩
end Go.Proofs.YtfnnoehpahdgcaaGreatDoor.Cl
namespace Go.Proofs.YtfnnoehpahdgcaaGreatDoor.Cl
set_option linter.unusedVariables false
open Go.RowKit Wd Rp Kp Ra Go.Shelf
theorem tw_wd (v : Value) (w : World) : (Instr.typeAssert (.iface 134 v) 142 134 true).run Tryz.prog w = .ok (.tuple #[v, .bool true]) w := by kernel_rfl
theorem tw_gv (v : Value) (w : World) : (Instr.typeAssert (.iface 158 v) 142 134 true).run Tryz.prog w = .ok (.tuple #[.int .i32 0, .bool false]) w := by kernel_rfl
theorem tw_nm (v : Value) (w : World) : (Instr.typeAssert (.iface 159 v) 142 134 true).run Tryz.prog w = .ok (.tuple #[.int .i32 0, .bool false]) w := by kernel_rfl
theorem tg_gv (v : Value) (w : World) : (Instr.typeAssert (.iface 158 v) 142 158 true).run Tryz.prog w = .ok (.tuple #[v, .bool true]) w := by kernel_rfl
theorem tg_nm (v : Value) (w : World) : (Instr.typeAssert (.iface 159 v) 142 158 true).run Tryz.prog w = .ok (.tuple #[.int .i64 0, .bool false]) w := by kernel_rfl
theorem tn_nm (v : Value) (w : World) : (Instr.typeAssert (.iface 159 v) 142 159 true).run Tryz.prog w = .ok (.tuple #[v, .bool true]) w := by kernel_rfl
theorem sgV_gv {s : Tk} (h : gvN s ≠ 0) : sgV s = .iface 158 (.int .i64 ((gvN s : Int) - 1)) := by unfold sgV; rw [if_pos h]
theorem sgV_nm {s : Tk} (h0 : opN s = 0) (h : gvN s = 0) (h2 : nmB s = true) : sgV s = .iface 159 (.string (tx s)) := by unfold sgV; rw [if_neg (by omega), if_neg (by omega), h2]; rfl
theorem sgV_wd {s : Tk} (h0 : opN s = 0) (h : gvN s = 0) (h2 : nmB s = false) (h3 : rdB s = true) : sgV s = .iface 134 (.int .i32 (rdV s)) := by unfold sgV; rw [if_neg (by omega), if_neg (by omega), h2, h3]; rfl
set_option maxHeartbeats 4000000 in
set_option maxRecDepth 100000 in
theorem valueOf_any (s : Tk) (hs : isL s = true) (w : World) (ba : Option Addr) (bc bn : Nat) (bs : List Bi) (ga : Option Addr) (gc : Nat) (gs : List Int) (he : Env w ba bc bn bs ga gc gs) :
    Calls Tryz.prog 135 #[sgV s, .slice ba bn bc, .slice ga (3 : Nat) gc] w fun e w' => e = .returned (.int .i64 (vlF gs bs s).1) ∧ Below w.heap.size w w' := by
  have h0 := isL_0 hs
  by_cases hgv : gvN s = 0
  · cases hnm : nmB s
    · have hrd : rdB s = true := by
        cases e : rdB s with
        | true => rfl
        | false => rw [isL_nm hs hgv e] at hnm; cases hnm
      have HE := Lib.hid (vlF_rd (gs := gs) (bs := bs) hgv hrd)
      obtain ⟨r0, r1⟩ := (isW_iff _).1 (rd_word hrd)
      rw [sgV_wd h0 hgv hnm hrd]
      have t1 := tw_wd (.int .i32 (rdV s))
      clear hs h0 hgv hnm hrd he
      generalize vlF gs bs s = vv at *
      generalize rdV s = rv at *
      go_enter Tryz.func135, Tryz.ntmps135
      go_wp2_with fail
      go_ret
      exact ⟨by rw [HE.out]; rfl, Below.refl _ _⟩
    · have HE := Lib.hid (vlF_nm (gs := gs) (bs := bs) hgv hnm)
      rw [sgV_nm h0 hgv hnm]
      have t1 := tw_nm (.string (tx s))
      have t2 := tg_nm (.string (tx s))
      have t3 := tn_nm (.string (tx s))
      have HV := Lib.hid (implValue_any w ba bc bs bn (tx s) he.bl he.bv he.b4)
      clear hs h0 hgv hnm he
      generalize vlF gs bs s = vv at *
      generalize (valL (tx s) bs).1 = va at *
      generalize (valL (tx s) bs).2 = vb at *
      generalize tx s = x at *
      go_enter Tryz.func135, Tryz.ntmps135
      go_wp2_with fail
      refine HV.out.mono ?_; rintro e w1 ⟨rfl, b1⟩
      have B1 := Lib.hid b1; clear b1
      go_wp2_with fail
      go_ret
      exact ⟨by rw [HE.out]; rfl, B1.out⟩
  · have HE := Lib.hid (vlF_gv (gs := gs) (bs := bs) hgv)
    have hg3 := gvN_le s
    rw [sgV_gv hgv]
    obtain ⟨j, hj⟩ : ∃ j : Nat, gvN s - 1 = j := ⟨_, rfl⟩
    have hj3 : j < 3 := by omega
    have hjg : (gvN s : Int) - 1 = (j : Int) := by omega
    rw [hj] at HE
    rw [hjg]
    have t1 := tw_gv (.int .i64 (j : Int))
    have t2 := tg_gv (.int .i64 (j : Int))
    obtain ⟨v, hv⟩ : ∃ v, gs[j]? = some v := ⟨gs[j]'(by have := he.g3; omega), List.getElem?_eq_getElem _⟩
    have hgd : gs.getD j 0 = v := by rw [List.getD_eq_getElem?_getD, hv]; rfl
    rw [hgd] at HE
    obtain ⟨gg, go, rfl, hgg, gc0⟩ := he.gv.iv hv
    clear hs h0 hgv hj hjg hg3 hv hgd he
    generalize vlF gs bs s = vv at *
    go_enter Tryz.func135, Tryz.ntmps135
    go_wp2_with fail
    go_ret
    exact ⟨by rw [HE.out]; rfl, Below.refl _ _⟩
set_option maxHeartbeats 4000000 in
set_option maxRecDepth 100000 in
theorem oneOut_any (s : Tk) (hs : isL s = true) (w : World) (q p : Nat) (ba : Option Addr) (bc bn : Nat) (bs : List Bi) (ga : Option Addr) (gc : Nat) (gs : List Int) (he : Env w ba bc bn bs ga gc gs) (hq : w.cell? ⟨q, 0, none⟩ = some (.slice ba bn bc)) (hp : w.cell? ⟨p, 0, none⟩ = some (.slice ga (3 : Nat) gc)) :
    Calls Tryz.prog 134 #[sgV s, .pointer (some ⟨q, 0, none⟩), .pointer (some ⟨p, 0, none⟩)] w fun e w' => e = .returned (.agg #[.int .i64 (vlF gs bs s).1, .bool (vlF gs bs s).2]) ∧ Below w.heap.size w w' := by
  have hb := bel1 w (.cells #[.int .i64 0, .bool false] 144)
  have HB := Lib.hid hb
  have HZ := Lib.hid (new_of w (.cells #[.int .i64 0, .bool false] 144))
  have hsz : (w.alloc (.cells #[.int .i64 0, .bool false] 144)).heap.size = w.heap.size + 1 := by simp
  have hq1 : (w.alloc (.cells #[.int .i64 0, .bool false] 144)).cell? ⟨q, 0, none⟩ = some (.slice ba bn bc) := (hb.cell (p := ⟨q, 0, none⟩) (Lib.lt_of_cell hq)).trans hq
  have hp1 : (w.alloc (.cells #[.int .i64 0, .bool false] 144)).cell? ⟨p, 0, none⟩ = some (.slice ga (3 : Nat) gc) := (hb.cell (p := ⟨p, 0, none⟩) (Lib.lt_of_cell hp)).trans hp
  have HV := Lib.hid (valueOf_any s hs (w.alloc (.cells #[.int .i64 0, .bool false] 144)) ba bc bn bs ga gc gs (he.below hb))
  have HT := Lib.hid (show (vlF gs bs s).2 = true from rfl)
  clear he hs hb
  generalize vlF gs bs s = vv at *
  generalize sgV s = sv at *
  obtain ⟨vv, vb⟩ := vv
  obtain rfl : vb = true := HT.out
  simp only at HV
  go_enter Tryz.func134, Tryz.ntmps134
  go_wp2_with fail
  generalize hW : w.alloc (.cells #[.int .i64 0, .bool false] 144) = w1 at *
  generalize hN : w.heap.size = N at *
  refine HV.out.mono ?_; rintro e w2 ⟨rfl, b2⟩
  obtain ⟨z0, z1, f0, f1⟩ := two_cells ((b2.block N (by omega)).trans HZ.out)
  have B2 := Lib.hid (HB.out.trans (b2.mono (by omega))); clear b2 hq1 hp1 hq hp
  go_wp2_with fail
  refine bodyPost_ret (v := .agg #[.int .i64 vv, .bool true]) (by simp [results, Tryz.results134, go_sem, z0, z1]) rfl ⟨rfl, ?_⟩
  rw [hN]
  exact (B2.out.setCell (p := ⟨N, 0, none⟩) (Nat.le_refl _) _).setCell (p := ⟨N, 1, none⟩) (Nat.le_refl _) _
set_option maxHeartbeats 4000000 in
set_option maxRecDepth 100000 in
theorem outcome_any (o : Nat) (x y : Int × Bool) (w : World) :
    Calls Tryz.prog 137 #[.int .i64 o, .agg #[.int .i64 x.1, .bool x.2], .agg #[.int .i64 y.1, .bool y.2]] w fun e w' => e = .returned (.agg #[.int .i64 (vlG o x y).1, .bool (vlG o x y).2]) ∧ Below w.heap.size w w' := by
  obtain ⟨x, xb⟩ := x
  obtain ⟨y, yb⟩ := y
  have HB := Lib.hid (fun o3 => bel3 w (.cells #[.int .i64 x, .bool xb] 144) (.cells #[.int .i64 y, .bool yb] 144) o3)
  have HD := Lib.hid (implDid_any (o : Int) x y)
  cases xb
  · have HE := Lib.hid (vlG_no1 (o := o) (a := (x, false)) (b := (y, yb)) rfl)
    generalize vlG o (x, false) (y, yb) = vv at *
    go_enter Tryz.func137, Tryz.ntmps137
    go_wp2_with fail
    refine bodyPost_ret (v := .agg #[.int .i64 0, .bool false]) (by simp [results, Tryz.results137, go_sem]) rfl ⟨by rw [HE.out], HB.out _⟩
  cases yb
  · have HE := Lib.hid (vlG_no2 (o := o) (a := (x, true)) (b := (y, false)) rfl)
    generalize vlG o (x, true) (y, false) = vv at *
    go_enter Tryz.func137, Tryz.ntmps137
    go_wp2_with fail
    refine bodyPost_ret (v := .agg #[.int .i64 0, .bool false]) (by simp [results, Tryz.results137, go_sem]) rfl ⟨by rw [HE.out], HB.out _⟩
  · have HE := Lib.hid (vlG_yes (o := o) (a := (x, true)) (b := (y, true)) rfl rfl)
    simp only at HE
    generalize vlG o (x, true) (y, true) = vv at *
    generalize didV (o : Int) x y = dv at *
    generalize didB (o : Int) x y = db at *
    go_enter Tryz.func137, Tryz.ntmps137
    go_wp2_with fail
    refine (HD.out _).mono ?_; rintro e w1 ⟨rfl, rfl⟩
    go_wp2_with fail
    refine bodyPost_ret (v := .agg #[.int .i64 dv, .bool db]) (by simp [results, Tryz.results137, go_sem]) rfl ⟨by rw [HE.out], HB.out _⟩
end Go.Proofs.YtfnnoehpahdgcaaGreatDoor.Cl
namespace Go.Proofs.YtfnnoehpahdgcaaGreatDoor.Cl
set_option linter.unusedVariables false
open Go.RowKit Wd Rp Kp Ra Go.Shelf
theorem foV_stk {R : Type} (f : Tk → R) (g : Nat → R → R → R) (z : R) {l : List Tk} {k m : Nat} {r : R} (he : enA l (k : Int) = some m) (h : stk f g ((l.drop k).take m) = [r]) : foV f g z l (k : Int) = r := by
  unfold foV; rw [he]
  show (stk f g ((l.drop k).take m)).headD z = r
  rw [h]; rfl
set_option maxHeartbeats 8000000 in
set_option maxRecDepth 100000 in
theorem implSum_any (w : World) (a : Option Addr) (cap : Nat) (l : List Tk) (n : Nat) (i : Int) (hi : I64 i) (hn : l.length = n) (hv : V1 w a cap (txL l)) (hl : n ≤ 4194304) (hm : ∀ s ∈ l, s.length ≤ 4194304) (hL : Lib3 w)
    (ba : Option Addr) (bc bn : Nat) (bs : List Bi) (hbl : bs.length = bn) (hbv : VwI w ba bc bs) (hb4 : bn ≤ 4194304) (ga : Option Addr) (gc gn : Nat) (gs : List Int) (hgl : gs.length = gn) (hgv : V1 w ga gc (inL gs)) (hg4 : gn ≤ 4194304) :
    Calls Tryz.prog 123 #[.slice a n cap, .int .i64 i, .slice ba bn bc, .slice ga gn gc] w fun e w' => e = .returned (.tuple #[.int .i64 (vlV l i bs gs).1, .bool (vlV l i bs gs).2]) ∧ Below w.heap.size w w' := by
  have hb0 := bel2 w (.cells #[.slice ba bn bc] 25) (.cells #[.slice ga gn gc] 26)
  have HB0 := Lib.hid hb0
  have hx1 := new_of (w.alloc (.cells #[.slice ba bn bc] 25)) (.cells #[.slice ga gn gc] 26)
  have hx0 := ((bel1 (w.alloc (.cells #[.slice ba bn bc] 25)) (.cells #[.slice ga gn gc] 26)).block w.heap.size (by simp)).trans (new_of w (.cells #[.slice ba bn bc] 25))
  have hsz : ((w.alloc (.cells #[.slice ba bn bc] 25)).alloc (.cells #[.slice ga gn gc] 26)).heap.size = w.heap.size + 2 := by simp
  simp only [World.size_alloc] at hx1
  have HX0 := Lib.hid (Bq.of hx0)
  have HX1 := Lib.hid (Bq.of hx1)
  have hn5 := (HX0.out).1
  have hn6 := (HX1.out).1
  have HK := Lib.hid (implKind_any ((w.alloc (.cells #[.slice ba bn bc] 25)).alloc (.cells #[.slice ga gn gc] 26)) a cap l n i hi hn (hv.below hb0) hl hm (lib3_below hL hb0))
  have HBO := Lib.hid (fun w' (hb : Below w.heap.size w w') => implBins_any w' ba bc bs bn hbl (hbv.below hb) hb4)
  have HTH := Lib.hid (fun w' (hb : Below w.heap.size w w') => givenOk_any w' ga gc gs gn hgl (hgv.below hb) hg4)
  have HVV := Lib.hid hv
  have HLL := Lib.hid hL
  clear hb0 hx0 hx1 hn5 hn6 hv hL
  generalize hq : w.heap.size = q at *
  generalize hw2 : (w.alloc (.cells #[.slice ba bn bc] 25)).alloc (.cells #[.slice ga gn gc] 26) = w2 at *
  by_cases hk : kdV l i = 0
  · have HE := Lib.hid (vlV_0 (bs := bs) (gs := gs) hk)
    rw [hk] at HK
    generalize vlV l i bs gs = vv at *
    go_enter Tryz.func123, Tryz.ntmps123
    go_wp2_with fail
    refine HK.out.mono ?_; rintro e w3 ⟨rfl, b3⟩
    have B3 := Lib.hid (HB0.out.trans (b3.mono (by omega))); clear b3
    go_wp2_with fail
    go_ret2
    exact ⟨by rw [HE.out]; rfl, B3.out⟩
  have hk2 : (kdV l i == 0) = false := by rw [beq_eq_false_iff_ne]; exact hk
  have HK0 := Lib.hid hk; clear hk
  cases hb : okI bs
  · have HE := Lib.hid (vlV_1 (l := l) (i := i) (gs := gs) hb)
    rw [hb] at HBO
    generalize vlV l i bs gs = vv at *
    generalize kdV l i = kv at *
    go_enter Tryz.func123, Tryz.ntmps123
    go_wp2_with fail
    refine HK.out.mono ?_; rintro e w3 ⟨rfl, b3⟩
    have B3 := Lib.hid (HB0.out.trans (b3.mono (by omega)))
    have n5 := (HX0.out.next b3).1; clear b3
    have HBO2 := Lib.hid (HBO.out w3 B3.out)
    go_wp2_with fail
    refine HBO2.out.mono ?_; rintro e w4 ⟨rfl, b4⟩
    have B4 := Lib.hid (bel_tr B3.out b4 (by omega)); clear b4
    go_wp2_with fail
    go_ret2
    exact ⟨by rw [HE.out]; rfl, B4.out⟩
  rw [hb] at HBO
  cases ht : thB gs
  · have HE := Lib.hid (vlV_2 (l := l) (i := i) (bs := bs) ht)
    rw [ht] at HTH
    generalize vlV l i bs gs = vv at *
    generalize kdV l i = kv at *
    go_enter Tryz.func123, Tryz.ntmps123
    go_wp2_with fail
    refine HK.out.mono ?_; rintro e w3 ⟨rfl, b3⟩
    have B3 := Lib.hid (HB0.out.trans (b3.mono (by omega)))
    have n5 := (HX0.out.next b3).1
    have X1 := Lib.hid (HX1.out.next b3); clear b3
    have HBO2 := Lib.hid (HBO.out w3 B3.out)
    go_wp2_with fail
    refine HBO2.out.mono ?_; rintro e w4 ⟨rfl, b4⟩
    have B4 := Lib.hid (bel_tr B3.out b4 (by omega))
    have n6 := (X1.out.next b4).1; clear b4 n5
    have HTH2 := Lib.hid (HTH.out w4 B4.out)
    go_wp2_with fail
    refine HTH2.out.mono ?_; rintro e w5 ⟨rfl, rfl⟩
    go_wp2_with fail
    go_ret2
    exact ⟨by rw [HE.out]; rfl, B4.out⟩
  · have hg3 := thB_len ht
    obtain rfl : gn = 3 := by omega
    obtain ⟨m, he⟩ := kdV_some HK0.out
    obtain ⟨k, rfl, hkm, hlen, hent, hm1⟩ := enA_piece he
    have HE := Lib.hid (vlV_3 HK0.out hb ht)
    have HFV := Lib.hid (fun r h => foV_stk (r := r) (vlF gs bs) vlG (0, false) he h)
    rw [ht] at HTH
    have HS := Lib.hid (fun w1 (hb : Below q w w1) => sumAt_some w1 a cap l n k m hi hn (HVV.out.below (by rw [hq]; exact hb)) hl hm (lib3_below HLL.out (by rw [hq]; exact hb)) he (by omega))
    have HF := Lib.hid (fun w1 b cb (hb : Below q w w1) (h0 : Bq q (.slice ba bn bc) w1) (h1 : Bq (q + 1) (.slice ga (3 : Nat) gc) w1) (hvb : V1 w1 b cb (txL ((l.drop k).take m))) => foldedOut_any (vlF gs bs) vlG w1 b cb m ((l.drop k).take m) hlen hvb (by omega) (fun s hs => hm s (mem_piece hs)) (lib3_below HLL.out (by rw [hq]; exact hb)) (by rw [hlen]; exact hent)
      134 137 #[.pointer (some ⟨q, 0, none⟩), .pointer (some ⟨q + 1, 0, none⟩)] (enters_of Tryz.func134 (by kernel_rfl) rfl) (enters_of Tryz.func137 (by kernel_rfl) rfl)
      (fun s W _ hsl hW => oneOut_any s hsl W q (q + 1) ba bc bn bs ga gc gs ⟨hbl, hbv.below (by rw [hq]; exact hb.trans (hW.mono (by have := hb.size; have := h1.2.2; omega))), hb4, hgv.below (by rw [hq]; exact hb.trans (hW.mono (by have := h1.2.2; omega))), hg3⟩ (h0.next hW).1 (h1.next hW).1)
      (fun o x y W _ _ => outcome_any o x y W))
    clear hent he hlen hb ht HK0
    generalize vlV l (k : Int) bs gs = vv at *
    generalize kdV l (k : Int) = kv at *
    go_enter Tryz.func123, Tryz.ntmps123
    go_wp2_with fail
    refine HK.out.mono ?_; rintro e w3 ⟨rfl, b3⟩
    have B3 := Lib.hid (HB0.out.trans (b3.mono (by omega)))
    have n5 := (HX0.out.next b3).1
    have X0 := Lib.hid (HX0.out.next b3)
    have X1 := Lib.hid (HX1.out.next b3); clear b3
    have HBO2 := Lib.hid (HBO.out w3 B3.out)
    go_wp2_with fail
    refine HBO2.out.mono ?_; rintro e w4 ⟨rfl, b4⟩
    have B4 := Lib.hid (bel_tr B3.out b4 (by omega))
    have X04 := Lib.hid (X0.out.next b4)
    have X14 := Lib.hid (X1.out.next b4); clear b4 n5
    have n6 := X14.out.1
    have HTH2 := Lib.hid (HTH.out w4 B4.out)
    go_wp2_with fail
    refine HTH2.out.mono ?_; rintro e w5 ⟨rfl, rfl⟩
    have HS2 := Lib.hid (HS.out w4 B4.out)
    go_wp2_with fail
    refine HS2.out.mono ?_; rintro e w5 ⟨b, cb, rfl, hvb, b5⟩
    have B5 := Lib.hid (bel_tr B4.out b5 (by omega))
    have HF2 := Lib.hid (HF.out w5 b cb B5.out (X04.out.next b5) (X14.out.next b5) hvb); clear b5 hvb n6
    go_wp2_with fail
    refine HF2.out.mono ?_; rintro e w6 ⟨r, hr, rfl, b6⟩
    have HR := Lib.hid (HE.out.trans (HFV.out r hr)); clear hr
    have B6 := Lib.hid (bel_tr B5.out b6 (by omega)); clear b6
    have hb7 := bel1 w6 (.cells #[.int .i64 r.1, .bool r.2] 144)
    have B7 := Lib.hid (bel_tr B6.out hb7 (by omega))
    obtain ⟨z0, z1, f0, f1⟩ := two_cells (new_of w6 (.cells #[.int .i64 r.1, .bool r.2] 144))
    clear hb7
    go_wp2_with fail
    go_quiet (fail)
    go_wp2_with fail
    go_ret2
    exact ⟨by rw [HR.out]; rfl, bel_drewN B7.out _⟩
end Go.Proofs.YtfnnoehpahdgcaaGreatDoor.Cl
