/-
  Texts of mine, joined (part 5 of 7): what the law at hand reaches of them; each text's own words stand in the verifier's repo.
-/
import Derived.Test.YtoiphglfngkoiaaGreatDoorSk4
import Derived.Test.YtoiphglfngkoiaaGreatDoorRows
import Derived.WalkKit
import Derived.IntWalk
import Derived.Laws.Bits128
import Derived.Lib.Hide
import Derived.Lib.ParseIntBTie
import Derived.Lib.ParseIntBCases
import Derived.Lib.ItoaMem
import Derived.Lib.IndexMore
import Derived.Lib.Repeat
import Derived.WalkSpells
import Derived.Below
import Derived.Carry
import Derived.WalkSmall
import Derived.Laws.Closers25b
import Derived.Lib.Strings
import Derived.Lib.SmallJoins
import Derived.Lib.AppendIntMem
import Derived.Maps.AppendAt
import Derived.OwnWalk
import Derived.WalkLawsBesides
import Derived.Deep.QuietTactic
import Derived.BigQuiet
import Derived.Deep.RegionHeld3
import Derived.Laws.OwnMore
import Derived.Laws.StructEq
import Derived.BigFrame
import Derived.Deep.Upon
import Derived.Laws.CopyRow
import Derived.Laws.BytesArg
import Derived.RowKit3
import Derived.Shelf.Strconv.Itoa4
import Derived.Shelf.Strconv.ParseIntPublic10
import Derived.Shelf.Strconv.ErrVarParseInt
import Derived.Test.YtoiphglfngkoiaaGreatDoorProg
import Derived.LaidMore
import Derived.Stop.LaidErr
import Derived.Lib.LaidTab
import Derived.Deep.LoopGhost
import Derived.RangeFuncWrites
import Derived.RangeFuncCalls
import Derived.RangeFuncBox
import Derived.RangeFuncNested
import Derived.RangeFuncLeaves
import Derived.Shelf.Abstract
import Derived.Shelf.RegionOpen
import Derived.OwnWalkIn
import Derived.TacticsInMore
import Derived.LoopNIn
import Derived.LoopIn
import Derived.Lib.AtoiErrMem
import Derived.OpenShut
import Derived.Lib.ConvBytes
import Derived.Deep.RegionLaw
import Derived.Deep.AppendLies
import Derived.Lib.AppendZeros
import Derived.ProofKit
import Derived.Handed
import Derived.SizedLaws
import Derived.ShutString
import Derived.Deep.Slices
import Derived.Deep.Fields
import Derived.ChangeSame
namespace Go.Proofs.YtoiphglfngkoiaaGreatDoor.Cl.T
set_option linter.unusedVariables false
open Go.RowKit Wd Rp Cu Kp
def ddQ (l : List Tk) (B : Int → Int) (R : Int → Sl) (i : Int) : Sm := match tkA l i with
  | none => .stop
  | some s => if s = setT then .set (tkN l (i + 1)) (smT l (i + 2)) else if s = cutT then .cut (tkN l (i + 1)) else if s = stopT then .stop
    else if s = ifT then .ifs (smT l (i + 1)) (R (smV l 2 (i + 1))) (R (B (smV l 2 (i + 1)))) else if s = whT then .whl (smT l (i + 1)) (R (smV l 2 (i + 1))) else .stop
def dlR (l : List Tk) (f : Int → Int) (R : Int → Sm) : Nat → Int → Sl
  | 0, _ => .nil
  | n + 1, i => match tkA l i with | none => .nil | some s => if s = [93] then .nil else .cons (R i) (dlR l f R n (f i))
def blR (l : List Tk) (f : Int → Int) (R : Int → Sm) (i : Int) : Sl := dlR l f R (l.length + 1) (i + 1)
def ddR (l : List Tk) : Nat → Int → Sm
  | 0 => ddQ l (fun _ => -1) (fun _ => .nil)
  | d + 1 => ddQ l (blS l (ddE l d)) (blR l (ddE l d) (ddR l d))
def rcR (l : List Tk) : Sl := dlR l (ddE l 5) (ddR l 5) (l.length + 1) 0
theorem ddQ_some {l : List Tk} {B : Int → Int} {R : Int → Sl} {i : Int} {s : Tk} (h : tkA l i = some s) : ddQ l B R i = if s = setT then .set (tkN l (i + 1)) (smT l (i + 2)) else if s = cutT then .cut (tkN l (i + 1)) else if s = stopT then .stop
    else if s = ifT then .ifs (smT l (i + 1)) (R (smV l 2 (i + 1))) (R (B (smV l 2 (i + 1)))) else if s = whT then .whl (smT l (i + 1)) (R (smV l 2 (i + 1))) else .stop := by unfold ddQ; rw [h]
def preS : List Sm → Sl → Sl
  | [], t => t
  | s :: ss, t => .cons s (preS ss t)
theorem preS_snoc (ss : List Sm) (s : Sm) (t : Sl) : preS ss (.cons s t) = preS (ss ++ [s]) t := by
  induction ss with
  | nil => rfl
  | cons x ss ih => rw [List.cons_append, preS, preS, ih]
def DdM (w0 : World) (K : Nat → Prop) (w : World) (sub : Value → Sl → Prop) (d : Dv) : Sm → Prop
  | .set n e => d.h = setT ∧ d.n = n ∧ d.sn = e.length ∧ V1 w0 d.sa d.sc (txL e)
  | .cut n => d.h = cutT ∧ d.n = n
  | .stop => d.h = stopT
  | .ifs e a b => d.h = ifT ∧ d.sn = e.length ∧ V1 w0 d.sa d.sc (txL e) ∧ ∃ va vb, d.bn = 2 ∧ V1 w d.ba d.bc [va, vb] ∧ (∀ g o, d.ba = some ⟨g, o, none⟩ → K g ∧ g < w.heap.size) ∧ sub va a ∧ sub vb b
  | .whl e a => d.h = whT ∧ d.sn = e.length ∧ V1 w0 d.sa d.sc (txL e) ∧ ∃ va, d.bn = 1 ∧ V1 w d.ba d.bc [va] ∧ (∀ g o, d.ba = some ⟨g, o, none⟩ → K g ∧ g < w.heap.size) ∧ sub va a
def DM (w0 : World) (K : Nat → Prop) (w : World) : Nat → Value → Sl → Prop
  | 0 => fun _ _ => False
  | D + 1 => fun v F => ∃ (ds : List Dv) (fs : List Sm), OwD 0 w v ds ∧ (∀ k, v.ownBlock = some k → K k) ∧ ds.length = fs.length ∧ (∀ (k : Nat) (d : Dv) (f : Sm), ds[k]? = some d → fs[k]? = some f → DdM w0 K w (DM w0 K w D) d f) ∧ F = preS fs .nil
theorem DdM.keep {w0 w w' : World} {K K' : Nat → Prop} (hs : w.heap.size ≤ w'.heap.size) (hk : ∀ g, K g → g < w.heap.size → w'.heap[g]? = w.heap[g]?) (hK : ∀ g, K g → g < w.heap.size → K' g) {sub sub' : Value → Sl → Prop} (hsub : ∀ v f, sub v f → sub' v f) {d : Dv} {f : Sm} (h : DdM w0 K w sub d f) : DdM w0 K' w' sub' d f := by
  cases f with
  | set n e => exact h
  | cut n => exact h
  | stop => exact h
  | ifs e a b =>
    obtain ⟨h1, h2, h3, va, vb, h4, h5, h6, h7, h8⟩ := h
    exact ⟨h1, h2, h3, va, vb, h4, h5.keep hs (fun g o e hg => hk g (h6 g o e).1 hg), (fun g o e => ⟨hK g (h6 g o e).1 (h6 g o e).2, Nat.lt_of_lt_of_le (h6 g o e).2 hs⟩), hsub _ _ h7, hsub _ _ h8⟩
  | whl e a =>
    obtain ⟨h1, h2, h3, va, h4, h5, h6, h7⟩ := h
    exact ⟨h1, h2, h3, va, h4, h5.keep hs (fun g o e hg => hk g (h6 g o e).1 hg), (fun g o e => ⟨hK g (h6 g o e).1 (h6 g o e).2, Nat.lt_of_lt_of_le (h6 g o e).2 hs⟩), hsub _ _ h7⟩
theorem DM.keep {w0 w w' : World} {K K' : Nat → Prop} (hs : w.heap.size ≤ w'.heap.size) (hk : ∀ g, K g → g < w.heap.size → w'.heap[g]? = w.heap[g]?) (hK : ∀ g, K g → g < w.heap.size → K' g) : ∀ (D : Nat) (v : Value) (F : Sl), DM w0 K w D v F → DM w0 K' w' D v F
  | 0, v, F, h => by cases h
  | D + 1, v, F, h => by
    obtain ⟨ds, fs, h1, h2, h3, h4, h5⟩ := h
    exact ⟨ds, fs, h1.same fun k hk' => hk k (h2 k hk') (h1.low k hk'), fun k hk' => hK k (h2 k hk') (h1.low k hk'), h3, fun k d f hd hf => (h4 k d f hd hf).keep hs hk hK (fun v f h => DM.keep hs hk hK D v f h), h5⟩
theorem ddQ_x {l : List Tk} {B : Int → Int} {R : Int → Sl} {x : Int} {s : Tk} (h : tkA l x = some s) (e : tkN l x = s) : ddQ l B R x = (if tkN l x = setT then .set (tkN l (x + 1)) (smT l (x + 2)) else if tkN l x = cutT then .cut (tkN l (x + 1)) else if tkN l x = stopT then .stop
    else if tkN l x = ifT then .ifs (smT l (x + 1)) (R (smV l 2 (x + 1))) (R (B (smV l 2 (x + 1)))) else if tkN l x = whT then .whl (smT l (x + 1)) (R (smV l 2 (x + 1))) else .stop) := by rw [ddQ_some h, e]
def BlkC (w0 : World) (p : Nat) (l : List Tk) (D : Nat) (o : Int) (B : Int → Int) (R : Int → Sl) : Prop := ∀ (x : Int) (z : World), Sx w0 p l o x z →
  Calls Tryz.prog 45 #[.pointer (some ⟨p, 0, none⟩)] z fun e z' => ∃ a n c, e = .returned (.slice a n c) ∧ But p z z' ∧ Sx w0 p l o (B x) z' ∧ (B x ≠ -1 → DM w0 (z.heap.size ≤ ·) z' D (.slice a n c) (R x))
def DeedC (w0 : World) (p : Nat) (l : List Tk) (D : Nat) (o : Int) (f : Int → Int) (R : Int → Sm) : Prop := ∀ (x : Int) (z : World), Sx w0 p l o x z →
  Calls Tryz.prog 31 #[.pointer (some ⟨p, 0, none⟩)] z fun e z' => ∃ d : Dv, e = .returned d.v ∧ But p z z' ∧ Sx w0 p l o (f x) z' ∧ (f x ≠ -1 → DdM w0 (z.heap.size ≤ ·) z' (DM w0 (z.heap.size ≤ ·) z' D) d (R x))
set_option maxHeartbeats 8000000 in
set_option maxRecDepth 100000 in
theorem deed_of {w0 : World} {p : Nat} {l : List Tk} {D : Nat} {o : Int} {B : Int → Int} {R : Int → Sl} (hL : Lib3 w0) (hB0 : B (-1) = -1) (hB : BlkC w0 p l D o B R) : DeedC w0 p l D o (ddG l B) (ddQ l B R) := by
  intro x w hs
  have hlo := hs.lo.1
  have hlt := hs.lo.2
  have HB := Lib.hid hB
  have HS := Lib.hid (fun (y : Int) (z : World) (kind : Int) (hk : kind ≠ 0) (h : Sx w0 p l o y z) => sum_x hL kind hk h)
  have H1 := Lib.hid (bel1 w (.cells #[.string ⟨#[]⟩, .string ⟨#[]⟩, .slice none 0 0, .slice none 0 0] 51))
  have HN := new_of w (.cells #[.string ⟨#[]⟩, .string ⟨#[]⟩, .slice none 0 0, .slice none 0 0] 51)
  have HT := Lib.hid (token_x (hs.next H1.out))
  have HBU := Lib.hid (But.of H1.out : But p w _)
  have HD := Lib.hid (ddX (l := l) (B := B) (x := x))
  have HQ := Lib.hid (fun s h e => ddQ_x (l := l) (B := B) (R := R) (x := x) (s := s) h e)
  have HTX := Lib.hid (fun h => tkX_neg (l := l) (x := x) h)
  clear hs hB hL
  generalize ddG l B x = rr at *
  generalize ddQ l B R x = rq at *
  generalize hx1 : tkX l x = x1 at *
  clear hx1
  generalize hq : w.heap.size = q at *
  have Q1 := Lib.hid (B4.of HN)
  have BL1 := Lib.hid (show Below q w _ from H1.out)
  clear HN H1
  go_enter Tryz.func31, Tryz.ntmps31
  go_wp2_with fail
  generalize w.alloc (.cells #[.string ⟨#[]⟩, .string ⟨#[]⟩, .slice none 0 0, .slice none 0 0] 51) = w1 at *
  have HQW := Lib.hid hq
  clear hq
  refine HT.out.mono ?_; rintro e w2 ⟨t, rfl, b2, r2, ht⟩
  have HTN := Lib.hid ht
  rw [← ht] at HD HQ HTX
  clear ht HT
  have Q2 := Lib.hid (Q1.out.but b2 (by omega))
  have BU2 := Lib.hid (HBU.out.trans b2)
  have hz2 : q < w2.heap.size := Q2.out.lt
  have R3 := Lib.hid (r2.next (bel1 w2 (.cells #[.string (tx t), .string ⟨#[]⟩, .slice none 0 0, .slice none 0 0] 51)))
  have Q3 := Lib.hid (Q2.out.next (bel1 w2 (.cells #[.string (tx t), .string ⟨#[]⟩, .slice none 0 0, .slice none 0 0] 51)))
  have D3 := Lib.hid (B4.of (new_of w2 (.cells #[.string (tx t), .string ⟨#[]⟩, .slice none 0 0, .slice none 0 0] 51)))
  have BU3 := Lib.hid (BU2.out.alloc (.cells #[.string (tx t), .string ⟨#[]⟩, .slice none 0 0, .slice none 0 0] 51))
  have R2 := Lib.hid r2
  clear r2 b2 Q1 HBU BL1
  have hrp : w2.heap.size ≠ p := by omega
  have hpr : p ≠ w2.heap.size := by omega
  have hqp : q ≠ p := by omega
  have hpq : p ≠ q := by omega
  have hqr : q ≠ w2.heap.size := by omega
  have hrb : w0.heap.size ≤ w2.heap.size := by omega
  have hqb : w0.heap.size ≤ q := by omega
  have hwq : w.heap.size ≤ q := by have := HQW.out; omega
  have hwr : w.heap.size ≤ w2.heap.size := by have := HQW.out; omega
  have hrz : w2.heap.size < _ := D3.out.lt
  by_cases b0 : t = setT
  · subst b0
    have qe : ((tx setT).toList == [115, 101, 116]) = true := tx_eqL _
    replace HD := Lib.hid (HD.out.trans (if_pos rfl))
    replace HQ := Lib.hid (fun s h e => (HQ.out s h e).trans (if_pos rfl))
    have d0 := D3.out.c0; have d1 := D3.out.c1; have d2 := D3.out.c2; have d3 := D3.out.c3
    have g0 := D3.out.f0; have g1 := D3.out.f1; have g2 := D3.out.f2; have g3 := D3.out.f3
    have e0 := Q3.out.c0; have e1 := Q3.out.c1; have e2 := Q3.out.c2; have e3 := Q3.out.c3
    have k0 := Q3.out.f0; have k1 := Q3.out.f1; have k2 := Q3.out.f2; have k3 := Q3.out.f3
    go_wp2_with fail
    generalize w2.heap.size = r at *
    generalize w2.alloc (.cells #[.string (tx setT), .string ⟨#[]⟩, .slice none 0 0, .slice none 0 0] 51) = w4 at *
    clear d0 d1 d2 d3 g0 g1 g2 g3 e0 e1 e2 e3 k0 k1 k2 k3
    have D4 := D3; have Q4 := Q3; have R4 := R3; have BU4 := BU3
    refine (name_x R4.out).mono ?_; rintro e w5 ⟨n5, rfl, b5, r5, hn5⟩
    have D5 := Lib.hid (D4.out.but b5 hrp)
    have Q5 := Lib.hid (Q4.out.but b5 hqp)
    have BU5 := Lib.hid (BU4.out.trans b5)
    have hz5 : w4.heap.size ≤ w5.heap.size := b5.size
    have hk5 := Lib.hid b5
    have R5 := Lib.hid r5; have HN5 := Lib.hid hn5; clear r5 hn5 b5
    have D6 := Lib.hid (D5.out.set1 (.string (tx n5)))
    have Q6 := Lib.hid (Q5.out.same (Below.heap_setCell w5 ⟨r, 1, none⟩ (.string (tx n5)) q hqr) (by rw [World.size_setCell]; exact Nat.le_refl _))
    have BU6 := Lib.hid (BU5.out.setNew (p := ⟨r, 1, none⟩) hwr (.string (tx n5)))
    have R6 := Lib.hid (R5.out.set (j := 1) hrb hpr (.string (tx n5)))
    have hs6 : (w5.setCell ⟨r, 1, none⟩ (.string (tx n5))).heap.size = w5.heap.size := World.size_setCell _ _ _
    have d0 := D5.out.c0; have d1 := D5.out.c1; have d2 := D5.out.c2; have d3 := D5.out.c3
    have g0 := D5.out.f0; have g1 := D5.out.f1; have g2 := D5.out.f2; have g3 := D5.out.f3
    have e0 := Q5.out.c0; have e1 := Q5.out.c1; have e2 := Q5.out.c2; have e3 := Q5.out.c3
    have k0 := Q5.out.f0; have k1 := Q5.out.f1; have k2 := Q5.out.f2; have k3 := Q5.out.f3
    go_wp2_with fail
    generalize (w5.setCell ⟨r, 1, none⟩ (.string (tx n5))) = w6 at *
    clear d0 d1 d2 d3 g0 g1 g2 g3 e0 e1 e2 e3 k0 k1 k2 k3
    refine (HS.out _ _ 1 (by decide) R6.out).mono ?_; rintro e w7 ⟨a7, n7, c7, rfl, b7, r7, m7⟩
    have D7 := Lib.hid (D6.out.but b7 hrp)
    have Q7 := Lib.hid (Q6.out.but b7 hqp)
    have BU7 := Lib.hid (BU6.out.trans b7)
    have hz7 : w6.heap.size ≤ w7.heap.size := b7.size
    have hk7 := Lib.hid b7
    have R7 := Lib.hid r7; have M7 := Lib.hid m7; clear r7 m7 b7
    have D8 := Lib.hid (D7.out.set2 (.slice a7 n7 c7))
    have Q8 := Lib.hid (Q7.out.same (Below.heap_setCell w7 ⟨r, 2, none⟩ (.slice a7 n7 c7) q hqr) (by rw [World.size_setCell]; exact Nat.le_refl _))
    have BU8 := Lib.hid (BU7.out.setNew (p := ⟨r, 2, none⟩) hwr (.slice a7 n7 c7))
    have R8 := Lib.hid (R7.out.set (j := 2) hrb hpr (.slice a7 n7 c7))
    have hs8 : (w7.setCell ⟨r, 2, none⟩ (.slice a7 n7 c7)).heap.size = w7.heap.size := World.size_setCell _ _ _
    have d0 := D7.out.c0; have d1 := D7.out.c1; have d2 := D7.out.c2; have d3 := D7.out.c3
    have g0 := D7.out.f0; have g1 := D7.out.f1; have g2 := D7.out.f2; have g3 := D7.out.f3
    have e0 := Q7.out.c0; have e1 := Q7.out.c1; have e2 := Q7.out.c2; have e3 := Q7.out.c3
    have k0 := Q7.out.f0; have k1 := Q7.out.f1; have k2 := Q7.out.f2; have k3 := Q7.out.f3
    have d0' := D8.out.c0; have d1' := D8.out.c1; have d2' := D8.out.c2; have d3' := D8.out.c3
    go_wp2_with fail
    refine bodyPost_ret (v := Dv.v ⟨setT, n5, a7, n7, c7, none, 0, 0⟩) (by simp [results, Tryz.results31, go_sem, Dv.v, put4_c0 Q8.out, put4_c1 Q8.out, put4_c2 Q8.out, put4_c3 Q8.out]) rfl ⟨⟨setT, n5, a7, n7, c7, none, 0, 0⟩, rfl, but_put4 BU8.out hwq _ _ _ _, (by rw [HD.out]; exact R8.out.put4 hqb hpq _ _ _ _), ?_⟩
    intro hn
    rw [HD.out] at hn
    have hy1 : nmX l x1 ≠ -1 := fun e => hn (by rw [e]; exact sm_neg1 l 1)
    have hx1 : x1 ≠ -1 := fun e => hy1 (by rw [e]; exact nmX_neg l)
    obtain ⟨e1, s, h1, h2⟩ := HTX.out hx1
    have e2 := nmX_ne hy1
    have m7 := M7.out hn
    rw [HQ.out s h1 h2, show x + 2 = nmX l x1 by omega, ← e1, ← HN5.out]
    exact ⟨rfl, rfl, m7.1, m7.2⟩
  replace HD := Lib.hid (HD.out.trans (if_neg b0))
  replace HQ := Lib.hid (fun s h e => (HQ.out s h e).trans (if_neg b0))
  by_cases b1 : t = cutT
  · subst b1
    have qe : ((tx cutT).toList == [99, 117, 116]) = true := tx_eqL _
    have q0 : ((tx cutT).toList == [115, 101, 116]) = false := by rw [Lib.toList_data, tx_data]; decide
    replace HD := Lib.hid (HD.out.trans (if_pos rfl))
    replace HQ := Lib.hid (fun s h e => (HQ.out s h e).trans (if_pos rfl))
    have d0 := D3.out.c0; have d1 := D3.out.c1; have d2 := D3.out.c2; have d3 := D3.out.c3
    have g0 := D3.out.f0; have g1 := D3.out.f1; have g2 := D3.out.f2; have g3 := D3.out.f3
    have e0 := Q3.out.c0; have e1 := Q3.out.c1; have e2 := Q3.out.c2; have e3 := Q3.out.c3
    have k0 := Q3.out.f0; have k1 := Q3.out.f1; have k2 := Q3.out.f2; have k3 := Q3.out.f3
    go_wp2_with fail
    generalize w2.heap.size = r at *
    generalize w2.alloc (.cells #[.string (tx cutT), .string ⟨#[]⟩, .slice none 0 0, .slice none 0 0] 51) = w4 at *
    clear d0 d1 d2 d3 g0 g1 g2 g3 e0 e1 e2 e3 k0 k1 k2 k3
    have D4 := D3; have Q4 := Q3; have R4 := R3; have BU4 := BU3
    refine (name_x R4.out).mono ?_; rintro e w5 ⟨n5, rfl, b5, r5, hn5⟩
    have D5 := Lib.hid (D4.out.but b5 hrp)
    have Q5 := Lib.hid (Q4.out.but b5 hqp)
    have BU5 := Lib.hid (BU4.out.trans b5)
    have hz5 : w4.heap.size ≤ w5.heap.size := b5.size
    have hk5 := Lib.hid b5
    have R5 := Lib.hid r5; have HN5 := Lib.hid hn5; clear r5 hn5 b5
    have D6 := Lib.hid (D5.out.set1 (.string (tx n5)))
    have Q6 := Lib.hid (Q5.out.same (Below.heap_setCell w5 ⟨r, 1, none⟩ (.string (tx n5)) q hqr) (by rw [World.size_setCell]; exact Nat.le_refl _))
    have BU6 := Lib.hid (BU5.out.setNew (p := ⟨r, 1, none⟩) hwr (.string (tx n5)))
    have R6 := Lib.hid (R5.out.set (j := 1) hrb hpr (.string (tx n5)))
    have hs6 : (w5.setCell ⟨r, 1, none⟩ (.string (tx n5))).heap.size = w5.heap.size := World.size_setCell _ _ _
    have d0 := D5.out.c0; have d1 := D5.out.c1; have d2 := D5.out.c2; have d3 := D5.out.c3
    have g0 := D5.out.f0; have g1 := D5.out.f1; have g2 := D5.out.f2; have g3 := D5.out.f3
    have e0 := Q5.out.c0; have e1 := Q5.out.c1; have e2 := Q5.out.c2; have e3 := Q5.out.c3
    have k0 := Q5.out.f0; have k1 := Q5.out.f1; have k2 := Q5.out.f2; have k3 := Q5.out.f3
    have d0' := D6.out.c0; have d1' := D6.out.c1; have d2' := D6.out.c2; have d3' := D6.out.c3
    go_wp2_with fail
    refine bodyPost_ret (v := Dv.v ⟨cutT, n5, none, 0, 0, none, 0, 0⟩) (by simp [results, Tryz.results31, go_sem, Dv.v, put4_c0 Q6.out, put4_c1 Q6.out, put4_c2 Q6.out, put4_c3 Q6.out]) rfl ⟨⟨cutT, n5, none, 0, 0, none, 0, 0⟩, rfl, but_put4 BU6.out hwq _ _ _ _, (by rw [HD.out]; exact R6.out.put4 hqb hpq _ _ _ _), ?_⟩
    intro hn
    rw [HD.out] at hn
    have hx1 : x1 ≠ -1 := fun e => hn (by rw [e]; exact nmX_neg l)
    obtain ⟨e1, s, h1, h2⟩ := HTX.out hx1
    rw [HQ.out s h1 h2, ← e1, ← HN5.out]
    exact ⟨rfl, rfl⟩
  replace HD := Lib.hid (HD.out.trans (if_neg b1))
  replace HQ := Lib.hid (fun s h e => (HQ.out s h e).trans (if_neg b1))
  by_cases b2 : t = stopT
  · subst b2
    have qe : ((tx stopT).toList == [115, 116, 111, 112]) = true := tx_eqL _
    have q0 : ((tx stopT).toList == [115, 101, 116]) = false := by rw [Lib.toList_data, tx_data]; decide
    have q1 : ((tx stopT).toList == [99, 117, 116]) = false := by rw [Lib.toList_data, tx_data]; decide
    replace HD := Lib.hid (HD.out.trans (if_pos rfl))
    replace HQ := Lib.hid (fun s h e => (HQ.out s h e).trans (if_pos rfl))
    have y0 := Q2.out.c0; have y1 := Q2.out.c1; have y2 := Q2.out.c2; have y3 := Q2.out.c3
    have z0 := Q2.out.f0; have z1 := Q2.out.f1; have z2 := Q2.out.f2; have z3 := Q2.out.f3
    clear Q3 D3 R3 BU3
    go_wp2_with fail
    refine bodyPost_ret (v := Dv.v ⟨stopT, [], none, 0, 0, none, 0, 0⟩) (by simp [results, Tryz.results31, go_sem, Dv.v, tx_nil, put4a_c0 Q2.out, put4a_c1 Q2.out, put4a_c2 Q2.out, put4a_c3 Q2.out]) rfl ⟨⟨stopT, [], none, 0, 0, none, 0, 0⟩, rfl, (but_put4 BU2.out hwq _ _ _ _).alloc _, (by rw [HD.out]; exact (R2.out.put4 hqb hpq _ _ _ _).next (bel1 _ _)), ?_⟩
    intro hn
    rw [HD.out] at hn
    obtain ⟨-, s, h1, h2⟩ := HTX.out hn
    rw [HQ.out s h1 h2]
    exact (rfl : _ = _)
  replace HD := Lib.hid (HD.out.trans (if_neg b2))
  replace HQ := Lib.hid (fun s h e => (HQ.out s h e).trans (if_neg b2))
  by_cases b3 : t = ifT
  · subst b3
    have qe : ((tx ifT).toList == [105, 102]) = true := tx_eqL _
    have q0 : ((tx ifT).toList == [115, 101, 116]) = false := by rw [Lib.toList_data, tx_data]; decide
    have q1 : ((tx ifT).toList == [99, 117, 116]) = false := by rw [Lib.toList_data, tx_data]; decide
    have q2 : ((tx ifT).toList == [115, 116, 111, 112]) = false := by rw [Lib.toList_data, tx_data]; decide
    replace HD := Lib.hid (HD.out.trans (if_pos rfl))
    replace HQ := Lib.hid (fun s h e => (HQ.out s h e).trans (if_pos rfl))
    have d0 := D3.out.c0; have d1 := D3.out.c1; have d2 := D3.out.c2; have d3 := D3.out.c3
    have g0 := D3.out.f0; have g1 := D3.out.f1; have g2 := D3.out.f2; have g3 := D3.out.f3
    have e0 := Q3.out.c0; have e1 := Q3.out.c1; have e2 := Q3.out.c2; have e3 := Q3.out.c3
    have k0 := Q3.out.f0; have k1 := Q3.out.f1; have k2 := Q3.out.f2; have k3 := Q3.out.f3
    go_wp2_with fail
    generalize w2.heap.size = r at *
    generalize w2.alloc (.cells #[.string (tx ifT), .string ⟨#[]⟩, .slice none 0 0, .slice none 0 0] 51) = w4 at *
    clear d0 d1 d2 d3 g0 g1 g2 g3 e0 e1 e2 e3 k0 k1 k2 k3
    have D4 := D3; have Q4 := Q3; have R4 := R3; have BU4 := BU3
    refine (HS.out _ _ 2 (by decide) R4.out).mono ?_; rintro e w5 ⟨a5, n5, c5, rfl, b5, r5, m5⟩
    have D5 := Lib.hid (D4.out.but b5 hrp)
    have Q5 := Lib.hid (Q4.out.but b5 hqp)
    have BU5 := Lib.hid (BU4.out.trans b5)
    have hz5 : w4.heap.size ≤ w5.heap.size := b5.size
    have hk5 := Lib.hid b5
    have R5 := Lib.hid r5; have M5 := Lib.hid m5; clear r5 m5 b5
    have D6 := Lib.hid (D5.out.set2 (.slice a5 n5 c5))
    have Q6 := Lib.hid (Q5.out.same (Below.heap_setCell w5 ⟨r, 2, none⟩ (.slice a5 n5 c5) q hqr) (by rw [World.size_setCell]; exact Nat.le_refl _))
    have BU6 := Lib.hid (BU5.out.setNew (p := ⟨r, 2, none⟩) hwr (.slice a5 n5 c5))
    have R6 := Lib.hid (R5.out.set (j := 2) hrb hpr (.slice a5 n5 c5))
    have hs6 : (w5.setCell ⟨r, 2, none⟩ (.slice a5 n5 c5)).heap.size = w5.heap.size := World.size_setCell _ _ _
    have d0 := D5.out.c0; have d1 := D5.out.c1; have d2 := D5.out.c2; have d3 := D5.out.c3
    have g0 := D5.out.f0; have g1 := D5.out.f1; have g2 := D5.out.f2; have g3 := D5.out.f3
    have e0 := Q5.out.c0; have e1 := Q5.out.c1; have e2 := Q5.out.c2; have e3 := Q5.out.c3
    have k0 := Q5.out.f0; have k1 := Q5.out.f1; have k2 := Q5.out.f2; have k3 := Q5.out.f3
    go_wp2_with fail
    generalize (w5.setCell ⟨r, 2, none⟩ (.slice a5 n5 c5)) = w6 at *
    clear d0 d1 d2 d3 g0 g1 g2 g3 e0 e1 e2 e3 k0 k1 k2 k3
    refine (HB.out _ _ R6.out).mono ?_; rintro e w7 ⟨a7, n7, c7, rfl, b7, r7, m7⟩
    have D7 := Lib.hid (D6.out.but b7 hrp)
    have Q7 := Lib.hid (Q6.out.but b7 hqp)
    have BU7 := Lib.hid (BU6.out.trans b7)
    have hz7 : w6.heap.size ≤ w7.heap.size := b7.size
    have hk7 := Lib.hid b7
    have R7 := Lib.hid r7; have M7 := Lib.hid m7; clear r7 m7 b7
    go_wp2_with fail
    refine (HB.out _ _ R7.out).mono ?_; rintro e w8 ⟨a8, n8, c8, rfl, b8, r8, m8⟩
    have D8 := Lib.hid (D7.out.but b8 hrp)
    have Q8 := Lib.hid (Q7.out.but b8 hqp)
    have BU8 := Lib.hid (BU7.out.trans b8)
    have hz8 : w7.heap.size ≤ w8.heap.size := b8.size
    have hk8 := Lib.hid b8
    have R8 := Lib.hid r8; have M8 := Lib.hid m8; clear r8 m8 b8
    have hbl := bel1 w8 (.cells #[.slice a7 n7 c7, .slice a8 n8 c8] 35)
    have D9 := Lib.hid (D8.out.next hbl)
    have Q9 := Lib.hid (Q8.out.next hbl)
    have R9 := Lib.hid (R8.out.next hbl)
    have BU9 := Lib.hid (BU8.out.alloc (.cells #[.slice a7 n7 c7, .slice a8 n8 c8] 35))
    have HN9 := Lib.hid (new_of w8 (.cells #[.slice a7 n7 c7, .slice a8 n8 c8] 35))
    have HL9 := Lib.hid hbl
    have hz9 : (w8.alloc (.cells #[.slice a7 n7 c7, .slice a8 n8 c8] 35)).heap.size = w8.heap.size + 1 := World.size_alloc _ _
    clear hbl
    generalize hs : w8.heap.size = s at *
    generalize hw9 : w8.alloc (.cells #[.slice a7 n7 c7, .slice a8 n8 c8] 35) = w9 at *
    have D10 := Lib.hid (D9.out.set3 (.slice (some ⟨s, 0, none⟩) 2 2))
    have Q10 := Lib.hid (Q9.out.same (Below.heap_setCell w9 ⟨r, 3, none⟩ (.slice (some ⟨s, 0, none⟩) 2 2) q hqr) (by rw [World.size_setCell]; exact Nat.le_refl _))
    have BU10 := Lib.hid (BU9.out.setNew (p := ⟨r, 3, none⟩) hwr (.slice (some ⟨s, 0, none⟩) 2 2))
    have R10 := Lib.hid (R9.out.set (j := 3) hrb hpr (.slice (some ⟨s, 0, none⟩) 2 2))
    have hs10 : (w9.setCell ⟨r, 3, none⟩ (.slice (some ⟨s, 0, none⟩) 2 2)).heap.size = w9.heap.size := World.size_setCell _ _ _
    have d0 := D9.out.c0; have d1 := D9.out.c1; have d2 := D9.out.c2; have d3 := D9.out.c3
    have g0 := D9.out.f0; have g1 := D9.out.f1; have g2 := D9.out.f2; have g3 := D9.out.f3
    have e0 := Q9.out.c0; have e1 := Q9.out.c1; have e2 := Q9.out.c2; have e3 := Q9.out.c3
    have k0 := Q9.out.f0; have k1 := Q9.out.f1; have k2 := Q9.out.f2; have k3 := Q9.out.f3
    have d0' := D10.out.c0; have d1' := D10.out.c1; have d2' := D10.out.c2; have d3' := D10.out.c3
    go_wp2_with fail
    refine bodyPost_ret (v := Dv.v ⟨ifT, [], a5, n5, c5, some ⟨s, 0, none⟩, 2, 2⟩) (by simp [results, Tryz.results31, go_sem, Dv.v, tx_nil, put4_c0 Q10.out, put4_c1 Q10.out, put4_c2 Q10.out, put4_c3 Q10.out]) rfl ⟨⟨ifT, [], a5, n5, c5, some ⟨s, 0, none⟩, 2, 2⟩, rfl, but_put4 BU10.out hwq _ _ _ _, (by rw [HD.out]; exact R10.out.put4 hqb hpq _ _ _ _), ?_⟩
    intro hn
    rw [HD.out] at hn
    have hy : B (smV l 2 x1) ≠ -1 := fun e => hn (by rw [e]; exact hB0)
    have hsm : smV l 2 x1 ≠ -1 := fun e => hy (by rw [e]; exact hB0)
    have hx1 : x1 ≠ -1 := fun e => hsm (by rw [e]; exact sm_neg1 l 2)
    obtain ⟨e1, s', h1, h2⟩ := HTX.out hx1
    rw [HQ.out s' h1 h2, ← e1]
    have m5 := M5.out hsm
    have m7 := M7.out hy
    have m8 := M8.out hn
    have key : ∀ W : World, (∀ g, g ≠ q → W.heap[g]? = (w9.setCell ⟨r, 3, none⟩ (.slice (some ⟨s, 0, none⟩) 2 2)).heap[g]?) → W.heap.size = (w9.setCell ⟨r, 3, none⟩ (.slice (some ⟨s, 0, none⟩) 2 2)).heap.size → DdM w0 (fun x => q ≤ x) W (DM w0 (fun x => q ≤ x) W D) ⟨ifT, [], a5, n5, c5, some ⟨s, 0, none⟩, 2, 2⟩ (.ifs (smT l x1) (R (smV l 2 x1)) (R (B (smV l 2 x1)))) := by
      intro W hW hZ
      have hz10 : W.heap.size = s + 1 := by rw [hZ, hs10, hz9]
      have hk0 : ∀ g, g ≠ q → g ≠ r → g < s → W.heap[g]? = w8.heap[g]? := fun g h1 h2 h3 => ((hW g h1).trans (Below.heap_setCell _ _ _ _ h2)).trans (HL9.out.block g h3)
      have hsr : s ≠ r := by omega
      have hsq : s ≠ q := by omega
      refine ⟨rfl, m5.1, m5.2, .slice a7 n7 c7, .slice a8 n8 c8, rfl, ?_, ?_, ?_, ?_⟩
      · exact v1_lit [.slice a7 n7 c7, .slice a8 n8 c8] (by simp) (by omega) (((hW s hsq).trans (Below.heap_setCell _ _ _ _ hsr)).trans HN9.out)
      · intro g o e
        cases e
        exact ⟨by show q ≤ s; omega, by omega⟩
      · exact DM.keep (by omega) (fun g h1 h2 => (hk0 g (by omega) (by omega) (by omega)).trans (hk8.out.block g h2 (by omega))) (fun g h _ => by show q ≤ g; omega) D _ _ m7
      · exact DM.keep (by omega) (fun g h1 h2 => hk0 g (by omega) (by omega) (by omega)) (fun g h _ => by show q ≤ g; omega) D _ _ m8
    exact key _ (fun g hg => put4_heap _ _ _ _ _ _ hg) (put4_size _ _ _ _ _ _)
  replace HD := Lib.hid (HD.out.trans (if_neg b3))
  replace HQ := Lib.hid (fun s h e => (HQ.out s h e).trans (if_neg b3))
  by_cases b4 : t = whT
  · subst b4
    have qe : ((tx whT).toList == [119, 104, 105, 108, 101]) = true := tx_eqL _
    have q0 : ((tx whT).toList == [115, 101, 116]) = false := by rw [Lib.toList_data, tx_data]; decide
    have q1 : ((tx whT).toList == [99, 117, 116]) = false := by rw [Lib.toList_data, tx_data]; decide
    have q2 : ((tx whT).toList == [115, 116, 111, 112]) = false := by rw [Lib.toList_data, tx_data]; decide
    have q3 : ((tx whT).toList == [105, 102]) = false := by rw [Lib.toList_data, tx_data]; decide
    replace HD := Lib.hid (HD.out.trans (if_pos rfl))
    replace HQ := Lib.hid (fun s h e => (HQ.out s h e).trans (if_pos rfl))
    have d0 := D3.out.c0; have d1 := D3.out.c1; have d2 := D3.out.c2; have d3 := D3.out.c3
    have g0 := D3.out.f0; have g1 := D3.out.f1; have g2 := D3.out.f2; have g3 := D3.out.f3
    have e0 := Q3.out.c0; have e1 := Q3.out.c1; have e2 := Q3.out.c2; have e3 := Q3.out.c3
    have k0 := Q3.out.f0; have k1 := Q3.out.f1; have k2 := Q3.out.f2; have k3 := Q3.out.f3
    go_wp2_with fail
    generalize w2.heap.size = r at *
    generalize w2.alloc (.cells #[.string (tx whT), .string ⟨#[]⟩, .slice none 0 0, .slice none 0 0] 51) = w4 at *
    clear d0 d1 d2 d3 g0 g1 g2 g3 e0 e1 e2 e3 k0 k1 k2 k3
    have D4 := D3; have Q4 := Q3; have R4 := R3; have BU4 := BU3
    refine (HS.out _ _ 2 (by decide) R4.out).mono ?_; rintro e w5 ⟨a5, n5, c5, rfl, b5, r5, m5⟩
    have D5 := Lib.hid (D4.out.but b5 hrp)
    have Q5 := Lib.hid (Q4.out.but b5 hqp)
    have BU5 := Lib.hid (BU4.out.trans b5)
    have hz5 : w4.heap.size ≤ w5.heap.size := b5.size
    have hk5 := Lib.hid b5
    have R5 := Lib.hid r5; have M5 := Lib.hid m5; clear r5 m5 b5
    have D6 := Lib.hid (D5.out.set2 (.slice a5 n5 c5))
    have Q6 := Lib.hid (Q5.out.same (Below.heap_setCell w5 ⟨r, 2, none⟩ (.slice a5 n5 c5) q hqr) (by rw [World.size_setCell]; exact Nat.le_refl _))
    have BU6 := Lib.hid (BU5.out.setNew (p := ⟨r, 2, none⟩) hwr (.slice a5 n5 c5))
    have R6 := Lib.hid (R5.out.set (j := 2) hrb hpr (.slice a5 n5 c5))
    have hs6 : (w5.setCell ⟨r, 2, none⟩ (.slice a5 n5 c5)).heap.size = w5.heap.size := World.size_setCell _ _ _
    have d0 := D5.out.c0; have d1 := D5.out.c1; have d2 := D5.out.c2; have d3 := D5.out.c3
    have g0 := D5.out.f0; have g1 := D5.out.f1; have g2 := D5.out.f2; have g3 := D5.out.f3
    have e0 := Q5.out.c0; have e1 := Q5.out.c1; have e2 := Q5.out.c2; have e3 := Q5.out.c3
    have k0 := Q5.out.f0; have k1 := Q5.out.f1; have k2 := Q5.out.f2; have k3 := Q5.out.f3
    go_wp2_with fail
    generalize (w5.setCell ⟨r, 2, none⟩ (.slice a5 n5 c5)) = w6 at *
    clear d0 d1 d2 d3 g0 g1 g2 g3 e0 e1 e2 e3 k0 k1 k2 k3
    refine (HB.out _ _ R6.out).mono ?_; rintro e w7 ⟨a7, n7, c7, rfl, b7, r7, m7⟩
    have D7 := Lib.hid (D6.out.but b7 hrp)
    have Q7 := Lib.hid (Q6.out.but b7 hqp)
    have BU7 := Lib.hid (BU6.out.trans b7)
    have hz7 : w6.heap.size ≤ w7.heap.size := b7.size
    have hk7 := Lib.hid b7
    have R7 := Lib.hid r7; have M7 := Lib.hid m7; clear r7 m7 b7
    have hbl := bel1 w7 (.cells #[.slice a7 n7 c7] 35)
    have D9 := Lib.hid (D7.out.next hbl)
    have Q9 := Lib.hid (Q7.out.next hbl)
    have R9 := Lib.hid (R7.out.next hbl)
    have BU9 := Lib.hid (BU7.out.alloc (.cells #[.slice a7 n7 c7] 35))
    have HN9 := Lib.hid (new_of w7 (.cells #[.slice a7 n7 c7] 35))
    have HL9 := Lib.hid hbl
    have hz9 : (w7.alloc (.cells #[.slice a7 n7 c7] 35)).heap.size = w7.heap.size + 1 := World.size_alloc _ _
    clear hbl
    generalize hs : w7.heap.size = s at *
    generalize hw9 : w7.alloc (.cells #[.slice a7 n7 c7] 35) = w9 at *
    have D10 := Lib.hid (D9.out.set3 (.slice (some ⟨s, 0, none⟩) 1 1))
    have Q10 := Lib.hid (Q9.out.same (Below.heap_setCell w9 ⟨r, 3, none⟩ (.slice (some ⟨s, 0, none⟩) 1 1) q hqr) (by rw [World.size_setCell]; exact Nat.le_refl _))
    have BU10 := Lib.hid (BU9.out.setNew (p := ⟨r, 3, none⟩) hwr (.slice (some ⟨s, 0, none⟩) 1 1))
    have R10 := Lib.hid (R9.out.set (j := 3) hrb hpr (.slice (some ⟨s, 0, none⟩) 1 1))
    have hs10 : (w9.setCell ⟨r, 3, none⟩ (.slice (some ⟨s, 0, none⟩) 1 1)).heap.size = w9.heap.size := World.size_setCell _ _ _
    have d0 := D9.out.c0; have d1 := D9.out.c1; have d2 := D9.out.c2; have d3 := D9.out.c3
    have g0 := D9.out.f0; have g1 := D9.out.f1; have g2 := D9.out.f2; have g3 := D9.out.f3
    have e0 := Q9.out.c0; have e1 := Q9.out.c1; have e2 := Q9.out.c2; have e3 := Q9.out.c3
    have k0 := Q9.out.f0; have k1 := Q9.out.f1; have k2 := Q9.out.f2; have k3 := Q9.out.f3
    have d0' := D10.out.c0; have d1' := D10.out.c1; have d2' := D10.out.c2; have d3' := D10.out.c3
    go_wp2_with fail
    refine bodyPost_ret (v := Dv.v ⟨whT, [], a5, n5, c5, some ⟨s, 0, none⟩, 1, 1⟩) (by simp [results, Tryz.results31, go_sem, Dv.v, tx_nil, put4_c0 Q10.out, put4_c1 Q10.out, put4_c2 Q10.out, put4_c3 Q10.out]) rfl ⟨⟨whT, [], a5, n5, c5, some ⟨s, 0, none⟩, 1, 1⟩, rfl, but_put4 BU10.out hwq _ _ _ _, (by rw [HD.out]; exact R10.out.put4 hqb hpq _ _ _ _), ?_⟩
    intro hn
    rw [HD.out] at hn
    have hy := hn
    have hsm : smV l 2 x1 ≠ -1 := fun e => hy (by rw [e]; exact hB0)
    have hx1 : x1 ≠ -1 := fun e => hsm (by rw [e]; exact sm_neg1 l 2)
    obtain ⟨e1, s', h1, h2⟩ := HTX.out hx1
    rw [HQ.out s' h1 h2, ← e1]
    have m5 := M5.out hsm
    have m7 := M7.out hy
    have key : ∀ W : World, (∀ g, g ≠ q → W.heap[g]? = (w9.setCell ⟨r, 3, none⟩ (.slice (some ⟨s, 0, none⟩) 1 1)).heap[g]?) → W.heap.size = (w9.setCell ⟨r, 3, none⟩ (.slice (some ⟨s, 0, none⟩) 1 1)).heap.size → DdM w0 (fun x => q ≤ x) W (DM w0 (fun x => q ≤ x) W D) ⟨whT, [], a5, n5, c5, some ⟨s, 0, none⟩, 1, 1⟩ (.whl (smT l x1) (R (smV l 2 x1))) := by
      intro W hW hZ
      have hz10 : W.heap.size = s + 1 := by rw [hZ, hs10, hz9]
      have hk0 : ∀ g, g ≠ q → g ≠ r → g < s → W.heap[g]? = w7.heap[g]? := fun g h1 h2 h3 => ((hW g h1).trans (Below.heap_setCell _ _ _ _ h2)).trans (HL9.out.block g h3)
      have hsr : s ≠ r := by omega
      have hsq : s ≠ q := by omega
      refine ⟨rfl, m5.1, m5.2, .slice a7 n7 c7, rfl, ?_, ?_, ?_⟩
      · exact v1_lit [.slice a7 n7 c7] (by simp) (by omega) (((hW s hsq).trans (Below.heap_setCell _ _ _ _ hsr)).trans HN9.out)
      · intro g o e
        cases e
        exact ⟨by show q ≤ s; omega, by omega⟩
      · exact DM.keep (by omega) (fun g h1 h2 => hk0 g (by omega) (by omega) (by omega)) (fun g h _ => by show q ≤ g; omega) D _ _ m7
    exact key _ (fun g hg => put4_heap _ _ _ _ _ _ hg) (put4_size _ _ _ _ _ _)
  replace HD := Lib.hid (HD.out.trans (if_neg b4))
  replace HQ := Lib.hid (fun s h e => (HQ.out s h e).trans (if_neg b4))
  have q0 : ((tx t).toList == [115, 101, 116]) = false := by rw [Lib.toList_data, tx_data, beq_eq_false_iff_ne]; exact b0
  have q1 : ((tx t).toList == [99, 117, 116]) = false := by rw [Lib.toList_data, tx_data, beq_eq_false_iff_ne]; exact b1
  have q2 : ((tx t).toList == [115, 116, 111, 112]) = false := by rw [Lib.toList_data, tx_data, beq_eq_false_iff_ne]; exact b2
  have q3 : ((tx t).toList == [105, 102]) = false := by rw [Lib.toList_data, tx_data, beq_eq_false_iff_ne]; exact b3
  have q4 : ((tx t).toList == [119, 104, 105, 108, 101]) = false := by rw [Lib.toList_data, tx_data, beq_eq_false_iff_ne]; exact b4
  have d0 := D3.out.c0; have d1 := D3.out.c1; have d2 := D3.out.c2; have d3 := D3.out.c3
  have g0 := D3.out.f0; have g1 := D3.out.f1; have g2 := D3.out.f2; have g3 := D3.out.f3
  have e0 := Q3.out.c0; have e1 := Q3.out.c1; have e2 := Q3.out.c2; have e3 := Q3.out.c3
  have k0 := Q3.out.f0; have k1 := Q3.out.f1; have k2 := Q3.out.f2; have k3 := Q3.out.f3
  go_wp2_with fail
  generalize w2.heap.size = r at *
  generalize w2.alloc (.cells #[.string (tx t), .string ⟨#[]⟩, .slice none 0 0, .slice none 0 0] 51) = w4 at *
  clear d0 d1 d2 d3 g0 g1 g2 g3 e0 e1 e2 e3 k0 k1 k2 k3
  have D4 := D3; have Q4 := Q3; have R4 := R3; have BU4 := BU3
  refine (require_x R4.out false).mono ?_; rintro e w5 ⟨rfl, b5, r5⟩
  have D5 := Lib.hid (D4.out.but b5 hrp)
  have Q5 := Lib.hid (Q4.out.but b5 hqp)
  have BU5 := Lib.hid (BU4.out.trans b5)
  have hz5 : w4.heap.size ≤ w5.heap.size := b5.size
  have hk5 := Lib.hid b5
  have R5 := Lib.hid r5; clear r5 b5
  have d0 := D5.out.c0; have d1 := D5.out.c1; have d2 := D5.out.c2; have d3 := D5.out.c3
  have g0 := D5.out.f0; have g1 := D5.out.f1; have g2 := D5.out.f2; have g3 := D5.out.f3
  have e0 := Q5.out.c0; have e1 := Q5.out.c1; have e2 := Q5.out.c2; have e3 := Q5.out.c3
  have k0 := Q5.out.f0; have k1 := Q5.out.f1; have k2 := Q5.out.f2; have k3 := Q5.out.f3
  go_wp2_with fail
  refine bodyPost_ret (v := Dv.v ⟨t, [], none, 0, 0, none, 0, 0⟩) (by simp [results, Tryz.results31, go_sem, Dv.v, tx_nil, put4_c0 Q5.out, put4_c1 Q5.out, put4_c2 Q5.out, put4_c3 Q5.out]) rfl ⟨⟨t, [], none, 0, 0, none, 0, 0⟩, rfl, but_put4 BU5.out hwq _ _ _ _, (by rw [HD.out]; exact R5.out.put4 hqb hpq _ _ _ _), ?_⟩
  exact fun hn => absurd HD.out hn
def DdsC (w0 : World) (p : Nat) (l : List Tk) (D : Nat) (o : Int) (f : Int → Int) (R : Int → Sm) : Prop := ∀ (x : Int) (z : World), Sx w0 p l o x z →
  Calls Tryz.prog 23 #[.pointer (some ⟨p, 0, none⟩)] z fun e z' => ∃ a n c, e = .returned (.slice a n c) ∧ But p z z' ∧ Sx w0 p l o (dlE l f (l.length + 1) x) z' ∧ (dlE l f (l.length + 1) x ≠ -1 → DM w0 (z.heap.size ≤ ·) z' (D + 1) (.slice a n c) (dlR l f R (l.length + 1) x))
def DsI (w0 : World) (p : Nat) (l : List Tk) (D : Nat) (o : Int) (f : Int → Int) (R : Int → Sm) (z : World) (j : Int) (F : Sl) (k : Nat) (v : Value) (wr : World) : Prop :=
  ∃ (x : Int) (ds : List Dv) (fs : List Sm), Sx w0 p l o x wr ∧ But p z wr ∧ OwD z.heap.size wr v ds ∧ (x = -1 ∨ (l.length : Int) - x < k) ∧ j = dlE l f k x ∧ (x ≠ -1 → (ds.length : Int) ≤ x ∧ ds.length = fs.length ∧ F = preS fs (dlR l f R k x) ∧
    ∀ (i : Nat) (d : Dv) (g : Sm), ds[i]? = some d → fs[i]? = some g → DdM w0 (Kv z.heap.size v) wr (DM w0 (Kv z.heap.size v) wr D) d g)
theorem DsI.done {w0 : World} {p : Nat} {l : List Tk} {D : Nat} {o : Int} {f : Int → Int} {R : Int → Sm} {z : World} {j : Int} {F : Sl} {k : Nat} {v : Value} {wr : World} {x : Int} {ds : List Dv} {fs : List Sm}
    (ho : OwD z.heap.size wr v ds) (hx : x ≠ -1) (hk : (l.length : Int) - x < k) (hl : x ≤ l.length) (hc : tkA l x = none ∨ tkA l x = some [93])
    (h : (ds.length : Int) ≤ x ∧ ds.length = fs.length ∧ F = preS fs (dlR l f R k x) ∧ ∀ (i : Nat) (d : Dv) (g : Sm), ds[i]? = some d → fs[i]? = some g → DdM w0 (Kv z.heap.size v) wr (DM w0 (Kv z.heap.size v) wr D) d g) :
    dlE l f k x = x ∧ DM w0 (z.heap.size ≤ ·) wr (D + 1) v F := by
  obtain ⟨k, rfl⟩ : ∃ k', k = k' + 1 := ⟨k - 1, by omega⟩
  obtain ⟨-, h2, h3, h4⟩ := h
  have e1 : dlE l f (k + 1) x = x := by
    rw [dlE]
    rcases hc with hc | hc
    · rw [hc]
    · rw [hc]; exact if_pos rfl
  have e2 : dlR l f R (k + 1) x = .nil := by
    rw [dlR]
    rcases hc with hc | hc
    · rw [hc]
    · rw [hc]; exact if_pos rfl
  rw [e2] at h3
  refine ⟨e1, ds, fs, ho.mono fun _ _ => Nat.zero_le _, ho.lt, h2, fun i d g hd hg => ?_, h3⟩
  exact (h4 i d g hd hg).keep (Nat.le_refl _) (fun _ _ _ => rfl) (fun g h _ => h.1) (fun v f h => DM.keep (Nat.le_refl _) (fun _ _ _ => rfl) (fun g h _ => h.1) D v f h)
theorem DsI.step {w0 : World} {p : Nat} {l : List Tk} {D : Nat} {o : Int} {f : Int → Int} {R : Int → Sm} {z : World} {j : Int} {F : Sl} {k : Nat} {v v3 : Value} {wr w1 w2 w3 : World} {x : Int} {ds : List Dv} {fs : List Sm} {d : Dv} {s : Tk}
    (hA : ∀ i, Ahd l i (f i)) (hp : p < z.heap.size) (hb : But p z wr) (ho : OwD z.heap.size wr v ds) (hx : x ≠ -1) (hk : (l.length : Int) - x < (k + 1 : Nat)) (hj : j = dlE l f (k + 1) x) (hs : tkA l x = some s) (hne : s ≠ [93])
    (h : (ds.length : Int) ≤ x ∧ ds.length = fs.length ∧ F = preS fs (dlR l f R (k + 1) x) ∧ ∀ (i : Nat) (d : Dv) (g : Sm), ds[i]? = some d → fs[i]? = some g → DdM w0 (Kv z.heap.size v) wr (DM w0 (Kv z.heap.size v) wr D) d g)
    (b1 : But p wr w1) (hd : f x ≠ -1 → DdM w0 (wr.heap.size ≤ ·) w1 (DM w0 (wr.heap.size ≤ ·) w1 D) d (R x)) (b2 : Below w1.heap.size w1 w2) (hlt : w1.heap.size ≤ w2.heap.size) (g3 : w2.grownBy w3 v.ownBlock) (n3 : v3.ownBlock = v.ownBlock ∨ v3.ownBlock = some w2.heap.size) (o3 : OwD z.heap.size w3 v3 (ds ++ [d])) (hsx : Sx w0 p l o (f x) w3) :
    DsI w0 p l D o f R z j F k v3 w3 := by
  have e1 : dlE l f (k + 1) x = dlE l f k (f x) := by rw [dlE, hs]; exact if_neg hne
  have e2 : dlR l f R (k + 1) x = .cons (R x) (dlR l f R k (f x)) := by rw [dlR, hs]; exact if_neg hne
  obtain ⟨h1, h2, h3, h4⟩ := h
  have ha := hA x
  unfold Ahd at ha
  have hz := hb.size
  have hz1 := b1.size
  have hz3 := g3.size
  have hvlo : ∀ g, v.ownBlock = some g → z.heap.size ≤ g := ho.lt
  have hvhi : ∀ g, v.ownBlock = some g → g < wr.heap.size := ho.low
  refine ⟨f x, ds ++ [d], fs ++ [R x], hsx, ?_, o3, ?_, hj.trans e1, fun hn => ?_⟩
  · refine ⟨(g3.os.trans (b2.os.trans b1.os)).trans hb.os, (g3.tape.trans (b2.tape.trans b1.tape)).trans hb.tape, (g3.output.trans (b2.output.trans b1.output)).trans hb.output, by omega, fun g hg hne => ?_⟩
    exact ((g3.block g (by omega) (fun e => by have := hvlo g e.symm; omega)).trans (b2.block g (by omega))).trans ((b1.block g (by omega) hne).trans (hb.block g hg hne))
  · by_cases e : f x = -1
    · exact Or.inl e
    · right; omega
  · refine ⟨by rw [List.length_append]; simp; omega, by rw [List.length_append, List.length_append, h2]; rfl, by rw [h3, e2, preS_snoc], fun i d' g hd' hg' => ?_⟩
    have hv3 : ∀ g, g < w1.heap.size → v.ownBlock ≠ some g → v3.ownBlock ≠ some g := fun g hg hne e => by
      rcases n3 with n3 | n3
      · exact hne (n3.symm.trans e)
      · rw [n3] at e; cases e; omega
    rcases Nat.lt_or_ge i ds.length with hi | hi
    · rw [List.getElem?_append_left hi] at hd'
      rw [List.getElem?_append_left (by omega)] at hg'
      have hk1 : ∀ g, Kv z.heap.size v g → g < wr.heap.size → w3.heap[g]? = wr.heap[g]? := fun g hK hg =>
        ((g3.block g (by omega) (fun e => hK.2 e.symm)).trans (b2.block g (by omega))).trans (b1.block g hg (by have := hK.1; omega))
      have hk2 : ∀ g, Kv z.heap.size v g → g < wr.heap.size → Kv z.heap.size v3 g := fun g hK hg => ⟨hK.1, hv3 g (by omega) hK.2⟩
      exact (h4 i d' g hd' hg').keep (by omega) hk1 hk2 (fun v f h => DM.keep (by omega) hk1 hk2 D v f h)
    · rw [List.getElem?_append_right hi] at hd'
      rw [List.getElem?_append_right (by omega)] at hg'
      have hi0 : i - ds.length = 0 := by
        have := (List.getElem?_eq_some_iff.1 hd').1
        simp at this; omega
      rw [hi0] at hd'
      rw [← h2, hi0] at hg'
      simp at hd' hg'
      subst hd'; subst hg'
      have hne : ∀ g, wr.heap.size ≤ g → v.ownBlock ≠ some g := fun g hg e => by have := hvhi g e; omega
      have hk1 : ∀ g, wr.heap.size ≤ g → g < w1.heap.size → w3.heap[g]? = w1.heap[g]? := fun g hK hg => (g3.block g (by omega) (fun e => hne g hK e.symm)).trans (b2.block g hg)
      have hk2 : ∀ g, wr.heap.size ≤ g → g < w1.heap.size → Kv z.heap.size v3 g := fun g hK hg => ⟨by omega, hv3 g hg (hne g hK)⟩
      exact (hd hn).keep (by omega) hk1 hk2 (fun v f h => DM.keep (by omega) hk1 hk2 D v f h)
set_option maxHeartbeats 8000000 in
set_option maxRecDepth 100000 in
theorem deeds_of {w0 : World} {p : Nat} {l : List Tk} {D : Nat} {o : Int} {f : Int → Int} {R : Int → Sm} (hll : l.length ≤ 4194304) (hA : ∀ i, Ahd l i (f i)) (hC : DeedC w0 p l D o f R) : DdsC w0 p l D o f R := by
  intro x0 z hs
  have HC := Lib.hid hC
  have HA := Lib.hid hA
  have hp := hs.lo.2
  have hplo := hs.lo.1
  have HS := Lib.hid hs
  have HX0 := Lib.hid (show x0 = -1 ∨ (0 ≤ x0 ∧ x0 ≤ l.length) from by
    rcases hs with ⟨e, -⟩ | ⟨-, h0, h1, -⟩
    · exact Or.inl e
    · exact Or.inr ⟨h0, h1⟩)
  clear hs hC hA
  have HJ := Lib.hid (show dlE l f (l.length + 1) x0 = dlE l f (l.length + 1) x0 from rfl)
  have HF := Lib.hid (show dlR l f R (l.length + 1) x0 = dlR l f R (l.length + 1) x0 from rfl)
  have HN1 := Lib.hid (show x0 = -1 → dlE l f (l.length + 1) x0 = -1 from fun e => by rw [e]; exact dlE_neg _ _ _ (by omega))
  obtain ⟨j, hj⟩ : ∃ j, dlE l f (l.length + 1) x0 = j := ⟨_, rfl⟩
  obtain ⟨F, hF⟩ : ∃ F, dlR l f R (l.length + 1) x0 = F := ⟨_, rfl⟩
  rw [hj, hF]
  have H0 := Lib.hid (show DsI w0 p l D o f R z j F (l.length + 1) (.slice none 0 0) z from
    ⟨x0, [], [], HS.out, But.refl _ _, OwD.nothing _ _, (by have := HX0.out; omega), hj.symm, fun hn => ⟨by have := HX0.out; simp; omega, rfl, hF.symm, fun i d g hd => by simp at hd⟩⟩)
  clear hj hF HJ HF HN1 HX0 HS
  go_enter Tryz.func23, Tryz.ntmps23
  go_wp2_with fail
  go_loopg [3] (l.length + 1) (fun k v wr => DsI w0 p l D o f R z j F k v wr)
  case atStart => exact H0.out
  case round =>
    clear H0
    obtain ⟨x, ds, fs, hsx, hb, ho, hk, hj, hm⟩ := hrel
    obtain ⟨va, vc, rfl, -, -⟩ := ho.form
    have HO := Lib.hid ho
    have HB := Lib.hid hb
    have HJ := Lib.hid hj
    have HM := Lib.hid hm
    have HSX := Lib.hid hsx
    clear hb hj hm ho
    generalize hdl : ds.length = dl at *
    rcases hsx with ⟨e, lf, r⟩ | ⟨e, h0, h1, r⟩
    · have c2 := r.c2
      clear r
      go_wp2_with fail
      go_ret
      subst e
      have hjj : j = -1 := HJ.out.trans (dlE_neg _ _ _ (by omega))
      exact ⟨_, _, _, rfl, HB.out, by rw [hjj]; exact HSX.out, fun hn => absurd hjj hn⟩
    · have c2 := r.c2
      have hkk : (l.length : Int) - x < (gk : Nat) := by omega
      obtain ⟨a, cap, c0, hv⟩ := r.vw
      have hvl := hv.below r.bel
      clear r hv
      have HM' := Lib.hid (HM.out e)
      cases hs : tkA l x with
      | none =>
        rw [drop_no h0 hs] at c0
        replace c0 : wr.cell? ⟨p, 0, none⟩ = some (.slice a 0 cap) := c0
        clear hvl
        go_wp2_with fail
        go_ret
        obtain ⟨e1, e2⟩ := DsI.done (R := R) (o := o) (p := p) (j := j) HO.out e hkk h1 (Or.inl hs) (by rw [hdl]; exact HM'.out)
        have hjj : j = x := HJ.out.trans e1
        exact ⟨_, _, _, rfl, HB.out, by rw [hjj]; exact HSX.out, fun _ => e2⟩
      | some s =>
        rw [drop_tk hs] at c0 hvl
        obtain ⟨n, hn⟩ : ∃ n, (l.drop (x + 1).toNat).length = n := ⟨_, rfl⟩
        rw [List.length_cons, hn] at c0
        obtain ⟨g, q, rfl, hg, x0'⟩ := hvl.tx (l := s :: l.drop (x + 1).toNat) (k := 0) rfl
        rw [Nat.add_zero] at x0'
        clear hvl hn
        have t0 : decide ((0 : Int) < ((n + 1 : Nat) : Int)) = true := by simp
        have t1 : (0 : Int) < ((n + 1 : Nat) : Int) := by omega
        by_cases hb : s = [93]
        · subst hb
          have qe : ((tx [93]).toList == [93]) = true := tx_eqL _
          go_wp2_with fail
          go_ret
          obtain ⟨e1, e2⟩ := DsI.done (R := R) (o := o) (p := p) (j := j) HO.out e hkk h1 (Or.inr hs) (by rw [hdl]; exact HM'.out)
          have hjj : j = x := HJ.out.trans e1
          exact ⟨_, _, _, rfl, HB.out, by rw [hjj]; exact HSX.out, fun _ => e2⟩
        · have qe : ((tx s).toList == [93]) = false := by rw [Lib.toList_data, tx_data, beq_eq_false_iff_ne]; exact hb
          have HD := Lib.hid (HC.out x wr HSX.out)
          have HTS := Lib.hid hs
          obtain ⟨k, rfl⟩ : ∃ k', gk = k' + 1 := ⟨gk - 1, by omega⟩
          clear hg hs
          go_wp2_with fail
          refine HD.out.mono ?_; rintro e w1 ⟨d, rfl, b1, r1, m1⟩
          have B1 := Lib.hid b1
          have M1 := Lib.hid m1
          have R1 := Lib.hid r1
          have BO := Lib.hid (HB.out.trans b1)
          have O1 := Lib.hid (HO.out.same (fun g hg => b1.block g (HO.out.low g hg) (by have := HO.out.lt g hg; omega)))
          clear b1 m1 r1
          have VL := Lib.hid (litD w1 d)
          have hbl := bel1 w1 (.cells #[.string (tx d.h), .string (tx d.n), .slice d.sa d.sn d.sc, .slice d.ba d.bn d.bc] 51)
          have O2 := Lib.hid (O1.out.same (fun g hg => hbl.block g (O1.out.low g hg)))
          have R2 := Lib.hid (R1.out.next hbl)
          have BL2 := Lib.hid hbl
          have hz2 := hbl.size
          have hzz : z.heap.size ≤ (w1.alloc (.cells #[.string (tx d.h), .string (tx d.n), .slice d.sa d.sn d.sc, .slice d.ba d.bn d.bc] 51)).heap.size := by have := BO.out.size; omega
          have hdm : ds.length ≤ 4194304 := by have := HM'.out.1; omega
          clear hbl
          unfold Dv.v
          go_wp2_with (first
            | (at_builtin; refine append_deeds rfl (.tmp 26) (.tmp 29) rfl (base := z.heap.size) (l := ds) (m := [d]) rfl rfl rfl O2.out VL.out (by simp; omega) hzz ?_; intro v3 w3 o3 g3 n3; have G3 := Lib.hid (And.intro o3 (And.intro g3 n3)); clear o3 g3 n3)
            | fail)
          go_roundg k
          case measure => omega
          case rel =>
            obtain ⟨o3, g3, n3⟩ := G3.out
            exact DsI.step HA.out hp HB.out HO.out e hkk HJ.out HTS.out hb (by rw [hdl]; exact HM'.out) B1.out M1.out BL2.out hz2 g3 n3 o3 (R2.out.grown g3 (fun g hg => ⟨by have := O2.out.lt g hg; omega, by have := O2.out.lt g hg; omega⟩))
theorem blR_y {l : List Tk} {f : Int → Int} {R : Int → Sm} {x y : Int} (hy : y = if tkN l x = [91] then tkX l x else -1) (h : y ≠ -1) : blR l f R x = dlR l f R (l.length + 1) y := by
  split at hy
  · rename_i e
    have e1 := (tkN_is (by simp)).1 e
    have e2 : tkX l x = x + 1 := by unfold tkX; rw [if_neg (by rw [e1]; simp)]
    rw [hy, e2]; rfl
  · exact absurd hy h
set_option maxHeartbeats 8000000 in
set_option maxRecDepth 100000 in
theorem block_core {w0 : World} {p : Nat} {l : List Tk} {D : Nat} {o x y J : Int} {F : Sl} {z : World} (hs : Sx w0 p l o x z) (ho : -1000 ≤ o ∧ o ≤ 1000) (hy : y = if tkN l x = [91] then (if o + 1 ≤ 5 then tkX l x else -1) else -1)
    (hD : ∀ z, Sx w0 p l (o + 1) y z → Calls Tryz.prog 23 #[.pointer (some ⟨p, 0, none⟩)] z fun e z' => ∃ a n c, e = .returned (.slice a n c) ∧ But p z z' ∧ Sx w0 p l (o + 1) J z' ∧ (J ≠ -1 → DM w0 (z.heap.size ≤ ·) z' D (.slice a n c) F)) :
    Calls Tryz.prog 45 #[.pointer (some ⟨p, 0, none⟩)] z fun e z' => ∃ a n c, e = .returned (.slice a n c) ∧ But p z z' ∧ Sx w0 p l o (if tkN l J = [93] then tkX l J else -1) z' ∧ (J ≠ -1 → DM w0 (z.heap.size ≤ ·) z' D (.slice a n c) F) := by
  have HD := Lib.hid hD; clear hD
  have hp := hs.lo.2
  have c1 := hs.c1
  have f1 := hs.f1
  have i1 : IntKind.i64.wrap (o + 1) = o + 1 := by rw [IntKind.wrap_i64]; omega
  have i2 : IntKind.i64.wrap (o + 1 - 1) = o := by rw [IntKind.wrap_i64]; omega
  have HT := Lib.hid (token_x (hs.open (o + 1)))
  have BU1 := Lib.hid (but_set z p 1 (.int .i64 (o + 1)))
  have HY := Lib.hid hy
  clear hs hy
  obtain ⟨zz, hzz⟩ : ∃ zz, (if tkN l J = [93] then tkX l J else -1) = zz := ⟨_, rfl⟩
  rw [hzz]
  have HZ := Lib.hid hzz
  clear hzz
  generalize hx1 : tkX l x = x1 at *
  clear hx1
  go_enter Tryz.func45, Tryz.ntmps45
  go_wp2_with fail
  generalize z.setCell ⟨p, 1, none⟩ (.int .i64 (o + 1)) = w1 at *
  clear c1 f1
  refine HT.out.mono ?_; rintro e w2 ⟨t, rfl, b2, r2, ht⟩
  have BU2 := Lib.hid (BU1.out.trans b2)
  have R2 := Lib.hid r2
  rw [← ht] at HY
  have c2 := r2.c1
  clear b2 r2 ht HT
  by_cases h91 : t = [91]
  · subst h91
    have qe : ((tx [91]).toList == [91]) = true := tx_eqL _
    by_cases ho5 : o + 1 ≤ 5
    · have q5 : decide (o + 1 ≤ 5) = true := by simpa using ho5
      have hq0 : True := trivial
      go_wp2_with fail
      have HY' := Lib.hid (show y = (if (true : Bool) then x1 else -1) from by rw [HY.out]; simp [ho5])
      refine (require_x R2.out true).mono ?_; rintro e w3 ⟨rfl, b3, r3⟩
      rw [← HY'.out] at r3
      have BU3 := Lib.hid (BU2.out.trans b3)
      have R3 := Lib.hid r3
      clear b3 r3
      go_wp2_with fail
      refine (HD.out w3 R3.out).mono ?_; rintro e w4 ⟨a4, n4, cc4, rfl, b4, r4, m4⟩
      have BU4 := Lib.hid (BU3.out.trans b4)
      have R4 := Lib.hid r4
      have M4 := Lib.hid m4
      have hz3 : z.heap.size ≤ w3.heap.size := BU3.out.size
      clear b4 r4 m4
      go_wp2_with fail
      refine (token_x R4.out).mono ?_; rintro e w5 ⟨t5, rfl, b5, r5, ht5⟩
      have BU5 := Lib.hid (BU4.out.trans b5)
      have R5 := Lib.hid r5
      have B5 := Lib.hid b5
      have HT5 := Lib.hid ht5
      clear b5 r5 ht5
      by_cases h93 : t5 = [93]
      · subst h93
        have qe5 : ((tx [93]).toList == [93]) = true := tx_eqL _
        go_wp2_with fail
        refine (require_x R5.out true).mono ?_; rintro e w6 ⟨rfl, b6, r6⟩
        have BU6 := Lib.hid (BU5.out.trans b6)
        have B6 := Lib.hid (B5.out.trans b6)
        have R6 := Lib.hid (r6.open o)
        have c6 := r6.c1
        have f6 := r6.f1
        clear b6 r6
        go_wp2_with fail
        go_ret
        refine ⟨a4, n4, cc4, rfl, BU6.out.trans (but_set w6 p 1 _), ?_, fun hn => ?_⟩
        · rw [← HZ.out, ← HT5.out, if_pos rfl]; exact R6.out
        · have hbb := B6.out.trans (but_set w6 p 1 (.int .i64 o))
          exact DM.keep hbb.size (fun g h1 h2 => hbb.block g h2 (by have := BU3.out.size; omega)) (fun g h1 h2 => by show z.heap.size ≤ g; omega) D _ _ (M4.out hn)
      · have qe5 : ((tx t5).toList == [93]) = false := by rw [Lib.toList_data, tx_data, beq_eq_false_iff_ne]; exact h93
        go_wp2_with fail
        refine (require_x R5.out false).mono ?_; rintro e w6 ⟨rfl, b6, r6⟩
        have BU6 := Lib.hid (BU5.out.trans b6)
        have B6 := Lib.hid (B5.out.trans b6)
        have R6 := Lib.hid (r6.open o)
        have c6 := r6.c1
        have f6 := r6.f1
        clear b6 r6
        go_wp2_with fail
        go_ret
        refine ⟨a4, n4, cc4, rfl, BU6.out.trans (but_set w6 p 1 _), ?_, fun hn => ?_⟩
        · rw [← HZ.out, ← HT5.out, if_neg h93]; exact R6.out
        · have hbb := B6.out.trans (but_set w6 p 1 (.int .i64 o))
          exact DM.keep hbb.size (fun g h1 h2 => hbb.block g h2 (by have := BU3.out.size; omega)) (fun g h1 h2 => by show z.heap.size ≤ g; omega) D _ _ (M4.out hn)
    · have q5 : decide (o + 1 ≤ 5) = false := by simpa using ho5
      have hq0 : True := trivial
      go_wp2_with fail
      have HY' := Lib.hid (show y = (if (false : Bool) then x1 else -1) from by rw [HY.out]; simp; omega)
      refine (require_x R2.out false).mono ?_; rintro e w3 ⟨rfl, b3, r3⟩
      rw [← HY'.out] at r3
      have BU3 := Lib.hid (BU2.out.trans b3)
      have R3 := Lib.hid r3
      clear b3 r3
      go_wp2_with fail
      refine (HD.out w3 R3.out).mono ?_; rintro e w4 ⟨a4, n4, cc4, rfl, b4, r4, m4⟩
      have BU4 := Lib.hid (BU3.out.trans b4)
      have R4 := Lib.hid r4
      have M4 := Lib.hid m4
      have hz3 : z.heap.size ≤ w3.heap.size := BU3.out.size
      clear b4 r4 m4
      go_wp2_with fail
      refine (token_x R4.out).mono ?_; rintro e w5 ⟨t5, rfl, b5, r5, ht5⟩
      have BU5 := Lib.hid (BU4.out.trans b5)
      have R5 := Lib.hid r5
      have B5 := Lib.hid b5
      have HT5 := Lib.hid ht5
      clear b5 r5 ht5
      by_cases h93 : t5 = [93]
      · subst h93
        have qe5 : ((tx [93]).toList == [93]) = true := tx_eqL _
        go_wp2_with fail
        refine (require_x R5.out true).mono ?_; rintro e w6 ⟨rfl, b6, r6⟩
        have BU6 := Lib.hid (BU5.out.trans b6)
        have B6 := Lib.hid (B5.out.trans b6)
        have R6 := Lib.hid (r6.open o)
        have c6 := r6.c1
        have f6 := r6.f1
        clear b6 r6
        go_wp2_with fail
        go_ret
        refine ⟨a4, n4, cc4, rfl, BU6.out.trans (but_set w6 p 1 _), ?_, fun hn => ?_⟩
        · rw [← HZ.out, ← HT5.out, if_pos rfl]; exact R6.out
        · have hbb := B6.out.trans (but_set w6 p 1 (.int .i64 o))
          exact DM.keep hbb.size (fun g h1 h2 => hbb.block g h2 (by have := BU3.out.size; omega)) (fun g h1 h2 => by show z.heap.size ≤ g; omega) D _ _ (M4.out hn)
      · have qe5 : ((tx t5).toList == [93]) = false := by rw [Lib.toList_data, tx_data, beq_eq_false_iff_ne]; exact h93
        go_wp2_with fail
        refine (require_x R5.out false).mono ?_; rintro e w6 ⟨rfl, b6, r6⟩
        have BU6 := Lib.hid (BU5.out.trans b6)
        have B6 := Lib.hid (B5.out.trans b6)
        have R6 := Lib.hid (r6.open o)
        have c6 := r6.c1
        have f6 := r6.f1
        clear b6 r6
        go_wp2_with fail
        go_ret
        refine ⟨a4, n4, cc4, rfl, BU6.out.trans (but_set w6 p 1 _), ?_, fun hn => ?_⟩
        · rw [← HZ.out, ← HT5.out, if_neg h93]; exact R6.out
        · have hbb := B6.out.trans (but_set w6 p 1 (.int .i64 o))
          exact DM.keep hbb.size (fun g h1 h2 => hbb.block g h2 (by have := BU3.out.size; omega)) (fun g h1 h2 => by show z.heap.size ≤ g; omega) D _ _ (M4.out hn)
  · have qe : ((tx t).toList == [91]) = false := by rw [Lib.toList_data, tx_data, beq_eq_false_iff_ne]; exact h91
    have hq0 : True := trivial
    go_wp2_with fail
    have HY' := Lib.hid (show y = (if (false : Bool) then x1 else -1) from by rw [HY.out]; simp [h91])
    refine (require_x R2.out false).mono ?_; rintro e w3 ⟨rfl, b3, r3⟩
    rw [← HY'.out] at r3
    have BU3 := Lib.hid (BU2.out.trans b3)
    have R3 := Lib.hid r3
    clear b3 r3
    go_wp2_with fail
    refine (HD.out w3 R3.out).mono ?_; rintro e w4 ⟨a4, n4, cc4, rfl, b4, r4, m4⟩
    have BU4 := Lib.hid (BU3.out.trans b4)
    have R4 := Lib.hid r4
    have M4 := Lib.hid m4
    have hz3 : z.heap.size ≤ w3.heap.size := BU3.out.size
    clear b4 r4 m4
    go_wp2_with fail
    refine (token_x R4.out).mono ?_; rintro e w5 ⟨t5, rfl, b5, r5, ht5⟩
    have BU5 := Lib.hid (BU4.out.trans b5)
    have R5 := Lib.hid r5
    have B5 := Lib.hid b5
    have HT5 := Lib.hid ht5
    clear b5 r5 ht5
    by_cases h93 : t5 = [93]
    · subst h93
      have qe5 : ((tx [93]).toList == [93]) = true := tx_eqL _
      go_wp2_with fail
      refine (require_x R5.out true).mono ?_; rintro e w6 ⟨rfl, b6, r6⟩
      have BU6 := Lib.hid (BU5.out.trans b6)
      have B6 := Lib.hid (B5.out.trans b6)
      have R6 := Lib.hid (r6.open o)
      have c6 := r6.c1
      have f6 := r6.f1
      clear b6 r6
      go_wp2_with fail
      go_ret
      refine ⟨a4, n4, cc4, rfl, BU6.out.trans (but_set w6 p 1 _), ?_, fun hn => ?_⟩
      · rw [← HZ.out, ← HT5.out, if_pos rfl]; exact R6.out
      · have hbb := B6.out.trans (but_set w6 p 1 (.int .i64 o))
        exact DM.keep hbb.size (fun g h1 h2 => hbb.block g h2 (by have := BU3.out.size; omega)) (fun g h1 h2 => by show z.heap.size ≤ g; omega) D _ _ (M4.out hn)
    · have qe5 : ((tx t5).toList == [93]) = false := by rw [Lib.toList_data, tx_data, beq_eq_false_iff_ne]; exact h93
      go_wp2_with fail
      refine (require_x R5.out false).mono ?_; rintro e w6 ⟨rfl, b6, r6⟩
      have BU6 := Lib.hid (BU5.out.trans b6)
      have B6 := Lib.hid (B5.out.trans b6)
      have R6 := Lib.hid (r6.open o)
      have c6 := r6.c1
      have f6 := r6.f1
      clear b6 r6
      go_wp2_with fail
      go_ret
      refine ⟨a4, n4, cc4, rfl, BU6.out.trans (but_set w6 p 1 _), ?_, fun hn => ?_⟩
      · rw [← HZ.out, ← HT5.out, if_neg h93]; exact R6.out
      · have hbb := B6.out.trans (but_set w6 p 1 (.int .i64 o))
        exact DM.keep hbb.size (fun g h1 h2 => hbb.block g h2 (by have := BU3.out.size; omega)) (fun g h1 h2 => by show z.heap.size ≤ g; omega) D _ _ (M4.out hn)
theorem block0 {w0 : World} {p : Nat} {l : List Tk} : BlkC w0 p l 0 5 (fun _ => -1) (fun _ => .nil) := by
  intro x z hs
  refine (block_core (D := 0) (J := -1) (F := .nil) (y := -1) hs (by decide) ?_ (fun z h => ?_)).mono ?_
  · split <;> simp
  · refine (deeds_fail h).mono ?_; rintro e z' ⟨rfl, rfl⟩
    exact ⟨_, _, _, rfl, But.refl _ _, h, fun e => absurd rfl e⟩
  · rintro e z' ⟨a, n, c, rfl, b, r, -⟩
    rw [tkN_neg, if_neg (by simp)] at r
    exact ⟨a, n, c, rfl, b, r, fun e => absurd rfl e⟩
theorem block_of {w0 : World} {p : Nat} {l : List Tk} {D : Nat} {o : Int} {f : Int → Int} {R : Int → Sm} (ho : -1000 ≤ o ∧ o ≤ 4) (hA : ∀ i, Ahd l i (f i)) (hC : DdsC w0 p l D (o + 1) f R) : BlkC w0 p l (D + 1) o (blS l f) (blR l f R) := by
  intro x z hs
  obtain ⟨y, hy⟩ : ∃ y, y = if tkN l x = [91] then tkX l x else -1 := ⟨_, rfl⟩
  have hb := blX hA x y _ hy rfl
  refine (block_core (D := D + 1) (J := dlE l f (l.length + 1) y) (F := dlR l f R (l.length + 1) y) (y := y) hs (by omega) (by rw [hy, if_pos (by omega : o + 1 ≤ 5)]) (fun z h => hC y z h)).mono ?_
  rintro e z' ⟨a, n, c, rfl, b, r, m⟩
  rw [← hb] at r
  refine ⟨a, n, c, rfl, b, r, fun hn => ?_⟩
  have hy1 : y ≠ -1 := fun e => hn (by rw [hb, e, dlE_neg _ _ _ (by omega), tkN_neg]; simp)
  have hj1 : dlE l f (l.length + 1) y ≠ -1 := fun e => hn (by rw [hb, e, tkN_neg]; simp)
  rw [blR_y hy hy1]
  exact m hj1
theorem deed_all {w0 : World} {p : Nat} {l : List Tk} (hL : Lib3 w0) (hll : l.length ≤ 4194304) : ∀ D : Nat, D ≤ 5 → DeedC w0 p l D (5 - D) (ddE l D) (ddR l D)
  | 0, _ => deed_of hL rfl block0
  | D + 1, h => by
    have ih := deed_all (p := p) hL hll D (by omega)
    have h1 := deeds_of hll (ddE_ahd l D) ih
    have h2 := block_of (o := 5 - ((D + 1 : Nat) : Int)) (by omega) (ddE_ahd l D) (by rw [show (5 : Int) - ((D + 1 : Nat) : Int) + 1 = 5 - (D : Int) by omega]; exact h1)
    exact deed_of hL (ahd_neg (bls_ahd (ddE_ahd l D))) h2
theorem deeds_top {w0 : World} {p : Nat} {l : List Tk} (hL : Lib3 w0) (hll : l.length ≤ 4194304) : DdsC w0 p l 5 0 (ddE l 5) (ddR l 5) := deeds_of hll (ddE_ahd l 5) (deed_all hL hll 5 (by omega))
theorem Rd.at_ {w0 w : World} (hb : Below w0.heap.size w0 w) {a : Option Addr} {cap n : Nat} {l : List Tk} {T : TypeId} (hn : l.length = n) (hbd : Bd l) (hv : V1 w0 a cap (txL l)) : Rd w0 w.heap.size l 0 false (w.alloc (.cells #[.slice a n cap, .int .i64 0, .bool false] T)) := by
  have e := new_of w (.cells #[.slice a n cap, .int .i64 0, .bool false] T)
  exact ⟨hb.trans ((bel1 _ _).mono hb.size), hb.size, by rw [World.size_alloc]; omega, hbd, ⟨a, cap, by rw [hn]; simp only [World.cell?, e]; rfl, hv⟩, by simp only [World.cell?, e]; rfl, by simp only [World.cell?, e]; rfl,
    by simp only [World.frozen?, e]; rfl, by simp only [World.frozen?, e]; rfl, by simp only [World.frozen?, e]; rfl⟩
set_option maxHeartbeats 4000000 in
set_option maxRecDepth 100000 in
theorem deedsOf_any (w0 w : World) (hw0 : Below w0.heap.size w0 w) (a : Option Addr) (cap : Nat) (l : List Tk) (n : Nat) (hn : l.length = n) (hv : V1 w0 a cap (txL l)) (hl : n ≤ 4194304) (hm : ∀ s ∈ l, s.length ≤ 4194304) (hL : Lib3 w0) :
    Calls Tryz.prog 15 #[.slice a n cap] w fun e w' => ∃ b m c, e = .returned (.tuple #[.slice b m c, .bool (rcB l)]) ∧ Below w.heap.size w w' ∧ (rcB l = true → DM w0 (w.heap.size ≤ ·) w' 6 (.slice b m c) (rcR l)) := by
  have HR := Lib.hid (rcB_dl l)
  by_cases h120 : l.length ≤ 120
  · rw [decide_eq_true h120, Bool.true_and] at HR
    have y0 : decide ((120 : Int) < (n : Int)) = false := by simp; omega
    have y1 : ¬ (120 : Int) < (n : Int) := by omega
    have y2 : decide (120 < n) = false := by simp; omega
    have hrd := Rd.at_ (T := 46) hw0 hn ⟨by omega, hm⟩ hv
    have HBL := Lib.hid (bel1 w (.cells #[.slice a n cap, .int .i64 0, .bool false] 46))
    have hz : (w.alloc (.cells #[.slice a n cap, .int .i64 0, .bool false] 46)).heap.size = w.heap.size + 1 := World.size_alloc _ _
    have HD := Lib.hid (deeds_top (p := w.heap.size) hL (by omega) 0 _ (Or.inr ⟨by decide, by decide, by omega, hrd⟩))
    have HF := Lib.hid (show rcR l = dlR l (ddE l 5) (ddR l 5) (l.length + 1) 0 from rfl)
    clear hrd hv hm hw0
    generalize hq : w.heap.size = q at *
    obtain ⟨J, hJ⟩ : ∃ J, dlE l (ddE l 5) (l.length + 1) 0 = J := ⟨_, rfl⟩
    obtain ⟨G, hG⟩ : ∃ G, dlR l (ddE l 5) (ddR l 5) (l.length + 1) 0 = G := ⟨_, rfl⟩
    obtain ⟨rb, hrb⟩ : ∃ rb, rcB l = rb := ⟨_, rfl⟩
    rw [hJ] at HR HD
    rw [hG] at HF HD
    rw [hrb] at HR ⊢
    rw [HF.out]
    clear hJ hG hrb HF
    go_enter Tryz.func15, Tryz.ntmps15
    go_wp2_with fail
    generalize w.alloc (.cells #[.slice a n cap, .int .i64 0, .bool false] 46) = w1 at *
    refine HD.out.mono ?_; rintro e w2 ⟨b, m, c, rfl, b2, r2, m2⟩
    have B2 := Lib.hid (HBL.out.trans (b2.below (Nat.le_refl _) (by omega)))
    have M2 := Lib.hid m2
    have hk : ∀ g, w1.heap.size ≤ g → q ≤ g := fun g hg => by omega
    have HK := Lib.hid (fun (hn : J ≠ -1) => DM.keep (w' := w2) (K' := (q ≤ ·)) (Nat.le_refl _) (fun _ _ _ => rfl) (fun g h _ => hk g h) 6 _ _ (m2 hn))
    have hc := r2.cases
    clear b2 r2 m2 M2 hk HD
    rcases hc with ⟨hx, c2⟩ | ⟨h0, h1, c2, a3, cap3, c0⟩
    · go_wp2_with fail
      have hf : rb = false := by rw [HR.out, hx]; simp
      refine bodyPost_ret (v := .tuple #[.slice none 0 0, .bool false]) (by simp [results, Tryz.results15, go_sem]) rfl ⟨none, 0, 0, by rw [hf], B2.out, fun e => by rw [hf] at e; cases e⟩
    · obtain ⟨k, hkk⟩ : ∃ k, l.length - J.toNat = k := ⟨_, rfl⟩
      rw [hkk] at c0
      by_cases hk0 : k = 0
      · have t0 : decide ((0 : Int) < (k : Int)) = false := by simp; omega
        have t1 : decide (0 < k) = false := by simp; omega
        have t2 : ¬ (0 : Int) < (k : Int) := by omega
        have hrb : rb = true := by rw [HR.out]; simp; omega
        have hj : J ≠ -1 := by omega
        clear hkk
        subst hk0
        go_wp2_with fail
        refine bodyPost_ret (v := .tuple #[.slice b m c, .bool true]) (by simp [results, Tryz.results15, go_sem]) rfl ⟨b, m, c, by rw [hrb], B2.out, fun _ => HK.out hj⟩
      · have t0 : decide ((0 : Int) < (k : Int)) = true := by simp; omega
        have t1 : decide (0 < k) = true := by simp; omega
        have t2 : (0 : Int) < (k : Int) := by omega
        have hrb : rb = false := by rw [HR.out]; simp; omega
        clear hkk hk0
        go_wp2_with fail
        refine bodyPost_ret (v := .tuple #[.slice none 0 0, .bool false]) (by simp [results, Tryz.results15, go_sem]) rfl ⟨none, 0, 0, by rw [hrb], B2.out, fun e => by rw [hrb] at e; cases e⟩
  · rw [decide_eq_false h120, Bool.false_and] at HR
    have y0 : decide ((120 : Int) < (n : Int)) = true := by simp; omega
    have y1 : (120 : Int) < (n : Int) := by omega
    have y2 : decide (120 < n) = true := by simp; omega
    rw [HR.out]
    clear hv hm
    go_enter Tryz.func15, Tryz.ntmps15
    go_wp2_with fail
    refine bodyPost_ret (v := .tuple #[.slice none 0 0, .bool false]) (by simp [results, Tryz.results15, go_sem]) rfl ⟨none, 0, 0, rfl, Below.refl _ _, fun e => by cases e⟩
end Go.Proofs.YtoiphglfngkoiaaGreatDoor.Cl.T
namespace Go.Proofs.YtoiphglfngkoiaaGreatDoor.Cl.T
set_option linter.unusedVariables false
open Go.RowKit Wd Rp Kp
theorem ddE_G (l : List Tk) : ∀ d : Nat, ∃ B R, ddE l d = ddG l B ∧ ddR l d = ddQ l B R
  | 0 => ⟨_, _, rfl, rfl⟩
  | d + 1 => ⟨_, _, rfl, rfl⟩
theorem blk_of {l : List Tk} {f : Int → Int} {R : Int → Sm} (hA : ∀ i, Ahd l i (f i)) {a : List Tk} {rd : Sl} {k : Nat} {r : List Tk} (hd : l.drop k = [91] :: (a ++ ([93] :: r)))
    (h : ∀ n, a.length < n → dlE l f n ((k + 1 : Nat) : Int) = ((k + 1 + a.length : Nat) : Int) ∧ dlR l f R n ((k + 1 : Nat) : Int) = rd) : blS l f (k : Int) = ((k + a.length + 2 : Nat) : Int) ∧ blR l f R (k : Int) = rd := by
  obtain ⟨h1, h2, h3⟩ := drop_head hd
  have hlen := congrArg List.length h3
  rw [List.length_drop, List.length_append, List.length_cons] at hlen
  obtain ⟨e1, e2⟩ := h (l.length + 1) (by omega)
  constructor
  · unfold blS
    rw [if_pos (tkA_of hd), show (k : Int) + 1 = ((k + 1 : Nat) : Int) by omega, ble_dl hA _ _ (by omega), e1, if_pos (tkA_of (drop_more h3))]
    omega
  · unfold blR
    rw [show (k : Int) + 1 = ((k + 1 : Nat) : Int) by omega]
    exact e2
mutual
theorem Sm.det (l : List Tk) : ∀ (s : Sm) (d k : Nat) (r : List Tk), s.wf d → l.drop k = s.fl ++ r → ddE l d (k : Int) = ((k + s.fl.length : Nat) : Int) ∧ ddR l d (k : Int) = s
  | .set n e, d, k, r, hw, hd => by
    rw [Sm.wf] at hw
    obtain ⟨B, R, hB, hR⟩ := ddE_G l d
    rw [hB, hR]
    have hd1 : l.drop k = setT :: (n :: (e ++ r)) := by rw [hd]; rfl
    have hd2 := (drop_head hd1).2.2
    have hd3 := (drop_head hd2).2.2
    obtain ⟨h1, h2⟩ := sm_det hw.2 hd3
    rw [ddG_some (tkA_of hd1), ddQ_some (tkA_of hd1)]
    simp only [if_true, eq_self]
    rw [show (k : Int) + 1 = ((k + 1 : Nat) : Int) by omega, show (k : Int) + 2 = ((k + 1 + 1 : Nat) : Int) by omega, if_pos (nmA_of hd2 hw.1), h1, h2]
    refine ⟨by rw [Sm.fl]; simp only [List.length_cons]; omega, ?_⟩
    unfold tkN
    rw [tkA_of hd2]; rfl
  | .cut n, d, k, r, hw, hd => by
    rw [Sm.wf] at hw
    obtain ⟨B, R, hB, hR⟩ := ddE_G l d
    rw [hB, hR]
    have hd1 : l.drop k = cutT :: (n :: r) := by rw [hd]; rfl
    have hd2 := (drop_head hd1).2.2
    rw [ddG_some (tkA_of hd1), ddQ_some (tkA_of hd1)]
    simp only [cutT_setT, if_false, if_true, eq_self]
    rw [show (k : Int) + 1 = ((k + 1 : Nat) : Int) by omega, if_pos (nmA_of hd2 hw)]
    refine ⟨by rw [Sm.fl]; simp only [List.length_cons, List.length_nil]; omega, ?_⟩
    unfold tkN
    rw [tkA_of hd2]; rfl
  | .stop, d, k, r, hw, hd => by
    obtain ⟨B, R, hB, hR⟩ := ddE_G l d
    rw [hB, hR]
    have hd1 : l.drop k = stopT :: r := by rw [hd]; rfl
    rw [ddG_some (tkA_of hd1), ddQ_some (tkA_of hd1)]
    simp only [stopT_setT, stopT_cutT, if_false, if_true, eq_self]
    exact ⟨by rw [Sm.fl]; simp only [List.length_cons, List.length_nil]; omega, by first | exact trivial | rfl⟩
  | .ifs e a b, 0, k, r, hw, hd => by rw [Sm.wf] at hw; exact hw.elim
  | .ifs e a b, d + 1, k, r, hw, hd => by
    rw [Sm.wf] at hw
    have hd1 : l.drop k = ifT :: (e ++ ([91] :: (a.fl ++ ([93] :: ([91] :: (b.fl ++ ([93] :: r))))))) := by rw [hd]; simp [Sm.fl]
    have hd2 := (drop_head hd1).2.2
    obtain ⟨h1, h2⟩ := sm_det hw.1 hd2
    have hd3 := drop_more hd2
    obtain ⟨h3, h4⟩ := blk_of (ddE_ahd l d) (R := ddR l d) (rd := a) hd3 (fun n hn => Sl.det l a d _ _ n hw.2.1 (drop_head hd3).2.2 (Or.inr ⟨_, rfl⟩) hn)
    have hd4 : l.drop (k + 1 + e.length + a.fl.length + 2) = [91] :: (b.fl ++ ([93] :: r)) := by
      have := (drop_head (drop_more (drop_head hd3).2.2)).2.2
      rw [show k + 1 + e.length + a.fl.length + 2 = k + 1 + e.length + 1 + a.fl.length + 1 by omega]; exact this
    obtain ⟨h5, h6⟩ := blk_of (ddE_ahd l d) (R := ddR l d) (rd := b) hd4 (fun n hn => Sl.det l b d _ _ n hw.2.2 (drop_head hd4).2.2 (Or.inr ⟨_, rfl⟩) hn)
    have hE : ddE l (d + 1) (k : Int) = ddG l (blS l (ddE l d)) (k : Int) := rfl
    have hR : ddR l (d + 1) (k : Int) = ddQ l (blS l (ddE l d)) (blR l (ddE l d) (ddR l d)) (k : Int) := rfl
    rw [hE, hR, ddG_some (tkA_of hd1), ddQ_some (tkA_of hd1)]
    simp only [ifT_setT, ifT_cutT, ifT_stopT, if_false, if_true, eq_self]
    rw [show (k : Int) + 1 = ((k + 1 : Nat) : Int) by omega, h1, h2, h3, h4, h5, h6]
    refine ⟨by rw [Sm.fl]; simp only [List.length_cons, List.length_nil, List.length_append]; omega, ?_⟩
    rfl
  | .whl e a, 0, k, r, hw, hd => by rw [Sm.wf] at hw; exact hw.elim
  | .whl e a, d + 1, k, r, hw, hd => by
    rw [Sm.wf] at hw
    have hd1 : l.drop k = whT :: (e ++ ([91] :: (a.fl ++ ([93] :: r)))) := by rw [hd]; simp [Sm.fl]
    have hd2 := (drop_head hd1).2.2
    obtain ⟨h1, h2⟩ := sm_det hw.1 hd2
    have hd3 := drop_more hd2
    obtain ⟨h3, h4⟩ := blk_of (ddE_ahd l d) (R := ddR l d) (rd := a) hd3 (fun n hn => Sl.det l a d _ _ n hw.2 (drop_head hd3).2.2 (Or.inr ⟨_, rfl⟩) hn)
    have hE : ddE l (d + 1) (k : Int) = ddG l (blS l (ddE l d)) (k : Int) := rfl
    have hR : ddR l (d + 1) (k : Int) = ddQ l (blS l (ddE l d)) (blR l (ddE l d) (ddR l d)) (k : Int) := rfl
    rw [hE, hR, ddG_some (tkA_of hd1), ddQ_some (tkA_of hd1)]
    simp only [whT_setT, whT_cutT, whT_stopT, whT_ifT, if_false, if_true, eq_self]
    rw [show (k : Int) + 1 = ((k + 1 : Nat) : Int) by omega, h1, h2, h3, h4]
    refine ⟨by rw [Sm.fl]; simp only [List.length_cons, List.length_nil, List.length_append]; omega, ?_⟩
    rfl
theorem Sl.det (l : List Tk) : ∀ (a : Sl) (d k : Nat) (r : List Tk) (n : Nat), a.wf d → l.drop k = a.fl ++ r → (r = [] ∨ ∃ q, r = [93] :: q) → a.fl.length < n → dlE l (ddE l d) n (k : Int) = ((k + a.fl.length : Nat) : Int) ∧ dlR l (ddE l d) (ddR l d) n (k : Int) = a
  | .nil, d, k, r, 0, hw, hd, hr, hn => by omega
  | .nil, d, k, r, n + 1, hw, hd, hr, hn => by
    have hd : l.drop k = r := hd
    have e0 : ((k + (Sl.fl .nil).length : Nat) : Int) = (k : Int) := by rw [Sl.fl]; simp
    rw [e0]
    rcases hr with rfl | ⟨q, rfl⟩
    · have hk : l.length ≤ k := List.drop_eq_nil_iff.1 hd
      rw [dlE, dlR, tkA_out (by omega)]
      exact ⟨rfl, rfl⟩
    · rw [dlE, dlR, tkA_of hd]
      exact ⟨if_pos rfl, if_pos rfl⟩
  | .cons s t, d, k, r, 0, hw, hd, hr, hn => by omega
  | .cons s t, d, k, r, n + 1, hw, hd, hr, hn => by
    rw [Sl.wf] at hw
    rw [Sl.fl, List.length_append] at hn
    have hd1 : l.drop k = s.fl ++ (t.fl ++ r) := by rw [hd, Sl.fl, List.append_assoc]
    obtain ⟨h1, h2⟩ := Sm.det l s d k _ hw.1 hd1
    obtain ⟨c, q, hq, hc⟩ := s.head
    have hp := s.pos
    obtain ⟨h3, h4⟩ := Sl.det l t d (k + s.fl.length) r n hw.2 (drop_more hd1) hr (by omega)
    have ht : tkA l (k : Int) = some c := tkA_of (by rw [hd1, hq]; rfl)
    rw [dlE, dlR, ht]
    dsimp only
    rw [if_neg hc, if_neg hc, h1, h2, h3, h4, Sl.fl, List.length_append]
    exact ⟨by omega, rfl⟩
end
theorem rc_det {t : Sl} (hw : t.wf 5) : rcR t.fl = t :=
  (Sl.det t.fl t 5 0 [] (t.fl.length + 1) hw (by simp) (Or.inl rfl) (by omega)).2
end Go.Proofs.YtoiphglfngkoiaaGreatDoor.Cl.T
namespace Go.Proofs.YtoiphglfngkoiaaGreatDoor.Cl
set_option linter.unusedVariables false
open Go.RowKit Wd Rp Kp
structure Ov where
  k : Int
  n : Int
  m : Tk
def noN : Tk := []
end Go.Proofs.YtoiphglfngkoiaaGreatDoor.Cl
namespace Go.Proofs.YtoiphglfngkoiaaGreatDoor.Cl
set_option linter.unusedVariables false
open Go.RowKit Wd Rp Kp
def cdF (s : Tk) : List Ov := if gvN s ≠ 0 then [⟨2, (gvN s : Int) - 1, noN⟩] else if nmB s then [⟨3, 0, s⟩] else [⟨1, rdV s, noN⟩]
def cdG (o : Nat) (a b : List Ov) : List Ov := (a ++ b) ++ [⟨4, (o : Int), noN⟩]
def cdE (e : List Tk) : List Ov := foV cdF cdG [] e 0
theorem cdE_fl {u : Su} (h : u.ok) : cdE u.fl = u.fo cdF cdG := foV_of (l := u.fl) (k := 0) (r := []) _ _ _ h (by simp)
theorem cdF_len (s : Tk) : (cdF s).length = 1 := by
  unfold cdF
  split
  · rfl
  · split <;> rfl
theorem cdS_len : ∀ u : Su, (u.fo cdF cdG).length = u.fl.length
  | .one s => by simp [Su.fo, Su.fl, cdF_len]
  | .two s a b => by
    simp only [Su.fo, Su.fl, cdG, List.length_append, List.length_cons, List.length_nil]
    rw [cdS_len a, cdS_len b]
theorem cdE_len {e : List Tk} (h : eOk e) : (cdE e).length = e.length := by
  obtain ⟨u, hu, rfl⟩ := h
  rw [cdE_fl hu, cdS_len]
mutual
/-- How many instructions. -/
def Sm.cl : Sm → Nat
  | .set n e => (cdE e).length + 1
  | .cut n => 1
  | .stop => 1
  | .ifs e a b => (cdE e).length + 1 + Sl.cl a + 1 + Sl.cl b
  | .whl e a => 1 + (cdE e).length + 1 + Sl.cl a + 1
def Sl.cl : Sl → Nat
  | .nil => 0
  | .cons s r => Sm.cl s + Sl.cl r
end
mutual
/-- The code of a statement whose first instruction stands at p. -/
def Sm.code : Sm → Nat → List Ov
  | .set n e, p => cdE e ++ [⟨5, 0, n⟩]
  | .cut n, p => [⟨6, 0, n⟩]
  | .stop, p => [⟨10, 0, noN⟩]
  | .ifs e a b, p => (((cdE e ++ [⟨8, ((p + (cdE e).length + 1 + Sl.cl a + 1 : Nat) : Int), noN⟩]) ++ Sl.code a (p + (cdE e).length + 1)) ++ [⟨7, ((p + (cdE e).length + 1 + Sl.cl a + 1 + Sl.cl b : Nat) : Int), noN⟩]) ++ Sl.code b (p + (cdE e).length + 1 + Sl.cl a + 1)
  | .whl e a, p => ((([⟨9, 0, noN⟩] ++ cdE e) ++ [⟨8, ((p + 1 + (cdE e).length + 1 + Sl.cl a + 1 : Nat) : Int), noN⟩]) ++ Sl.code a (p + 1 + (cdE e).length + 1)) ++ [⟨7, (p : Int), noN⟩]
def Sl.code : Sl → Nat → List Ov
  | .nil, p => []
  | .cons s r, p => Sm.code s p ++ Sl.code r (p + Sm.cl s)
end
mutual
theorem Sm.code_len : ∀ (s : Sm) (p : Nat), (s.code p).length = s.cl
  | .set n e, p => by simp [Sm.code, Sm.cl]
  | .cut n, p => by simp [Sm.code, Sm.cl]
  | .stop, p => by simp [Sm.code, Sm.cl]
  | .ifs e a b, p => by
    simp only [Sm.code, Sm.cl, List.length_append, List.length_cons, List.length_nil]
    rw [Sl.code_len a, Sl.code_len b]
  | .whl e a, p => by
    simp only [Sm.code, Sm.cl, List.length_append, List.length_cons, List.length_nil]
    rw [Sl.code_len a]
theorem Sl.code_len : ∀ (s : Sl) (p : Nat), (s.code p).length = s.cl
  | .nil, p => by simp [Sl.code, Sl.cl]
  | .cons s r, p => by
    simp only [Sl.code, Sl.cl, List.length_append]
    rw [Sm.code_len s, Sl.code_len r]
end
mutual
theorem Sm.cl_fl : ∀ (s : Sm) {d : Nat}, s.wf d → s.cl ≤ s.fl.length
  | .set n e, d, h => by
    rw [Sm.wf] at h
    simp only [Sm.cl, Sm.fl, List.length_cons]
    rw [cdE_len h.2.ok]; omega
  | .cut n, d, h => by simp [Sm.cl, Sm.fl]
  | .stop, d, h => by simp [Sm.cl, Sm.fl]
  | .ifs e a b, 0, h => by rw [Sm.wf] at h; exact h.elim
  | .ifs e a b, d + 1, h => by
    rw [Sm.wf] at h
    have h1 := Sl.cl_fl a h.2.1
    have h2 := Sl.cl_fl b h.2.2
    simp only [Sm.cl, Sm.fl, List.length_cons, List.length_append, List.length_nil]
    rw [cdE_len h.1.ok]; omega
  | .whl e a, 0, h => by rw [Sm.wf] at h; exact h.elim
  | .whl e a, d + 1, h => by
    rw [Sm.wf] at h
    have h1 := Sl.cl_fl a h.2
    simp only [Sm.cl, Sm.fl, List.length_cons, List.length_append, List.length_nil]
    rw [cdE_len h.1.ok]; omega
theorem Sl.cl_fl : ∀ (s : Sl) {d : Nat}, s.wf d → s.cl ≤ s.fl.length
  | .nil, d, h => by simp [Sl.cl]
  | .cons s r, d, h => by
    rw [Sl.wf] at h
    have h1 := Sm.cl_fl s h.1
    have h2 := Sl.cl_fl r h.2
    simp only [Sl.cl, Sl.fl, List.length_append]; omega
end
def cdR (l : List Tk) : List Ov := if rcB l then (T.rcR l).code 0 ++ [⟨11, 0, noN⟩] else []
theorem cdR_no {l : List Tk} (h : rcB l = false) : cdR l = [] := by unfold cdR; rw [h]; rfl
theorem cdR_tree {l : List Tk} (h : rcB l = true) : ∃ t : Sl, t.wf 5 ∧ l = t.fl ∧ cdR l = t.code 0 ++ [⟨11, 0, noN⟩] := by
  obtain ⟨t, hw, ht⟩ := rc_tree h
  refine ⟨t, hw, ht, ?_⟩
  unfold cdR
  rw [if_pos h, ht, T.rc_det hw]
theorem cdR_len (l : List Tk) : (cdR l).length ≤ l.length + 1 := by
  cases h : rcB l with
  | false => rw [cdR_no h]; simp
  | true =>
    obtain ⟨t, hw, ht, e⟩ := cdR_tree h
    have := Sl.cl_fl t hw
    rw [e, List.length_append, Sl.code_len, ht]
    simp only [List.length_cons, List.length_nil]; omega
end Go.Proofs.YtoiphglfngkoiaaGreatDoor.Cl
namespace Go.Proofs.YtoiphglfngkoiaaGreatDoor.Cl
set_option linter.unusedVariables false
open Go.RowKit Wd Rp Kp
def Ov.vals (c : Ov) : List Value := [.int .i64 c.k, .int .i64 c.n, .string (tx c.m)]
def flatO (l : List Ov) : List Value := l.flatMap Ov.vals
theorem valsO_len (c : Ov) : c.vals.length = 3 := rfl
theorem flatO_cons (c : Ov) (l : List Ov) : flatO (c :: l) = c.vals ++ flatO l := rfl
theorem flatO_app (l m : List Ov) : flatO (l ++ m) = flatO l ++ flatO m := by unfold flatO; rw [List.flatMap_append]
theorem flatO_len : ∀ l : List Ov, (flatO l).length = l.length * 3
  | [] => rfl
  | c :: l => by rw [flatO_cons, List.length_append, valsO_len, flatO_len l, List.length_cons]; omega
theorem flatO_get : ∀ (l : List Ov) (k j : Nat) (c : Ov), l[k]? = some c → j < 3 → (flatO l)[k * 3 + j]? = c.vals[j]?
  | [], k, j, c, h, _ => by simp at h
  | d :: l, 0, j, c, h, hj => by
    obtain rfl : d = c := by simpa using h
    rw [flatO_cons, List.getElem?_append_left (by rw [valsO_len]; omega), Nat.zero_mul, Nat.zero_add]
  | d :: l, k + 1, j, c, h, hj => by
    rw [flatO_cons, List.getElem?_append_right (by rw [valsO_len]; omega), valsO_len, show (k + 1) * 3 + j - 3 = k * 3 + j by omega]
    exact flatO_get l k j c (by simpa using h) hj
theorem flatO_one (l : List Ov) : ∀ u ∈ flatO l, u.oneCell' = true := by
  intro u hu
  unfold flatO at hu
  rw [List.mem_flatMap] at hu
  obtain ⟨c, _, hc⟩ := hu
  simp [Ov.vals] at hc
  rcases hc with rfl | rfl | rfl <;> rfl
def At3o (w : World) (g o : Nat) (c : Ov) : Prop := w.cell? ⟨g, o, none⟩ = some (.int .i64 c.k) ∧ w.cell? ⟨g, o + 1, none⟩ = some (.int .i64 c.n) ∧ w.cell? ⟨g, o + 2, none⟩ = some (.string (tx c.m))
theorem At3o.same {w w' : World} {g o : Nat} {c : Ov} (h : At3o w g o c) (e : w'.heap[g]? = w.heap[g]?) : At3o w' g o c := ⟨(World.cell?_of_block (w := w) e).trans h.1, (World.cell?_of_block (w := w) e).trans h.2.1, (World.cell?_of_block (w := w) e).trans h.2.2⟩
def VwO (w : World) (a : Option Addr) (cap : Nat) (l : List Ov) : Prop :=
  l.length ≤ cap ∧ cap ≤ maxLen ∧ (a = none → cap = 0) ∧ ∀ k c, l[k]? = some c → ∃ g o, a = some ⟨g, o, none⟩ ∧ g < w.heap.size ∧ At3o w g (o + k * 3) c
theorem VwO.below {w w' : World} {a : Option Addr} {cap : Nat} {l : List Ov} (h : VwO w a cap l) (hb : Below w.heap.size w w') : VwO w' a cap l := by
  obtain ⟨h1, h2, h3, h4⟩ := h
  refine ⟨h1, h2, h3, fun k c hk => ?_⟩
  obtain ⟨g, o, e, hg, hc⟩ := h4 k c hk
  exact ⟨g, o, e, Nat.lt_of_lt_of_le hg hb.size, hc.same (hb.block g hg)⟩
def OwO (B : Nat) (w : World) (v : Value) (l : List Ov) : Prop := w.ownsRow B 34 3 v l.length (flatO l)
theorem infoO : (Tryz.prog.info? 34).map (fun i => (i.zero, i.size, i.bytes)) = some (some (.agg #[.int .i64 0, .int .i64 0, .string ⟨#[]⟩]), 3, 32) := by kernel_rfl
theorem OwO.next {B : Nat} {w w' : World} {v : Value} {l : List Ov} (h : OwO B w v l) (hb : Below w.heap.size w w') : OwO B w' v l := row_next h fun g _ hg => hb.block g hg
theorem OwO.mono {B C : Nat} {w : World} {v : Value} {l : List Ov} (h : OwO B w v l) (hC : C ≤ B) : OwO C w v l := by
  obtain ⟨h1, h2⟩ := h
  refine ⟨h1, ?_⟩
  rcases h2 with h2 | ⟨g, cap, cur, hv, hB, h3⟩
  · exact .inl h2
  · exact .inr ⟨g, cap, cur, hv, Nat.le_trans hC hB, h3⟩
theorem OwO.view {B : Nat} {w : World} {v : Value} {l : List Ov} (h : OwO B w v l) : ∃ a cap, v = .slice a l.length cap ∧ VwO w a cap l := by
  obtain ⟨h1, h2⟩ := h
  rcases h2 with ⟨rfl, hn⟩ | ⟨g, cap, cur, rfl, hB, hg, hn, hc, hsz, hxs⟩
  · refine ⟨none, 0, by rw [hn], ⟨by omega, by decide, fun _ => rfl, fun k c hk => ?_⟩⟩
    have := (List.getElem?_eq_some_iff.1 hk).1; omega
  · refine ⟨_, cap, rfl, ⟨hn, hc, (fun e => by cases e), fun k c hk => ?_⟩⟩
    have hkl := (List.getElem?_eq_some_iff.1 hk).1
    refine ⟨g, 0, rfl, (Array.getElem?_eq_some_iff.1 hg).1, ?_⟩
    have key : ∀ j, j < 3 → w.cell? ⟨g, 0 + k * 3 + j, none⟩ = c.vals[j]? := fun j hj => by
      have e1 := flatO_get l k j c hk hj
      rw [← hxs, List.getElem?_take_of_lt (by omega)] at e1
      rw [← e1, Nat.zero_add]
      simp [World.cell?, hg]
    exact ⟨key 0 (by decide), key 1 (by decide), key 2 (by decide)⟩
theorem OwO.lt {B : Nat} {w : World} {v : Value} {l : List Ov} (h : OwO B w v l) : ∀ k, v.ownBlock = some k → B ≤ k := fun k hk => (World.ownsRow.lt h k hk).1
theorem OwO.start {B : Nat} {w : World} (h : B ≤ w.heap.size) : OwO B (w.alloc (.cells #[] 34)) (.slice (some ⟨w.heap.size, 0, none⟩) 0 0) [] := World.ownsRow_made w #[] 0 h (by decide) rfl
theorem OwO.nothing (B : Nat) (w : World) : OwO B w (.slice none 0 0) [] := World.ownsRow_nil w B _ _
theorem OwO.lit {B : Nat} {w : World} (h : B ≤ w.heap.size) (c : Ov) : OwO B (w.alloc (.cells #[.int .i64 c.k, .int .i64 c.n, .string (tx c.m)] 34)) (.slice (some ⟨w.heap.size, 0, none⟩) 1 1) [c] :=
  World.ownsRow_lit (base := B) (e := 34) (size := 3) w #[.int .i64 c.k, .int .i64 c.n, .string (tx c.m)] 1 h (by decide) rfl
theorem VwO.lit (w : World) (c : Ov) : VwO (w.alloc (.cells #[.int .i64 c.k, .int .i64 c.n, .string (tx c.m)] 34)) (some ⟨w.heap.size, 0, none⟩) 1 [c] := by
  obtain ⟨a, cap, e, hv⟩ := (OwO.lit (B := 0) (w := w) (Nat.zero_le _) c).view
  cases e
  exact hv
theorem OwO.grown {B : Nat} {w w' : World} {v : Value} {l : List Ov} {row : Option Nat} (h : OwO B w v l) (hg : w.grownBy w' row) (hne : ∀ k, v.ownBlock = some k → row ≠ some k) : OwO B w' v l := row_next h fun g hk hlt => hg.block g hlt (fun e => hne g hk e.symm)
theorem vwO_cells {w : World} {ad : Addr} {cap : Nat} {m : List Ov} (h : VwO w (some ad) cap m) : ∀ j u, (flatO m)[j]? = some u → w.cell? (ad.add j) = some u := by
  intro j u hj
  have hl : j < m.length * 3 := by rw [← flatO_len]; exact (List.getElem?_eq_some_iff.1 hj).1
  have hk : j / 3 < m.length := by omega
  obtain ⟨g, o, e, -, h0, h1, h2⟩ := h.2.2.2 (j / 3) m[j / 3] (List.getElem?_eq_getElem hk)
  cases e
  have hadd : ∀ j, (⟨g, o, none⟩ : Addr).add j = ⟨g, o + j, none⟩ := fun j => by cases j <;> simp [Addr.add]
  have e1 := flatO_get m (j / 3) (j % 3) m[j / 3] (List.getElem?_eq_getElem hk) (by omega)
  rw [show j / 3 * 3 + j % 3 = j by omega, hj] at e1
  rw [hadd]
  have hm : j % 3 < 3 := by omega
  have ho : o + j = o + j / 3 * 3 + j % 3 := by omega
  rw [ho, e1]
  generalize j % 3 = i at hm
  match i, hm with
  | 0, _ => exact h0
  | 1, _ => exact h1
  | 2, _ => exact h2
theorem run_append_ops {w : World} {base : Nat} {v : Value} {a : Option Addr} {cap : Nat} {l m : List Ov} (ty : TypeId) (hown : OwO base w v l) (hy : VwO w a cap m) (hlen : l.length + m.length ≤ 10000000) (hbase : base ≤ w.heap.size) :
    ∃ v' w', (Builtin.append_ #[24, 24] ty #[v, .slice a m.length cap]).run Tryz.prog w = .ok v' w' ∧ OwO base w' v' (l ++ m) ∧ w.grownBy w' v.ownBlock ∧ (v'.ownBlock = v.ownBlock ∨ v'.ownBlock = some w.heap.size) := by
  obtain ⟨i0, hi, hz0, hz1, hz2⟩ := info_parts infoO
  cases a with
  | none =>
    have hc := hy.2.2.1 rfl
    have hm : m = [] := List.length_eq_zero_iff.1 (by have := hy.1; omega)
    subst hm hc
    rw [List.append_nil]
    exact ⟨v, w, run_append_owned_none w base 24 ty 34 i0 3 Tryz.underlying24 hi v _ _ hown, hown, World.grownBy.refl _ _, Or.inl rfl⟩
  | some ad =>
    obtain ⟨v', w', hr, h2, h3, h4, h5⟩ := run_append_own_at (P := Tryz.prog) w base 24 ty 34 i0 _ 3 32 Tryz.underlying24 hi hz0 hz1 hz2 rfl (by decide) v l.length (flatO l) hown
      ad m.length cap (flatO m) (flatO_len m) (vwO_cells hy) (flatO_one m) (by unfold maxLen; omega) (by omega) hbase
    refine ⟨v', w', hr, ?_, h3, h5⟩
    unfold OwO
    rw [List.length_append, flatO_app]; exact h2
theorem OwO.vw {B : Nat} {w : World} {a : Option Addr} {n cap : Nat} {l : List Ov} (h : OwO B w (.slice a n cap) l) : VwO w a cap l := by
  obtain ⟨a', cap', e, hv⟩ := h.view
  cases e
  exact hv
theorem OwO.low {B : Nat} {w : World} {v : Value} {l : List Ov} (h : OwO B w v l) : ∀ k, v.ownBlock = some k → k < w.heap.size := fun k hk => (World.ownsRow.lt h k hk).2
theorem OwO.len {B : Nat} {w : World} {a : Option Addr} {n cap : Nat} {l : List Ov} (h : OwO B w (.slice a n cap) l) : l.length = n := by
  obtain ⟨a', cap', e, hv⟩ := h.view
  cases e
  rfl
theorem OwO.own {B : Nat} {w : World} {v : Value} {l : List Ov} (h : OwO B w v l) : ∃ a cap, v = .slice a l.length cap ∧ VwO w a cap l ∧
    ∀ k, k < l.length → ∃ g, a = some ⟨g, 0, none⟩ ∧ B ≤ g ∧ ∀ j, w.frozen? ⟨g, j, none⟩ = false := by
  obtain ⟨a, cap, e, hv⟩ := h.view
  refine ⟨a, cap, e, hv, fun k hk => ?_⟩
  obtain ⟨h1, h2⟩ := h
  rcases h2 with ⟨rfl, hn⟩ | ⟨g, cap', cur, e', hB, hg, -⟩
  · rw [hn] at hk; omega
  · rw [e'] at e; cases e
    exact ⟨g, rfl, hB, fun j => by simp [World.frozen?, hg]⟩
theorem flatO_setN : ∀ (l : List Ov) (k : Nat) (d : Ov) (x : Int), l[k]? = some d → (flatO l).set (k * 3 + 1) (.int .i64 x) = flatO (l.set k ⟨d.k, x, d.m⟩)
  | [], k, d, x, h => by simp at h
  | c :: l, 0, d, x, h => by
    obtain rfl : c = d := by simpa using h
    rfl
  | c :: l, k + 1, d, x, h => by
    have ih := flatO_setN l k d x (by simpa using h)
    rw [flatO_cons, List.set_cons_succ, flatO_cons, ← ih, List.set_append_right _ _ (by rw [valsO_len]; omega), valsO_len, show (k + 1) * 3 + 1 - 3 = k * 3 + 1 by omega]
theorem OwO.setN {B : Nat} {w : World} {g n cap : Nat} {l : List Ov} (h : OwO B w (.slice (some ⟨g, 0, none⟩) n cap) l) (hn : n = l.length) (k : Nat) (d : Ov) (hd : l[k]? = some d) (x : Int) :
    OwO B (w.setCell ⟨g, k * 3 + 1, none⟩ (.int .i64 x)) (.slice (some ⟨g, 0, none⟩) n cap) (l.set k ⟨d.k, x, d.m⟩) := by
  subst hn
  unfold OwO
  rw [List.length_set, ← flatO_setN l k d x hd]
  exact (World.ownsRow.stored h (k * 3 + 1) (.int .i64 x)).1
theorem OwO.at {B : Nat} {w : World} {g n cap : Nat} {l : List Ov} (h : OwO B w (.slice (some ⟨g, 0, none⟩) n cap) l) {k : Nat} {d : Ov} (hd : l[k]? = some d) :
    At3o w g (k * 3) d ∧ (∀ j, w.frozen? ⟨g, j, none⟩ = false) ∧ B ≤ g ∧ g < w.heap.size := by
  obtain ⟨a, cap', e, hv, hf⟩ := h.own
  obtain ⟨g2, e2, hB, hfr⟩ := hf k (List.getElem?_eq_some_iff.1 hd).1
  obtain ⟨g3, o3, e3, hlt, h5⟩ := hv.2.2.2 k d hd
  cases e
  cases e2
  cases e3
  rw [Nat.zero_add] at h5
  exact ⟨h5, hfr, hB, hlt⟩
theorem step_append_ops {ops : Array Oper} {o : Oper} {a : Act} {Q : Exit → Act → World → Prop} {K : Act → World → Prop} {w : World} (hw : Region.wanted o (yielded ops a.tmps) = true) (s x : Operand)
    (ho : o.op = .call { callee := .builtin .append, args := #[s, x], argTypes := #[24, 24] })
    {base : Nat} {v : Value} {ad : Option Addr} {cap n : Nat} {l m : List Ov} (hs : a.eval s = v) (hx : a.eval x = .slice ad n cap) (hmn : m.length = n) (hown : OwO base w v l) (hy : VwO w ad cap m) (hlen : l.length + m.length ≤ 10000000) (hbase : base ≤ w.heap.size)
    (h : ∀ v' w', OwO base w' v' (l ++ m) → w.grownBy w' v.ownBlock → (v'.ownBlock = v.ownBlock ∨ v'.ownBlock = some w.heap.size) → K (a.put o.dst v') w') :
    if Region.wanted o (yielded ops a.tmps) = true then Oper.wp Tryz.prog o a w K Q else K (a.put o.dst undef) w := by
  rw [if_pos hw]
  subst hmn
  obtain ⟨v', w', hr, h2, h3, h4⟩ := run_append_ops o.type hown hy hlen hbase
  unfold Oper.wp execOp
  simp only [ho, resolve, invoke, builtin, Sem.run_bind, Sem.run_pure, Result.andThen_ok, List.map_toArray, List.map_cons, List.map_nil, hs, hx, hr]
  exact h v' w' h2 h3 h4
theorem append_ops {ops : Array Oper} {rest : List Oper} {o : Oper} {a : Act} {Q : Exit → Act → World → Prop} {w : World} (hw : Region.wanted o (yielded ops a.tmps) = true) (s x : Operand)
    (ho : o.op = .call { callee := .builtin .append, args := #[s, x], argTypes := #[24, 24] })
    {base : Nat} {v : Value} {ad : Option Addr} {cap n : Nat} {l m : List Ov} (hs : a.eval s = v) (hx : a.eval x = .slice ad n cap) (hmn : m.length = n) (hown : OwO base w v l) (hy : VwO w ad cap m) (hlen : l.length + m.length ≤ 10000000) (hbase : base ≤ w.heap.size)
    (h : ∀ v' w', OwO base w' v' (l ++ m) → w.grownBy w' v.ownBlock → (v'.ownBlock = v.ownBlock ∨ v'.ownBlock = some w.heap.size) → wpList Tryz.prog ops Q rest (a.put o.dst v') w') : wpList Tryz.prog ops Q (o :: rest) a w := by
  refine BigFrame.wpList_want hw fun K hK => ?_
  subst hmn
  obtain ⟨v', w', hr, h2, h3, h4⟩ := run_append_ops o.type hown hy hlen hbase
  unfold Oper.wp execOp
  simp only [ho, resolve, invoke, builtin, Sem.run_bind, Sem.run_pure, Result.andThen_ok, List.map_toArray, List.map_cons, List.map_nil, hs, hx, hr]
  exact hK _ _ (h v' w' h2 h3 h4)
end Go.Proofs.YtoiphglfngkoiaaGreatDoor.Cl
namespace Go.Proofs.YtoiphglfngkoiaaGreatDoor.Cl
set_option linter.unusedVariables false
open Go.RowKit Wd Rp Kp Ra Go.Shelf
theorem tw_wd (v : Value) (w : World) : (Instr.typeAssert (.iface 88 v) 86 88 true).run Tryz.prog w = .ok (.tuple #[v, .bool true]) w := by kernel_rfl
theorem tw_gv (v : Value) (w : World) : (Instr.typeAssert (.iface 89 v) 86 88 true).run Tryz.prog w = .ok (.tuple #[.int .i32 0, .bool false]) w := by kernel_rfl
theorem tw_nm (v : Value) (w : World) : (Instr.typeAssert (.iface 90 v) 86 88 true).run Tryz.prog w = .ok (.tuple #[.int .i32 0, .bool false]) w := by kernel_rfl
theorem tg_gv (v : Value) (w : World) : (Instr.typeAssert (.iface 89 v) 86 89 true).run Tryz.prog w = .ok (.tuple #[v, .bool true]) w := by kernel_rfl
theorem tg_nm (v : Value) (w : World) : (Instr.typeAssert (.iface 90 v) 86 89 true).run Tryz.prog w = .ok (.tuple #[.int .i64 0, .bool false]) w := by kernel_rfl
theorem tn_nm (v : Value) (w : World) : (Instr.typeAssert (.iface 90 v) 86 90 true).run Tryz.prog w = .ok (.tuple #[v, .bool true]) w := by kernel_rfl
theorem sgV_gv {s : Tk} (h : gvN s ≠ 0) : sgV s = .iface 89 (.int .i64 ((gvN s : Int) - 1)) := by unfold sgV; rw [if_pos h]
theorem sgV_nm {s : Tk} (h0 : opN s = 0) (h : gvN s = 0) (h2 : nmB s = true) : sgV s = .iface 90 (.string (tx s)) := by unfold sgV; rw [if_neg (by omega), if_neg (by omega), h2]; rfl
theorem sgV_wd {s : Tk} (h0 : opN s = 0) (h : gvN s = 0) (h2 : nmB s = false) (h3 : rdB s = true) : sgV s = .iface 88 (.int .i32 (rdV s)) := by unfold sgV; rw [if_neg (by omega), if_neg (by omega), h2, h3]; rfl
end Go.Proofs.YtoiphglfngkoiaaGreatDoor.Cl
namespace Go.Proofs.YtoiphglfngkoiaaGreatDoor.Cl
set_option linter.unusedVariables false
open Go.RowKit Wd Rp Kp Ra Go.Shelf
set_option maxHeartbeats 4000000 in
set_option maxRecDepth 100000 in
theorem growO_any (w : World) (k : Nat) (hk : k ≤ 4000) : Calls Tryz.prog 72 #[.slice none 0 0, .int .i64 (k : Int)] w fun e w' => ∃ v, e = .returned v ∧ OwO w.heap.size w' v [] ∧ Below w.heap.size w w' := by
  obtain ⟨i0, hi, hz0, hz1, hz2⟩ := info_parts infoO
  have hT : Tryz.prog.underlying 24 = some (.slice 34) := Tryz.underlying24
  by_cases h0 : 0 < k
  · have h1 := grownCap_ge w k 0 34
    have hcm : grownCap w k 0 34 ≤ maxLen := grownCap_le_maxLen w k 0 34 (by unfold maxLen; omega)
    have hrun := fun ty => Lib.run_append_nil_zeros (P := Tryz.prog) w 24 3 ty 34 i0 _ .i64 .i64 hT Tryz.underlying3 hi hz0 k h0 (by rw [hz1]; decide) (by omega) (by rw [hz2]; omega)
    have HOW := Lib.hid (show OwO w.heap.size (w.drew.alloc (.cells (Builtin.zeroCells (Value.agg #[.int .i64 0, .int .i64 0, .string ⟨#[]⟩]).cells k ++ Builtin.zeroCells (Value.agg #[.int .i64 0, .int .i64 0, .string ⟨#[]⟩]).cells (grownCap w k 0 34 - k)) 34)) (.slice (some ⟨w.heap.size, 0, none⟩) 0 (grownCap w k 0 34)) [] from
      ⟨rfl, .inr ⟨w.heap.size, grownCap w k 0 34, _, rfl, Nat.le_refl _, heap_alloc_new w.drew _, Nat.zero_le _, hcm, by
        simp only [Array.size_append, size_zeroCells]
        show k * 3 + (grownCap w k 0 34 - k) * 3 = _
        omega, rfl⟩⟩)
    have HBW := Lib.hid (show Below w.heap.size w (w.drew.alloc (.cells (Builtin.zeroCells (Value.agg #[.int .i64 0, .int .i64 0, .string ⟨#[]⟩]).cells k ++ Builtin.zeroCells (Value.agg #[.int .i64 0, .int .i64 0, .string ⟨#[]⟩]).cells (grownCap w k 0 34 - k)) 34)) from (Below.refl _ _).drew.alloc (Nat.le_refl _) _)
    generalize w.drew.alloc (.cells (Builtin.zeroCells (Value.agg #[.int .i64 0, .int .i64 0, .string ⟨#[]⟩]).cells k ++ Builtin.zeroCells (Value.agg #[.int .i64 0, .int .i64 0, .string ⟨#[]⟩]).cells (grownCap w k 0 34 - k)) 34) = w2 at *
    generalize grownCap w k 0 34 = gc at *
    generalize hq : w.heap.size = q at *
    have hr2 := (cut_toK 24 3 (by kernel_rfl) (fun w => by exact Tryz.sizeOf34 w) (some ⟨q, 0, none⟩) k gc 0 (Nat.zero_le _) h1)
    have hrn := (cut_toK 24 3 (by kernel_rfl) (fun w => by exact Tryz.sizeOf34 w) none 0 0 0 (Nat.le_refl _) (Nat.le_refl _))
    have i1 : ¬ (k : Int) < 0 := by omega
    have i2 : (0 : Int) < (k : Int) := by omega
    go_enter Tryz.func72, Tryz.ntmps72
    go_wp2_with (at_builtin; refine Lib.wpList_append_run _ rfl (.tmp 20) (.tmp 21) 24 3 rfl (.slice none 0 0) (.int .i64 (k : Int)) rfl rfl _ _ (hrun _) ?_)
    go_ret
    exact ⟨_, rfl, HOW.out, HBW.out⟩
  · obtain rfl : k = 0 := by omega
    go_enter Tryz.func72, Tryz.ntmps72
    go_wp2_with fail
    go_ret
    exact ⟨_, rfl, OwO.nothing _ _, Below.refl _ _⟩
structure PtO where
  a : Option Addr
  cap : Nat
  l : List Ov
def joinO (ps : List PtO) : List Ov := ps.flatMap (·.l)
def PartsO (w : World) (g : Nat) (ps : List PtO) : Prop := ∀ (i : Nat) (p : PtO), ps[i]? = some p → w.cell? ⟨g, i, none⟩ = some (.slice p.a p.l.length p.cap) ∧ VwO w p.a p.cap p.l
theorem PartsO.below {w w' : World} {g : Nat} {ps : List PtO} (h : PartsO w g ps) (hg : g < w.heap.size) (hb : Below w.heap.size w w') : PartsO w' g ps := fun i p hp => by
  obtain ⟨h1, h2⟩ := h i p hp
  exact ⟨(World.cell?_of_block (w := w) (hb.block g hg)).trans h1, h2.below hb⟩
theorem joinO_succ {ps : List PtO} {k : Nat} {p : PtO} (h : ps[k]? = some p) : joinO (ps.take (k + 1)) = joinO (ps.take k) ++ p.l := by
  unfold joinO
  rw [List.take_add_one, h, List.flatMap_append]; simp
theorem joinO_le (ps : List PtO) (k : Nat) : (joinO (ps.take k)).length ≤ (joinO ps).length := by
  unfold joinO
  conv => rhs; rw [← List.take_append_drop k ps]
  rw [List.flatMap_append, List.length_append]; omega
set_option maxHeartbeats 4000000 in
set_option maxRecDepth 100000 in
theorem concatO_any (w : World) (g m cap : Nat) (ps : List PtO) (hm : ps.length = m) (hg : g < w.heap.size) (hp : PartsO w g ps) (hl : (joinO ps).length ≤ 4000) (hmm : m ≤ 1000) :
    Calls Tryz.prog 61 #[.slice (some ⟨g, 0, none⟩) m cap] w fun e w' => ∃ v, e = .returned v ∧ OwO w.heap.size w' v (joinO ps) ∧ Below w.heap.size w w' := by
  have HP := Lib.hid hp; clear hp
  have HM := Lib.hid hm; clear hm
  have HLE := Lib.hid (joinO_le ps)
  go_enter Tryz.func61, Tryz.ntmps61
  go_wp2_with fail
  go_loopw [3, 11] (fun s i wr => ∃ k : Nat, k ≤ m ∧ i = .int .i64 k ∧ s = .int .i64 ((joinO (ps.take k)).length : Nat) ∧ Below w.heap.size w wr) (fun _ i _ => m - intV i)
  case atStart => exact ⟨0, Nat.zero_le _, rfl, rfl, Below.refl _ _⟩
  case round =>
    obtain ⟨k, hk, rfl, rfl, hbel0⟩ := hrel
    have HB0 := Lib.hid hbel0; clear hbel0
    have hle := HLE.out k
    by_cases hlt : k < m
    · obtain ⟨p, hpk⟩ : ∃ p, ps[k]? = some p := ⟨ps[k]'(by have := HM.out; omega), List.getElem?_eq_getElem _⟩
      obtain ⟨h1, -⟩ := HP.out.below hg HB0.out k p hpk
      have hle2 := HLE.out (k + 1)
      have HJ := Lib.hid (show (joinO (ps.take (k + 1))).length = (joinO (ps.take k)).length + p.l.length by rw [joinO_succ hpk, List.length_append])
      rw [HJ.out] at hle2
      generalize (joinO (ps.take k)).length = sz at *
      have i1 : ¬ ((sz : Int) + (p.l.length : Int)) < 0 := by omega
      clear hpk
      go_wp2_with fail
      go_roundw
      case rel => exact ⟨k + 1, by omega, by go_num, by rw [HJ.out]; congr 1, HB0.out⟩
      case measure => simp [intV]; omega
    · obtain rfl : k = m := by omega
      have HA := Lib.hid (show ps.take k = ps by rw [List.take_of_length_le (by rw [HM.out]; exact Nat.le_refl _)])
      rw [HA.out] at hle ⊢
      generalize hsz : (joinO ps).length = sz at *
      go_wp2_with fail
      refine (growO_any _ sz hl).mono ?_; rintro e w1 ⟨v, rfl, o1, b1⟩
      have O1 := Lib.hid (o1.mono HB0.out.size)
      have B1 := Lib.hid (bel_tr HB0.out b1 (Nat.le_refl _)); clear b1
      obtain ⟨v1a, v1c, e1, -⟩ := o1.view
      subst e1
      clear o1
      go_wp2_with fail
      go_loopw [6, 27] (fun x i wr2 => ∃ k2 : Nat, k2 ≤ k ∧ i = .int .i64 k2 ∧ OwO w.heap.size wr2 x (joinO (ps.take k2)) ∧ Below w.heap.size w wr2) (fun _ i _ => k - intV i)
      case atStart => exact ⟨0, Nat.zero_le _, rfl, by rw [List.take_zero]; exact O1.out, B1.out⟩
      case round =>
        obtain ⟨k2, hk2, rfl, hown, hbel⟩ := hrel
        have HO := Lib.hid hown
        have HB := Lib.hid hbel; clear hbel
        obtain ⟨v2a, v2c, e2, -⟩ := hown.view
        clear hown
        subst e2
        by_cases hlt2 : k2 < k
        · obtain ⟨p, hpk⟩ : ∃ p, ps[k2]? = some p := ⟨ps[k2]'(by have := HM.out; omega), List.getElem?_eq_getElem _⟩
          obtain ⟨h1, hv⟩ := HP.out.below hg HB.out k2 p hpk
          have HV := Lib.hid hv; clear hv
          have hle2 := HLE.out (k2 + 1)
          have HJ := Lib.hid (joinO_succ hpk)
          rw [HJ.out, List.length_append] at hle2
          have T1 : (joinO (ps.take k2)).length + p.l.length ≤ 10000000 := by omega
          generalize joinO (ps.take k2) = jl at *
          go_wp2_with (first
            | (at_builtin; refine append_ops rfl (.tmp 31) (.tmp 32) rfl (base := w.heap.size) (l := jl) (m := p.l) rfl rfl rfl HO.out HV.out T1 HB.out.size ?_; intro v5 w5 o5 g5 n5; clear n5))
          have O5 := Lib.hid o5
          have B5 := Lib.hid (HB.out.grown g5 HB.out.size (fun j hj => OwO.lt HO.out j hj)); clear o5 g5
          go_wp2_with fail
          go_roundw
          case rel => exact ⟨k2 + 1, by omega, by go_num, by rw [HJ.out]; exact O5.out, B5.out⟩
          case measure => simp [intV]; omega
        · obtain rfl : k2 = k := by omega
          rw [HA.out] at HO ⊢
          go_wp2_with fail
          go_ret
          exact ⟨_, rfl, HO.out, HB.out⟩
theorem cell_newO (w : World) (cs : Array Value) (T : TypeId) (i : Nat) (v : Value) (h : cs[i]? = some v) : (w.alloc (.cells cs T)).cell? ⟨w.heap.size, i, none⟩ = some v := by
  simp only [World.cell?, new_of]
  exact h
set_option maxHeartbeats 4000000 in
set_option maxRecDepth 100000 in
theorem code_any (o : Nat) (x y : List Ov) (a b : Option Addr) (ca cb : Nat) (w : World) (hx : VwO w a ca x) (hy : VwO w b cb y) (hl : x.length + y.length + 1 ≤ 4000) :
    Calls Tryz.prog 49 #[.int .i64 o, .slice a x.length ca, .slice b y.length cb] w fun e w' => ∃ v, e = .returned v ∧ OwO w.heap.size w' v (cdG o x y) ∧ Below w.heap.size w w' := by
  have b1 := bel1 w (.cells #[.int .i64 4, .int .i64 (o : Int), .string ⟨#[]⟩] 34)
  have l1 := VwO.lit w ⟨4, (o : Int), noN⟩
  rw [show (.cells #[.int .i64 (Ov.mk 4 (o : Int) noN).k, .int .i64 (Ov.mk 4 (o : Int) noN).n, .string (tx (Ov.mk 4 (o : Int) noN).m)] 34 : Obj) = .cells #[.int .i64 4, .int .i64 (o : Int), .string ⟨#[]⟩] 34 from rfl] at l1
  have H1 := Lib.hid b1
  have X1 := Lib.hid (hx.below b1)
  have Y1 := Lib.hid (hy.below b1)
  have L1 := Lib.hid l1
  have s1 : (w.alloc (.cells #[.int .i64 4, .int .i64 (o : Int), .string ⟨#[]⟩] 34)).heap.size = w.heap.size + 1 := by simp
  clear b1 l1 hx hy
  have HE := Lib.hid (show cdG o x y = (x ++ y) ++ [⟨4, (o : Int), noN⟩] from rfl)
  go_enter Tryz.func49, Tryz.ntmps49
  go_wp2_with fail
  generalize w.alloc (.cells #[.int .i64 4, .int .i64 (o : Int), .string ⟨#[]⟩] 34) = w1 at *
  generalize hq : w.heap.size = q at *
  have b2 := bel1 w1 (.cells #[.slice a x.length ca, .slice b y.length cb, .slice (some ⟨q, 0, none⟩) 1 1] 24)
  have B2 := Lib.hid (bel_tr H1.out (by rw [← s1] at *; exact b2) (by omega))
  have HC := Lib.hid (concatO_any (w1.alloc (.cells #[.slice a x.length ca, .slice b y.length cb, .slice (some ⟨q, 0, none⟩) 1 1] 24)) w1.heap.size 3 3 [⟨a, ca, x⟩, ⟨b, cb, y⟩, ⟨some ⟨q, 0, none⟩, 1, [⟨4, (o : Int), noN⟩]⟩] rfl (by simp) (fun i p hp => by
    match i, hp with
    | 0, hp => simp at hp; subst hp; exact ⟨cell_newO _ _ _ _ _ rfl, X1.out.below b2⟩
    | 1, hp => simp at hp; subst hp; exact ⟨cell_newO _ _ _ _ _ rfl, Y1.out.below b2⟩
    | 2, hp => simp at hp; subst hp; exact ⟨cell_newO _ _ _ _ _ rfl, L1.out.below b2⟩) (by simp [joinO]; omega) (by decide))
  rw [show joinO [⟨a, ca, x⟩, ⟨b, cb, y⟩, ⟨some ⟨q, 0, none⟩, 1, [⟨4, (o : Int), noN⟩]⟩] = cdG o x y by rw [HE.out]; simp [joinO]] at HC
  rw [s1] at HC
  refine HC.out.mono ?_; rintro e w3 ⟨v, rfl, o3, b3⟩
  obtain ⟨va, vc, rfl, -⟩ := o3.view
  have O3 := Lib.hid (o3.mono (by rw [World.size_alloc, s1]; omega : q ≤ _))
  have B3 := Lib.hid (bel_tr B2.out b3 (Nat.le_of_eq hq.symm))
  clear o3 b3 b2
  go_wp2_with fail
  refine bodyPost_ret (v := .slice va (cdG o x y).length vc) (by simp [results, Tryz.results49, go_sem]) rfl (by rw [hq]; exact ⟨_, rfl, O3.out, B3.out⟩)
set_option maxHeartbeats 4000000 in
set_option maxRecDepth 100000 in
theorem oneCode_any (s : Tk) (hs : isL s = true) (w : World) :
    Calls Tryz.prog 48 #[sgV s] w fun e w' => ∃ v, e = .returned v ∧ OwO w.heap.size w' v (cdF s) ∧ Below w.heap.size w w' := by
  have h0 := isL_0 hs
  by_cases hgv : gvN s = 0
  · cases hnm : nmB s
    · have hrd : rdB s = true := by
        cases e : rdB s with
        | true => rfl
        | false => rw [isL_nm hs hgv e] at hnm; cases hnm
      have HE := Lib.hid (show cdF s = [⟨1, rdV s, noN⟩] by unfold cdF; rw [if_neg (by omega), hnm]; rfl)
      obtain ⟨r0, r1⟩ := (isW_iff _).1 (rd_word hrd)
      rw [sgV_wd h0 hgv hnm hrd]
      have t1 := tw_wd (.int .i32 (rdV s))
      have HL := Lib.hid (OwO.lit (B := w.heap.size) (w := w) (Nat.le_refl _) ⟨1, rdV s, noN⟩)
      have HB := Lib.hid (bel1 w (.cells #[.int .i64 1, .int .i64 (rdV s), .string ⟨#[]⟩] 34))
      clear hs h0 hgv hnm hrd
      generalize cdF s = cd at *
      generalize rdV s = rv at *
      go_enter Tryz.func48, Tryz.ntmps48
      go_wp2_with fail
      go_ret
      exact ⟨_, rfl, by rw [HE.out]; exact HL.out, HB.out⟩
    · have HE := Lib.hid (show cdF s = [⟨3, 0, s⟩] by unfold cdF; rw [if_neg (by omega), if_pos hnm])
      rw [sgV_nm h0 hgv hnm]
      have t1 := tw_nm (.string (tx s))
      have t2 := tg_nm (.string (tx s))
      have t3 := tn_nm (.string (tx s))
      have HL := Lib.hid (OwO.lit (B := w.heap.size) (w := w) (Nat.le_refl _) ⟨3, 0, s⟩)
      have HB := Lib.hid (bel1 w (.cells #[.int .i64 3, .int .i64 0, .string (tx s)] 34))
      clear hs h0 hgv hnm
      generalize cdF s = cd at *
      go_enter Tryz.func48, Tryz.ntmps48
      go_wp2_with fail
      go_ret
      exact ⟨_, rfl, by rw [HE.out]; exact HL.out, HB.out⟩
  · have HE := Lib.hid (show cdF s = [⟨2, (gvN s : Int) - 1, noN⟩] by unfold cdF; rw [if_pos hgv])
    rw [sgV_gv hgv]
    generalize (gvN s : Int) - 1 = j at *
    have t1 := tw_gv (.int .i64 j)
    have t2 := tg_gv (.int .i64 j)
    have HL := Lib.hid (OwO.lit (B := w.heap.size) (w := w) (Nat.le_refl _) ⟨2, j, noN⟩)
    have HB := Lib.hid (bel1 w (.cells #[.int .i64 2, .int .i64 j, .string ⟨#[]⟩] 34))
    clear hs h0 hgv
    generalize cdF s = cd at *
    go_enter Tryz.func48, Tryz.ntmps48
    go_wp2_with fail
    go_ret
    exact ⟨_, rfl, by rw [HE.out]; exact HL.out, HB.out⟩
end Go.Proofs.YtoiphglfngkoiaaGreatDoor.Cl
namespace Go.Proofs.YtoiphglfngkoiaaGreatDoor.Cl
set_option linter.unusedVariables false
open Go.RowKit Wd Rp Kp Ra Go.Shelf
attribute [local go_sem] Oper.semAt_some
def csV (v : Value) : List Value := [v]
theorem csV_all : ∀ l : List Value, l.flatMap csV = l
  | [] => rfl
  | v :: l => by rw [List.flatMap_cons, csV_all l]; rfl
theorem infoOpsP : (Tryz.prog.info? 24).map (fun i => (i.zero, i.size, i.bytes)) = some (some (.slice none 0 0), 1, 24) := by kernel_rfl
theorem topV {w : World} {B g k cap : Nat} {T : TypeId} {r : List Value} {a b : Value} (h : w.ownsRow B T 1 (.slice (some ⟨g, 0, none⟩) (k + 1 + 1) cap) (k + 1 + 1) ((r ++ [b, a]).flatMap csV)) (hk : r.length = k) :
    w.cell? ⟨g, k + 1, none⟩ = some a ∧ w.cell? ⟨g, k, none⟩ = some b ∧ w.frozen? ⟨g, k, none⟩ = false := by
  rw [csV_all] at h
  refine ⟨?_, ?_, World.ownsRow.frozenAt h k⟩
  · rw [World.ownsRow.cellAt h (k + 1) (by omega), List.getElem?_append_right (by omega), show k + 1 - r.length = 1 by omega]; rfl
  · rw [World.ownsRow.cellAt h k (by omega), List.getElem?_append_right (by omega), show k - r.length = 0 by omega]; rfl
theorem putV {k : Nat} {r : List Value} {a b x : Value} (hk : r.length = k) : (r ++ [x]).flatMap csV = (((r ++ [b, a]).flatMap csV).set k x).take ((k + 1) * 1) := by
  subst hk
  rw [csV_all, csV_all, Nat.mul_one, List.set_append_right _ _ (Nat.le_refl _), Nat.sub_self, List.take_length_add_append]; rfl
def EO (n0 : Nat) (W : World) (vs : List Value) (xs : List (List Ov)) : Prop := vs.length = xs.length ∧ ∀ (k : Nat) (x : List Ov), xs[k]? = some x → ∃ v, vs[k]? = some v ∧ OwO n0 W v x
theorem row_type {w : World} {B k n q : Nat} {T : TypeId} {v : Value} {xs : List Value} (h : w.ownsRow B T k v n xs) (hk : v.ownBlock = some q) : ∃ cs s, w.heap[q]? = some (.cells cs T s) := by
  rcases h.2 with ⟨rfl, -⟩ | ⟨g, cap, cur, rfl, -, hg, -⟩
  · cases hk
  · cases hk
    exact ⟨_, _, hg⟩
theorem EO.map {n0 : Nat} {W W' : World} {vs : List Value} {xs : List (List Ov)} (h : EO n0 W vs xs) (f : ∀ v x, OwO n0 W v x → OwO n0 W' v x) : EO n0 W' vs xs := ⟨h.1, fun k x hx => by obtain ⟨v, h1, h2⟩ := h.2 k x hx; exact ⟨v, h1, f v x h2⟩⟩
theorem EO.below {n0 : Nat} {W W' : World} {vs : List Value} {xs : List (List Ov)} (h : EO n0 W vs xs) (hb : Below W.heap.size W W') (_ : n0 ≤ W.heap.size) : EO n0 W' vs xs := h.map fun v x o => o.next hb
theorem EO.row {n0 : Nat} {W W' : World} {row : Option Nat} {vs : List Value} {xs : List (List Ov)} (h : EO n0 W vs xs) (hg : W.grownBy W' row) (hr : ∀ k, row = some k → n0 ≤ k ∧ ∃ o, W.heap[k]? = some o ∧ o.isCells = false) : EO n0 W' vs xs :=
  h.map fun v x o => o.grown hg fun k hk e => by
    obtain ⟨-, ob, h1, h2⟩ := hr k e
    rw [cells_of_row o hk ob h1] at h2; cases h2
theorem EO.grow {n0 M : Nat} {W W' : World} {row : Option Nat} {vs : List Value} {xs : List (List Ov)} {nv : Value} (h : EO n0 W vs xs) (hg : W.grownBy W' row) (_ : n0 ≤ W.heap.size) (hr : ∀ k, row = some k → n0 ≤ k ∧ ∃ cs s, W.heap[k]? = some (.cells cs 24 s)) (hM : M < n0) : EO n0 (W'.setCell ⟨M, 0, none⟩ nv) vs xs :=
  h.map fun v x o => by
    have o2 := o.grown hg fun k hk e => by
      obtain ⟨-, cs, s, h1⟩ := hr k e
      obtain ⟨cs2, s2, h2⟩ := row_type o hk
      rw [h1] at h2
      cases h2
    exact row_next o2 fun g hgb _ => Below.heap_setCell _ _ _ _ (fun e => by have := OwO.lt o2 g hgb; have e' : g = M := e; omega)
theorem EO.snoc {n0 : Nat} {W : World} {vs : List Value} {xs : List (List Ov)} {v : Value} {x : List Ov} (h : EO n0 W vs xs) (hv : OwO n0 W v x) : EO n0 W (vs ++ [v]) (xs ++ [x]) := by
  refine ⟨by simp [h.1], fun k y hy => ?_⟩
  rcases Nat.lt_or_ge k xs.length with hk | hk
  · rw [List.getElem?_append_left hk] at hy
    obtain ⟨u, h1, h2⟩ := h.2 k y hy
    exact ⟨u, by rw [List.getElem?_append_left (by have := h.1; omega)]; exact h1, h2⟩
  · rw [List.getElem?_append_right hk] at hy
    obtain ⟨rfl, rfl⟩ : k = xs.length ∧ y = x := by
      have h0 := (List.getElem?_eq_some_iff.1 hy).1
      simp at h0
      have e : k - xs.length = 0 := by omega
      rw [e] at hy
      simp at hy
      exact ⟨by omega, hy.symm⟩
    exact ⟨v, by rw [List.getElem?_append_right (by have := h.1; omega), ← h.1]; simp, hv⟩
theorem EO.two {n0 : Nat} {W : World} {vs : List Value} {r : List (List Ov)} {b a : List Ov} (h : EO n0 W vs (r ++ [b, a])) : ∃ rs ub ua, vs = rs ++ [ub, ua] ∧ EO n0 W rs r ∧ OwO n0 W ub b ∧ OwO n0 W ua a := by
  obtain ⟨h1, h2⟩ := h
  simp at h1
  obtain ⟨ub, e1, o1⟩ := h2 r.length b (by simp)
  obtain ⟨ua, e2, o2⟩ := h2 (r.length + 1) a (by simp)
  refine ⟨vs.take r.length, ub, ua, ?_, ⟨by rw [List.length_take]; omega, fun k x hx => ?_⟩, o1, o2⟩
  · apply List.ext_getElem? 
    intro i
    rcases Nat.lt_or_ge i r.length with hi | hi
    · rw [List.getElem?_append_left (by rw [List.length_take]; omega), List.getElem?_take_of_lt hi]
    · rw [List.getElem?_append_right (by rw [List.length_take]; omega), List.length_take, Nat.min_eq_left (by omega)]
      by_cases e : i = r.length
      · subst e; rw [e1]; simp
      · by_cases e' : i = r.length + 1
        · subst e'; rw [e2]; simp
        · rw [List.getElem?_eq_none (by omega), List.getElem?_eq_none (by simp; omega)]
  · have hk := (List.getElem?_eq_some_iff.1 hx).1
    obtain ⟨v, h3, h4⟩ := h2 k x (by rw [List.getElem?_append_left hk]; exact hx)
    exact ⟨v, by rw [List.getElem?_take_of_lt hk]; exact h3, h4⟩
theorem EO.one {n0 : Nat} {W : World} {vs : List Value} {r : List Ov} (h : EO n0 W vs [r]) : ∃ u, vs = [u] ∧ OwO n0 W u r := by
  obtain ⟨h1, h2⟩ := h
  obtain ⟨u, e1, o1⟩ := h2 0 r rfl
  match vs, h1 with
  | [x], _ => simp at e1; subst e1; exact ⟨_, rfl, o1⟩
theorem OwO.put {n0 B D : Nat} {W : World} {v : Value} {l : List Ov} (h : OwO n0 W v l) (hB : B ≤ n0) (hD : ∀ g, v.ownBlock = some g → g ≠ D) {o : Obj} : OwO B (W.putObj D o) v l := (row_next h fun g hg _ => World.putObj_heap_other (hD g hg) : OwO n0 (W.putObj D o) v l).mono hB
def FldO (P : Nat → List (List Ov)) (q M n0 : Nat) (F1 F2 : Value) (w W0 : World) (s : List (Array Value) × Option Nat) (W : World) : Prop := ∃ vs, Fld 24 1 csV (fun _ => vs) q M n0 F1 F2 w W0 s W ∧ EO n0 W vs (P s.1.length)
theorem fl_endO {P : Nat → List (List Ov)} {vs2 : List Value} {q M n0 : Nat} {F1 F2 : Value} {w W0 W w5 w8 : World} {pre : List (Array Value)} {x : Array Value} {sv nv : Value} {gg : Option Nat} {n m : Nat} {xs ys : List Value} (a : Act)
    (hb : Below W.heap.size W w5) (hs1 : n0 ≤ W.heap.size) (ho : Bq M sv W) (hr : W.ownsRow n0 24 1 sv n xs) (hg : sv.ownBlock = gg) (hw : Below q w W) (hc0 : W.cell? ⟨q, 0, none⟩ = some F1) (hc1 : W.cell? ⟨q + 1, 0, none⟩ = some F2) (hsm : ∀ k, k < n0 → k ≠ M → W.heap[k]? = W0.heap[k]?) (hM : M < n0) (hqM : q + 1 < M)
    (h8 : w8.ownsRow n0 24 1 nv m ys) (g8 : w5.grownBy w8 sv.ownBlock) (n8 : nv.ownBlock = sv.ownBlock ∨ nv.ownBlock = some w5.heap.size) (hm : vs2.length = m) (hys : vs2.flatMap csV = ys) (he : EO n0 (w8.setCell ⟨M, 0, none⟩ nv) vs2 (P (pre ++ [x]).length)) :
    Rounds2 n0 (fun k => k = M) (FldO P q M n0 F1 F2 w W0) (fun _ _ _ => False) (pre ++ [x]) gg W .normal a (w8.setCell ⟨M, 0, none⟩ nv) := by
  obtain ⟨k1, k2, g', n', i⟩ := fl_end (P := fun _ => vs2) (x := x) (pre := pre) a hb hs1 ho hr hg hw hc0 hc1 hsm hM hqM h8 g8 n8 hm hys
  exact ⟨k1, k2, g', n', vs2, i, he⟩
set_option maxHeartbeats 8000000 in
set_option maxRecDepth 100000 in
theorem foldedOps_any (f : Tk → (List Ov)) (g : Nat → (List Ov) → (List Ov) → (List Ov)) (w : World) (a : Option Addr) (cap n : Nat) (t : List Tk) (hn : t.length = n) (hv : V1 w a cap (txL t)) (hl : n ≤ 4194304) (hm : ∀ s ∈ t, s.length ≤ 4194304) (hL : Lib3 w) (hen : en t 1 = some t.length)
    (f1 f2 : Nat) (lb1 : Array Value) (he1 : ∀ args z, (callFunc f1 args).run Tryz.prog z = .ok (.enter f1 args) z) (he2 : ∀ args z, (callFunc f2 args).run Tryz.prog z = .ok (.enter f2 args) z)
    (hone : ∀ (s : Tk) (W : World), s ∈ t → isL s = true → Below w.heap.size w W → Calls Tryz.prog f1 (#[sgV s] ++ lb1) W fun e w' => ∃ v, e = .returned v ∧ OwO W.heap.size w' v (f s) ∧ Below W.heap.size W w')
    (hbd : ∀ j, ∀ x y z, plP f g t j = z ++ [y, x] → x.length + y.length + 1 ≤ 4000)
    (htwo : ∀ (o : Nat) (x y : List Ov) (ax ay : Option Addr) (cx cy : Nat) (W : World), 1 ≤ o → o ≤ 7 → VwO W ax cx x → VwO W ay cy y → x.length + y.length + 1 ≤ 4000 → Calls Tryz.prog f2 #[.int .i64 o, .slice ax x.length cx, .slice ay y.length cy] W fun e w' => ∃ v, e = .returned v ∧ OwO W.heap.size w' v (g o x y) ∧ Below W.heap.size W w') :
    Calls Tryz.prog 47 #[.slice a n cap, .func (.func f1) #[] lb1, .func (.func f2) #[] #[]] w fun e w' => ∃ r v, stk f g t = [r] ∧ e = .returned v ∧ OwO w.heap.size w' v r ∧ Below w.heap.size w w' := by
  have HN := Lib.hid hn
  have HV := Lib.hid hv
  have HM := Lib.hid hm
  have HL := Lib.hid hL
  have HEN := Lib.hid hen
  have HONE := Lib.hid hone
  have HTWO := Lib.hid htwo
  have HBD := Lib.hid hbd
  have hn1 : 1 ≤ n := by have := en_pos hen; omega
  clear hv hm hL hen hone htwo hbd
  obtain ⟨i0, hi, hz0, hz1, hz2⟩ := info_parts infoOpsP
  obtain ⟨c00, hc00⟩ : ∃ c, t[0]? = some c := ⟨t[0]'(by omega), List.getElem?_eq_getElem _⟩
  obtain ⟨ga, go, rfl, hga, -⟩ := HV.out.tx hc00
  clear hc00
  have qn0 : ((n : Int) == 0) = false := by rw [beq_eq_false_iff_ne]; omega
  generalize hq : w.heap.size = q at *
  generalize hF1 : Value.func (Fn.func f1) #[] lb1 = F1
  generalize hF2 : Value.func (Fn.func f2) #[] #[] = F2
  have H0 := Lib.hid (bel3 w (.cells #[F1] 72) (.cells #[F2] 73) (.cells #[.slice none 0 0] 82))
  have hz3 : (((w.alloc (.cells #[F1] 72)).alloc (.cells #[F2] 73)).alloc (.cells #[.slice none 0 0] 82)).heap.size = q + 3 := by simp [hq]
  have hb3 : (((w.alloc (.cells #[F1] 72)).alloc (.cells #[F2] 73)).alloc (.cells #[.slice none 0 0] 82)).heap[q]? = some (.cells #[F1] 72 (0, 0)) ∧
      (((w.alloc (.cells #[F1] 72)).alloc (.cells #[F2] 73)).alloc (.cells #[.slice none 0 0] 82)).heap[q + 1]? = some (.cells #[F2] 73 (0, 0)) ∧
      (((w.alloc (.cells #[F1] 72)).alloc (.cells #[F2] 73)).alloc (.cells #[.slice none 0 0] 82)).heap[q + 1 + 1]? = some (.cells #[.slice none 0 0] 82 (0, 0)) := by
    subst hq
    have e0 := new_of w (.cells #[F1] 72)
    have e1 := new_of (w.alloc (.cells #[F1] 72)) (.cells #[F2] 73)
    have e2 := new_of ((w.alloc (.cells #[F1] 72)).alloc (.cells #[F2] 73)) (.cells #[.slice none 0 0] 82)
    have b1 := bel1 (w.alloc (.cells #[F1] 72)) (.cells #[F2] 73)
    have b2 := bel1 ((w.alloc (.cells #[F1] 72)).alloc (.cells #[F2] 73)) (.cells #[.slice none 0 0] 82)
    simp only [World.size_alloc] at e1 e2 b1 b2
    exact ⟨((b2.block _ (by omega)).trans ((b1.block _ (by omega)).trans e0)), ((b2.block _ (by omega)).trans e1), e2⟩
  have HB3 := Lib.hid hb3; clear hb3
  rw [hq] at H0
  generalize hw3 : (((w.alloc (.cells #[F1] 72)).alloc (.cells #[F2] 73)).alloc (.cells #[.slice none 0 0] 82)) = w3 at *
  have hb4 := bel1 w3 (.cells #[.slice (some ⟨ga, go, none⟩) n cap] 22)
  have hz4 : (w3.alloc (.cells #[.slice (some ⟨ga, go, none⟩) n cap] 22)).heap.size = q + 3 + 1 := by simp [hz3]
  have HX4 := Lib.hid (new_of w3 (.cells #[.slice (some ⟨ga, go, none⟩) n cap] 22))
  generalize hw4 : w3.alloc (.cells #[.slice (some ⟨ga, go, none⟩) n cap] 22) = w4 at *
  rw [hz3] at hb4 HX4
  have B4 := Lib.hid (H0.out.trans (hb4.mono (by omega)))
  obtain ⟨x0, x1, x2⟩ := HB3.out
  have C0 := Lib.hid ((Bq.of x0).same (hb4.block _ (by omega))).1
  have C1 := Lib.hid ((Bq.of x1).same (hb4.block _ (by omega))).1
  have XM := Lib.hid ((Bq.of x2).same (hb4.block _ (by omega)))
  have HHA := Lib.hid (backward1_hands (fun k => k = q + 1 + 1) w4.heap.size (q + 3) (some ⟨ga, go, none⟩) cap n t HN.out hl w4 (by omega) (Nat.le_refl _) (Bq.of HX4.out).1 (fun k c hk => by
      obtain ⟨g', o', e, hg, hc⟩ := HV.out.tx hk
      exact ⟨g', o', e, by omega, (World.cell?_of_block (w := w) (B4.out.block g' (by rw [hq] at hg; exact hg))).trans hc⟩) (fun g' o' e _ e2 => by cases e; omega) (by omega) (by omega))
  clear x0 x1 x2 HB3 H0 HX4 hb4
  have HWE := Lib.hid (show w3.alloc (.cells #[.slice (some ⟨ga, go, none⟩) n cap] 22) = w4 from hw4)
  have HBK := Lib.hid (backward_any (some ⟨ga, go, none⟩) n cap w3)
  rw [HWE.out, hz3] at HBK
  refine (callsIn_wide (n := 9)).1 (callsIn_of_wp_marks Tryz.func47 rfl trivial ?_ rfl)
  simp only [Tryz.ntmps47, List.size_toArray, List.length_cons, List.length_nil, Nat.reduceAdd, Nat.reduceSub, Array.replicate_succ, Array.replicate_zero, List.push_toArray, List.append_toArray, List.nil_append, List.cons_append]
  gi_wp2_with fail
  rw [hw3]
  refine ⟨trivial, (callsIn_wide.2 HBK.out).mono ?_⟩
  rintro e w5 ⟨rfl, rfl⟩
  clear hw3 hw4 HWE HBK
  gi_wp2_with fail
  refine loop_hands22 20 21 10 rfl (enters_of Tryz.func69 (by kernel_rfl) rfl) (bkL_two t) HHA.out (Below.refl _ _) (fun k hk => by have : k = q + 1 + 1 := hk; omega) (FldO (plP f g t) q (q + 1 + 1) w5.heap.size F1 F2 w w5) (fun _ _ _ => False) ?_ ?_ ?_ ?_ ?_ ?_ ?_
  · rintro s W W' row ⟨pv, ⟨h1, sv, ho, hr, hg, hb, hc0, hc1, hsm⟩, heo⟩ hgr hrow
    have hbb : Below w5.heap.size W W' := (Below.refl _ W).grown hgr h1 (fun k e => (hrow k e).1)
    refine ⟨pv, ⟨Nat.le_trans h1 hgr.size, sv, ho.same (hbb.block _ (by omega)), row_next hr fun k hk hlt => hgr.block k hlt (fun e => ?_), hg, hb.trans (hbb.mono (by omega)), (World.cell?_of_block (w := W) (hbb.block q (by omega))).trans hc0, (World.cell?_of_block (w := W) (hbb.block (q + 1) (by omega))).trans hc1, fun k hk hne => (hbb.block k hk).trans (hsm k hk hne)⟩, heo.row hgr hrow⟩
    obtain ⟨-, o, ho2, hc⟩ := hrow k e.symm
    rw [cells_of_row hr hk o ho2] at hc; cases hc
  · exact fun k => fun _ _ _ _ h _ _ => h
  · exact ⟨[], ⟨Nat.le_refl _, .slice none 0 0, XM.out, World.ownsRow_nil w5 _ _ _, rfl, B4.out, C0.out, C1.out, fun _ _ _ => rfl⟩, by show EO w5.heap.size w5 [] (plP f g t 0); rw [plP_zero]; exact ⟨rfl, fun k x h => by cases h⟩⟩
  · intro l m x y W K hK
    simp only [List.setIfInBounds_toArray, List.set_cons_zero, List.set_cons_succ] at hK ⊢
    gi_wp2
    exact hK
  · rintro l2 m pre x y gg W hpre hsz1 ⟨pv, ⟨hs1, sv, ho, hr, hg, hb, hc0, hc1, hsm⟩, heo⟩
    obtain ⟨hj, hxy⟩ := pre_bk hpre
    replace hg : sv.ownBlock = gg := hg
    replace hr : W.ownsRow w5.heap.size 24 1 sv pv.length (pv.flatMap csV) := hr
    replace heo : EO w5.heap.size W pv (plP f g t pre.length) := heo
    have pre_len : (pre ++ [#[x, y]]).length = pre.length + 1 := by simp
    have HVS := Lib.hid heo.1
    simp only [List.setIfInBounds_toArray, List.set_cons_zero, List.set_cons_succ]
    obtain ⟨c, hc⟩ : ∃ c, t[t.length - 1 - pre.length]? = some c := ⟨t[t.length - 1 - pre.length]'(by omega), List.getElem?_eq_getElem _⟩
    obtain rfl : y = .string (tx c) := by
      unfold bkI at hxy
      rw [List.getD_eq_getElem?_getD, hc] at hxy
      have := congrArg (fun z : Array Value => z[1]?) hxy
      simpa [tv] using this
    have hcm := List.mem_of_getElem? hc
    have HS := Lib.hid (signOf_any c W (HL.out.carry hb (by rw [← hq]; exact ⟨HL.out.2.2.2.1, HL.out.2.2.2.2.1, HL.out.2.2.2.2.2⟩)) (HM.out c hcm))
    have HPL := Lib.hid (plP_len f g t pre.length)
    have HO := Lib.hid ho
    have HR := Lib.hid hr
    have HB := Lib.hid hb
    have HG := Lib.hid hg
    have HC0 := Lib.hid hc0
    have HC1 := Lib.hid hc1
    have HSM := Lib.hid hsm; clear hsm
    have HBD1 := Lib.hid (HBD.out pre.length)
    clear ho hr hb hg hc0 hc1 hxy
    cases hio : isO c
    · have hil := ((stk_two f g HEN.out).2 _ c hc).2 hio
      obtain ⟨Ts, vs, hsv, hta⟩ := sgV_leaf hil
      have HF := Lib.hid (fun W' (hW : Below q w W') => HONE.out c W' hcm hil hW)
      rw [hsv] at HS HF
      have HP1 := Lib.hid (plP_leaf f g hj hc hio)
      have HGI := Lib.hid (And.intro hj hc)
      have HEO := Lib.hid heo; clear heo
      clear hsv hil hio hcm hc
      generalize plP f g t pre.length = pl at *
      generalize tx c = xs at *
      gi_wp2_with fail
      refine ⟨trivial, (fun h => by cases h), (CallsIn.inRound l2 (callsIn_wide.2 HS.out)).mono ?_⟩
      rintro e w6 ⟨rfl, b6⟩
      have B6 := Lib.hid b6; clear b6
      gi_wp2_with fail
      subst hF1
      have O6 := Lib.hid (HO.out.same (B6.out.block (q + 1 + 1) (by omega)))
      have R6 := Lib.hid (row_next HR.out fun g _ hlt => B6.out.block g hlt)
      have z6 := B6.out.size
      have D6 := Lib.hid (bel_drewN B6.out 1)
      have hf6 := HF.out w6.drew (HB.out.trans (D6.out.mono (by omega)))
      have HF6 := Lib.hid hf6; clear hf6
      have HS6 := Lib.hid (show w6.drew.cell? ⟨q, 0, none⟩ = some (.func (.func f1) #[] lb1) from (World.cell?_of_block (w := W) (B6.out.block q (by omega))).trans HC0.out)
      refine wpIn_region_held (S := fun z => z.cell? ⟨q, 0, none⟩ = some (.func (.func f1) #[] lb1)) (by kernel_rfl) (defers_none (by kernel_rfl)) (fun _ _ h => h) HS6.out (fun hHeld => ?_)
      refine wpAnyH_take (i := 1) (v := ?v1t) rfl (by kernel_rfl) (by kernel_rfl) (by kernel_rfl) (fun _ _ _ h => h) (Or.inl ⟨by rfl, ?hy1t⟩) (by assumption) ?rest1t
      case hy1t => (intro zz hSw; (try dsimp only at hSw); go_simp; (try with_reducible rfl))
      change wpAnyH _ _ _ _ _ _ _ (Act.put _ (some 25) _) _
      simp only [Act.put, List.setIfInBounds_toArray, List.set_cons_zero, List.set_cons_succ]
      refine wpAnyH_take (i := 2) (v := ?v2t) rfl (by kernel_rfl) (by kernel_rfl) (by kernel_rfl) (fun _ _ _ h => h) (Or.inl ⟨by rfl, ?hy2t⟩) (by assumption) ?rest2t
      case hy2t => (intro zz hSw; (try dsimp only at hSw); go_simp; (try with_reducible rfl))
      change wpAnyH _ _ _ _ _ _ _ (Act.put _ (some 26) _) _
      simp only [Act.put, List.setIfInBounds_toArray, List.set_cons_zero, List.set_cons_succ]
      refine wpAnyH_ready (rs := [0, 3]) (by kernel_rfl) (by simp) (AllReadyH.cons rfl (fun K hK => ?_) (AllReadyH.cons rfl (fun K hK => ?_) (AllReadyH.nil)))
      · skip
        obtain ⟨lo, -, -⟩ := O6.out.drew
        go_simp
        refine hK.out _ _ hHeld (fun hHeld => ?_)
        clear hK K lo
        refine wpAnyH_ready (rs := [3]) (by kernel_rfl) (by simp) (AllReadyH.cons rfl (fun K hK => ?_) (AllReadyH.nil))
        go_simp
        refine HF6.out.mono ?_; rintro e w7 ⟨u7, rfl, o7, b7⟩
        obtain ⟨u7a, u7c, eu7, -⟩ := o7.view
        subst eu7
        have U7 := Lib.hid o7; clear o7
        have B7 := Lib.hid (bel_tr D6.out b7 (Nat.le_refl _))
        have z7 : w6.heap.size ≤ w7.heap.size := b7.size
        have O7 := Lib.hid (O6.out.drew.next b7)
        have R7 := Lib.hid (row_next R6.out fun g _ hlt => b7.block g hlt)
        have HS7 := Lib.hid ((World.cell?_of_block (w := w6.drew) (b7.block q (show q < w6.heap.size by omega))).trans HS6.out)
        have B8 := Lib.hid (bel_tr B7.out (bel1 w7 (.cells #[.slice u7a (f c).length u7c] 24)) (Nat.le_refl _))
        have O8 := Lib.hid (O7.out.next (bel1 w7 (.cells #[.slice u7a (f c).length u7c] 24)))
        have R8 := Lib.hid (row_next R7.out fun g _ hlt => (bel1 w7 (.cells #[.slice u7a (f c).length u7c] 24)).block g hlt)
        have N8 := Lib.hid (new_of w7 (.cells #[.slice u7a (f c).length u7c] 24))
        have HS8 := Lib.hid ((World.cell?_of_block (w := w7) ((bel1 w7 (.cells #[.slice u7a (f c).length u7c] 24)).block q (show q < w7.heap.size by omega))).trans HS7.out)
        clear b7
        refine hK.out _ _ HS7.out (fun hHeld => ?_)
        clear hK K
        refine wpAnyH_ready (rs := [4]) (by kernel_rfl) (by simp) (AllReadyH.cons rfl (fun K hK => ?_) (AllReadyH.nil))
        go_simp
        refine hK.out _ _ HS8.out (fun hHeld => ?_)
        clear hK K
        refine wpAnyH_ready (rs := [5]) (by kernel_rfl) (by simp) (AllReadyH.cons rfl (fun K hK => ?_) (AllReadyH.nil))
        refine step_append_row rfl (.tmp 24) (.tmp 28) 82 24 i0 _ 1 _ Tryz.underlying82 hi hz0 hz1 hz2 rfl (by decide) rfl (base := w5.heap.size) (v := sv) (ad := ⟨w7.heap.size, 0, none⟩) (n := pv.length) (m := 1) (news := csV (.slice u7a (f c).length u7c)) rfl rfl R8.out rfl (by exact lit_news1 w7 _ _) (by intro u hu; simp [csV] at hu; subst hu; rfl) (by have := HPL.out; have := HVS.out; unfold maxLen; omega) (by have := HPL.out; have := HVS.out; omega) (by simp; omega) ?_
        intro v9 w9 r9 g9 n9
        obtain ⟨v9a, v9c, ev⟩ := row_view r9
        subst ev
        have N9 := Lib.hid (And.intro r9 (And.intro g9 n9))
        have O9 := Lib.hid (O8.out.same (g9.block _ (show q + 1 + 1 < (w7.alloc (.cells #[.slice u7a (f c).length u7c] 24)).heap.size by simp; omega) (fun e => by have := (World.ownsRow.lt HR.out _ e.symm).1; omega)))
        have HS9 := Lib.hid (gcellq g9 (show q < (w7.alloc (.cells #[.slice u7a (f c).length u7c] 24)).heap.size by simp; omega) (fun e => by have := (World.ownsRow.lt HR.out _ e.symm).1; omega) HS8.out)
        clear r9 g9 n9
        refine hK.out _ _ HS9.out (fun hHeld => ?_)
        clear hK K
        change wpAnyH _ _ _ _ _ _ _ (Act.put _ (some 29) _) _
        simp only [Act.put, List.setIfInBounds_toArray, List.set_cons_zero, List.set_cons_succ]
        refine wpAnyH_ready (rs := [6]) (by kernel_rfl) (by simp) (AllReadyH.cons rfl (fun K hK => ?_) (AllReadyH.nil))
        have hcz := O9.out.1
        have hfz := O9.out.2.1
        go_simp
        refine hK.out _ _ (csetq (show q ≠ q + 1 + 1 by omega) HS9.out) (fun hHeld => ?_)
        clear hK K hcz hfz
        refine wpAnyH_done (by kernel_rfl) ?_ _
        exact fl_endO { tmps := #[], defers := [] } (vs2 := pv ++ [.slice u7a (f c).length u7c]) B8.out hs1 HO.out HR.out HG.out HB.out HC0.out HC1.out HSM.out (by omega) (by omega) N9.out.1 N9.out.2.1 N9.out.2.2 (by rw [List.length_append]; rfl) (by rw [List.flatMap_append]; rfl) (by rw [pre_len, HP1.out]; exact (EO.snoc ((HEO.out.below B8.out hs1)) ((U7.out.mono (by rw [World.size_drew]; omega)).next (bel1 w7 (.cells #[.slice u7a (f c).length u7c] 24)))).grow N9.out.2.1 (by rw [World.size_alloc]; omega) (fun k e => ⟨(World.ownsRow.lt HR.out k e).1, row_type R8.out e⟩) (by omega))
      · skip
        go_simp
        refine HF6.out.mono ?_; rintro e w7 ⟨u7, rfl, o7, b7⟩
        obtain ⟨u7a, u7c, eu7, -⟩ := o7.view
        subst eu7
        have U7 := Lib.hid o7; clear o7
        have B7 := Lib.hid (bel_tr D6.out b7 (Nat.le_refl _))
        have z7 : w6.heap.size ≤ w7.heap.size := b7.size
        have O7 := Lib.hid (O6.out.drew.next b7)
        have R7 := Lib.hid (row_next R6.out fun g _ hlt => b7.block g hlt)
        have HS7 := Lib.hid ((World.cell?_of_block (w := w6.drew) (b7.block q (show q < w6.heap.size by omega))).trans HS6.out)
        have B8 := Lib.hid (bel_tr B7.out (bel1 w7 (.cells #[.slice u7a (f c).length u7c] 24)) (Nat.le_refl _))
        have O8 := Lib.hid (O7.out.next (bel1 w7 (.cells #[.slice u7a (f c).length u7c] 24)))
        have R8 := Lib.hid (row_next R7.out fun g _ hlt => (bel1 w7 (.cells #[.slice u7a (f c).length u7c] 24)).block g hlt)
        have N8 := Lib.hid (new_of w7 (.cells #[.slice u7a (f c).length u7c] 24))
        have HS8 := Lib.hid ((World.cell?_of_block (w := w7) ((bel1 w7 (.cells #[.slice u7a (f c).length u7c] 24)).block q (show q < w7.heap.size by omega))).trans HS7.out)
        clear b7
        refine hK.out _ _ HS7.out (fun hHeld => ?_)
        clear hK K
        refine wpAnyH_ready (rs := [0, 4]) (by kernel_rfl) (by simp) (AllReadyH.cons rfl (fun K hK => ?_) (AllReadyH.cons rfl (fun K hK => ?_) (AllReadyH.nil)))
        · skip
          obtain ⟨lo, -, -⟩ := O7.out
          go_simp
          refine hK.out _ _ hHeld (fun hHeld => ?_)
          clear hK K lo
          refine wpAnyH_ready (rs := [4]) (by kernel_rfl) (by simp) (AllReadyH.cons rfl (fun K hK => ?_) (AllReadyH.nil))
          go_simp
          refine hK.out _ _ HS8.out (fun hHeld => ?_)
          clear hK K
          refine wpAnyH_ready (rs := [5]) (by kernel_rfl) (by simp) (AllReadyH.cons rfl (fun K hK => ?_) (AllReadyH.nil))
          refine step_append_row rfl (.tmp 24) (.tmp 28) 82 24 i0 _ 1 _ Tryz.underlying82 hi hz0 hz1 hz2 rfl (by decide) rfl (base := w5.heap.size) (v := sv) (ad := ⟨w7.heap.size, 0, none⟩) (n := pv.length) (m := 1) (news := csV (.slice u7a (f c).length u7c)) rfl rfl R8.out rfl (by exact lit_news1 w7 _ _) (by intro u hu; simp [csV] at hu; subst hu; rfl) (by have := HPL.out; have := HVS.out; unfold maxLen; omega) (by have := HPL.out; have := HVS.out; omega) (by simp; omega) ?_
          intro v9 w9 r9 g9 n9
          obtain ⟨v9a, v9c, ev⟩ := row_view r9
          subst ev
          have N9 := Lib.hid (And.intro r9 (And.intro g9 n9))
          have O9 := Lib.hid (O8.out.same (g9.block _ (show q + 1 + 1 < (w7.alloc (.cells #[.slice u7a (f c).length u7c] 24)).heap.size by simp; omega) (fun e => by have := (World.ownsRow.lt HR.out _ e.symm).1; omega)))
          have HS9 := Lib.hid (gcellq g9 (show q < (w7.alloc (.cells #[.slice u7a (f c).length u7c] 24)).heap.size by simp; omega) (fun e => by have := (World.ownsRow.lt HR.out _ e.symm).1; omega) HS8.out)
          clear r9 g9 n9
          refine hK.out _ _ HS9.out (fun hHeld => ?_)
          clear hK K
          change wpAnyH _ _ _ _ _ _ _ (Act.put _ (some 29) _) _
          simp only [Act.put, List.setIfInBounds_toArray, List.set_cons_zero, List.set_cons_succ]
          refine wpAnyH_ready (rs := [6]) (by kernel_rfl) (by simp) (AllReadyH.cons rfl (fun K hK => ?_) (AllReadyH.nil))
          have hcz := O9.out.1
          have hfz := O9.out.2.1
          go_simp
          refine hK.out _ _ (csetq (show q ≠ q + 1 + 1 by omega) HS9.out) (fun hHeld => ?_)
          clear hK K hcz hfz
          refine wpAnyH_done (by kernel_rfl) ?_ _
          exact fl_endO { tmps := #[], defers := [] } (vs2 := pv ++ [.slice u7a (f c).length u7c]) B8.out hs1 HO.out HR.out HG.out HB.out HC0.out HC1.out HSM.out (by omega) (by omega) N9.out.1 N9.out.2.1 N9.out.2.2 (by rw [List.length_append]; rfl) (by rw [List.flatMap_append]; rfl) (by rw [pre_len, HP1.out]; exact (EO.snoc ((HEO.out.below B8.out hs1)) ((U7.out.mono (by rw [World.size_drew]; omega)).next (bel1 w7 (.cells #[.slice u7a (f c).length u7c] 24)))).grow N9.out.2.1 (by rw [World.size_alloc]; omega) (fun k e => ⟨(World.ownsRow.lt HR.out k e).1, row_type R8.out e⟩) (by omega))
        · skip
          go_simp
          refine hK.out _ _ HS8.out (fun hHeld => ?_)
          clear hK K
          refine wpAnyH_ready (rs := [0]) (by kernel_rfl) (by simp) (AllReadyH.cons rfl (fun K hK => ?_) (AllReadyH.nil))
          obtain ⟨lo, -, -⟩ := O8.out
          go_simp
          refine hK.out _ _ hHeld (fun hHeld => ?_)
          clear hK K lo
          refine wpAnyH_ready (rs := [5]) (by kernel_rfl) (by simp) (AllReadyH.cons rfl (fun K hK => ?_) (AllReadyH.nil))
          refine step_append_row rfl (.tmp 24) (.tmp 28) 82 24 i0 _ 1 _ Tryz.underlying82 hi hz0 hz1 hz2 rfl (by decide) rfl (base := w5.heap.size) (v := sv) (ad := ⟨w7.heap.size, 0, none⟩) (n := pv.length) (m := 1) (news := csV (.slice u7a (f c).length u7c)) rfl rfl R8.out rfl (by exact lit_news1 w7 _ _) (by intro u hu; simp [csV] at hu; subst hu; rfl) (by have := HPL.out; have := HVS.out; unfold maxLen; omega) (by have := HPL.out; have := HVS.out; omega) (by simp; omega) ?_
          intro v9 w9 r9 g9 n9
          obtain ⟨v9a, v9c, ev⟩ := row_view r9
          subst ev
          have N9 := Lib.hid (And.intro r9 (And.intro g9 n9))
          have O9 := Lib.hid (O8.out.same (g9.block _ (show q + 1 + 1 < (w7.alloc (.cells #[.slice u7a (f c).length u7c] 24)).heap.size by simp; omega) (fun e => by have := (World.ownsRow.lt HR.out _ e.symm).1; omega)))
          have HS9 := Lib.hid (gcellq g9 (show q < (w7.alloc (.cells #[.slice u7a (f c).length u7c] 24)).heap.size by simp; omega) (fun e => by have := (World.ownsRow.lt HR.out _ e.symm).1; omega) HS8.out)
          clear r9 g9 n9
          refine hK.out _ _ HS9.out (fun hHeld => ?_)
          clear hK K
          change wpAnyH _ _ _ _ _ _ _ (Act.put _ (some 29) _) _
          simp only [Act.put, List.setIfInBounds_toArray, List.set_cons_zero, List.set_cons_succ]
          refine wpAnyH_ready (rs := [6]) (by kernel_rfl) (by simp) (AllReadyH.cons rfl (fun K hK => ?_) (AllReadyH.nil))
          have hcz := O9.out.1
          have hfz := O9.out.2.1
          go_simp
          refine hK.out _ _ (csetq (show q ≠ q + 1 + 1 by omega) HS9.out) (fun hHeld => ?_)
          clear hK K hcz hfz
          refine wpAnyH_done (by kernel_rfl) ?_ _
          exact fl_endO { tmps := #[], defers := [] } (vs2 := pv ++ [.slice u7a (f c).length u7c]) B8.out hs1 HO.out HR.out HG.out HB.out HC0.out HC1.out HSM.out (by omega) (by omega) N9.out.1 N9.out.2.1 N9.out.2.2 (by rw [List.length_append]; rfl) (by rw [List.flatMap_append]; rfl) (by rw [pre_len, HP1.out]; exact (EO.snoc ((HEO.out.below B8.out hs1)) ((U7.out.mono (by rw [World.size_drew]; omega)).next (bel1 w7 (.cells #[.slice u7a (f c).length u7c] 24)))).grow N9.out.2.1 (by rw [World.size_alloc]; omega) (fun k e => ⟨(World.ownsRow.lt HR.out k e).1, row_type R8.out e⟩) (by omega))
    · obtain ⟨va, vb, r, e1, e2⟩ := plP_op f g HEN.out hj hc hio
      have ho1 : 1 ≤ opN c := by have := isO_ne hio; omega
      have ho7 := opN_le c
      rw [sgV_op hio] at HS
      have hta := ta_op (.int .i64 (opN c))
      have HP1 := Lib.hid e2
      have HBD2 := Lib.hid (HBD1.out va vb r e1)
      rw [e1] at heo HPL HVS
      obtain ⟨rs, ub, ua, evs, her, heb, hea⟩ := heo.two
      have hrl : rs.length = r.length := her.1
      subst evs
      have hlen : (rs ++ [ub, ua]).length = rs.length + 2 := by simp
      rw [hlen] at HR
      rw [hlen] at HVS
      rw [show (r ++ [vb, va]).length = rs.length + 2 by simp [hrl]] at HPL HVS
      obtain ⟨ba, bc, eb, hvb⟩ := heb.view
      obtain ⟨aa, ac, ea, hva⟩ := hea.view
      subst eb ea
      have HEO := Lib.hid (And.intro her (And.intro heb hea)); clear heo her heb hea
      obtain ⟨pb, pc, hsv, hpb, hpl⟩ := row_own HR.out
      subst hsv
      have HTW := Lib.hid (fun W' hW' => HTWO.out (opN c) va vb aa ba ac bc W' ho1 ho7 (hva.below hW') (hvb.below hW') HBD2.out)
      clear hlen e1 e2 hio hcm hc hva hvb
      generalize plP f g t pre.length = pl at *
      generalize tx c = xs at *
      generalize opN c = o at *
      clear hrl
      generalize hk : rs.length = k at *
      have HR0 := Lib.hid hk; clear hk
      have kb : k ≤ 4194304 := by have := HPL.out; omega
      have i1 : (0 : Int) ≤ (k : Int) + 1 := by omega
      have i2 : (k : Int) < (k : Int) + 1 := by omega
      have i3 : (k : Int) < (k : Int) + 1 + 1 := by omega
      have i4 : (0 : Int) ≤ (k : Int) := by omega
      have hwk : IntKind.i64.wrap (k : Int) = (k : Int) := by rw [IntKind.wrap_i64]; omega
      gi_wp2_with fail
      refine ⟨trivial, (fun h => by cases h), (CallsIn.inRound l2 (callsIn_wide.2 HS.out)).mono ?_⟩
      rintro e w6 ⟨rfl, b6⟩
      have B6 := Lib.hid b6; clear b6
      have O6 := Lib.hid (HO.out.same (B6.out.block (q + 1 + 1) (by omega)))
      have hm6 := O6.out.1
      have kb1 : (k : Int) + 1 ≤ 4194305 := by omega
      gi_wp2_with fail
      subst hF2
      clear hm6
      have R6 := Lib.hid (row_next HR.out fun g _ hlt => B6.out.block g hlt)
      have z6 := B6.out.size
      have D6 := Lib.hid (bel_drewN B6.out 1)
      have HT6 := Lib.hid (HTW.out w6.drew (D6.out.mono (by omega)))
      have HTP := Lib.hid (topV R6.out HR0.out)
      have HS6 := Lib.hid (show w6.drew.cell? ⟨q + 1 + 1, 0, none⟩ = some (.slice (some ⟨pb, 0, none⟩) (k + 1 + 1) pc) ∧ w6.drew.cell? ⟨q + 1, 0, none⟩ = some (.func (.func f2) #[] #[]) ∧ w6.drew.cell? ⟨pb, k + 1, none⟩ = some (.slice aa va.length ac) from ⟨O6.out.1, (World.cell?_of_block (w := W) (B6.out.block (q + 1) (by omega))).trans HC1.out, HTP.out.1⟩)
      refine wpIn_region_held (S := fun z => z.cell? ⟨q + 1 + 1, 0, none⟩ = some (.slice (some ⟨pb, 0, none⟩) (k + 1 + 1) pc) ∧ z.cell? ⟨q + 1, 0, none⟩ = some (.func (.func f2) #[] #[]) ∧ z.cell? ⟨pb, k + 1, none⟩ = some (.slice aa va.length ac)) (by kernel_rfl) (defers_none (by kernel_rfl)) (fun _ _ h => h) HS6.out (fun hHeld => ?_)
      refine wpAnyH_take (i := 0) (v := ?v0u) rfl (by kernel_rfl) (by kernel_rfl) (by kernel_rfl) (fun _ _ _ h => h) (Or.inl ⟨by rfl, ?hy0u⟩) (by assumption) ?rest0u
      case hy0u => (intro zz hSw; (try dsimp only at hSw); go_simp; (try with_reducible rfl))
      change wpAnyH _ _ _ _ _ _ _ (Act.put _ (some 36) _) _
      simp only [Act.put, List.setIfInBounds_toArray, List.set_cons_zero, List.set_cons_succ]
      refine wpAnyH_take (i := 1) (v := ?v1u) rfl (by kernel_rfl) (by kernel_rfl) (by kernel_rfl) (fun _ _ _ h => h) (Or.inl ⟨by rfl, ?hy1u⟩) (by assumption) ?rest1u
      case hy1u => (intro zz hSw; (try dsimp only at hSw); go_simp; (try with_reducible rfl))
      change wpAnyH _ _ _ _ _ _ _ (Act.put _ (some 37) _) _
      simp only [Act.put, List.setIfInBounds_toArray, List.set_cons_zero, List.set_cons_succ]
      refine wpAnyH_take (i := 2) (v := ?v2u) rfl (by kernel_rfl) (by kernel_rfl) (by kernel_rfl) (fun _ _ _ h => h) (Or.inl ⟨by rfl, ?hy2u⟩) (by assumption) ?rest2u
      case hy2u => (intro zz hSw; (try dsimp only at hSw); go_simp; (try with_reducible rfl))
      change wpAnyH _ _ _ _ _ _ _ (Act.put _ (some 38) _) _
      simp only [Act.put, List.setIfInBounds_toArray, List.set_cons_zero, List.set_cons_succ]
      refine wpAnyH_take (i := 3) (v := ?v3u) rfl (by kernel_rfl) (by kernel_rfl) (by kernel_rfl) (fun _ _ _ h => h) (Or.inl ⟨by rfl, ?hy3u⟩) (by assumption) ?rest3u
      case hy3u => (intro zz hSw; (try dsimp only at hSw); go_simp; (try with_reducible rfl))
      change wpAnyH _ _ _ _ _ _ _ (Act.put _ (some 39) _) _
      simp only [Act.put, List.setIfInBounds_toArray, List.set_cons_zero, List.set_cons_succ]
      refine wpAnyH_take (i := 4) (v := ?v4u) rfl (by kernel_rfl) (by kernel_rfl) (by kernel_rfl) (fun _ _ _ h => h) (Or.inl ⟨by rfl, ?hy4u⟩) (by assumption) ?rest4u
      case hy4u => (intro zz hSw; (try dsimp only at hSw); go_simp; (try with_reducible rfl))
      change wpAnyH _ _ _ _ _ _ _ (Act.put _ (some 40) _) _
      simp only [Act.put, List.setIfInBounds_toArray, List.set_cons_zero, List.set_cons_succ]
      refine wpAnyH_take (i := 5) (v := ?v5u) rfl (by kernel_rfl) (by kernel_rfl) (by kernel_rfl) (fun _ _ _ h => h) (Or.inl ⟨by rfl, ?hy5u⟩) (by assumption) ?rest5u
      case hy5u => (intro zz hSw; (try dsimp only at hSw); go_simp; (try with_reducible rfl))
      change wpAnyH _ _ _ _ _ _ _ (Act.put _ (some 41) _) _
      simp only [Act.put, List.setIfInBounds_toArray, List.set_cons_zero, List.set_cons_succ]
      refine wpAnyH_take (i := 6) (v := ?v6u) rfl (by kernel_rfl) (by kernel_rfl) (by kernel_rfl) (fun _ _ _ h => h) (Or.inl ⟨by rfl, ?hy6u⟩) (by assumption) ?rest6u
      case hy6u => (intro zz hSw; (try dsimp only at hSw); go_simp; (try with_reducible rfl))
      change wpAnyH _ _ _ _ _ _ _ (Act.put _ (some 42) _) _
      simp only [Act.put, List.setIfInBounds_toArray, List.set_cons_zero, List.set_cons_succ]
      refine wpAnyH_take (i := 7) (v := ?v7u) rfl (by kernel_rfl) (by kernel_rfl) (by kernel_rfl) (fun _ _ _ h => h) (Or.inl ⟨by rfl, ?hy7u⟩) (by assumption) ?rest7u
      case hy7u => (intro zz hSw; (try dsimp only at hSw); go_simp; (try with_reducible rfl))
      change wpAnyH _ _ _ _ _ _ _ (Act.put _ (some 43) _) _
      simp only [Act.put, List.setIfInBounds_toArray, List.set_cons_zero, List.set_cons_succ]
      refine wpAnyH_take (i := 8) (v := ?v8u) rfl (by kernel_rfl) (by kernel_rfl) (by kernel_rfl) (fun _ _ _ h => h) (Or.inl ⟨by rfl, ?hy8u⟩) (by assumption) ?rest8u
      case hy8u => (intro zz hSw; (try dsimp only at hSw); go_simp; (try with_reducible rfl))
      change wpAnyH _ _ _ _ _ _ _ (Act.put _ (some 44) _) _
      simp only [Act.put, List.setIfInBounds_toArray, List.set_cons_zero, List.set_cons_succ]
      refine wpAnyH_take (i := 9) (v := ?v9u) rfl (by kernel_rfl) (by kernel_rfl) (by kernel_rfl) (fun _ _ _ h => h) (Or.inl ⟨by rfl, ?hy9u⟩) (by assumption) ?rest9u
      case hy9u => (intro zz hSw; (try dsimp only at hSw); go_simp; (try with_reducible rfl))
      change wpAnyH _ _ _ _ _ _ _ (Act.put _ (some 45) _) _
      simp only [Act.put, List.setIfInBounds_toArray, List.set_cons_zero, List.set_cons_succ]
      refine wpAnyH_take (i := 10) (v := ?v10u) rfl (by kernel_rfl) (by kernel_rfl) (by kernel_rfl) (fun _ _ _ h => h) (Or.inl ⟨by rfl, ?hy10u⟩) (by assumption) ?rest10u
      case hy10u => (intro zz hSw; (try dsimp only at hSw); go_simp; (try with_reducible rfl))
      change wpAnyH _ _ _ _ _ _ _ (Act.put _ (some 46) _) _
      simp only [Act.put, List.setIfInBounds_toArray, List.set_cons_zero, List.set_cons_succ]
      refine wpAnyH_take (i := 11) (v := ?v11u) rfl (by kernel_rfl) (by kernel_rfl) (by kernel_rfl) (fun _ _ _ h => h) (Or.inl ⟨by rfl, ?hy11u⟩) (by assumption) ?rest11u
      case hy11u => (intro zz hSw; (try dsimp only at hSw); go_simp; (try with_reducible rfl))
      change wpAnyH _ _ _ _ _ _ _ (Act.put _ (some 47) _) _
      simp only [Act.put, List.setIfInBounds_toArray, List.set_cons_zero, List.set_cons_succ]
      refine wpAnyH_take (i := 12) (v := ?v12u) rfl (by kernel_rfl) (by kernel_rfl) (by kernel_rfl) (fun _ _ _ h => h) (Or.inl ⟨by rfl, ?hy12u⟩) (by assumption) ?rest12u
      case hy12u => (intro zz hSw; (try dsimp only at hSw); go_simp; (try with_reducible rfl))
      change wpAnyH _ _ _ _ _ _ _ (Act.put _ (some 48) _) _
      simp only [Act.put, List.setIfInBounds_toArray, List.set_cons_zero, List.set_cons_succ]
      refine wpAnyH_ready (rs := [13]) (by kernel_rfl) (by simp) (AllReadyH.cons rfl (fun K hK => ?_) (AllReadyH.nil))
      obtain lo0 := HTP.out.2.1
      go_simp
      refine hK.out _ _ hHeld (fun hHeld => ?_)
      clear hK K lo0
      refine wpAnyH_ready (rs := [14]) (by kernel_rfl) (by simp) (AllReadyH.cons rfl (fun K hK => ?_) (AllReadyH.nil))
      go_simp
      refine HT6.out.mono ?_; rintro e w7 ⟨u7, rfl, o7, b7⟩
      obtain ⟨u7a, u7c, eu7, -⟩ := o7.view
      subst eu7
      have U7 := Lib.hid o7; clear o7
      have B7 := Lib.hid (bel_tr D6.out b7 (Nat.le_refl _))
      have z7 : w6.heap.size ≤ w7.heap.size := b7.size
      have O7 := Lib.hid (O6.out.drew.next b7)
      have R7 := Lib.hid (row_next R6.out fun g _ hlt => b7.block g hlt)
      have HTP7 := Lib.hid (topV R7.out HR0.out)
      have HS7 := Lib.hid (show w7.cell? ⟨q + 1 + 1, 0, none⟩ = some (.slice (some ⟨pb, 0, none⟩) (k + 1 + 1) pc) ∧ w7.cell? ⟨q + 1, 0, none⟩ = some (.func (.func f2) #[] #[]) ∧ w7.cell? ⟨pb, k + 1, none⟩ = some (.slice aa va.length ac) from ⟨O7.out.1, (World.cell?_of_block (w := w6.drew) (b7.block (q + 1) (show q + 1 < w6.heap.size by omega))).trans HS6.out.2.1, HTP7.out.1⟩)
      clear b7
      refine hK.out _ _ HS7.out (fun hHeld => ?_)
      clear hK K
      refine wpAnyH_take (i := 15) (v := ?v15u) rfl (by kernel_rfl) (by kernel_rfl) (by kernel_rfl) (fun _ _ _ h => h) (Or.inl ⟨by rfl, ?hy15u⟩) (by assumption) ?rest15u
      case hy15u => (intro zz hSw; (try dsimp only at hSw); go_simp; (try with_reducible rfl))
      change wpAnyH _ _ _ _ _ _ _ (Act.put _ (some 51) _) _
      simp only [Act.put, List.setIfInBounds_toArray, List.set_cons_zero, List.set_cons_succ]
      refine wpAnyH_ready (rs := [16]) (by kernel_rfl) (by simp) (AllReadyH.cons rfl (fun K hK => ?_) (AllReadyH.nil))
      obtain ⟨-, hcz, hfz⟩ := HTP7.out
      go_simp
      have HS8 := Lib.hid (show (w7.setCell ⟨pb, k, none⟩ (.slice u7a (g o va vb).length u7c)).cell? ⟨q + 1 + 1, 0, none⟩ = some (.slice (some ⟨pb, 0, none⟩) (k + 1 + 1) pc) ∧ (w7.setCell ⟨pb, k, none⟩ (.slice u7a (g o va vb).length u7c)).cell? ⟨q + 1, 0, none⟩ = some (.func (.func f2) #[] #[]) ∧ (w7.setCell ⟨pb, k, none⟩ (.slice u7a (g o va vb).length u7c)).cell? ⟨pb, k + 1, none⟩ = some (.slice aa va.length ac) from ⟨csetq (show q + 1 + 1 ≠ pb by omega) HS7.out.1, csetq (show q + 1 ≠ pb by omega) HS7.out.2.1, coff (by omega) HS7.out.2.2⟩)
      refine hK.out _ _ HS8.out (fun hHeld => ?_)
      clear hK K hcz hfz
      refine wpAnyH_done (by kernel_rfl) ?_ _
      have O8 := Lib.hid (O7.out.same (Below.heap_setCell _ ⟨pb, k, none⟩ (.slice u7a (g o va vb).length u7c) (q + 1 + 1) (fun e => by have e' : q + 1 + 1 = pb := e; omega)))
      have R8 := Lib.hid (row_cut ((World.ownsRow.stored R7.out k (.slice u7a (g o va vb).length u7c)).1) (m := k + 1) (by omega))
      have G8 := Lib.hid (show w7.grownBy (w7.setCell ⟨pb, k, none⟩ (.slice u7a (g o va vb).length u7c)) (Value.slice (some ⟨pb, 0, none⟩) (k + 1 + 1) pc).ownBlock from grown_setq)
      clear hHeld HS8
      generalize (w7.setCell ⟨pb, k, none⟩ (.slice u7a (g o va vb).length u7c)) = w8 at *
      obtain ⟨hm8, hf8, -⟩ := id O8.out
      have hcut : ∀ w, (Instr.slice 82 (.slice (some ⟨pb, 0, none⟩) (k + 1 + 1) pc) none (some (.int .i64 ((k : Int) + 1))) none).run Tryz.prog w = .ok (.slice (some ⟨pb, 0, none⟩) (k + 1) pc) w := cut_toK 82 1 (by kernel_rfl) (by intro w; exact Tryz.sizeOf24 w) (some ⟨pb, 0, none⟩) (k + 1 + 1) pc (k + 1) (by omega) (row_cap R7.out)
      clear i1 i2 i3 i4 hwk kb1
      gi_wp2_with fail
      exact fl_endO { tmps := #[], defers := [] } (vs2 := rs ++ [.slice u7a (g o va vb).length u7c]) B7.out hs1 HO.out HR.out HG.out HB.out HC0.out HC1.out HSM.out (by omega) (by omega) R8.out G8.out (Or.inl rfl) (by rw [List.length_append, HR0.out]; rfl) (putV HR0.out) (by rw [pre_len, HP1.out]; exact (EO.snoc (HEO.out.1.below B7.out hs1) (U7.out.mono (by rw [World.size_drew]; omega))).grow G8.out (by omega) (fun k e => ⟨(World.ownsRow.lt HR.out k e).1, row_type R7.out e⟩) (by omega))
  · rintro D gg W hD ⟨pv, ⟨hs1, sv, ho, hr, hg, hb, hc0, hc1, hsm⟩, heo⟩ hK
    obtain ⟨r, hrs⟩ : ∃ r, stk f g t = [r] := by
      have := (stk_two f g HEN.out).1
      match hs : stk f g t, this with
      | [r], _ => exact ⟨r, rfl⟩
    replace heo : EO w5.heap.size W pv (plP f g t (bkL t).length) := heo
    rw [bkL_len, plP_all, hrs] at heo
    replace heo : EO w5.heap.size W pv [r] := heo
    obtain ⟨u, evs, heu⟩ := heo.one
    subst evs
    obtain ⟨ua, uc, eu, -⟩ := heu.view
    subst eu
    have HEU := Lib.hid heu; clear heo heu
    obtain ⟨pb, pc, hsv, hpb, hpl⟩ := row_own (n := 0) hr
    subst hsv
    have HB := Lib.hid hb
    have l0 : W.cell? ⟨pb, 0, none⟩ = some (.slice ua r.length uc) := World.ownsRow.cellAt hr 0 (by decide)
    obtain ⟨o1, o2, o3⟩ := ho
    have HRS := Lib.hid hrs
    clear hr hb hg hc0 hc1 hrs
    have PB := Lib.hid (put_below (n₀ := q) (l := D) (W := W) (o := .deferred none) (by omega) (by omega))
    gi_wp2_with fail
    refine ⟨by simp, .inl ⟨_, _, rfl, run_takeDeferred hK, ?_⟩⟩
    exact ⟨_, results_tmp rfl _ _ _, r, _, HRS.out, rfl, HEU.out.put (by omega) (fun g e h => by subst h; have h9 := cells_of_row HEU.out e _ hK; cases h9), HB.out.trans PB.out⟩
  · rintro D k pre W hD hpre hf hK
    exact hf.elim
end Go.Proofs.YtoiphglfngkoiaaGreatDoor.Cl
