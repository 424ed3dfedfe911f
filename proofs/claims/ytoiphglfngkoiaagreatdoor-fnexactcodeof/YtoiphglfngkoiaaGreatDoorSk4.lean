/-
  Texts of mine, joined (part 4 of 7): what the law at hand reaches of them; each text's own words stand in the verifier's repo.
-/
import Derived.Test.YtoiphglfngkoiaaGreatDoorSk3
import Derived.Test.YtoiphglfngkoiaaGreatDoorRows
import Derived.WalkKit
import Derived.IntWalk
import Derived.Laws.Bits128
import Derived.Lib.Hide
import Derived.Lib.ParseIntBTie
import Derived.Lib.ParseIntBCases
import Derived.Lib.ItoaMem
import Derived.Lib.IndexMore
import Derived.Lib.Repeat
import Derived.WalkSpells
import Derived.Below
import Derived.Carry
import Derived.WalkSmall
import Derived.Laws.Closers25b
import Derived.Lib.Strings
import Derived.Lib.SmallJoins
import Derived.Lib.AppendIntMem
import Derived.Maps.AppendAt
import Derived.OwnWalk
import Derived.WalkLawsBesides
import Derived.Deep.QuietTactic
import Derived.BigQuiet
import Derived.Deep.RegionHeld3
import Derived.Laws.OwnMore
import Derived.Laws.StructEq
import Derived.BigFrame
import Derived.Deep.Upon
import Derived.Laws.CopyRow
import Derived.Laws.BytesArg
import Derived.RowKit3
import Derived.Shelf.Strconv.Itoa4
import Derived.Shelf.Strconv.ParseIntPublic10
import Derived.Shelf.Strconv.ErrVarParseInt
import Derived.Test.YtoiphglfngkoiaaGreatDoorProg
import Derived.LaidMore
import Derived.Stop.LaidErr
import Derived.Lib.LaidTab
import Derived.Deep.LoopGhost
import Derived.RangeFuncWrites
import Derived.RangeFuncCalls
import Derived.RangeFuncBox
import Derived.RangeFuncNested
import Derived.RangeFuncLeaves
import Derived.Shelf.Abstract
import Derived.Shelf.RegionOpen
import Derived.OwnWalkIn
import Derived.TacticsInMore
import Derived.LoopNIn
import Derived.LoopIn
import Derived.Lib.AtoiErrMem
import Derived.OpenShut
import Derived.Lib.ConvBytes
import Derived.Deep.RegionLaw
import Derived.Deep.AppendLies
import Derived.Lib.AppendZeros
import Derived.ProofKit
import Derived.Handed
import Derived.SizedLaws
import Derived.ShutString
import Derived.Deep.Slices
import Derived.Deep.Fields
import Derived.ChangeSame
namespace Go.Proofs.YtoiphglfngkoiaaGreatDoor.Cl
set_option linter.unusedVariables false
open Go.RowKit Wd Rp Cu Kp
def Bd (l : List Tk) : Prop := l.length ≤ 4194304 ∧ ∀ s ∈ l, s.length ≤ 4194304
theorem Bd.drop {l : List Tk} (h : Bd l) (k : Nat) : Bd (l.drop k) := ⟨by rw [List.length_drop]; have := h.1; omega, fun s hs => h.2 s (List.mem_of_mem_drop hs)⟩
theorem Bd.take {l : List Tk} (h : Bd l) (k : Nat) : Bd (l.take k) := ⟨by rw [List.length_take]; have := h.1; omega, fun s hs => h.2 s (List.mem_of_mem_take hs)⟩
structure Rd (w0 : World) (p : Nat) (lf : List Tk) (o : Int) (fl : Bool) (w : World) : Prop where
  bel : Below w0.heap.size w0 w
  lo : w0.heap.size ≤ p
  lt : p < w.heap.size
  bd : Bd lf
  vw : ∃ a cap, w.cell? ⟨p, 0, none⟩ = some (.slice a lf.length cap) ∧ V1 w0 a cap (txL lf)
  c1 : w.cell? ⟨p, 1, none⟩ = some (.int .i64 o)
  c2 : w.cell? ⟨p, 2, none⟩ = some (.bool fl)
  f0 : w.frozen? ⟨p, 0, none⟩ = false
  f1 : w.frozen? ⟨p, 1, none⟩ = false
  f2 : w.frozen? ⟨p, 2, none⟩ = false
theorem Rd.next {w0 w w' : World} {p : Nat} {lf : List Tk} {o : Int} {fl : Bool} (h : Rd w0 p lf o fl w) (hb : Below w.heap.size w w') : Rd w0 p lf o fl w' := by
  have e := hb.block p h.lt
  obtain ⟨a, cap, h0, hv⟩ := h.vw
  exact ⟨bel_tr h.bel hb (Nat.le_refl _), h.lo, Nat.lt_of_lt_of_le h.lt hb.size, h.bd, ⟨a, cap, (World.cell?_of_block (w := w) e).trans h0, hv⟩, (World.cell?_of_block (w := w) e).trans h.c1, (World.cell?_of_block (w := w) e).trans h.c2,
    (World.frozen?_of_block (w := w) e).trans h.f0, (World.frozen?_of_block (w := w) e).trans h.f1, (World.frozen?_of_block (w := w) e).trans h.f2⟩
theorem coff3 {w : World} {p i j : Nat} {u v : Value} (h : i ≠ j) (hc : w.cell? ⟨p, i, none⟩ = some v) : (w.setCell ⟨p, j, none⟩ u).cell? ⟨p, i, none⟩ = some v := (World.cell?_setCell_other w ⟨p, j, none⟩ ⟨p, i, none⟩ u (fun e => h (by cases e; rfl))).trans hc
theorem Rd.fail {w0 w : World} {p : Nat} {lf : List Tk} {o : Int} {fl : Bool} (h : Rd w0 p lf o fl w) (b : Bool) : Rd w0 p lf o b (w.setCell ⟨p, 2, none⟩ (.bool b)) := by
  obtain ⟨a, cap, h0, hv⟩ := h.vw
  exact ⟨h.bel.setCell (p := ⟨p, 2, none⟩) h.lo _, h.lo, by rw [World.size_setCell]; exact h.lt, h.bd, ⟨a, cap, coff3 (by decide) h0, hv⟩, coff3 (by decide) h.c1, World.cell?_setCell_same' _ _ _ (by rw [h.c2]; rfl),
    by rw [World.frozen?_setCell]; exact h.f0, by rw [World.frozen?_setCell]; exact h.f1, by rw [World.frozen?_setCell]; exact h.f2⟩
theorem Rd.open {w0 w : World} {p : Nat} {lf : List Tk} {o : Int} {fl : Bool} (h : Rd w0 p lf o fl w) (o' : Int) : Rd w0 p lf o' fl (w.setCell ⟨p, 1, none⟩ (.int .i64 o')) := by
  obtain ⟨a, cap, h0, hv⟩ := h.vw
  exact ⟨h.bel.setCell (p := ⟨p, 1, none⟩) h.lo _, h.lo, by rw [World.size_setCell]; exact h.lt, h.bd, ⟨a, cap, coff3 (by decide) h0, hv⟩, World.cell?_setCell_same' _ _ _ (by rw [h.c1]; rfl), coff3 (by decide) h.c2,
    by rw [World.frozen?_setCell]; exact h.f0, by rw [World.frozen?_setCell]; exact h.f1, by rw [World.frozen?_setCell]; exact h.f2⟩
theorem Rd.left {w0 w : World} {p : Nat} {lf lf' : List Tk} {o : Int} {fl : Bool} (h : Rd w0 p lf o fl w) {a : Option Addr} {cap n : Nat} (hn : lf'.length = n) (hb : Bd lf') (hv : V1 w0 a cap (txL lf')) : Rd w0 p lf' o fl (w.setCell ⟨p, 0, none⟩ (.slice a n cap)) := by
  obtain ⟨a0, cap0, h0, hv0⟩ := h.vw
  exact ⟨h.bel.setCell (p := ⟨p, 0, none⟩) h.lo _, h.lo, by rw [World.size_setCell]; exact h.lt, hb, ⟨a, cap, by rw [hn]; exact World.cell?_setCell_same' _ _ _ (by rw [h0]; rfl), hv⟩, coff3 (by decide) h.c1, coff3 (by decide) h.c2,
    by rw [World.frozen?_setCell]; exact h.f0, by rw [World.frozen?_setCell]; exact h.f1, by rw [World.frozen?_setCell]; exact h.f2⟩
theorem Rd.lib {w0 w : World} {p : Nat} {lf : List Tk} {o : Int} {fl : Bool} (h : Rd w0 p lf o fl w) (hL : Lib3 w0) : Lib3 w := lib3_below hL h.bel
theorem but_set (w : World) (p j : Nat) (u : Value) : But p w (w.setCell ⟨p, j, none⟩ u) := (But.refl p w).setCell rfl u
set_option maxRecDepth 100000 in
theorem cut1_low (T : TypeId) (hu : Tryz.prog.underlying T = some (.slice (Tryz.prog.elem T))) (hs : ∀ w, (sizeOf (Tryz.prog.elem T)).run Tryz.prog w = .ok 1 w) (a : Option Addr) (n cap i : Nat) (hi : i ≤ n) : ∃ b cb, (∀ w, (Instr.slice T (.slice a n cap) (some (.int .i64 (i : Int))) none none).run Tryz.prog w = .ok (.slice b (n - i) cb) w) ∧
    ∀ w l, V1 w a cap l → l.length = n → V1 w b cb (l.drop i) := by
  refine ⟨_, _, fun w => ?_, fun w l h hl => h.drop (k := i) (by omega)⟩
  rw [run_slice_l w T a n cap hu .i64 (i : Int) (by omega) (by omega), hs]
  rfl
set_option maxHeartbeats 1000000 in
set_option maxRecDepth 100000 in
theorem require_any {w0 w : World} {p : Nat} {lf : List Tk} {o : Int} {fl : Bool} (h : Rd w0 p lf o fl w) (b : Bool) : Calls Tryz.prog 46 #[.pointer (some ⟨p, 0, none⟩), .bool b] w fun e w' => e = .returned (.tuple #[]) ∧ Rd w0 p lf o (fl || !b) w' ∧ But p w w' := by
  have c2 := h.c2
  have f2 := h.f2
  have HF := Lib.hid (fun x => h.fail x)
  have HB := Lib.hid (fun x => but_set w p 2 x)
  clear h
  cases fl
  · cases b
    · go_enter Tryz.func46, Tryz.ntmps46
      go_wp2_with fail
      exact bodyPost_end (v := .tuple #[]) (by simp [results, Tryz.results46, go_sem]) rfl ⟨rfl, HF.out _, HB.out _⟩
    · go_enter Tryz.func46, Tryz.ntmps46
      go_wp2_with fail
      exact bodyPost_end (v := .tuple #[]) (by simp [results, Tryz.results46, go_sem]) rfl ⟨rfl, HF.out _, HB.out _⟩
  · go_enter Tryz.func46, Tryz.ntmps46
    go_wp2_with fail
    exact bodyPost_end (v := .tuple #[]) (by simp [results, Tryz.results46, go_sem]) rfl ⟨rfl, HF.out _, HB.out _⟩
set_option maxHeartbeats 1000000 in
set_option maxRecDepth 100000 in
theorem token_fail {w0 w : World} {p : Nat} {lf : List Tk} {o : Int} (h : Rd w0 p lf o true w) : Calls Tryz.prog 42 #[.pointer (some ⟨p, 0, none⟩)] w fun e w' => e = .returned (.string ⟨#[]⟩) ∧ Rd w0 p lf o true w' ∧ But p w w' := by
  obtain ⟨a, cap, c0, -⟩ := h.vw
  have HQ := Lib.hid (fun b => require_any h b)
  clear h
  go_enter Tryz.func42, Tryz.ntmps42
  go_wp2_with fail
  refine (HQ.out _).mono ?_; rintro e w1 ⟨rfl, r1, b1⟩
  have c2 : w1.cell? ⟨p, 2, none⟩ = some (.bool true) := r1.c2
  have R1 := Lib.hid (show Rd w0 p lf o true w1 from r1)
  have B1 := Lib.hid b1
  clear r1 b1
  go_wp2_with fail
  go_ret
  exact ⟨rfl, R1.out, B1.out⟩
set_option maxHeartbeats 1000000 in
set_option maxRecDepth 100000 in
theorem token_nil {w0 w : World} {p : Nat} {o : Int} (h : Rd w0 p [] o false w) : Calls Tryz.prog 42 #[.pointer (some ⟨p, 0, none⟩)] w fun e w' => e = .returned (.string ⟨#[]⟩) ∧ Rd w0 p [] o true w' ∧ But p w w' := by
  obtain ⟨a, cap, c0, -⟩ := h.vw
  replace c0 : w.cell? ⟨p, 0, none⟩ = some (.slice a 0 cap) := c0
  have HQ := Lib.hid (require_any h false)
  clear h
  go_enter Tryz.func42, Tryz.ntmps42
  go_wp2_with fail
  refine HQ.out.mono ?_; rintro e w1 ⟨rfl, r1, b1⟩
  have c2 : w1.cell? ⟨p, 2, none⟩ = some (.bool true) := r1.c2
  have R1 := Lib.hid (show Rd w0 p [] o true w1 from r1)
  have B1 := Lib.hid b1
  clear r1 b1
  go_wp2_with fail
  go_ret
  exact ⟨rfl, R1.out, B1.out⟩
set_option maxHeartbeats 1000000 in
set_option maxRecDepth 100000 in
theorem token_cons {w0 w : World} {p : Nat} {s : Tk} {lf : List Tk} {o : Int} (h : Rd w0 p (s :: lf) o false w) : Calls Tryz.prog 42 #[.pointer (some ⟨p, 0, none⟩)] w fun e w' => e = .returned (.string (tx s)) ∧ Rd w0 p lf o false w' ∧ But p w w' := by
  obtain ⟨a0, cap0, c0', -⟩ := h.vw
  have HQ := Lib.hid (require_any h true)
  have hd := h.bd.drop 1
  clear h
  obtain ⟨n, hn⟩ : ∃ n, lf.length = n := ⟨_, rfl⟩
  have c0 : w.cell? ⟨p, 0, none⟩ = some (.slice a0 (n + 1) cap0) := by rw [c0', List.length_cons, hn]
  clear c0'
  have t0 : decide ((0 : Int) < ((n + 1 : Nat) : Int)) = true := by simp
  have t1 : (0 : Int) < ((n + 1 : Nat) : Int) := by omega
  go_enter Tryz.func42, Tryz.ntmps42
  go_wp2_with fail
  refine HQ.out.mono ?_; rintro e w1 ⟨rfl, r1, b1⟩
  replace r1 : Rd w0 p (s :: lf) o false w1 := r1
  obtain ⟨a, cap, d0, hv⟩ := r1.vw
  rw [List.length_cons, hn] at d0
  have c2 := r1.c2
  have f0 := r1.f0
  have hvl := hv.below r1.bel
  obtain ⟨g, q, rfl, hg, x0⟩ := hvl.tx (l := s :: lf) (k := 0) rfl
  rw [Nat.add_zero] at x0
  obtain ⟨b, cb, hrun, hvv⟩ := cut1_low 22 (by kernel_rfl) (fun w => by exact Tryz.sizeOf9 w) (some ⟨g, q, none⟩) (n + 1) cap 1 (by omega)
  have hr : ∀ w, (Instr.slice 22 (.slice (some ⟨g, q, none⟩) (n + 1) cap) (some (.int .i64 1)) none none).run Tryz.prog w = .ok (.slice b n cb) w := hrun
  have hv1 := hvv w0 _ hv (by rw [txL_len, List.length_cons, hn])
  have R2 := Lib.hid (r1.left (lf' := lf) hn hd hv1)
  have B2 := Lib.hid (b1.trans (but_set w1 p 0 (.slice b n cb)))
  clear c0 hrun hvv hv hv1 hvl r1 b1 hg HQ hd hn
  go_wp2_with fail
  go_ret
  exact ⟨rfl, R2.out, B2.out⟩
theorem But.of {b : Nat} {w w' : World} (h : Below w.heap.size w w') : But b w w' := (But.refl b w).below' h
set_option maxHeartbeats 4000000 in
set_option maxRecDepth 100000 in
theorem sumAt_low {w0 : World} (w : World) (hw : Below w0.heap.size w0 w) (a : Option Addr) (cap : Nat) (l : List Tk) (n m : Nat) (hn : l.length = n) (hv : V1 w0 a cap (txL l)) (hl : n ≤ 4194304) (hm : ∀ s ∈ l, s.length ≤ 4194304) (hL : Lib3 w) (he : enA l 0 = some m) (hkm : m ≤ n) :
    Calls Tryz.prog 56 #[.slice a n cap, .int .i64 0] w fun e w' => ∃ b cb, e = .returned (.slice b m cb) ∧ V1 w0 b cb (txL (l.take m)) ∧ Below w.heap.size w w' := by
  have HE := Lib.hid (implEnd_any w a cap l n 0 (by constructor <;> decide) hn (hv.below hw) hl hm hL)
  rw [edV_at he, Int.zero_add] at HE
  obtain ⟨b, cb, hrun, hvv⟩ := cut1 22 (by kernel_rfl) (fun w => by exact Tryz.sizeOf9 w) a n cap 0 m (by omega) hkm (by have := hv.1; rw [txL_len] at this; omega)
  rw [Nat.sub_zero] at hrun hvv
  have hr : ∀ w, (Instr.slice 22 (.slice a n cap) (some (.int .i64 0)) (some (.int .i64 (m : Int))) none).run Tryz.prog w = .ok (.slice b m cb) w := hrun
  have HV := Lib.hid (show V1 w0 b cb (txL (l.take m)) from by
    have := hvv w0 (txL l) hv (by rw [txL_len]; exact hn)
    unfold txL at this ⊢
    rw [List.drop_zero, ← List.map_take] at this; exact this)
  clear hrun hvv hv
  have p0 : ¬ (m : Int) < 0 := by omega
  have p1 : decide ((m : Int) < 0) = false := by simp
  go_enter Tryz.func56, Tryz.ntmps56
  go_wp2_with fail
  refine HE.out.mono ?_; rintro e w1 ⟨rfl, b1⟩
  have B1 := Lib.hid b1; clear b1
  go_wp2_with fail
  go_ret
  exact ⟨b, cb, rfl, HV.out, B1.out⟩
set_option maxHeartbeats 8000000 in
set_option maxRecDepth 100000 in
theorem sum_yes {w0 w : World} {p : Nat} {lf : List Tk} {o : Int} {fl : Bool} {kind : Int} {m : Nat} (hL : Lib3 w0) (h : Rd w0 p lf o fl w) (he : enA lf 0 = some m) :
    Calls Tryz.prog 44 #[.pointer (some ⟨p, 0, none⟩), .int .i64 kind] w fun e w' => ∃ a cap, e = .returned (.slice a m cap) ∧ V1 w0 a cap (txL (lf.take m)) ∧ Rd w0 p (lf.drop m) o (fl || !(kdV (lf.take m) 0 == kind && decide (dpV (lf.take m) 0 ≤ 5))) w' ∧ But p w w' := by
  obtain ⟨k0, hk0, hkm, hpl, hen, -⟩ := enA_piece he
  have hk : k0 = 0 := by omega
  subst hk
  rw [Nat.zero_add] at hkm
  rw [List.drop_zero] at hpl hen
  clear hk0 hen
  obtain ⟨a, cap, c0, hv⟩ := h.vw
  obtain ⟨n, hn⟩ : ∃ n, lf.length = n := ⟨_, rfl⟩
  rw [hn] at c0 hkm
  have hbd := h.bd
  have HBD := Lib.hid hbd
  have HLB := Lib.hid (fun (w1 : World) (hb : Below w0.heap.size w0 w1) => lib3_below hL hb)
  have HBEL := Lib.hid h.bel
  have HS := Lib.hid (sumAt_low w h.bel a cap lf n m hn hv (by have := hbd.1; omega) hbd.2 (h.lib hL) he hkm)
  have HQ := Lib.hid (fun (w1 : World) (hb : Below w.heap.size w w1) (b : Bool) => require_any (h.next hb) b)
  have HQB := Lib.hid (fun (w1 : World) (hb : Below w.heap.size w w1) => (But.of hb : But p w w1))
  replace HQ := Lib.hid (fun (w1 : World) (hb : Below w.heap.size w w1) (b : Bool) => HQ.out w1 hb b)
  have hbt := hbd.take m
  have hml : m ≤ 4194304 := by have := hbt.1; omega
  have HBT := Lib.hid hbt
  clear hv hbd h he hbt
  obtain ⟨t, ht⟩ : ∃ t, lf.take m = t := ⟨_, rfl⟩
  rw [ht] at HS HBT hpl ⊢
  clear ht
  obtain ⟨x, hkd⟩ : ∃ x, kdV t 0 = x := ⟨_, rfl⟩
  obtain ⟨y, hdp⟩ : ∃ y, dpV t 0 = y := ⟨_, rfl⟩
  rw [hkd, hdp]
  go_enter Tryz.func44, Tryz.ntmps44
  go_wp2_with fail
  refine HS.out.mono ?_; rintro e w1 ⟨b, cb, rfl, hv, b1⟩
  have HV := Lib.hid hv
  have B1 := Lib.hid b1
  have BB1 := Lib.hid (bel_tr HBEL.out b1 (Nat.le_refl _))
  clear b1 hv HS
  have HK := Lib.hid (implKind_any w1 b cb t m 0 (by constructor <;> decide) hpl (HV.out.below BB1.out) hml HBT.out.2 (HLB.out w1 BB1.out))
  rw [hkd] at HK
  go_wp2_with fail
  refine HK.out.mono ?_; rintro e w2 ⟨rfl, b2⟩
  have B2 := Lib.hid (bel_tr B1.out b2 (Nat.le_refl _))
  have BB2 := Lib.hid (bel_tr BB1.out b2 (Nat.le_refl _))
  clear b2 HK
  have HD := Lib.hid (implDepth_any w2 b cb t m 0 (by constructor <;> decide) hpl (HV.out.below BB2.out) hml HBT.out.2 (HLB.out w2 BB2.out))
  rw [hdp] at HD
  clear hkd hdp
  by_cases hx : x = kind
  · have p1 : (x == kind) = true := beq_iff_eq.2 hx
    go_wp2_with fail
    refine HD.out.mono ?_; rintro e w3 ⟨rfl, b3⟩
    have B3 := Lib.hid (bel_tr B2.out b3 (Nat.le_refl _))
    have BU3 := Lib.hid (HQB.out w3 B3.out)
    clear b3 HD
    by_cases hy : y ≤ 5
    · have p2 : decide (y ≤ 5) = true := by simpa using hy
      go_wp2_with fail
      replace HQ := Lib.hid (fun (b : Bool) => HQ.out w3 B3.out b)
      refine (HQ.out _).mono ?_; rintro e w9 ⟨rfl, r9, b9⟩
      obtain ⟨a9, cap9, d9, hv9⟩ := r9.vw
      rw [hn] at d9
      have f9 := r9.f0
      obtain ⟨b8, cb8, hrun, hvv⟩ := cut1_low 22 (by kernel_rfl) (fun w => by exact Tryz.sizeOf9 w) a9 n cap9 m (by omega)
      have hr : ∀ w, (Instr.slice 22 (.slice a9 n cap9) (some (.int .i64 ((m : Nat) : Int))) none none).run Tryz.prog w = .ok (.slice b8 (n - m) cb8) w := hrun
      have hv1 := hvv w0 _ hv9 (by rw [txL_len, hn])
      have R9 := Lib.hid (r9.left (lf' := lf.drop m) (n := n - m) (by rw [List.length_drop, hn]) (HBD.out.drop m) (by unfold txL at hv1 ⊢; rw [List.map_drop]; exact hv1))
      have B9 := Lib.hid ((BU3.out.trans b9).trans (but_set w9 p 0 (.slice b8 (n - m) cb8)))
      clear hrun hvv hv9 hv1 r9 b9 HQ
      go_wp2_with fail
      go_ret
      exact ⟨b, cb, rfl, HV.out, (by rw [p1, p2]; exact R9.out), B9.out⟩
    · have p2 : decide (y ≤ 5) = false := by simpa using hy
      go_wp2_with fail
      replace HQ := Lib.hid (fun (b : Bool) => HQ.out w3 B3.out b)
      refine (HQ.out _).mono ?_; rintro e w9 ⟨rfl, r9, b9⟩
      obtain ⟨a9, cap9, d9, hv9⟩ := r9.vw
      rw [hn] at d9
      have f9 := r9.f0
      obtain ⟨b8, cb8, hrun, hvv⟩ := cut1_low 22 (by kernel_rfl) (fun w => by exact Tryz.sizeOf9 w) a9 n cap9 m (by omega)
      have hr : ∀ w, (Instr.slice 22 (.slice a9 n cap9) (some (.int .i64 ((m : Nat) : Int))) none none).run Tryz.prog w = .ok (.slice b8 (n - m) cb8) w := hrun
      have hv1 := hvv w0 _ hv9 (by rw [txL_len, hn])
      have R9 := Lib.hid (r9.left (lf' := lf.drop m) (n := n - m) (by rw [List.length_drop, hn]) (HBD.out.drop m) (by unfold txL at hv1 ⊢; rw [List.map_drop]; exact hv1))
      have B9 := Lib.hid ((BU3.out.trans b9).trans (but_set w9 p 0 (.slice b8 (n - m) cb8)))
      clear hrun hvv hv9 hv1 r9 b9 HQ
      go_wp2_with fail
      go_ret
      exact ⟨b, cb, rfl, HV.out, (by rw [p1, p2]; exact R9.out), B9.out⟩
  · have p1 : (x == kind) = false := beq_eq_false_iff_ne.2 hx
    have BU2 := Lib.hid (HQB.out w2 B2.out)
    go_wp2_with fail
    replace HQ := Lib.hid (fun (b : Bool) => HQ.out w2 B2.out b)
    refine (HQ.out _).mono ?_; rintro e w9 ⟨rfl, r9, b9⟩
    obtain ⟨a9, cap9, d9, hv9⟩ := r9.vw
    rw [hn] at d9
    have f9 := r9.f0
    obtain ⟨b8, cb8, hrun, hvv⟩ := cut1_low 22 (by kernel_rfl) (fun w => by exact Tryz.sizeOf9 w) a9 n cap9 m (by omega)
    have hr : ∀ w, (Instr.slice 22 (.slice a9 n cap9) (some (.int .i64 ((m : Nat) : Int))) none none).run Tryz.prog w = .ok (.slice b8 (n - m) cb8) w := hrun
    have hv1 := hvv w0 _ hv9 (by rw [txL_len, hn])
    have R9 := Lib.hid (r9.left (lf' := lf.drop m) (n := n - m) (by rw [List.length_drop, hn]) (HBD.out.drop m) (by unfold txL at hv1 ⊢; rw [List.map_drop]; exact hv1))
    have B9 := Lib.hid ((BU2.out.trans b9).trans (but_set w9 p 0 (.slice b8 (n - m) cb8)))
    clear hrun hvv hv9 hv1 r9 b9 HQ
    go_wp2_with fail
    go_ret
    exact ⟨b, cb, rfl, HV.out, (by rw [p1]; exact R9.out), B9.out⟩
set_option maxHeartbeats 4000000 in
set_option maxRecDepth 100000 in
theorem sum_no {w0 w : World} {p : Nat} {lf : List Tk} {o : Int} {fl : Bool} {kind : Int} (hL : Lib3 w0) (hk : kind ≠ 0) (h : Rd w0 p lf o fl w) (he : enA lf 0 = none) :
    Calls Tryz.prog 44 #[.pointer (some ⟨p, 0, none⟩), .int .i64 kind] w fun e w' => e = .returned (.slice none 0 0) ∧ Rd w0 p lf o true w' ∧ But p w w' := by
  obtain ⟨a, cap, c0, hv⟩ := h.vw
  obtain ⟨n, hn⟩ : ∃ n, lf.length = n := ⟨_, rfl⟩
  rw [hn] at c0
  have hbd := h.bd
  have HBD := Lib.hid hbd
  have HLB := Lib.hid (fun (w1 : World) (hb : Below w0.heap.size w0 w1) => lib3_below hL hb)
  have HBEL := Lib.hid h.bel
  have HS := Lib.hid (sumAt_none w a cap lf n 0 (by constructor <;> decide) hn (hv.below h.bel) (by have := hbd.1; omega) hbd.2 (h.lib hL) he)
  have HQ := Lib.hid (fun (w1 : World) (hb : Below w.heap.size w w1) => require_any (h.next hb) false)
  have HQB := Lib.hid (fun (w1 : World) (hb : Below w.heap.size w w1) => (But.of hb : But p w w1))
  clear hv hbd h he
  have p1 : ((0 : Int) == kind) = false := beq_eq_false_iff_ne.2 (fun e => hk e.symm)
  go_enter Tryz.func44, Tryz.ntmps44
  go_wp2_with fail
  refine HS.out.mono ?_; rintro e w1 ⟨rfl, b1⟩
  have B1 := Lib.hid b1
  have BB1 := Lib.hid (bel_tr HBEL.out b1 (Nat.le_refl _))
  clear b1 HS
  have HK := Lib.hid (implKind_any w1 none 0 [] 0 0 (by constructor <;> decide) rfl ⟨by decide, by decide, fun _ => rfl, fun k x hk => by simp [txL] at hk⟩ (by decide) (fun s hs => by cases hs) (HLB.out w1 BB1.out))
  replace HK := Lib.hid (show Calls Tryz.prog 57 #[.slice none 0 0, .int .i64 0] w1 fun e w' => e = .returned (.int .i64 0) ∧ Below w1.heap.size w1 w' from HK.out)
  go_wp2_with fail
  refine HK.out.mono ?_; rintro e w2 ⟨rfl, b2⟩
  have B2 := Lib.hid (bel_tr B1.out b2 (Nat.le_refl _))
  clear b2 HK
  have BU2 := Lib.hid (HQB.out w2 B2.out)
  go_wp2_with fail
  replace HQ := Lib.hid (HQ.out w2 B2.out)
  refine HQ.out.mono ?_; rintro e w9 ⟨rfl, r9, b9⟩
  obtain ⟨a9, cap9, d9, hv9⟩ := r9.vw
  rw [hn] at d9
  have f9 := r9.f0
  obtain ⟨b8, cb8, hrun, hvv⟩ := cut1_low 22 (by kernel_rfl) (fun w => by exact Tryz.sizeOf9 w) a9 n cap9 0 (by omega)
  have hr : ∀ w, (Instr.slice 22 (.slice a9 n cap9) (some (.int .i64 (0))) none none).run Tryz.prog w = .ok (.slice b8 (n - 0) cb8) w := hrun
  have hv1 := hvv w0 _ hv9 (by rw [txL_len, hn])
  have R9 := Lib.hid (r9.left (lf' := lf.drop 0) (n := n - 0) (by rw [List.length_drop, hn]) (HBD.out.drop 0) (by unfold txL at hv1 ⊢; rw [List.map_drop]; exact hv1))
  have B9 := Lib.hid ((BU2.out.trans b9).trans (but_set w9 p 0 (.slice b8 (n - 0) cb8)))
  clear hrun hvv hv9 hv1 r9 b9 HQ
  go_wp2_with fail
  go_ret
  exact ⟨rfl, (by have := R9.out; rw [List.drop_zero, Bool.not_false, Bool.or_true] at this; exact this), B9.out⟩
end Go.Proofs.YtoiphglfngkoiaaGreatDoor.Cl
namespace Go.Proofs.YtoiphglfngkoiaaGreatDoor.Cl
set_option linter.unusedVariables false
open Go.RowKit Wd Rp Cu Kp
structure Dv where
  h : Tk
  n : Tk
  sa : Option Addr
  sn : Nat
  sc : Nat
  ba : Option Addr
  bn : Nat
  bc : Nat
def Dv.cells (d : Dv) : List Value := [.string (tx d.h), .string (tx d.n), .slice d.sa d.sn d.sc, .slice d.ba d.bn d.bc]
def Dv.v (d : Dv) : Value := .agg #[.string (tx d.h), .string (tx d.n), .slice d.sa d.sn d.sc, .slice d.ba d.bn d.bc]
def flatD (ds : List Dv) : List Value := ds.flatMap Dv.cells
theorem flatD_len (ds : List Dv) : (flatD ds).length = ds.length * 4 := by
  induction ds with
  | nil => rfl
  | cons d ds ih => unfold flatD at *; rw [List.flatMap_cons, List.length_append, ih, List.length_cons]; simp [Dv.cells]; omega
theorem flatD_app (l m : List Dv) : flatD (l ++ m) = flatD l ++ flatD m := List.flatMap_append
theorem flatD_one : ∀ (l : List Dv), ∀ u ∈ flatD l, u.oneCell' = true := fun l u hu => by
  unfold flatD at hu
  rw [List.mem_flatMap] at hu
  obtain ⟨d, -, h⟩ := hu
  simp [Dv.cells] at h
  rcases h with rfl | rfl | rfl | rfl <;> rfl
theorem flatD_get {ds : List Dv} {k : Nat} {d : Dv} (h : ds[k]? = some d) {j : Nat} {x : Value} (hj : d.cells[j]? = some x) : (flatD ds)[k * 4 + j]? = some x := by
  induction ds generalizing k with
  | nil => simp at h
  | cons e ds ih =>
    have hl : e.cells.length = 4 := rfl
    have hjl : j < 4 := (List.getElem?_eq_some_iff.1 hj).1
    unfold flatD at *
    rw [List.flatMap_cons]
    cases k with
    | zero =>
      simp at h; subst h
      rw [Nat.zero_mul, Nat.zero_add, List.getElem?_append_left (by omega)]; exact hj
    | succ k =>
      rw [List.getElem?_append_right (by omega), hl, show (k + 1) * 4 + j - 4 = k * 4 + j by omega]
      exact ih (by simpa using h)
def OwD (B : Nat) (w : World) (v : Value) (ds : List Dv) : Prop := w.ownsRow B 51 4 v ds.length (flatD ds)
theorem OwD.lt {B : Nat} {w : World} {v : Value} {l : List Dv} (h : OwD B w v l) : ∀ k, v.ownBlock = some k → B ≤ k := fun k hk => (World.ownsRow.lt h k hk).1
theorem OwD.low {B : Nat} {w : World} {v : Value} {l : List Dv} (h : OwD B w v l) : ∀ k, v.ownBlock = some k → k < w.heap.size := fun k hk => (World.ownsRow.lt h k hk).2
theorem OwD.same {B : Nat} {w w' : World} {v : Value} {l : List Dv} (h : OwD B w v l) (he : ∀ k, v.ownBlock = some k → w'.heap[k]? = w.heap[k]?) : OwD B w' v l := row_next h fun g hg _ => he g hg
theorem OwD.mono {B C : Nat} {w : World} {v : Value} {l : List Dv} (h : OwD B w v l) (hC : ∀ k, v.ownBlock = some k → C ≤ k) : OwD C w v l := by
  obtain ⟨h1, h2⟩ := h
  refine ⟨h1, ?_⟩
  rcases h2 with h2 | ⟨g, cap, cur, rfl, hB, h3⟩
  · exact .inl h2
  · exact .inr ⟨g, cap, cur, rfl, hC g rfl, h3⟩
theorem OwD.form {B : Nat} {w : World} {v : Value} {l : List Dv} (h : OwD B w v l) : ∃ a cap, v = .slice a l.length cap ∧ l.length ≤ cap ∧ cap ≤ maxLen := by
  rcases h.2 with ⟨rfl, hn⟩ | ⟨g, cap, cur, rfl, hB, hg, hn, hc, -⟩
  · exact ⟨none, 0, by rw [hn], by omega, by decide⟩
  · exact ⟨_, cap, rfl, hn, hc⟩
theorem OwD.cell {B : Nat} {w : World} {v : Value} {l : List Dv} (h : OwD B w v l) {k : Nat} {d : Dv} (hk : l[k]? = some d) : ∃ g cap, v = .slice (some ⟨g, 0, none⟩) l.length cap ∧ g < w.heap.size ∧ ∀ j x, d.cells[j]? = some x → w.cell? ⟨g, k * 4 + j, none⟩ = some x := by
  have hkl := (List.getElem?_eq_some_iff.1 hk).1
  rcases h.2 with ⟨rfl, hn⟩ | ⟨g, cap, cur, rfl, hB, hg, hn, hc, hsz, hxs⟩
  · omega
  · refine ⟨g, cap, rfl, (Array.getElem?_eq_some_iff.1 hg).1, fun j x hj => ?_⟩
    have hjl : j < 4 := (List.getElem?_eq_some_iff.1 hj).1
    have e1 := flatD_get hk hj
    rw [← hxs, List.getElem?_take_of_lt (by omega)] at e1
    rw [← e1]
    simp [World.cell?, hg]
theorem OwD.nothing (B : Nat) (w : World) : OwD B w (.slice none 0 0) [] := World.ownsRow_nil w B _ _
theorem infoD : (Tryz.prog.info? 51).map (fun i => (i.zero, i.size, i.bytes)) = some (some (.agg #[.string ⟨#[]⟩, .string ⟨#[]⟩, .slice none 0 0, .slice none 0 0]), 4, 80) := by kernel_rfl
def VD (w : World) (a : Option Addr) (cap : Nat) (ds : List Dv) : Prop := ds.length ≤ cap ∧ cap ≤ maxLen ∧ (a = none → cap = 0) ∧ ∀ k x, (flatD ds)[k]? = some x → ∃ g o, a = some ⟨g, o, none⟩ ∧ g < w.heap.size ∧ w.cell? ⟨g, o + k, none⟩ = some x
theorem vd_cells {w : World} {ad : Addr} {cap : Nat} {m : List Dv} (h : VD w (some ad) cap m) : ∀ j u, (flatD m)[j]? = some u → w.cell? (ad.add j) = some u := fun j u hj => by
  obtain ⟨g, o, e, -, hc⟩ := h.2.2.2 j u hj
  cases e
  have hadd : (⟨g, o, none⟩ : Addr).add j = ⟨g, o + j, none⟩ := by cases j <;> simp [Addr.add]
  rw [hadd]; exact hc
theorem OwD.view {B : Nat} {w : World} {v : Value} {l : List Dv} (h : OwD B w v l) : ∃ a cap, v = .slice a l.length cap ∧ VD w a cap l := by
  rcases h.2 with ⟨rfl, hn⟩ | ⟨g, cap, cur, rfl, hB, hg, hn, hc, hsz, hxs⟩
  · refine ⟨none, 0, by rw [hn], by omega, by decide, fun _ => rfl, fun k c hk => ?_⟩
    have := (List.getElem?_eq_some_iff.1 hk).1
    rw [flatD_len] at this; omega
  · refine ⟨_, cap, rfl, hn, hc, (fun e => by cases e), fun k c hk => ⟨g, 0, rfl, (Array.getElem?_eq_some_iff.1 hg).1, ?_⟩⟩
    have hkl := (List.getElem?_eq_some_iff.1 hk).1
    rw [flatD_len] at hkl
    have e1 := hk
    rw [← hxs, List.getElem?_take_of_lt (by omega)] at e1
    rw [← e1, Nat.zero_add]
    simp [World.cell?, hg]
theorem run_append_deeds {w : World} {base : Nat} {v : Value} {a : Option Addr} {cap : Nat} {l m : List Dv} (ty : TypeId) (hown : OwD base w v l) (hy : VD w a cap m) (hlen : l.length + m.length ≤ 10000000) (hbase : base ≤ w.heap.size) :
    ∃ v' w', (Builtin.append_ #[35, 35] ty #[v, .slice a m.length cap]).run Tryz.prog w = .ok v' w' ∧ OwD base w' v' (l ++ m) ∧ w.grownBy w' v.ownBlock ∧ (v'.ownBlock = v.ownBlock ∨ v'.ownBlock = some w.heap.size) := by
  obtain ⟨i0, hi, hz0, hz1, hz2⟩ := info_parts infoD
  cases a with
  | none =>
    have hc := hy.2.2.1 rfl
    have hm : m = [] := List.length_eq_zero_iff.1 (by have := hy.1; omega)
    subst hm hc
    rw [List.append_nil]
    exact ⟨v, w, run_append_owned_none w base 35 ty 51 i0 4 Tryz.underlying35 hi v _ _ hown, hown, World.grownBy.refl _ _, Or.inl rfl⟩
  | some ad =>
    obtain ⟨v', w', hr, h2, h3, h4, h5⟩ := run_append_own_at (P := Tryz.prog) w base 35 ty 51 i0 _ 4 80 Tryz.underlying35 hi hz0 hz1 hz2 rfl (by decide) v l.length (flatD l) hown
      ad m.length cap (flatD m) (flatD_len m) (vd_cells hy) (flatD_one m) (by unfold maxLen; omega) (by omega) hbase
    refine ⟨v', w', hr, ?_, h3, h5⟩
    unfold OwD
    rw [List.length_append, flatD_app]; exact h2
def DdM (w0 : World) (K : Nat → Prop) (w : World) (sub : Value → List Rc → Prop) (d : Dv) (f : List Rc) : Prop :=
  ∃ (sm : List Tk) (bs : List Value) (gs : List (List Rc)), d.sn = sm.length ∧ V1 w0 d.sa d.sc (txL sm) ∧ d.bn = bs.length ∧ V1 w d.ba d.bc bs ∧ (∀ g o, d.ba = some ⟨g, o, none⟩ → K g ∧ g < w.heap.size) ∧ bs.length = gs.length ∧
    (∀ (k : Nat) (b : Value) (g : List Rc), bs[k]? = some b → gs[k]? = some g → sub b g) ∧ f = (d.n, sm) :: gs.flatten
def DM (w0 : World) (K : Nat → Prop) (w : World) : Nat → Value → List Rc → Prop
  | 0 => fun _ _ => False
  | D + 1 => fun v F => ∃ (ds : List Dv) (fs : List (List Rc)), OwD 0 w v ds ∧ (∀ k, v.ownBlock = some k → K k) ∧ ds.length = fs.length ∧ (∀ (k : Nat) (d : Dv) (f : List Rc), ds[k]? = some d → fs[k]? = some f → DdM w0 K w (DM w0 K w D) d f) ∧ F = fs.flatten
theorem V1.keep {w w' : World} {a : Option Addr} {cap : Nat} {l : List Value} (h : V1 w a cap l) (hs : w.heap.size ≤ w'.heap.size) (hk : ∀ g o, a = some ⟨g, o, none⟩ → g < w.heap.size → w'.heap[g]? = w.heap[g]?) : V1 w' a cap l := by
  obtain ⟨h1, h2, h3, h4⟩ := h
  refine ⟨h1, h2, h3, fun k c hc => ?_⟩
  obtain ⟨g, o, e, hg, hx⟩ := h4 k c hc
  exact ⟨g, o, e, Nat.lt_of_lt_of_le hg hs, (World.cell?_of_block (w := w) (hk g o e hg)).trans hx⟩
theorem DdM.keep {w0 w w' : World} {K K' : Nat → Prop} (hs : w.heap.size ≤ w'.heap.size) (hk : ∀ g, K g → g < w.heap.size → w'.heap[g]? = w.heap[g]?) (hK : ∀ g, K g → g < w.heap.size → K' g) {sub sub' : Value → List Rc → Prop} (hsub : ∀ v f, sub v f → sub' v f) {d : Dv} {f : List Rc} (h : DdM w0 K w sub d f) : DdM w0 K' w' sub' d f := by
  obtain ⟨sm, bs, gs, h1, h2, h3, h4, h5, h6, h7, h8⟩ := h
  exact ⟨sm, bs, gs, h1, h2, h3, h4.keep hs (fun g o e hg => hk g (h5 g o e).1 hg), (fun g o e => ⟨hK g (h5 g o e).1 (h5 g o e).2, Nat.lt_of_lt_of_le (h5 g o e).2 hs⟩), h6, fun k b g hb hg => hsub _ _ (h7 k b g hb hg), h8⟩
theorem DM.keep {w0 w w' : World} {K K' : Nat → Prop} (hs : w.heap.size ≤ w'.heap.size) (hk : ∀ g, K g → g < w.heap.size → w'.heap[g]? = w.heap[g]?) (hK : ∀ g, K g → g < w.heap.size → K' g) : ∀ (D : Nat) (v : Value) (F : List Rc), DM w0 K w D v F → DM w0 K' w' D v F
  | 0, v, F, h => by cases h
  | D + 1, v, F, h => by
    obtain ⟨ds, fs, h1, h2, h3, h4, h5⟩ := h
    exact ⟨ds, fs, h1.same fun k hk' => hk k (h2 k hk') (h1.low k hk'), fun k hk' => hK k (h2 k hk') (h1.low k hk'), h3, fun k d f hd hf => (h4 k d f hd hf).keep hs hk hK (fun v f => DM.keep hs hk hK D v f), h5⟩
theorem append_deeds {ops : Array Oper} {rest : List Oper} {o : Oper} {a : Act} {Q : Exit → Act → World → Prop} {w : World} (hw : Region.wanted o (yielded ops a.tmps) = true) (s x : Operand)
    (ho : o.op = .call { callee := .builtin .append, args := #[s, x], argTypes := #[35, 35] })
    {base : Nat} {v : Value} {ad : Option Addr} {cap n : Nat} {l m : List Dv} (hs : a.eval s = v) (hx : a.eval x = .slice ad n cap) (hmn : m.length = n) (hown : OwD base w v l) (hy : VD w ad cap m) (hlen : l.length + m.length ≤ 10000000) (hbase : base ≤ w.heap.size)
    (h : ∀ v' w', OwD base w' v' (l ++ m) → w.grownBy w' v.ownBlock → (v'.ownBlock = v.ownBlock ∨ v'.ownBlock = some w.heap.size) → wpList Tryz.prog ops Q rest (a.put o.dst v') w') : wpList Tryz.prog ops Q (o :: rest) a w := by
  refine BigFrame.wpList_want hw fun K hK => ?_
  subst hmn
  obtain ⟨v', w', hr, h2, h3, h4⟩ := run_append_deeds o.type hown hy hlen hbase
  unfold Oper.wp execOp
  simp only [ho, resolve, invoke, builtin, Sem.run_bind, Sem.run_pure, Result.andThen_ok, List.map_toArray, List.map_cons, List.map_nil, hs, hx, hr]
  exact hK _ _ (h v' w' h2 h3 h4)
theorem litD (w : World) (d : Dv) : VD (w.alloc (.cells #[.string (tx d.h), .string (tx d.n), .slice d.sa d.sn d.sc, .slice d.ba d.bn d.bc] 51)) (some ⟨w.heap.size, 0, none⟩) 1 [d] := by
  have h := World.ownsRow_lit (base := 0) (e := 51) (size := 4) w #[.string (tx d.h), .string (tx d.n), .slice d.sa d.sn d.sc, .slice d.ba d.bn d.bc] 1 (Nat.zero_le _) (by decide) rfl
  obtain ⟨a, cap, e, hv⟩ := OwD.view (B := 0) (l := [d]) h
  cases e
  exact hv
end Go.Proofs.YtoiphglfngkoiaaGreatDoor.Cl
namespace Go.Proofs.YtoiphglfngkoiaaGreatDoor.Cl
set_option linter.unusedVariables false
open Go.RowKit Wd Rp Cu Kp
structure B4 (q : Nat) (v0 v1 v2 v3 : Value) (w : World) : Prop where
  c0 : w.cell? ⟨q, 0, none⟩ = some v0
  c1 : w.cell? ⟨q, 1, none⟩ = some v1
  c2 : w.cell? ⟨q, 2, none⟩ = some v2
  c3 : w.cell? ⟨q, 3, none⟩ = some v3
  f0 : w.frozen? ⟨q, 0, none⟩ = false
  f1 : w.frozen? ⟨q, 1, none⟩ = false
  f2 : w.frozen? ⟨q, 2, none⟩ = false
  f3 : w.frozen? ⟨q, 3, none⟩ = false
  lt : q < w.heap.size
theorem B4.of {q T : Nat} {v0 v1 v2 v3 : Value} {w : World} (e : w.heap[q]? = some (.cells #[v0, v1, v2, v3] T (0, 0))) : B4 q v0 v1 v2 v3 w :=
  ⟨by simp only [World.cell?, e]; rfl, by simp only [World.cell?, e]; rfl, by simp only [World.cell?, e]; rfl, by simp only [World.cell?, e]; rfl, by simp only [World.frozen?, e]; rfl, by simp only [World.frozen?, e]; rfl, by simp only [World.frozen?, e]; rfl, by simp only [World.frozen?, e]; rfl, (Array.getElem?_eq_some_iff.1 e).1⟩
theorem B4.same {q : Nat} {v0 v1 v2 v3 : Value} {w w' : World} (h : B4 q v0 v1 v2 v3 w) (e : w'.heap[q]? = w.heap[q]?) (hs : w.heap.size ≤ w'.heap.size) : B4 q v0 v1 v2 v3 w' :=
  ⟨(World.cell?_of_block (w := w) e).trans h.c0, (World.cell?_of_block (w := w) e).trans h.c1, (World.cell?_of_block (w := w) e).trans h.c2, (World.cell?_of_block (w := w) e).trans h.c3, (World.frozen?_of_block (w := w) e).trans h.f0, (World.frozen?_of_block (w := w) e).trans h.f1, (World.frozen?_of_block (w := w) e).trans h.f2, (World.frozen?_of_block (w := w) e).trans h.f3, Nat.lt_of_lt_of_le h.lt hs⟩
theorem B4.next {q : Nat} {v0 v1 v2 v3 : Value} {w w' : World} (h : B4 q v0 v1 v2 v3 w) (hb : Below w.heap.size w w') : B4 q v0 v1 v2 v3 w' := h.same (hb.block q h.lt) hb.size
theorem B4.but {p q : Nat} {v0 v1 v2 v3 : Value} {w w' : World} (h : B4 q v0 v1 v2 v3 w) (hb : But p w w') (hne : q ≠ p) : B4 q v0 v1 v2 v3 w' := h.same (hb.block q h.lt hne) hb.size
theorem B4.set0 {q : Nat} {v0 v1 v2 v3 : Value} {w : World} (h : B4 q v0 v1 v2 v3 w) (u : Value) : B4 q u v1 v2 v3 (w.setCell ⟨q, 0, none⟩ u) :=
  ⟨World.cell?_setCell_same' _ _ _ (by rw [h.c0]; rfl), coff3 (by decide) h.c1, coff3 (by decide) h.c2, coff3 (by decide) h.c3, by rw [World.frozen?_setCell]; exact h.f0, by rw [World.frozen?_setCell]; exact h.f1, by rw [World.frozen?_setCell]; exact h.f2, by rw [World.frozen?_setCell]; exact h.f3, by rw [World.size_setCell]; exact h.lt⟩
theorem B4.set1 {q : Nat} {v0 v1 v2 v3 : Value} {w : World} (h : B4 q v0 v1 v2 v3 w) (u : Value) : B4 q v0 u v2 v3 (w.setCell ⟨q, 1, none⟩ u) :=
  ⟨coff3 (by decide) h.c0, World.cell?_setCell_same' _ _ _ (by rw [h.c1]; rfl), coff3 (by decide) h.c2, coff3 (by decide) h.c3, by rw [World.frozen?_setCell]; exact h.f0, by rw [World.frozen?_setCell]; exact h.f1, by rw [World.frozen?_setCell]; exact h.f2, by rw [World.frozen?_setCell]; exact h.f3, by rw [World.size_setCell]; exact h.lt⟩
theorem B4.set2 {q : Nat} {v0 v1 v2 v3 : Value} {w : World} (h : B4 q v0 v1 v2 v3 w) (u : Value) : B4 q v0 v1 u v3 (w.setCell ⟨q, 2, none⟩ u) :=
  ⟨coff3 (by decide) h.c0, coff3 (by decide) h.c1, World.cell?_setCell_same' _ _ _ (by rw [h.c2]; rfl), coff3 (by decide) h.c3, by rw [World.frozen?_setCell]; exact h.f0, by rw [World.frozen?_setCell]; exact h.f1, by rw [World.frozen?_setCell]; exact h.f2, by rw [World.frozen?_setCell]; exact h.f3, by rw [World.size_setCell]; exact h.lt⟩
theorem B4.set3 {q : Nat} {v0 v1 v2 v3 : Value} {w : World} (h : B4 q v0 v1 v2 v3 w) (u : Value) : B4 q v0 v1 v2 u (w.setCell ⟨q, 3, none⟩ u) :=
  ⟨coff3 (by decide) h.c0, coff3 (by decide) h.c1, coff3 (by decide) h.c2, World.cell?_setCell_same' _ _ _ (by rw [h.c3]; rfl), by rw [World.frozen?_setCell]; exact h.f0, by rw [World.frozen?_setCell]; exact h.f1, by rw [World.frozen?_setCell]; exact h.f2, by rw [World.frozen?_setCell]; exact h.f3, by rw [World.size_setCell]; exact h.lt⟩
def Sx (w0 : World) (p : Nat) (l : List Tk) (o : Int) (x : Int) (z : World) : Prop := (x = -1 ∧ ∃ lf, Rd w0 p lf o true z) ∨ (x ≠ -1 ∧ 0 ≤ x ∧ x ≤ l.length ∧ Rd w0 p (l.drop x.toNat) o false z)
theorem Sx.next {w0 z z' : World} {p : Nat} {l : List Tk} {o x : Int} (h : Sx w0 p l o x z) (hb : Below z.heap.size z z') : Sx w0 p l o x z' := by
  rcases h with ⟨e, lf, h⟩ | ⟨e, h0, h1, h⟩
  · exact Or.inl ⟨e, lf, h.next hb⟩
  · exact Or.inr ⟨e, h0, h1, h.next hb⟩
theorem Rd.same {w0 w w' : World} {p : Nat} {lf : List Tk} {o : Int} {fl : Bool} (h : Rd w0 p lf o fl w) (hb : Below w0.heap.size w w') (e : w'.heap[p]? = w.heap[p]?) : Rd w0 p lf o fl w' := by
  obtain ⟨a, cap, h0, hv⟩ := h.vw
  exact ⟨h.bel.trans hb, h.lo, Nat.lt_of_lt_of_le h.lt hb.size, h.bd, ⟨a, cap, (World.cell?_of_block (w := w) e).trans h0, hv⟩, (World.cell?_of_block (w := w) e).trans h.c1, (World.cell?_of_block (w := w) e).trans h.c2,
    (World.frozen?_of_block (w := w) e).trans h.f0, (World.frozen?_of_block (w := w) e).trans h.f1, (World.frozen?_of_block (w := w) e).trans h.f2⟩
theorem Sx.set {w0 z : World} {p q j : Nat} {l : List Tk} {o x : Int} (h : Sx w0 p l o x z) (hq : w0.heap.size ≤ q) (hne : p ≠ q) (u : Value) : Sx w0 p l o x (z.setCell ⟨q, j, none⟩ u) := by
  have hb : Below w0.heap.size z (z.setCell ⟨q, j, none⟩ u) := (Below.refl _ z).setCell (p := ⟨q, j, none⟩) hq u
  have e : (z.setCell ⟨q, j, none⟩ u).heap[p]? = z.heap[p]? := Below.heap_setCell _ _ _ _ hne
  rcases h with ⟨e', lf, h⟩ | ⟨e', h0, h1, h⟩
  · exact Or.inl ⟨e', lf, h.same hb e⟩
  · exact Or.inr ⟨e', h0, h1, h.same hb e⟩
theorem Sx.lo {w0 z : World} {p : Nat} {l : List Tk} {o x : Int} (h : Sx w0 p l o x z) : w0.heap.size ≤ p ∧ p < z.heap.size := by
  rcases h with ⟨e', lf, h⟩ | ⟨e', h0, h1, h⟩
  · exact ⟨h.lo, h.lt⟩
  · exact ⟨h.lo, h.lt⟩
def nmX (l : List Tk) (x : Int) : Int := if nmA l x then x + 1 else -1
theorem nmX_neg (l : List Tk) : nmX l (-1) = -1 := by
  have : nmA l (-1) = false := by unfold nmA; rw [tkA_neg (by omega)]
  unfold nmX; rw [this]; rfl
theorem sm_neg1 (l : List Tk) (kind : Int) : smV l kind (-1) = -1 := by
  have := sm_ahd l kind (-1)
  unfold Ahd at this
  omega
theorem drop_tk {l : List Tk} {x : Int} {s : Tk} (h : tkA l x = some s) : l.drop x.toNat = s :: l.drop (x + 1).toNat := by
  obtain ⟨h0, h1, h2⟩ := tkA_some h
  obtain ⟨hlt, e⟩ := List.getElem?_eq_some_iff.1 h2
  rw [List.drop_eq_getElem_cons hlt, e, show (x + 1).toNat = x.toNat + 1 by omega]
theorem drop_no {l : List Tk} {x : Int} (h0 : 0 ≤ x) (h : tkA l x = none) : l.drop x.toNat = [] := by
  unfold tkA at h
  rw [if_neg (by omega)] at h
  exact List.drop_eq_nil_of_le (List.getElem?_eq_none_iff.1 h)
theorem enA_drop (l : List Tk) {x : Int} (h0 : 0 ≤ x) : enA (l.drop x.toNat) 0 = enA l x := by
  unfold enA
  rw [if_neg (by omega), if_neg (by omega)]; rfl
theorem tx_nil : tx [] = ⟨#[]⟩ := rfl
def tkX (l : List Tk) (x : Int) : Int := if tkA l x = none then -1 else x + 1
theorem token_x {w0 z : World} {p : Nat} {l : List Tk} {o x : Int} (h : Sx w0 p l o x z) : Calls Tryz.prog 42 #[.pointer (some ⟨p, 0, none⟩)] z fun e z' => ∃ t, e = .returned (.string (tx t)) ∧ But p z z' ∧ Sx w0 p l o (tkX l x) z' ∧ t = tkN l x := by
  rcases h with ⟨e, lf, h⟩ | ⟨e, h0, h1, h⟩
  · subst e
    have e1 : tkA l (-1) = none := tkA_neg (by omega)
    refine (token_fail h).mono ?_; rintro e z' ⟨rfl, r, b⟩
    exact ⟨[], rfl, b, Or.inl ⟨by unfold tkX; rw [if_pos e1], lf, r⟩, by unfold tkN; rw [e1]; rfl⟩
  · cases hs : tkA l x with
    | none =>
      rw [drop_no h0 hs] at h
      refine (token_nil h).mono ?_; rintro e z' ⟨rfl, r, b⟩
      exact ⟨[], rfl, b, Or.inl ⟨by unfold tkX; rw [if_pos hs], [], r⟩, by unfold tkN; rw [hs]; rfl⟩
    | some s =>
      have := tkA_some hs
      rw [drop_tk hs] at h
      refine (token_cons h).mono ?_; rintro e z' ⟨rfl, r, b⟩
      have hx : tkX l x = x + 1 := by unfold tkX; rw [if_neg (by rw [hs]; simp)]
      exact ⟨s, rfl, b, Or.inr ⟨by rw [hx]; omega, by rw [hx]; omega, by rw [hx]; omega, by rw [hx]; exact r⟩, by unfold tkN; rw [hs]; rfl⟩
theorem require_x {w0 z : World} {p : Nat} {l : List Tk} {o x : Int} (h : Sx w0 p l o x z) (b : Bool) : Calls Tryz.prog 46 #[.pointer (some ⟨p, 0, none⟩), .bool b] z fun e z' => e = .returned (.tuple #[]) ∧ But p z z' ∧ Sx w0 p l o (if b then x else -1) z' := by
  rcases h with ⟨e, lf, h⟩ | ⟨e, h0, h1, h⟩
  · subst e
    refine (require_any h b).mono ?_; rintro e z' ⟨rfl, r, b'⟩
    exact ⟨rfl, b', Or.inl ⟨by cases b <;> rfl, lf, r⟩⟩
  · refine (require_any h b).mono ?_; rintro e' z' ⟨rfl, r, b'⟩
    cases b
    · exact ⟨rfl, b', Or.inl ⟨rfl, _, r⟩⟩
    · exact ⟨rfl, b', Or.inr ⟨e, h0, h1, r⟩⟩
theorem nm_tk {l : List Tk} {x : Int} : nmX l x = if nmB (tkN l x) then tkX l x else -1 := by
  unfold nmX nmA tkN tkX
  cases h : tkA l x with
  | none => simp [nmB_nil]
  | some s => simp
set_option maxHeartbeats 1000000 in
set_option maxRecDepth 100000 in
theorem name_x {w0 z : World} {p : Nat} {l : List Tk} {o x : Int} (h : Sx w0 p l o x z) : Calls Tryz.prog 43 #[.pointer (some ⟨p, 0, none⟩)] z fun e z' => ∃ t, e = .returned (.string (tx t)) ∧ But p z z' ∧ Sx w0 p l o (nmX l x) z' ∧ t = tkN l x := by
  have HT := Lib.hid (token_x h)
  have HX := Lib.hid (nm_tk (l := l) (x := x))
  clear h
  generalize nmX l x = y at *
  go_enter Tryz.func43, Tryz.ntmps43
  go_wp2_with fail
  refine HT.out.mono ?_; rintro e w1 ⟨t, rfl, b1, r1, ht⟩
  have HN := Lib.hid (nmI_any t w1)
  have HQ := Lib.hid (fun b => require_x r1 b)
  have B1 := Lib.hid b1
  have HT' := Lib.hid ht
  clear r1 b1 ht
  go_wp2_with fail
  refine HN.out.mono ?_; rintro e w2 ⟨rfl, rfl⟩
  go_wp2_with fail
  refine (HQ.out _).mono ?_; rintro e w3 ⟨rfl, b3, r3⟩
  have R3 := Lib.hid r3
  have B3 := Lib.hid (B1.out.trans b3)
  clear r3 b3
  go_wp2_with fail
  go_ret
  exact ⟨t, rfl, B3.out, (by have := R3.out; rw [HT'.out, ← HX.out] at this; exact this), HT'.out⟩
theorem sum_x {w0 z : World} {p : Nat} {l : List Tk} {o x : Int} (hL : Lib3 w0) (kind : Int) (hk : kind ≠ 0) (h : Sx w0 p l o x z) : Calls Tryz.prog 44 #[.pointer (some ⟨p, 0, none⟩), .int .i64 kind] z fun e z' => ∃ a n c, e = .returned (.slice a n c) ∧ But p z z' ∧ Sx w0 p l o (smV l kind x) z' ∧ (smV l kind x ≠ -1 → n = (smT l x).length ∧ V1 w0 a c (txL (smT l x))) := by
  rcases h with ⟨e, lf, h⟩ | ⟨e, h0, h1, h⟩
  · subst e
    rw [sm_neg1]
    cases he : enA lf 0 with
    | none =>
      refine (sum_no hL hk h he).mono ?_; rintro e z' ⟨rfl, r, b⟩
      exact ⟨_, _, _, rfl, b, Or.inl ⟨rfl, _, r⟩, fun e => absurd rfl e⟩
    | some m =>
      refine (sum_yes hL h he).mono ?_; rintro e z' ⟨a, cap, rfl, hv, r, b⟩
      exact ⟨_, _, _, rfl, b, Or.inl ⟨rfl, _, r⟩, fun e => absurd rfl e⟩
  · have hed := enA_drop l h0
    cases he : enA l x with
    | none =>
      have hx : smV l kind x = -1 := by unfold smV; rw [if_pos (Or.inl (by rw [edV_none he]; decide))]
      rw [hx]
      rw [he] at hed
      refine (sum_no hL hk h hed).mono ?_; rintro e z' ⟨rfl, r, b⟩
      exact ⟨_, _, _, rfl, b, Or.inl ⟨rfl, _, r⟩, fun e => absurd rfl e⟩
    | some m =>
      rw [he] at hed
      have hsm : smT l x = (l.drop x.toNat).take m := by unfold smT; rw [he]
      have hev := edV_some he
      obtain ⟨k0, hk0, hkm, hpl, hen, -⟩ := enA_piece he
      have hkk : k0 = x.toNat := by omega
      subst hkk
      have e2 : enA ((l.drop x.toNat).take m) 0 = some m := by
        unfold enA
        rw [if_neg (by omega)]; exact hen
      have htt : (((l.drop x.toNat).take m).drop (0 : Int).toNat).take m = (l.drop x.toNat).take m := by
        show ((l.drop x.toNat).take m).take m = _
        rw [List.take_take, Nat.min_self]
      have kq : kdV ((l.drop x.toNat).take m) 0 = kdV l x := foV_agr kdF kdG 0 he e2 htt
      have dq : dpV ((l.drop x.toNat).take m) 0 = dpV l x := foV_agr dpF dpG 0 he e2 htt
      refine (sum_yes hL h hed).mono ?_; rintro e z' ⟨a, cap, rfl, hv, r, b⟩
      rw [kq, dq] at r
      refine ⟨_, _, _, rfl, b, ?_, fun _ => ?_⟩
      · by_cases c1 : kdV l x = kind
        · by_cases c2 : dpV l x ≤ 5
          · have hx : smV l kind x = edV l x := sm_yes (by rw [hev]; omega) c1 (by omega)
            rw [beq_iff_eq.2 c1, decide_eq_true c2] at r
            refine Or.inr ⟨by rw [hx, hev]; omega, by rw [hx, hev]; omega, by rw [hx, hev]; omega, ?_⟩
            rw [hx, hev, show (x + (m : Int)).toNat = x.toNat + m by omega, ← List.drop_drop]
            exact r
          · have hx : smV l kind x = -1 := sm_deep (by omega)
            rw [decide_eq_false c2, Bool.and_false] at r
            exact Or.inl ⟨hx, _, r⟩
        · have hx : smV l kind x = -1 := sm_kind c1
          rw [beq_eq_false_iff_ne.2 c1, Bool.false_and] at r
          exact Or.inl ⟨hx, _, r⟩
      · rw [hsm]
        exact ⟨hpl.symm, hv⟩
end Go.Proofs.YtoiphglfngkoiaaGreatDoor.Cl
namespace Go.Proofs.YtoiphglfngkoiaaGreatDoor.Cl
set_option linter.unusedVariables false
open Go.RowKit Wd Rp Cu Kp
theorem tx_eqL (a : Tk) : ((tx a).toList == a) = true := by rw [Lib.toList_data, tx_data, beq_iff_eq]
theorem ddX {l : List Tk} {B : Int → Int} {x : Int} : ddG l B x = (if tkN l x = setT then smV l 1 (nmX l (tkX l x)) else if tkN l x = cutT then nmX l (tkX l x) else if tkN l x = stopT then tkX l x
    else if tkN l x = ifT then B (B (smV l 2 (tkX l x))) else if tkN l x = whT then B (smV l 2 (tkX l x)) else -1) := by
  cases h : tkA l x with
  | none =>
    have e : tkN l x = [] := by unfold tkN; rw [h]; rfl
    rw [ddG_none h, e]
    simp [setT, cutT, stopT, ifT, whT]
  | some s =>
    have e : tkN l x = s := by unfold tkN; rw [h]; rfl
    have e2 : tkX l x = x + 1 := by unfold tkX; rw [if_neg (by rw [h]; simp)]
    rw [ddG_some h, e, e2]
    unfold nmX
    split
    · split
      · rw [show x + 1 + 1 = x + 2 by omega]
      · rw [sm_neg1]
    · split
      · rw [show x + 1 + 1 = x + 2 by omega]
      · rfl
theorem tkX_neg {l : List Tk} {x : Int} (h : tkX l x ≠ -1) : tkX l x = x + 1 ∧ ∃ s, tkA l x = some s ∧ tkN l x = s := by
  unfold tkX at h ⊢
  split at h
  · exact absurd rfl h
  · rename_i e
    rw [if_neg e]
    cases h2 : tkA l x with
    | none => exact absurd h2 e
    | some s => exact ⟨rfl, s, rfl, by unfold tkN; rw [h2]; rfl⟩
theorem nmX_ne {l : List Tk} {x : Int} (h : nmX l x ≠ -1) : nmX l x = x + 1 := by
  unfold nmX at h ⊢
  split at h
  · rename_i e; rw [if_pos e]
  · exact absurd rfl h
theorem ddQ_x {l : List Tk} {B : Int → Int} {R : Int → List Rc} {x : Int} {s : Tk} (h : tkA l x = some s) (e : tkN l x = s) : ddQ l B R x = (if tkN l x = setT then [(tkN l (x + 1), smT l (x + 2))] else if tkN l x = cutT then [(tkN l (x + 1), [])] else if tkN l x = stopT then [([], [])]
    else if tkN l x = ifT then ([], smT l (x + 1)) :: (R (smV l 2 (x + 1)) ++ R (B (smV l 2 (x + 1)))) else if tkN l x = whT then ([], smT l (x + 1)) :: R (smV l 2 (x + 1)) else []) := by rw [ddQ_some h, e]
def BlkC (w0 : World) (p : Nat) (l : List Tk) (D : Nat) (o : Int) (B : Int → Int) (R : Int → List Rc) : Prop := ∀ (x : Int) (z : World), Sx w0 p l o x z →
  Calls Tryz.prog 45 #[.pointer (some ⟨p, 0, none⟩)] z fun e z' => ∃ a n c, e = .returned (.slice a n c) ∧ But p z z' ∧ Sx w0 p l o (B x) z' ∧ (B x ≠ -1 → DM w0 (z.heap.size ≤ ·) z' D (.slice a n c) (R x))
def DeedC (w0 : World) (p : Nat) (l : List Tk) (D : Nat) (o : Int) (f : Int → Int) (R : Int → List Rc) : Prop := ∀ (x : Int) (z : World), Sx w0 p l o x z →
  Calls Tryz.prog 31 #[.pointer (some ⟨p, 0, none⟩)] z fun e z' => ∃ d : Dv, e = .returned d.v ∧ But p z z' ∧ Sx w0 p l o (f x) z' ∧ (f x ≠ -1 → DdM w0 (z.heap.size ≤ ·) z' (DM w0 (z.heap.size ≤ ·) z' D) d (R x))
def put4 (w : World) (q : Nat) (a b c d : Value) : World := (((w.setCell ⟨q, 0, none⟩ a).setCell ⟨q, 1, none⟩ b).setCell ⟨q, 2, none⟩ c).setCell ⟨q, 3, none⟩ d
theorem put4_heap (w : World) (q : Nat) (a b c d : Value) {k : Nat} (h : k ≠ q) : (put4 w q a b c d).heap[k]? = w.heap[k]? := by
  unfold put4
  rw [Below.heap_setCell _ _ _ _ h, Below.heap_setCell _ _ _ _ h, Below.heap_setCell _ _ _ _ h, Below.heap_setCell _ _ _ _ h]
theorem put4_size (w : World) (q : Nat) (a b c d : Value) : (put4 w q a b c d).heap.size = w.heap.size := by unfold put4; rw [World.size_setCell, World.size_setCell, World.size_setCell, World.size_setCell]
theorem but_put4 {p q : Nat} {w W : World} (h : But p w W) (hq : w.heap.size ≤ q) (a b c d : Value) : But p w (put4 W q a b c d) :=
  (((h.setNew (p := ⟨q, 0, none⟩) hq a).setNew (p := ⟨q, 1, none⟩) hq b).setNew (p := ⟨q, 2, none⟩) hq c).setNew (p := ⟨q, 3, none⟩) hq d
theorem Sx.put4 {w0 W : World} {p q : Nat} {l : List Tk} {o x : Int} (h : Sx w0 p l o x W) (hq : w0.heap.size ≤ q) (hne : p ≠ q) (a b c d : Value) : Sx w0 p l o x (put4 W q a b c d) :=
  (((h.set (j := 0) hq hne a).set (j := 1) hq hne b).set (j := 2) hq hne c).set (j := 3) hq hne d
theorem put4_c0 {w : World} {q : Nat} {v0 v1 v2 v3 : Value} (h : B4 q v0 v1 v2 v3 w) (a b c d : Value) : ((((w.setCell ⟨q, 0, none⟩ a).setCell ⟨q, 1, none⟩ b).setCell ⟨q, 2, none⟩ c).setCell ⟨q, 3, none⟩ d).cell? ⟨q, 0, none⟩ = some a := ((((h.set0 a).set1 b).set2 c).set3 d).c0
theorem put4_c1 {w : World} {q : Nat} {v0 v1 v2 v3 : Value} (h : B4 q v0 v1 v2 v3 w) (a b c d : Value) : ((((w.setCell ⟨q, 0, none⟩ a).setCell ⟨q, 1, none⟩ b).setCell ⟨q, 2, none⟩ c).setCell ⟨q, 3, none⟩ d).cell? ⟨q, 1, none⟩ = some b := ((((h.set0 a).set1 b).set2 c).set3 d).c1
theorem put4_c2 {w : World} {q : Nat} {v0 v1 v2 v3 : Value} (h : B4 q v0 v1 v2 v3 w) (a b c d : Value) : ((((w.setCell ⟨q, 0, none⟩ a).setCell ⟨q, 1, none⟩ b).setCell ⟨q, 2, none⟩ c).setCell ⟨q, 3, none⟩ d).cell? ⟨q, 2, none⟩ = some c := ((((h.set0 a).set1 b).set2 c).set3 d).c2
theorem put4_c3 {w : World} {q : Nat} {v0 v1 v2 v3 : Value} (h : B4 q v0 v1 v2 v3 w) (a b c d : Value) : ((((w.setCell ⟨q, 0, none⟩ a).setCell ⟨q, 1, none⟩ b).setCell ⟨q, 2, none⟩ c).setCell ⟨q, 3, none⟩ d).cell? ⟨q, 3, none⟩ = some d := ((((h.set0 a).set1 b).set2 c).set3 d).c3
theorem put4a_c0 {w : World} {q : Nat} {v0 v1 v2 v3 : Value} (h : B4 q v0 v1 v2 v3 w) (a b c d : Value) (ob : Obj) : (((((w.setCell ⟨q, 0, none⟩ a).setCell ⟨q, 1, none⟩ b).setCell ⟨q, 2, none⟩ c).setCell ⟨q, 3, none⟩ d).alloc ob).cell? ⟨q, 0, none⟩ = some a := (((((h.set0 a).set1 b).set2 c).set3 d).next (bel1 _ ob)).c0
theorem put4a_c1 {w : World} {q : Nat} {v0 v1 v2 v3 : Value} (h : B4 q v0 v1 v2 v3 w) (a b c d : Value) (ob : Obj) : (((((w.setCell ⟨q, 0, none⟩ a).setCell ⟨q, 1, none⟩ b).setCell ⟨q, 2, none⟩ c).setCell ⟨q, 3, none⟩ d).alloc ob).cell? ⟨q, 1, none⟩ = some b := (((((h.set0 a).set1 b).set2 c).set3 d).next (bel1 _ ob)).c1
theorem put4a_c2 {w : World} {q : Nat} {v0 v1 v2 v3 : Value} (h : B4 q v0 v1 v2 v3 w) (a b c d : Value) (ob : Obj) : (((((w.setCell ⟨q, 0, none⟩ a).setCell ⟨q, 1, none⟩ b).setCell ⟨q, 2, none⟩ c).setCell ⟨q, 3, none⟩ d).alloc ob).cell? ⟨q, 2, none⟩ = some c := (((((h.set0 a).set1 b).set2 c).set3 d).next (bel1 _ ob)).c2
theorem put4a_c3 {w : World} {q : Nat} {v0 v1 v2 v3 : Value} (h : B4 q v0 v1 v2 v3 w) (a b c d : Value) (ob : Obj) : (((((w.setCell ⟨q, 0, none⟩ a).setCell ⟨q, 1, none⟩ b).setCell ⟨q, 2, none⟩ c).setCell ⟨q, 3, none⟩ d).alloc ob).cell? ⟨q, 3, none⟩ = some d := (((((h.set0 a).set1 b).set2 c).set3 d).next (bel1 _ ob)).c3
theorem dd_plain (w0 : World) (K : Nat → Prop) (W : World) (sub : Value → List Rc → Prop) (h n : Tk) {sa : Option Addr} {sn sc : Nat} {sm : List Tk} (hn : sn = sm.length) (hv : V1 w0 sa sc (txL sm)) : DdM w0 K W sub ⟨h, n, sa, sn, sc, none, 0, 0⟩ [(n, sm)] :=
  ⟨sm, [], [], hn, hv, rfl, ⟨Nat.le_refl _, Nat.zero_le _, fun _ => rfl, fun k x hk => by simp at hk⟩, (fun g o e => by cases e), rfl, (fun k b g hk => by simp at hk), rfl⟩
theorem v1_nil (w : World) : V1 w none 0 (txL []) := ⟨Nat.le_refl _, by decide, fun _ => rfl, fun k x hk => by simp [txL] at hk⟩
theorem v1_lit {W : World} {s : Nat} {T : TypeId} (xs : List Value) (hm : xs.length ≤ 1000) (hs : s < W.heap.size) (he : W.heap[s]? = some (.cells xs.toArray T (0, 0))) : V1 W (some ⟨s, 0, none⟩) xs.length xs :=
  ⟨Nat.le_refl _, by unfold maxLen; omega, (fun e => by cases e), fun k x hk => ⟨s, 0, rfl, hs, by simp [World.cell?, he, hk]⟩⟩
set_option maxHeartbeats 8000000 in
set_option maxRecDepth 100000 in
theorem deed_of {w0 : World} {p : Nat} {l : List Tk} {D : Nat} {o : Int} {B : Int → Int} {R : Int → List Rc} (hL : Lib3 w0) (hB0 : B (-1) = -1) (hB : BlkC w0 p l D o B R) : DeedC w0 p l D o (ddG l B) (ddQ l B R) := by
  intro x w hs
  have hlo := hs.lo.1
  have hlt := hs.lo.2
  have HB := Lib.hid hB
  have HS := Lib.hid (fun (y : Int) (z : World) (kind : Int) (hk : kind ≠ 0) (h : Sx w0 p l o y z) => sum_x hL kind hk h)
  have H1 := Lib.hid (bel1 w (.cells #[.string ⟨#[]⟩, .string ⟨#[]⟩, .slice none 0 0, .slice none 0 0] 51))
  have HN := new_of w (.cells #[.string ⟨#[]⟩, .string ⟨#[]⟩, .slice none 0 0, .slice none 0 0] 51)
  have HT := Lib.hid (token_x (hs.next H1.out))
  have HBU := Lib.hid (But.of H1.out : But p w _)
  have HD := Lib.hid (ddX (l := l) (B := B) (x := x))
  have HQ := Lib.hid (fun s h e => ddQ_x (l := l) (B := B) (R := R) (x := x) (s := s) h e)
  have HTX := Lib.hid (fun h => tkX_neg (l := l) (x := x) h)
  clear hs hB hL
  generalize ddG l B x = rr at *
  generalize ddQ l B R x = rq at *
  generalize hx1 : tkX l x = x1 at *
  clear hx1
  generalize hq : w.heap.size = q at *
  have Q1 := Lib.hid (B4.of HN)
  have BL1 := Lib.hid (show Below q w _ from H1.out)
  clear HN H1
  go_enter Tryz.func31, Tryz.ntmps31
  go_wp2_with fail
  generalize w.alloc (.cells #[.string ⟨#[]⟩, .string ⟨#[]⟩, .slice none 0 0, .slice none 0 0] 51) = w1 at *
  have HQW := Lib.hid hq
  clear hq
  refine HT.out.mono ?_; rintro e w2 ⟨t, rfl, b2, r2, ht⟩
  have HTN := Lib.hid ht
  rw [← ht] at HD HQ HTX
  clear ht HT
  have Q2 := Lib.hid (Q1.out.but b2 (by omega))
  have BU2 := Lib.hid (HBU.out.trans b2)
  have hz2 : q < w2.heap.size := Q2.out.lt
  have R3 := Lib.hid (r2.next (bel1 w2 (.cells #[.string (tx t), .string ⟨#[]⟩, .slice none 0 0, .slice none 0 0] 51)))
  have Q3 := Lib.hid (Q2.out.next (bel1 w2 (.cells #[.string (tx t), .string ⟨#[]⟩, .slice none 0 0, .slice none 0 0] 51)))
  have D3 := Lib.hid (B4.of (new_of w2 (.cells #[.string (tx t), .string ⟨#[]⟩, .slice none 0 0, .slice none 0 0] 51)))
  have BU3 := Lib.hid (BU2.out.alloc (.cells #[.string (tx t), .string ⟨#[]⟩, .slice none 0 0, .slice none 0 0] 51))
  have R2 := Lib.hid r2
  clear r2 b2 Q1 HBU BL1
  have hrp : w2.heap.size ≠ p := by omega
  have hpr : p ≠ w2.heap.size := by omega
  have hqp : q ≠ p := by omega
  have hpq : p ≠ q := by omega
  have hqr : q ≠ w2.heap.size := by omega
  have hrb : w0.heap.size ≤ w2.heap.size := by omega
  have hqb : w0.heap.size ≤ q := by omega
  have hwq : w.heap.size ≤ q := by have := HQW.out; omega
  have hwr : w.heap.size ≤ w2.heap.size := by have := HQW.out; omega
  have hrz : w2.heap.size < _ := D3.out.lt
  by_cases b0 : t = setT
  · subst b0
    have qe : ((tx setT).toList == [115, 101, 116]) = true := tx_eqL _
    replace HD := Lib.hid (HD.out.trans (if_pos rfl))
    replace HQ := Lib.hid (fun s h e => (HQ.out s h e).trans (if_pos rfl))
    have d0 := D3.out.c0; have d1 := D3.out.c1; have d2 := D3.out.c2; have d3 := D3.out.c3
    have g0 := D3.out.f0; have g1 := D3.out.f1; have g2 := D3.out.f2; have g3 := D3.out.f3
    have e0 := Q3.out.c0; have e1 := Q3.out.c1; have e2 := Q3.out.c2; have e3 := Q3.out.c3
    have k0 := Q3.out.f0; have k1 := Q3.out.f1; have k2 := Q3.out.f2; have k3 := Q3.out.f3
    go_wp2_with fail
    generalize w2.heap.size = r at *
    generalize w2.alloc (.cells #[.string (tx setT), .string ⟨#[]⟩, .slice none 0 0, .slice none 0 0] 51) = w4 at *
    clear d0 d1 d2 d3 g0 g1 g2 g3 e0 e1 e2 e3 k0 k1 k2 k3
    have D4 := D3; have Q4 := Q3; have R4 := R3; have BU4 := BU3
    refine (name_x R4.out).mono ?_; rintro e w5 ⟨n5, rfl, b5, r5, hn5⟩
    have D5 := Lib.hid (D4.out.but b5 hrp)
    have Q5 := Lib.hid (Q4.out.but b5 hqp)
    have BU5 := Lib.hid (BU4.out.trans b5)
    have hz5 : w4.heap.size ≤ w5.heap.size := b5.size
    have hk5 := Lib.hid b5
    have R5 := Lib.hid r5; have HN5 := Lib.hid hn5; clear r5 hn5 b5
    have D6 := Lib.hid (D5.out.set1 (.string (tx n5)))
    have Q6 := Lib.hid (Q5.out.same (Below.heap_setCell w5 ⟨r, 1, none⟩ (.string (tx n5)) q hqr) (by rw [World.size_setCell]; exact Nat.le_refl _))
    have BU6 := Lib.hid (BU5.out.setNew (p := ⟨r, 1, none⟩) hwr (.string (tx n5)))
    have R6 := Lib.hid (R5.out.set (j := 1) hrb hpr (.string (tx n5)))
    have hs6 : (w5.setCell ⟨r, 1, none⟩ (.string (tx n5))).heap.size = w5.heap.size := World.size_setCell _ _ _
    have d0 := D5.out.c0; have d1 := D5.out.c1; have d2 := D5.out.c2; have d3 := D5.out.c3
    have g0 := D5.out.f0; have g1 := D5.out.f1; have g2 := D5.out.f2; have g3 := D5.out.f3
    have e0 := Q5.out.c0; have e1 := Q5.out.c1; have e2 := Q5.out.c2; have e3 := Q5.out.c3
    have k0 := Q5.out.f0; have k1 := Q5.out.f1; have k2 := Q5.out.f2; have k3 := Q5.out.f3
    go_wp2_with fail
    generalize (w5.setCell ⟨r, 1, none⟩ (.string (tx n5))) = w6 at *
    clear d0 d1 d2 d3 g0 g1 g2 g3 e0 e1 e2 e3 k0 k1 k2 k3
    refine (HS.out _ _ 1 (by decide) R6.out).mono ?_; rintro e w7 ⟨a7, n7, c7, rfl, b7, r7, m7⟩
    have D7 := Lib.hid (D6.out.but b7 hrp)
    have Q7 := Lib.hid (Q6.out.but b7 hqp)
    have BU7 := Lib.hid (BU6.out.trans b7)
    have hz7 : w6.heap.size ≤ w7.heap.size := b7.size
    have hk7 := Lib.hid b7
    have R7 := Lib.hid r7; have M7 := Lib.hid m7; clear r7 m7 b7
    have D8 := Lib.hid (D7.out.set2 (.slice a7 n7 c7))
    have Q8 := Lib.hid (Q7.out.same (Below.heap_setCell w7 ⟨r, 2, none⟩ (.slice a7 n7 c7) q hqr) (by rw [World.size_setCell]; exact Nat.le_refl _))
    have BU8 := Lib.hid (BU7.out.setNew (p := ⟨r, 2, none⟩) hwr (.slice a7 n7 c7))
    have R8 := Lib.hid (R7.out.set (j := 2) hrb hpr (.slice a7 n7 c7))
    have hs8 : (w7.setCell ⟨r, 2, none⟩ (.slice a7 n7 c7)).heap.size = w7.heap.size := World.size_setCell _ _ _
    have d0 := D7.out.c0; have d1 := D7.out.c1; have d2 := D7.out.c2; have d3 := D7.out.c3
    have g0 := D7.out.f0; have g1 := D7.out.f1; have g2 := D7.out.f2; have g3 := D7.out.f3
    have e0 := Q7.out.c0; have e1 := Q7.out.c1; have e2 := Q7.out.c2; have e3 := Q7.out.c3
    have k0 := Q7.out.f0; have k1 := Q7.out.f1; have k2 := Q7.out.f2; have k3 := Q7.out.f3
    have d0' := D8.out.c0; have d1' := D8.out.c1; have d2' := D8.out.c2; have d3' := D8.out.c3
    go_wp2_with fail
    refine bodyPost_ret (v := Dv.v ⟨setT, n5, a7, n7, c7, none, 0, 0⟩) (by simp [results, Tryz.results31, go_sem, Dv.v, put4_c0 Q8.out, put4_c1 Q8.out, put4_c2 Q8.out, put4_c3 Q8.out]) rfl ⟨⟨setT, n5, a7, n7, c7, none, 0, 0⟩, rfl, but_put4 BU8.out hwq _ _ _ _, (by rw [HD.out]; exact R8.out.put4 hqb hpq _ _ _ _), ?_⟩
    intro hn
    rw [HD.out] at hn
    have hy1 : nmX l x1 ≠ -1 := fun e => hn (by rw [e]; exact sm_neg1 l 1)
    have hx1 : x1 ≠ -1 := fun e => hy1 (by rw [e]; exact nmX_neg l)
    obtain ⟨e1, s, h1, h2⟩ := HTX.out hx1
    have e2 := nmX_ne hy1
    have m7 := M7.out hn
    rw [HQ.out s h1 h2, show x + 2 = nmX l x1 by omega, ← e1, ← HN5.out]
    exact dd_plain _ _ _ _ _ _ m7.1 m7.2
  replace HD := Lib.hid (HD.out.trans (if_neg b0))
  replace HQ := Lib.hid (fun s h e => (HQ.out s h e).trans (if_neg b0))
  by_cases b1 : t = cutT
  · subst b1
    have qe : ((tx cutT).toList == [99, 117, 116]) = true := tx_eqL _
    have q0 : ((tx cutT).toList == [115, 101, 116]) = false := by rw [Lib.toList_data, tx_data]; decide
    replace HD := Lib.hid (HD.out.trans (if_pos rfl))
    replace HQ := Lib.hid (fun s h e => (HQ.out s h e).trans (if_pos rfl))
    have d0 := D3.out.c0; have d1 := D3.out.c1; have d2 := D3.out.c2; have d3 := D3.out.c3
    have g0 := D3.out.f0; have g1 := D3.out.f1; have g2 := D3.out.f2; have g3 := D3.out.f3
    have e0 := Q3.out.c0; have e1 := Q3.out.c1; have e2 := Q3.out.c2; have e3 := Q3.out.c3
    have k0 := Q3.out.f0; have k1 := Q3.out.f1; have k2 := Q3.out.f2; have k3 := Q3.out.f3
    go_wp2_with fail
    generalize w2.heap.size = r at *
    generalize w2.alloc (.cells #[.string (tx cutT), .string ⟨#[]⟩, .slice none 0 0, .slice none 0 0] 51) = w4 at *
    clear d0 d1 d2 d3 g0 g1 g2 g3 e0 e1 e2 e3 k0 k1 k2 k3
    have D4 := D3; have Q4 := Q3; have R4 := R3; have BU4 := BU3
    refine (name_x R4.out).mono ?_; rintro e w5 ⟨n5, rfl, b5, r5, hn5⟩
    have D5 := Lib.hid (D4.out.but b5 hrp)
    have Q5 := Lib.hid (Q4.out.but b5 hqp)
    have BU5 := Lib.hid (BU4.out.trans b5)
    have hz5 : w4.heap.size ≤ w5.heap.size := b5.size
    have hk5 := Lib.hid b5
    have R5 := Lib.hid r5; have HN5 := Lib.hid hn5; clear r5 hn5 b5
    have D6 := Lib.hid (D5.out.set1 (.string (tx n5)))
    have Q6 := Lib.hid (Q5.out.same (Below.heap_setCell w5 ⟨r, 1, none⟩ (.string (tx n5)) q hqr) (by rw [World.size_setCell]; exact Nat.le_refl _))
    have BU6 := Lib.hid (BU5.out.setNew (p := ⟨r, 1, none⟩) hwr (.string (tx n5)))
    have R6 := Lib.hid (R5.out.set (j := 1) hrb hpr (.string (tx n5)))
    have hs6 : (w5.setCell ⟨r, 1, none⟩ (.string (tx n5))).heap.size = w5.heap.size := World.size_setCell _ _ _
    have d0 := D5.out.c0; have d1 := D5.out.c1; have d2 := D5.out.c2; have d3 := D5.out.c3
    have g0 := D5.out.f0; have g1 := D5.out.f1; have g2 := D5.out.f2; have g3 := D5.out.f3
    have e0 := Q5.out.c0; have e1 := Q5.out.c1; have e2 := Q5.out.c2; have e3 := Q5.out.c3
    have k0 := Q5.out.f0; have k1 := Q5.out.f1; have k2 := Q5.out.f2; have k3 := Q5.out.f3
    have d0' := D6.out.c0; have d1' := D6.out.c1; have d2' := D6.out.c2; have d3' := D6.out.c3
    go_wp2_with fail
    refine bodyPost_ret (v := Dv.v ⟨cutT, n5, none, 0, 0, none, 0, 0⟩) (by simp [results, Tryz.results31, go_sem, Dv.v, put4_c0 Q6.out, put4_c1 Q6.out, put4_c2 Q6.out, put4_c3 Q6.out]) rfl ⟨⟨cutT, n5, none, 0, 0, none, 0, 0⟩, rfl, but_put4 BU6.out hwq _ _ _ _, (by rw [HD.out]; exact R6.out.put4 hqb hpq _ _ _ _), ?_⟩
    intro hn
    rw [HD.out] at hn
    have hx1 : x1 ≠ -1 := fun e => hn (by rw [e]; exact nmX_neg l)
    obtain ⟨e1, s, h1, h2⟩ := HTX.out hx1
    rw [HQ.out s h1 h2, ← e1, ← HN5.out]
    exact dd_plain _ _ _ _ _ _ rfl (v1_nil _)
  replace HD := Lib.hid (HD.out.trans (if_neg b1))
  replace HQ := Lib.hid (fun s h e => (HQ.out s h e).trans (if_neg b1))
  by_cases b2 : t = stopT
  · subst b2
    have qe : ((tx stopT).toList == [115, 116, 111, 112]) = true := tx_eqL _
    have q0 : ((tx stopT).toList == [115, 101, 116]) = false := by rw [Lib.toList_data, tx_data]; decide
    have q1 : ((tx stopT).toList == [99, 117, 116]) = false := by rw [Lib.toList_data, tx_data]; decide
    replace HD := Lib.hid (HD.out.trans (if_pos rfl))
    replace HQ := Lib.hid (fun s h e => (HQ.out s h e).trans (if_pos rfl))
    have y0 := Q2.out.c0; have y1 := Q2.out.c1; have y2 := Q2.out.c2; have y3 := Q2.out.c3
    have z0 := Q2.out.f0; have z1 := Q2.out.f1; have z2 := Q2.out.f2; have z3 := Q2.out.f3
    clear Q3 D3 R3 BU3
    go_wp2_with fail
    refine bodyPost_ret (v := Dv.v ⟨stopT, [], none, 0, 0, none, 0, 0⟩) (by simp [results, Tryz.results31, go_sem, Dv.v, tx_nil, put4a_c0 Q2.out, put4a_c1 Q2.out, put4a_c2 Q2.out, put4a_c3 Q2.out]) rfl ⟨⟨stopT, [], none, 0, 0, none, 0, 0⟩, rfl, (but_put4 BU2.out hwq _ _ _ _).alloc _, (by rw [HD.out]; exact (R2.out.put4 hqb hpq _ _ _ _).next (bel1 _ _)), ?_⟩
    intro hn
    rw [HD.out] at hn
    obtain ⟨-, s, h1, h2⟩ := HTX.out hn
    rw [HQ.out s h1 h2]
    exact dd_plain _ _ _ _ _ _ rfl (v1_nil _)
  replace HD := Lib.hid (HD.out.trans (if_neg b2))
  replace HQ := Lib.hid (fun s h e => (HQ.out s h e).trans (if_neg b2))
  by_cases b3 : t = ifT
  · subst b3
    have qe : ((tx ifT).toList == [105, 102]) = true := tx_eqL _
    have q0 : ((tx ifT).toList == [115, 101, 116]) = false := by rw [Lib.toList_data, tx_data]; decide
    have q1 : ((tx ifT).toList == [99, 117, 116]) = false := by rw [Lib.toList_data, tx_data]; decide
    have q2 : ((tx ifT).toList == [115, 116, 111, 112]) = false := by rw [Lib.toList_data, tx_data]; decide
    replace HD := Lib.hid (HD.out.trans (if_pos rfl))
    replace HQ := Lib.hid (fun s h e => (HQ.out s h e).trans (if_pos rfl))
    have d0 := D3.out.c0; have d1 := D3.out.c1; have d2 := D3.out.c2; have d3 := D3.out.c3
    have g0 := D3.out.f0; have g1 := D3.out.f1; have g2 := D3.out.f2; have g3 := D3.out.f3
    have e0 := Q3.out.c0; have e1 := Q3.out.c1; have e2 := Q3.out.c2; have e3 := Q3.out.c3
    have k0 := Q3.out.f0; have k1 := Q3.out.f1; have k2 := Q3.out.f2; have k3 := Q3.out.f3
    go_wp2_with fail
    generalize w2.heap.size = r at *
    generalize w2.alloc (.cells #[.string (tx ifT), .string ⟨#[]⟩, .slice none 0 0, .slice none 0 0] 51) = w4 at *
    clear d0 d1 d2 d3 g0 g1 g2 g3 e0 e1 e2 e3 k0 k1 k2 k3
    have D4 := D3; have Q4 := Q3; have R4 := R3; have BU4 := BU3
    refine (HS.out _ _ 2 (by decide) R4.out).mono ?_; rintro e w5 ⟨a5, n5, c5, rfl, b5, r5, m5⟩
    have D5 := Lib.hid (D4.out.but b5 hrp)
    have Q5 := Lib.hid (Q4.out.but b5 hqp)
    have BU5 := Lib.hid (BU4.out.trans b5)
    have hz5 : w4.heap.size ≤ w5.heap.size := b5.size
    have hk5 := Lib.hid b5
    have R5 := Lib.hid r5; have M5 := Lib.hid m5; clear r5 m5 b5
    have D6 := Lib.hid (D5.out.set2 (.slice a5 n5 c5))
    have Q6 := Lib.hid (Q5.out.same (Below.heap_setCell w5 ⟨r, 2, none⟩ (.slice a5 n5 c5) q hqr) (by rw [World.size_setCell]; exact Nat.le_refl _))
    have BU6 := Lib.hid (BU5.out.setNew (p := ⟨r, 2, none⟩) hwr (.slice a5 n5 c5))
    have R6 := Lib.hid (R5.out.set (j := 2) hrb hpr (.slice a5 n5 c5))
    have hs6 : (w5.setCell ⟨r, 2, none⟩ (.slice a5 n5 c5)).heap.size = w5.heap.size := World.size_setCell _ _ _
    have d0 := D5.out.c0; have d1 := D5.out.c1; have d2 := D5.out.c2; have d3 := D5.out.c3
    have g0 := D5.out.f0; have g1 := D5.out.f1; have g2 := D5.out.f2; have g3 := D5.out.f3
    have e0 := Q5.out.c0; have e1 := Q5.out.c1; have e2 := Q5.out.c2; have e3 := Q5.out.c3
    have k0 := Q5.out.f0; have k1 := Q5.out.f1; have k2 := Q5.out.f2; have k3 := Q5.out.f3
    go_wp2_with fail
    generalize (w5.setCell ⟨r, 2, none⟩ (.slice a5 n5 c5)) = w6 at *
    clear d0 d1 d2 d3 g0 g1 g2 g3 e0 e1 e2 e3 k0 k1 k2 k3
    refine (HB.out _ _ R6.out).mono ?_; rintro e w7 ⟨a7, n7, c7, rfl, b7, r7, m7⟩
    have D7 := Lib.hid (D6.out.but b7 hrp)
    have Q7 := Lib.hid (Q6.out.but b7 hqp)
    have BU7 := Lib.hid (BU6.out.trans b7)
    have hz7 : w6.heap.size ≤ w7.heap.size := b7.size
    have hk7 := Lib.hid b7
    have R7 := Lib.hid r7; have M7 := Lib.hid m7; clear r7 m7 b7
    go_wp2_with fail
    refine (HB.out _ _ R7.out).mono ?_; rintro e w8 ⟨a8, n8, c8, rfl, b8, r8, m8⟩
    have D8 := Lib.hid (D7.out.but b8 hrp)
    have Q8 := Lib.hid (Q7.out.but b8 hqp)
    have BU8 := Lib.hid (BU7.out.trans b8)
    have hz8 : w7.heap.size ≤ w8.heap.size := b8.size
    have hk8 := Lib.hid b8
    have R8 := Lib.hid r8; have M8 := Lib.hid m8; clear r8 m8 b8
    have hbl := bel1 w8 (.cells #[.slice a7 n7 c7, .slice a8 n8 c8] 35)
    have D9 := Lib.hid (D8.out.next hbl)
    have Q9 := Lib.hid (Q8.out.next hbl)
    have R9 := Lib.hid (R8.out.next hbl)
    have BU9 := Lib.hid (BU8.out.alloc (.cells #[.slice a7 n7 c7, .slice a8 n8 c8] 35))
    have HN9 := Lib.hid (new_of w8 (.cells #[.slice a7 n7 c7, .slice a8 n8 c8] 35))
    have HL9 := Lib.hid hbl
    have hz9 : (w8.alloc (.cells #[.slice a7 n7 c7, .slice a8 n8 c8] 35)).heap.size = w8.heap.size + 1 := World.size_alloc _ _
    clear hbl
    generalize hs : w8.heap.size = s at *
    generalize hw9 : w8.alloc (.cells #[.slice a7 n7 c7, .slice a8 n8 c8] 35) = w9 at *
    have D10 := Lib.hid (D9.out.set3 (.slice (some ⟨s, 0, none⟩) 2 2))
    have Q10 := Lib.hid (Q9.out.same (Below.heap_setCell w9 ⟨r, 3, none⟩ (.slice (some ⟨s, 0, none⟩) 2 2) q hqr) (by rw [World.size_setCell]; exact Nat.le_refl _))
    have BU10 := Lib.hid (BU9.out.setNew (p := ⟨r, 3, none⟩) hwr (.slice (some ⟨s, 0, none⟩) 2 2))
    have R10 := Lib.hid (R9.out.set (j := 3) hrb hpr (.slice (some ⟨s, 0, none⟩) 2 2))
    have hs10 : (w9.setCell ⟨r, 3, none⟩ (.slice (some ⟨s, 0, none⟩) 2 2)).heap.size = w9.heap.size := World.size_setCell _ _ _
    have d0 := D9.out.c0; have d1 := D9.out.c1; have d2 := D9.out.c2; have d3 := D9.out.c3
    have g0 := D9.out.f0; have g1 := D9.out.f1; have g2 := D9.out.f2; have g3 := D9.out.f3
    have e0 := Q9.out.c0; have e1 := Q9.out.c1; have e2 := Q9.out.c2; have e3 := Q9.out.c3
    have k0 := Q9.out.f0; have k1 := Q9.out.f1; have k2 := Q9.out.f2; have k3 := Q9.out.f3
    have d0' := D10.out.c0; have d1' := D10.out.c1; have d2' := D10.out.c2; have d3' := D10.out.c3
    go_wp2_with fail
    refine bodyPost_ret (v := Dv.v ⟨ifT, [], a5, n5, c5, some ⟨s, 0, none⟩, 2, 2⟩) (by simp [results, Tryz.results31, go_sem, Dv.v, tx_nil, put4_c0 Q10.out, put4_c1 Q10.out, put4_c2 Q10.out, put4_c3 Q10.out]) rfl ⟨⟨ifT, [], a5, n5, c5, some ⟨s, 0, none⟩, 2, 2⟩, rfl, but_put4 BU10.out hwq _ _ _ _, (by rw [HD.out]; exact R10.out.put4 hqb hpq _ _ _ _), ?_⟩
    intro hn
    rw [HD.out] at hn
    have hy : B (smV l 2 x1) ≠ -1 := fun e => hn (by rw [e]; exact hB0)
    have hsm : smV l 2 x1 ≠ -1 := fun e => hy (by rw [e]; exact hB0)
    have hx1 : x1 ≠ -1 := fun e => hsm (by rw [e]; exact sm_neg1 l 2)
    obtain ⟨e1, s', h1, h2⟩ := HTX.out hx1
    rw [HQ.out s' h1 h2, ← e1]
    have m5 := M5.out hsm
    have m7 := M7.out hy
    have m8 := M8.out hn
    have key : ∀ W : World, (∀ g, g ≠ q → W.heap[g]? = (w9.setCell ⟨r, 3, none⟩ (.slice (some ⟨s, 0, none⟩) 2 2)).heap[g]?) → W.heap.size = (w9.setCell ⟨r, 3, none⟩ (.slice (some ⟨s, 0, none⟩) 2 2)).heap.size → DdM w0 (fun x => q ≤ x) W (DM w0 (fun x => q ≤ x) W D) ⟨ifT, [], a5, n5, c5, some ⟨s, 0, none⟩, 2, 2⟩ (([], smT l x1) :: (R (smV l 2 x1) ++ R (B (smV l 2 x1)))) := by
      intro W hW hZ
      have hz10 : W.heap.size = s + 1 := by rw [hZ, hs10, hz9]
      have hk0 : ∀ g, g ≠ q → g ≠ r → g < s → W.heap[g]? = w8.heap[g]? := fun g h1 h2 h3 => ((hW g h1).trans (Below.heap_setCell _ _ _ _ h2)).trans (HL9.out.block g h3)
      have hsr : s ≠ r := by omega
      have hsq : s ≠ q := by omega
      refine ⟨smT l x1, [.slice a7 n7 c7, .slice a8 n8 c8], [R (smV l 2 x1), R (B (smV l 2 x1))], m5.1, m5.2, rfl, ?_, ?_, rfl, ?_, ?_⟩
      · exact v1_lit [.slice a7 n7 c7, .slice a8 n8 c8] (by simp) (by omega) (((hW s hsq).trans (Below.heap_setCell _ _ _ _ hsr)).trans HN9.out)
      · intro g o e
        cases e
        exact ⟨by show q ≤ s; omega, by omega⟩
      · intro k b g hb hg
        cases k with
        | zero =>
          simp at hb hg
          subst hb; subst hg
          exact DM.keep (by omega) (fun g h1 h2 => (hk0 g (by omega) (by omega) (by omega)).trans (hk8.out.block g h2 (by omega))) (fun g h _ => by show q ≤ g; omega) D _ _ m7
        | succ k =>
          cases k with
          | zero =>
            simp at hb hg
            subst hb; subst hg
            exact DM.keep (by omega) (fun g h1 h2 => hk0 g (by omega) (by omega) (by omega)) (fun g h _ => by show q ≤ g; omega) D _ _ m8
          | succ k => simp at hb
      · simp
    exact key _ (fun g hg => put4_heap _ _ _ _ _ _ hg) (put4_size _ _ _ _ _ _)
  replace HD := Lib.hid (HD.out.trans (if_neg b3))
  replace HQ := Lib.hid (fun s h e => (HQ.out s h e).trans (if_neg b3))
  by_cases b4 : t = whT
  · subst b4
    have qe : ((tx whT).toList == [119, 104, 105, 108, 101]) = true := tx_eqL _
    have q0 : ((tx whT).toList == [115, 101, 116]) = false := by rw [Lib.toList_data, tx_data]; decide
    have q1 : ((tx whT).toList == [99, 117, 116]) = false := by rw [Lib.toList_data, tx_data]; decide
    have q2 : ((tx whT).toList == [115, 116, 111, 112]) = false := by rw [Lib.toList_data, tx_data]; decide
    have q3 : ((tx whT).toList == [105, 102]) = false := by rw [Lib.toList_data, tx_data]; decide
    replace HD := Lib.hid (HD.out.trans (if_pos rfl))
    replace HQ := Lib.hid (fun s h e => (HQ.out s h e).trans (if_pos rfl))
    have d0 := D3.out.c0; have d1 := D3.out.c1; have d2 := D3.out.c2; have d3 := D3.out.c3
    have g0 := D3.out.f0; have g1 := D3.out.f1; have g2 := D3.out.f2; have g3 := D3.out.f3
    have e0 := Q3.out.c0; have e1 := Q3.out.c1; have e2 := Q3.out.c2; have e3 := Q3.out.c3
    have k0 := Q3.out.f0; have k1 := Q3.out.f1; have k2 := Q3.out.f2; have k3 := Q3.out.f3
    go_wp2_with fail
    generalize w2.heap.size = r at *
    generalize w2.alloc (.cells #[.string (tx whT), .string ⟨#[]⟩, .slice none 0 0, .slice none 0 0] 51) = w4 at *
    clear d0 d1 d2 d3 g0 g1 g2 g3 e0 e1 e2 e3 k0 k1 k2 k3
    have D4 := D3; have Q4 := Q3; have R4 := R3; have BU4 := BU3
    refine (HS.out _ _ 2 (by decide) R4.out).mono ?_; rintro e w5 ⟨a5, n5, c5, rfl, b5, r5, m5⟩
    have D5 := Lib.hid (D4.out.but b5 hrp)
    have Q5 := Lib.hid (Q4.out.but b5 hqp)
    have BU5 := Lib.hid (BU4.out.trans b5)
    have hz5 : w4.heap.size ≤ w5.heap.size := b5.size
    have hk5 := Lib.hid b5
    have R5 := Lib.hid r5; have M5 := Lib.hid m5; clear r5 m5 b5
    have D6 := Lib.hid (D5.out.set2 (.slice a5 n5 c5))
    have Q6 := Lib.hid (Q5.out.same (Below.heap_setCell w5 ⟨r, 2, none⟩ (.slice a5 n5 c5) q hqr) (by rw [World.size_setCell]; exact Nat.le_refl _))
    have BU6 := Lib.hid (BU5.out.setNew (p := ⟨r, 2, none⟩) hwr (.slice a5 n5 c5))
    have R6 := Lib.hid (R5.out.set (j := 2) hrb hpr (.slice a5 n5 c5))
    have hs6 : (w5.setCell ⟨r, 2, none⟩ (.slice a5 n5 c5)).heap.size = w5.heap.size := World.size_setCell _ _ _
    have d0 := D5.out.c0; have d1 := D5.out.c1; have d2 := D5.out.c2; have d3 := D5.out.c3
    have g0 := D5.out.f0; have g1 := D5.out.f1; have g2 := D5.out.f2; have g3 := D5.out.f3
    have e0 := Q5.out.c0; have e1 := Q5.out.c1; have e2 := Q5.out.c2; have e3 := Q5.out.c3
    have k0 := Q5.out.f0; have k1 := Q5.out.f1; have k2 := Q5.out.f2; have k3 := Q5.out.f3
    go_wp2_with fail
    generalize (w5.setCell ⟨r, 2, none⟩ (.slice a5 n5 c5)) = w6 at *
    clear d0 d1 d2 d3 g0 g1 g2 g3 e0 e1 e2 e3 k0 k1 k2 k3
    refine (HB.out _ _ R6.out).mono ?_; rintro e w7 ⟨a7, n7, c7, rfl, b7, r7, m7⟩
    have D7 := Lib.hid (D6.out.but b7 hrp)
    have Q7 := Lib.hid (Q6.out.but b7 hqp)
    have BU7 := Lib.hid (BU6.out.trans b7)
    have hz7 : w6.heap.size ≤ w7.heap.size := b7.size
    have hk7 := Lib.hid b7
    have R7 := Lib.hid r7; have M7 := Lib.hid m7; clear r7 m7 b7
    have hbl := bel1 w7 (.cells #[.slice a7 n7 c7] 35)
    have D9 := Lib.hid (D7.out.next hbl)
    have Q9 := Lib.hid (Q7.out.next hbl)
    have R9 := Lib.hid (R7.out.next hbl)
    have BU9 := Lib.hid (BU7.out.alloc (.cells #[.slice a7 n7 c7] 35))
    have HN9 := Lib.hid (new_of w7 (.cells #[.slice a7 n7 c7] 35))
    have HL9 := Lib.hid hbl
    have hz9 : (w7.alloc (.cells #[.slice a7 n7 c7] 35)).heap.size = w7.heap.size + 1 := World.size_alloc _ _
    clear hbl
    generalize hs : w7.heap.size = s at *
    generalize hw9 : w7.alloc (.cells #[.slice a7 n7 c7] 35) = w9 at *
    have D10 := Lib.hid (D9.out.set3 (.slice (some ⟨s, 0, none⟩) 1 1))
    have Q10 := Lib.hid (Q9.out.same (Below.heap_setCell w9 ⟨r, 3, none⟩ (.slice (some ⟨s, 0, none⟩) 1 1) q hqr) (by rw [World.size_setCell]; exact Nat.le_refl _))
    have BU10 := Lib.hid (BU9.out.setNew (p := ⟨r, 3, none⟩) hwr (.slice (some ⟨s, 0, none⟩) 1 1))
    have R10 := Lib.hid (R9.out.set (j := 3) hrb hpr (.slice (some ⟨s, 0, none⟩) 1 1))
    have hs10 : (w9.setCell ⟨r, 3, none⟩ (.slice (some ⟨s, 0, none⟩) 1 1)).heap.size = w9.heap.size := World.size_setCell _ _ _
    have d0 := D9.out.c0; have d1 := D9.out.c1; have d2 := D9.out.c2; have d3 := D9.out.c3
    have g0 := D9.out.f0; have g1 := D9.out.f1; have g2 := D9.out.f2; have g3 := D9.out.f3
    have e0 := Q9.out.c0; have e1 := Q9.out.c1; have e2 := Q9.out.c2; have e3 := Q9.out.c3
    have k0 := Q9.out.f0; have k1 := Q9.out.f1; have k2 := Q9.out.f2; have k3 := Q9.out.f3
    have d0' := D10.out.c0; have d1' := D10.out.c1; have d2' := D10.out.c2; have d3' := D10.out.c3
    go_wp2_with fail
    refine bodyPost_ret (v := Dv.v ⟨whT, [], a5, n5, c5, some ⟨s, 0, none⟩, 1, 1⟩) (by simp [results, Tryz.results31, go_sem, Dv.v, tx_nil, put4_c0 Q10.out, put4_c1 Q10.out, put4_c2 Q10.out, put4_c3 Q10.out]) rfl ⟨⟨whT, [], a5, n5, c5, some ⟨s, 0, none⟩, 1, 1⟩, rfl, but_put4 BU10.out hwq _ _ _ _, (by rw [HD.out]; exact R10.out.put4 hqb hpq _ _ _ _), ?_⟩
    intro hn
    rw [HD.out] at hn
    have hy := hn
    have hsm : smV l 2 x1 ≠ -1 := fun e => hy (by rw [e]; exact hB0)
    have hx1 : x1 ≠ -1 := fun e => hsm (by rw [e]; exact sm_neg1 l 2)
    obtain ⟨e1, s', h1, h2⟩ := HTX.out hx1
    rw [HQ.out s' h1 h2, ← e1]
    have m5 := M5.out hsm
    have m7 := M7.out hy
    have key : ∀ W : World, (∀ g, g ≠ q → W.heap[g]? = (w9.setCell ⟨r, 3, none⟩ (.slice (some ⟨s, 0, none⟩) 1 1)).heap[g]?) → W.heap.size = (w9.setCell ⟨r, 3, none⟩ (.slice (some ⟨s, 0, none⟩) 1 1)).heap.size → DdM w0 (fun x => q ≤ x) W (DM w0 (fun x => q ≤ x) W D) ⟨whT, [], a5, n5, c5, some ⟨s, 0, none⟩, 1, 1⟩ (([], smT l x1) :: R (smV l 2 x1)) := by
      intro W hW hZ
      have hz10 : W.heap.size = s + 1 := by rw [hZ, hs10, hz9]
      have hk0 : ∀ g, g ≠ q → g ≠ r → g < s → W.heap[g]? = w7.heap[g]? := fun g h1 h2 h3 => ((hW g h1).trans (Below.heap_setCell _ _ _ _ h2)).trans (HL9.out.block g h3)
      have hsr : s ≠ r := by omega
      have hsq : s ≠ q := by omega
      refine ⟨smT l x1, [.slice a7 n7 c7], [R (smV l 2 x1)], m5.1, m5.2, rfl, ?_, ?_, rfl, ?_, ?_⟩
      · exact v1_lit [.slice a7 n7 c7] (by simp) (by omega) (((hW s hsq).trans (Below.heap_setCell _ _ _ _ hsr)).trans HN9.out)
      · intro g o e
        cases e
        exact ⟨by show q ≤ s; omega, by omega⟩
      · intro k b g hb hg
        cases k with
        | zero =>
          simp at hb hg
          subst hb; subst hg
          exact DM.keep (by omega) (fun g h1 h2 => hk0 g (by omega) (by omega) (by omega)) (fun g h _ => by show q ≤ g; omega) D _ _ m7
        | succ k =>
          simp at hb
      · simp
    exact key _ (fun g hg => put4_heap _ _ _ _ _ _ hg) (put4_size _ _ _ _ _ _)
  replace HD := Lib.hid (HD.out.trans (if_neg b4))
  replace HQ := Lib.hid (fun s h e => (HQ.out s h e).trans (if_neg b4))
  have q0 : ((tx t).toList == [115, 101, 116]) = false := by rw [Lib.toList_data, tx_data, beq_eq_false_iff_ne]; exact b0
  have q1 : ((tx t).toList == [99, 117, 116]) = false := by rw [Lib.toList_data, tx_data, beq_eq_false_iff_ne]; exact b1
  have q2 : ((tx t).toList == [115, 116, 111, 112]) = false := by rw [Lib.toList_data, tx_data, beq_eq_false_iff_ne]; exact b2
  have q3 : ((tx t).toList == [105, 102]) = false := by rw [Lib.toList_data, tx_data, beq_eq_false_iff_ne]; exact b3
  have q4 : ((tx t).toList == [119, 104, 105, 108, 101]) = false := by rw [Lib.toList_data, tx_data, beq_eq_false_iff_ne]; exact b4
  have d0 := D3.out.c0; have d1 := D3.out.c1; have d2 := D3.out.c2; have d3 := D3.out.c3
  have g0 := D3.out.f0; have g1 := D3.out.f1; have g2 := D3.out.f2; have g3 := D3.out.f3
  have e0 := Q3.out.c0; have e1 := Q3.out.c1; have e2 := Q3.out.c2; have e3 := Q3.out.c3
  have k0 := Q3.out.f0; have k1 := Q3.out.f1; have k2 := Q3.out.f2; have k3 := Q3.out.f3
  go_wp2_with fail
  generalize w2.heap.size = r at *
  generalize w2.alloc (.cells #[.string (tx t), .string ⟨#[]⟩, .slice none 0 0, .slice none 0 0] 51) = w4 at *
  clear d0 d1 d2 d3 g0 g1 g2 g3 e0 e1 e2 e3 k0 k1 k2 k3
  have D4 := D3; have Q4 := Q3; have R4 := R3; have BU4 := BU3
  refine (require_x R4.out false).mono ?_; rintro e w5 ⟨rfl, b5, r5⟩
  have D5 := Lib.hid (D4.out.but b5 hrp)
  have Q5 := Lib.hid (Q4.out.but b5 hqp)
  have BU5 := Lib.hid (BU4.out.trans b5)
  have hz5 : w4.heap.size ≤ w5.heap.size := b5.size
  have hk5 := Lib.hid b5
  have R5 := Lib.hid r5; clear r5 b5
  have d0 := D5.out.c0; have d1 := D5.out.c1; have d2 := D5.out.c2; have d3 := D5.out.c3
  have g0 := D5.out.f0; have g1 := D5.out.f1; have g2 := D5.out.f2; have g3 := D5.out.f3
  have e0 := Q5.out.c0; have e1 := Q5.out.c1; have e2 := Q5.out.c2; have e3 := Q5.out.c3
  have k0 := Q5.out.f0; have k1 := Q5.out.f1; have k2 := Q5.out.f2; have k3 := Q5.out.f3
  go_wp2_with fail
  refine bodyPost_ret (v := Dv.v ⟨t, [], none, 0, 0, none, 0, 0⟩) (by simp [results, Tryz.results31, go_sem, Dv.v, tx_nil, put4_c0 Q5.out, put4_c1 Q5.out, put4_c2 Q5.out, put4_c3 Q5.out]) rfl ⟨⟨t, [], none, 0, 0, none, 0, 0⟩, rfl, but_put4 BU5.out hwq _ _ _ _, (by rw [HD.out]; exact R5.out.put4 hqb hpq _ _ _ _), ?_⟩
  exact fun hn => absurd HD.out hn
end Go.Proofs.YtoiphglfngkoiaaGreatDoor.Cl
namespace Go.Proofs.YtoiphglfngkoiaaGreatDoor.Cl
set_option linter.unusedVariables false
open Go.RowKit Wd Rp Cu Kp
def DdsC (w0 : World) (p : Nat) (l : List Tk) (D : Nat) (o : Int) (f : Int → Int) (R : Int → List Rc) : Prop := ∀ (x : Int) (z : World), Sx w0 p l o x z →
  Calls Tryz.prog 23 #[.pointer (some ⟨p, 0, none⟩)] z fun e z' => ∃ a n c, e = .returned (.slice a n c) ∧ But p z z' ∧ Sx w0 p l o (dlE l f (l.length + 1) x) z' ∧ (dlE l f (l.length + 1) x ≠ -1 → DM w0 (z.heap.size ≤ ·) z' (D + 1) (.slice a n c) (dlR l f R (l.length + 1) x))
def Kv (b : Nat) (v : Value) (g : Nat) : Prop := b ≤ g ∧ v.ownBlock ≠ some g
def DsI (w0 : World) (p : Nat) (l : List Tk) (D : Nat) (o : Int) (f : Int → Int) (R : Int → List Rc) (z : World) (j : Int) (F : List Rc) (k : Nat) (v : Value) (wr : World) : Prop :=
  ∃ (x : Int) (ds : List Dv) (fs : List (List Rc)), Sx w0 p l o x wr ∧ But p z wr ∧ OwD z.heap.size wr v ds ∧ (x = -1 ∨ (l.length : Int) - x < k) ∧ j = dlE l f k x ∧ (x ≠ -1 → (ds.length : Int) ≤ x ∧ ds.length = fs.length ∧ F = fs.flatten ++ dlR l f R k x ∧
    ∀ (i : Nat) (d : Dv) (g : List Rc), ds[i]? = some d → fs[i]? = some g → DdM w0 (Kv z.heap.size v) wr (DM w0 (Kv z.heap.size v) wr D) d g)
theorem DsI.done {w0 : World} {p : Nat} {l : List Tk} {D : Nat} {o : Int} {f : Int → Int} {R : Int → List Rc} {z : World} {j : Int} {F : List Rc} {k : Nat} {v : Value} {wr : World} {x : Int} {ds : List Dv} {fs : List (List Rc)}
    (ho : OwD z.heap.size wr v ds) (hx : x ≠ -1) (hk : (l.length : Int) - x < k) (hl : x ≤ l.length) (hc : tkA l x = none ∨ tkA l x = some [93])
    (h : (ds.length : Int) ≤ x ∧ ds.length = fs.length ∧ F = fs.flatten ++ dlR l f R k x ∧ ∀ (i : Nat) (d : Dv) (g : List Rc), ds[i]? = some d → fs[i]? = some g → DdM w0 (Kv z.heap.size v) wr (DM w0 (Kv z.heap.size v) wr D) d g) :
    dlE l f k x = x ∧ DM w0 (z.heap.size ≤ ·) wr (D + 1) v F := by
  obtain ⟨k, rfl⟩ : ∃ k', k = k' + 1 := ⟨k - 1, by omega⟩
  obtain ⟨-, h2, h3, h4⟩ := h
  have e1 : dlE l f (k + 1) x = x := by
    rw [dlE]
    rcases hc with hc | hc
    · rw [hc]
    · rw [hc]; exact if_pos rfl
  have e2 : dlR l f R (k + 1) x = [] := by
    rw [dlR]
    rcases hc with hc | hc
    · rw [hc]
    · rw [hc]; exact if_pos rfl
  rw [e2, List.append_nil] at h3
  refine ⟨e1, ds, fs, ho.mono fun _ _ => Nat.zero_le _, ho.lt, h2, fun i d g hd hg => ?_, h3⟩
  exact (h4 i d g hd hg).keep (Nat.le_refl _) (fun _ _ _ => rfl) (fun g h _ => h.1) (fun v f h => DM.keep (Nat.le_refl _) (fun _ _ _ => rfl) (fun g h _ => h.1) D v f h)
theorem DsI.step {w0 : World} {p : Nat} {l : List Tk} {D : Nat} {o : Int} {f : Int → Int} {R : Int → List Rc} {z : World} {j : Int} {F : List Rc} {k : Nat} {v v3 : Value} {wr w1 w2 w3 : World} {x : Int} {ds : List Dv} {fs : List (List Rc)} {d : Dv} {s : Tk}
    (hA : ∀ i, Ahd l i (f i)) (hp : p < z.heap.size) (hb : But p z wr) (ho : OwD z.heap.size wr v ds) (hx : x ≠ -1) (hk : (l.length : Int) - x < (k + 1 : Nat)) (hj : j = dlE l f (k + 1) x) (hs : tkA l x = some s) (hne : s ≠ [93])
    (h : (ds.length : Int) ≤ x ∧ ds.length = fs.length ∧ F = fs.flatten ++ dlR l f R (k + 1) x ∧ ∀ (i : Nat) (d : Dv) (g : List Rc), ds[i]? = some d → fs[i]? = some g → DdM w0 (Kv z.heap.size v) wr (DM w0 (Kv z.heap.size v) wr D) d g)
    (b1 : But p wr w1) (hd : f x ≠ -1 → DdM w0 (wr.heap.size ≤ ·) w1 (DM w0 (wr.heap.size ≤ ·) w1 D) d (R x)) (b2 : Below w1.heap.size w1 w2) (hlt : w1.heap.size ≤ w2.heap.size) (g3 : w2.grownBy w3 v.ownBlock) (n3 : v3.ownBlock = v.ownBlock ∨ v3.ownBlock = some w2.heap.size) (o3 : OwD z.heap.size w3 v3 (ds ++ [d])) (hsx : Sx w0 p l o (f x) w3) :
    DsI w0 p l D o f R z j F k v3 w3 := by
  have e1 : dlE l f (k + 1) x = dlE l f k (f x) := by rw [dlE, hs]; exact if_neg hne
  have e2 : dlR l f R (k + 1) x = R x ++ dlR l f R k (f x) := by rw [dlR, hs]; exact if_neg hne
  obtain ⟨h1, h2, h3, h4⟩ := h
  have ha := hA x
  unfold Ahd at ha
  have hz := hb.size
  have hz1 := b1.size
  have hz3 := g3.size
  have hvlo : ∀ g, v.ownBlock = some g → z.heap.size ≤ g := ho.lt
  have hvhi : ∀ g, v.ownBlock = some g → g < wr.heap.size := ho.low
  refine ⟨f x, ds ++ [d], fs ++ [R x], hsx, ?_, o3, ?_, hj.trans e1, fun hn => ?_⟩
  · refine ⟨(g3.os.trans (b2.os.trans b1.os)).trans hb.os, (g3.tape.trans (b2.tape.trans b1.tape)).trans hb.tape, (g3.output.trans (b2.output.trans b1.output)).trans hb.output, by omega, fun g hg hne => ?_⟩
    exact ((g3.block g (by omega) (fun e => by have := hvlo g e.symm; omega)).trans (b2.block g (by omega))).trans ((b1.block g (by omega) hne).trans (hb.block g hg hne))
  · by_cases e : f x = -1
    · exact Or.inl e
    · right; omega
  · refine ⟨by rw [List.length_append]; simp; omega, by rw [List.length_append, List.length_append, h2]; rfl, by rw [h3, e2]; simp, fun i d' g hd' hg' => ?_⟩
    have hv3 : ∀ g, g < w1.heap.size → v.ownBlock ≠ some g → v3.ownBlock ≠ some g := fun g hg hne e => by
      rcases n3 with n3 | n3
      · exact hne (n3.symm.trans e)
      · rw [n3] at e; cases e; omega
    rcases Nat.lt_or_ge i ds.length with hi | hi
    · rw [List.getElem?_append_left hi] at hd'
      rw [List.getElem?_append_left (by omega)] at hg'
      have hk1 : ∀ g, Kv z.heap.size v g → g < wr.heap.size → w3.heap[g]? = wr.heap[g]? := fun g hK hg =>
        ((g3.block g (by omega) (fun e => hK.2 e.symm)).trans (b2.block g (by omega))).trans (b1.block g hg (by have := hK.1; omega))
      have hk2 : ∀ g, Kv z.heap.size v g → g < wr.heap.size → Kv z.heap.size v3 g := fun g hK hg => ⟨hK.1, hv3 g (by omega) hK.2⟩
      exact (h4 i d' g hd' hg').keep (by omega) hk1 hk2 (fun v f h => DM.keep (by omega) hk1 hk2 D v f h)
    · rw [List.getElem?_append_right hi] at hd'
      rw [List.getElem?_append_right (by omega)] at hg'
      have hi0 : i - ds.length = 0 := by
        have := (List.getElem?_eq_some_iff.1 hd').1
        simp at this; omega
      rw [hi0] at hd'
      rw [← h2, hi0] at hg'
      simp at hd' hg'
      subst hd'; subst hg'
      have hne : ∀ g, wr.heap.size ≤ g → v.ownBlock ≠ some g := fun g hg e => by have := hvhi g e; omega
      have hk1 : ∀ g, wr.heap.size ≤ g → g < w1.heap.size → w3.heap[g]? = w1.heap[g]? := fun g hK hg => (g3.block g (by omega) (fun e => hne g hK e.symm)).trans (b2.block g hg)
      have hk2 : ∀ g, wr.heap.size ≤ g → g < w1.heap.size → Kv z.heap.size v3 g := fun g hK hg => ⟨by omega, hv3 g hg (hne g hK)⟩
      exact (hd hn).keep (by omega) hk1 hk2 (fun v f h => DM.keep (by omega) hk1 hk2 D v f h)
theorem Sx.grown {w0 w w' : World} {p : Nat} {l : List Tk} {o x : Int} {row : Option Nat} (h : Sx w0 p l o x w) (hg : w.grownBy w' row) (hr : ∀ g, row = some g → w0.heap.size ≤ g ∧ g ≠ p) : Sx w0 p l o x w' := by
  have hlt := h.lo.2
  have hw : w0.heap.size ≤ w.heap.size := by have := h.lo; omega
  have hb : Below w0.heap.size w w' := (Below.refl _ w).grown hg hw (fun g e => (hr g e).1)
  have e : w'.heap[p]? = w.heap[p]? := hg.block p hlt (fun e => (hr p e.symm).2 rfl)
  rcases h with ⟨e', lf, h⟩ | ⟨e', h0, h1, h⟩
  · exact Or.inl ⟨e', lf, h.same hb e⟩
  · exact Or.inr ⟨e', h0, h1, h.same hb e⟩
set_option maxHeartbeats 8000000 in
set_option maxRecDepth 100000 in
theorem deeds_of {w0 : World} {p : Nat} {l : List Tk} {D : Nat} {o : Int} {f : Int → Int} {R : Int → List Rc} (hll : l.length ≤ 4194304) (hA : ∀ i, Ahd l i (f i)) (hC : DeedC w0 p l D o f R) : DdsC w0 p l D o f R := by
  intro x0 z hs
  have HC := Lib.hid hC
  have HA := Lib.hid hA
  have hp := hs.lo.2
  have hplo := hs.lo.1
  have HS := Lib.hid hs
  have HX0 := Lib.hid (show x0 = -1 ∨ (0 ≤ x0 ∧ x0 ≤ l.length) from by
    rcases hs with ⟨e, -⟩ | ⟨-, h0, h1, -⟩
    · exact Or.inl e
    · exact Or.inr ⟨h0, h1⟩)
  clear hs hC hA
  have HJ := Lib.hid (show dlE l f (l.length + 1) x0 = dlE l f (l.length + 1) x0 from rfl)
  have HF := Lib.hid (show dlR l f R (l.length + 1) x0 = dlR l f R (l.length + 1) x0 from rfl)
  have HN1 := Lib.hid (show x0 = -1 → dlE l f (l.length + 1) x0 = -1 from fun e => by rw [e]; exact dlE_neg _ _ _ (by omega))
  obtain ⟨j, hj⟩ : ∃ j, dlE l f (l.length + 1) x0 = j := ⟨_, rfl⟩
  obtain ⟨F, hF⟩ : ∃ F, dlR l f R (l.length + 1) x0 = F := ⟨_, rfl⟩
  rw [hj, hF]
  have H0 := Lib.hid (show DsI w0 p l D o f R z j F (l.length + 1) (.slice none 0 0) z from
    ⟨x0, [], [], HS.out, But.refl _ _, OwD.nothing _ _, (by have := HX0.out; omega), hj.symm, fun hn => ⟨by have := HX0.out; simp; omega, rfl, hF.symm, fun i d g hd => by simp at hd⟩⟩)
  clear hj hF HJ HF HN1 HX0 HS
  go_enter Tryz.func23, Tryz.ntmps23
  go_wp2_with fail
  go_loopg [3] (l.length + 1) (fun k v wr => DsI w0 p l D o f R z j F k v wr)
  case atStart => exact H0.out
  case round =>
    clear H0
    obtain ⟨x, ds, fs, hsx, hb, ho, hk, hj, hm⟩ := hrel
    obtain ⟨va, vc, rfl, -, -⟩ := ho.form
    have HO := Lib.hid ho
    have HB := Lib.hid hb
    have HJ := Lib.hid hj
    have HM := Lib.hid hm
    have HSX := Lib.hid hsx
    clear hb hj hm ho
    generalize hdl : ds.length = dl at *
    rcases hsx with ⟨e, lf, r⟩ | ⟨e, h0, h1, r⟩
    · have c2 := r.c2
      clear r
      go_wp2_with fail
      go_ret
      subst e
      have hjj : j = -1 := HJ.out.trans (dlE_neg _ _ _ (by omega))
      exact ⟨_, _, _, rfl, HB.out, by rw [hjj]; exact HSX.out, fun hn => absurd hjj hn⟩
    · have c2 := r.c2
      have hkk : (l.length : Int) - x < (gk : Nat) := by omega
      obtain ⟨a, cap, c0, hv⟩ := r.vw
      have hvl := hv.below r.bel
      clear r hv
      have HM' := Lib.hid (HM.out e)
      cases hs : tkA l x with
      | none =>
        rw [drop_no h0 hs] at c0
        replace c0 : wr.cell? ⟨p, 0, none⟩ = some (.slice a 0 cap) := c0
        clear hvl
        go_wp2_with fail
        go_ret
        obtain ⟨e1, e2⟩ := DsI.done (R := R) (o := o) (p := p) (j := j) HO.out e hkk h1 (Or.inl hs) (by rw [hdl]; exact HM'.out)
        have hjj : j = x := HJ.out.trans e1
        exact ⟨_, _, _, rfl, HB.out, by rw [hjj]; exact HSX.out, fun _ => e2⟩
      | some s =>
        rw [drop_tk hs] at c0 hvl
        obtain ⟨n, hn⟩ : ∃ n, (l.drop (x + 1).toNat).length = n := ⟨_, rfl⟩
        rw [List.length_cons, hn] at c0
        obtain ⟨g, q, rfl, hg, x0'⟩ := hvl.tx (l := s :: l.drop (x + 1).toNat) (k := 0) rfl
        rw [Nat.add_zero] at x0'
        clear hvl hn
        have t0 : decide ((0 : Int) < ((n + 1 : Nat) : Int)) = true := by simp
        have t1 : (0 : Int) < ((n + 1 : Nat) : Int) := by omega
        by_cases hb : s = [93]
        · subst hb
          have qe : ((tx [93]).toList == [93]) = true := tx_eqL _
          go_wp2_with fail
          go_ret
          obtain ⟨e1, e2⟩ := DsI.done (R := R) (o := o) (p := p) (j := j) HO.out e hkk h1 (Or.inr hs) (by rw [hdl]; exact HM'.out)
          have hjj : j = x := HJ.out.trans e1
          exact ⟨_, _, _, rfl, HB.out, by rw [hjj]; exact HSX.out, fun _ => e2⟩
        · have qe : ((tx s).toList == [93]) = false := by rw [Lib.toList_data, tx_data, beq_eq_false_iff_ne]; exact hb
          have HD := Lib.hid (HC.out x wr HSX.out)
          have HTS := Lib.hid hs
          obtain ⟨k, rfl⟩ : ∃ k', gk = k' + 1 := ⟨gk - 1, by omega⟩
          clear hg hs
          go_wp2_with fail
          refine HD.out.mono ?_; rintro e w1 ⟨d, rfl, b1, r1, m1⟩
          have B1 := Lib.hid b1
          have M1 := Lib.hid m1
          have R1 := Lib.hid r1
          have BO := Lib.hid (HB.out.trans b1)
          have O1 := Lib.hid (HO.out.same (fun g hg => b1.block g (HO.out.low g hg) (by have := HO.out.lt g hg; omega)))
          clear b1 m1 r1
          have VL := Lib.hid (litD w1 d)
          have hbl := bel1 w1 (.cells #[.string (tx d.h), .string (tx d.n), .slice d.sa d.sn d.sc, .slice d.ba d.bn d.bc] 51)
          have O2 := Lib.hid (O1.out.same (fun g hg => hbl.block g (O1.out.low g hg)))
          have R2 := Lib.hid (R1.out.next hbl)
          have BL2 := Lib.hid hbl
          have hz2 := hbl.size
          have hzz : z.heap.size ≤ (w1.alloc (.cells #[.string (tx d.h), .string (tx d.n), .slice d.sa d.sn d.sc, .slice d.ba d.bn d.bc] 51)).heap.size := by have := BO.out.size; omega
          have hdm : ds.length ≤ 4194304 := by have := HM'.out.1; omega
          clear hbl
          unfold Dv.v
          go_wp2_with (first
            | (at_builtin; refine append_deeds rfl (.tmp 26) (.tmp 29) rfl (base := z.heap.size) (l := ds) (m := [d]) rfl rfl rfl O2.out VL.out (by simp; omega) hzz ?_; intro v3 w3 o3 g3 n3; have G3 := Lib.hid (And.intro o3 (And.intro g3 n3)); clear o3 g3 n3)
            | fail)
          go_roundg k
          case measure => omega
          case rel =>
            obtain ⟨o3, g3, n3⟩ := G3.out
            exact DsI.step HA.out hp HB.out HO.out e hkk HJ.out HTS.out hb (by rw [hdl]; exact HM'.out) B1.out M1.out BL2.out hz2 g3 n3 o3 (R2.out.grown g3 (fun g hg => ⟨by have := O2.out.lt g hg; omega, by have := O2.out.lt g hg; omega⟩))
end Go.Proofs.YtoiphglfngkoiaaGreatDoor.Cl
namespace Go.Proofs.YtoiphglfngkoiaaGreatDoor.Cl
set_option linter.unusedVariables false
open Go.RowKit Wd Rp Cu Kp
theorem Sx.c1 {w0 z : World} {p : Nat} {l : List Tk} {o x : Int} (h : Sx w0 p l o x z) : z.cell? ⟨p, 1, none⟩ = some (.int .i64 o) := by
  rcases h with ⟨e', lf, h⟩ | ⟨e', h0, h1, h⟩
  · exact h.c1
  · exact h.c1
theorem Sx.f1 {w0 z : World} {p : Nat} {l : List Tk} {o x : Int} (h : Sx w0 p l o x z) : z.frozen? ⟨p, 1, none⟩ = false := by
  rcases h with ⟨e', lf, h⟩ | ⟨e', h0, h1, h⟩
  · exact h.f1
  · exact h.f1
theorem Sx.open {w0 z : World} {p : Nat} {l : List Tk} {o x : Int} (h : Sx w0 p l o x z) (o' : Int) : Sx w0 p l o' x (z.setCell ⟨p, 1, none⟩ (.int .i64 o')) := by
  rcases h with ⟨e', lf, h⟩ | ⟨e', h0, h1, h⟩
  · exact Or.inl ⟨e', lf, h.open o'⟩
  · exact Or.inr ⟨e', h0, h1, h.open o'⟩
theorem tkN_neg (l : List Tk) : tkN l (-1) = [] := by unfold tkN; rw [tkA_neg (by omega)]; rfl
theorem tkN_is {l : List Tk} {x : Int} {s : Tk} (hs : s ≠ []) : tkN l x = s ↔ tkA l x = some s := by
  unfold tkN
  cases h : tkA l x with
  | none => simp; exact hs
  | some t => simp
theorem blX {l : List Tk} {f : Int → Int} (hA : ∀ i, Ahd l i (f i)) (x y j : Int) (hy : y = if tkN l x = [91] then tkX l x else -1) (hj : j = dlE l f (l.length + 1) y) : blS l f x = if tkN l j = [93] then tkX l j else -1 := by
  unfold blS
  by_cases h : tkA l x = some [91]
  · rw [if_pos ((tkN_is (by simp)).2 h)] at hy
    have e : tkX l x = x + 1 := by unfold tkX; rw [if_neg (by rw [h]; simp)]
    have := tkA_some h
    rw [if_pos h, ble_dl hA (l.length + 1) (x + 1) (by omega), ← e, ← hy, ← hj]
    by_cases h2 : tkA l j = some [93]
    · rw [if_pos h2, if_pos ((tkN_is (by simp)).2 h2)]
      unfold tkX; rw [if_neg (by rw [h2]; simp)]
    · rw [if_neg h2, if_neg (fun e => h2 ((tkN_is (by simp)).1 e))]
  · rw [if_neg (fun e => h ((tkN_is (by simp)).1 e))] at hy
    rw [if_neg h, hj, hy, dlE_neg _ _ _ (by omega), tkN_neg, if_neg (by simp)]
theorem blR_y {l : List Tk} {f : Int → Int} {R : Int → List Rc} {x y : Int} (hy : y = if tkN l x = [91] then tkX l x else -1) (h : y ≠ -1) : blR l f R x = dlR l f R (l.length + 1) y := by
  split at hy
  · rename_i e
    have e1 := (tkN_is (by simp)).1 e
    have e2 : tkX l x = x + 1 := by unfold tkX; rw [if_neg (by rw [e1]; simp)]
    rw [hy, e2]; rfl
  · exact absurd hy h
set_option maxHeartbeats 1000000 in
set_option maxRecDepth 100000 in
theorem deeds_fail {w0 : World} {p : Nat} {l : List Tk} {o : Int} {z : World} (h : Sx w0 p l o (-1) z) : Calls Tryz.prog 23 #[.pointer (some ⟨p, 0, none⟩)] z fun e z' => e = .returned (.slice none 0 0) ∧ z = z' := by
  rcases h with ⟨-, lf, r⟩ | ⟨e, -⟩
  · have c2 := r.c2
    clear r
    go_enter Tryz.func23, Tryz.ntmps23
    go_wp2_with fail
    go_loopw [3] (fun v wr => v = .slice none 0 0 ∧ z = wr) (fun _ _ => 0)
    case atStart => exact ⟨rfl, rfl⟩
    case round =>
      obtain ⟨rfl, rfl⟩ := hrel
      go_wp2_with fail
      go_ret
      exact ⟨rfl, rfl⟩
  · exact absurd rfl e
set_option maxHeartbeats 8000000 in
set_option maxRecDepth 100000 in
theorem block_core {w0 : World} {p : Nat} {l : List Tk} {D : Nat} {o x y J : Int} {F : List Rc} {z : World} (hs : Sx w0 p l o x z) (ho : -1000 ≤ o ∧ o ≤ 1000) (hy : y = if tkN l x = [91] then (if o + 1 ≤ 5 then tkX l x else -1) else -1)
    (hD : ∀ z, Sx w0 p l (o + 1) y z → Calls Tryz.prog 23 #[.pointer (some ⟨p, 0, none⟩)] z fun e z' => ∃ a n c, e = .returned (.slice a n c) ∧ But p z z' ∧ Sx w0 p l (o + 1) J z' ∧ (J ≠ -1 → DM w0 (z.heap.size ≤ ·) z' D (.slice a n c) F)) :
    Calls Tryz.prog 45 #[.pointer (some ⟨p, 0, none⟩)] z fun e z' => ∃ a n c, e = .returned (.slice a n c) ∧ But p z z' ∧ Sx w0 p l o (if tkN l J = [93] then tkX l J else -1) z' ∧ (J ≠ -1 → DM w0 (z.heap.size ≤ ·) z' D (.slice a n c) F) := by
  have HD := Lib.hid hD; clear hD
  have hp := hs.lo.2
  have c1 := hs.c1
  have f1 := hs.f1
  have i1 : IntKind.i64.wrap (o + 1) = o + 1 := by rw [IntKind.wrap_i64]; omega
  have i2 : IntKind.i64.wrap (o + 1 - 1) = o := by rw [IntKind.wrap_i64]; omega
  have HT := Lib.hid (token_x (hs.open (o + 1)))
  have BU1 := Lib.hid (but_set z p 1 (.int .i64 (o + 1)))
  have HY := Lib.hid hy
  clear hs hy
  obtain ⟨zz, hzz⟩ : ∃ zz, (if tkN l J = [93] then tkX l J else -1) = zz := ⟨_, rfl⟩
  rw [hzz]
  have HZ := Lib.hid hzz
  clear hzz
  generalize hx1 : tkX l x = x1 at *
  clear hx1
  go_enter Tryz.func45, Tryz.ntmps45
  go_wp2_with fail
  generalize z.setCell ⟨p, 1, none⟩ (.int .i64 (o + 1)) = w1 at *
  clear c1 f1
  refine HT.out.mono ?_; rintro e w2 ⟨t, rfl, b2, r2, ht⟩
  have BU2 := Lib.hid (BU1.out.trans b2)
  have R2 := Lib.hid r2
  rw [← ht] at HY
  have c2 := r2.c1
  clear b2 r2 ht HT
  by_cases h91 : t = [91]
  · subst h91
    have qe : ((tx [91]).toList == [91]) = true := tx_eqL _
    by_cases ho5 : o + 1 ≤ 5
    · have q5 : decide (o + 1 ≤ 5) = true := by simpa using ho5
      have hq0 : True := trivial
      go_wp2_with fail
      have HY' := Lib.hid (show y = (if (true : Bool) then x1 else -1) from by rw [HY.out]; simp [ho5])
      refine (require_x R2.out true).mono ?_; rintro e w3 ⟨rfl, b3, r3⟩
      rw [← HY'.out] at r3
      have BU3 := Lib.hid (BU2.out.trans b3)
      have R3 := Lib.hid r3
      clear b3 r3
      go_wp2_with fail
      refine (HD.out w3 R3.out).mono ?_; rintro e w4 ⟨a4, n4, cc4, rfl, b4, r4, m4⟩
      have BU4 := Lib.hid (BU3.out.trans b4)
      have R4 := Lib.hid r4
      have M4 := Lib.hid m4
      have hz3 : z.heap.size ≤ w3.heap.size := BU3.out.size
      clear b4 r4 m4
      go_wp2_with fail
      refine (token_x R4.out).mono ?_; rintro e w5 ⟨t5, rfl, b5, r5, ht5⟩
      have BU5 := Lib.hid (BU4.out.trans b5)
      have R5 := Lib.hid r5
      have B5 := Lib.hid b5
      have HT5 := Lib.hid ht5
      clear b5 r5 ht5
      by_cases h93 : t5 = [93]
      · subst h93
        have qe5 : ((tx [93]).toList == [93]) = true := tx_eqL _
        go_wp2_with fail
        refine (require_x R5.out true).mono ?_; rintro e w6 ⟨rfl, b6, r6⟩
        have BU6 := Lib.hid (BU5.out.trans b6)
        have B6 := Lib.hid (B5.out.trans b6)
        have R6 := Lib.hid (r6.open o)
        have c6 := r6.c1
        have f6 := r6.f1
        clear b6 r6
        go_wp2_with fail
        go_ret
        refine ⟨a4, n4, cc4, rfl, BU6.out.trans (but_set w6 p 1 _), ?_, fun hn => ?_⟩
        · rw [← HZ.out, ← HT5.out, if_pos rfl]; exact R6.out
        · have hbb := B6.out.trans (but_set w6 p 1 (.int .i64 o))
          exact DM.keep hbb.size (fun g h1 h2 => hbb.block g h2 (by have := BU3.out.size; omega)) (fun g h1 h2 => by show z.heap.size ≤ g; omega) D _ _ (M4.out hn)
      · have qe5 : ((tx t5).toList == [93]) = false := by rw [Lib.toList_data, tx_data, beq_eq_false_iff_ne]; exact h93
        go_wp2_with fail
        refine (require_x R5.out false).mono ?_; rintro e w6 ⟨rfl, b6, r6⟩
        have BU6 := Lib.hid (BU5.out.trans b6)
        have B6 := Lib.hid (B5.out.trans b6)
        have R6 := Lib.hid (r6.open o)
        have c6 := r6.c1
        have f6 := r6.f1
        clear b6 r6
        go_wp2_with fail
        go_ret
        refine ⟨a4, n4, cc4, rfl, BU6.out.trans (but_set w6 p 1 _), ?_, fun hn => ?_⟩
        · rw [← HZ.out, ← HT5.out, if_neg h93]; exact R6.out
        · have hbb := B6.out.trans (but_set w6 p 1 (.int .i64 o))
          exact DM.keep hbb.size (fun g h1 h2 => hbb.block g h2 (by have := BU3.out.size; omega)) (fun g h1 h2 => by show z.heap.size ≤ g; omega) D _ _ (M4.out hn)
    · have q5 : decide (o + 1 ≤ 5) = false := by simpa using ho5
      have hq0 : True := trivial
      go_wp2_with fail
      have HY' := Lib.hid (show y = (if (false : Bool) then x1 else -1) from by rw [HY.out]; simp; omega)
      refine (require_x R2.out false).mono ?_; rintro e w3 ⟨rfl, b3, r3⟩
      rw [← HY'.out] at r3
      have BU3 := Lib.hid (BU2.out.trans b3)
      have R3 := Lib.hid r3
      clear b3 r3
      go_wp2_with fail
      refine (HD.out w3 R3.out).mono ?_; rintro e w4 ⟨a4, n4, cc4, rfl, b4, r4, m4⟩
      have BU4 := Lib.hid (BU3.out.trans b4)
      have R4 := Lib.hid r4
      have M4 := Lib.hid m4
      have hz3 : z.heap.size ≤ w3.heap.size := BU3.out.size
      clear b4 r4 m4
      go_wp2_with fail
      refine (token_x R4.out).mono ?_; rintro e w5 ⟨t5, rfl, b5, r5, ht5⟩
      have BU5 := Lib.hid (BU4.out.trans b5)
      have R5 := Lib.hid r5
      have B5 := Lib.hid b5
      have HT5 := Lib.hid ht5
      clear b5 r5 ht5
      by_cases h93 : t5 = [93]
      · subst h93
        have qe5 : ((tx [93]).toList == [93]) = true := tx_eqL _
        go_wp2_with fail
        refine (require_x R5.out true).mono ?_; rintro e w6 ⟨rfl, b6, r6⟩
        have BU6 := Lib.hid (BU5.out.trans b6)
        have B6 := Lib.hid (B5.out.trans b6)
        have R6 := Lib.hid (r6.open o)
        have c6 := r6.c1
        have f6 := r6.f1
        clear b6 r6
        go_wp2_with fail
        go_ret
        refine ⟨a4, n4, cc4, rfl, BU6.out.trans (but_set w6 p 1 _), ?_, fun hn => ?_⟩
        · rw [← HZ.out, ← HT5.out, if_pos rfl]; exact R6.out
        · have hbb := B6.out.trans (but_set w6 p 1 (.int .i64 o))
          exact DM.keep hbb.size (fun g h1 h2 => hbb.block g h2 (by have := BU3.out.size; omega)) (fun g h1 h2 => by show z.heap.size ≤ g; omega) D _ _ (M4.out hn)
      · have qe5 : ((tx t5).toList == [93]) = false := by rw [Lib.toList_data, tx_data, beq_eq_false_iff_ne]; exact h93
        go_wp2_with fail
        refine (require_x R5.out false).mono ?_; rintro e w6 ⟨rfl, b6, r6⟩
        have BU6 := Lib.hid (BU5.out.trans b6)
        have B6 := Lib.hid (B5.out.trans b6)
        have R6 := Lib.hid (r6.open o)
        have c6 := r6.c1
        have f6 := r6.f1
        clear b6 r6
        go_wp2_with fail
        go_ret
        refine ⟨a4, n4, cc4, rfl, BU6.out.trans (but_set w6 p 1 _), ?_, fun hn => ?_⟩
        · rw [← HZ.out, ← HT5.out, if_neg h93]; exact R6.out
        · have hbb := B6.out.trans (but_set w6 p 1 (.int .i64 o))
          exact DM.keep hbb.size (fun g h1 h2 => hbb.block g h2 (by have := BU3.out.size; omega)) (fun g h1 h2 => by show z.heap.size ≤ g; omega) D _ _ (M4.out hn)
  · have qe : ((tx t).toList == [91]) = false := by rw [Lib.toList_data, tx_data, beq_eq_false_iff_ne]; exact h91
    have hq0 : True := trivial
    go_wp2_with fail
    have HY' := Lib.hid (show y = (if (false : Bool) then x1 else -1) from by rw [HY.out]; simp [h91])
    refine (require_x R2.out false).mono ?_; rintro e w3 ⟨rfl, b3, r3⟩
    rw [← HY'.out] at r3
    have BU3 := Lib.hid (BU2.out.trans b3)
    have R3 := Lib.hid r3
    clear b3 r3
    go_wp2_with fail
    refine (HD.out w3 R3.out).mono ?_; rintro e w4 ⟨a4, n4, cc4, rfl, b4, r4, m4⟩
    have BU4 := Lib.hid (BU3.out.trans b4)
    have R4 := Lib.hid r4
    have M4 := Lib.hid m4
    have hz3 : z.heap.size ≤ w3.heap.size := BU3.out.size
    clear b4 r4 m4
    go_wp2_with fail
    refine (token_x R4.out).mono ?_; rintro e w5 ⟨t5, rfl, b5, r5, ht5⟩
    have BU5 := Lib.hid (BU4.out.trans b5)
    have R5 := Lib.hid r5
    have B5 := Lib.hid b5
    have HT5 := Lib.hid ht5
    clear b5 r5 ht5
    by_cases h93 : t5 = [93]
    · subst h93
      have qe5 : ((tx [93]).toList == [93]) = true := tx_eqL _
      go_wp2_with fail
      refine (require_x R5.out true).mono ?_; rintro e w6 ⟨rfl, b6, r6⟩
      have BU6 := Lib.hid (BU5.out.trans b6)
      have B6 := Lib.hid (B5.out.trans b6)
      have R6 := Lib.hid (r6.open o)
      have c6 := r6.c1
      have f6 := r6.f1
      clear b6 r6
      go_wp2_with fail
      go_ret
      refine ⟨a4, n4, cc4, rfl, BU6.out.trans (but_set w6 p 1 _), ?_, fun hn => ?_⟩
      · rw [← HZ.out, ← HT5.out, if_pos rfl]; exact R6.out
      · have hbb := B6.out.trans (but_set w6 p 1 (.int .i64 o))
        exact DM.keep hbb.size (fun g h1 h2 => hbb.block g h2 (by have := BU3.out.size; omega)) (fun g h1 h2 => by show z.heap.size ≤ g; omega) D _ _ (M4.out hn)
    · have qe5 : ((tx t5).toList == [93]) = false := by rw [Lib.toList_data, tx_data, beq_eq_false_iff_ne]; exact h93
      go_wp2_with fail
      refine (require_x R5.out false).mono ?_; rintro e w6 ⟨rfl, b6, r6⟩
      have BU6 := Lib.hid (BU5.out.trans b6)
      have B6 := Lib.hid (B5.out.trans b6)
      have R6 := Lib.hid (r6.open o)
      have c6 := r6.c1
      have f6 := r6.f1
      clear b6 r6
      go_wp2_with fail
      go_ret
      refine ⟨a4, n4, cc4, rfl, BU6.out.trans (but_set w6 p 1 _), ?_, fun hn => ?_⟩
      · rw [← HZ.out, ← HT5.out, if_neg h93]; exact R6.out
      · have hbb := B6.out.trans (but_set w6 p 1 (.int .i64 o))
        exact DM.keep hbb.size (fun g h1 h2 => hbb.block g h2 (by have := BU3.out.size; omega)) (fun g h1 h2 => by show z.heap.size ≤ g; omega) D _ _ (M4.out hn)
theorem block0 {w0 : World} {p : Nat} {l : List Tk} : BlkC w0 p l 0 5 (fun _ => -1) (fun _ => []) := by
  intro x z hs
  refine (block_core (D := 0) (J := -1) (F := []) (y := -1) hs (by decide) ?_ (fun z h => ?_)).mono ?_
  · split <;> simp
  · refine (deeds_fail h).mono ?_; rintro e z' ⟨rfl, rfl⟩
    exact ⟨_, _, _, rfl, But.refl _ _, h, fun e => absurd rfl e⟩
  · rintro e z' ⟨a, n, c, rfl, b, r, -⟩
    rw [tkN_neg, if_neg (by simp)] at r
    exact ⟨a, n, c, rfl, b, r, fun e => absurd rfl e⟩
theorem block_of {w0 : World} {p : Nat} {l : List Tk} {D : Nat} {o : Int} {f : Int → Int} {R : Int → List Rc} (ho : -1000 ≤ o ∧ o ≤ 4) (hA : ∀ i, Ahd l i (f i)) (hC : DdsC w0 p l D (o + 1) f R) : BlkC w0 p l (D + 1) o (blS l f) (blR l f R) := by
  intro x z hs
  obtain ⟨y, hy⟩ : ∃ y, y = if tkN l x = [91] then tkX l x else -1 := ⟨_, rfl⟩
  have hb := blX hA x y _ hy rfl
  refine (block_core (D := D + 1) (J := dlE l f (l.length + 1) y) (F := dlR l f R (l.length + 1) y) (y := y) hs (by omega) (by rw [hy, if_pos (by omega : o + 1 ≤ 5)]) (fun z h => hC y z h)).mono ?_
  rintro e z' ⟨a, n, c, rfl, b, r, m⟩
  rw [← hb] at r
  refine ⟨a, n, c, rfl, b, r, fun hn => ?_⟩
  have hy1 : y ≠ -1 := fun e => hn (by rw [hb, e, dlE_neg _ _ _ (by omega), tkN_neg]; simp)
  have hj1 : dlE l f (l.length + 1) y ≠ -1 := fun e => hn (by rw [hb, e, tkN_neg]; simp)
  rw [blR_y hy hy1]
  exact m hj1
theorem deed_all {w0 : World} {p : Nat} {l : List Tk} (hL : Lib3 w0) (hll : l.length ≤ 4194304) : ∀ D : Nat, D ≤ 5 → DeedC w0 p l D (5 - D) (ddE l D) (ddR l D)
  | 0, _ => deed_of hL rfl block0
  | D + 1, h => by
    have ih := deed_all (p := p) hL hll D (by omega)
    have h1 := deeds_of hll (ddE_ahd l D) ih
    have h2 := block_of (o := 5 - ((D + 1 : Nat) : Int)) (by omega) (ddE_ahd l D) (by rw [show (5 : Int) - ((D + 1 : Nat) : Int) + 1 = 5 - (D : Int) by omega]; exact h1)
    exact deed_of hL (ahd_neg (bls_ahd (ddE_ahd l D))) h2
theorem deeds_top {w0 : World} {p : Nat} {l : List Tk} (hL : Lib3 w0) (hll : l.length ≤ 4194304) : DdsC w0 p l 5 0 (ddE l 5) (ddR l 5) := deeds_of hll (ddE_ahd l 5) (deed_all hL hll 5 (by omega))
end Go.Proofs.YtoiphglfngkoiaaGreatDoor.Cl
namespace Go.Proofs.YtoiphglfngkoiaaGreatDoor.Cl
set_option linter.unusedVariables false
open Go.RowKit Wd Rp Cu Kp
theorem Rd.new {w : World} {a : Option Addr} {cap n : Nat} {l : List Tk} {T : TypeId} (hn : l.length = n) (hb : Bd l) (hv : V1 w a cap (txL l)) : Rd w w.heap.size l 0 false (w.alloc (.cells #[.slice a n cap, .int .i64 0, .bool false] T)) := by
  have e := new_of w (.cells #[.slice a n cap, .int .i64 0, .bool false] T)
  exact ⟨bel1 _ _, Nat.le_refl _, by rw [World.size_alloc]; omega, hb, ⟨a, cap, by rw [hn]; simp only [World.cell?, e]; rfl, hv⟩, by simp only [World.cell?, e]; rfl, by simp only [World.cell?, e]; rfl,
    by simp only [World.frozen?, e]; rfl, by simp only [World.frozen?, e]; rfl, by simp only [World.frozen?, e]; rfl⟩
theorem Sx.cases {w0 z : World} {p : Nat} {l : List Tk} {o x : Int} (h : Sx w0 p l o x z) : (x = -1 ∧ z.cell? ⟨p, 2, none⟩ = some (.bool true)) ∨ (0 ≤ x ∧ x ≤ l.length ∧ z.cell? ⟨p, 2, none⟩ = some (.bool false) ∧ ∃ a cap, z.cell? ⟨p, 0, none⟩ = some (.slice a (l.length - x.toNat) cap)) := by
  rcases h with ⟨e, lf, r⟩ | ⟨e, h0, h1, r⟩
  · exact Or.inl ⟨e, r.c2⟩
  · obtain ⟨a, cap, c0, -⟩ := r.vw
    rw [List.length_drop] at c0
    exact Or.inr ⟨h0, h1, r.c2, a, cap, c0⟩
set_option maxHeartbeats 4000000 in
set_option maxRecDepth 100000 in
theorem deedsOf_any (w : World) (a : Option Addr) (cap : Nat) (l : List Tk) (n : Nat) (hn : l.length = n) (hv : V1 w a cap (txL l)) (hl : n ≤ 4194304) (hm : ∀ s ∈ l, s.length ≤ 4194304) (hL : Lib3 w) :
    Calls Tryz.prog 15 #[.slice a n cap] w fun e w' => ∃ b m c, e = .returned (.tuple #[.slice b m c, .bool (rcB l)]) ∧ Below w.heap.size w w' ∧ (rcB l = true → DM w (w.heap.size ≤ ·) w' 6 (.slice b m c) (rcR l)) := by
  have HR := Lib.hid (rcB_dl l)
  by_cases h120 : l.length ≤ 120
  · rw [decide_eq_true h120, Bool.true_and] at HR
    have y0 : decide ((120 : Int) < (n : Int)) = false := by simp; omega
    have y1 : ¬ (120 : Int) < (n : Int) := by omega
    have y2 : decide (120 < n) = false := by simp; omega
    have hrd := Rd.new (T := 46) hn ⟨by omega, hm⟩ hv
    have HBL := Lib.hid (bel1 w (.cells #[.slice a n cap, .int .i64 0, .bool false] 46))
    have hz : (w.alloc (.cells #[.slice a n cap, .int .i64 0, .bool false] 46)).heap.size = w.heap.size + 1 := World.size_alloc _ _
    have HD := Lib.hid (deeds_top (p := w.heap.size) hL (by omega) 0 _ (Or.inr ⟨by decide, by decide, by omega, hrd⟩))
    have HF := Lib.hid (show rcR l = dlR l (ddE l 5) (ddR l 5) (l.length + 1) 0 from rfl)
    clear hrd hv hm
    generalize hq : w.heap.size = q at *
    obtain ⟨J, hJ⟩ : ∃ J, dlE l (ddE l 5) (l.length + 1) 0 = J := ⟨_, rfl⟩
    obtain ⟨G, hG⟩ : ∃ G, dlR l (ddE l 5) (ddR l 5) (l.length + 1) 0 = G := ⟨_, rfl⟩
    obtain ⟨rb, hrb⟩ : ∃ rb, rcB l = rb := ⟨_, rfl⟩
    rw [hJ] at HR HD
    rw [hG] at HF HD
    rw [hrb] at HR ⊢
    rw [HF.out]
    clear hJ hG hrb HF
    go_enter Tryz.func15, Tryz.ntmps15
    go_wp2_with fail
    generalize w.alloc (.cells #[.slice a n cap, .int .i64 0, .bool false] 46) = w1 at *
    refine HD.out.mono ?_; rintro e w2 ⟨b, m, c, rfl, b2, r2, m2⟩
    have B2 := Lib.hid (HBL.out.trans (b2.below (Nat.le_refl _) (by omega)))
    have M2 := Lib.hid m2
    have hk : ∀ g, w1.heap.size ≤ g → q ≤ g := fun g hg => by omega
    have HK := Lib.hid (fun (hn : J ≠ -1) => DM.keep (w' := w2) (K' := (q ≤ ·)) (Nat.le_refl _) (fun _ _ _ => rfl) (fun g h _ => hk g h) 6 _ _ (m2 hn))
    have hc := r2.cases
    clear b2 r2 m2 M2 hk HD
    rcases hc with ⟨hx, c2⟩ | ⟨h0, h1, c2, a3, cap3, c0⟩
    · go_wp2_with fail
      have hf : rb = false := by rw [HR.out, hx]; simp
      refine bodyPost_ret (v := .tuple #[.slice none 0 0, .bool false]) (by simp [results, Tryz.results15, go_sem]) rfl ⟨none, 0, 0, by rw [hf], B2.out, fun e => by rw [hf] at e; cases e⟩
    · obtain ⟨k, hkk⟩ : ∃ k, l.length - J.toNat = k := ⟨_, rfl⟩
      rw [hkk] at c0
      by_cases hk0 : k = 0
      · have t0 : decide ((0 : Int) < (k : Int)) = false := by simp; omega
        have t1 : decide (0 < k) = false := by simp; omega
        have t2 : ¬ (0 : Int) < (k : Int) := by omega
        have hrb : rb = true := by rw [HR.out]; simp; omega
        have hj : J ≠ -1 := by omega
        clear hkk
        subst hk0
        go_wp2_with fail
        refine bodyPost_ret (v := .tuple #[.slice b m c, .bool true]) (by simp [results, Tryz.results15, go_sem]) rfl ⟨b, m, c, by rw [hrb], B2.out, fun _ => HK.out hj⟩
      · have t0 : decide ((0 : Int) < (k : Int)) = true := by simp; omega
        have t1 : decide (0 < k) = true := by simp; omega
        have t2 : (0 : Int) < (k : Int) := by omega
        have hrb : rb = false := by rw [HR.out]; simp; omega
        clear hkk hk0
        go_wp2_with fail
        refine bodyPost_ret (v := .tuple #[.slice none 0 0, .bool false]) (by simp [results, Tryz.results15, go_sem]) rfl ⟨none, 0, 0, by rw [hrb], B2.out, fun e => by rw [hrb] at e; cases e⟩
  · rw [decide_eq_false h120, Bool.false_and] at HR
    have y0 : decide ((120 : Int) < (n : Int)) = true := by simp; omega
    have y1 : (120 : Int) < (n : Int) := by omega
    have y2 : decide (120 < n) = true := by simp; omega
    rw [HR.out]
    clear hv hm
    go_enter Tryz.func15, Tryz.ntmps15
    go_wp2_with fail
    refine bodyPost_ret (v := .tuple #[.slice none 0 0, .bool false]) (by simp [results, Tryz.results15, go_sem]) rfl ⟨none, 0, 0, rfl, Below.refl _ _, fun e => by cases e⟩
end Go.Proofs.YtoiphglfngkoiaaGreatDoor.Cl
