/-
  The reader of statements in memory: its block ('Rd'); contracts of its require, token, name, sum.
-/
import Derived.Test.YtkhmbmcomgclaaaDoorYk
import Derived.Test.YtkhmbmcomgclaaaDoorLw
import Derived.Test.YtkhmbmcomgclaaaDoorCu
namespace Go.Proofs.YtkhmbmcomgclaaaDoor.Cl
open Go.RowKit Wd Rp Cu Kp
set_option linter.unusedVariables false
/-- Tokens within bounds. -/
def Bd (l : List Tk) : Prop := l.length ≤ 4194304 ∧ ∀ s ∈ l, s.length ≤ 4194304
theorem Bd.drop {l : List Tk} (h : Bd l) (k : Nat) : Bd (l.drop k) := ⟨by rw [List.length_drop]; have := h.1; omega, fun s hs => h.2 s (List.mem_of_mem_drop hs)⟩
theorem Bd.take {l : List Tk} (h : Bd l) (k : Nat) : Bd (l.take k) := ⟨by rw [List.length_take]; have := h.1; omega, fun s hs => h.2 s (List.mem_of_mem_take hs)⟩
/-- The reader's block: the tokens that are left, how many brackets are open, whether it has failed; w0 is the world ahead of it. -/
structure Rd (w0 : World) (p : Nat) (lf : List Tk) (o : Int) (fl : Bool) (w : World) : Prop where
  bel : Below w0.heap.size w0 w
  lo : w0.heap.size ≤ p
  lt : p < w.heap.size
  bd : Bd lf
  vw : ∃ a cap, w.cell? ⟨p, 0, none⟩ = some (.slice a lf.length cap) ∧ V1 w0 a cap (txL lf)
  c1 : w.cell? ⟨p, 1, none⟩ = some (.int .i64 o)
  c2 : w.cell? ⟨p, 2, none⟩ = some (.bool fl)
  f0 : w.frozen? ⟨p, 0, none⟩ = false
  f1 : w.frozen? ⟨p, 1, none⟩ = false
  f2 : w.frozen? ⟨p, 2, none⟩ = false
theorem Rd.next {w0 w w' : World} {p : Nat} {lf : List Tk} {o : Int} {fl : Bool} (h : Rd w0 p lf o fl w) (hb : Below w.heap.size w w') : Rd w0 p lf o fl w' := by
  have e := hb.block p h.lt
  obtain ⟨a, cap, h0, hv⟩ := h.vw
  exact ⟨bel_tr h.bel hb (Nat.le_refl _), h.lo, Nat.lt_of_lt_of_le h.lt hb.size, h.bd, ⟨a, cap, (World.cell?_of_block (w := w) e).trans h0, hv⟩, (World.cell?_of_block (w := w) e).trans h.c1, (World.cell?_of_block (w := w) e).trans h.c2,
    (World.frozen?_of_block (w := w) e).trans h.f0, (World.frozen?_of_block (w := w) e).trans h.f1, (World.frozen?_of_block (w := w) e).trans h.f2⟩
theorem coff3 {w : World} {p i j : Nat} {u v : Value} (h : i ≠ j) (hc : w.cell? ⟨p, i, none⟩ = some v) : (w.setCell ⟨p, j, none⟩ u).cell? ⟨p, i, none⟩ = some v := (World.cell?_setCell_other w ⟨p, j, none⟩ ⟨p, i, none⟩ u (fun e => h (by cases e; rfl))).trans hc
theorem Rd.fail {w0 w : World} {p : Nat} {lf : List Tk} {o : Int} {fl : Bool} (h : Rd w0 p lf o fl w) (b : Bool) : Rd w0 p lf o b (w.setCell ⟨p, 2, none⟩ (.bool b)) := by
  obtain ⟨a, cap, h0, hv⟩ := h.vw
  exact ⟨h.bel.setCell (p := ⟨p, 2, none⟩) h.lo _, h.lo, by rw [World.size_setCell]; exact h.lt, h.bd, ⟨a, cap, coff3 (by decide) h0, hv⟩, coff3 (by decide) h.c1, World.cell?_setCell_same' _ _ _ (by rw [h.c2]; rfl),
    by rw [World.frozen?_setCell]; exact h.f0, by rw [World.frozen?_setCell]; exact h.f1, by rw [World.frozen?_setCell]; exact h.f2⟩
theorem Rd.open {w0 w : World} {p : Nat} {lf : List Tk} {o : Int} {fl : Bool} (h : Rd w0 p lf o fl w) (o' : Int) : Rd w0 p lf o' fl (w.setCell ⟨p, 1, none⟩ (.int .i64 o')) := by
  obtain ⟨a, cap, h0, hv⟩ := h.vw
  exact ⟨h.bel.setCell (p := ⟨p, 1, none⟩) h.lo _, h.lo, by rw [World.size_setCell]; exact h.lt, h.bd, ⟨a, cap, coff3 (by decide) h0, hv⟩, World.cell?_setCell_same' _ _ _ (by rw [h.c1]; rfl), coff3 (by decide) h.c2,
    by rw [World.frozen?_setCell]; exact h.f0, by rw [World.frozen?_setCell]; exact h.f1, by rw [World.frozen?_setCell]; exact h.f2⟩
theorem Rd.left {w0 w : World} {p : Nat} {lf lf' : List Tk} {o : Int} {fl : Bool} (h : Rd w0 p lf o fl w) {a : Option Addr} {cap n : Nat} (hn : lf'.length = n) (hb : Bd lf') (hv : V1 w0 a cap (txL lf')) : Rd w0 p lf' o fl (w.setCell ⟨p, 0, none⟩ (.slice a n cap)) := by
  obtain ⟨a0, cap0, h0, hv0⟩ := h.vw
  exact ⟨h.bel.setCell (p := ⟨p, 0, none⟩) h.lo _, h.lo, by rw [World.size_setCell]; exact h.lt, hb, ⟨a, cap, by rw [hn]; exact World.cell?_setCell_same' _ _ _ (by rw [h0]; rfl), hv⟩, coff3 (by decide) h.c1, coff3 (by decide) h.c2,
    by rw [World.frozen?_setCell]; exact h.f0, by rw [World.frozen?_setCell]; exact h.f1, by rw [World.frozen?_setCell]; exact h.f2⟩
theorem Rd.lib {w0 w : World} {p : Nat} {lf : List Tk} {o : Int} {fl : Bool} (h : Rd w0 p lf o fl w) (hL : Lib3 w0) : Lib3 w := lib3_below hL h.bel
theorem but_set (w : World) (p j : Nat) (u : Value) : But p w (w.setCell ⟨p, j, none⟩ u) := (But.refl p w).setCell rfl u
set_option maxRecDepth 100000 in
theorem cut1_low (T : TypeId) (hu : Tryd.prog.underlying T = some (.slice (Tryd.prog.elem T))) (hs : ∀ w, (sizeOf (Tryd.prog.elem T)).run Tryd.prog w = .ok 1 w) (a : Option Addr) (n cap i : Nat) (hi : i ≤ n) : ∃ b cb, (∀ w, (Instr.slice T (.slice a n cap) (some (.int .i64 (i : Int))) none none).run Tryd.prog w = .ok (.slice b (n - i) cb) w) ∧
    ∀ w l, V1 w a cap l → l.length = n → V1 w b cb (l.drop i) := by
  refine ⟨_, _, fun w => ?_, fun w l h hl => h.drop (k := i) (by omega)⟩
  rw [run_slice_l w T a n cap hu .i64 (i : Int) (by omega) (by omega), hs]
  rfl
set_option maxHeartbeats 1000000 in
set_option maxRecDepth 100000 in
theorem require_any {w0 w : World} {p : Nat} {lf : List Tk} {o : Int} {fl : Bool} (h : Rd w0 p lf o fl w) (b : Bool) : Calls Tryd.prog 41 #[.pointer (some ⟨p, 0, none⟩), .bool b] w fun e w' => e = .returned (.tuple #[]) ∧ Rd w0 p lf o (fl || !b) w' ∧ But p w w' := by
  have c2 := h.c2
  have f2 := h.f2
  have HF := Lib.hid (fun x => h.fail x)
  have HB := Lib.hid (fun x => but_set w p 2 x)
  clear h
  cases fl
  · cases b
    · go_enter Tryd.func41, Tryd.ntmps41
      go_wp2_with fail
      exact bodyPost_end (v := .tuple #[]) (by simp [results, Tryd.results41, go_sem]) rfl ⟨rfl, HF.out _, HB.out _⟩
    · go_enter Tryd.func41, Tryd.ntmps41
      go_wp2_with fail
      exact bodyPost_end (v := .tuple #[]) (by simp [results, Tryd.results41, go_sem]) rfl ⟨rfl, HF.out _, HB.out _⟩
  · go_enter Tryd.func41, Tryd.ntmps41
    go_wp2_with fail
    exact bodyPost_end (v := .tuple #[]) (by simp [results, Tryd.results41, go_sem]) rfl ⟨rfl, HF.out _, HB.out _⟩
set_option maxHeartbeats 1000000 in
set_option maxRecDepth 100000 in
theorem token_fail {w0 w : World} {p : Nat} {lf : List Tk} {o : Int} (h : Rd w0 p lf o true w) : Calls Tryd.prog 37 #[.pointer (some ⟨p, 0, none⟩)] w fun e w' => e = .returned (.string ⟨#[]⟩) ∧ Rd w0 p lf o true w' ∧ But p w w' := by
  obtain ⟨a, cap, c0, -⟩ := h.vw
  have HQ := Lib.hid (fun b => require_any h b)
  clear h
  go_enter Tryd.func37, Tryd.ntmps37
  go_wp2_with fail
  refine (HQ.out _).mono ?_; rintro e w1 ⟨rfl, r1, b1⟩
  have c2 : w1.cell? ⟨p, 2, none⟩ = some (.bool true) := r1.c2
  have R1 := Lib.hid (show Rd w0 p lf o true w1 from r1)
  have B1 := Lib.hid b1
  clear r1 b1
  go_wp2_with fail
  go_ret
  exact ⟨rfl, R1.out, B1.out⟩
set_option maxHeartbeats 1000000 in
set_option maxRecDepth 100000 in
theorem token_nil {w0 w : World} {p : Nat} {o : Int} (h : Rd w0 p [] o false w) : Calls Tryd.prog 37 #[.pointer (some ⟨p, 0, none⟩)] w fun e w' => e = .returned (.string ⟨#[]⟩) ∧ Rd w0 p [] o true w' ∧ But p w w' := by
  obtain ⟨a, cap, c0, -⟩ := h.vw
  replace c0 : w.cell? ⟨p, 0, none⟩ = some (.slice a 0 cap) := c0
  have HQ := Lib.hid (require_any h false)
  clear h
  go_enter Tryd.func37, Tryd.ntmps37
  go_wp2_with fail
  refine HQ.out.mono ?_; rintro e w1 ⟨rfl, r1, b1⟩
  have c2 : w1.cell? ⟨p, 2, none⟩ = some (.bool true) := r1.c2
  have R1 := Lib.hid (show Rd w0 p [] o true w1 from r1)
  have B1 := Lib.hid b1
  clear r1 b1
  go_wp2_with fail
  go_ret
  exact ⟨rfl, R1.out, B1.out⟩
set_option maxHeartbeats 1000000 in
set_option maxRecDepth 100000 in
theorem token_cons {w0 w : World} {p : Nat} {s : Tk} {lf : List Tk} {o : Int} (h : Rd w0 p (s :: lf) o false w) : Calls Tryd.prog 37 #[.pointer (some ⟨p, 0, none⟩)] w fun e w' => e = .returned (.string (tx s)) ∧ Rd w0 p lf o false w' ∧ But p w w' := by
  obtain ⟨a0, cap0, c0', -⟩ := h.vw
  have HQ := Lib.hid (require_any h true)
  have hd := h.bd.drop 1
  clear h
  obtain ⟨n, hn⟩ : ∃ n, lf.length = n := ⟨_, rfl⟩
  have c0 : w.cell? ⟨p, 0, none⟩ = some (.slice a0 (n + 1) cap0) := by rw [c0', List.length_cons, hn]
  clear c0'
  have t0 : decide ((0 : Int) < ((n + 1 : Nat) : Int)) = true := by simp
  have t1 : (0 : Int) < ((n + 1 : Nat) : Int) := by omega
  go_enter Tryd.func37, Tryd.ntmps37
  go_wp2_with fail
  refine HQ.out.mono ?_; rintro e w1 ⟨rfl, r1, b1⟩
  replace r1 : Rd w0 p (s :: lf) o false w1 := r1
  obtain ⟨a, cap, d0, hv⟩ := r1.vw
  rw [List.length_cons, hn] at d0
  have c2 := r1.c2
  have f0 := r1.f0
  have hvl := hv.below r1.bel
  obtain ⟨g, q, rfl, hg, x0⟩ := hvl.tx (l := s :: lf) (k := 0) rfl
  rw [Nat.add_zero] at x0
  obtain ⟨b, cb, hrun, hvv⟩ := cut1_low 22 (by kernel_rfl) (fun w => by exact Tryd.sizeOf9 w) (some ⟨g, q, none⟩) (n + 1) cap 1 (by omega)
  have hr : ∀ w, (Instr.slice 22 (.slice (some ⟨g, q, none⟩) (n + 1) cap) (some (.int .i64 1)) none none).run Tryd.prog w = .ok (.slice b n cb) w := hrun
  have hv1 := hvv w0 _ hv (by rw [txL_len, List.length_cons, hn])
  have R2 := Lib.hid (r1.left (lf' := lf) hn hd hv1)
  have B2 := Lib.hid (b1.trans (but_set w1 p 0 (.slice b n cb)))
  clear c0 hrun hvv hv hv1 hvl r1 b1 hg HQ hd hn
  go_wp2_with fail
  go_ret
  exact ⟨rfl, R2.out, B2.out⟩
set_option maxHeartbeats 1000000 in
set_option maxRecDepth 100000 in
theorem name_any {w0 w w1 : World} {p : Nat} {lf : List Tk} {o : Int} {t : Tk} {b : Bool}
    (HT : Calls Tryd.prog 37 #[.pointer (some ⟨p, 0, none⟩)] w fun e w' => e = .returned (.string (tx t)) ∧ Rd w0 p lf o b w' ∧ But p w w') :
    Calls Tryd.prog 38 #[.pointer (some ⟨p, 0, none⟩)] w fun e w' => e = .returned (.string (tx t)) ∧ Rd w0 p lf o (b || !nmB t) w' ∧ But p w w' := by
  have HT := Lib.hid HT
  go_enter Tryd.func38, Tryd.ntmps38
  go_wp2_with fail
  refine HT.out.mono ?_; rintro e w1 ⟨rfl, r1, b1⟩
  have HN := Lib.hid (nmI_any t w1)
  have HQ := Lib.hid (fun x => require_any r1 x)
  have B1 := Lib.hid b1
  clear r1 b1
  go_wp2_with fail
  refine HN.out.mono ?_; rintro e w2 ⟨rfl, rfl⟩
  go_wp2_with fail
  refine (HQ.out _).mono ?_; rintro e w3 ⟨rfl, r3, b3⟩
  have R3 := Lib.hid r3
  have B3 := Lib.hid (B1.out.trans b3)
  clear r3 b3
  go_wp2_with fail
  go_ret
  exact ⟨rfl, R3.out, B3.out⟩
theorem But.of {b : Nat} {w w' : World} (h : Below w.heap.size w w') : But b w w' := (But.refl b w).below' h
set_option maxHeartbeats 4000000 in
set_option maxRecDepth 100000 in
theorem sumAt_low {w0 : World} (w : World) (hw : Below w0.heap.size w0 w) (a : Option Addr) (cap : Nat) (l : List Tk) (n m : Nat) (hn : l.length = n) (hv : V1 w0 a cap (txL l)) (hl : n ≤ 4194304) (hm : ∀ s ∈ l, s.length ≤ 4194304) (hL : Lib3 w) (he : enA l 0 = some m) (hkm : m ≤ n) :
    Calls Tryd.prog 55 #[.slice a n cap, .int .i64 0] w fun e w' => ∃ b cb, e = .returned (.slice b m cb) ∧ V1 w0 b cb (txL (l.take m)) ∧ Below w.heap.size w w' := by
  have HE := Lib.hid (implEnd_any w a cap l n 0 (by constructor <;> decide) hn (hv.below hw) hl hm hL)
  rw [edV_at he, Int.zero_add] at HE
  obtain ⟨b, cb, hrun, hvv⟩ := cut1 22 (by kernel_rfl) (fun w => by exact Tryd.sizeOf9 w) a n cap 0 m (by omega) hkm (by have := hv.1; rw [txL_len] at this; omega)
  rw [Nat.sub_zero] at hrun hvv
  have hr : ∀ w, (Instr.slice 22 (.slice a n cap) (some (.int .i64 0)) (some (.int .i64 (m : Int))) none).run Tryd.prog w = .ok (.slice b m cb) w := hrun
  have HV := Lib.hid (show V1 w0 b cb (txL (l.take m)) from by
    have := hvv w0 (txL l) hv (by rw [txL_len]; exact hn)
    unfold txL at this ⊢
    rw [List.drop_zero, ← List.map_take] at this; exact this)
  clear hrun hvv hv
  have p0 : ¬ (m : Int) < 0 := by omega
  have p1 : decide ((m : Int) < 0) = false := by simp
  go_enter Tryd.func55, Tryd.ntmps55
  go_wp2_with fail
  refine HE.out.mono ?_; rintro e w1 ⟨rfl, b1⟩
  have B1 := Lib.hid b1; clear b1
  go_wp2_with fail
  go_ret
  exact ⟨b, cb, rfl, HV.out, B1.out⟩
set_option maxHeartbeats 8000000 in
set_option maxRecDepth 100000 in
/-- What sum leaves: the expression's tokens and what stands behind it. -/
theorem sum_yes {w0 w : World} {p : Nat} {lf : List Tk} {o : Int} {fl : Bool} {kind : Int} {m : Nat} (hL : Lib3 w0) (h : Rd w0 p lf o fl w) (he : enA lf 0 = some m) :
    Calls Tryd.prog 39 #[.pointer (some ⟨p, 0, none⟩), .int .i64 kind] w fun e w' => ∃ a cap, e = .returned (.slice a m cap) ∧ V1 w0 a cap (txL (lf.take m)) ∧ Rd w0 p (lf.drop m) o (fl || !(kdV (lf.take m) 0 == kind && decide (dpV (lf.take m) 0 ≤ 5))) w' ∧ But p w w' := by
  obtain ⟨k0, hk0, hkm, hpl, hen, -⟩ := enA_piece he
  have hk : k0 = 0 := by omega
  subst hk
  rw [Nat.zero_add] at hkm
  rw [List.drop_zero] at hpl hen
  clear hk0 hen
  obtain ⟨a, cap, c0, hv⟩ := h.vw
  obtain ⟨n, hn⟩ : ∃ n, lf.length = n := ⟨_, rfl⟩
  rw [hn] at c0 hkm
  have hbd := h.bd
  have HBD := Lib.hid hbd
  have HLB := Lib.hid (fun (w1 : World) (hb : Below w0.heap.size w0 w1) => lib3_below hL hb)
  have HBEL := Lib.hid h.bel
  have HS := Lib.hid (sumAt_low w h.bel a cap lf n m hn hv (by have := hbd.1; omega) hbd.2 (h.lib hL) he hkm)
  have HQ := Lib.hid (fun (w1 : World) (hb : Below w.heap.size w w1) (b : Bool) => require_any (h.next hb) b)
  have HQB := Lib.hid (fun (w1 : World) (hb : Below w.heap.size w w1) => (But.of hb : But p w w1))
  replace HQ := Lib.hid (fun (w1 : World) (hb : Below w.heap.size w w1) (b : Bool) => HQ.out w1 hb b)
  have hbt := hbd.take m
  have hml : m ≤ 4194304 := by have := hbt.1; omega
  have HBT := Lib.hid hbt
  clear hv hbd h he hbt
  obtain ⟨t, ht⟩ : ∃ t, lf.take m = t := ⟨_, rfl⟩
  rw [ht] at HS HBT hpl ⊢
  clear ht
  obtain ⟨x, hkd⟩ : ∃ x, kdV t 0 = x := ⟨_, rfl⟩
  obtain ⟨y, hdp⟩ : ∃ y, dpV t 0 = y := ⟨_, rfl⟩
  rw [hkd, hdp]
  go_enter Tryd.func39, Tryd.ntmps39
  go_wp2_with fail
  refine HS.out.mono ?_; rintro e w1 ⟨b, cb, rfl, hv, b1⟩
  have HV := Lib.hid hv
  have B1 := Lib.hid b1
  have BB1 := Lib.hid (bel_tr HBEL.out b1 (Nat.le_refl _))
  clear b1 hv HS
  have HK := Lib.hid (implKind_any w1 b cb t m 0 (by constructor <;> decide) hpl (HV.out.below BB1.out) hml HBT.out.2 (HLB.out w1 BB1.out))
  rw [hkd] at HK
  go_wp2_with fail
  refine HK.out.mono ?_; rintro e w2 ⟨rfl, b2⟩
  have B2 := Lib.hid (bel_tr B1.out b2 (Nat.le_refl _))
  have BB2 := Lib.hid (bel_tr BB1.out b2 (Nat.le_refl _))
  clear b2 HK
  have HD := Lib.hid (implDepth_any w2 b cb t m 0 (by constructor <;> decide) hpl (HV.out.below BB2.out) hml HBT.out.2 (HLB.out w2 BB2.out))
  rw [hdp] at HD
  clear hkd hdp
  by_cases hx : x = kind
  · have p1 : (x == kind) = true := beq_iff_eq.2 hx
    go_wp2_with fail
    refine HD.out.mono ?_; rintro e w3 ⟨rfl, b3⟩
    have B3 := Lib.hid (bel_tr B2.out b3 (Nat.le_refl _))
    have BU3 := Lib.hid (HQB.out w3 B3.out)
    clear b3 HD
    by_cases hy : y ≤ 5
    · have p2 : decide (y ≤ 5) = true := by simpa using hy
      go_wp2_with fail
      replace HQ := Lib.hid (fun (b : Bool) => HQ.out w3 B3.out b)
      refine (HQ.out _).mono ?_; rintro e w9 ⟨rfl, r9, b9⟩
      obtain ⟨a9, cap9, d9, hv9⟩ := r9.vw
      rw [hn] at d9
      have f9 := r9.f0
      obtain ⟨b8, cb8, hrun, hvv⟩ := cut1_low 22 (by kernel_rfl) (fun w => by exact Tryd.sizeOf9 w) a9 n cap9 m (by omega)
      have hr : ∀ w, (Instr.slice 22 (.slice a9 n cap9) (some (.int .i64 ((m : Nat) : Int))) none none).run Tryd.prog w = .ok (.slice b8 (n - m) cb8) w := hrun
      have hv1 := hvv w0 _ hv9 (by rw [txL_len, hn])
      have R9 := Lib.hid (r9.left (lf' := lf.drop m) (n := n - m) (by rw [List.length_drop, hn]) (HBD.out.drop m) (by unfold txL at hv1 ⊢; rw [List.map_drop]; exact hv1))
      have B9 := Lib.hid ((BU3.out.trans b9).trans (but_set w9 p 0 (.slice b8 (n - m) cb8)))
      clear hrun hvv hv9 hv1 r9 b9 HQ
      go_wp2_with fail
      go_ret
      exact ⟨b, cb, rfl, HV.out, (by rw [p1, p2]; exact R9.out), B9.out⟩
    · have p2 : decide (y ≤ 5) = false := by simpa using hy
      go_wp2_with fail
      replace HQ := Lib.hid (fun (b : Bool) => HQ.out w3 B3.out b)
      refine (HQ.out _).mono ?_; rintro e w9 ⟨rfl, r9, b9⟩
      obtain ⟨a9, cap9, d9, hv9⟩ := r9.vw
      rw [hn] at d9
      have f9 := r9.f0
      obtain ⟨b8, cb8, hrun, hvv⟩ := cut1_low 22 (by kernel_rfl) (fun w => by exact Tryd.sizeOf9 w) a9 n cap9 m (by omega)
      have hr : ∀ w, (Instr.slice 22 (.slice a9 n cap9) (some (.int .i64 ((m : Nat) : Int))) none none).run Tryd.prog w = .ok (.slice b8 (n - m) cb8) w := hrun
      have hv1 := hvv w0 _ hv9 (by rw [txL_len, hn])
      have R9 := Lib.hid (r9.left (lf' := lf.drop m) (n := n - m) (by rw [List.length_drop, hn]) (HBD.out.drop m) (by unfold txL at hv1 ⊢; rw [List.map_drop]; exact hv1))
      have B9 := Lib.hid ((BU3.out.trans b9).trans (but_set w9 p 0 (.slice b8 (n - m) cb8)))
      clear hrun hvv hv9 hv1 r9 b9 HQ
      go_wp2_with fail
      go_ret
      exact ⟨b, cb, rfl, HV.out, (by rw [p1, p2]; exact R9.out), B9.out⟩
  · have p1 : (x == kind) = false := beq_eq_false_iff_ne.2 hx
    have BU2 := Lib.hid (HQB.out w2 B2.out)
    go_wp2_with fail
    replace HQ := Lib.hid (fun (b : Bool) => HQ.out w2 B2.out b)
    refine (HQ.out _).mono ?_; rintro e w9 ⟨rfl, r9, b9⟩
    obtain ⟨a9, cap9, d9, hv9⟩ := r9.vw
    rw [hn] at d9
    have f9 := r9.f0
    obtain ⟨b8, cb8, hrun, hvv⟩ := cut1_low 22 (by kernel_rfl) (fun w => by exact Tryd.sizeOf9 w) a9 n cap9 m (by omega)
    have hr : ∀ w, (Instr.slice 22 (.slice a9 n cap9) (some (.int .i64 ((m : Nat) : Int))) none none).run Tryd.prog w = .ok (.slice b8 (n - m) cb8) w := hrun
    have hv1 := hvv w0 _ hv9 (by rw [txL_len, hn])
    have R9 := Lib.hid (r9.left (lf' := lf.drop m) (n := n - m) (by rw [List.length_drop, hn]) (HBD.out.drop m) (by unfold txL at hv1 ⊢; rw [List.map_drop]; exact hv1))
    have B9 := Lib.hid ((BU2.out.trans b9).trans (but_set w9 p 0 (.slice b8 (n - m) cb8)))
    clear hrun hvv hv9 hv1 r9 b9 HQ
    go_wp2_with fail
    go_ret
    exact ⟨b, cb, rfl, HV.out, (by rw [p1]; exact R9.out), B9.out⟩
set_option maxHeartbeats 4000000 in
set_option maxRecDepth 100000 in
theorem sum_no {w0 w : World} {p : Nat} {lf : List Tk} {o : Int} {fl : Bool} {kind : Int} (hL : Lib3 w0) (hk : kind ≠ 0) (h : Rd w0 p lf o fl w) (he : enA lf 0 = none) :
    Calls Tryd.prog 39 #[.pointer (some ⟨p, 0, none⟩), .int .i64 kind] w fun e w' => e = .returned (.slice none 0 0) ∧ Rd w0 p lf o true w' ∧ But p w w' := by
  obtain ⟨a, cap, c0, hv⟩ := h.vw
  obtain ⟨n, hn⟩ : ∃ n, lf.length = n := ⟨_, rfl⟩
  rw [hn] at c0
  have hbd := h.bd
  have HBD := Lib.hid hbd
  have HLB := Lib.hid (fun (w1 : World) (hb : Below w0.heap.size w0 w1) => lib3_below hL hb)
  have HBEL := Lib.hid h.bel
  have HS := Lib.hid (sumAt_none w a cap lf n 0 (by constructor <;> decide) hn (hv.below h.bel) (by have := hbd.1; omega) hbd.2 (h.lib hL) he)
  have HQ := Lib.hid (fun (w1 : World) (hb : Below w.heap.size w w1) => require_any (h.next hb) false)
  have HQB := Lib.hid (fun (w1 : World) (hb : Below w.heap.size w w1) => (But.of hb : But p w w1))
  clear hv hbd h he
  have p1 : ((0 : Int) == kind) = false := beq_eq_false_iff_ne.2 (fun e => hk e.symm)
  go_enter Tryd.func39, Tryd.ntmps39
  go_wp2_with fail
  refine HS.out.mono ?_; rintro e w1 ⟨rfl, b1⟩
  have B1 := Lib.hid b1
  have BB1 := Lib.hid (bel_tr HBEL.out b1 (Nat.le_refl _))
  clear b1 HS
  have HK := Lib.hid (implKind_any w1 none 0 [] 0 0 (by constructor <;> decide) rfl ⟨by decide, by decide, fun _ => rfl, fun k x hk => by simp [txL] at hk⟩ (by decide) (fun s hs => by cases hs) (HLB.out w1 BB1.out))
  replace HK := Lib.hid (show Calls Tryd.prog 56 #[.slice none 0 0, .int .i64 0] w1 fun e w' => e = .returned (.int .i64 0) ∧ Below w1.heap.size w1 w' from HK.out)
  go_wp2_with fail
  refine HK.out.mono ?_; rintro e w2 ⟨rfl, b2⟩
  have B2 := Lib.hid (bel_tr B1.out b2 (Nat.le_refl _))
  clear b2 HK
  have BU2 := Lib.hid (HQB.out w2 B2.out)
  go_wp2_with fail
  replace HQ := Lib.hid (HQ.out w2 B2.out)
  refine HQ.out.mono ?_; rintro e w9 ⟨rfl, r9, b9⟩
  obtain ⟨a9, cap9, d9, hv9⟩ := r9.vw
  rw [hn] at d9
  have f9 := r9.f0
  obtain ⟨b8, cb8, hrun, hvv⟩ := cut1_low 22 (by kernel_rfl) (fun w => by exact Tryd.sizeOf9 w) a9 n cap9 0 (by omega)
  have hr : ∀ w, (Instr.slice 22 (.slice a9 n cap9) (some (.int .i64 (0))) none none).run Tryd.prog w = .ok (.slice b8 (n - 0) cb8) w := hrun
  have hv1 := hvv w0 _ hv9 (by rw [txL_len, hn])
  have R9 := Lib.hid (r9.left (lf' := lf.drop 0) (n := n - 0) (by rw [List.length_drop, hn]) (HBD.out.drop 0) (by unfold txL at hv1 ⊢; rw [List.map_drop]; exact hv1))
  have B9 := Lib.hid ((BU2.out.trans b9).trans (but_set w9 p 0 (.slice b8 (n - 0) cb8)))
  clear hrun hvv hv9 hv1 r9 b9 HQ
  go_wp2_with fail
  go_ret
  exact ⟨rfl, (by have := R9.out; rw [List.drop_zero, Bool.not_false, Bool.or_true] at this; exact this), B9.out⟩
end Go.Proofs.YtkhmbmcomgclaaaDoor.Cl
