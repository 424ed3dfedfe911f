/-
  The walk of FnOps at a code that is not too long. (Made by gen_om.py.)
-/
import Derived.Test.YtoiphglfngkoiaaDoorOu
import Derived.Test.YtoiphglfngkoiaaDoorOy
namespace Go.Proofs.YtoiphglfngkoiaaDoor.Cl
open Go.RowKit Wd Rp Cu Kp
set_option linter.unusedVariables false
set_option linter.unusedSimpArgs false
theorem strO_ne {l : List UInt8} (h : l ≠ []) : ¬ (tx l).toList = [] ∧ (tx l).toList.isEmpty = false ∧ ((tx l).toList == []) = false := by
  rw [Lib.toList_data, tx_data]
  refine ⟨h, ?_, ?_⟩
  · cases l with
    | nil => exact absurd rfl h
    | cons _ _ => rfl
  · rw [beq_eq_false_iff_ne]; exact h
theorem shO_ne {o : Ov} (h : opB o = true) : shO o ≠ [] := fun e => by
  have h1 := rdO_yes h
  rw [e, rdO_nil] at h1; cases h1
theorem op_self (k n : Int) (m : Tk) (w : World) : (Op.equalIn 10000 25 (.agg #[.int .i64 k, .int .i64 n, .string (tx m)]) (.agg #[.int .i64 k, .int .i64 n, .string (tx m)])).run Tryd.prog w = .ok true w := by
  have u2 := Tryd.underlying2
  have a2 := Tryd.isAgg2
  have z2 := Tryd.sizeOf2
  have a9 := Tryd.isAgg9
  have z9 := Tryd.sizeOf9
  have s9 := fun (a b : ByteArray) (w : World) => run_equalIn_string (P := Tryd.prog) w 9998 9 a b Tryd.underlying9
  have hS : Tryd.prog.underlying 25 = some (.struct (Tryd.prog.fieldsOf 25)) := by kernel_rfl
  rw [show (10000 : Nat) = 9999 + 1 from rfl, run_equalIn_struct w 9999 25 _ _ hS (by kernel_rfl)]
  simp only [Program.fieldsOf, Tryd.underlying25]
  go_simp
/-- What a comparison of two readings keeps. -/
def Rs (w0 : World) (p1 : Nat) (k n : Int) (m : Tk) (p2 p3 : Nat) (K N : Int) (M : Tk) (z : World) : Prop := Q3 p1 k n m z ∧ Q3 p2 K N M z ∧ Q3 p3 K N M z ∧ Below w0.heap.size w0 z
theorem Rs.next {w0 z z' : World} {p1 p2 p3 : Nat} {k n K N : Int} {m M : Tk} (h : Rs w0 p1 k n m p2 p3 K N M z) (hb : Below z.heap.size z z') : Rs w0 p1 k n m p2 p3 K N M z' := by
  obtain ⟨h1, h2, h3, h4⟩ := h
  exact ⟨h1.next hb, h2.next hb, h3.next hb, bel_tr h4 hb (Nat.le_refl _)⟩
set_option maxHeartbeats 16000000 in
set_option maxRecDepth 100000 in
theorem ops_small (w : World) (a0 : Option Addr) (len0 cap0 : Nat) (hb : IsBytes w a0 len0) (hl : len0 ≤ 4096) (hL : Lib3 w) (hH : HdO w) (hM : McO w) :
    Calls Tryd.prog 3 #[.slice a0 len0 cap0] w fun e w' => e = .returned (.bool true) ∧ Below w.heap.size w w' := by
  have HB := Lib.hid hb; clear hb
  have HL := Lib.hid hL; clear hL
  have HH := Lib.hid hH; clear hH
  have HM := Lib.hid hM; clear hM
  go_enter Tryd.func3, Tryd.ntmps3
  go_wp2_with fail
  refine (big_no w a0 len0 cap0 hl).mono ?_; rintro e wx ⟨rfl, rfl⟩
  go_wp2_with fail
  refine (drawShowO_any w a0 len0 cap0 HB.out hl).mono ?_; rintro e w1 ⟨k, n, m, rfl, hn, b1⟩
  have hml := hn.2.2.2.2
  clear hn
  have X1 := Lib.hid (Q3.made k n m w1 25)
  have BA := Lib.hid (bel1 w1 (.cells #[.int .i64 k, .int .i64 n, .string (tx m)] 25))
  have B1 := Lib.hid b1; clear b1
  have HSP := Lib.hid (fun w => specShowOp_any k n m w (by omega))
  have HIM := Lib.hid (fun w h h2 => implShowOp_any k n m w (by omega) h h2)
  have HOI := Lib.hid (fun w => implOp_any k n m w (by omega))
  have HOS := Lib.hid (fun w => specOp_any k n m w (by omega))
  have hss := shO_size k n m
  obtain ⟨sl, hsl⟩ : ∃ sl, shO ⟨k, n, m⟩ = sl := ⟨_, rfl⟩
  rw [hsl] at HSP HIM hss
  have HRS := Lib.hid (show opB ⟨k, n, m⟩ = true → rdO sl = some ⟨k, n, m⟩ ∧ (¬ (tx sl).toList = [] ∧ (tx sl).toList.isEmpty = false ∧ ((tx sl).toList == []) = false) from fun h => by rw [← hsl]; exact ⟨rdO_yes h, strO_ne (shO_ne h)⟩)
  have HNO := Lib.hid (show opB ⟨k, n, m⟩ = false → tx sl = ⟨#[]⟩ from fun h => by rw [← hsl, shO_no h]; rfl)
  clear hsl
  have HS2 := Lib.hid (fun w h h' h'' => implReadOp_any sl w (by omega) h h' h'')
  generalize opB ⟨k, n, m⟩ = ob at *
  generalize tx sl = S at *
  have q1 : (S.toList == S.toList) = true := by simp
  have hob : (ob != ob) = false := by simp
  have hob2 : (!(ob == ob)) = false := by simp
  go_wp2_with fail
  generalize w1.alloc (Obj.cells #[.int .i64 k, .int .i64 n, .string (tx m)] 25) = w2 at X1 BA ⊢
  have B2 := Lib.hid (bel_tr B1.out BA.out (Nat.le_refl _)); clear B1 BA
  generalize w1.heap.size = p1 at X1 ⊢
  refine (HIM.out _ (libT3 (lib3_below HL.out B2.out)) (HH.out.next B2.out)).mono ?_; rintro e w3 ⟨rfl, b3⟩
  have B3 := Lib.hid (bel_tr B2.out b3 (Nat.le_refl _))
  have X3 := Lib.hid (X1.out.next b3); clear b3 B2 X1
  go_wp2_with fail
  refine (drawReadO_any w3 a0 len0 cap0 (isBytes_next HB.out B3.out) hl).mono ?_; rintro e w4 ⟨T, rfl, hT, b4⟩
  have B4 := Lib.hid (bel_tr B3.out b4 (Nat.le_refl _))
  have X4 := Lib.hid (X3.out.next b4); clear b4 B3 X3
  obtain ⟨t, rfl⟩ := as_tx T
  rw [tx_size] at hT
  have HRI := Lib.hid (fun w h h' h'' => implReadOp_any t w (by omega) h h' h'')
  have HRP := Lib.hid (fun w => specReadOp_any t w (by omega))
  cases hro : rdO t
  · rw [hro] at HRI HRP
    clear hro
    unfold roV at HRI HRP
    dsimp only at HRI HRP
    have hce := op_self 0 0 []
    rw [show tx [] = (⟨#[]⟩ : ByteArray) from rfl] at hce
    go_wp2_with fail
    refine (HRI.out _ (lib3_below HL.out B4.out) (HH.out.next B4.out) (HM.out.next B4.out)).mono ?_; rintro e w5 ⟨rfl, b5⟩
    have B5 := Lib.hid (bel_tr B4.out b5 (Nat.le_refl _))
    have X5 := Lib.hid (X4.out.next b5); clear b5 B4 X4
    have Y5 := Lib.hid (show Q3 w5.heap.size 0 0 [] (w5.alloc (.cells #[.int .i64 0, .int .i64 0, .string ⟨#[]⟩] 25)) from Q3.made _ _ _ _ _)
    have BC := Lib.hid (bel1 w5 (.cells #[.int .i64 0, .int .i64 0, .string ⟨#[]⟩] 25))
    go_wp2_with fail
    generalize w5.alloc (Obj.cells #[.int .i64 0, .int .i64 0, .string ⟨#[]⟩] 25) = w6 at Y5 BC ⊢
    have B6 := Lib.hid (bel_tr B5.out BC.out (Nat.le_refl _))
    have X6 := Lib.hid (X5.out.next BC.out); clear B5 X5 BC
    generalize w5.heap.size = p2 at Y5 ⊢
    refine (HRP.out _).mono ?_; rintro e w7 ⟨rfl, b7⟩
    have B7 := Lib.hid (bel_tr B6.out b7 (Nat.le_refl _))
    have X7 := Lib.hid (X6.out.next b7)
    have Y7 := Lib.hid (Y5.out.next b7); clear b7 B6 X6 Y5
    have Z7 := Lib.hid (show Q3 w7.heap.size 0 0 [] (w7.alloc (.cells #[.int .i64 0, .int .i64 0, .string ⟨#[]⟩] 25)) from Q3.made _ _ _ _ _)
    have BD := Lib.hid (bel1 w7 (.cells #[.int .i64 0, .int .i64 0, .string ⟨#[]⟩] 25))
    go_upto_region 8 with fail
    have R0 := Lib.hid (show Rs w p1 k n m p2 w7.heap.size 0 0 [] (w7.alloc (.cells #[.int .i64 0, .int .i64 0, .string ⟨#[]⟩] 25)) from ⟨X7.out.next BD.out, Y7.out.next BD.out, Z7.out, bel_tr B7.out BD.out (Nat.le_refl _)⟩)
    clear X7 Y7 Z7 BD B7
    generalize hw8 : w7.alloc (Obj.cells #[.int .i64 0, .int .i64 0, .string ⟨#[]⟩] 25) = w8 at *
    clear hw8
    generalize w7.heap.size = p3 at *
    have R0d := Lib.hid (R0.out.next (belD w8))
    go_cut [50] (fun c wx => c = .bool false ∧ Rs w p1 k n m p2 p3 0 0 [] wx)
    case first =>
      refine wp_region_held_drew (S := fun z => Rs w p1 k n m p2 p3 0 0 [] z) (by kernel_rfl) R0d.out (fun hHeld => ?_)
      refine wpAnyH_take (i := 0) (v := ?v0mn) rfl (by kernel_rfl) (by kernel_rfl) (by kernel_rfl) (fun _ _ _ h => h) (Or.inl ⟨by rfl, ?hy0mn⟩) (by assumption) ?rest0mn
      case hy0mn => (intro zz hSw; (try dsimp only at hSw); go_simp; (try with_reducible rfl))
      change wpAnyH _ _ _ _ _ _ _ (Act.put _ (some 30) _) _
      simp only [Act.put, List.setIfInBounds_toArray, List.set_cons_zero, List.set_cons_succ]
      refine wpAnyH_take (i := 1) (v := ?v1mn) rfl (by kernel_rfl) (by kernel_rfl) (by kernel_rfl) (fun _ _ _ h => h) (Or.inl ⟨by rfl, ?hy1mn⟩) (by assumption) ?rest1mn
      case hy1mn => (intro zz hSw; (try dsimp only at hSw); go_simp; (try with_reducible rfl))
      change wpAnyH _ _ _ _ _ _ _ (Act.put _ (some 31) _) _
      simp only [Act.put, List.setIfInBounds_toArray, List.set_cons_zero, List.set_cons_succ]
      refine wpAnyH_take (i := 2) (v := ?v2mn) rfl (by kernel_rfl) (by kernel_rfl) (by kernel_rfl) (fun _ _ _ h => h) (Or.inl ⟨by rfl, ?hy2mn⟩) (by assumption) ?rest2mn
      case hy2mn => (intro zz hSw; (try dsimp only at hSw); go_simp; (try with_reducible rfl))
      change wpAnyH _ _ _ _ _ _ _ (Act.put _ (some 32) _) _
      simp only [Act.put, List.setIfInBounds_toArray, List.set_cons_zero, List.set_cons_succ]
      refine wpAnyH_take (i := 3) (v := ?v3mn) rfl (by kernel_rfl) (by kernel_rfl) (by kernel_rfl) (fun _ _ _ h => h) (Or.inl ⟨by rfl, ?hy3mn⟩) (by assumption) ?rest3mn
      case hy3mn => (intro zz hSw; (try dsimp only at hSw); go_simp; (try with_reducible rfl))
      change wpAnyH _ _ _ _ _ _ _ (Act.put _ (some 33) _) _
      simp only [Act.put, List.setIfInBounds_toArray, List.set_cons_zero, List.set_cons_succ]
      refine wpAnyH_take (i := 4) (v := ?v4mn) rfl (by kernel_rfl) (by kernel_rfl) (by kernel_rfl) (fun _ _ _ h => h) (Or.inl ⟨by rfl, ?hy4mn⟩) (by assumption) ?rest4mn
      case hy4mn => (intro zz hSw; (try dsimp only at hSw); obtain ⟨-, ⟨x0, x1, x2, -, -, -, -⟩, -, -⟩ := hSw; go_simp; (try with_reducible rfl))
      change wpAnyH _ _ _ _ _ _ _ (Act.put _ (some 34) _) _
      simp only [Act.put, List.setIfInBounds_toArray, List.set_cons_zero, List.set_cons_succ]
      refine wpAnyH_take (i := 5) (v := ?v5mn) rfl (by kernel_rfl) (by kernel_rfl) (by kernel_rfl) (fun _ _ _ h => h) (Or.inl ⟨by rfl, ?hy5mn⟩) (by assumption) ?rest5mn
      case hy5mn => (intro zz hSw; (try dsimp only at hSw); obtain ⟨-, -, ⟨x0, x1, x2, -, -, -, -⟩, -⟩ := hSw; go_simp; (try with_reducible rfl))
      change wpAnyH _ _ _ _ _ _ _ (Act.put _ (some 35) _) _
      simp only [Act.put, List.setIfInBounds_toArray, List.set_cons_zero, List.set_cons_succ]
      refine wpAnyH_take (i := 6) (v := ?v6mn) rfl (by kernel_rfl) (by kernel_rfl) (by kernel_rfl) (fun _ _ _ h => h) (Or.inl ⟨by rfl, ?hy6mn⟩) (by assumption) ?rest6mn
      case hy6mn => (intro zz hSw; (try dsimp only at hSw); go_simp; (try with_reducible rfl))
      change wpAnyH _ _ _ _ _ _ _ (Act.put _ (some 36) _) _
      simp only [Act.put, List.setIfInBounds_toArray, List.set_cons_zero, List.set_cons_succ]
      refine wpAnyH_take (i := 7) (v := ?v7mn) rfl (by kernel_rfl) (by kernel_rfl) (by kernel_rfl) (fun _ _ _ h => h) (Or.inl ⟨by rfl, ?hy7mn⟩) (by assumption) ?rest7mn
      case hy7mn => (intro zz hSw; (try dsimp only at hSw); go_simp; (try with_reducible rfl))
      change wpAnyH _ _ _ _ _ _ _ (Act.put _ (some 37) _) _
      simp only [Act.put, List.setIfInBounds_toArray, List.set_cons_zero, List.set_cons_succ]
      refine wpAnyH_take (i := 8) (v := ?v8mn) rfl (by kernel_rfl) (by kernel_rfl) (by kernel_rfl) (fun _ _ _ h => h) (Or.inl ⟨by rfl, ?hy8mn⟩) (by assumption) ?rest8mn
      case hy8mn => (intro zz hSw; (try dsimp only at hSw); go_simp; (try with_reducible rfl))
      change wpAnyH _ _ _ _ _ _ _ (Act.put _ (some 38) _) _
      simp only [Act.put, List.setIfInBounds_toArray, List.set_cons_zero, List.set_cons_succ]
      refine wpAnyH_take (i := 9) (v := ?v9mn) rfl (by kernel_rfl) (by kernel_rfl) (by kernel_rfl) (fun _ _ _ h => h) (Or.inl ⟨by rfl, ?hy9mn⟩) (by assumption) ?rest9mn
      case hy9mn => (intro zz hSw; (try dsimp only at hSw); go_simp; (try with_reducible rfl))
      change wpAnyH _ _ _ _ _ _ _ (Act.put _ (some 39) _) _
      simp only [Act.put, List.setIfInBounds_toArray, List.set_cons_zero, List.set_cons_succ]
      refine wpAnyH_take (i := 10) (v := ?v10mn) rfl (by kernel_rfl) (by kernel_rfl) (by kernel_rfl) (fun _ _ _ h => h) (Or.inl ⟨by rfl, ?hy10mn⟩) (by assumption) ?rest10mn
      case hy10mn => (intro zz hSw; (try dsimp only at hSw); obtain ⟨⟨x0, x1, x2, -, -, -, -⟩, -, -, -⟩ := hSw; go_simp; (try with_reducible rfl))
      change wpAnyH _ _ _ _ _ _ _ (Act.put _ (some 40) _) _
      simp only [Act.put, List.setIfInBounds_toArray, List.set_cons_zero, List.set_cons_succ]
      refine wpAnyH_ready (rs := [11]) (by kernel_rfl) (by simp) (AllReadyH.cons rfl (fun K hK => ?_) (AllReadyH.nil))
      go_simp
      refine (HSP.out _).mono ?_; rintro e v0 ⟨rfl, b9⟩
      have R1 := Lib.hid (R0d.out.next b9); clear b9
      refine hK.out _ _ R1.out (fun hHeld => ?_)
      clear hK K
      refine wpAnyH_take (i := 12) (v := ?v12mn) rfl (by kernel_rfl) (by kernel_rfl) (by kernel_rfl) (fun _ _ _ h => h) (Or.inl ⟨by rfl, ?hy12mn⟩) (by assumption) ?rest12mn
      case hy12mn => (intro zz hSw; (try dsimp only at hSw); go_simp; (try with_reducible rfl))
      change wpAnyH _ _ _ _ _ _ _ (Act.put _ (some 42) _) _
      simp only [Act.put, List.setIfInBounds_toArray, List.set_cons_zero, List.set_cons_succ]
      refine wpAnyH_take (i := 13) (v := ?v13mn) rfl (by kernel_rfl) (by kernel_rfl) (by kernel_rfl) (fun _ _ _ h => h) (Or.inl ⟨by rfl, ?hy13mn⟩) (by assumption) ?rest13mn
      case hy13mn => (intro zz hSw; (try dsimp only at hSw); go_simp; (try with_reducible rfl))
      change wpAnyH _ _ _ _ _ _ _ (Act.put _ (some 43) _) _
      simp only [Act.put, List.setIfInBounds_toArray, List.set_cons_zero, List.set_cons_succ]
      refine wpAnyH_take (i := 14) (v := ?v14mn) rfl (by kernel_rfl) (by kernel_rfl) (by kernel_rfl) (fun _ _ _ h => h) (Or.inl ⟨by rfl, ?hy14mn⟩) (by assumption) ?rest14mn
      case hy14mn => (intro zz hSw; (try dsimp only at hSw); go_simp; (try with_reducible rfl))
      change wpAnyH _ _ _ _ _ _ _ (Act.put _ (some 44) _) _
      simp only [Act.put, List.setIfInBounds_toArray, List.set_cons_zero, List.set_cons_succ]
      refine wpAnyH_take (i := 15) (v := ?v15mn) rfl (by kernel_rfl) (by kernel_rfl) (by kernel_rfl) (fun _ _ _ h => h) (Or.inl ⟨by rfl, ?hy15mn⟩) (by assumption) ?rest15mn
      case hy15mn => (intro zz hSw; (try dsimp only at hSw); obtain ⟨⟨x0, x1, x2, -, -, -, -⟩, -, -, -⟩ := hSw; go_simp; (try with_reducible rfl))
      change wpAnyH _ _ _ _ _ _ _ (Act.put _ (some 45) _) _
      simp only [Act.put, List.setIfInBounds_toArray, List.set_cons_zero, List.set_cons_succ]
      refine wpAnyH_take (i := 17) (v := ?v17mn) rfl (by kernel_rfl) (by kernel_rfl) (by kernel_rfl) (fun _ _ _ h => h) (Or.inl ⟨by rfl, ?hy17mn⟩) (by assumption) ?rest17mn
      case hy17mn => (intro zz hSw; (try dsimp only at hSw); obtain ⟨⟨x0, x1, x2, -, -, -, -⟩, -, -, -⟩ := hSw; go_simp; (try with_reducible rfl))
      change wpAnyH _ _ _ _ _ _ _ (Act.put _ (some 47) _) _
      simp only [Act.put, List.setIfInBounds_toArray, List.set_cons_zero, List.set_cons_succ]
      refine wpAnyH_ready (rs := [16]) (by kernel_rfl) (by simp) (AllReadyH.cons rfl (fun K hK => ?_) (AllReadyH.nil))
      go_simp
      refine (HOI.out _).mono ?_; rintro e v1 ⟨rfl, b9⟩
      have R2 := Lib.hid (R1.out.next b9); clear b9
      refine hK.out _ _ R2.out (fun hHeld => ?_)
      clear hK K
      refine wpAnyH_ready (rs := [18]) (by kernel_rfl) (by simp) (AllReadyH.cons rfl (fun K hK => ?_) (AllReadyH.nil))
      go_simp
      refine (HOS.out _).mono ?_; rintro e v2 ⟨rfl, b9⟩
      have R3 := Lib.hid (R2.out.next b9); clear b9
      refine hK.out _ _ R3.out (fun hHeld => ?_)
      clear hK K
      refine wpAnyH_take (i := 19) (v := ?v19mn) rfl (by kernel_rfl) (by kernel_rfl) (by kernel_rfl) (fun _ _ _ h => h) (Or.inl ⟨by rfl, ?hy19mn⟩) (by assumption) ?rest19mn
      case hy19mn => (intro zz hSw; (try dsimp only at hSw); go_simp; (try with_reducible rfl))
      change wpAnyH _ _ _ _ _ _ _ (Act.put _ (some 49) _) _
      simp only [Act.put, List.setIfInBounds_toArray, List.set_cons_zero, List.set_cons_succ]
      refine wpAnyH_take (i := 20) (v := ?v20mn) rfl (by kernel_rfl) (by kernel_rfl) (by kernel_rfl) (fun _ _ _ h => h) (Or.inl ⟨by rfl, ?hy20mn⟩) (by assumption) ?rest20mn
      case hy20mn => (intro zz hSw; (try dsimp only at hSw); go_simp; (try with_reducible rfl))
      change wpAnyH _ _ _ _ _ _ _ (Act.put _ (some 50) _) _
      simp only [Act.put, List.setIfInBounds_toArray, List.set_cons_zero, List.set_cons_succ]
      refine wpAnyH_done (by kernel_rfl) ?_ _
      go_wp2_with fail
      go_meet
      exact ⟨rfl, R3.out⟩
    case rest =>
      obtain ⟨rfl, hX, hY, -, hB⟩ := hcut
      have X9 := Lib.hid hX
      have Y9 := Lib.hid hY
      have B9 := Lib.hid hB
      clear hX hY hB R0 R0d
      obtain ⟨y0, y1, y2, -, -, -, -⟩ := id Y9.out
      rw [show tx [] = (⟨#[]⟩ : ByteArray) from rfl] at y2
      cases hc : ob
      · obtain rfl := HNO.out hc
        rw [hc] at HOI
        clear HRS HNO hc
        obtain ⟨x0, x1, x2, -, -, -, -⟩ := id X9.out
        go_wp2_with fail
        refine (HOI.out _).mono ?_; rintro e w12 ⟨rfl, b12⟩
        have B12 := Lib.hid (bel_tr B9.out b12 (Nat.le_refl _)); clear b12
        go_wp2_with fail
        go_ret
        exact ⟨rfl, B12.out⟩
      · obtain ⟨hrd, hne0⟩ := HRS.out hc
        obtain ⟨n1, n2, n3⟩ := hne0
        rw [hrd] at HS2
        unfold roV at HS2
        dsimp only at HS2
        clear HRS HNO hc hrd
        have hce2 := op_self k n m
        go_wp2_with fail
        refine (HS2.out _ (lib3_below HL.out B9.out) (HH.out.next B9.out) (HM.out.next B9.out)).mono ?_; rintro e w12 ⟨rfl, b12⟩
        have B12 := Lib.hid (bel_tr B9.out b12 (Nat.le_refl _))
        have X12 := Lib.hid (X9.out.next b12); clear b12
        have BE := Lib.hid (bel1 w12 (.cells #[.int .i64 k, .int .i64 n, .string (tx m)] 25))
        clear y0 y1 y2
        obtain ⟨x0, x1, x2, -, -, -, -⟩ := X12.out.next BE.out
        go_wp2_with fail
        go_ret
        exact ⟨rfl, bel_tr B12.out BE.out (Nat.le_refl _)⟩
  · rename_i x
    have hxo := rdO_ok hro
    have hsh := rdO_sh hro
    rw [hro] at HRI HRP
    obtain ⟨hk9, hw9⟩ := op_kind (k := x.k) (n := x.n) (m := x.m) hxo
    have hxm : x.m.length ≤ 8 := by
      rcases hw9 with ⟨-, -, -, -, -, h⟩ | ⟨-, -, -, -, h⟩ | ⟨-, -, -, -, h⟩
      · rw [h]; simp
      · have := nm_len h; omega
      · rw [h]; simp
    have HIX := Lib.hid (fun w h h2 => implShowOp_any x.k x.n x.m w (by omega) h h2)
    rw [show shO ⟨x.k, x.n, x.m⟩ = t from hsh] at HIX
    clear hxo hsh hro hk9 hw9 hxm
    have q2 : ((tx t).toList == (tx t).toList) = true := by simp
    unfold roV at HRI HRP
    dsimp only at HRI HRP
    have hce := op_self x.k x.n x.m
    go_wp2_with fail
    refine (HRI.out _ (lib3_below HL.out B4.out) (HH.out.next B4.out) (HM.out.next B4.out)).mono ?_; rintro e w5 ⟨rfl, b5⟩
    have B5 := Lib.hid (bel_tr B4.out b5 (Nat.le_refl _))
    have X5 := Lib.hid (X4.out.next b5); clear b5 B4 X4
    have Y5 := Lib.hid (show Q3 w5.heap.size x.k x.n x.m (w5.alloc (.cells #[.int .i64 x.k, .int .i64 x.n, .string (tx x.m)] 25)) from Q3.made _ _ _ _ _)
    have BC := Lib.hid (bel1 w5 (.cells #[.int .i64 x.k, .int .i64 x.n, .string (tx x.m)] 25))
    go_wp2_with fail
    generalize w5.alloc (Obj.cells #[.int .i64 x.k, .int .i64 x.n, .string (tx x.m)] 25) = w6 at Y5 BC ⊢
    have B6 := Lib.hid (bel_tr B5.out BC.out (Nat.le_refl _))
    have X6 := Lib.hid (X5.out.next BC.out); clear B5 X5 BC
    generalize w5.heap.size = p2 at Y5 ⊢
    refine (HRP.out _).mono ?_; rintro e w7 ⟨rfl, b7⟩
    have B7 := Lib.hid (bel_tr B6.out b7 (Nat.le_refl _))
    have X7 := Lib.hid (X6.out.next b7)
    have Y7 := Lib.hid (Y5.out.next b7); clear b7 B6 X6 Y5
    have Z7 := Lib.hid (show Q3 w7.heap.size x.k x.n x.m (w7.alloc (.cells #[.int .i64 x.k, .int .i64 x.n, .string (tx x.m)] 25)) from Q3.made _ _ _ _ _)
    have BD := Lib.hid (bel1 w7 (.cells #[.int .i64 x.k, .int .i64 x.n, .string (tx x.m)] 25))
    go_upto_region 8 with fail
    have R0 := Lib.hid (show Rs w p1 k n m p2 w7.heap.size x.k x.n x.m (w7.alloc (.cells #[.int .i64 x.k, .int .i64 x.n, .string (tx x.m)] 25)) from ⟨X7.out.next BD.out, Y7.out.next BD.out, Z7.out, bel_tr B7.out BD.out (Nat.le_refl _)⟩)
    clear X7 Y7 Z7 BD B7
    generalize hw8 : w7.alloc (Obj.cells #[.int .i64 x.k, .int .i64 x.n, .string (tx x.m)] 25) = w8 at *
    clear hw8
    generalize w7.heap.size = p3 at *
    have R0d := Lib.hid (R0.out.next (belD w8))
    go_cut [50] (fun c wx => c = .bool false ∧ Rs w p1 k n m p2 p3 x.k x.n x.m wx)
    case first =>
      refine wp_region_held_drew (S := fun z => Rs w p1 k n m p2 p3 x.k x.n x.m z) (by kernel_rfl) R0d.out (fun hHeld => ?_)
      refine wpAnyH_take (i := 0) (v := ?v0ms) rfl (by kernel_rfl) (by kernel_rfl) (by kernel_rfl) (fun _ _ _ h => h) (Or.inl ⟨by rfl, ?hy0ms⟩) (by assumption) ?rest0ms
      case hy0ms => (intro zz hSw; (try dsimp only at hSw); go_simp; (try with_reducible rfl))
      change wpAnyH _ _ _ _ _ _ _ (Act.put _ (some 30) _) _
      simp only [Act.put, List.setIfInBounds_toArray, List.set_cons_zero, List.set_cons_succ]
      refine wpAnyH_take (i := 1) (v := ?v1ms) rfl (by kernel_rfl) (by kernel_rfl) (by kernel_rfl) (fun _ _ _ h => h) (Or.inl ⟨by rfl, ?hy1ms⟩) (by assumption) ?rest1ms
      case hy1ms => (intro zz hSw; (try dsimp only at hSw); go_simp; (try with_reducible rfl))
      change wpAnyH _ _ _ _ _ _ _ (Act.put _ (some 31) _) _
      simp only [Act.put, List.setIfInBounds_toArray, List.set_cons_zero, List.set_cons_succ]
      refine wpAnyH_take (i := 2) (v := ?v2ms) rfl (by kernel_rfl) (by kernel_rfl) (by kernel_rfl) (fun _ _ _ h => h) (Or.inl ⟨by rfl, ?hy2ms⟩) (by assumption) ?rest2ms
      case hy2ms => (intro zz hSw; (try dsimp only at hSw); go_simp; (try with_reducible rfl))
      change wpAnyH _ _ _ _ _ _ _ (Act.put _ (some 32) _) _
      simp only [Act.put, List.setIfInBounds_toArray, List.set_cons_zero, List.set_cons_succ]
      refine wpAnyH_take (i := 3) (v := ?v3ms) rfl (by kernel_rfl) (by kernel_rfl) (by kernel_rfl) (fun _ _ _ h => h) (Or.inl ⟨by rfl, ?hy3ms⟩) (by assumption) ?rest3ms
      case hy3ms => (intro zz hSw; (try dsimp only at hSw); go_simp; (try with_reducible rfl))
      change wpAnyH _ _ _ _ _ _ _ (Act.put _ (some 33) _) _
      simp only [Act.put, List.setIfInBounds_toArray, List.set_cons_zero, List.set_cons_succ]
      refine wpAnyH_take (i := 4) (v := ?v4ms) rfl (by kernel_rfl) (by kernel_rfl) (by kernel_rfl) (fun _ _ _ h => h) (Or.inl ⟨by rfl, ?hy4ms⟩) (by assumption) ?rest4ms
      case hy4ms => (intro zz hSw; (try dsimp only at hSw); obtain ⟨-, ⟨x0, x1, x2, -, -, -, -⟩, -, -⟩ := hSw; go_simp; (try with_reducible rfl))
      change wpAnyH _ _ _ _ _ _ _ (Act.put _ (some 34) _) _
      simp only [Act.put, List.setIfInBounds_toArray, List.set_cons_zero, List.set_cons_succ]
      refine wpAnyH_take (i := 5) (v := ?v5ms) rfl (by kernel_rfl) (by kernel_rfl) (by kernel_rfl) (fun _ _ _ h => h) (Or.inl ⟨by rfl, ?hy5ms⟩) (by assumption) ?rest5ms
      case hy5ms => (intro zz hSw; (try dsimp only at hSw); obtain ⟨-, -, ⟨x0, x1, x2, -, -, -, -⟩, -⟩ := hSw; go_simp; (try with_reducible rfl))
      change wpAnyH _ _ _ _ _ _ _ (Act.put _ (some 35) _) _
      simp only [Act.put, List.setIfInBounds_toArray, List.set_cons_zero, List.set_cons_succ]
      refine wpAnyH_take (i := 6) (v := ?v6ms) rfl (by kernel_rfl) (by kernel_rfl) (by kernel_rfl) (fun _ _ _ h => h) (Or.inl ⟨by rfl, ?hy6ms⟩) (by assumption) ?rest6ms
      case hy6ms => (intro zz hSw; (try dsimp only at hSw); go_simp; (try with_reducible rfl))
      change wpAnyH _ _ _ _ _ _ _ (Act.put _ (some 36) _) _
      simp only [Act.put, List.setIfInBounds_toArray, List.set_cons_zero, List.set_cons_succ]
      refine wpAnyH_take (i := 7) (v := ?v7ms) rfl (by kernel_rfl) (by kernel_rfl) (by kernel_rfl) (fun _ _ _ h => h) (Or.inl ⟨by rfl, ?hy7ms⟩) (by assumption) ?rest7ms
      case hy7ms => (intro zz hSw; (try dsimp only at hSw); go_simp; (try with_reducible rfl))
      change wpAnyH _ _ _ _ _ _ _ (Act.put _ (some 37) _) _
      simp only [Act.put, List.setIfInBounds_toArray, List.set_cons_zero, List.set_cons_succ]
      refine wpAnyH_take (i := 8) (v := ?v8ms) rfl (by kernel_rfl) (by kernel_rfl) (by kernel_rfl) (fun _ _ _ h => h) (Or.inl ⟨by rfl, ?hy8ms⟩) (by assumption) ?rest8ms
      case hy8ms => (intro zz hSw; (try dsimp only at hSw); go_simp; (try with_reducible rfl))
      change wpAnyH _ _ _ _ _ _ _ (Act.put _ (some 38) _) _
      simp only [Act.put, List.setIfInBounds_toArray, List.set_cons_zero, List.set_cons_succ]
      refine wpAnyH_take (i := 9) (v := ?v9ms) rfl (by kernel_rfl) (by kernel_rfl) (by kernel_rfl) (fun _ _ _ h => h) (Or.inl ⟨by rfl, ?hy9ms⟩) (by assumption) ?rest9ms
      case hy9ms => (intro zz hSw; (try dsimp only at hSw); go_simp; (try with_reducible rfl))
      change wpAnyH _ _ _ _ _ _ _ (Act.put _ (some 39) _) _
      simp only [Act.put, List.setIfInBounds_toArray, List.set_cons_zero, List.set_cons_succ]
      refine wpAnyH_take (i := 10) (v := ?v10ms) rfl (by kernel_rfl) (by kernel_rfl) (by kernel_rfl) (fun _ _ _ h => h) (Or.inl ⟨by rfl, ?hy10ms⟩) (by assumption) ?rest10ms
      case hy10ms => (intro zz hSw; (try dsimp only at hSw); obtain ⟨⟨x0, x1, x2, -, -, -, -⟩, -, -, -⟩ := hSw; go_simp; (try with_reducible rfl))
      change wpAnyH _ _ _ _ _ _ _ (Act.put _ (some 40) _) _
      simp only [Act.put, List.setIfInBounds_toArray, List.set_cons_zero, List.set_cons_succ]
      refine wpAnyH_ready (rs := [11]) (by kernel_rfl) (by simp) (AllReadyH.cons rfl (fun K hK => ?_) (AllReadyH.nil))
      go_simp
      refine (HSP.out _).mono ?_; rintro e v0 ⟨rfl, b9⟩
      have R1 := Lib.hid (R0d.out.next b9); clear b9
      refine hK.out _ _ R1.out (fun hHeld => ?_)
      clear hK K
      refine wpAnyH_take (i := 12) (v := ?v12ms) rfl (by kernel_rfl) (by kernel_rfl) (by kernel_rfl) (fun _ _ _ h => h) (Or.inl ⟨by rfl, ?hy12ms⟩) (by assumption) ?rest12ms
      case hy12ms => (intro zz hSw; (try dsimp only at hSw); go_simp; (try with_reducible rfl))
      change wpAnyH _ _ _ _ _ _ _ (Act.put _ (some 42) _) _
      simp only [Act.put, List.setIfInBounds_toArray, List.set_cons_zero, List.set_cons_succ]
      refine wpAnyH_take (i := 13) (v := ?v13ms) rfl (by kernel_rfl) (by kernel_rfl) (by kernel_rfl) (fun _ _ _ h => h) (Or.inl ⟨by rfl, ?hy13ms⟩) (by assumption) ?rest13ms
      case hy13ms => (intro zz hSw; (try dsimp only at hSw); go_simp; (try with_reducible rfl))
      change wpAnyH _ _ _ _ _ _ _ (Act.put _ (some 43) _) _
      simp only [Act.put, List.setIfInBounds_toArray, List.set_cons_zero, List.set_cons_succ]
      refine wpAnyH_take (i := 14) (v := ?v14ms) rfl (by kernel_rfl) (by kernel_rfl) (by kernel_rfl) (fun _ _ _ h => h) (Or.inl ⟨by rfl, ?hy14ms⟩) (by assumption) ?rest14ms
      case hy14ms => (intro zz hSw; (try dsimp only at hSw); go_simp; (try with_reducible rfl))
      change wpAnyH _ _ _ _ _ _ _ (Act.put _ (some 44) _) _
      simp only [Act.put, List.setIfInBounds_toArray, List.set_cons_zero, List.set_cons_succ]
      refine wpAnyH_take (i := 15) (v := ?v15ms) rfl (by kernel_rfl) (by kernel_rfl) (by kernel_rfl) (fun _ _ _ h => h) (Or.inl ⟨by rfl, ?hy15ms⟩) (by assumption) ?rest15ms
      case hy15ms => (intro zz hSw; (try dsimp only at hSw); obtain ⟨⟨x0, x1, x2, -, -, -, -⟩, -, -, -⟩ := hSw; go_simp; (try with_reducible rfl))
      change wpAnyH _ _ _ _ _ _ _ (Act.put _ (some 45) _) _
      simp only [Act.put, List.setIfInBounds_toArray, List.set_cons_zero, List.set_cons_succ]
      refine wpAnyH_take (i := 17) (v := ?v17ms) rfl (by kernel_rfl) (by kernel_rfl) (by kernel_rfl) (fun _ _ _ h => h) (Or.inl ⟨by rfl, ?hy17ms⟩) (by assumption) ?rest17ms
      case hy17ms => (intro zz hSw; (try dsimp only at hSw); obtain ⟨⟨x0, x1, x2, -, -, -, -⟩, -, -, -⟩ := hSw; go_simp; (try with_reducible rfl))
      change wpAnyH _ _ _ _ _ _ _ (Act.put _ (some 47) _) _
      simp only [Act.put, List.setIfInBounds_toArray, List.set_cons_zero, List.set_cons_succ]
      refine wpAnyH_ready (rs := [16]) (by kernel_rfl) (by simp) (AllReadyH.cons rfl (fun K hK => ?_) (AllReadyH.nil))
      go_simp
      refine (HOI.out _).mono ?_; rintro e v1 ⟨rfl, b9⟩
      have R2 := Lib.hid (R1.out.next b9); clear b9
      refine hK.out _ _ R2.out (fun hHeld => ?_)
      clear hK K
      refine wpAnyH_ready (rs := [18]) (by kernel_rfl) (by simp) (AllReadyH.cons rfl (fun K hK => ?_) (AllReadyH.nil))
      go_simp
      refine (HOS.out _).mono ?_; rintro e v2 ⟨rfl, b9⟩
      have R3 := Lib.hid (R2.out.next b9); clear b9
      refine hK.out _ _ R3.out (fun hHeld => ?_)
      clear hK K
      refine wpAnyH_take (i := 19) (v := ?v19ms) rfl (by kernel_rfl) (by kernel_rfl) (by kernel_rfl) (fun _ _ _ h => h) (Or.inl ⟨by rfl, ?hy19ms⟩) (by assumption) ?rest19ms
      case hy19ms => (intro zz hSw; (try dsimp only at hSw); go_simp; (try with_reducible rfl))
      change wpAnyH _ _ _ _ _ _ _ (Act.put _ (some 49) _) _
      simp only [Act.put, List.setIfInBounds_toArray, List.set_cons_zero, List.set_cons_succ]
      refine wpAnyH_take (i := 20) (v := ?v20ms) rfl (by kernel_rfl) (by kernel_rfl) (by kernel_rfl) (fun _ _ _ h => h) (Or.inl ⟨by rfl, ?hy20ms⟩) (by assumption) ?rest20ms
      case hy20ms => (intro zz hSw; (try dsimp only at hSw); go_simp; (try with_reducible rfl))
      change wpAnyH _ _ _ _ _ _ _ (Act.put _ (some 50) _) _
      simp only [Act.put, List.setIfInBounds_toArray, List.set_cons_zero, List.set_cons_succ]
      refine wpAnyH_done (by kernel_rfl) ?_ _
      go_wp2_with fail
      go_meet
      exact ⟨rfl, R3.out⟩
    case rest =>
      obtain ⟨rfl, hX, hY, -, hB⟩ := hcut
      have X9 := Lib.hid hX
      have Y9 := Lib.hid hY
      have B9 := Lib.hid hB
      clear hX hY hB R0 R0d
      obtain ⟨y0, y1, y2, -, -, -, -⟩ := id Y9.out
      go_wp2_with fail
      refine (HIX.out _ (libT3 (lib3_below HL.out B9.out)) (HH.out.next B9.out)).mono ?_; rintro e w10 ⟨rfl, b10⟩
      have B10 := Lib.hid (bel_tr B9.out b10 (Nat.le_refl _))
      have X10 := Lib.hid (X9.out.next b10); clear b10 B9 X9 y0 y1 y2 Y9
      cases hc : ob
      · obtain rfl := HNO.out hc
        rw [hc] at HOI
        clear HRS HNO hc
        obtain ⟨x0, x1, x2, -, -, -, -⟩ := id X10.out
        go_wp2_with fail
        refine (HOI.out _).mono ?_; rintro e w12 ⟨rfl, b12⟩
        have B12 := Lib.hid (bel_tr B10.out b12 (Nat.le_refl _)); clear b12
        go_wp2_with fail
        go_ret
        exact ⟨rfl, B12.out⟩
      · obtain ⟨hrd, hne0⟩ := HRS.out hc
        obtain ⟨n1, n2, n3⟩ := hne0
        rw [hrd] at HS2
        unfold roV at HS2
        dsimp only at HS2
        clear HRS HNO hc hrd
        have hce2 := op_self k n m
        go_wp2_with fail
        refine (HS2.out _ (lib3_below HL.out B10.out) (HH.out.next B10.out) (HM.out.next B10.out)).mono ?_; rintro e w12 ⟨rfl, b12⟩
        have B12 := Lib.hid (bel_tr B10.out b12 (Nat.le_refl _))
        have X12 := Lib.hid (X10.out.next b12); clear b12
        have BE := Lib.hid (bel1 w12 (.cells #[.int .i64 k, .int .i64 n, .string (tx m)] 25))
        obtain ⟨x0, x1, x2, -, -, -, -⟩ := X12.out.next BE.out
        go_wp2_with fail
        go_ret
        exact ⟨rfl, bel_tr B12.out BE.out (Nat.le_refl _)⟩
end Go.Proofs.YtoiphglfngkoiaaDoor.Cl
