/-
  The walk of FnCellText at a code that is not too long. (Made by gen_sh2.py.)
-/
import Derived.Test.YtdalncgbbkeimaaDoorSf
import Derived.Test.YtdalncgbbkeimaaDoorSg
import Derived.Test.YtdalncgbbkeimaaDoorSe
namespace Go.Proofs.YtdalncgbbkeimaaDoor.Cl
open Go.RowKit Wd Rp Cu Kp
set_option linter.unusedVariables false
theorem str_ne {l : List UInt8} (h : l ≠ []) : ¬ (tx l).toList = [] ∧ (tx l).toList.isEmpty = false ∧ ((tx l).toList == []) = false := by
  rw [Lib.toList_data, tx_data]
  refine ⟨h, ?_, ?_⟩
  · cases l with
    | nil => exact absurd rfl h
    | cons _ _ => rfl
  · rw [beq_eq_false_iff_ne]; exact h
set_option maxHeartbeats 8000000 in
set_option maxRecDepth 100000 in
theorem cellText_small (w : World) (a0 : Option Addr) (len0 cap0 : Nat) (hb : IsBytes w a0 len0) (hl : len0 ≤ 4096) (hL : Lib3 w) (hM : LibM w) :
    Calls Tryd.prog 4 #[.slice a0 len0 cap0] w fun e w' => e = .returned (.bool true) ∧ Below w.heap.size w w' := by
  have HB := Lib.hid hb; clear hb
  have HL := Lib.hid hL; clear hL
  have HM := Lib.hid hM; clear hM
  go_enter Tryd.func4, Tryd.ntmps4
  go_wp2_with fail
  refine (big_no w a0 len0 cap0 hl).mono ?_; rintro e wx ⟨rfl, rfl⟩
  go_wp2_with fail
  refine (drawShow_any w a0 len0 cap0 HB.out hl).mono ?_; rintro e w1 ⟨r, b, t, v, g, rfl, hn, b1⟩
  have hr := hn.1
  have hbz := hn.2.1
  clear hn
  have X1 := Lib.hid (Bc.made r b t v g w1 36)
  have BA := Lib.hid (bel1 w1 (.cells #[.string r, .string b, .int .i64 t, .int .i64 v, .bool g] 36))
  have B1 := Lib.hid b1; clear b1
  have HSP := Lib.hid (fun w => specShow_any r b t v g w (by omega) (by omega))
  have HIM := Lib.hid (fun w h => implShow_any r b t v g w h)
  have HOK := Lib.hid (fun w => implOk_is (r := r) (b := b) (t := t) (v := v) (g := g) rfl w)
  have HCE := cell_self r b t v g
  have HRS : cellB r b t v g = true → tx (shB r b t v g) = tx (showB r.data.toList b.data.toList t v g) := fun h => by rw [shB_yes h]
  have HNO : cellB r b t v g = false → tx (shB r b t v g) = ⟨#[]⟩ := fun h => by rw [shB_no h]; rfl
  unfold ShPost at HSP HIM
  have hsz := shB_size r b t v g
  generalize tx (shB r b t v g) = S at HSP HIM HRS HNO hsz
  have q1 : (S.toList == S.toList) = true := by simp
  go_wp2_with fail
  generalize w1.alloc (Obj.cells #[Value.string r, Value.string b, Value.int IntKind.i64 t, Value.int IntKind.i64 v, Value.bool g] 36) = w2 at X1 BA ⊢
  have B2 := Lib.hid (bel_tr B1.out BA.out (Nat.le_refl _)); clear B1 BA
  generalize w1.heap.size = p1 at X1 ⊢
  refine (HIM.out _ (libT_of3 (lib3_next HL.out B2.out))).mono ?_; rintro e w3 ⟨rfl, b3⟩
  have B3 := Lib.hid (bel_tr B2.out b3 (Nat.le_refl _))
  have X3 := Lib.hid (X1.out.next b3); clear b3 B2 X1
  go_wp2_with fail
  refine (drawRead_any w3 a0 len0 cap0 (isBytes_next HB.out B3.out) hl).mono ?_; rintro e w4 ⟨T, rfl, hT, b4⟩
  have B4 := Lib.hid (bel_tr B3.out b4 (Nat.le_refl _))
  have X4 := Lib.hid (X3.out.next b4); clear b4 B3 X3
  have HRI := Lib.hid (fun w h h' => implReadC_any T w (by omega) h h')
  have HRP := Lib.hid (fun w => specReadC_any T w (by omega))
  unfold RcPost at HRI HRP
  have HS2 := Lib.hid (fun w h h' => implReadC_any S w (by omega) h h')
  unfold RcPost at HS2
  have hself : ∀ x : Bool, (x != x) = false := fun x => by simp
  rcases rc_cases T.data.toList with hz | ⟨r', b', t', v', g', hz, hsh, -, -⟩
  · rw [hz] at HRI HRP
    have hce := cell_self (⟨#[]⟩ : ByteArray) (⟨#[]⟩ : ByteArray) 0 0 false
    unfold zeroV at HRI HRP
    go_wp2_with fail
    refine (HRI.out _ (lib3_next HL.out B4.out) (HM.out.next B4.out)).mono ?_; rintro e w5 ⟨rfl, b5⟩
    have B5 := Lib.hid (bel_tr B4.out b5 (Nat.le_refl _))
    have X5 := Lib.hid (X4.out.next b5); clear b5 B4 X4
    have Y5 := Lib.hid (Bc.made (⟨#[]⟩ : ByteArray) (⟨#[]⟩ : ByteArray) 0 0 false w5 36)
    have BC := Lib.hid (bel1 w5 (.cells #[.string ⟨#[]⟩, .string ⟨#[]⟩, .int .i64 0, .int .i64 0, .bool false] 36))
    go_wp2_with fail
    generalize w5.alloc (Obj.cells #[Value.string { data := #[] }, Value.string { data := #[] }, Value.int IntKind.i64 0, Value.int IntKind.i64 0, Value.bool false] 36) = w6 at Y5 BC ⊢
    have B6 := Lib.hid (bel_tr B5.out BC.out (Nat.le_refl _))
    have X6 := Lib.hid (X5.out.next BC.out); clear B5 X5 BC
    generalize w5.heap.size = p2 at Y5 ⊢
    refine (HRP.out _).mono ?_; rintro e w7 ⟨rfl, b7⟩
    have B7 := Lib.hid (bel_tr B6.out b7 (Nat.le_refl _))
    have X7 := Lib.hid (X6.out.next b7)
    have Y7 := Lib.hid (Y5.out.next b7); clear b7 B6 X6 Y5
    have Z7 := Lib.hid (Bc.made (⟨#[]⟩ : ByteArray) (⟨#[]⟩ : ByteArray) 0 0 false w7 36)
    have BD := Lib.hid (bel1 w7 (.cells #[.string ⟨#[]⟩, .string ⟨#[]⟩, .int .i64 0, .int .i64 0, .bool false] 36))
    have X8 := X7.out.next BD.out
    have Y8 := Y7.out.next BD.out
    obtain ⟨x0, x1, x2, x3, x4, -⟩ := id X8
    obtain ⟨y0, y1, y2, y3, y4, -⟩ := id Y8
    go_wp2_with fail
    refine (HSP.out _).mono ?_; rintro e w9 ⟨rfl, b9⟩
    have B9 := Lib.hid (bel_tr (bel_tr B7.out BD.out (Nat.le_refl _)) b9 (Nat.le_refl _))
    have X9 := Lib.hid (X8.next b9)
    have Y9 := Lib.hid (Y8.next b9)
    clear b9 X8 Y8 x0 x1 x2 x3 x4 y0 y1 y2 y3 y4 B7 X7 Y7 Z7 BD
    obtain ⟨y0, y1, y2, y3, y4, -⟩ := id Y9.out
    cases hc : cellB r b t v g
    · obtain rfl := HNO hc
      rw [hc] at HOK
      clear HRS HNO hc
      obtain ⟨x0, x1, x2, x3, x4, -⟩ := id X9.out
      go_wp2_with fail
      refine (HOK.out _).mono ?_; rintro e w12 ⟨rfl, b12⟩
      have B12 := Lib.hid (bel_tr B9.out b12 (Nat.le_refl _)); clear b12
      go_wp2_with fail
      go_ret
      exact ⟨rfl, B12.out⟩
    · have hS := HRS hc
      have hne := str_ne (show_ne (r := r.data.toList) (b := b.data.toList) (t := t) (v := v) (g := g))
      rw [← hS] at hne
      obtain ⟨n1, n2, n3⟩ := hne
      have hrd := read_of_show hc
      have hSd : S.data.toList = showB r.data.toList b.data.toList t v g := by rw [hS, tx_data]
      rw [← hSd] at hrd
      rw [hrd] at HS2
      clear HRS HNO hc hS hrd hSd
      go_wp2_with fail
      refine (HS2.out _ (lib3_next HL.out B9.out) (HM.out.next B9.out)).mono ?_; rintro e w12 ⟨rfl, b12⟩
      have B12 := Lib.hid (bel_tr B9.out b12 (Nat.le_refl _))
      have X12 := Lib.hid (X9.out.next b12); clear b12
      have BE := Lib.hid (bel1 w12 (.cells #[.string r, .string b, .int .i64 t, .int .i64 v, .bool g] 36))
      clear y0 y1 y2 y3 y4
      obtain ⟨x0, x1, x2, x3, x4, -⟩ := X12.out.next BE.out
      go_wp2_with fail
      go_ret
      exact ⟨rfl, bel_tr B12.out BE.out (Nat.le_refl _)⟩
  · rw [hz] at HRI HRP
    have hce := cell_self r' b' t' v' g'
    have HIX := Lib.hid (fun w h => implShow_any r' b' t' v' g' w h)
    unfold ShPost at HIX
    rw [hsh, tx_of] at HIX
    have q2 : (T.toList == T.toList) = true := by simp
    go_wp2_with fail
    refine (HRI.out _ (lib3_next HL.out B4.out) (HM.out.next B4.out)).mono ?_; rintro e w5 ⟨rfl, b5⟩
    have B5 := Lib.hid (bel_tr B4.out b5 (Nat.le_refl _))
    have X5 := Lib.hid (X4.out.next b5); clear b5 B4 X4
    have Y5 := Lib.hid (Bc.made r' b' t' v' g' w5 36)
    have BC := Lib.hid (bel1 w5 (.cells #[.string r', .string b', .int .i64 t', .int .i64 v', .bool g'] 36))
    go_wp2_with fail
    generalize w5.alloc (Obj.cells #[Value.string r', Value.string b', Value.int IntKind.i64 t', Value.int IntKind.i64 v', Value.bool g'] 36) = w6 at Y5 BC ⊢
    have B6 := Lib.hid (bel_tr B5.out BC.out (Nat.le_refl _))
    have X6 := Lib.hid (X5.out.next BC.out); clear B5 X5 BC
    generalize w5.heap.size = p2 at Y5 ⊢
    refine (HRP.out _).mono ?_; rintro e w7 ⟨rfl, b7⟩
    have B7 := Lib.hid (bel_tr B6.out b7 (Nat.le_refl _))
    have X7 := Lib.hid (X6.out.next b7)
    have Y7 := Lib.hid (Y5.out.next b7); clear b7 B6 X6 Y5
    have Z7 := Lib.hid (Bc.made r' b' t' v' g' w7 36)
    have BD := Lib.hid (bel1 w7 (.cells #[.string r', .string b', .int .i64 t', .int .i64 v', .bool g'] 36))
    have X8 := X7.out.next BD.out
    have Y8 := Y7.out.next BD.out
    obtain ⟨x0, x1, x2, x3, x4, -⟩ := id X8
    obtain ⟨y0, y1, y2, y3, y4, -⟩ := id Y8
    go_wp2_with fail
    refine (HSP.out _).mono ?_; rintro e w9 ⟨rfl, b9⟩
    have B9 := Lib.hid (bel_tr (bel_tr B7.out BD.out (Nat.le_refl _)) b9 (Nat.le_refl _))
    have X9 := Lib.hid (X8.next b9)
    have Y9 := Lib.hid (Y8.next b9)
    clear b9 X8 Y8 x0 x1 x2 x3 x4 y0 y1 y2 y3 y4 B7 X7 Y7 Z7 BD
    obtain ⟨y0, y1, y2, y3, y4, -⟩ := id Y9.out
    go_wp2_with fail
    refine (HIX.out _ (libT_of3 (lib3_next HL.out B9.out))).mono ?_; rintro e w10 ⟨rfl, b10⟩
    have B10 := Lib.hid (bel_tr B9.out b10 (Nat.le_refl _))
    have X10 := Lib.hid (X9.out.next b10); clear b10 B9 X9 y0 y1 y2 y3 y4 Y9
    cases hc : cellB r b t v g
    · obtain rfl := HNO hc
      rw [hc] at HOK
      clear HRS HNO hc
      obtain ⟨x0, x1, x2, x3, x4, -⟩ := id X10.out
      go_wp2_with fail
      refine (HOK.out _).mono ?_; rintro e w12 ⟨rfl, b12⟩
      have B12 := Lib.hid (bel_tr B10.out b12 (Nat.le_refl _)); clear b12
      go_wp2_with fail
      go_ret
      exact ⟨rfl, B12.out⟩
    · have hS := HRS hc
      have hne := str_ne (show_ne (r := r.data.toList) (b := b.data.toList) (t := t) (v := v) (g := g))
      rw [← hS] at hne
      obtain ⟨n1, n2, n3⟩ := hne
      have hrd := read_of_show hc
      have hSd : S.data.toList = showB r.data.toList b.data.toList t v g := by rw [hS, tx_data]
      rw [← hSd] at hrd
      rw [hrd] at HS2
      clear HRS HNO hc hS hrd hSd
      go_wp2_with fail
      refine (HS2.out _ (lib3_next HL.out B10.out) (HM.out.next B10.out)).mono ?_; rintro e w12 ⟨rfl, b12⟩
      have B12 := Lib.hid (bel_tr B10.out b12 (Nat.le_refl _))
      have X12 := Lib.hid (X10.out.next b12); clear b12
      have BE := Lib.hid (bel1 w12 (.cells #[.string r, .string b, .int .i64 t, .int .i64 v, .bool g] 36))
      skip
      obtain ⟨x0, x1, x2, x3, x4, -⟩ := X12.out.next BE.out
      go_wp2_with fail
      go_ret
      exact ⟨rfl, bel_tr B12.out BE.out (Nat.le_refl _)⟩
end Go.Proofs.YtdalncgbbkeimaaDoor.Cl
