/-
  The walk of FnRecipes at a code that is not too long: a recipe is read from its words, and two of them side by side are one.
-/
import Derived.Test.YtkhmbmcomgclaaaGreatDoorZh
import Derived.Test.YtkhmbmcomgclaaaGreatDoorLz
import Derived.Test.YtkhmbmcomgclaaaGreatDoorLh
import Derived.Test.YtkhmbmcomgclaaaGreatDoorLv
import Derived.Test.YtkhmbmcomgclaaaGreatDoorZe
import Derived.Test.YtkhmbmcomgclaaaGreatDoorRl
namespace Go.Proofs.YtkhmbmcomgclaaaGreatDoor.Cl
open Go.RowKit Wd Rp Cu Kp
set_option linter.unusedVariables false
theorem ise_next {w w' : World} {a : Option Addr} {len : Nat} (h : IsBytes w a len) (hb : Below w.heap.size w w') : IsBytes w' a len := ⟨h.1, fun hl => by
  obtain ⟨ab, ao, h1, h2, h3⟩ := h.2 hl
  refine ⟨ab, ao, h1, Nat.lt_of_lt_of_le h2 hb.size, fun k hk => ?_⟩
  obtain ⟨z, h4, h5⟩ := h3 k hk
  exact ⟨z, (World.cell?_of_block (w := w) (hb.block ab h2)).trans h4, h5⟩⟩
theorem rdR_bd {t : Tk} (h : t.length ≤ 1000000) : (rdR t).1.length ≤ 1000001 ∧ ∀ s ∈ (rdR t).1, s.length ≤ 1000000 := by
  have h1 := spl_lens 32 t
  unfold rdR
  split
  · exact ⟨Nat.zero_le _, fun s hs => by cases hs⟩
  · split
    · exact ⟨by show (spl 32 t).length ≤ _; omega, fun s hs => by have := h1.2 s hs; omega⟩
    · exact ⟨Nat.zero_le _, fun s hs => by cases hs⟩
theorem shR_bd {l : List Tk} (h : l.length ≤ 121) (hs : SmT l) : (shR l).length ≤ 10000 := by
  unfold shR
  split
  · have := joined_len 32 40 l hs
    have h2 : l.length * (40 + 1) ≤ 121 * (40 + 1) := Nat.mul_le_mul_right _ h
    omega
  · exact Nat.zero_le _
set_option maxHeartbeats 32000000 in
set_option maxRecDepth 100000 in
theorem recipes_small (w : World) (a0 : Option Addr) (len0 cap0 : Nat) (hb : IsBytes w a0 len0) (hl : len0 ≤ 4096) (hL : Lib3 w) (hM : LibX w) :
    Calls Tryz.prog 3 #[.slice a0 len0 cap0] w fun e w' => e = .returned (.bool true) ∧ Below w.heap.size w w' := by
  have HB := Lib.hid hb; clear hb
  have HL := Lib.hid hL; clear hL
  have HX := Lib.hid hM; clear hM
  go_enter Tryz.func3, Tryz.ntmps3
  go_wp2_with fail
  refine (big_no _ _ _ _ hl).mono ?_; rintro e w0 ⟨rfl, rfl⟩
  go_wp2_with fail
  refine (drawShowRecipe_any _ a0 len0 cap0 HB.out hl).mono ?_; rintro e w1 ⟨vl, l, rfl, o1, n1, s1, b1⟩
  obtain ⟨la, lc, rfl, hv1⟩ := o1.form
  have B1 := Lib.hid b1
  have HVL := Lib.hid hv1
  have HML := Lib.hid (show ∀ s ∈ l, s.length ≤ 4194304 from fun s hs => by have := s1 s hs; omega)
  have HOL := Lib.hid (Nx.owt_of o1)
  have HSB := Lib.hid (shR_bd n1 s1)
  clear o1 s1 b1 hv1
  generalize hln : l.length = n at *
  have HN := Lib.hid hln; clear hln
  have C1 := Lib.hid (implShow_any w1 la lc l n HN.out HVL.out (by omega) HML.out (lib3_below HL.out B1.out))
  go_wp2_with fail
  refine C1.out.mono ?_; rintro e w2 ⟨rfl, b2⟩
  have B2 := Lib.hid (bel_tr B1.out b2 (Nat.le_refl _))
  have X2 := Lib.hid b2; clear b2 C1
  go_wp2_with fail
  refine (drawReadRecipe_any _ a0 len0 cap0 (ise_next HB.out B2.out) hl).mono ?_; rintro e w3 ⟨sb, rfl, hsz, b3⟩
  have B3 := Lib.hid (bel_tr B2.out b3 (Nat.le_refl _))
  have X3 := Lib.hid (bel_tr X2.out b3 (Nat.le_refl _)); clear b3
  obtain ⟨t, rfl⟩ : ∃ t, sb = tx t := ⟨sb.data.toList, (tx_of sb).symm⟩
  rw [tx_size] at hsz
  have HTB := Lib.hid (rdR_bd (t := t) (by omega))
  have HSR := Lib.hid (fun h => sh_rd (t := t) h)
  have C2 := Lib.hid (implRead_any w3 t (by omega) (lib3_below HL.out B3.out) (HX.out.next B3.out))
  have C3 := Lib.hid (fun z => specRead_any z t (by omega))
  unfold ReadsR at C2 C3
  generalize rdR t = rr at *
  obtain ⟨x, ok⟩ := rr
  dsimp only at C2 C3 HTB HSR
  have q0 : (ok != ok) = false := by simp
  go_wp2_with fail
  refine C2.out.mono ?_; rintro e w4 ⟨v4, rfl, o4, b4⟩
  have B4 := Lib.hid (bel_tr B3.out b4 (Nat.le_refl _))
  have X4 := Lib.hid (bel_tr X3.out b4 (Nat.le_refl _))
  have HO4 := Lib.hid (Nx.owt_of o4)
  obtain ⟨xa, xc, rfl, hvx⟩ := o4.form
  have HVX := Lib.hid hvx
  clear o4 b4 hvx C2
  generalize hxn : x.length = xn at *
  have HXN := Lib.hid hxn; clear hxn
  go_wp2_with fail
  refine (C3.out w4).mono ?_; rintro e w5 ⟨v5, rfl, o5, b5⟩
  have B5 := Lib.hid (bel_tr B4.out b5 (Nat.le_refl _))
  have X5 := Lib.hid (bel_tr X4.out b5 (Nat.le_refl _))
  have Y5 := Lib.hid b5
  have HO5 := Lib.hid (Nx.owt_of o5)
  clear o5 b5 C3
  go_wp2_with fail
  refine (Nx.likeTexts_same w5 (HO4.out.next Y5.out) HO5.out (by have := HTB.out.1; have := HXN.out; omega)).mono ?_; rintro e w6 ⟨rfl, b6⟩
  have B6 := Lib.hid (bel_tr B5.out b6 (Nat.le_refl _))
  have X6 := Lib.hid (bel_tr X5.out b6 (Nat.le_refl _))
  have Y6 := Lib.hid (bel_tr Y5.out b6 (Nat.le_refl _))
  clear b6 HO5
  have C4 := Lib.hid (specShow_any w6 la lc l n HN.out (HVL.out.below X6.out) (by omega) HML.out)
  have C5 := Lib.hid (fun z (hz : Below w1.heap.size w1 z) => implRecipeOk_any z la lc l n HN.out (HVL.out.below hz) (by omega) HML.out (lib3_below HL.out (B1.out.trans (hz.mono B1.out.size))))
  have C6 := Lib.hid (fun z (hz : Below w1.heap.size w1 z) => specRecipeOk_any z la lc l n HN.out (HVL.out.below hz) (by omega) HML.out)
  have HRS := Lib.hid (fun h => rd_sh (l := l) h)
  have HNO := Lib.hid (fun h => sh_no (l := l) h)
  have HBO := Lib.hid (fun h => rcB_both (l := l) h)
  have HLN := Lib.hid (show rcB l = true → n ≤ 120 from fun h => by have := ((rcB_run l).1 h).1; have := HN.out; omega)
  obtain ⟨rb, hrb⟩ : ∃ rb, rcB l = rb := ⟨_, rfl⟩
  rw [hrb] at HRS HNO HBO HLN
  replace C5 := Lib.hid (fun z hz => hrb ▸ C5.out z hz)
  replace C6 := Lib.hid (fun z hz => hrb ▸ C6.out z hz)
  clear hrb
  obtain ⟨sh, hsh⟩ : ∃ sh, shR l = sh := ⟨_, rfl⟩
  rw [hsh] at C4 HRS HNO HSB ⊢
  clear hsh
  have q1 : ((tx sh).toList == (tx sh).toList) = true := tx_beq sh
  have q2 : (rb != rb) = false := by simp
  go_wp2_with fail
  refine C4.out.mono ?_; rintro e w7 ⟨rfl, b7⟩
  have B7 := Lib.hid (bel_tr B6.out b7 (Nat.le_refl _))
  have X7 := Lib.hid (bel_tr X6.out b7 (Nat.le_refl _))
  have Y7 := Lib.hid (bel_tr Y6.out b7 (Nat.le_refl _))
  clear b7 C4
  go_wp2_with fail
  refine (C5.out w7 X7.out).mono ?_; rintro e w8 ⟨rfl, b8⟩
  have B8 := Lib.hid (bel_tr B7.out b8 (Nat.le_refl _))
  have X8 := Lib.hid (bel_tr X7.out b8 (Nat.le_refl _))
  have Y8 := Lib.hid (bel_tr Y7.out b8 (Nat.le_refl _))
  clear b8
  go_wp2_with fail
  refine (C6.out w8 X8.out).mono ?_; rintro e w9 ⟨rfl, b9⟩
  have B9 := Lib.hid (bel_tr B8.out b9 (Nat.le_refl _))
  have X9 := Lib.hid (bel_tr X8.out b9 (Nat.le_refl _))
  have Y9 := Lib.hid (bel_tr Y8.out b9 (Nat.le_refl _))
  clear b9 B2 B3 B4 B5 B6 B7 B8 X2 X3 X4 X5 X6 X7 X8 Y5 Y6 Y7 Y8
  have C7 := Lib.hid (fun (h : ok = true) => (HSR.out h) ▸ implShow_any w9 xa xc x xn HXN.out (HVX.out.below Y9.out) (by have := HTB.out.1; have := HXN.out; omega) (fun s hs => by have := HTB.out.2 s hs; omega) (lib3_below HL.out B9.out))
  have q3 : ((tx t).toList == (tx t).toList) = true := tx_beq t
  cases ok
  · clear C7
    go_wp2_with fail
    refine (C6.out w9 X9.out).mono ?_; rintro e w10 ⟨rfl, b10⟩
    have B10 := Lib.hid (bel_tr B9.out b10 (Nat.le_refl _))
    have X10 := Lib.hid (bel_tr X9.out b10 (Nat.le_refl _))
    clear b10
    cases rb
    · have e0 : sh = [] := HNO.out rfl
      subst e0
      have q9 : (tx ([] : Tk)).toList.isEmpty = true := by rw [Lib.toList_data, tx_data]; rfl
      have q9b : ((tx ([] : Tk)).toList == []) = true := by rw [Lib.toList_data, tx_data]; rfl
      go_wp2_with fail
      go_ret
      exact ⟨rfl, B10.out⟩
    have hrs := HRS.out rfl
    have hn120 := HLN.out rfl
    have C8 := Lib.hid (implRead_any w10 sh (by have := HSB.out; omega) (lib3_below HL.out B10.out) (HX.out.next B10.out))
    unfold ReadsR at C8
    rw [hrs] at C8
    dsimp only at C8
    clear hrs HRS HNO
    go_wp2_with fail
    refine C8.out.mono ?_; rintro e w11 ⟨v11, rfl, o11, b11⟩
    have B11 := Lib.hid (bel_tr B10.out b11 (Nat.le_refl _))
    have X11 := Lib.hid (bel_tr X10.out b11 (Nat.le_refl _))
    have HO11 := Lib.hid (Nx.owt_of o11)
    clear o11 b11 C8
    have O12 := Lib.hid (show OT w11.heap.size (w11.alloc (.cells #[] 9)) (.slice (some ⟨w11.heap.size, 0, none⟩) 0 0) [] from O1.start (Nat.le_refl _))
    have BL12 := Lib.hid (bel1 w11 (.cells #[] 9))
    have V12 := Lib.hid (HVL.out.below (bel_tr X11.out BL12.out (Nat.le_refl _)))
    have hlz : ([] : List Tk).length + l.length ≤ 10000000 := by have := HN.out; simp; omega
    go_wp2_with (first
      | (at_builtin; refine append_tx rfl (.tmp 70) (.tmp 71) rfl (base := w11.heap.size) (l := []) (m := l) rfl rfl HN.out O12.out V12.out hlz BL12.out.size ?_; intro v13 w13 o13 g13; have BL13 := Lib.hid (BL12.out.grown g13 BL12.out.size (fun k hk => OT.lt O12.out k hk)); have V13 := Lib.hid (HVL.out.below (bel_tr X11.out BL13.out (Nat.le_refl _))); have O13 := Lib.hid o13; clear o13 g13)
      | (at_builtin; refine append_tx rfl (.tmp 72) (.tmp 73) rfl (base := w11.heap.size) (l := [] ++ l) (m := l) rfl rfl HN.out O13.out V13.out (by have := HN.out; simp; omega) BL13.out.size ?_; intro v14 w14 o14 g14; have BL14 := Lib.hid (BL13.out.grown g14 BL13.out.size (fun k hk => OT.lt O13.out k hk)); have O14 := Lib.hid o14; clear o14 g14)
      | fail)
    refine (Nx.likeTexts_same w14 (HO11.out.next BL14.out) (HOL.out.next (bel_tr X11.out BL14.out (Nat.le_refl _))) (by have := HN.out; omega)).mono ?_; rintro e w15 ⟨rfl, b15⟩
    have BL15 := Lib.hid (bel_tr BL14.out b15 (Nat.le_refl _))
    have O15 := Lib.hid (O14.out.next b15)
    clear b15
    obtain ⟨ba, bc, ebv, hvb⟩ := O15.out.form
    subst ebv
    have HVB := Lib.hid hvb
    rw [List.nil_append] at HVB
    have hnb : (([] ++ l) ++ l).length = (l ++ l).length := by simp
    rw [hnb]
    have C9 := Lib.hid (implRecipeOk_any w15 ba bc (l ++ l) (l ++ l).length rfl HVB.out (by rw [List.length_append]; have := HN.out; omega) (fun s hs => by rcases List.mem_append.1 hs with h | h <;> exact HML.out s h) (lib3_below HL.out (B11.out.trans (BL15.out.mono B11.out.size))))
    rw [HBO.out trivial] at C9
    have HFIN := Lib.hid (B11.out.trans (BL15.out.mono B11.out.size))
    clear hvb hnb HBO O15 O14 O13 O12
    generalize hnbb : (l ++ l).length = nb at *
    clear hnbb
    by_cases h120 : nb ≤ 120
    · have t1 : decide (nb ≤ 120) = true := by simpa using h120
      have t2 : decide ((nb : Int) ≤ 120) = true := by simp; omega
      have t3 : (nb : Int) ≤ 120 := by omega
      rw [t1] at C9
      go_wp2_with fail
      refine C9.out.mono ?_; rintro e w16 ⟨rfl, b16⟩
      have B16 := Lib.hid (bel_tr HFIN.out b16 (Nat.le_refl _))
      clear b16
      go_wp2_with fail
      go_ret
      exact ⟨rfl, B16.out⟩
    · have t1 : decide (nb ≤ 120) = false := by simpa using h120
      have t2 : decide ((nb : Int) ≤ 120) = false := by simp; omega
      have t3 : ¬ (nb : Int) ≤ 120 := by omega
      rw [t1] at C9
      go_wp2_with fail
      refine C9.out.mono ?_; rintro e w16 ⟨rfl, b16⟩
      have B16 := Lib.hid (bel_tr HFIN.out b16 (Nat.le_refl _))
      clear b16
      go_wp2_with fail
      go_ret
      exact ⟨rfl, B16.out⟩
  · have C7' := Lib.hid (C7.out rfl)
    clear C7
    go_wp2_with fail
    refine C7'.out.mono ?_; rintro e wx ⟨rfl, bx⟩
    replace B9 := Lib.hid (bel_tr B9.out bx (Nat.le_refl _))
    replace X9 := Lib.hid (bel_tr X9.out bx (Nat.le_refl _))
    clear bx C7' Y9
    generalize wx = w9 at *
    go_wp2_with fail
    refine (C6.out w9 X9.out).mono ?_; rintro e w10 ⟨rfl, b10⟩
    have B10 := Lib.hid (bel_tr B9.out b10 (Nat.le_refl _))
    have X10 := Lib.hid (bel_tr X9.out b10 (Nat.le_refl _))
    clear b10
    cases rb
    · have e0 : sh = [] := HNO.out rfl
      subst e0
      have q9 : (tx ([] : Tk)).toList.isEmpty = true := by rw [Lib.toList_data, tx_data]; rfl
      have q9b : ((tx ([] : Tk)).toList == []) = true := by rw [Lib.toList_data, tx_data]; rfl
      go_wp2_with fail
      go_ret
      exact ⟨rfl, B10.out⟩
    have hrs := HRS.out rfl
    have hn120 := HLN.out rfl
    have C8 := Lib.hid (implRead_any w10 sh (by have := HSB.out; omega) (lib3_below HL.out B10.out) (HX.out.next B10.out))
    unfold ReadsR at C8
    rw [hrs] at C8
    dsimp only at C8
    clear hrs HRS HNO
    go_wp2_with fail
    refine C8.out.mono ?_; rintro e w11 ⟨v11, rfl, o11, b11⟩
    have B11 := Lib.hid (bel_tr B10.out b11 (Nat.le_refl _))
    have X11 := Lib.hid (bel_tr X10.out b11 (Nat.le_refl _))
    have HO11 := Lib.hid (Nx.owt_of o11)
    clear o11 b11 C8
    have O12 := Lib.hid (show OT w11.heap.size (w11.alloc (.cells #[] 9)) (.slice (some ⟨w11.heap.size, 0, none⟩) 0 0) [] from O1.start (Nat.le_refl _))
    have BL12 := Lib.hid (bel1 w11 (.cells #[] 9))
    have V12 := Lib.hid (HVL.out.below (bel_tr X11.out BL12.out (Nat.le_refl _)))
    have hlz : ([] : List Tk).length + l.length ≤ 10000000 := by have := HN.out; simp; omega
    go_wp2_with (first
      | (at_builtin; refine append_tx rfl (.tmp 70) (.tmp 71) rfl (base := w11.heap.size) (l := []) (m := l) rfl rfl HN.out O12.out V12.out hlz BL12.out.size ?_; intro v13 w13 o13 g13; have BL13 := Lib.hid (BL12.out.grown g13 BL12.out.size (fun k hk => OT.lt O12.out k hk)); have V13 := Lib.hid (HVL.out.below (bel_tr X11.out BL13.out (Nat.le_refl _))); have O13 := Lib.hid o13; clear o13 g13)
      | (at_builtin; refine append_tx rfl (.tmp 72) (.tmp 73) rfl (base := w11.heap.size) (l := [] ++ l) (m := l) rfl rfl HN.out O13.out V13.out (by have := HN.out; simp; omega) BL13.out.size ?_; intro v14 w14 o14 g14; have BL14 := Lib.hid (BL13.out.grown g14 BL13.out.size (fun k hk => OT.lt O13.out k hk)); have O14 := Lib.hid o14; clear o14 g14)
      | fail)
    refine (Nx.likeTexts_same w14 (HO11.out.next BL14.out) (HOL.out.next (bel_tr X11.out BL14.out (Nat.le_refl _))) (by have := HN.out; omega)).mono ?_; rintro e w15 ⟨rfl, b15⟩
    have BL15 := Lib.hid (bel_tr BL14.out b15 (Nat.le_refl _))
    have O15 := Lib.hid (O14.out.next b15)
    clear b15
    obtain ⟨ba, bc, ebv, hvb⟩ := O15.out.form
    subst ebv
    have HVB := Lib.hid hvb
    rw [List.nil_append] at HVB
    have hnb : (([] ++ l) ++ l).length = (l ++ l).length := by simp
    rw [hnb]
    have C9 := Lib.hid (implRecipeOk_any w15 ba bc (l ++ l) (l ++ l).length rfl HVB.out (by rw [List.length_append]; have := HN.out; omega) (fun s hs => by rcases List.mem_append.1 hs with h | h <;> exact HML.out s h) (lib3_below HL.out (B11.out.trans (BL15.out.mono B11.out.size))))
    rw [HBO.out trivial] at C9
    have HFIN := Lib.hid (B11.out.trans (BL15.out.mono B11.out.size))
    clear hvb hnb HBO O15 O14 O13 O12
    generalize hnbb : (l ++ l).length = nb at *
    clear hnbb
    by_cases h120 : nb ≤ 120
    · have t1 : decide (nb ≤ 120) = true := by simpa using h120
      have t2 : decide ((nb : Int) ≤ 120) = true := by simp; omega
      have t3 : (nb : Int) ≤ 120 := by omega
      rw [t1] at C9
      go_wp2_with fail
      refine C9.out.mono ?_; rintro e w16 ⟨rfl, b16⟩
      have B16 := Lib.hid (bel_tr HFIN.out b16 (Nat.le_refl _))
      clear b16
      go_wp2_with fail
      go_ret
      exact ⟨rfl, B16.out⟩
    · have t1 : decide (nb ≤ 120) = false := by simpa using h120
      have t2 : decide ((nb : Int) ≤ 120) = false := by simp; omega
      have t3 : ¬ (nb : Int) ≤ 120 := by omega
      rw [t1] at C9
      go_wp2_with fail
      refine C9.out.mono ?_; rintro e w16 ⟨rfl, b16⟩
      have B16 := Lib.hid (bel_tr HFIN.out b16 (Nat.le_refl _))
      clear b16
      go_wp2_with fail
      go_ret
      exact ⟨rfl, B16.out⟩
end Go.Proofs.YtkhmbmcomgclaaaGreatDoor.Cl
