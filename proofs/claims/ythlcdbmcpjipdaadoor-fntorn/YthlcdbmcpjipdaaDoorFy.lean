/-
  The walk of laws.FnFrames over a code of at most 4096 bytes.
-/
import Derived.Test.YthlcdbmcpjipdaaDoorFk
import Derived.Test.YthlcdbmcpjipdaaDoorFx
import Derived.Test.YthlcdbmcpjipdaaDoorOa
namespace Go.Proofs.YthlcdbmcpjipdaaDoor.Fq
open Go.RowKit Wd Rp Kp Cu
set_option linter.unusedVariables false
theorem apV_form (f : ByteArray) (S : List UInt8) (l : List (List UInt8)) : ∃ x b, apV f S l = .tuple #[.string x, .bool b] ∧ ((b = false ∧ x = f) ∨ (b = true ∧ x = tx (tot l ++ fr S) ∧ apB f.data.toList S l = true)) := by
  cases h : apB f.data.toList S l
  · exact ⟨_, _, apV_no h, .inl ⟨rfl, rfl⟩⟩
  · exact ⟨_, _, apV_yes h, .inr ⟨rfl, rfl, rfl⟩⟩
theorem Fi.plain {s : List UInt8} {l : List (List UInt8)} (h : Fi s l) : ∀ t ∈ l, plB t = true := by
  rcases h with ⟨_, h, _⟩ | ⟨_, rfl⟩
  · exact h
  · intro t ht; cases ht
/-- After appending, the file holds one text more. -/
theorem Fi.more {f S : List UInt8} {l : List (List UInt8)} (h : Fi f l) (hb : apB f S l = true) : Fi (tot l ++ fr S) (l ++ [S]) ∧ (tot (l ++ [S])).length = (tot l ++ fr S).length := by
  simp only [apB, Bool.and_eq_true, decide_eq_true_eq] at hb
  rw [tot_snoc]
  refine ⟨.inl ⟨by rw [List.length_append]; exact hb.2.2, ?_⟩, rfl⟩
  rw [← tot_snoc]
  refine Fs.whole fun t ht => ?_
  rcases List.mem_append.1 ht with ht | ht
  · exact h.plain t ht
  · simp at ht; subst ht; exact hb.1
theorem tot_take (l : List (List UInt8)) (k : Nat) (hk : k < l.length) : tot (l.take (k + 1)) = tot (l.take k) ++ fr l[k] := by
  rw [List.take_succ_eq_append_getElem hk, tot_snoc]
theorem tot_mono (l : List (List UInt8)) (k : Nat) : (tot (l.take k)).length ≤ (tot l).length := by
  have h : tot l = tot (l.take k) ++ tot (l.drop k) := by rw [tot, tot, tot, ← List.flatten_append, ← List.map_append, List.take_append_drop]
  rw [h, List.length_append]; omega
theorem framed_fr {t : List UInt8} (h : plB t = true) (z : World) (hL : LibT z) : Calls Tryd.prog 16 #[.string (tx t)] z fun e w' => e = .returned (.string (tx (fr t))) ∧ Below z.heap.size z w' :=
  (implFramed_any (tx t) z hL).mono fun _ _ ⟨he, hb⟩ => ⟨by rw [he, tx_data, frm_yes h], hb⟩
set_option maxRecDepth 100000 in
set_option maxHeartbeats 16000000 in
theorem frames_small (w : World) (a : Option Addr) (len cap : Nat) (hb : IsBytes w a len) (hl : len ≤ 4096) (hL : LibT w) :
    Calls Tryd.prog 3 #[.slice a len cap] w fun e w' => e = .returned (.bool true) ∧ Below w.heap.size w w' := by
  have HB := Lib.hid hb; clear hb
  have HL := Lib.hid hL; clear hL
  go_enter Tryd.func3, Tryd.ntmps3
  go_wp2_with fail
  refine (big_no w a len cap hl).mono ?_; rintro e w0 ⟨rfl, rfl⟩
  go_wp2_with fail
  refine (drawAppended_any w a len cap HB.out hl).mono ?_; rintro e w1 ⟨f, s, rfl, hf, hs, b1⟩
  have B1 := Lib.hid b1; clear b1
  go_wp2_with fail
  refine (implApp_any f s w1 (HL.out.next B1.out)).mono ?_; rintro e w2 ⟨l1, hfi1, rfl, b2⟩
  have B2 := Lib.hid (bel_tr B1.out b2 (Nat.le_refl _)); clear b2
  have HF1 := Lib.hid hfi1; clear hfi1
  obtain ⟨x, b, hx, hxb⟩ := apV_form f s.data.toList l1
  rw [hx]
  have HX := Lib.hid hx; clear hx
  have HXB := Lib.hid hxb; clear hxb
  go_wp2_with fail
  refine (drawFramesIn_any w2 a len cap (isBytes_next HB.out B2.out) hl).mono ?_; rintro e w3 ⟨q, rfl, hq, b3⟩
  have B3 := Lib.hid (bel_tr B2.out b3 (Nat.le_refl _)); clear b3
  go_wp2_with fail
  refine (implFrames_any q w3 (HL.out.next B3.out)).mono ?_; rintro e w4 ⟨v4, l, rfl, hfi, hown4, b4⟩
  have B4 := Lib.hid (bel_tr B3.out b4 (Nat.le_refl _)); clear b4
  have HFI := Lib.hid hfi
  have hll : l.length ≤ 20000 := Nat.le_trans (tot_len l) hfi.le.2
  have hnq : (tot l).length ≤ q.size := by have := hfi.le.1; rwa [llen] at this
  have HO4 := Lib.hid hown4; clear hown4 hfi
  have htot := fun k => tot_mono l k
  have HTM := Lib.hid htot; clear htot
  generalize hn : (tot l).length = n at hnq HTM
  have HN := Lib.hid hn; clear hn
  go_wp2_with fail
  refine (drawFramed_any w4 a len cap (isBytes_next HB.out B4.out) hl).mono ?_; rintro e w5 ⟨t, rfl, ht, b5⟩
  have HO5 := Lib.hid (HO4.out.next b5)
  have B5 := Lib.hid (bel_tr B4.out b5 (Nat.le_refl _)); clear b5 HO4
  go_wp2_with fail
  refine (drawMark_any w5 a len cap (isBytes_next HB.out B5.out) hl).mono ?_; rintro e w6 ⟨m, rfl, hm, b6⟩
  have HO6 := Lib.hid (HO5.out.next b6)
  have B6 := Lib.hid (bel_tr B5.out b6 (Nat.le_refl _)); clear b6 HO5
  go_wp2_with fail
  refine (specApp_any f s w6 (by omega) (by omega)).mono ?_; rintro e w7 ⟨l2, hfi2, rfl, b7⟩
  obtain rfl := hfi2.uniq HF1.out
  rw [HX.out]
  have HO7 := Lib.hid (HO6.out.next b7)
  have B7 := Lib.hid (bel_tr B6.out b7 (Nat.le_refl _)); clear b7 HO6 hfi2
  have e1 : (b == b) = true := by simp
  have e2 : (x.toList == x.toList) = true := by simp
  go_wp2_with fail
  refine (implFramed_any t w7 (HL.out.next B7.out)).mono ?_; rintro e w8 ⟨rfl, b8⟩
  have HO8 := Lib.hid (HO7.out.next b8)
  have B8 := Lib.hid (bel_tr B7.out b8 (Nat.le_refl _)); clear b8 HO7
  go_wp2_with fail
  refine (specFramed_any t w8 (by omega)).mono ?_; rintro e w9 ⟨rfl, b9⟩
  have HO9 := Lib.hid (HO8.out.next b9)
  have B9 := Lib.hid (bel_tr B8.out b9 (Nat.le_refl _)); clear b9 HO8
  generalize tx (frm t.data.toList) = ft
  have e3 : (ft.toList == ft.toList) = true := by simp
  go_wp2_with fail
  refine (implMark_any m w9 (by omega)).mono ?_; rintro e w10 ⟨rfl, rfl⟩
  go_wp2_with fail
  refine (specMark_any m w9 (by omega)).mono ?_; rintro e w10 ⟨rfl, rfl⟩
  generalize (mkN m.data.toList : Int) = mk
  have e4 : (mk == mk) = true := by simp
  have e4' : (mk != mk) = false := by simp
  go_wp2_with fail
  refine (specFrames_any q w9 (by omega)).mono ?_; rintro e w10 ⟨v10, l3, rfl, hfi3, hown10, b10⟩
  obtain rfl := hfi3.uniq HFI.out
  rw [HN.out]
  have HR10 := Lib.hid hown10
  have HO10 := Lib.hid (HO9.out.next b10)
  have B10 := Lib.hid (bel_tr B9.out b10 (Nat.le_refl _)); clear b10 HO9 hown10 hfi3
  have e5 : ((n : Int) != (n : Int)) = false := by simp
  go_wp2_with fail
  refine (likeTexts_same w10 HO10.out HR10.out (by omega)).mono ?_; rintro e w11 ⟨rfl, b11⟩
  have HO11 := Lib.hid (HO10.out.next b11)
  have B11 := Lib.hid (bel_tr B10.out b11 (Nat.le_refl _)); clear b11 HO10 HR10
  obtain ⟨pa, ca, hv4, hcells⟩ := HO11.out.form
  subst hv4
  have HV := Lib.hid hcells; clear hcells
  generalize hn3 : l3.length = n3 at *
  clear B1 B2 B3 B4 B5 B6 B7 B8 B9 B10
  go_wp2_with fail
  go_loopw [16, 17] (fun all i wr => ∃ k : Nat, k ≤ n3 ∧ i = .int .i64 k ∧ all = .string (tx (tot (l3.take k))) ∧ Below w11.heap.size w11 wr) (fun _ i _ => n3 - intV i)
  case atStart => exact ⟨0, Nat.zero_le _, rfl, rfl, Below.refl _ _⟩
  case round =>
    obtain ⟨k, hk, rfl, rfl, hbel⟩ := hrel
    have HBL := Lib.hid hbel; clear hbel
    have BW := Lib.hid (bel_tr B11.out HBL.out (Nat.le_refl _))
    by_cases hlt : k < n3
    · obtain ⟨g, y, rfl, hg, gl, hy, gc, -⟩ := HV.out k hlt
      have c1 : wr.cell? ⟨g, k, none⟩ = some (.string (tx y)) := (World.cell?_of_block (w := w11) (HBL.out.block g gl)).trans gc
      obtain ⟨hk', hyk⟩ := List.getElem?_eq_some_iff.1 hy
      have hpy : plB y = true := HFI.out.plain y (by rw [← hyk]; exact List.getElem_mem hk')
      have HT := Lib.hid (show tot (l3.take (k + 1)) = tot (l3.take k) ++ fr y by rw [tot_take l3 k hk', hyk])
      have HC := Lib.hid (framed_fr hpy wr (HL.out.next BW.out))
      have h1 := HTM.out k
      have h2 := fr_len hpy
      have hsum : ¬ 9223372036854775807 < (tx (tot (l3.take k))).size + (tx (fr y)).size := by rw [tx_size, tx_size]; omega
      clear gc gl hg hy hyk hpy
      go_wp2_with fail
      refine HC.out.mono ?_; rintro e w12 ⟨rfl, b12⟩
      have B12 := Lib.hid (bel_tr HBL.out b12 (Nat.le_refl _)); clear b12
      go_wp2_with fail
      go_roundw
      case rel => exact ⟨k + 1, by omega, by go_num, by rw [HT.out, tx_app], B12.out⟩
      case measure => simp [intV]; omega
    · obtain rfl : k = n3 := by omega
      have hall : l3.take k = l3 := by rw [← hn3]; exact List.take_length
      rw [hall]
      clear hall
      have hz : (tx (tot l3)).size = n := by rw [tx_size]; exact HN.out
      have hpre : q.extract 0 n = tx (tot l3) := by rw [sub_ext, sub_zero, ← HN.out, HFI.out.take]
      have e6 : ((n : Int) != ((tx (tot l3)).size : Int)) = false := by rw [hz]; simp
      have e7 : decide ((q.size : Int) < (n : Int)) = false := by simp; omega
      have e8 : ((q.extract 0 n).toList == (tx (tot l3)).toList) = true := by rw [hpre]; simp
      have e9 : (n : Int) ≤ (q.size : Int) := by omega
      clear hpre
      generalize tx (tot l3) = z at hz e6 e8
      rcases HXB.out with ⟨rfl, rfl⟩ | ⟨rfl, hxe, hap⟩
      · go_wp2_with fail
        go_ret
        exact ⟨rfl, BW.out⟩
      · have HXE := Lib.hid hxe; clear hxe
        have HAP := Lib.hid hap; clear hap
        go_wp2_with fail
        refine (implFrames_any f wr (HL.out.next BW.out)).mono ?_; rintro e w13 ⟨v13, l13, rfl, hfi13, hown13, b13⟩
        obtain rfl := hfi13.uniq HF1.out
        have B13 := Lib.hid (bel_tr BW.out b13 (Nat.le_refl _)); clear b13 hfi13
        have HO13 := Lib.hid hown13; clear hown13
        generalize ((tot l13).length : Int) = n13
        go_wp2_with fail
        refine (implFrames_any x w13 (HL.out.next B13.out)).mono ?_; rintro e w14 ⟨v14, l14, rfl, hfi14, hown14, b14⟩
        have hxl : x.data.toList = tot l13 ++ fr s.data.toList := by rw [HXE.out, tx_data]
        obtain ⟨hmore, hmlen⟩ := HF1.out.more HAP.out
        rw [← hxl] at hmore hmlen
        obtain rfl := hfi14.uniq hmore
        have hk14 : (((tot (l13 ++ [s.data.toList])).length : Int) == (x.size : Int)) = true := by rw [hmlen, llen]; simp
        clear hfi14 hmore hmlen hxl
        generalize ((tot (l13 ++ [s.data.toList])).length : Int) = n14 at hk14
        have HO14 := Lib.hid hown14; clear hown14
        have HP14 := Lib.hid (HO13.out.next b14)
        have B14 := Lib.hid (bel_tr B13.out b14 (Nat.le_refl _)); clear b14 HO13
        have hl13 : l13.length ≤ 20000 := Nat.le_trans (tot_len l13) HF1.out.le.2
        have HS0 := Lib.hid (show OwT w14.heap.size (w14.alloc (.cells #[] 9)) (.slice (some ⟨w14.heap.size, 0, none⟩) 0 0) [] from (OwnS.start (Nat.le_refl _)).2)
        have HP15 := Lib.hid (HP14.out.next (bel1 w14 (.cells #[] 9)))
        have HS15 := Lib.hid (bel1 w14 (.cells #[] 9))
        go_wp2_with (first
          | (at_builtin
             refine append_want rfl (.tmp 139) (.tmp 140) rfl rfl rfl HS0.out HP15.out (by simp; omega) HS15.out.size ?_
             intro v16 w16 hown16 hgr16
             have b16 : Below w14.heap.size w14 w16 := HS15.out.grown hgr16 (by simp) (fun j hj => HS0.out.lt j hj)
             have HS16 := Lib.hid hown16
             have B16 := Lib.hid b16
             have HA17 := Lib.hid (show OwT w14.heap.size (w16.alloc (.cells #[.string s] 9)) v16 ([] ++ l13) from HS16.out.next (bel1 _ _))
             have HL17 := Lib.hid (OwT.lit w16 w14.heap.size B16.out.size s)
             have HB17 := Lib.hid (bel_tr B16.out (bel1 w16 (.cells #[.string s] 9)) (Nat.le_refl _))
             clear hown16 hgr16 b16)
          | (at_builtin
             refine append_want rfl (.tmp 141) (.tmp 143) rfl rfl rfl HA17.out HL17.out (by simp; omega) HB17.out.size ?_
             intro v18 w18 hown18 hgr18
             have b18 : Below w14.heap.size w14 w18 := HB17.out.grown hgr18 HB17.out.size (fun j hj => HA17.out.lt j hj)
             have HS18 := Lib.hid hown18
             have B18 := Lib.hid b18
             clear hown18 hgr18 b18))
        refine (likeTexts_same w18 (HO14.out.next B18.out) (show OwT w14.heap.size w18 v18 (l13 ++ [s.data.toList]) from HS18.out) (by simp; omega)).mono ?_; rintro e w19 ⟨rfl, b19⟩
        have B19 := Lib.hid (bel_tr (bel_tr B14.out B18.out (Nat.le_refl _)) b19 (Nat.le_refl _)); clear b19
        go_wp2_with fail
        go_ret
        exact ⟨rfl, B19.out⟩
end Go.Proofs.YthlcdbmcpjipdaaDoor.Fq
