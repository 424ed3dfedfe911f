/-
  The walk of laws.FnTorn over a code of at most 4096 bytes.
-/
import Derived.Test.YthlcdbmcpjipdaaDoorFy
import Derived.Test.YthlcdbmcpjipdaaDoorPs
namespace Go.Proofs.YthlcdbmcpjipdaaDoor.Fq
open Go.RowKit Wd Rp Kp Cu
set_option linter.unusedVariables false
/-- Of a file that was torn there are just the frames that were whole. -/
theorem torn : ∀ (l : List (List UInt8)) (c : Nat), (∀ t ∈ l, plB t = true) → c ≤ (tot l).length →
    ∃ j, j ≤ l.length ∧ Fs ((tot l).take c) (l.take j) ∧ ∀ i, i < l.length → (i < j ↔ (tot (l.take (i + 1))).length ≤ c)
  | [], c, _, hc => by
    refine ⟨0, Nat.le_refl _, ?_, fun i hi => by simp at hi⟩
    simpa [tot_nil] using (Fs.whole (l := []) (fun _ h => by cases h))
  | t :: l, c, hp, hc => by
    have hpt : plB t = true := hp t (by simp)
    by_cases h : (fr t).length ≤ c
    · obtain ⟨j, hj, hfs, hi⟩ := torn l (c - (fr t).length) (fun u hu => hp u (by simp [hu])) (by rw [tot_cons, List.length_append] at hc; omega)
      refine ⟨j + 1, by simp; exact hj, ?_, fun i hil => ?_⟩
      · obtain ⟨h1, r, h2, h3⟩ := hfs
        refine ⟨fun u hu => ?_, r, ?_, h3⟩
        · rw [List.take_succ_cons] at hu
          rcases List.mem_cons.1 hu with rfl | hu
          · exact hpt
          · exact h1 u hu
        · rw [List.take_succ_cons, tot_cons, tot_cons, List.take_append, List.take_of_length_le h, h2, List.append_assoc]
      · match i, hil with
        | 0, _ => simp [tot_cons, tot_nil]; exact h
        | i + 1, hil =>
          have := hi i (by simpa using hil)
          rw [List.take_succ_cons, tot_cons, List.length_append]
          omega
    · refine ⟨0, Nat.zero_le _, ⟨fun u hu => by simp at hu, (tot (t :: l)).take c, by simp [tot_nil], ?_⟩, fun i hil => ?_⟩
      · have hh : (fr t).length = (hd t).length + 1 := by rw [fr_hd, List.length_append]; rfl
        rw [tot_cons, List.take_append_of_le_length (by omega), fr_hd, List.take_append_of_le_length (by omega)]
        refine fst_noline ?_
        rw [List.all_eq_true]
        exact fun x hx => List.all_eq_true.1 (hd_nn (plB_iff.1 hpt).1) x (List.mem_of_mem_take hx)
      · rw [List.take_succ_cons, tot_cons, List.length_append]; omega
theorem torn_fi {s : List UInt8} {l m : List (List UInt8)} {c : Nat} (hs : s.length ≤ 20000) (h : Fi s l) (hc : c ≤ (tot l).length) (hm : Fi (s.take c) m) :
    ∃ j, j ≤ l.length ∧ m = l.take j ∧ (tot m).length ≤ c ∧ ∀ i, i < l.length → (i < j ↔ (tot (l.take (i + 1))).length ≤ c) := by
  rcases h with ⟨_, hp, r, hsr, _⟩ | ⟨hh, _⟩
  · obtain ⟨j, hj, hfs, hi⟩ := torn l c hp hc
    have e : s.take c = (tot l).take c := by rw [hsr, List.take_append_of_le_length hc]
    have hu : m = l.take j := hm.uniq (.inl ⟨by rw [List.length_take]; omega, by rw [e]; exact hfs⟩)
    refine ⟨j, hj, hu, ?_, hi⟩
    have := hm.le.1
    rw [List.length_take] at this; omega
  · omega
set_option maxRecDepth 100000 in
set_option maxHeartbeats 4000000 in
theorem torn_small (w : World) (a : Option Addr) (len cap : Nat) (hb : IsBytes w a len) (hl : len ≤ 4096) (hL : LibT w) :
    Calls Tryd.prog 4 #[.slice a len cap] w fun e w' => e = .returned (.bool true) ∧ Below w.heap.size w w' := by
  have HB := Lib.hid hb; clear hb
  have HL := Lib.hid hL; clear hL
  go_enter Tryd.func4, Tryd.ntmps4
  go_wp2_with fail
  refine (big_no w a len cap hl).mono ?_; rintro e w0 ⟨rfl, rfl⟩
  go_wp2_with fail
  refine (drawFramesIn_any w a len cap HB.out hl).mono ?_; rintro e w1 ⟨q, rfl, hq, b1⟩
  have B1 := Lib.hid b1; clear b1
  go_wp2_with fail
  refine (implFrames_any q w1 (HL.out.next B1.out)).mono ?_; rintro e w2 ⟨v2, l, rfl, hfi, hown2, b2⟩
  have B2 := Lib.hid (bel_tr B1.out b2 (Nat.le_refl _)); clear b2
  have HFI := Lib.hid hfi
  have hll : l.length ≤ 20000 := Nat.le_trans (tot_len l) hfi.le.2
  have hnq : (tot l).length ≤ q.size := by have := hfi.le.1; rwa [llen] at this
  have HO2 := Lib.hid hown2; clear hown2 hfi
  have HTM := Lib.hid (fun k => tot_mono l k)
  generalize hn : (tot l).length = n at hnq HTM
  have HN := Lib.hid hn; clear hn
  go_wp2_with fail
  refine (specFrames_any q w2 (by omega)).mono ?_; rintro e w3 ⟨v3, l3, rfl, hfi3, hown3, b3⟩
  obtain rfl := hfi3.uniq HFI.out
  rw [HN.out]
  have HR3 := Lib.hid hown3
  have HO3 := Lib.hid (HO2.out.next b3)
  have B3 := Lib.hid (bel_tr B2.out b3 (Nat.le_refl _)); clear b3 HO2 hown3 hfi3
  have e5 : ((n : Int) != (n : Int)) = false := by simp
  go_wp2_with fail
  refine (likeTexts_same w3 HO3.out HR3.out (by omega)).mono ?_; rintro e w4 ⟨rfl, b4⟩
  have HO4 := Lib.hid (HO3.out.next b4)
  have B4 := Lib.hid (bel_tr B3.out b4 (Nat.le_refl _)); clear b4 HO3 HR3
  go_wp2_with fail
  refine (pick_below w4 a len cap 1 ((n : Int) + 1) (isBytes_next HB.out B4.out) hl (by decide) (by decide) (by omega) (by omega)).mono ?_; rintro e w5 ⟨r, rfl, r0, r1, rfl⟩
  obtain ⟨c, rfl⟩ := Int.eq_ofNat_of_zero_le r0
  have hc : c ≤ n := by omega
  have hcq : (c : Int) ≤ (q.size : Int) := by omega
  have HE := Lib.hid (show (q.extract 0 c).data.toList = q.data.toList.take c by rw [sub_ext, tx_data, sub_zero])
  go_wp2_with fail
  refine (implFrames_any (q.extract 0 c) w4 (HL.out.next B4.out)).mono ?_; rintro e w6 ⟨v6, m, rfl, hfi6, hown6, b6⟩
  rw [HE.out] at hfi6
  obtain ⟨j, hj, rfl, htc, hij⟩ := torn_fi (by rw [llen]; omega) HFI.out (by rw [HN.out]; exact hc) hfi6
  have HIJ := Lib.hid hij; clear hij hfi6
  have HO6 := Lib.hid (HO4.out.next b6)
  have HX6 := Lib.hid hown6; clear hown6
  have B6 := Lib.hid (bel_tr B4.out b6 (Nat.le_refl _)); clear b6 HO4
  generalize (tot (l3.take j)).length = n6 at htc
  obtain ⟨pa, ca, hv, hcells⟩ := HO6.out.form
  obtain ⟨pb, cb, hvb, hcellsb⟩ := HX6.out.form
  have hjl : (l3.take j).length = j := by rw [List.length_take]; omega
  rw [hjl] at hvb hcellsb
  subst hv hvb
  have HV := Lib.hid hcells
  have HW := Lib.hid hcellsb; clear hcells hcellsb hjl
  generalize hn3 : l3.length = n3 at *
  clear B1 B2 B3 B4
  go_wp2_with fail
  go_loopw [11, 12] (fun u i wr => ∃ k : Nat, k ≤ n3 ∧ i = .int .i64 k ∧ u = .int .i64 ((tot (l3.take k)).length : Int) ∧ Below w6.heap.size w6 wr) (fun _ i _ => n3 - intV i)
  case atStart => exact ⟨0, Nat.zero_le _, rfl, rfl, Below.refl _ _⟩
  case round =>
    obtain ⟨k, hk, rfl, rfl, hbel⟩ := hrel
    have HBL := Lib.hid hbel; clear hbel
    have BW := Lib.hid (bel_tr B6.out HBL.out (Nat.le_refl _))
    by_cases hlt : k < n3
    · obtain ⟨g, y, rfl, hg, gl, hy, gc, -⟩ := HV.out k hlt
      have c1 : wr.cell? ⟨g, k, none⟩ = some (.string (tx y)) := (World.cell?_of_block (w := w6) (HBL.out.block g gl)).trans gc
      have hgw : g < wr.heap.size := Nat.lt_of_lt_of_le gl HBL.out.size
      obtain ⟨hk', hyk⟩ := List.getElem?_eq_some_iff.1 hy
      have hpy : plB y = true := HFI.out.plain y (by rw [← hyk]; exact List.getElem_mem hk')
      have HT := Lib.hid (show (tot (l3.take (k + 1))).length = (tot (l3.take k)).length + (fr y).length by rw [tot_take l3 k hk', hyk, List.length_append])
      have HC := Lib.hid (framed_fr hpy wr (HL.out.next BW.out))
      have h1 := HTM.out k
      have h2 := fr_len hpy
      have hz : (tx (fr y)).size = (fr y).length := tx_size _
      generalize tx (fr y) = z at hz HC
      have hiff := HIJ.out k hlt
      rw [HT.out, ← hz] at hiff
      rw [← hz] at HT
      have h3 : z.size ≤ 311 := by omega
      clear h2 hz
      generalize hu : (tot (l3.take k)).length = u at *
      have HU := Lib.hid hu; clear hu
      have q0 : (u : Int) + (z.size : Int) ≤ 9223372036854775807 := by omega
      have HY := Lib.hid hy
      clear gc gl hg hy hyk hpy
      by_cases hkj : k < j
      · obtain ⟨g2, y2, rfl, hg2, gl2, hy2, gc2, -⟩ := HW.out k hkj
        obtain rfl : y2 = y := by
          rw [List.getElem?_take_of_lt hkj, HY.out] at hy2
          exact (Option.some.inj hy2).symm
        have c2 : wr.cell? ⟨g2, k, none⟩ = some (.string (tx y2)) := (World.cell?_of_block (w := w6) (HBL.out.block g2 gl2)).trans gc2
        have hgw2 : g2 < wr.heap.size := Nat.lt_of_lt_of_le gl2 HBL.out.size
        clear gc2 gl2 hg2 hy2
        have q1 : decide ((k : Int) < (j : Int)) = true := by simp; omega
        have q2 : decide ((u : Int) + (z.size : Int) ≤ (c : Int)) = true := by have := hiff.1 hkj; simp; omega
        have q3 : ((tx y2).toList == (tx y2).toList) = true := by simp
        generalize tx y2 = yy at c1 c2 q3 HC
        clear hiff
        go_wp2_with fail
        refine HC.out.mono ?_; rintro e w7 ⟨rfl, b7⟩
        have d1 : w7.cell? ⟨g, k, none⟩ = some (.string yy) := (World.cell?_of_block (w := wr) (b7.block g hgw)).trans c1
        have d2 : w7.cell? ⟨g2, k, none⟩ = some (.string yy) := (World.cell?_of_block (w := wr) (b7.block g2 hgw2)).trans c2
        have B7 := Lib.hid (bel_tr HBL.out b7 (Nat.le_refl _)); clear b7 c1 c2
        go_wp2_with fail
        go_quiet (fail)
        go_wp2_with fail
        go_roundw
        case rel => exact ⟨k + 1, by omega, by go_num, by rw [HT.out]; rfl, bel_drewN B7.out _⟩
        case measure => simp [intV]; omega
      · have q1 : decide ((k : Int) < (j : Int)) = false := by simp; omega
        have q2 : decide ((u : Int) + (z.size : Int) ≤ (c : Int)) = false := by
          have : ¬ u + z.size ≤ c := fun h => hkj (hiff.2 h)
          simp; omega
        clear hiff
        go_wp2_with fail
        refine HC.out.mono ?_; rintro e w7 ⟨rfl, b7⟩
        have B7 := Lib.hid (bel_tr HBL.out b7 (Nat.le_refl _)); clear b7
        go_wp2_with fail
        go_quiet (fail)
        go_wp2_with fail
        go_roundw
        case rel => exact ⟨k + 1, by omega, by go_num, by rw [HT.out]; rfl, bel_drewN B7.out _⟩
        case measure => simp [intV]; omega
    · obtain rfl : k = n3 := by omega
      generalize ((tot (l3.take k)).length : Int) = u
      have q1 : decide ((n6 : Int) ≤ (c : Int)) = true := by simp; omega
      have q2 : decide ((j : Int) ≤ (k : Int)) = true := by simp; omega
      go_wp2_with fail
      go_ret
      exact ⟨by simp, BW.out⟩
end Go.Proofs.YthlcdbmcpjipdaaDoor.Fq
