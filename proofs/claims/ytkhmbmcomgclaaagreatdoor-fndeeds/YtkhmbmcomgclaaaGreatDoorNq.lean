/-
  The walk of FnDeeds at a code that is not too long: statements follow one another, each ends where the next one begins, all are counted and named. (Made by gen_nq.py.)
-/
import Derived.Test.YtkhmbmcomgclaaaGreatDoorZd
import Derived.Test.YtkhmbmcomgclaaaGreatDoorLy
import Derived.Test.YtkhmbmcomgclaaaGreatDoorLh
import Derived.Test.YtkhmbmcomgclaaaGreatDoorZe
import Derived.Test.YtkhmbmcomgclaaaGreatDoorRl
namespace Go.Proofs.YtkhmbmcomgclaaaGreatDoor.Cl
open Go.RowKit Wd Rp Cu Kp
set_option linter.unusedVariables false
theorem isb_next {w w' : World} {a : Option Addr} {len : Nat} (h : IsBytes w a len) (hb : Below w.heap.size w w') : IsBytes w' a len := ⟨h.1, fun hl => by
  obtain ⟨ab, ao, h1, h2, h3⟩ := h.2 hl
  refine ⟨ab, ao, h1, Nat.lt_of_lt_of_le h2 hb.size, fun k hk => ?_⟩
  obtain ⟨z, h4, h5⟩ := h3 k hk
  exact ⟨z, (World.cell?_of_block (w := w) (hb.block ab h2)).trans h4, h5⟩⟩
theorem sm9_bd {l : List Tk} (h : SmT l) : ∀ s ∈ l, s.length ≤ 4194304 := fun s hs => by have := h s hs; omega
set_option maxHeartbeats 1000000 in
set_option maxRecDepth 100000 in
theorem hasText_any (w : World) (a : Option Addr) (cap : Nat) (l : List Tk) (n : Nat) (s : Tk) (hn : l.length = n) (hv : V1 w a cap (txL l)) (hl : n ≤ 4194304) (hs : s ∈ l) :
    Calls Tryz.prog 24 #[.slice a n cap, .string (tx s)] w fun e w' => e = .returned (.bool true) ∧ Below w.heap.size w w' := by
  have HV := Lib.hid hv
  have HN := Lib.hid hn
  obtain ⟨i, hi, his⟩ := List.mem_iff_getElem.1 hs
  have HI := Lib.hid (show i < n ∧ l[i]? = some s from ⟨by omega, by rw [List.getElem?_eq_getElem hi, his]⟩)
  clear hv hn hs hi his
  go_enter Tryz.func24, Tryz.ntmps24
  go_wp2_with fail
  go_loopw [5] (fun q wr => ∃ k : Nat, k ≤ i ∧ q = .int .i64 (k : Int) ∧ Below w.heap.size w wr) (fun q _ => n - intV q)
  case atStart => exact ⟨0, Nat.zero_le _, rfl, Below.refl _ _⟩
  case round =>
    obtain ⟨k, hk, rfl, hb⟩ := hrel
    have HB := Lib.hid hb; clear hb
    obtain ⟨hin, his⟩ := HI.out
    obtain ⟨c, hc⟩ : ∃ c, l[k]? = some c := ⟨l[k]'(by have := HN.out; omega), List.getElem?_eq_getElem _⟩
    obtain ⟨g, o, rfl, hg, c0⟩ := (HV.out.below HB.out).tx hc
    have t1 : (k : Int) < (n : Int) := by omega
    have t1d : decide ((k : Int) < (n : Int)) = true := by simp; omega
    have i1 : (k : Int) + 1 ≤ 9223372036854775807 := by omega
    by_cases hcs : c = s
    · have q0 : ((tx c).toList == (tx s).toList) = true := by rw [hcs]; exact tx_beq _
      clear hcs hc hg his
      go_wp2_with fail
      go_ret
      exact ⟨rfl, HB.out⟩
    · have q0 := tx_ne hcs
      have hki : k + 1 ≤ i := by
        rcases Nat.lt_or_ge k i with h | h
        · omega
        · have : k = i := by omega
          subst this
          rw [hc] at his; cases his; exact absurd rfl hcs
      clear hcs hc hg his
      go_wp2_with fail
      go_roundw
      case rel => exact ⟨k + 1, hki, by go_num, HB.out⟩
      case measure => simp [intV]; omega
theorem dn_no {l : List Tk} (h : rcB l = false) : dnR l = -1 := by unfold dnR; rw [h]; rfl
theorem nn_no {l : List Tk} (h : rcB l = false) : nnR l = [] := by unfold nnR; rw [h]; rfl
theorem dn_yes {l : List Tk} (h : rcB l = true) : dnR l = ((dlR l (ddE l 5) (ddR l 5) (l.length + 1) 0).length : Int) := by rw [dn_is, if_pos h]; rfl
theorem nn_len9 {l : List Tk} (hm : l.length ≤ 121) : (nnR l).length ≤ 30000 := by
  rw [nn_is]
  split
  · rename_i h
    rw [← cpt_put]
    have h1 := Lib.compact_length_le ((nms (rcR l)).mergeSort fun x y => decide (x ≤ y))
    rw [List.length_mergeSort] at h1
    have h2 := nms_take_len (rcR l) 120 (fun r hr => by
      have h3 := (scr_in (rcB_scr h) r hr).2.2
      have h4 := of_decide_eq_true ((Bool.and_eq_true _ _).mp ((rcB_dl l).symm.trans h)).1
      omega)
    have h5 := rcR_len h
    have h6 : (rcR l).length * (1 + 120) ≤ 120 * (1 + 120) := Nat.mul_le_mul_right _ h5
    omega
  · exact Nat.zero_le _
set_option maxHeartbeats 32000000 in
set_option maxRecDepth 100000 in
theorem deeds_small (w : World) (a0 : Option Addr) (len0 cap0 : Nat) (hb : IsBytes w a0 len0) (hl : len0 ≤ 4096) (hL : Lib3 w) :
    Calls Tryz.prog 4 #[.slice a0 len0 cap0] w fun e w' => e = .returned (.bool true) ∧ Below w.heap.size w w' := by
  have HB := Lib.hid hb; clear hb
  have HL := Lib.hid hL; clear hL
  go_enter Tryz.func4, Tryz.ntmps4
  go_wp2_with fail
  refine (big_no _ _ _ _ hl).mono ?_; rintro e w0 ⟨rfl, rfl⟩
  go_wp2_with fail
  refine (drawDeedEnd_any _ a0 len0 cap0 HB.out hl).mono ?_; rintro e w1 ⟨vq, q, i, rfl, o1, n1, s1, i0, i1, b1⟩
  obtain ⟨qa, qc, rfl, hv1⟩ := o1.form
  have B1 := Lib.hid b1
  have HVQ := Lib.hid hv1
  have HMQ := Lib.hid (sm9_bd s1)
  have HI := Lib.hid (show I64 i from ⟨by omega, by omega⟩)
  clear o1 s1 b1 hv1
  generalize hqn : q.length = qn at *
  have HQN := Lib.hid hqn; clear hqn
  go_wp2_with fail
  refine (drawDeedsIn_any _ a0 len0 cap0 (isb_next HB.out B1.out) hl).mono ?_; rintro e w2 ⟨vl, l, rfl, o2, n2, s2, b2⟩
  obtain ⟨la, lc, rfl, hv2⟩ := o2.form
  have B2 := Lib.hid (bel_tr B1.out b2 (Nat.le_refl _))
  have HVQ2 := Lib.hid (HVQ.out.below b2)
  have HVL := Lib.hid hv2
  have HML := Lib.hid (sm9_bd s2)
  have hl121 := n2
  have HNLL := Lib.hid (nn_len9 n2)
  clear o2 s2 b2 hv2 HVQ
  generalize hln : l.length = n at *
  have HN := Lib.hid hln; clear hln
  have HMEM := Lib.hid (fun t h => (nn_mem (l := l) (t := t) h).1)
  have HASC := Lib.hid (nn_asc l)
  have HDY := Lib.hid (fun h => dn_yes (l := l) h)
  have HDN := Lib.hid (fun h => dn_no (l := l) h)
  have HNN := Lib.hid (fun h => nn_no (l := l) h)
  have HRUN := Lib.hid (show rcB l = true → Run l 0 l.length from fun h => ((rcB_run l).1 h).2)
  have C1 := Lib.hid (implDeedsIn_any w2 la lc l n HN.out HVL.out (by omega) HML.out (lib3_below HL.out B2.out))
  obtain ⟨dn, hdn⟩ : ∃ dn, dnR l = dn := ⟨_, rfl⟩
  obtain ⟨nn, hnn⟩ : ∃ nn, nnR l = nn := ⟨_, rfl⟩
  obtain ⟨rb, hrb⟩ : ∃ rb, rcB l = rb := ⟨_, rfl⟩
  have H1 := Lib.hid (And.intro hdn (And.intro hnn hrb))
  rw [hdn] at C1 HDY HDN
  rw [hnn] at HNLL HMEM HASC HNN
  rw [hrb] at HDY HDN HNN HRUN
  clear hdn hnn hrb
  go_wp2_with fail
  refine C1.out.mono ?_; rintro e w3 ⟨rfl, b3⟩
  have B3 := Lib.hid (bel_tr B2.out b3 (Nat.le_refl _))
  have X3 := Lib.hid b3; clear b3 C1
  have C2 := Lib.hid (implNamesIn_any w3 la lc l n HN.out (HVL.out.below X3.out) (by omega) HML.out (lib3_below HL.out B3.out))
  rw [H1.out.2.1] at C2
  go_wp2_with fail
  refine C2.out.mono ?_; rintro e w4 ⟨vn, rfl, o4, b4⟩
  obtain ⟨na, nc, rfl, hv4⟩ := o4.form
  have HON := Lib.hid (Nx.owt_of o4)
  have HVN := Lib.hid hv4
  have B4 := Lib.hid (bel_tr B3.out b4 (Nat.le_refl _))
  have X4 := Lib.hid (bel_tr X3.out b4 (Nat.le_refl _)); clear b4 o4 hv4 C2
  generalize hm : nn.length = m at *
  have HMN := Lib.hid hm; clear hm
  have C3 := Lib.hid (implDeedEnd_any w4 qa qc q qn i HI.out HQN.out (HVQ2.out.below X4.out) (by omega) HMQ.out (lib3_below HL.out B4.out))
  obtain ⟨de, hde⟩ : ∃ de, ddE q 5 i = de := ⟨_, rfl⟩
  rw [hde] at C3
  have q1 : (de != de) = false := by simp
  have q2 : (dn != dn) = false := by simp
  go_wp2_with fail
  refine C3.out.mono ?_; rintro e w5 ⟨rfl, b5⟩
  have B5 := Lib.hid (bel_tr B4.out b5 (Nat.le_refl _))
  have N5 := Lib.hid b5
  have X5 := Lib.hid (bel_tr X4.out b5 (Nat.le_refl _)); clear b5 C3
  have C4 := Lib.hid (specDeedEnd_any w5 qa qc q qn i HI.out HQN.out (HVQ2.out.below X5.out) (by omega) HMQ.out)
  rw [hde] at C4
  clear hde
  go_wp2_with fail
  refine C4.out.mono ?_; rintro e w6 ⟨rfl, b6⟩
  have B6 := Lib.hid (bel_tr B5.out b6 (Nat.le_refl _))
  have N6 := Lib.hid (bel_tr N5.out b6 (Nat.le_refl _))
  have X6 := Lib.hid (bel_tr X5.out b6 (Nat.le_refl _)); clear b6 C4
  have C5 := Lib.hid (specDeedsIn_any w6 la lc l n HN.out (HVL.out.below X6.out) (by omega) HML.out)
  rw [H1.out.1] at C5
  go_wp2_with fail
  refine C5.out.mono ?_; rintro e w7 ⟨rfl, b7⟩
  have B7 := Lib.hid (bel_tr B6.out b7 (Nat.le_refl _))
  have N7 := Lib.hid (bel_tr N6.out b7 (Nat.le_refl _))
  have X7 := Lib.hid (bel_tr X6.out b7 (Nat.le_refl _)); clear b7 C5
  have C6 := Lib.hid (specNames_all w7 la lc l n HN.out (HVL.out.below X7.out) (by omega) HML.out)
  rw [H1.out.2.1] at C6
  go_wp2_with fail
  refine C6.out.mono ?_; rintro e w8 ⟨v8, rfl, o8, b8⟩
  have HO8 := Lib.hid (Nx.owt_of o8)
  have B8 := Lib.hid (bel_tr B7.out b8 (Nat.le_refl _))
  have N8 := Lib.hid (bel_tr N7.out b8 (Nat.le_refl _))
  have X8 := Lib.hid (bel_tr X7.out b8 (Nat.le_refl _)); clear b8 o8 C6
  go_wp2_with fail
  refine (Nx.likeTexts_same w8 (HON.out.next N8.out) HO8.out (by have := HNLL.out; have := HMN.out; omega)).mono ?_; rintro e w9 ⟨rfl, b9⟩
  have B9 := Lib.hid (bel_tr B8.out b9 (Nat.le_refl _))
  have N9 := Lib.hid (bel_tr N8.out b9 (Nat.le_refl _))
  have X9 := Lib.hid (bel_tr X8.out b9 (Nat.le_refl _)); clear b9 HO8
  have C7 := Lib.hid (specRecipeOk_any w9 la lc l n HN.out (HVL.out.below X9.out) (by omega) HML.out)
  rw [H1.out.2.2] at C7
  go_wp2_with fail
  refine C7.out.mono ?_; rintro e w10 ⟨rfl, b10⟩
  have B10 := Lib.hid (bel_tr B9.out b10 (Nat.le_refl _))
  have N10 := Lib.hid (bel_tr N9.out b10 (Nat.le_refl _))
  have X10 := Lib.hid (bel_tr X9.out b10 (Nat.le_refl _)); clear b10 C7
  clear X3 X4 X5 X6 X7 X8 X9 N5 N6 N7 N8 N9 B3 B4 B5 B6 B7 B8 B9 HVQ2 HMQ HON
  cases rb
  · have e1 := HDN.out rfl
    have e2 : m = 0 := by rw [← HMN.out, HNN.out rfl]; rfl
    subst e1
    subst e2
    go_wp2_with fail
    go_ret
    exact ⟨rfl, B10.out⟩
  replace HDY := Lib.hid (HDY.out rfl)
  replace HRUN := Lib.hid (HRUN.out rfl)
  rw [HN.out] at HRUN
  have HVL10 := Lib.hid (HVL.out.below X10.out)
  have HVN10 := Lib.hid (HVN.out.below N10.out)
  clear HDN HNN
  go_wp2_with fail
  go_loopg [8, 9, 10] (l.length + 1) (fun j kv tv _ wr => ∃ x c : Int, kv = .int .i64 x ∧ tv = .int .i64 c ∧ 0 ≤ x ∧ x ≤ n ∧ 0 ≤ c ∧ c + (dlR l (ddE l 5) (ddR l 5) j x).length ≤ dn ∧ c ≤ x ∧ (n : Int) - x < j ∧ Run l x n ∧ Below w10.heap.size w10 wr)
  case atStart => exact ⟨0, 0, rfl, rfl, by decide, by omega, by decide, by rw [HDY.out]; omega, by decide, by have := HN.out; omega, HRUN.out, Below.refl _ _⟩
  case round =>
    obtain ⟨x, c, rfl, rfl, x0, xn, c0, hcd, hcx, hj, hrun, hbel⟩ := hrel
    have HBE := Lib.hid hbel; clear hbel
    have HR := Lib.hid hrun; clear hrun
    have HCD := Lib.hid hcd; clear hcd
    obtain ⟨k, rfl⟩ : ∃ k : Nat, x = k := ⟨x.toNat, by omega⟩
    by_cases hlt : k < n
    · have hst : ddE l 5 (k : Int) ≠ -1 ∧ Run l (ddE l 5 (k : Int)) n := by
        cases HR.out with
        | here => omega
        | step h1 h2 => exact ⟨h1, h2⟩
      have ha := ddE_ahd l 5 (k : Int)
      unfold Ahd at ha
      obtain ⟨ke, hke⟩ : ∃ ke : Nat, ddE l 5 (k : Int) = ke := ⟨(ddE l 5 (k : Int)).toNat, by omega⟩
      have hpc := rcB_piece hst.1 (by have := HN.out; have := (rcB_run l).1 H1.out.2.2; omega)
      have hpos := ddR_pos hst.1
      obtain ⟨j, rfl⟩ : ∃ j', gk = j' + 1 := ⟨gk - 1, by omega⟩
      have hdl : dlR l (ddE l 5) (ddR l 5) (j + 1) (k : Int) = ddR l 5 (k : Int) ++ dlR l (ddE l 5) (ddR l 5) j (ddE l 5 (k : Int)) := by
        obtain ⟨s, hs⟩ := tkA_in (l := l) (i := (k : Int)) (by omega) (by have := HN.out; omega)
        rw [dlR, hs]
        exact if_neg (fun e => hst.1 (dd_br (by rw [hs, e])))
      have HCD2 := HCD.out
      rw [hdl, List.length_append] at HCD2
      rw [hke] at hpc hdl HCD2 hst ha
      rw [show ((k : Int)).toNat = k by omega, show ((ke : Int) - (k : Int)).toNat = ke - k by omega] at hpc
      have hkk : k < ke := by omega
      have hkn : ke ≤ n := by have := HN.out; omega
      have HR2 := Lib.hid hst.2
      have HE := Lib.hid (implDeedEnd_any wr la lc l n (k : Int) ⟨by omega, by omega⟩ HN.out (HVL10.out.below HBE.out) (by omega) HML.out (lib3_below HL.out (B10.out.trans (HBE.out.mono B10.out.size))))
      rw [hke] at HE
      obtain ⟨pb, pcb, hrunS, hpv⟩ := cut1 24 (by kernel_rfl) (fun w => by exact Tryz.sizeOf9 w) la n lc k ke (by omega) hkn (by have := HVL10.out.1; rw [txL_len, HN.out] at this; omega)
      have hr : ∀ w, (Instr.slice 24 (.slice la n lc) (some (.int .i64 (k : Int))) (some (.int .i64 (ke : Int))) none).run Tryz.prog w = .ok (.slice pb (ke - k) pcb) w := hrunS
      have HPV := Lib.hid (fun w1 (hb : Below w10.heap.size w10 w1) => (show V1 w1 pb pcb (txL ((l.drop k).take (ke - k))) from by
        have := hpv w1 (txL l) (HVL10.out.below hb) (by rw [txL_len]; exact HN.out)
        unfold txL at this ⊢
        rw [← List.map_drop, ← List.map_take] at this; exact this))
      have HPC := Lib.hid hpc
      have HPL := Lib.hid (show ((l.drop k).take (ke - k)).length = ke - k from by rw [List.length_take, List.length_drop, HN.out]; omega)
      have HPM := Lib.hid (show ∀ s ∈ (l.drop k).take (ke - k), s.length ≤ 4194304 from fun s hs => HML.out s (mem_piece hs))
      have t1 : (k : Int) < (n : Int) := by omega
      have t1d : decide ((k : Int) < (n : Int)) = true := by simpa using hlt
      have t2 : decide ((ke : Int) ≤ (k : Int)) = false := by simp; omega
      have t2n : ¬ (ke : Int) ≤ (k : Int) := by omega
      have i3 : IntKind.i64.wrap (c + 1) = c + 1 := by rw [IntKind.wrap_i64]; omega
      have hp1 : ¬ (ke : Int) < (k : Int) := by omega
      clear hrunS hpv hpc hst ha hdl hke
      go_wp2_with fail
      refine HE.out.mono ?_; rintro e wa ⟨rfl, ba⟩
      have HBA := Lib.hid (bel_tr HBE.out ba (Nat.le_refl _))
      have HK := Lib.hid (implRecipeOk_any wa pb pcb _ (ke - k) HPL.out (HPV.out wa HBA.out) (by omega) HPM.out (lib3_below HL.out (B10.out.trans (HBA.out.mono B10.out.size))))
      rw [HPC.out] at HK
      clear ba HE
      go_wp2_with fail
      refine HK.out.mono ?_; rintro e wb ⟨rfl, bb⟩
      have HBB := Lib.hid (bel_tr HBA.out bb (Nat.le_refl _))
      clear bb HK
      go_wp2_with fail
      go_roundg j
      case measure => omega
      case rel => exact ⟨(ke : Int), c + 1, rfl, by first | rfl | rw [i3], by omega, by omega, by omega, by omega, by omega, by omega, HR2.out, HBB.out⟩
    · obtain rfl : k = n := by omega
      have t1 : ¬ (k : Int) < (k : Int) := by omega
      have hcn : c ≤ dn := by have := HCD.out; omega
      have tfin : decide (c ≤ dn) = true := by simpa using hcn
      have HBW := Lib.hid (B10.out.trans (HBE.out.mono B10.out.size))
      have HVLE := Lib.hid (HVL10.out.below HBE.out)
      have HVNE := Lib.hid (HVN10.out.below HBE.out)
      clear HCD HR hlt xn x0 hcx hj
      go_wp2_with fail
      generalize hwe : wr = we at *
      clear hwe
      go_loopw [11] (fun iv wr => ∃ j : Nat, j ≤ m ∧ iv = .int .i64 (j : Int) ∧ Below we.heap.size we wr) (fun iv _ => m - intV iv)
      case atStart => exact ⟨0, Nat.zero_le _, rfl, Below.refl _ _⟩
      case round =>
        obtain ⟨j, hj, rfl, hbe⟩ := hrel
        have HBE2 := Lib.hid hbe; clear hbe
        by_cases hjm : j < m
        · obtain ⟨s, hs⟩ : ∃ s, nn[j]? = some s := ⟨nn[j]'(by have := HMN.out; omega), List.getElem?_eq_getElem _⟩
          obtain ⟨g, o, rfl, hg, d0⟩ := (HVNE.out.below HBE2.out).tx hs
          have hin := HMEM.out s (List.mem_of_getElem? hs)
          have HHT := Lib.hid (fun z (hz : Below wr.heap.size wr z) => hasText_any z la lc l k s HN.out ((HVLE.out.below HBE2.out).below hz) (by omega) hin)
          have t3 : (j : Int) < (m : Int) := by omega
          have t3d : decide ((j : Int) < (m : Int)) = true := by simpa using hjm
          have i4 : (j : Int) + 1 ≤ 9223372036854775807 := by have := HNLL.out; omega
          by_cases hj0 : j = 0
          · subst hj0
            rw [Nat.add_zero] at d0
            have t5 : decide ((0 : Int) < ((0 : Nat) : Int)) = false := by simp
            have HS := Lib.hid (show wr.drew.cell? ⟨g, o, none⟩ = some (.string (tx s)) ∧ Below wr.heap.size wr wr.drew from ⟨d0, (Below.refl _ _).drew⟩)
            have t3' : (0 : Int) < (m : Int) := by omega
            clear hs hin d0 hjm t3 t3d
            go_wp2_with fail
            refine wp_region_held_drew (S := fun z => z.cell? ⟨g, o, none⟩ = some (.string (tx s)) ∧ Below wr.heap.size wr z) (by kernel_rfl) HS.out (fun hHeld => ?_)
            refine wpAnyH_take (i := 0) (v := ?v0a) rfl (by kernel_rfl) (by kernel_rfl) (by kernel_rfl) (fun _ _ _ h => h) (Or.inl ⟨by rfl, ?hy0a⟩) (by assumption) ?rest0a
            case hy0a => (intro zz hSw; (try dsimp only at hSw); go_simp; (try with_reducible rfl))
            change wpAnyH _ _ _ _ _ _ _ (Act.put _ (some 82) _) _
            simp only [Act.put, List.setIfInBounds_toArray, List.set_cons_zero, List.set_cons_succ]
            refine wpAnyH_take (i := 1) (v := ?v1a) rfl (by kernel_rfl) (by kernel_rfl) (by kernel_rfl) (fun _ _ _ h => h) (Or.inl ⟨by rfl, ?hy1a⟩) (by assumption) ?rest1a
            case hy1a => (intro zz hSw; (try dsimp only at hSw); go_simp; (try with_reducible rfl))
            change wpAnyH _ _ _ _ _ _ _ (Act.put _ (some 83) _) _
            simp only [Act.put, List.setIfInBounds_toArray, List.set_cons_zero, List.set_cons_succ]
            refine wpAnyH_take (i := 2) (v := ?v2a) rfl (by kernel_rfl) (by kernel_rfl) (by kernel_rfl) (fun _ _ _ h => h) (Or.inl ⟨by rfl, ?hy2a⟩) (by assumption) ?rest2a
            case hy2a => (intro zz hSw; (try dsimp only at hSw); go_simp; (try with_reducible rfl))
            change wpAnyH _ _ _ _ _ _ _ (Act.put _ (some 84) _) _
            simp only [Act.put, List.setIfInBounds_toArray, List.set_cons_zero, List.set_cons_succ]
            refine wpAnyH_take (i := 3) (v := ?v3a) rfl (by kernel_rfl) (by kernel_rfl) (by kernel_rfl) (fun _ _ _ h => h) (Or.inl ⟨by rfl, ?hy3a⟩) (by assumption) ?rest3a
            case hy3a => (intro zz hSw; (try dsimp only at hSw); go_simp; (try with_reducible rfl))
            change wpAnyH _ _ _ _ _ _ _ (Act.put _ (some 85) _) _
            simp only [Act.put, List.setIfInBounds_toArray, List.set_cons_zero, List.set_cons_succ]
            refine wpAnyH_take (i := 4) (v := ?v4a) rfl (by kernel_rfl) (by kernel_rfl) (by kernel_rfl) (fun _ _ _ h => h) (Or.inl ⟨by rfl, ?hy4a⟩) (by assumption) ?rest4a
            case hy4a => (intro zz hSw; (try dsimp only at hSw); go_simp; (try with_reducible rfl))
            change wpAnyH _ _ _ _ _ _ _ (Act.put _ (some 86) _) _
            simp only [Act.put, List.setIfInBounds_toArray, List.set_cons_zero, List.set_cons_succ]
            refine wpAnyH_ready (rs := [5]) (by kernel_rfl) (by simp) (AllReadyH.cons rfl (fun K hK => ?_) AllReadyH.nil)
            go_simp
            refine (HHT.out _ hHeld.2).mono ?_; rintro e wc ⟨rfl, bel⟩
            refine hK.out _ _ (⟨cob bel hHeld.2 hg hHeld.1, bel_tr hHeld.2 bel (Nat.le_refl _)⟩) (fun hHeld => ?_)
            clear hK K bel
            refine wpAnyH_take (i := 6) (v := ?v6a) rfl (by kernel_rfl) (by kernel_rfl) (by kernel_rfl) (fun _ _ _ h => h) (Or.inl ⟨by rfl, ?hy6a⟩) (by assumption) ?rest6a
            case hy6a => (intro zz hSw; (try dsimp only at hSw); go_simp; (try with_reducible rfl))
            change wpAnyH _ _ _ _ _ _ _ (Act.put _ (some 88) _) _
            simp only [Act.put, List.setIfInBounds_toArray, List.set_cons_zero, List.set_cons_succ]
            refine wpAnyH_take (i := 7) (v := ?v7a) rfl (by kernel_rfl) (by kernel_rfl) (by kernel_rfl) (fun _ _ _ h => h) (Or.inl ⟨by rfl, ?hy7a⟩) (by assumption) ?rest7a
            case hy7a => (intro zz hSw; (try dsimp only at hSw); go_simp; (try with_reducible rfl))
            change wpAnyH _ _ _ _ _ _ _ (Act.put _ (some 89) _) _
            simp only [Act.put, List.setIfInBounds_toArray, List.set_cons_zero, List.set_cons_succ]
            refine wpAnyH_take (i := 8) (v := ?v8a) rfl (by kernel_rfl) (by kernel_rfl) (by kernel_rfl) (fun _ _ _ h => h) (Or.inl ⟨by rfl, ?hy8a⟩) (by assumption) ?rest8a
            case hy8a => (intro zz hSw; (try dsimp only at hSw); go_simp; (try with_reducible rfl))
            change wpAnyH _ _ _ _ _ _ _ (Act.put _ (some 90) _) _
            simp only [Act.put, List.setIfInBounds_toArray, List.set_cons_zero, List.set_cons_succ]
            refine wpAnyH_take (i := 9) (v := ?v9a) rfl (by kernel_rfl) (by kernel_rfl) (by kernel_rfl) (fun _ _ _ h => h) (Or.inl ⟨by rfl, ?hy9a⟩) (by assumption) ?rest9a
            case hy9a => (intro zz hSw; (try dsimp only at hSw); go_simp; (try with_reducible rfl))
            change wpAnyH _ _ _ _ _ _ _ (Act.put _ (some 91) _) _
            simp only [Act.put, List.setIfInBounds_toArray, List.set_cons_zero, List.set_cons_succ]
            refine wpAnyH_take (i := 10) (v := ?v10a) rfl (by kernel_rfl) (by kernel_rfl) (by kernel_rfl) (fun _ _ _ h => h) (Or.inl ⟨by rfl, ?hy10a⟩) (by assumption) ?rest10a
            case hy10a => (intro zz hSw; (try dsimp only at hSw); go_simp; (try with_reducible rfl))
            change wpAnyH _ _ _ _ _ _ _ (Act.put _ (some 92) _) _
            simp only [Act.put, List.setIfInBounds_toArray, List.set_cons_zero, List.set_cons_succ]
            refine wpAnyH_take (i := 11) (v := undef) rfl (by kernel_rfl) (by kernel_rfl) (by kernel_rfl) (fun _ _ _ h => h) (Or.inr ⟨by rfl, rfl⟩) (by assumption) ?_
            change wpAnyH _ _ _ _ _ _ _ (Act.put _ (some 93) _) _
            simp only [Act.put, List.setIfInBounds_toArray, List.set_cons_zero, List.set_cons_succ]
            refine wpAnyH_take (i := 12) (v := undef) rfl (by kernel_rfl) (by kernel_rfl) (by kernel_rfl) (fun _ _ _ h => h) (Or.inr ⟨by rfl, rfl⟩) (by assumption) ?_
            change wpAnyH _ _ _ _ _ _ _ (Act.put _ (some 94) _) _
            simp only [Act.put, List.setIfInBounds_toArray, List.set_cons_zero, List.set_cons_succ]
            refine wpAnyH_take (i := 13) (v := undef) rfl (by kernel_rfl) (by kernel_rfl) (by kernel_rfl) (fun _ _ _ h => h) (Or.inr ⟨by rfl, rfl⟩) (by assumption) ?_
            change wpAnyH _ _ _ _ _ _ _ (Act.put _ (some 95) _) _
            simp only [Act.put, List.setIfInBounds_toArray, List.set_cons_zero, List.set_cons_succ]
            refine wpAnyH_take (i := 14) (v := undef) rfl (by kernel_rfl) (by kernel_rfl) (by kernel_rfl) (fun _ _ _ h => h) (Or.inr ⟨by rfl, rfl⟩) (by assumption) ?_
            change wpAnyH _ _ _ _ _ _ _ (Act.put _ (some 96) _) _
            simp only [Act.put, List.setIfInBounds_toArray, List.set_cons_zero, List.set_cons_succ]
            refine wpAnyH_take (i := 15) (v := undef) rfl (by kernel_rfl) (by kernel_rfl) (by kernel_rfl) (fun _ _ _ h => h) (Or.inr ⟨by rfl, rfl⟩) (by assumption) ?_
            change wpAnyH _ _ _ _ _ _ _ (Act.put _ (some 97) _) _
            simp only [Act.put, List.setIfInBounds_toArray, List.set_cons_zero, List.set_cons_succ]
            refine wpAnyH_take (i := 16) (v := undef) rfl (by kernel_rfl) (by kernel_rfl) (by kernel_rfl) (fun _ _ _ h => h) (Or.inr ⟨by rfl, rfl⟩) (by assumption) ?_
            change wpAnyH _ _ _ _ _ _ _ (Act.put _ (some 98) _) _
            simp only [Act.put, List.setIfInBounds_toArray, List.set_cons_zero, List.set_cons_succ]
            refine wpAnyH_take (i := 17) (v := undef) rfl (by kernel_rfl) (by kernel_rfl) (by kernel_rfl) (fun _ _ _ h => h) (Or.inr ⟨by rfl, rfl⟩) (by assumption) ?_
            change wpAnyH _ _ _ _ _ _ _ (Act.put _ (some 99) _) _
            simp only [Act.put, List.setIfInBounds_toArray, List.set_cons_zero, List.set_cons_succ]
            refine wpAnyH_take (i := 18) (v := undef) rfl (by kernel_rfl) (by kernel_rfl) (by kernel_rfl) (fun _ _ _ h => h) (Or.inr ⟨by rfl, rfl⟩) (by assumption) ?_
            change wpAnyH _ _ _ _ _ _ _ (Act.put _ (some 100) _) _
            simp only [Act.put, List.setIfInBounds_toArray, List.set_cons_zero, List.set_cons_succ]
            refine wpAnyH_take (i := 19) (v := undef) rfl (by kernel_rfl) (by kernel_rfl) (by kernel_rfl) (fun _ _ _ h => h) (Or.inr ⟨by rfl, rfl⟩) (by assumption) ?_
            change wpAnyH _ _ _ _ _ _ _ (Act.put _ (some 101) _) _
            simp only [Act.put, List.setIfInBounds_toArray, List.set_cons_zero, List.set_cons_succ]
            refine wpAnyH_take (i := 20) (v := undef) rfl (by kernel_rfl) (by kernel_rfl) (by kernel_rfl) (fun _ _ _ h => h) (Or.inr ⟨by rfl, rfl⟩) (by assumption) ?_
            change wpAnyH _ _ _ _ _ _ _ (Act.put _ (some 102) _) _
            simp only [Act.put, List.setIfInBounds_toArray, List.set_cons_zero, List.set_cons_succ]
            refine wpAnyH_take (i := 21) (v := ?v21a) rfl (by kernel_rfl) (by kernel_rfl) (by kernel_rfl) (fun _ _ _ h => h) (Or.inl ⟨by rfl, ?hy21a⟩) (by assumption) ?rest21a
            case hy21a => (intro zz hSw; (try dsimp only at hSw); go_simp; (try with_reducible rfl))
            change wpAnyH _ _ _ _ _ _ _ (Act.put _ (some 103) _) _
            simp only [Act.put, List.setIfInBounds_toArray, List.set_cons_zero, List.set_cons_succ]
            refine wpAnyH_take (i := 22) (v := ?v22a) rfl (by kernel_rfl) (by kernel_rfl) (by kernel_rfl) (fun _ _ _ h => h) (Or.inl ⟨by rfl, ?hy22a⟩) (by assumption) ?rest22a
            case hy22a => (intro zz hSw; (try dsimp only at hSw); go_simp; (try with_reducible rfl))
            change wpAnyH _ _ _ _ _ _ _ (Act.put _ (some 104) _) _
            simp only [Act.put, List.setIfInBounds_toArray, List.set_cons_zero, List.set_cons_succ]
            refine wpAnyH_done (by kernel_rfl) ?_ _
            have HG := Lib.hid (bel_tr HBE2.out hHeld.2 (Nat.le_refl _)); clear hHeld HS
            go_wp2_with fail
            go_roundw
            case rel => exact ⟨1, by omega, by go_num, HG.out⟩
            case measure => simp [intV]; omega
          · obtain ⟨p, hp⟩ : ∃ p, j = p + 1 := ⟨j - 1, by omega⟩
            have HP := Lib.hid hp
            obtain ⟨s', hs'⟩ : ∃ s', nn[p]? = some s' := ⟨nn[p]'(by have := HMN.out; omega), List.getElem?_eq_getElem _⟩
            obtain ⟨g', o', e', -, d1⟩ := (HVNE.out.below HBE2.out).tx hs'
            cases e'
            have hlt2 : s' < s := by
              obtain ⟨x1, hx1⟩ := List.getElem?_eq_some_iff.1 hs'
              obtain ⟨x2, hx2⟩ := List.getElem?_eq_some_iff.1 hs
              have := List.pairwise_iff_getElem.1 HASC.out p j x1 x2 (by omega)
              rwa [hx1, hx2] at this
            have q5 : Op.bytesLess (tx s).toList (tx s').toList = false := by
              rw [Lib.toList_data, tx_data, Lib.toList_data, tx_data, bytesLess_eq]
              simp only [decide_eq_false_iff_not]
              exact tk_as hlt2
            have q6 : ((tx s).toList == (tx s').toList) = false := tx_ne (fun e => tk_irr s (by rw [e] at hlt2; exact absurd hlt2 (tk_irr _)))
            have t5 : decide ((0 : Int) < (j : Int)) = true := by simp; omega
            have t5n : decide (0 < j) = true := by simp; omega
            have t5m : (0 : Int) < (j : Int) := by omega
            have i5 : IntKind.i64.wrap ((j : Int) - 1) = (p : Int) := by rw [IntKind.wrap_i64]; omega
            have HS := Lib.hid (show wr.drew.cell? ⟨g, o + j, none⟩ = some (.string (tx s)) ∧ wr.drew.cell? ⟨g, o + p, none⟩ = some (.string (tx s')) ∧ Below wr.heap.size wr wr.drew from ⟨d0, d1, (Below.refl _ _).drew⟩)
            have hpm : p < m := by omega
            have hpm2 : (p : Int) < (m : Int) := by omega
            clear hs hin d0 d1 hs' hlt2 hj0 hp hj hjm
            go_wp2_with fail
            refine wp_region_held_drew (S := fun z => z.cell? ⟨g, o + j, none⟩ = some (.string (tx s)) ∧ z.cell? ⟨g, o + p, none⟩ = some (.string (tx s')) ∧ Below wr.heap.size wr z) (by kernel_rfl) HS.out (fun hHeld => ?_)
            refine wpAnyH_take (i := 0) (v := ?v0b) rfl (by kernel_rfl) (by kernel_rfl) (by kernel_rfl) (fun _ _ _ h => h) (Or.inl ⟨by rfl, ?hy0b⟩) (by assumption) ?rest0b
            case hy0b => (intro zz hSw; (try dsimp only at hSw); go_simp; (try with_reducible rfl))
            change wpAnyH _ _ _ _ _ _ _ (Act.put _ (some 82) _) _
            simp only [Act.put, List.setIfInBounds_toArray, List.set_cons_zero, List.set_cons_succ]
            refine wpAnyH_take (i := 1) (v := ?v1b) rfl (by kernel_rfl) (by kernel_rfl) (by kernel_rfl) (fun _ _ _ h => h) (Or.inl ⟨by rfl, ?hy1b⟩) (by assumption) ?rest1b
            case hy1b => (intro zz hSw; (try dsimp only at hSw); go_simp; (try with_reducible rfl))
            change wpAnyH _ _ _ _ _ _ _ (Act.put _ (some 83) _) _
            simp only [Act.put, List.setIfInBounds_toArray, List.set_cons_zero, List.set_cons_succ]
            refine wpAnyH_take (i := 2) (v := ?v2b) rfl (by kernel_rfl) (by kernel_rfl) (by kernel_rfl) (fun _ _ _ h => h) (Or.inl ⟨by rfl, ?hy2b⟩) (by assumption) ?rest2b
            case hy2b => (intro zz hSw; (try dsimp only at hSw); go_simp; (try with_reducible rfl))
            change wpAnyH _ _ _ _ _ _ _ (Act.put _ (some 84) _) _
            simp only [Act.put, List.setIfInBounds_toArray, List.set_cons_zero, List.set_cons_succ]
            refine wpAnyH_take (i := 3) (v := ?v3b) rfl (by kernel_rfl) (by kernel_rfl) (by kernel_rfl) (fun _ _ _ h => h) (Or.inl ⟨by rfl, ?hy3b⟩) (by assumption) ?rest3b
            case hy3b => (intro zz hSw; (try dsimp only at hSw); go_simp; (try with_reducible rfl))
            change wpAnyH _ _ _ _ _ _ _ (Act.put _ (some 85) _) _
            simp only [Act.put, List.setIfInBounds_toArray, List.set_cons_zero, List.set_cons_succ]
            refine wpAnyH_take (i := 4) (v := ?v4b) rfl (by kernel_rfl) (by kernel_rfl) (by kernel_rfl) (fun _ _ _ h => h) (Or.inl ⟨by rfl, ?hy4b⟩) (by assumption) ?rest4b
            case hy4b => (intro zz hSw; (try dsimp only at hSw); go_simp; (try with_reducible rfl))
            change wpAnyH _ _ _ _ _ _ _ (Act.put _ (some 86) _) _
            simp only [Act.put, List.setIfInBounds_toArray, List.set_cons_zero, List.set_cons_succ]
            refine wpAnyH_ready (rs := [5]) (by kernel_rfl) (by simp) (AllReadyH.cons rfl (fun K hK => ?_) AllReadyH.nil)
            go_simp
            refine (HHT.out _ hHeld.2.2).mono ?_; rintro e wc ⟨rfl, bel⟩
            refine hK.out _ _ (⟨cob bel hHeld.2.2 hg hHeld.1, cob bel hHeld.2.2 hg hHeld.2.1, bel_tr hHeld.2.2 bel (Nat.le_refl _)⟩) (fun hHeld => ?_)
            clear hK K bel
            refine wpAnyH_take (i := 6) (v := ?v6b) rfl (by kernel_rfl) (by kernel_rfl) (by kernel_rfl) (fun _ _ _ h => h) (Or.inl ⟨by rfl, ?hy6b⟩) (by assumption) ?rest6b
            case hy6b => (intro zz hSw; (try dsimp only at hSw); go_simp; (try with_reducible rfl))
            change wpAnyH _ _ _ _ _ _ _ (Act.put _ (some 88) _) _
            simp only [Act.put, List.setIfInBounds_toArray, List.set_cons_zero, List.set_cons_succ]
            refine wpAnyH_take (i := 7) (v := ?v7b) rfl (by kernel_rfl) (by kernel_rfl) (by kernel_rfl) (fun _ _ _ h => h) (Or.inl ⟨by rfl, ?hy7b⟩) (by assumption) ?rest7b
            case hy7b => (intro zz hSw; (try dsimp only at hSw); go_simp; (try with_reducible rfl))
            change wpAnyH _ _ _ _ _ _ _ (Act.put _ (some 89) _) _
            simp only [Act.put, List.setIfInBounds_toArray, List.set_cons_zero, List.set_cons_succ]
            refine wpAnyH_take (i := 8) (v := ?v8b) rfl (by kernel_rfl) (by kernel_rfl) (by kernel_rfl) (fun _ _ _ h => h) (Or.inl ⟨by rfl, ?hy8b⟩) (by assumption) ?rest8b
            case hy8b => (intro zz hSw; (try dsimp only at hSw); go_simp; (try with_reducible rfl))
            change wpAnyH _ _ _ _ _ _ _ (Act.put _ (some 90) _) _
            simp only [Act.put, List.setIfInBounds_toArray, List.set_cons_zero, List.set_cons_succ]
            refine wpAnyH_take (i := 9) (v := ?v9b) rfl (by kernel_rfl) (by kernel_rfl) (by kernel_rfl) (fun _ _ _ h => h) (Or.inl ⟨by rfl, ?hy9b⟩) (by assumption) ?rest9b
            case hy9b => (intro zz hSw; (try dsimp only at hSw); go_simp; (try with_reducible rfl))
            change wpAnyH _ _ _ _ _ _ _ (Act.put _ (some 91) _) _
            simp only [Act.put, List.setIfInBounds_toArray, List.set_cons_zero, List.set_cons_succ]
            refine wpAnyH_take (i := 10) (v := ?v10b) rfl (by kernel_rfl) (by kernel_rfl) (by kernel_rfl) (fun _ _ _ h => h) (Or.inl ⟨by rfl, ?hy10b⟩) (by assumption) ?rest10b
            case hy10b => (intro zz hSw; (try dsimp only at hSw); go_simp; (try with_reducible rfl))
            change wpAnyH _ _ _ _ _ _ _ (Act.put _ (some 92) _) _
            simp only [Act.put, List.setIfInBounds_toArray, List.set_cons_zero, List.set_cons_succ]
            refine wpAnyH_take (i := 11) (v := ?v11b) rfl (by kernel_rfl) (by kernel_rfl) (by kernel_rfl) (fun _ _ _ h => h) (Or.inl ⟨by rfl, ?hy11b⟩) (by assumption) ?rest11b
            case hy11b => (intro zz hSw; (try dsimp only at hSw); go_simp; (try with_reducible rfl))
            change wpAnyH _ _ _ _ _ _ _ (Act.put _ (some 93) _) _
            simp only [Act.put, List.setIfInBounds_toArray, List.set_cons_zero, List.set_cons_succ]
            refine wpAnyH_take (i := 12) (v := ?v12b) rfl (by kernel_rfl) (by kernel_rfl) (by kernel_rfl) (fun _ _ _ h => h) (Or.inl ⟨by rfl, ?hy12b⟩) (by assumption) ?rest12b
            case hy12b => (intro zz hSw; (try dsimp only at hSw); go_simp; (try with_reducible rfl))
            change wpAnyH _ _ _ _ _ _ _ (Act.put _ (some 94) _) _
            simp only [Act.put, List.setIfInBounds_toArray, List.set_cons_zero, List.set_cons_succ]
            refine wpAnyH_take (i := 13) (v := ?v13b) rfl (by kernel_rfl) (by kernel_rfl) (by kernel_rfl) (fun _ _ _ h => h) (Or.inl ⟨by rfl, ?hy13b⟩) (by assumption) ?rest13b
            case hy13b => (intro zz hSw; (try dsimp only at hSw); go_simp; (try with_reducible rfl))
            change wpAnyH _ _ _ _ _ _ _ (Act.put _ (some 95) _) _
            simp only [Act.put, List.setIfInBounds_toArray, List.set_cons_zero, List.set_cons_succ]
            refine wpAnyH_take (i := 14) (v := ?v14b) rfl (by kernel_rfl) (by kernel_rfl) (by kernel_rfl) (fun _ _ _ h => h) (Or.inl ⟨by rfl, ?hy14b⟩) (by assumption) ?rest14b
            case hy14b => (intro zz hSw; (try dsimp only at hSw); go_simp; (try with_reducible rfl))
            change wpAnyH _ _ _ _ _ _ _ (Act.put _ (some 96) _) _
            simp only [Act.put, List.setIfInBounds_toArray, List.set_cons_zero, List.set_cons_succ]
            refine wpAnyH_take (i := 15) (v := ?v15b) rfl (by kernel_rfl) (by kernel_rfl) (by kernel_rfl) (fun _ _ _ h => h) (Or.inl ⟨by rfl, ?hy15b⟩) (by assumption) ?rest15b
            case hy15b => (intro zz hSw; (try dsimp only at hSw); go_simp; (try with_reducible rfl))
            change wpAnyH _ _ _ _ _ _ _ (Act.put _ (some 97) _) _
            simp only [Act.put, List.setIfInBounds_toArray, List.set_cons_zero, List.set_cons_succ]
            refine wpAnyH_take (i := 16) (v := ?v16b) rfl (by kernel_rfl) (by kernel_rfl) (by kernel_rfl) (fun _ _ _ h => h) (Or.inl ⟨by rfl, ?hy16b⟩) (by assumption) ?rest16b
            case hy16b => (intro zz hSw; (try dsimp only at hSw); go_simp; (try with_reducible rfl))
            change wpAnyH _ _ _ _ _ _ _ (Act.put _ (some 98) _) _
            simp only [Act.put, List.setIfInBounds_toArray, List.set_cons_zero, List.set_cons_succ]
            refine wpAnyH_take (i := 17) (v := ?v17b) rfl (by kernel_rfl) (by kernel_rfl) (by kernel_rfl) (fun _ _ _ h => h) (Or.inl ⟨by rfl, ?hy17b⟩) (by assumption) ?rest17b
            case hy17b => (intro zz hSw; (try dsimp only at hSw); go_simp; (try with_reducible rfl))
            change wpAnyH _ _ _ _ _ _ _ (Act.put _ (some 99) _) _
            simp only [Act.put, List.setIfInBounds_toArray, List.set_cons_zero, List.set_cons_succ]
            refine wpAnyH_take (i := 18) (v := ?v18b) rfl (by kernel_rfl) (by kernel_rfl) (by kernel_rfl) (fun _ _ _ h => h) (Or.inl ⟨by rfl, ?hy18b⟩) (by assumption) ?rest18b
            case hy18b => (intro zz hSw; (try dsimp only at hSw); go_simp; (try with_reducible rfl))
            change wpAnyH _ _ _ _ _ _ _ (Act.put _ (some 100) _) _
            simp only [Act.put, List.setIfInBounds_toArray, List.set_cons_zero, List.set_cons_succ]
            refine wpAnyH_take (i := 19) (v := ?v19b) rfl (by kernel_rfl) (by kernel_rfl) (by kernel_rfl) (fun _ _ _ h => h) (Or.inl ⟨by rfl, ?hy19b⟩) (by assumption) ?rest19b
            case hy19b => (intro zz hSw; (try dsimp only at hSw); go_simp; (try with_reducible rfl))
            change wpAnyH _ _ _ _ _ _ _ (Act.put _ (some 101) _) _
            simp only [Act.put, List.setIfInBounds_toArray, List.set_cons_zero, List.set_cons_succ]
            refine wpAnyH_take (i := 20) (v := ?v20b) rfl (by kernel_rfl) (by kernel_rfl) (by kernel_rfl) (fun _ _ _ h => h) (Or.inl ⟨by rfl, ?hy20b⟩) (by assumption) ?rest20b
            case hy20b => (intro zz hSw; (try dsimp only at hSw); go_simp; (try with_reducible rfl))
            change wpAnyH _ _ _ _ _ _ _ (Act.put _ (some 102) _) _
            simp only [Act.put, List.setIfInBounds_toArray, List.set_cons_zero, List.set_cons_succ]
            refine wpAnyH_take (i := 21) (v := ?v21b) rfl (by kernel_rfl) (by kernel_rfl) (by kernel_rfl) (fun _ _ _ h => h) (Or.inl ⟨by rfl, ?hy21b⟩) (by assumption) ?rest21b
            case hy21b => (intro zz hSw; (try dsimp only at hSw); go_simp; (try with_reducible rfl))
            change wpAnyH _ _ _ _ _ _ _ (Act.put _ (some 103) _) _
            simp only [Act.put, List.setIfInBounds_toArray, List.set_cons_zero, List.set_cons_succ]
            refine wpAnyH_take (i := 22) (v := ?v22b) rfl (by kernel_rfl) (by kernel_rfl) (by kernel_rfl) (fun _ _ _ h => h) (Or.inl ⟨by rfl, ?hy22b⟩) (by assumption) ?rest22b
            case hy22b => (intro zz hSw; (try dsimp only at hSw); go_simp; (try with_reducible rfl))
            change wpAnyH _ _ _ _ _ _ _ (Act.put _ (some 104) _) _
            simp only [Act.put, List.setIfInBounds_toArray, List.set_cons_zero, List.set_cons_succ]
            refine wpAnyH_done (by kernel_rfl) ?_ _
            have HG := Lib.hid (bel_tr HBE2.out hHeld.2.2 (Nat.le_refl _)); clear hHeld HS
            go_wp2_with fail
            go_roundw
            case rel => exact ⟨j + 1, by omega, by go_num, HG.out⟩
            case measure => simp [intV]; omega
        · obtain rfl : j = m := by omega
          have t3 : ¬ (j : Int) < (j : Int) := by omega
          go_wp2_with fail
          go_ret
          exact ⟨rfl, HBW.out.trans (HBE2.out.mono HBW.out.size)⟩
end Go.Proofs.YtkhmbmcomgclaaaGreatDoor.Cl
