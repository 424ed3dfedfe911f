/-
  The specification's bins set and cut, of a call's own: which blocks a call leaves as they were ('KpI'). (Made by gen_mb.py.)
-/
import Derived.Test.YtfnnoehpahdgcaaGreatDoorJc
namespace Go.Proofs.YtfnnoehpahdgcaaGreatDoor.Cl
open Go.RowKit Wd Rp Kp
set_option linter.unusedVariables false
/-- Of the blocks that were there only the row's own may have turned; the row is where it was, or new. -/
structure KpI (w w' : World) (v v' : Value) : Prop where
  size : w.heap.size ≤ w'.heap.size
  blk : ∀ g, g < w.heap.size → v.ownBlock ≠ some g → w'.heap[g]? = w.heap[g]?
  own : ∀ g, v'.ownBlock = some g → v.ownBlock = some g ∨ w.heap.size ≤ g
theorem KpI.below {w w' : World} (h : Below w.heap.size w w') (v : Value) : KpI w w' v v := ⟨h.size, fun g hg _ => h.block g hg, fun g hg => Or.inl hg⟩
theorem KpI.fresh {w w' : World} {v v' : Value} {l : List Bi} (h : Below w.heap.size w w') (ho : OwI w.heap.size w' v' l) : KpI w w' v v' := ⟨h.size, fun g hg _ => h.block g hg, fun g hg => Or.inr (OwI.lt ho g hg)⟩
theorem KpI.put {w w1 : World} {v : Value} {a : Addr} {u : Value} (h : Below w.heap.size w w1) (hv : v.ownBlock = some a.block) : KpI w (w1.setCell a u) v v :=
  ⟨by have := h.size; simpa [World.setCell] using this, fun g hg hn => (Below.heap_setCell w1 a u g (fun e => hn (by rw [hv, e]))).trans (h.block g hg), fun g hg => Or.inl hg⟩
theorem KpI.trans {w w1 w2 : World} {v v1 v2 : Value} (h : KpI w w1 v v1) (k : KpI w1 w2 v1 v2) : KpI w w2 v v2 :=
  ⟨Nat.le_trans h.size k.size, fun g hg hn => (k.blk g (Nat.lt_of_lt_of_le hg h.size) (fun e => (h.own g e).elim hn (fun e2 => by omega))).trans (h.blk g hg hn), fun g hg => by
    rcases k.own g hg with e | e
    · exact h.own g e
    · right; have := h.size; omega⟩
def SbOwn (B : Nat) (v : Value) (p : List Bi × Bool) (w : World) (e : Ending) (w' : World) : Prop := ∃ v', e = .returned (.tuple #[v', .bool p.2]) ∧ OwI B w' v' p.1 ∧ Below B w w' ∧ KpI w w' v v'
def CbOwn (B : Nat) (v : Value) (p : List Bi) (w : World) (e : Ending) (w' : World) : Prop := ∃ v', e = .returned v' ∧ OwI B w' v' p ∧ Below B w w' ∧ KpI w w' v v'
set_option maxHeartbeats 4000000 in
set_option maxRecDepth 100000 in
theorem l7Set_own {B : Nat} (w : World) (v : Value) (l : List Bi) (s : ByteArray) (x : Int) (ho : OwI B w v l) (hB : B ≤ w.heap.size) (hl : l.length ≤ 4000) :
    Calls Tryz.prog 60 #[v, .string s, .int .i64 x] w (SbOwn B v (st7 l s x) w) := by
  have hT : Tryz.prog.underlying 25 = some (.slice 44) := Tryz.underlying25
  obtain ⟨a, cap, rfl, hv, hf⟩ := ho.own
  have HO := Lib.hid ho; clear ho
  have HV := Lib.hid hv
  have HF := Lib.hid hf; clear hf
  obtain ⟨n, hn⟩ : ∃ n, l.length = n := ⟨_, rfl⟩
  have HN := Lib.hid hn
  rw [hn] at HO HF ⊢
  have HFD := Lib.hid (l7Find_any w a cap l n s hn hv (by omega)); clear hv
  have hcl := cntI_le s l
  rw [hn] at hcl
  have hn4 : n ≤ 4000 := by omega
  cases hat : isAt s l
  · have hk0 := hat
    rw [hat] at HFD
    by_cases h12 : n = 12
    · have HE := Lib.hid (st7_full (x := x) hat (by rw [hn]; exact h12))
      have i1 : ((n : Int) == 12) = true := by simp; omega
      clear h12 hn
      go_enter Tryz.func60, Tryz.ntmps60
      go_wp2_with fail
      refine HFD.out.mono ?_; rintro e w1 ⟨rfl, b1⟩
      have B1 := Lib.hid (b1.mono hB)
      have K1 := Lib.hid (KpI.below b1 (.slice a n cap))
      have O1 := Lib.hid (HO.out.next b1); clear b1
      go_wp2_with fail
      refine bodyPost_ret (v := .tuple #[.slice a n cap, .bool false]) (by simp [results, Tryz.results60, go_sem]) rfl ⟨.slice a n cap, by rw [HE.out], by rw [HE.out]; exact O1.out, B1.out, K1.out⟩
    · have HE := Lib.hid (st7_new (x := x) hat (by rw [hn]; exact h12))
      have HBH := Lib.hid (show behI s l = l.drop (cntI s l) by unfold behI; rw [if_neg (by rw [hat]; decide)])
      have i1 : ((n : Int) == 12) = false := by simp; omega
      obtain ⟨b, cb, hr1, hv1⟩ := cutI_from 25 (by kernel_rfl) (by kernel_rfl) a n cap (cntI s l) hcl
      obtain ⟨hr2, hv2⟩ := cutI_to 25 (by kernel_rfl) (by kernel_rfl) a n cap (cntI s l) hcl (by rw [← hn]; exact HV.out.1) HV.out.2.2.1
      have HV1 := Lib.hid (hv1 w l HV.out hn)
      have HV2 := Lib.hid (hv2 w l HV.out hn); clear hv1 hv2
      have HTL := Lib.hid (takeI_len s l)
      have HDL := Lib.hid (show (l.drop (cntI s l)).length = n - cntI s l by rw [List.length_drop, hn])
      have HST := Lib.hid (show stI l s x = (l.take (cntI s l) ++ [⟨s, x⟩]) ++ l.drop (cntI s l) by unfold stI; rw [HBH.out, List.append_assoc])
      generalize l.drop (cntI s l) = dr at *
      generalize l.take (cntI s l) = tk at *
      generalize cntI s l = k at *
      clear h12 hn
      go_enter Tryz.func60, Tryz.ntmps60
      go_wp2_with fail
      refine HFD.out.mono ?_; rintro e w1 ⟨rfl, b1⟩
      have B1 := Lib.hid b1; clear b1
      go_wp2_with fail
      refine (l7Copy_any w1 b cb dr (n - k) HDL.out (HV1.out.below B1.out) (by omega)).mono ?_; rintro e w2 ⟨v2, rfl, o2, b2⟩
      have B2 := Lib.hid (bel_tr B1.out b2 (Nat.le_refl _))
      obtain ⟨va, vc, rfl, hv2⟩ := o2.view
      have V2 := Lib.hid hv2
      have L2 := Lib.hid (OwI.blk o2); clear hv2 o2 b2
      rw [HDL.out]
      go_wp2_with fail
      refine (l7Copy_any w2 a cap tk k HTL.out (HV2.out.below B2.out) (by omega)).mono ?_; rintro e w3 ⟨v3, rfl, o3, b3⟩
      have B3 := Lib.hid (bel_tr B2.out b3 (Nat.le_refl _))
      have Z2 := Lib.hid B2.out.size
      have O3 := Lib.hid (o3.mono (Nat.le_trans (Nat.le_refl w.heap.size) B2.out.size))
      have V3 := Lib.hid (V2.out.below b3)
      have L3 := Lib.hid (OwI.lt o3); clear b3 o3
      have HLT := Lib.hid (VwI.lit w3 ⟨s, x⟩)
      have HL4 := Lib.hid (bel1 w3 (.cells #[.string s, .int .i64 x] 44))
      have O4 := Lib.hid (O3.out.next HL4.out)
      have Z3 := Lib.hid B3.out.size
      have T1 : tk.length + [(⟨s, x⟩ : Bi)].length ≤ 10000000 := by have := HTL.out; simp; omega
      have T2 : w.heap.size ≤ (w3.alloc (.cells #[.string s, .int .i64 x] 44)).heap.size := by have := Z2.out; have := Z3.out; have := HL4.out.size; omega
      have TC := Lib.hid (show ∀ v5 w5, OwI w.heap.size w5 v5 (tk ++ [⟨s, x⟩]) → (w3.alloc (.cells #[.string s, .int .i64 x] 44)).grownBy w5 v3.ownBlock → OwI w.heap.size w5 v5 (tk ++ [⟨s, x⟩]) ∧ Below w.heap.size w3 w5 ∧ VwI w5 va vc dr ∧ w.heap.size ≤ w5.heap.size from fun v5 w5 o5 g5 => by
        have C5 := (HL4.out.mono (show w.heap.size ≤ w3.heap.size by have := Z2.out; have := Z3.out; omega)).grown g5 T2 (fun j hj => OwI.lt O4.out j hj)
        exact ⟨o5, C5, (V3.out.below HL4.out).grown g5 (fun g o hne e e2 => by have := (L2.out g o hne e).2; have := L3.out g e2; omega), by have := C5.size; have := Z2.out; have := Z3.out; omega⟩)
      have T3 : (tk ++ [(⟨s, x⟩ : Bi)]).length + dr.length ≤ 10000000 := by have := HTL.out; have := HDL.out; simp; omega
      go_wp2_with (first
        | (at_builtin; refine append_binsT rfl (.tmp 35) (.tmp 39) 25 hT rfl (base := w.heap.size) (l := tk) (m := [⟨s, x⟩]) rfl rfl rfl O4.out HLT.out T1 T2 ?_; intro v5 w5 o5 g5; have G5 := Lib.hid (TC.out _ _ o5 g5); clear o5 g5)
        | (at_builtin; refine append_binsT rfl (.tmp 40) (.tmp 41) 25 hT rfl (base := w.heap.size) (l := tk ++ [(⟨s, x⟩ : Bi)]) (m := dr) rfl rfl HDL.out G5.out.1 G5.out.2.2.1 T3 G5.out.2.2.2 ?_; intro v6 w6 o6 g6; have G6 := Lib.hid (And.intro o6 g6); clear o6 g6))
      have O6 := Lib.hid G6.out.1
      obtain ⟨v6a, v6c, e6, -⟩ := G6.out.1.view
      have C6 := Lib.hid (G5.out.2.1.grown G6.out.2 G5.out.2.2.2 (fun j hj => OwI.lt G5.out.1 j hj))
      have CF := Lib.hid ((B3.out.mono (Nat.le_refl w.heap.size)).trans C6.out)
      go_wp2_with fail
      refine bodyPost_ret (v := .tuple #[v6, .bool true]) (by simp [results, Tryz.results60, go_sem]) rfl ⟨v6, by rw [HE.out], by rw [HE.out, HST.out]; exact OwI.mono O6.out hB, CF.out.mono hB, KpI.fresh CF.out O6.out⟩
  · have HE := Lib.hid (st7_at (x := x) hat)
    have hkl := isAt_lt hat
    obtain ⟨d, hd⟩ : ∃ d, l[cntI s l]? = some d := ⟨l[cntI s l], List.getElem?_eq_getElem hkl⟩
    have HST := Lib.hid (stI_at hd hat x)
    rw [hn] at hkl
    obtain ⟨g, rfl, hg, -⟩ := HF.out (cntI s l) hkl
    have HD := Lib.hid hd; clear hd
    rw [hat] at HFD
    generalize cntI s l = k at *
    go_enter Tryz.func60, Tryz.ntmps60
    go_wp2_with fail
    refine HFD.out.mono ?_; rintro e w1 ⟨rfl, b1⟩
    have B1 := Lib.hid (b1.mono hB)
    have KB := Lib.hid b1
    have O1 := Lib.hid (HO.out.next b1); clear b1
    obtain ⟨⟨c0, c1⟩, ⟨f0, f1⟩, -, -⟩ := O1.out.at HD.out
    have O2 := Lib.hid (O1.out.setV hn.symm k d HD.out x)
    have B2 := Lib.hid (B1.out.setCell (p := ⟨g, k * 2 + 1, none⟩) hg (.int .i64 x))
    go_wp2_with fail
    refine bodyPost_ret (v := .tuple #[.slice (some ⟨g, 0, none⟩) n cap, .bool true]) (by simp [results, Tryz.results60, go_sem]) rfl ⟨.slice (some ⟨g, 0, none⟩) n cap, by rw [HE.out], by rw [HE.out, HST.out]; exact O2.out, B2.out, KpI.put KB.out rfl⟩
set_option maxHeartbeats 4000000 in
set_option maxRecDepth 100000 in
theorem l7Cut_own {B : Nat} (w : World) (v : Value) (l : List Bi) (s : ByteArray) (ho : OwI B w v l) (hB : B ≤ w.heap.size) (hl : l.length ≤ 4000) :
    Calls Tryz.prog 61 #[v, .string s] w (CbOwn B v (ctI l s) w) := by
  have hT : Tryz.prog.underlying 25 = some (.slice 44) := Tryz.underlying25
  obtain ⟨a, cap, rfl, hv⟩ := ho.view
  have HO := Lib.hid ho; clear ho
  have HV := Lib.hid hv
  obtain ⟨n, hn⟩ : ∃ n, l.length = n := ⟨_, rfl⟩
  rw [hn] at HO ⊢
  have HFD := Lib.hid (l7Find_any w a cap l n s hn hv (by omega)); clear hv
  have hcl := cntI_le s l
  have hn4 : n ≤ 4000 := by omega
  rw [hn] at hcl
  cases hat : isAt s l
  · have HE := Lib.hid (ctI_no hat)
    rw [hat] at HFD
    go_enter Tryz.func61, Tryz.ntmps61
    go_wp2_with fail
    refine HFD.out.mono ?_; rintro e w1 ⟨rfl, b1⟩
    have B1 := Lib.hid (b1.mono hB)
    have K1 := Lib.hid (KpI.below b1 (.slice a n cap))
    have O1 := Lib.hid (HO.out.next b1); clear b1
    go_wp2_with fail
    go_ret
    exact ⟨_, rfl, by rw [HE.out]; exact O1.out, B1.out, K1.out⟩
  · have hkl := isAt_lt hat
    rw [hn] at hkl
    have HST := Lib.hid (show ctI l s = l.take (cntI s l) ++ l.drop (cntI s l + 1) by unfold ctI behI; rw [if_pos hat])
    rw [hat] at HFD
    obtain ⟨b, cb, hr1, hv1⟩ := cutI_from 25 (by kernel_rfl) (by kernel_rfl) a n cap (cntI s l + 1) (by omega)
    obtain ⟨hr2, hv2⟩ := cutI_to 25 (by kernel_rfl) (by kernel_rfl) a n cap (cntI s l) hcl (by rw [← hn]; exact HV.out.1) HV.out.2.2.1
    rw [show ((cntI s l + 1 : Nat) : Int) = (cntI s l : Int) + 1 by omega] at hr1
    have HV1 := Lib.hid (hv1 w l HV.out hn)
    have HV2 := Lib.hid (hv2 w l HV.out hn); clear hv1 hv2
    have HTL := Lib.hid (takeI_len s l)
    have HDL := Lib.hid (show (l.drop (cntI s l + 1)).length = n - (cntI s l + 1) by rw [List.length_drop, hn])
    generalize l.drop (cntI s l + 1) = dr at *
    generalize l.take (cntI s l) = tk at *
    generalize cntI s l = k at *
    have T1 : tk.length + dr.length ≤ 10000000 := by have := HTL.out; have := HDL.out; omega
    have i5 : (0 : Int) ≤ (k : Int) := by omega
    have i6 : (k : Int) ≤ 4000 := by omega
    have i7 : IntKind.i64.wrap ((k : Int) + 1) = (k : Int) + 1 := by rw [IntKind.wrap_i64]; omega
    go_enter Tryz.func61, Tryz.ntmps61
    go_wp2_with fail
    refine HFD.out.mono ?_; rintro e w1 ⟨rfl, b1⟩
    have HB1 := Lib.hid b1; clear b1
    go_wp2_with fail
    refine wp_region_held_drew (S := fun z => Below w1.heap.size w1 z) (by kernel_rfl) (Below.refl _ _).drew (fun hHeld => ?_)
    refine wpAnyH_take (i := 0) (v := ?v0k) rfl (by kernel_rfl) (by kernel_rfl) (by kernel_rfl) (fun _ _ _ h => h) (Or.inl ⟨by rfl, ?hy0k⟩) (by assumption) ?rest0k
    case hy0k => (intro zz hSw; (try dsimp only at hSw); go_simp; (try with_reducible rfl))
    change wpAnyH _ _ _ _ _ _ _ (Act.put _ (some 16) _) _
    simp only [Act.put, List.setIfInBounds_toArray, List.set_cons_zero, List.set_cons_succ]
    refine wpAnyH_take (i := 1) (v := ?v1k) rfl (by kernel_rfl) (by kernel_rfl) (by kernel_rfl) (fun _ _ _ h => h) (Or.inl ⟨by rfl, ?hy1k⟩) (by assumption) ?rest1k
    case hy1k => (intro zz hSw; (try dsimp only at hSw); go_simp; (try with_reducible rfl))
    change wpAnyH _ _ _ _ _ _ _ (Act.put _ (some 17) _) _
    simp only [Act.put, List.setIfInBounds_toArray, List.set_cons_zero, List.set_cons_succ]
    refine wpAnyH_take (i := 2) (v := ?v2k) rfl (by kernel_rfl) (by kernel_rfl) (by kernel_rfl) (fun _ _ _ h => h) (Or.inl ⟨by rfl, ?hy2k⟩) (by assumption) ?rest2k
    case hy2k => (intro zz hSw; (try dsimp only at hSw); go_simp; (try with_reducible rfl))
    change wpAnyH _ _ _ _ _ _ _ (Act.put _ (some 18) _) _
    simp only [Act.put, List.setIfInBounds_toArray, List.set_cons_zero, List.set_cons_succ]
    refine wpAnyH_take (i := 4) (v := ?v4k) rfl (by kernel_rfl) (by kernel_rfl) (by kernel_rfl) (fun _ _ _ h => h) (Or.inl ⟨by rfl, ?hy4k⟩) (by assumption) ?rest4k
    case hy4k => (intro zz hSw; (try dsimp only at hSw); go_simp; (try with_reducible rfl))
    change wpAnyH _ _ _ _ _ _ _ (Act.put _ (some 20) _) _
    simp only [Act.put, List.setIfInBounds_toArray, List.set_cons_zero, List.set_cons_succ]
    refine wpAnyH_take (i := 5) (v := ?v5k) rfl (by kernel_rfl) (by kernel_rfl) (by kernel_rfl) (fun _ _ _ h => h) (Or.inl ⟨by rfl, ?hy5k⟩) (by assumption) ?rest5k
    case hy5k => (intro zz hSw; (try dsimp only at hSw); go_simp; (try with_reducible rfl))
    change wpAnyH _ _ _ _ _ _ _ (Act.put _ (some 21) _) _
    simp only [Act.put, List.setIfInBounds_toArray, List.set_cons_zero, List.set_cons_succ]
    refine wpAnyH_take (i := 6) (v := ?v6k) rfl (by kernel_rfl) (by kernel_rfl) (by kernel_rfl) (fun _ _ _ h => h) (Or.inl ⟨by rfl, ?hy6k⟩) (by assumption) ?rest6k
    case hy6k => (intro zz hSw; (try dsimp only at hSw); go_simp; (try with_reducible rfl))
    change wpAnyH _ _ _ _ _ _ _ (Act.put _ (some 22) _) _
    simp only [Act.put, List.setIfInBounds_toArray, List.set_cons_zero, List.set_cons_succ]
    refine wpAnyH_take (i := 7) (v := ?v7k) rfl (by kernel_rfl) (by kernel_rfl) (by kernel_rfl) (fun _ _ _ h => h) (Or.inl ⟨by rfl, ?hy7k⟩) (by assumption) ?rest7k
    case hy7k => (intro zz hSw; (try dsimp only at hSw); go_simp; (try with_reducible rfl))
    change wpAnyH _ _ _ _ _ _ _ (Act.put _ (some 23) _) _
    simp only [Act.put, List.setIfInBounds_toArray, List.set_cons_zero, List.set_cons_succ]
    refine wpAnyH_ready (rs := [3]) (by kernel_rfl) (by simp) (AllReadyH.cons rfl (fun K hK => ?_) (AllReadyH.nil))
    go_simp
    refine (l7Copy_any _ a cap tk k HTL.out (HV2.out.below (HB1.out.trans (hHeld.mono HB1.out.size))) (by omega)).mono ?_; rintro e w4 ⟨v4, rfl, o4, bel⟩
    have O4 := Lib.hid (o4.mono hHeld.size); clear o4
    refine hK.out _ _ (bel_tr hHeld bel (Nat.le_refl _)) (fun hHeld => ?_)
    clear hK K bel
    refine wpAnyH_ready (rs := [8]) (by kernel_rfl) (by simp) (AllReadyH.cons rfl (fun K hK => ?_) (AllReadyH.nil))
    refine step_append_binsT rfl (.tmp 19) (.tmp 23) 25 hT rfl (base := w1.heap.size) (l := tk) (m := dr) rfl rfl HDL.out O4.out (HV1.out.below (HB1.out.trans (hHeld.mono HB1.out.size))) T1 hHeld.size ?_
    intro v6 w6 o6 g6 n6
    have O6 := Lib.hid o6
    refine hK.out _ _ (hHeld.grown g6 hHeld.size (fun j hj => OwI.lt O4.out j hj)) (fun hHeld => ?_)
    clear hK K o6 g6 n6
    change wpAnyH _ _ _ _ _ _ _ (Act.put _ (some 24) _) _
    simp only [Act.put, List.setIfInBounds_toArray, List.set_cons_zero, List.set_cons_succ]
    refine wpAnyH_take (i := 9) (v := ?v9k) rfl (by kernel_rfl) (by kernel_rfl) (by kernel_rfl) (fun _ _ _ h => h) (Or.inl ⟨by rfl, ?hy9k⟩) (by assumption) ?rest9k
    case hy9k => (intro zz hSw; (try dsimp only at hSw); go_simp; (try with_reducible rfl))
    change wpAnyH _ _ _ _ _ _ _ (Act.put _ (some 4) _) _
    simp only [Act.put, List.setIfInBounds_toArray, List.set_cons_zero, List.set_cons_succ]
    refine wpAnyH_done (by kernel_rfl) ?_ _
    have CF := Lib.hid (HB1.out.trans (hHeld.mono HB1.out.size)); clear hHeld
    go_wp2_with fail
    go_ret
    exact ⟨_, rfl, by rw [HST.out]; exact O6.out.mono (Nat.le_trans hB HB1.out.size), CF.out.mono hB, KpI.fresh CF.out (O6.out.mono HB1.out.size)⟩
end Go.Proofs.YtfnnoehpahdgcaaGreatDoor.Cl
