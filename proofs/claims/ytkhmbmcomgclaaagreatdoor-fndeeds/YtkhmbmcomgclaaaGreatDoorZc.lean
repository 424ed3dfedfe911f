/-
  The specification's sorted names: a text put where it belongs, once: contract of spec.l9Put.
  The specification's names of a recipe: contract of spec.NamesIn. (Made by gen_lu.py.)
  Sorted texts, plain: lists that ascend are told by their members; what sort and compact leave; texts put one by one.
  Recipes, plain: the names that a scan meets, in order; they ascend, and stand in the recipe.
  The specification's NamesIn of a list that is too long for a recipe.
-/
import Derived.Test.YtkhmbmcomgclaaaGreatDoorYq
import Derived.Test.YtkhmbmcomgclaaaGreatDoorZa
import Derived.Sort.Walk0
import Derived.Lib.SlicesCompact
namespace Go.Proofs.YtkhmbmcomgclaaaGreatDoor.Cl
open Go.RowKit Wd Rp Cu Kp
set_option linter.unusedVariables false
/-- How many texts ahead are smaller. -/
def pfx (s : Tk) : List Tk → Nat
  | [] => 0
  | x :: r => if Op.bytesLess x s then pfx s r + 1 else 0
theorem pfx_is {s : Tk} : ∀ {l : List Tk} {k : Nat}, (∀ (j : Nat) (y : Tk), j < k → l[j]? = some y → Op.bytesLess y s = true) → (k = l.length ∨ ∃ c, l[k]? = some c ∧ Op.bytesLess c s = false) → pfx s l = k
  | [], k, _, h2 => by
    rcases h2 with rfl | ⟨c, hc, -⟩
    · rfl
    · simp at hc
  | x :: r, 0, _, h2 => by
    rcases h2 with h | ⟨c, hc, hb⟩
    · simp at h
    · simp at hc; subst hc; rw [pfx, if_neg (by rw [hb]; simp)]
  | x :: r, k + 1, h1, h2 => by
    rw [pfx, if_pos (h1 0 x (by omega) rfl)]
    congr 1
    refine pfx_is (fun j y hj hy => h1 (j + 1) y (by omega) (by simpa using hy)) ?_
    rcases h2 with h | ⟨c, hc, hb⟩
    · left; simp at h; exact h
    · right; exact ⟨c, by simpa using hc, hb⟩
/-- A text more, where it belongs, once. -/
def ptL (s : Tk) (l : List Tk) : List Tk := if l[pfx s l]? = some s then l else (l.take (pfx s l) ++ [s]) ++ l.drop (pfx s l)
set_option maxHeartbeats 8000000 in
set_option maxRecDepth 100000 in
theorem l9Put_any (w : World) (B : Nat) (hB : B ≤ w.heap.size) (a : Option Addr) (cap : Nat) (l : List Tk) (n : Nat) (s : Tk) (hn : l.length = n) (ho : OT B w (.slice a n cap) l) (hl : n ≤ 4194304) :
    Calls Tryz.prog 49 #[.slice a n cap, .string (tx s)] w fun e w' => ∃ v, e = .returned v ∧ OT B w' v (ptL s l) ∧ Below w.heap.size w w' := by
  have HO := Lib.hid ho
  have HV := Lib.hid (OT.vw ho); clear ho
  have HN := Lib.hid hn
  go_enter Tryz.func49, Tryz.ntmps49
  go_wp2_with fail
  go_loopw [5] (fun i wr => ∃ k : Nat, k ≤ n ∧ i = .int .i64 (k : Int) ∧ (∀ (j : Nat) (y : Tk), j < k → l[j]? = some y → Op.bytesLess y s = true) ∧ wr = w) (fun i _ => n - intV i)
  case atStart => exact ⟨0, Nat.zero_le _, rfl, (fun j y hj => by omega), rfl⟩
  case round =>
    obtain ⟨k, hk, rfl, hlow, rfl⟩ := hrel
    have HLO := Lib.hid hlow; clear hlow
    by_cases hlt : k < n
    · obtain ⟨c, hc⟩ : ∃ c, l[k]? = some c := ⟨l[k]'(by have := HN.out; omega), List.getElem?_eq_getElem _⟩
      obtain ⟨g, o, rfl, hg, c0⟩ := HV.out.tx hc
      have t1 : decide ((k : Int) < (n : Int)) = true := by simpa using hlt
      have t2 : decide (k < n) = true := by simpa using hlt
      have i1 : (k : Int) + 1 ≤ 9223372036854775807 := by omega
      have HC := Lib.hid hc
      clear hc hg
      cases hb : Op.bytesLess c s with
      | true =>
        have q1 : Op.bytesLess (tx c).toList (tx s).toList = true := by rw [Lib.toList_data, tx_data, Lib.toList_data, tx_data]; exact hb
        have HBL := Lib.hid hb; clear hb
        go_wp2_with fail
        go_roundw
        case rel =>
          refine ⟨k + 1, by omega, by go_num, fun j y hj hy => ?_, trivial⟩
          by_cases e : j = k
          · subst e; rw [HC.out] at hy; cases hy; exact HBL.out
          · exact HLO.out j y (by omega) hy
        case measure => simp [intV]; omega
      | false =>
        have q1 : Op.bytesLess (tx c).toList (tx s).toList = false := by rw [Lib.toList_data, tx_data, Lib.toList_data, tx_data]; exact hb
        have HP := Lib.hid (pfx_is (s := s) HLO.out (Or.inr ⟨c, HC.out, hb⟩)); clear hb
        by_cases he : c = s
        · subst he
          have q2 := tx_beq c
          have HR := Lib.hid (show ptL c l = l by unfold ptL; rw [HP.out, if_pos HC.out])
          go_wp2_with fail
          go_ret
          exact ⟨_, rfl, by rw [HR.out]; exact HO.out, Below.refl _ _⟩
        · have q2 := tx_ne he
          have HR := Lib.hid (show ptL s l = (l.take k ++ [s]) ++ l.drop k by unfold ptL; rw [HP.out, if_neg (by rw [HC.out]; intro e; cases e; exact he rfl)])
          have hcp : n ≤ cap := by have := HV.out.1; rw [txL_len, HN.out] at this; exact this
          have hr1 : ∀ w, (Instr.slice 24 (.slice (some ⟨g, o, none⟩) n cap) none (some (.int .i64 (k : Int))) none).run Tryz.prog w = .ok (.slice (some ⟨g, o, none⟩) k cap) w := fun w => cut1_to 24 (by kernel_rfl) (fun w => by exact Tryz.sizeOf9 w) (some ⟨g, o, none⟩) n cap k (by omega) hcp w
          obtain ⟨b2, c2, hr2, hv2⟩ := cut1_from 24 (by kernel_rfl) (fun w => by exact Tryz.sizeOf9 w) (some ⟨g, o, none⟩) n cap k (by omega)
          have HD := Lib.hid (show V1 wr b2 c2 (txL (l.drop k)) by have := hv2 wr (txL l) HV.out (by rw [txL_len]; exact HN.out); unfold txL at this ⊢; rwa [← List.map_drop] at this); clear hv2
          have HK := Lib.hid (show V1 wr (some ⟨g, o, none⟩) cap (txL (l.take k)) by have := HV.out.take k; unfold txL at this ⊢; rwa [← List.map_take] at this)
          have HT1 := Lib.hid (l1Texts_any wr b2 c2 (l.drop k) (n - k) (by rw [List.length_drop, HN.out]) HD.out (by omega))
          go_wp2_with fail
          refine HT1.out.mono ?_; rintro e w1 ⟨v1, rfl, o1, b1⟩
          have HK1 := Lib.hid (HK.out.below b1)
          have B1 := Lib.hid b1; clear b1
          have HO1 := Lib.hid o1; clear o1
          have HT2 := Lib.hid (l1Texts_any w1 (some ⟨g, o, none⟩) cap (l.take k) k (by rw [List.length_take, HN.out]; omega) HK1.out (by omega))
          go_wp2_with fail
          refine HT2.out.mono ?_; rintro e w2 ⟨v2, rfl, o2, b2'⟩
          have HO2 := Lib.hid o2
          have HO1' := Lib.hid (HO1.out.next b2')
          have B2 := Lib.hid (bel_tr B1.out b2' (Nat.le_refl _))
          have hw1 : wr.heap.size ≤ w1.heap.size := B1.out.size
          have hlow1 : ∀ k, v1.ownBlock = some k → k < w1.heap.size := OT.low HO1.out
          have hw2 : w1.heap.size ≤ w2.heap.size := b2'.size
          clear o2 b2'
          obtain ⟨a1, c1, rfl, hv1⟩ := HO1'.out.form
          clear hv1
          have HLV := Lib.hid (litT (B := 0) w2 [s] (by simp))
          have HQ := Lib.hid (HO2.out.next (bel1 w2 (.cells ([s].map tv).toArray 9)))
          have HQ1 := Lib.hid (HO1'.out.next (bel1 w2 (.cells ([s].map tv).toArray 9)))
          have BQ := Lib.hid (bel_tr B2.out (bel1 w2 (.cells ([s].map tv).toArray 9)) (Nat.le_refl _))
          have HLN := Lib.hid (show (l.take k).length = k ∧ (l.drop k).length = n - k from ⟨by rw [List.length_take, HN.out]; omega, by rw [List.length_drop, HN.out]⟩)
          go_wp2_with (first
            | (at_builtin; refine append_tx rfl (.tmp 41) (.tmp 43) rfl (base := w1.heap.size) (l := l.take k) (m := [s]) rfl rfl rfl HQ.out HLV.out (by have := HLN.out.1; simp; omega) (Nat.le_trans hw2 (by simp)) ?_; intro v3 w3 oo gg; have HO3 := Lib.hid oo; have G3 := Lib.hid gg; have HQ3 := Lib.hid (HQ1.out.grown gg (fun k hk e => by have := hlow1 k hk; have := OT.lt HQ.out k e; omega)); clear oo gg)
            | (at_builtin; refine append_tx rfl (.tmp 44) (.tmp 45) rfl (base := w1.heap.size) (l := l.take k ++ [s]) (m := l.drop k) rfl rfl HLN.out.2 HO3.out (OT.vw HQ3.out) (by have := HLN.out.1; have := HLN.out.2; simp; omega) (Nat.le_trans (Nat.le_trans hw2 (by simp)) G3.out.size) ?_; intro v4 w4 oo gg; have HO4 := Lib.hid oo; have G4 := Lib.hid gg; clear oo gg))
          go_ret
          refine ⟨_, rfl, by rw [HR.out]; exact HO4.out.mono (Nat.le_trans hB hw1), ?_⟩
          exact (BQ.out.grown G3.out BQ.out.size (fun k hk => by have := OT.lt HQ.out k hk; omega)).grown G4.out (Nat.le_trans BQ.out.size G3.out.size) (fun k hk => by have := OT.lt HO3.out k hk; omega)
    · obtain rfl : k = n := by omega
      have t1 : decide ((k : Int) < (k : Int)) = false := by simp
      have HP := Lib.hid (pfx_is (s := s) HLO.out (Or.inl HN.out.symm))
      have HR := Lib.hid (show ptL s l = (l.take k ++ [s]) ++ l.drop k by unfold ptL; rw [HP.out, if_neg (by rw [List.getElem?_eq_none (by have := HN.out; omega)]; intro e; cases e)])
      have hcp : k ≤ cap := by have := HV.out.1; rw [txL_len, HN.out] at this; exact this
      have hr1 : ∀ w, (Instr.slice 24 (.slice a k cap) none (some (.int .i64 (k : Int))) none).run Tryz.prog w = .ok (.slice a k cap) w := fun w => cut1_to 24 (by kernel_rfl) (fun w => by exact Tryz.sizeOf9 w) a k cap k (by omega) hcp w
      obtain ⟨b2, c2, hr2, hv2⟩ := cut1_from 24 (by kernel_rfl) (fun w => by exact Tryz.sizeOf9 w) a k cap k (by omega)
      have HD := Lib.hid (show V1 wr b2 c2 (txL (l.drop k)) by have := hv2 wr (txL l) HV.out (by rw [txL_len]; exact HN.out); unfold txL at this ⊢; rwa [← List.map_drop] at this); clear hv2
      have HK := Lib.hid (show V1 wr a cap (txL (l.take k)) by have := HV.out.take k; unfold txL at this ⊢; rwa [← List.map_take] at this)
      have HT1 := Lib.hid (l1Texts_any wr b2 c2 (l.drop k) 0 (by have := HN.out; rw [List.length_drop]; omega) HD.out (by omega))
      go_wp2_with fail
      refine HT1.out.mono ?_; rintro e w1 ⟨v1, rfl, o1, b1⟩
      have HK1 := Lib.hid (HK.out.below b1)
      have B1 := Lib.hid b1; clear b1
      have HO1 := Lib.hid o1; clear o1
      have HT2 := Lib.hid (l1Texts_any w1 a cap (l.take k) k (by rw [List.length_take, HN.out]; omega) HK1.out (by omega))
      go_wp2_with fail
      refine HT2.out.mono ?_; rintro e w2 ⟨v2, rfl, o2, b2'⟩
      have HO2 := Lib.hid o2
      have HO1' := Lib.hid (HO1.out.next b2')
      have B2 := Lib.hid (bel_tr B1.out b2' (Nat.le_refl _))
      have hw1 : wr.heap.size ≤ w1.heap.size := B1.out.size
      have hlow1 : ∀ k, v1.ownBlock = some k → k < w1.heap.size := OT.low HO1.out
      have hw2 : w1.heap.size ≤ w2.heap.size := b2'.size
      clear o2 b2'
      obtain ⟨a1, c1, rfl, hv1⟩ := HO1'.out.form
      clear hv1
      have HLV := Lib.hid (litT (B := 0) w2 [s] (by simp))
      have HQ := Lib.hid (HO2.out.next (bel1 w2 (.cells ([s].map tv).toArray 9)))
      have HQ1 := Lib.hid (HO1'.out.next (bel1 w2 (.cells ([s].map tv).toArray 9)))
      have BQ := Lib.hid (bel_tr B2.out (bel1 w2 (.cells ([s].map tv).toArray 9)) (Nat.le_refl _))
      have HLN := Lib.hid (show (l.take k).length = k ∧ (l.drop k).length = 0 from ⟨by rw [List.length_take, HN.out]; omega, by have := HN.out; rw [List.length_drop]; omega⟩)
      go_wp2_with (first
        | (at_builtin; refine append_tx rfl (.tmp 41) (.tmp 43) rfl (base := w1.heap.size) (l := l.take k) (m := [s]) rfl rfl rfl HQ.out HLV.out (by have := HLN.out.1; simp; omega) (Nat.le_trans hw2 (by simp)) ?_; intro v3 w3 oo gg; have HO3 := Lib.hid oo; have G3 := Lib.hid gg; have HQ3 := Lib.hid (HQ1.out.grown gg (fun k hk e => by have := hlow1 k hk; have := OT.lt HQ.out k e; omega)); clear oo gg)
        | (at_builtin; refine append_tx rfl (.tmp 44) (.tmp 45) rfl (base := w1.heap.size) (l := l.take k ++ [s]) (m := l.drop k) rfl rfl HLN.out.2 HO3.out (OT.vw HQ3.out) (by have := HLN.out.1; have := HLN.out.2; simp; omega) (Nat.le_trans (Nat.le_trans hw2 (by simp)) G3.out.size) ?_; intro v4 w4 oo gg; have HO4 := Lib.hid oo; have G4 := Lib.hid gg; clear oo gg))
      go_ret
      refine ⟨_, rfl, by rw [HR.out]; exact HO4.out.mono (Nat.le_trans hB hw1), ?_⟩
      exact (BQ.out.grown G3.out BQ.out.size (fun k hk => by have := OT.lt HQ.out k hk; omega)).grown G4.out (Nat.le_trans BQ.out.size G3.out.size) (fun k hk => by have := OT.lt HO3.out k hk; omega)
end Go.Proofs.YtkhmbmcomgclaaaGreatDoor.Cl
namespace Go.Proofs.YtkhmbmcomgclaaaGreatDoor.Cl
open Go.RowKit Wd Rp Cu Kp
set_option linter.unusedVariables false
/-- The names of c tokens from place k on, put into o. -/
def nmF (l : List Tk) : Nat → Nat → List Tk → List Tk
  | 0, _, o => o
  | c + 1, k, o => nmF l c (k + 1) (match l[k]? with | some t => if nmB t then ptL t o else o | none => o)
/-- The names that a scan from here on meets, put into o. -/
def cnN (l : List Tk) : Nat → Int → List Tk → List Tk
  | 0, _, o => o
  | n + 1, i, o => match tkA l i with
    | none => o
    | some s => if s = setT then cnN l n (edV l (i + 2)) (nmF l (edV l (i + 2) - (i + 2)).toNat (i + 2).toNat (ptL ((tkA l (i + 1)).getD []) o)) else if s = cutT then cnN l n (i + 2) (ptL ((tkA l (i + 1)).getD []) o) else if s = stopT then cnN l n (i + 1) o
      else if s = ifT ∨ s = whT then cnN l n (edV l (i + 1)) (nmF l (edV l (i + 1) - (i + 1)).toNat (i + 1).toNat o) else cnN l n (i + 1) o
/-- What NamesIn gives. -/
def nnR (l : List Tk) : List Tk := if rcB l then cnN l (l.length + 1) 0 [] else []
theorem ptL_len (s : Tk) (l : List Tk) : (ptL s l).length ≤ l.length + 1 := by
  unfold ptL
  split
  · omega
  · simp; omega
theorem nmF_step {l : List Tk} {c k : Nat} {o : List Tk} {t : Tk} (h : l[k]? = some t) : nmF l (c + 1) k o = nmF l c (k + 1) (if nmB t then ptL t o else o) := by rw [nmF, h]
set_option maxHeartbeats 16000000 in
set_option maxRecDepth 100000 in
theorem specNamesIn_any (w : World) (a : Option Addr) (cap : Nat) (l : List Tk) (n : Nat) (hn : l.length = n) (hv : V1 w a cap (txL l)) (hl : n ≤ 1000000) (hm : ∀ s ∈ l, s.length ≤ 4194304) :
    Calls Tryz.prog 23 #[.slice a n cap] w fun e w' => ∃ v, e = .returned v ∧ OT w.heap.size w' v (nnR l) ∧ Below w.heap.size w w' := by
  have HO0 := Lib.hid (show OT w.heap.size (w.alloc (.cells #[] 9)) (.slice (some ⟨w.heap.size, 0, none⟩) 0 0) [] from O1.start (Nat.le_refl _))
  have HB0 := Lib.hid (bel1 w (.cells #[] 9))
  have HR := Lib.hid (specRecipeOk_any _ a cap l n hn (hv.below HB0.out) (by omega) hm)
  have HE := Lib.hid (fun w i hi h => l8End_any w a cap l n i hi hn h (by omega) hm)
  have HM := Lib.hid hm
  have HV := Lib.hid hv; clear hv hm
  have HX := Lib.hid (show nnR l = if rcB l then cnN l (l.length + 1) 0 [] else [] from rfl)
  have HQ := Lib.hid (fun h => rcB_scn (l := l) h)
  generalize nnR l = r at *
  generalize rcB l = q at *
  go_enter Tryz.func23, Tryz.ntmps23
  go_wp2_with fail
  refine HR.out.mono ?_; rintro e w1 ⟨rfl, b1⟩
  have HO1 := Lib.hid (HO0.out.next b1)
  have B1 := Lib.hid (bel_tr HB0.out b1 (Nat.le_refl _)); clear b1
  cases q
  · go_wp2_with fail
    go_ret
    exact ⟨_, rfl, by rw [HX.out]; exact HO1.out, B1.out⟩
  have HS := Lib.hid (HQ.out rfl)
  have HC := Lib.hid (show r = cnN l (l.length + 1) 0 [] from HX.out)
  clear HX HQ HR
  go_wp2_with fail
  go_loopg [3, 4, 5, 6] (l.length + 1) (fun j ov q _ _ wr => ∃ (z : Int) (y : List Tk), q = .int .i64 z ∧ OT w.heap.size wr ov y ∧ r = cnN l j z y ∧ Scn l z ∧ 0 ≤ z ∧ z ≤ n ∧ (y.length : Int) ≤ z ∧ n - z < j ∧ Below w.heap.size w wr)
  case atStart => exact ⟨0, [], rfl, HO1.out, HC.out, HS.out, by omega, by omega, by simp, by omega, B1.out⟩
  case round =>
    clear HC HS B1 HO1 HO0 HB0
    obtain ⟨z, y, rfl, ho, hr, hsc, hz0, hzn, hyz, hj, hbel⟩ := hrel
    have HB := Lib.hid hbel
    have HV1 := Lib.hid (HV.out.below hbel)
    have HC := Lib.hid hr
    have HS := Lib.hid hsc
    have HO := Lib.hid ho
    obtain ⟨oa, oc, rfl, hov⟩ := ho.form
    clear hr hsc hbel ho hov
    obtain ⟨k, rfl⟩ : ∃ k : Nat, z = k := ⟨z.toNat, by omega⟩
    by_cases hk : k < n
    · have t1 : decide ((k : Int) < (n : Int)) = true := by simpa using hk
      have t2 : decide (k < n) = true := by simpa using hk
      have i1 : (k : Int) + 1 ≤ 9223372036854775807 := by omega
      obtain ⟨c, hc⟩ : ∃ c, l[k]? = some c := ⟨l[k]'(by omega), List.getElem?_eq_getElem _⟩
      obtain ⟨g, o, rfl, hg, c0⟩ := HV1.out.tx hc
      have ht : tkA l (k : Int) = some c := by rw [tkA_nat]; exact hc
      obtain ⟨j, rfl⟩ : ∃ j', gk = j' + 1 := ⟨gk - 1, by omega⟩
      have HT := Lib.hid ht
      have HI := Lib.hid (HC.out.trans (show cnN l (j + 1) (k : Int) y = (if c = setT then cnN l j (edV l ((k : Int) + 2)) (nmF l (edV l ((k : Int) + 2) - ((k : Int) + 2)).toNat ((k : Int) + 2).toNat (ptL ((tkA l ((k : Int) + 1)).getD []) y)) else if c = cutT then cnN l j ((k : Int) + 2) (ptL ((tkA l ((k : Int) + 1)).getD []) y) else if c = stopT then cnN l j ((k : Int) + 1) y
        else if c = ifT ∨ c = whT then cnN l j (edV l ((k : Int) + 1)) (nmF l (edV l ((k : Int) + 1) - ((k : Int) + 1)).toNat ((k : Int) + 1).toNat y) else cnN l j ((k : Int) + 1) y) by rw [cnN, ht]))
      clear hc hg ht HC
      generalize hyl : y.length = yl at *
      cases HS.out with
      | fin => exact absurd hk (by omega)
      | br h hb hs' =>
          rw [HT.out] at h; cases h
          rcases hb with rfl | rfl
          · have HSX := Lib.hid hs'; clear hs'
            replace HI := Lib.hid (HI.out.trans (by rw [if_neg (by decide), if_neg (by decide), if_neg (by decide), if_neg (by decide)]))
            replace c0 : wr.cell? ⟨g, o + k, none⟩ = some (.string ⟨#[91]⟩) := c0
            go_wp2_with fail
            go_roundg j
            case measure => omega
            case rel => exact ⟨(k : Int) + 1, y, by go_num, HO.out, HI.out, HSX.out, by omega, by omega, by omega, by omega, HB.out⟩
          · have HSX := Lib.hid hs'; clear hs'
            replace HI := Lib.hid (HI.out.trans (by rw [if_neg (by decide), if_neg (by decide), if_neg (by decide), if_neg (by decide)]))
            replace c0 : wr.cell? ⟨g, o + k, none⟩ = some (.string ⟨#[93]⟩) := c0
            go_wp2_with fail
            go_roundg j
            case measure => omega
            case rel => exact ⟨(k : Int) + 1, y, by go_num, HO.out, HI.out, HSX.out, by omega, by omega, by omega, by omega, HB.out⟩
      | stop h hs' =>
          rw [HT.out] at h; cases h
          have HSX := Lib.hid hs'; clear hs'
          replace HI := Lib.hid (HI.out.trans (by rw [if_neg (by decide), if_neg (by decide), if_pos rfl]))
          replace c0 : wr.cell? ⟨g, o + k, none⟩ = some (.string ⟨#[115, 116, 111, 112]⟩) := c0
          go_wp2_with fail
          go_roundg j
          case measure => omega
          case rel => exact ⟨(k : Int) + 1, y, by go_num, HO.out, HI.out, HSX.out, by omega, by omega, by omega, by omega, HB.out⟩
      | cut h hnm hs' =>
          rw [HT.out] at h; cases h
          obtain ⟨t, ht1, ht2, ht3⟩ : ∃ t, tkA l ((k : Int) + 1) = some t ∧ l[k + 1]? = some t ∧ k + 2 ≤ n := by
            unfold nmA at hnm
            cases e : tkA l ((k : Int) + 1) with
            | none => rw [e] at hnm; cases hnm
            | some t =>
              have := tkA_some e
              exact ⟨t, rfl, by rw [← this.2.2, show ((k : Int) + 1).toNat = k + 1 by omega], by omega⟩
          obtain ⟨g', o', e', -, c1⟩ := HV1.out.tx ht2
          cases e'
          clear hnm ht2
          have HP := Lib.hid (l9Put_any wr w.heap.size HB.out.size oa oc y yl t hyl HO.out (by omega))
          rw [ht1, show (some t).getD [] = t from rfl] at HI
          clear ht1
          have HPL := Lib.hid (ptL_len t y)
          have HSX := Lib.hid hs'; clear hs'
          replace HI := Lib.hid (HI.out.trans (by rw [if_neg (by decide), if_pos rfl]))
          replace c0 : wr.cell? ⟨g, o + k, none⟩ = some (.string ⟨#[99, 117, 116]⟩) := c0
          go_wp2_with fail
          refine HP.out.mono ?_; rintro e w2 ⟨v2, rfl, o2, b2⟩
          have HO2 := Lib.hid o2
          have HB2 := Lib.hid (bel_tr HB.out b2 (Nat.le_refl _))
          have HV2 := Lib.hid (HV1.out.below b2)
          clear o2 b2 HP
          generalize hp : ptL t y = y2 at HI HO2 HPL
          clear hp
          go_wp2_with fail
          go_roundg j
          case measure => omega
          case rel => exact ⟨(k : Int) + 2, y2, by go_num, HO2.out, HI.out, HSX.out, by omega, by omega, by have := HPL.out; omega, by omega, HB2.out⟩
      | set h hnm hq hs' =>
          rw [HT.out] at h; cases h
          obtain ⟨t, ht1, ht2, ht3⟩ : ∃ t, tkA l ((k : Int) + 1) = some t ∧ l[k + 1]? = some t ∧ k + 2 ≤ n := by
            unfold nmA at hnm
            cases e : tkA l ((k : Int) + 1) with
            | none => rw [e] at hnm; cases hnm
            | some t =>
              have := tkA_some e
              exact ⟨t, rfl, by rw [← this.2.2, show ((k : Int) + 1).toNat = k + 1 by omega], by omega⟩
          obtain ⟨g', o', e', -, c1⟩ := HV1.out.tx ht2
          cases e'
          clear hnm ht2
          have HP := Lib.hid (l9Put_any wr w.heap.size HB.out.size oa oc y yl t hyl HO.out (by omega))
          rw [ht1, show (some t).getD [] = t from rfl] at HI
          clear ht1
          have HPL := Lib.hid (ptL_len t y)
          replace HI := Lib.hid (HI.out.trans (by rw [if_pos rfl]))
          replace c0 : wr.cell? ⟨g, o + k, none⟩ = some (.string ⟨#[115, 101, 116]⟩) := c0
          go_wp2_with fail
          refine HP.out.mono ?_; rintro e w2 ⟨v2, rfl, o2, b2⟩
          have HO2 := Lib.hid o2
          have HB2 := Lib.hid (bel_tr HB.out b2 (Nat.le_refl _))
          have HV2 := Lib.hid (HV1.out.below b2)
          clear o2 b2 HP
          generalize hp : ptL t y = y2 at HI HO2 HPL
          clear hp
          have HA := Lib.hid (sm_ahd l 1 ((k : Int) + 2))
          have HEE := Lib.hid (HE.out w2 ((k : Int) + 2) ⟨by omega, by omega⟩ HV2.out)
          rw [sm_ed hq] at HEE HI
          generalize smV l 1 ((k : Int) + 2) = x at *
          have hx : (k : Int) + 2 < x ∧ x ≤ n := by have := HA.out; unfold Ahd at this; omega
          have HSX := Lib.hid hs'
          obtain ⟨xn, rfl⟩ : ∃ m : Nat, x = m := ⟨x.toNat, by omega⟩
          rw [show ((xn : Int) - ((k : Int) + 2)).toNat = xn - (k + 2) by omega, show ((k : Int) + 2).toNat = k + 2 by omega] at HI
          clear hs' hq HA
          have hy2 : (y2.length : Int) ≤ (k : Int) + 2 := by have := HPL.out; omega
          go_wp2_with fail
          refine HEE.out.mono ?_; rintro e w3 ⟨rfl, b3⟩
          have HO3 := Lib.hid (HO2.out.next b3)
          have HB3 := Lib.hid (bel_tr HB2.out b3 (Nat.le_refl _)); clear b3
          go_wp2_with fail
          go_loopw [3, 4] (fun ov q wr => ∃ (m : Nat) (y' : List Tk), q = .int .i64 (m : Int) ∧ OT w.heap.size wr ov y' ∧ k + 2 ≤ m ∧ m ≤ xn ∧ nmF l (xn - (k + 2)) (k + 2) y2 = nmF l (xn - m) m y' ∧ y'.length ≤ m ∧ Below w.heap.size w wr) (fun _ q _ => xn - intV q)
          case atStart => exact ⟨k + 2, y2, by go_num, HO3.out, Nat.le_refl _, by omega, rfl, by omega, HB3.out⟩
          case round =>
            obtain ⟨m, y', rfl, ho, hm1, hm2, hnf, hyl2, hbel⟩ := hrel
            have HBm := Lib.hid hbel
            have HVm := Lib.hid (HV.out.below hbel)
            have HOm := Lib.hid ho
            have HNF := Lib.hid hnf
            obtain ⟨oa2, oc2, rfl, hov2⟩ := ho.form
            clear ho hbel hnf hov2 c0
            generalize hyl2' : y'.length = yl2 at *
            by_cases hmx : m < xn
            · have z1 : decide ((m : Int) < (xn : Int)) = true := by simpa using hmx
              have z2 : decide (m < xn) = true := by simpa using hmx
              have z3 : (m : Int) + 1 ≤ 9223372036854775807 := by omega
              obtain ⟨t2, hc2⟩ : ∃ c, l[m]? = some c := ⟨l[m]'(by omega), List.getElem?_eq_getElem _⟩
              have hmn : m < n := by omega
              have z4 : decide ((n : Int) ≤ (m : Int)) = false := by simpa using hmn
              obtain ⟨g2, p2, e2, -, c2⟩ := HVm.out.tx hc2
              cases e2
              have HN2 := Lib.hid (nmS_any t2 wr (by have := HM.out t2 (List.mem_of_getElem? hc2); omega))
              have HF := Lib.hid (HNF.out.trans (show nmF l (xn - m) m y' = nmF l (xn - (m + 1)) (m + 1) (if nmB t2 then ptL t2 y' else y') by rw [show xn - m = (xn - (m + 1)) + 1 by omega]; exact nmF_step hc2))
              have HP2 := Lib.hid (l9Put_any wr w.heap.size HBm.out.size oa2 oc2 y' yl2 t2 hyl2' HOm.out (by omega))
              have HPL2 := Lib.hid (ptL_len t2 y')
              clear hc2 HNF
              generalize nmB t2 = b at *
              go_wp2_with fail
              refine HN2.out.mono ?_; rintro e wn ⟨rfl, rfl⟩
              cases b
              · go_wp2_with fail
                go_roundw
                case rel => exact ⟨m + 1, y', by go_num, HOm.out, by omega, by omega, HF.out, by omega, HBm.out⟩
                case measure => simp [intV]; omega
              · go_wp2_with fail
                refine HP2.out.mono ?_; rintro e w5 ⟨v5, rfl, o5, b5⟩
                have HO5 := Lib.hid o5
                have HB5 := Lib.hid (bel_tr HBm.out b5 (Nat.le_refl _))
                clear o5 b5
                go_wp2_with fail
                go_roundw
                case rel => exact ⟨m + 1, ptL t2 y', by go_num, HO5.out, by omega, by omega, HF.out, by have := HPL2.out; omega, HB5.out⟩
                case measure => simp [intV]; omega
            · obtain rfl : m = xn := by omega
              have z1 : decide ((m : Int) < (m : Int)) = false := by simp
              have HI2 := Lib.hid (HI.out.trans (by rw [HNF.out, Nat.sub_self]; rfl : _ = cnN l j (m : Int) y'))
              go_wp2_with fail
              go_roundg j
              case measure => omega
              case rel => exact ⟨(m : Int), y', rfl, HOm.out, HI2.out, HSX.out, by omega, by omega, by omega, by omega, HBm.out⟩
      | iw h hb hq hs' =>
          rw [HT.out] at h; cases h
          rcases hb with rfl | rfl
          · skip
            replace HI := Lib.hid (HI.out.trans (by rw [if_neg (by decide), if_neg (by decide), if_neg (by decide), if_pos (Or.inl rfl)]))
            replace c0 : wr.cell? ⟨g, o + k, none⟩ = some (.string ⟨#[105, 102]⟩) := c0
            have HA := Lib.hid (sm_ahd l 2 ((k : Int) + 1))
            have HEE := Lib.hid (HE.out wr ((k : Int) + 1) ⟨by omega, by omega⟩ HV1.out)
            rw [sm_ed hq] at HEE HI
            generalize smV l 2 ((k : Int) + 1) = x at *
            have hx : (k : Int) + 1 < x ∧ x ≤ n := by have := HA.out; unfold Ahd at this; omega
            have HSX := Lib.hid hs'
            obtain ⟨xn, rfl⟩ : ∃ m : Nat, x = m := ⟨x.toNat, by omega⟩
            rw [show ((xn : Int) - ((k : Int) + 1)).toNat = xn - (k + 1) by omega, show ((k : Int) + 1).toNat = k + 1 by omega] at HI
            clear hs' hq HA
            have hy2 : (y.length : Int) ≤ (k : Int) + 1 := by omega
            go_wp2_with fail
            refine HEE.out.mono ?_; rintro e w3 ⟨rfl, b3⟩
            have HO3 := Lib.hid (HO.out.next b3)
            have HB3 := Lib.hid (bel_tr HB.out b3 (Nat.le_refl _)); clear b3
            go_wp2_with fail
            go_loopw [3, 4] (fun ov q wr => ∃ (m : Nat) (y' : List Tk), q = .int .i64 (m : Int) ∧ OT w.heap.size wr ov y' ∧ k + 1 ≤ m ∧ m ≤ xn ∧ nmF l (xn - (k + 1)) (k + 1) y = nmF l (xn - m) m y' ∧ y'.length ≤ m ∧ Below w.heap.size w wr) (fun _ q _ => xn - intV q)
            case atStart => exact ⟨k + 1, y, by go_num, HO3.out, Nat.le_refl _, by omega, rfl, by omega, HB3.out⟩
            case round =>
              obtain ⟨m, y', rfl, ho, hm1, hm2, hnf, hyl2, hbel⟩ := hrel
              have HBm := Lib.hid hbel
              have HVm := Lib.hid (HV.out.below hbel)
              have HOm := Lib.hid ho
              have HNF := Lib.hid hnf
              obtain ⟨oa2, oc2, rfl, hov2⟩ := ho.form
              clear ho hbel hnf hov2 c0
              generalize hyl2' : y'.length = yl2 at *
              by_cases hmx : m < xn
              · have z1 : decide ((m : Int) < (xn : Int)) = true := by simpa using hmx
                have z2 : decide (m < xn) = true := by simpa using hmx
                have z3 : (m : Int) + 1 ≤ 9223372036854775807 := by omega
                obtain ⟨t2, hc2⟩ : ∃ c, l[m]? = some c := ⟨l[m]'(by omega), List.getElem?_eq_getElem _⟩
                have hmn : m < n := by omega
                have z4 : decide ((n : Int) ≤ (m : Int)) = false := by simpa using hmn
                obtain ⟨g2, p2, e2, -, c2⟩ := HVm.out.tx hc2
                cases e2
                have HN2 := Lib.hid (nmS_any t2 wr (by have := HM.out t2 (List.mem_of_getElem? hc2); omega))
                have HF := Lib.hid (HNF.out.trans (show nmF l (xn - m) m y' = nmF l (xn - (m + 1)) (m + 1) (if nmB t2 then ptL t2 y' else y') by rw [show xn - m = (xn - (m + 1)) + 1 by omega]; exact nmF_step hc2))
                have HP2 := Lib.hid (l9Put_any wr w.heap.size HBm.out.size oa2 oc2 y' yl2 t2 hyl2' HOm.out (by omega))
                have HPL2 := Lib.hid (ptL_len t2 y')
                clear hc2 HNF
                generalize nmB t2 = b at *
                go_wp2_with fail
                refine HN2.out.mono ?_; rintro e wn ⟨rfl, rfl⟩
                cases b
                · go_wp2_with fail
                  go_roundw
                  case rel => exact ⟨m + 1, y', by go_num, HOm.out, by omega, by omega, HF.out, by omega, HBm.out⟩
                  case measure => simp [intV]; omega
                · go_wp2_with fail
                  refine HP2.out.mono ?_; rintro e w5 ⟨v5, rfl, o5, b5⟩
                  have HO5 := Lib.hid o5
                  have HB5 := Lib.hid (bel_tr HBm.out b5 (Nat.le_refl _))
                  clear o5 b5
                  go_wp2_with fail
                  go_roundw
                  case rel => exact ⟨m + 1, ptL t2 y', by go_num, HO5.out, by omega, by omega, HF.out, by have := HPL2.out; omega, HB5.out⟩
                  case measure => simp [intV]; omega
              · obtain rfl : m = xn := by omega
                have z1 : decide ((m : Int) < (m : Int)) = false := by simp
                have HI2 := Lib.hid (HI.out.trans (by rw [HNF.out, Nat.sub_self]; rfl : _ = cnN l j (m : Int) y'))
                go_wp2_with fail
                go_roundg j
                case measure => omega
                case rel => exact ⟨(m : Int), y', rfl, HOm.out, HI2.out, HSX.out, by omega, by omega, by omega, by omega, HBm.out⟩
          · skip
            replace HI := Lib.hid (HI.out.trans (by rw [if_neg (by decide), if_neg (by decide), if_neg (by decide), if_pos (Or.inr rfl)]))
            replace c0 : wr.cell? ⟨g, o + k, none⟩ = some (.string ⟨#[119, 104, 105, 108, 101]⟩) := c0
            have HA := Lib.hid (sm_ahd l 2 ((k : Int) + 1))
            have HEE := Lib.hid (HE.out wr ((k : Int) + 1) ⟨by omega, by omega⟩ HV1.out)
            rw [sm_ed hq] at HEE HI
            generalize smV l 2 ((k : Int) + 1) = x at *
            have hx : (k : Int) + 1 < x ∧ x ≤ n := by have := HA.out; unfold Ahd at this; omega
            have HSX := Lib.hid hs'
            obtain ⟨xn, rfl⟩ : ∃ m : Nat, x = m := ⟨x.toNat, by omega⟩
            rw [show ((xn : Int) - ((k : Int) + 1)).toNat = xn - (k + 1) by omega, show ((k : Int) + 1).toNat = k + 1 by omega] at HI
            clear hs' hq HA
            have hy2 : (y.length : Int) ≤ (k : Int) + 1 := by omega
            go_wp2_with fail
            refine HEE.out.mono ?_; rintro e w3 ⟨rfl, b3⟩
            have HO3 := Lib.hid (HO.out.next b3)
            have HB3 := Lib.hid (bel_tr HB.out b3 (Nat.le_refl _)); clear b3
            go_wp2_with fail
            go_loopw [3, 4] (fun ov q wr => ∃ (m : Nat) (y' : List Tk), q = .int .i64 (m : Int) ∧ OT w.heap.size wr ov y' ∧ k + 1 ≤ m ∧ m ≤ xn ∧ nmF l (xn - (k + 1)) (k + 1) y = nmF l (xn - m) m y' ∧ y'.length ≤ m ∧ Below w.heap.size w wr) (fun _ q _ => xn - intV q)
            case atStart => exact ⟨k + 1, y, by go_num, HO3.out, Nat.le_refl _, by omega, rfl, by omega, HB3.out⟩
            case round =>
              obtain ⟨m, y', rfl, ho, hm1, hm2, hnf, hyl2, hbel⟩ := hrel
              have HBm := Lib.hid hbel
              have HVm := Lib.hid (HV.out.below hbel)
              have HOm := Lib.hid ho
              have HNF := Lib.hid hnf
              obtain ⟨oa2, oc2, rfl, hov2⟩ := ho.form
              clear ho hbel hnf hov2 c0
              generalize hyl2' : y'.length = yl2 at *
              by_cases hmx : m < xn
              · have z1 : decide ((m : Int) < (xn : Int)) = true := by simpa using hmx
                have z2 : decide (m < xn) = true := by simpa using hmx
                have z3 : (m : Int) + 1 ≤ 9223372036854775807 := by omega
                obtain ⟨t2, hc2⟩ : ∃ c, l[m]? = some c := ⟨l[m]'(by omega), List.getElem?_eq_getElem _⟩
                have hmn : m < n := by omega
                have z4 : decide ((n : Int) ≤ (m : Int)) = false := by simpa using hmn
                obtain ⟨g2, p2, e2, -, c2⟩ := HVm.out.tx hc2
                cases e2
                have HN2 := Lib.hid (nmS_any t2 wr (by have := HM.out t2 (List.mem_of_getElem? hc2); omega))
                have HF := Lib.hid (HNF.out.trans (show nmF l (xn - m) m y' = nmF l (xn - (m + 1)) (m + 1) (if nmB t2 then ptL t2 y' else y') by rw [show xn - m = (xn - (m + 1)) + 1 by omega]; exact nmF_step hc2))
                have HP2 := Lib.hid (l9Put_any wr w.heap.size HBm.out.size oa2 oc2 y' yl2 t2 hyl2' HOm.out (by omega))
                have HPL2 := Lib.hid (ptL_len t2 y')
                clear hc2 HNF
                generalize nmB t2 = b at *
                go_wp2_with fail
                refine HN2.out.mono ?_; rintro e wn ⟨rfl, rfl⟩
                cases b
                · go_wp2_with fail
                  go_roundw
                  case rel => exact ⟨m + 1, y', by go_num, HOm.out, by omega, by omega, HF.out, by omega, HBm.out⟩
                  case measure => simp [intV]; omega
                · go_wp2_with fail
                  refine HP2.out.mono ?_; rintro e w5 ⟨v5, rfl, o5, b5⟩
                  have HO5 := Lib.hid o5
                  have HB5 := Lib.hid (bel_tr HBm.out b5 (Nat.le_refl _))
                  clear o5 b5
                  go_wp2_with fail
                  go_roundw
                  case rel => exact ⟨m + 1, ptL t2 y', by go_num, HO5.out, by omega, by omega, HF.out, by have := HPL2.out; omega, HB5.out⟩
                  case measure => simp [intV]; omega
              · obtain rfl : m = xn := by omega
                have z1 : decide ((m : Int) < (m : Int)) = false := by simp
                have HI2 := Lib.hid (HI.out.trans (by rw [HNF.out, Nat.sub_self]; rfl : _ = cnN l j (m : Int) y'))
                go_wp2_with fail
                go_roundg j
                case measure => omega
                case rel => exact ⟨(m : Int), y', rfl, HOm.out, HI2.out, HSX.out, by omega, by omega, by omega, by omega, HBm.out⟩
    · obtain rfl : k = n := by omega
      have t1 : decide ((k : Int) < (k : Int)) = false := by simp
      have HZ := Lib.hid (HC.out.trans (show cnN l gk (k : Int) y = y from (by cases gk with | zero => rfl | succ j => rw [cnN, tkA_out (by omega)])))
      go_wp2_with fail
      go_ret
      exact ⟨_, rfl, by rw [HZ.out]; exact HO.out, HB.out⟩
end Go.Proofs.YtkhmbmcomgclaaaGreatDoor.Cl
namespace Go.Proofs.YtkhmbmcomgclaaaGreatDoor.Cl
open Go.RowKit Wd Rp Kp
set_option linter.unusedVariables false
theorem tk_irr (a : Tk) : ¬ a < a := List.lt_irrefl a
theorem tk_tr {a b c : Tk} (h : a < b) (k : b < c) : a < c := List.lt_trans h k
theorem tk_as {a b : Tk} (h : a < b) : ¬ b < a := fun k => tk_irr a (tk_tr h k)
theorem tk_le {a b : Tk} : a ≤ b ↔ ¬ b < a := Iff.rfl
theorem tk_tri {a b : Tk} (h : ¬ a < b) (k : ¬ b < a) : a = b := List.le_antisymm k h
theorem tk_lt_of {a b : Tk} (h : a ≤ b) (k : a ≠ b) : a < b := Decidable.byContradiction fun e => k (List.le_antisymm h e)
def AscT (l : List Tk) : Prop := l.Pairwise (· < ·)
theorem ascT_eq : ∀ {l m : List Tk}, AscT l → AscT m → (∀ t, t ∈ l ↔ t ∈ m) → l = m
  | [], [], _, _, _ => rfl
  | [], b :: m, _, _, h => absurd ((h b).2 (by simp)) (by simp)
  | a :: l, [], _, _, h => absurd ((h a).1 (by simp)) (by simp)
  | a :: l, b :: m, hl, hm, h => by
    obtain ⟨l1, l2⟩ := List.pairwise_cons.1 hl
    obtain ⟨m1, m2⟩ := List.pairwise_cons.1 hm
    have e : a = b := by
      rcases List.mem_cons.1 ((h a).1 (by simp)) with e | e
      · exact e
      · rcases List.mem_cons.1 ((h b).2 (by simp)) with e2 | e2
        · exact e2.symm
        · exact absurd (l1 _ e2) (tk_as (m1 _ e))
    subst e
    congr 1
    refine ascT_eq l2 m2 fun t => ⟨fun ht => ?_, fun ht => ?_⟩
    · rcases List.mem_cons.1 ((h t).1 (List.mem_cons_of_mem _ ht)) with e | e
      · subst e; exact absurd (l1 _ ht) (tk_irr t)
      · exact e
    · rcases List.mem_cons.1 ((h t).2 (List.mem_cons_of_mem _ ht)) with e | e
      · subst e; exact absurd (m1 _ ht) (tk_irr t)
      · exact e
theorem cpt_in {zs : List Tk} (j : Nat) (hj : j < zs.length) : zs.toArray[j]! ∈ Lib.compact zs := by
  induction j with
  | zero =>
    unfold Lib.compact Lib.compactUpTo
    exact List.mem_map.2 ⟨0, List.mem_filter.2 ⟨List.mem_range.2 hj, by simp [Lib.keeps]⟩, rfl⟩
  | succ j ih =>
    by_cases he : zs.toArray[j + 1]! = zs.toArray[j]!
    · rw [he]; exact ih (by omega)
    · unfold Lib.compact Lib.compactUpTo
      exact List.mem_map.2 ⟨j + 1, List.mem_filter.2 ⟨List.mem_range.2 hj, Lib.keeps_pos (by simpa using he)⟩, rfl⟩
theorem cpt_mem {zs : List Tk} {t : Tk} : t ∈ Lib.compact zs ↔ t ∈ zs := by
  constructor
  · intro h
    unfold Lib.compact Lib.compactUpTo at h
    obtain ⟨j, h1, rfl⟩ := List.mem_map.1 h
    have hj := List.mem_range.1 (List.mem_filter.1 h1).1
    have : zs.toArray[j]! = zs[j] := by simp [hj]
    rw [this]; exact List.getElem_mem _
  · intro h
    obtain ⟨j, hj, rfl⟩ := List.mem_iff_getElem.1 h
    have : zs.toArray[j]! = zs[j] := by simp [hj]
    rw [← this]; exact cpt_in j hj
theorem cpt_asc {zs : List Tk} (h : zs.Pairwise (· ≤ ·)) : AscT (Lib.compact zs) := by
  unfold AscT Lib.compact Lib.compactUpTo
  rw [List.pairwise_map]
  have h0 : ((List.range zs.length).filter (Lib.keeps zs.toArray)).Pairwise (· < ·) := List.Pairwise.filter _ List.pairwise_lt_range
  refine h0.imp_of_mem fun {i j} hi hj hij => ?_
  have hjl := List.mem_range.1 (List.mem_filter.1 hj).1
  have hk := (List.mem_filter.1 hj).2
  have ge : ∀ k, (hk : k < zs.length) → zs.toArray[k]! = zs[k] := fun k hk => by simp [hk]
  have hle : ∀ a b (ha : a < zs.length) (hb : b < zs.length), a ≤ b → zs[a] ≤ zs[b] := fun a b ha hb hab => by
    rcases Nat.lt_or_eq_of_le hab with e | e
    · exact List.pairwise_iff_getElem.1 h a b ha hb e
    · subst e; exact List.le_refl _
  have hne : zs[j] ≠ zs[j - 1]'(by omega) := by
    unfold Lib.keeps at hk
    have := of_decide_eq_true hk
    rcases this with e | e
    · omega
    · rw [ge _ hjl, ge _ (by omega)] at e; exact e
  rw [ge _ hjl, ge _ (by omega)]
  have h1 := hle i (j - 1) (by omega) (by omega) (by omega)
  have h2 := tk_lt_of (hle (j - 1) j (by omega) hjl (by omega)) hne.symm
  exact List.lt_of_le_of_lt h1 h2
theorem srt_le (zs : List Tk) : (zs.mergeSort fun x y => decide (x ≤ y)).Pairwise (· ≤ ·) := by
  have := List.pairwise_mergeSort (le := fun x y : Tk => decide (x ≤ y)) (fun a b c h1 h2 => by simp at *; exact List.le_trans h1 h2) (fun a b => by simp; exact List.le_total a b) zs
  exact this.imp fun h => by simpa using h
theorem srt_mem {zs : List Tk} {t : Tk} : t ∈ (zs.mergeSort fun x y => decide (x ≤ y)) ↔ t ∈ zs := (List.mergeSort_perm zs _).mem_iff
theorem bl_lt {a b : Tk} : Op.bytesLess a b = true ↔ a < b := by rw [bytesLess_eq]; simp
theorem pfx_le (s : Tk) : ∀ l : List Tk, pfx s l ≤ l.length
  | [] => Nat.le_refl _
  | x :: r => by
    unfold pfx
    split
    · have := pfx_le s r; simp; exact this
    · exact Nat.zero_le _
theorem pfx_cons {s x : Tk} {r : List Tk} : pfx s (x :: r) = if Op.bytesLess x s then pfx s r + 1 else 0 := rfl
theorem ptL_nil (s : Tk) : ptL s [] = [s] := rfl
theorem ptL_cons (s x : Tk) (r : List Tk) : ptL s (x :: r) = if x < s then x :: ptL s r else if x = s then x :: r else s :: x :: r := by
  unfold ptL
  rw [pfx_cons]
  by_cases h : x < s
  · rw [if_pos (bl_lt.2 h), if_pos h]
    simp only [List.getElem?_cons_succ, List.take_succ_cons, List.drop_succ_cons]
    split <;> rfl
  · rw [if_neg (fun e => h (bl_lt.1 e)), if_neg h]
    simp only [List.getElem?_cons_zero, List.take_zero, List.drop_zero, List.nil_append, Option.some.injEq]
    split <;> rfl
theorem ptL_mem {s t : Tk} : ∀ {l : List Tk}, t ∈ ptL s l ↔ t = s ∨ t ∈ l
  | [] => by rw [ptL_nil]; simp
  | x :: r => by
    rw [ptL_cons]
    split
    · rw [List.mem_cons, List.mem_cons, ptL_mem]
      constructor <;> rintro (h | h | h) <;> simp [h]
    · split
      · rename_i e; subst e
        rw [List.mem_cons]; constructor
        · rintro (h | h) <;> simp [h]
        · rintro (h | h | h) <;> simp [h]
      · rw [List.mem_cons, List.mem_cons]
theorem ptL_asc {s : Tk} : ∀ {l : List Tk}, AscT l → AscT (ptL s l)
  | [], _ => by rw [ptL_nil]; exact List.pairwise_singleton _ _
  | x :: r, h => by
    obtain ⟨h1, h2⟩ := List.pairwise_cons.1 h
    rw [ptL_cons]
    split
    · rename_i hx
      refine List.pairwise_cons.2 ⟨fun t ht => ?_, ptL_asc h2⟩
      rcases ptL_mem.1 ht with e | e
      · subst e; exact hx
      · exact h1 t e
    · rename_i hx
      split
      · exact h
      · rename_i he
        have hs : s < x := Decidable.byContradiction fun e => he (tk_tri hx e)
        refine List.pairwise_cons.2 ⟨fun t ht => ?_, h⟩
        rcases List.mem_cons.1 ht with e | e
        · subst e; exact hs
        · exact tk_tr hs (h1 t e)
/-- Texts put one by one. -/
def ptA (xs o : List Tk) : List Tk := xs.foldl (fun o t => ptL t o) o
theorem ptA_cons (x : Tk) (xs o : List Tk) : ptA (x :: xs) o = ptA xs (ptL x o) := rfl
theorem ptA_app (xs ys o : List Tk) : ptA (xs ++ ys) o = ptA ys (ptA xs o) := List.foldl_append
theorem ptA_mem {t : Tk} : ∀ {xs o : List Tk}, t ∈ ptA xs o ↔ t ∈ xs ∨ t ∈ o
  | [], o => by simp [ptA]
  | x :: xs, o => by
    rw [ptA_cons, ptA_mem, ptL_mem, List.mem_cons]
    constructor
    · rintro (h | h | h) <;> simp [h]
    · rintro ((h | h) | h) <;> simp [h]
theorem ptA_asc : ∀ {xs o : List Tk}, AscT o → AscT (ptA xs o)
  | [], o, h => h
  | x :: xs, o, h => ptA_asc (xs := xs) (ptL_asc h)
/-- What sort and compact leave of texts is what putting them one by one leaves. -/
theorem cpt_put (xs : List Tk) : Lib.compact (xs.mergeSort fun x y => decide (x ≤ y)) = ptA xs [] :=
  ascT_eq (cpt_asc (srt_le xs)) (ptA_asc List.Pairwise.nil) fun t => by rw [cpt_mem, srt_mem, ptA_mem]; simp
end Go.Proofs.YtkhmbmcomgclaaaGreatDoor.Cl
namespace Go.Proofs.YtkhmbmcomgclaaaGreatDoor.Cl
open Go.RowKit Wd Rp Kp
set_option linter.unusedVariables false
/-- The names that are read of a statement, of statements. -/
def rcN (r : Rc) : List Tk := [r.1].filter nmB ++ r.2.filter nmB
def nms (F : List Rc) : List Tk := F.flatMap rcN
theorem nmF_put (l : List Tk) : ∀ (c k : Nat) (o : List Tk), k + c ≤ l.length → nmF l c k o = ptA (((l.drop k).take c).filter nmB) o
  | 0, k, o, _ => by simp [nmF, ptA]
  | c + 1, k, o, h => by
    have hk : k < l.length := by omega
    rw [nmF, List.getElem?_eq_getElem hk]
    dsimp only
    rw [nmF_put l c (k + 1) _ (by omega), List.drop_eq_getElem_cons hk, List.take_succ_cons]
    by_cases hb : nmB l[k] = true
    · rw [if_pos hb, List.filter_cons_of_pos hb, ptA_cons]
    · rw [if_neg hb, List.filter_cons_of_neg hb]
theorem nmF_sm {l : List Tk} {kind i : Int} (h0 : 0 ≤ i) (h : smV l kind i ≠ -1) (o : List Tk) : nmF l (edV l i - i).toNat i.toNat o = ptA ((smT l i).filter nmB) o := by
  obtain ⟨h1, h2⟩ := sm_ahead h
  have ha := sm_ahd l kind i
  unfold Ahd at ha
  unfold smT
  cases e : enA l i with
  | none => rw [edV_none e] at h2; omega
  | some m =>
    have e2 := edV_some e
    dsimp only
    rw [show (edV l i - i).toNat = m by omega]
    exact nmF_put l m i.toNat o (by omega)
theorem scr_nm {l : List Tk} {i : Int} {F : List Rc} (h : ScR l i F) : ∀ (n : Nat) (o : List Tk), (l.length : Int) - i < n → cnN l n i o = ptA (nms F) o := by
  induction h with
  | fin =>
    intro n o _
    cases n with
    | zero => simp [cnN, nms, ptA]
    | succ n => rw [cnN, tkA_out (by omega)]; simp [nms, ptA]
  | @br i s F h hs hr ih =>
    intro n o hn
    have := tkA_some h
    obtain ⟨n, rfl⟩ : ∃ k, n = k + 1 := ⟨n - 1, by omega⟩
    rw [cnN, h]
    dsimp only
    rw [← ih n o (by omega)]
    rcases hs with rfl | rfl <;> simp [setT, cutT, stopT, ifT, whT]
  | @set i F h hm hn2 hr ih =>
    intro n o hn
    have := tkA_some h
    obtain ⟨n, rfl⟩ : ∃ k, n = k + 1 := ⟨n - 1, by omega⟩
    obtain ⟨h1, h2⟩ := sm_ahead hn2
    have hk : nmB (tkN l (i + 1)) = true := by
      unfold nmA at hm
      unfold tkN
      cases e : tkA l (i + 1) with
      | none => rw [e] at hm; cases hm
      | some t => rw [e] at hm; exact hm
    rw [cnN, h]
    dsimp only
    rw [if_pos rfl, nmF_sm (by omega) hn2, h2, ih n _ (by omega)]
    show _ = ptA (rcN (tkN l (i + 1), smT l (i + 2)) ++ nms F) o
    rw [ptA_app]
    unfold rcN
    dsimp only
    rw [List.filter_cons_of_pos hk, ptA_app]; rfl
  | @cut i F h hm hr ih =>
    intro n o hn
    have := tkA_some h
    obtain ⟨n, rfl⟩ : ∃ k, n = k + 1 := ⟨n - 1, by omega⟩
    have hk : nmB (tkN l (i + 1)) = true := by
      unfold nmA at hm
      unfold tkN
      cases e : tkA l (i + 1) with
      | none => rw [e] at hm; cases hm
      | some t => rw [e] at hm; exact hm
    rw [cnN, h]
    dsimp only
    rw [if_neg (by decide), if_pos rfl, ih n _ (by omega)]
    show _ = ptA (rcN (tkN l (i + 1), []) ++ nms F) o
    rw [ptA_app]
    unfold rcN
    dsimp only
    rw [List.filter_cons_of_pos hk]; rfl
  | @stop i F h hr ih =>
    intro n o hn
    have := tkA_some h
    obtain ⟨n, rfl⟩ : ∃ k, n = k + 1 := ⟨n - 1, by omega⟩
    rw [cnN, h]
    dsimp only
    rw [if_neg (by decide), if_neg (by decide), if_pos rfl, ih n _ (by omega)]
    show _ = ptA (rcN ([], []) ++ nms F) o
    rw [ptA_app]
    unfold rcN
    rw [List.filter_cons_of_neg (by rw [nmB_nil]; simp)]; rfl
  | @iw i s F h hs hn2 hr ih =>
    intro n o hn
    have := tkA_some h
    obtain ⟨n, rfl⟩ : ∃ k, n = k + 1 := ⟨n - 1, by omega⟩
    obtain ⟨h1, h2⟩ := sm_ahead hn2
    rw [cnN, h]
    dsimp only
    rw [if_neg (by rcases hs with rfl | rfl <;> decide), if_neg (by rcases hs with rfl | rfl <;> decide), if_neg (by rcases hs with rfl | rfl <;> decide), if_pos hs, nmF_sm (by omega) hn2, h2, ih n _ (by omega)]
    show _ = ptA (rcN ([], smT l (i + 1)) ++ nms F) o
    rw [ptA_app]
    unfold rcN
    dsimp only
    rw [List.filter_cons_of_neg (by rw [nmB_nil]; simp)]; rfl
/-- What NamesIn gives are the names that are read, put one by one. -/
theorem nn_is (l : List Tk) : nnR l = if rcB l then ptA (nms (rcR l)) [] else [] := by
  unfold nnR
  split
  · rename_i h
    exact scr_nm (rcB_scr h) _ [] (by omega)
  · rfl
/-- What is named is one of the tokens. -/
theorem sm_mem {l : List Tk} {i : Int} {t : Tk} (h : t ∈ smT l i) : t ∈ l := by
  unfold smT at h
  split at h
  · exact List.mem_of_mem_drop (List.mem_of_mem_take h)
  · cases h
theorem tkN_mem {l : List Tk} {i : Int} (h : nmA l i = true) : tkN l i ∈ l := by
  unfold nmA at h
  unfold tkN
  cases e : tkA l i with
  | none => rw [e] at h; cases h
  | some s => exact List.mem_of_getElem? (tkA_some e).2.2
theorem nms_mem {l : List Tk} {i : Int} {F : List Rc} (h : ScR l i F) : ∀ t, t ∈ nms F → t ∈ l ∧ nmB t = true := by
  have key : ∀ (r : Rc) (F : List Rc), (∀ t, t ∈ nms F → t ∈ l ∧ nmB t = true) → (∀ t, t ∈ rcN r → t ∈ l) → ∀ t, t ∈ nms (r :: F) → t ∈ l ∧ nmB t = true := fun r F h1 h2 t ht => by
    unfold nms at ht
    rw [List.flatMap_cons] at ht
    rcases List.mem_append.1 ht with e | e
    · refine ⟨h2 t e, ?_⟩
      unfold rcN at e
      rcases List.mem_append.1 e with e | e
      · exact (List.mem_filter.1 e).2
      · exact (List.mem_filter.1 e).2
    · exact h1 t e
  have one : ∀ (a : Tk) (i : Int), (nmB a = true → a ∈ l) → ∀ t, t ∈ rcN (a, smT l i) → t ∈ l := fun a i ha t ht => by
    unfold rcN at ht
    rcases List.mem_append.1 ht with e | e
    · obtain ⟨e1, e2⟩ := List.mem_filter.1 e
      have : t = a := by simpa using e1
      subst this; exact ha e2
    · exact sm_mem (List.mem_filter.1 e).1
  have two : ∀ (a : Tk), (nmB a = true → a ∈ l) → ∀ t, t ∈ rcN (a, []) → t ∈ l := fun a ha t ht => by
    unfold rcN at ht
    rcases List.mem_append.1 ht with e | e
    · obtain ⟨e1, e2⟩ := List.mem_filter.1 e
      have : t = a := by simpa using e1
      subst this; exact ha e2
    · simp at e
  induction h with
  | fin => intro t ht; simp [nms] at ht
  | br h hs hr ih => exact ih
  | set h hm hn hr ih => exact key _ _ ih (one _ _ fun _ => tkN_mem hm)
  | cut h hm hr ih => exact key _ _ ih (two _ fun _ => tkN_mem hm)
  | stop h hr ih => exact key _ _ ih (two _ fun e => by rw [nmB_nil] at e; cases e)
  | iw h hs hn hr ih => exact key _ _ ih (one _ _ fun e => by rw [nmB_nil] at e; cases e)
/-- The names of a recipe ascend, and stand in it. -/
theorem nn_asc (l : List Tk) : AscT (nnR l) := by
  rw [nn_is]
  split
  · exact ptA_asc List.Pairwise.nil
  · exact List.Pairwise.nil
theorem nn_mem {l : List Tk} {t : Tk} (h : t ∈ nnR l) : t ∈ l ∧ nmB t = true := by
  rw [nn_is] at h
  split at h
  · rename_i hr
    rw [ptA_mem] at h
    rcases h with h | h
    · exact nms_mem (rcB_scr hr) t h
    · cases h
  · cases h
end Go.Proofs.YtkhmbmcomgclaaaGreatDoor.Cl
namespace Go.Proofs.YtkhmbmcomgclaaaGreatDoor.Cl
open Go.RowKit Wd Rp Cu Kp
set_option linter.unusedVariables false
set_option maxHeartbeats 1000000 in
set_option maxRecDepth 100000 in
theorem specNames_big (w : World) (a : Option Addr) (cap : Nat) (l : List Tk) (n : Nat) (hn : l.length = n) (hv : V1 w a cap (txL l)) (hl : n ≤ 4194304) (hm : ∀ s ∈ l, s.length ≤ 4194304) (hbig : 120 < n) :
    Calls Tryz.prog 23 #[.slice a n cap] w fun e w' => ∃ v, e = .returned v ∧ OT w.heap.size w' v (nnR l) ∧ Below w.heap.size w w' := by
  have HO0 := Lib.hid (show OT w.heap.size (w.alloc (.cells #[] 9)) (.slice (some ⟨w.heap.size, 0, none⟩) 0 0) [] from O1.start (Nat.le_refl _))
  have HB0 := Lib.hid (bel1 w (.cells #[] 9))
  have hno : rcB l = false := by unfold rcB; rw [if_neg (by omega)]
  have HR := Lib.hid (specRecipeOk_any _ a cap l n hn (hv.below HB0.out) hl hm)
  have HX := Lib.hid (show nnR l = [] by unfold nnR; rw [hno]; rfl)
  rw [hno] at HR
  clear hv hm hno
  generalize nnR l = r at *
  go_enter Tryz.func23, Tryz.ntmps23
  go_wp2_with fail
  refine HR.out.mono ?_; rintro e w1 ⟨rfl, b1⟩
  have HO1 := Lib.hid (HO0.out.next b1)
  have B1 := Lib.hid (bel_tr HB0.out b1 (Nat.le_refl _)); clear b1
  go_wp2_with fail
  go_ret
  exact ⟨_, rfl, by rw [HX.out]; exact HO1.out, B1.out⟩
theorem specNames_all (w : World) (a : Option Addr) (cap : Nat) (l : List Tk) (n : Nat) (hn : l.length = n) (hv : V1 w a cap (txL l)) (hl : n ≤ 4194304) (hm : ∀ s ∈ l, s.length ≤ 4194304) :
    Calls Tryz.prog 23 #[.slice a n cap] w fun e w' => ∃ v, e = .returned v ∧ OT w.heap.size w' v (nnR l) ∧ Below w.heap.size w w' := by
  by_cases hb : 120 < n
  · exact specNames_big w a cap l n hn hv hl hm hb
  · exact specNamesIn_any w a cap l n hn hv (by omega) hm
end Go.Proofs.YtkhmbmcomgclaaaGreatDoor.Cl
