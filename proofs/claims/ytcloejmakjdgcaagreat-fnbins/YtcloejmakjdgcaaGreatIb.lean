/-
  spec.l7Bins, spec.BinsOf: the bins of a row; laws.likeBins. (Made by gen_ib.py.)
-/
import Derived.Test.YtcloejmakjdgcaaGreatIa
import Derived.Test.YtcloejmakjdgcaaGreatWa
import Derived.Test.YtcloejmakjdgcaaGreatKs
namespace Go.Proofs.YtcloejmakjdgcaaGreat.Cl
open Go.RowKit Wd Rp Kp Ra
set_option linter.unusedVariables false
theorem step_append_bins {ops : Array Oper} {o : Oper} {a : Act} {Q : Exit → Act → World → Prop} {K : Act → World → Prop} {w : World} (hw : Region.wanted o (yielded ops a.tmps) = true) (s x : Operand)
    (ho : o.op = .call { callee := .builtin .append, args := #[s, x], argTypes := #[30, 30] })
    {base : Nat} {v : Value} {ad : Option Addr} {cap n : Nat} {l m : List Bi} (hs : a.eval s = v) (hx : a.eval x = .slice ad n cap) (hmn : m.length = n) (hown : OwI base w v l) (hy : VwI w ad cap m) (hlen : l.length + m.length ≤ 10000000) (hbase : base ≤ w.heap.size)
    (h : ∀ v' w', OwI base w' v' (l ++ m) → w.grownBy w' v.ownBlock → K (a.put o.dst v') w') :
    if Region.wanted o (yielded ops a.tmps) = true then Oper.wp Tryz.prog o a w K Q else K (a.put o.dst undef) w := by
  rw [if_pos hw]
  subst hmn
  obtain ⟨v', w', hr, h2, h3, -⟩ := run_append_bins o.type hown hy hlen hbase
  unfold Oper.wp execOp
  simp only [ho, resolve, invoke, builtin, Sem.run_bind, Sem.run_pure, Result.andThen_ok, List.map_toArray, List.map_cons, List.map_nil, hs, hx, hr]
  exact h v' w' h2 h3
def BiPost (l : List Bi) (w : World) (e : Ending) (w' : World) : Prop := ∃ v, e = .returned v ∧ OwI w.heap.size w' v l ∧ Below w.heap.size w w'
theorem bs_no {R : ByteArray} {T : Int} {s : ByteArray × List Bi} {c : Cel} (h : (c.r.toList == R.toList) = false) : binStep R T s c = s := by unfold binStep; rw [h]; rfl
theorem bs_late {R : ByteArray} {T : Int} {s : ByteArray × List Bi} {c : Cel} (h : T < c.t) : binStep R T s c = s := by unfold binStep; rw [decide_eq_false (by omega)]; simp
theorem bs_again {R : ByteArray} {T : Int} {s : ByteArray × List Bi} {c : Cel} (h : (c.b.toList == s.1.toList) = true) : binStep R T s c = s := by unfold binStep; rw [h]; simp
theorem bs_new {R : ByteArray} {T : Int} {s : ByteArray × List Bi} {c : Cel} (h1 : (c.r.toList == R.toList) = true) (h2 : ¬ T < c.t) (h3 : (c.b.toList == s.1.toList) = false) : binStep R T s c = (c.b, if c.g then s.2 else s.2 ++ [⟨c.b, c.v⟩]) := by
  unfold binStep; rw [h1, h3, decide_eq_true (by omega)]; rfl
set_option maxRecDepth 100000 in
set_option maxHeartbeats 8000000 in
theorem l7Bins_any {B : Nat} {hv sv : Value} {h : List Cel} {ss : List (List Cel)} (R : ByteArray) (T : Int) (w : World) (ow : OwB B w hv sv h ss) (hok : okB h ss = true) :
    Calls Tryz.prog 41 #[.agg #[hv, sv], .string R, .int .i64 T] w (BiPost (binsL R T (mgA h ss)) w) := by
  obtain ⟨a, ca, sa, sc, hs, rfl, rfl, hv, hvs⟩ := ow.view
  obtain ⟨ht1, ht2⟩ := okB_tot hok
  have hsn5 := (okB_iff.1 hok).2.1
  have hml := mgA_len ss h
  have HLN := Lib.hid (show ∀ l ∈ ss, l.length ≤ 300 from fun l hl => Nat.le_trans (okL_iff.1 ((okB_iff.1 hok).2.2 l hl).2).2 (by decide))
  have H0 := Lib.hid (bel2 w (.cells #[.slice a h.length ca, .slice sa ss.length sc] 27) (.cells #[] 48))
  have HC := Lib.hid (l6All_any _ a sa ca sc _ _ h hs ss rfl rfl (hv.below H0.out) (hvs.below H0.out) (by omega) (by omega) HLN.out (by omega))
  have HI := Lib.hid (show OwI w.heap.size ((w.alloc (.cells #[.slice a h.length ca, .slice sa ss.length sc] 27)).alloc (.cells #[] 48)) (.slice (some ⟨w.heap.size + 1, 0, none⟩) 0 0) [] from by
    have := OwI.start (B := w.heap.size) (w := w.alloc (.cells #[.slice a h.length ca, .slice sa ss.length sc] 27)) (by simp)
    rwa [World.size_alloc] at this)
  clear ow hok hv hvs
  generalize h.length = n0 at *
  generalize ss.length = n1 at *
  go_enter Tryz.func41, Tryz.ntmps41
  go_wp2_with fail
  refine HC.out.mono ?_; rintro e w1 ⟨v, rfl, o1, b1⟩
  obtain ⟨all, hall⟩ : ∃ l, mgA h ss = l := ⟨_, rfl⟩
  rw [hall] at o1 hml
  have HALL := Lib.hid hall
  have HI1 := Lib.hid (HI.out.next b1)
  have A1 := Lib.hid (o1.mono H0.out.size)
  have B1 := Lib.hid (bel_tr H0.out b1 (Nat.le_refl _))
  obtain ⟨va, vc, rfl, -, -⟩ := o1.view
  have hnl : all.length ≤ 1200 := by omega
  generalize hn : all.length = n at *
  have HN := Lib.hid hn
  clear o1 b1 HI HC H0 hn hall
  go_wp2_with fail
  go_loopw [7, 9, 10, 11] (fun s7 s9 s10 _ wr => ∃ k : Nat, k ≤ n ∧ s10 = .int .i64 (k : Int) ∧ s9 = .string (binF R T (all.take k)).1 ∧ OwI w.heap.size wr s7 (binF R T (all.take k)).2 ∧ OwC w.heap.size wr (.slice va n vc) all ∧ Below w.heap.size w wr) (fun _ _ s10 _ _ => n - intV s10)
  case atStart => exact ⟨0, Nat.zero_le _, rfl, rfl, HI1.out, A1.out, B1.out⟩
  case round =>
    clear HI1 A1 B1
    obtain ⟨k, hk, rfl, rfl, oi, oc, hbel⟩ := hrel
    have HB := Lib.hid hbel
    have HO := Lib.hid oi
    have HA := Lib.hid oc
    by_cases hlt : k < n
    · obtain ⟨c, hc⟩ : ∃ c, all[k]? = some c := ⟨all[k]'(by rw [HN.out]; exact hlt), List.getElem?_eq_getElem _⟩
      have hsx := binF_succ (R := R) (T := T) hc
      have HLEN := Lib.hid (show (binF R T (all.take k)).2.length ≤ 1200 from Nat.le_trans (binF_len R T _) (by rw [List.length_take]; omega))
      obtain ⟨va', vc', ve, vv, vo⟩ := oc.view
      obtain ⟨g, o, e1, hg, c0, c1, c2, c3, c4⟩ := vv.2.2.2 k c hc
      obtain ⟨g', e2, -, -⟩ := vo k (by rw [HN.out]; exact hlt)
      have hva : va = va' := by injection ve
      rw [e1] at hva
      have hgo : Value.ownBlock (.slice va n vc) = some g := by
        rw [e1] at e2
        have e3 : g = g' ∧ o = 0 := by injection e2 with e2; injection e2 with x y _; exact ⟨x, y⟩
        rw [hva, e3.2]; rfl
      generalize hst : binF R T (all.take k) = st at *
      obtain ⟨sl, so⟩ := st
      have k1 : (0 : Int) ≤ (k : Int) := by omega
      have BK := Lib.hid (bel1 wr (.cells #[.string c.r, .string c.b, .int .i64 c.t] 42))
      have OK := Lib.hid (oi.next BK.out)
      have AK := Lib.hid (oc.next BK.out)
      have BW := Lib.hid (bel_tr hbel BK.out (Nat.le_refl _))
      have KK := Lib.hid (Kx.made c.r c.b c.t wr 42)
      have HPK := Lib.hid (show Value.ownBlock u7 = some wr.heap.size → ¬ Value.ownBlock u7 = some wr.heap.size from fun e => by have := (World.ownsRow.lt oi _ e).2; omega)
      have hgk : g < (wr.alloc (.cells #[.string c.r, .string c.b, .int .i64 c.t] 42)).heap.size := Nat.lt_of_lt_of_le hg BK.out.size
      have v3 := coc BK.out (p := ⟨g, o + k * 5 + 3, none⟩) hg c3
      subst hva
      clear oi oc hbel ve vv vo e1 e2 hc hst
      cases h1 : (c.r.toList == R.toList)
      · have HSX := Lib.hid (hsx.trans (bs_no h1)); clear hsx
        go_wp2_with fail
        go_roundw
        case rel => exact ⟨k + 1, by omega, by go_num, by rw [HSX.out], by rw [HSX.out]; exact OK.out, AK.out, BW.out⟩
        case measure => simp [intV]; omega
      · by_cases h2 : T < c.t
        · have HSX := Lib.hid (hsx.trans (bs_late h2)); clear hsx
          go_wp2_with fail
          go_roundw
          case rel => exact ⟨k + 1, by omega, by go_num, by rw [HSX.out], by rw [HSX.out]; exact OK.out, AK.out, BW.out⟩
          case measure => simp [intV]; omega
        · cases h3 : (c.b.toList == sl.toList)
          · have hsy := hsx.trans (bs_new h1 h2 h3); clear hsx
            cases h4 : c.g
            · rw [h4] at hsy c4
              have HSX := Lib.hid hsy; clear hsy
              go_wp2_with fail
              generalize wr.alloc (.cells #[.string c.r, .string c.b, .int .i64 c.t] 42) = wk at OK AK BW KK hgk v3 ⊢
              generalize wr.heap.size = pK at KK HPK ⊢
              have OK2 := Lib.hid OK.out; have AK2 := Lib.hid AK.out; have BK2 := Lib.hid BW.out
              obtain ⟨_, x1, _, _, _, _, hpk⟩ := id KK.out
              clear c0 c1 c2 c3 c4 OK AK BW
              obtain ⟨st, hst⟩ : ∃ st : ByteArray × List Bi, st = (sl, so) := ⟨_, rfl⟩
              have OK2 := Lib.hid (show OwI w.heap.size wk u7 st.2 from by rw [hst]; exact OK2.out)
              have HLEN := Lib.hid (show st.2.length ≤ 1200 from by rw [hst]; exact HLEN.out)
              have HSX := Lib.hid (show binF R T (all.take (k + 1)) = (c.b, st.2 ++ [⟨c.b, c.v⟩]) from by rw [hst]; exact HSX.out)
              clear hst
              refine wp_region_held_drew (S := fun z => z.cell? ⟨pK, 1, none⟩ = some (.string c.b) ∧ z.cell? ⟨g, o + k * 5 + 3, none⟩ = some (.int .i64 c.v)) (by kernel_rfl) ⟨x1, v3⟩ (fun hHeld => ?_)
              refine wpAnyH_take (i := 0) (v := ?v0a) rfl (by kernel_rfl) (by kernel_rfl) (by kernel_rfl) (fun _ _ _ h => h) (Or.inl ⟨by rfl, ?hy0a⟩) (by assumption) ?rest0a
              case hy0a => (intro zz hSw; (try dsimp only at hSw); go_simp; (try with_reducible rfl))
              change wpAnyH _ _ _ _ _ _ _ (Act.put _ (some 50) _) _
              simp only [Act.put, List.setIfInBounds_toArray, List.set_cons_zero, List.set_cons_succ]
              refine wpAnyH_take (i := 1) (v := ?v1a) rfl (by kernel_rfl) (by kernel_rfl) (by kernel_rfl) (fun _ _ _ h => h) (Or.inl ⟨by rfl, ?hy1a⟩) (by assumption) ?rest1a
              case hy1a => (intro zz hSw; (try dsimp only at hSw); go_simp; (try with_reducible rfl))
              change wpAnyH _ _ _ _ _ _ _ (Act.put _ (some 51) _) _
              simp only [Act.put, List.setIfInBounds_toArray, List.set_cons_zero, List.set_cons_succ]
              refine wpAnyH_take (i := 2) (v := ?v2a) rfl (by kernel_rfl) (by kernel_rfl) (by kernel_rfl) (fun _ _ _ h => h) (Or.inl ⟨by rfl, ?hy2a⟩) (by assumption) ?rest2a
              case hy2a => (intro zz hSw; (try dsimp only at hSw); go_simp; (try with_reducible rfl))
              change wpAnyH _ _ _ _ _ _ _ (Act.put _ (some 52) _) _
              simp only [Act.put, List.setIfInBounds_toArray, List.set_cons_zero, List.set_cons_succ]
              refine wpAnyH_take (i := 3) (v := ?v3a) rfl (by kernel_rfl) (by kernel_rfl) (by kernel_rfl) (fun _ _ _ h => h) (Or.inl ⟨by rfl, ?hy3a⟩) (by assumption) ?rest3a
              case hy3a => (intro zz hSw; (try dsimp only at hSw); go_simp; (try with_reducible rfl))
              change wpAnyH _ _ _ _ _ _ _ (Act.put _ (some 53) _) _
              simp only [Act.put, List.setIfInBounds_toArray, List.set_cons_zero, List.set_cons_succ]
              refine wpAnyH_take (i := 4) (v := ?v4a) rfl (by kernel_rfl) (by kernel_rfl) (by kernel_rfl) (fun _ _ _ h => h) (Or.inl ⟨by rfl, ?hy4a⟩) (by assumption) ?rest4a
              case hy4a => (intro zz hSw; (try dsimp only at hSw); go_simp; (try with_reducible rfl))
              change wpAnyH _ _ _ _ _ _ _ (Act.put _ (some 54) _) _
              simp only [Act.put, List.setIfInBounds_toArray, List.set_cons_zero, List.set_cons_succ]
              refine wpAnyH_take (i := 5) (v := ?v5a) rfl (by kernel_rfl) (by kernel_rfl) (by kernel_rfl) (fun _ _ _ h => h) (Or.inl ⟨by rfl, ?hy5a⟩) (by assumption) ?rest5a
              case hy5a => (intro zz hSw; (try dsimp only at hSw); go_simp; (try with_reducible rfl))
              change wpAnyH _ _ _ _ _ _ _ (Act.put _ (some 55) _) _
              simp only [Act.put, List.setIfInBounds_toArray, List.set_cons_zero, List.set_cons_succ]
              refine wpAnyH_take (i := 6) (v := ?v6a) rfl (by kernel_rfl) (by kernel_rfl) (by kernel_rfl) (fun _ _ _ h => h) (Or.inl ⟨by rfl, ?hy6a⟩) (by assumption) ?rest6a
              case hy6a => (intro zz hSw; (try dsimp only at hSw); go_simp; (try with_reducible rfl))
              change wpAnyH _ _ _ _ _ _ _ (Act.put _ (some 56) _) _
              simp only [Act.put, List.setIfInBounds_toArray, List.set_cons_zero, List.set_cons_succ]
              refine wpAnyH_take (i := 7) (v := ?v7a) rfl (by kernel_rfl) (by kernel_rfl) (by kernel_rfl) (fun _ _ _ h => h) (Or.inl ⟨by rfl, ?hy7a⟩) (by assumption) ?rest7a
              case hy7a => (intro zz hSw; (try dsimp only at hSw); go_simp; (try with_reducible rfl))
              change wpAnyH _ _ _ _ _ _ _ (Act.put _ (some 57) _) _
              simp only [Act.put, List.setIfInBounds_toArray, List.set_cons_zero, List.set_cons_succ]
              refine wpAnyH_take (i := 8) (v := ?v8a) rfl (by kernel_rfl) (by kernel_rfl) (by kernel_rfl) (fun _ _ _ h => h) (Or.inl ⟨by rfl, ?hy8a⟩) (by assumption) ?rest8a
              case hy8a => (intro zz hSw; (try dsimp only at hSw); go_simp; (try with_reducible rfl))
              change wpAnyH _ _ _ _ _ _ _ (Act.put _ (some 58) _) _
              simp only [Act.put, List.setIfInBounds_toArray, List.set_cons_zero, List.set_cons_succ]
              refine wpAnyH_ready (rs := [9]) (by kernel_rfl) (by simp) (AllReadyH.cons rfl (fun K hK => ?_) (AllReadyH.nil))
              go_simp
              have bel : Below wk.heap.size wk (wk.alloc (.cells #[.string c.b, .int .i64 c.v] 48)).drew := (bel1 wk (.cells #[.string c.b, .int .i64 c.v] 48)).drew
              have VL := Lib.hid ((VwI.lit wk ⟨c.b, c.v⟩).below ((Below.refl _ _).drew))
              have OL := Lib.hid (OK2.out.next bel)
              have BL := Lib.hid (bel_tr BK2.out bel (Nat.le_refl _))
              have AL := Lib.hid (AK2.out.next bel)
              have hLs : wk.heap.size < (wk.alloc (.cells #[.string c.b, .int .i64 c.v] 48)).drew.heap.size := by simp
              refine hK.out _ _ ⟨coc (r := wk) bel hpk hHeld.1, coc (r := wk) bel hgk hHeld.2⟩ (fun hHeld => ?_)
              clear hK K bel
              generalize (wk.alloc (.cells #[.string c.b, .int .i64 c.v] 48)).drew = wl at OL BL AL VL hHeld hLs ⊢
              refine wpAnyH_ready (rs := [10]) (by kernel_rfl) (by simp) (AllReadyH.cons rfl (fun K hK => ?_) (AllReadyH.nil))
              refine step_append_bins rfl (.tmp 50) (.tmp 59) rfl (base := w.heap.size) (l := st.2) (m := [⟨c.b, c.v⟩]) rfl rfl rfl OL.out VL.out (by have := HLEN.out; simp; omega) BL.out.size ?_
              intro v6 w6 o6 g6
              have B6 := Lib.hid (BL.out.grown g6 BL.out.size (fun j hj => OwI.lt OL.out j hj))
              have A6 := Lib.hid (AL.out.grown g6 (fun q hq e => own_ne AL.out OL.out (by decide) q hq e))
              have e6 : ∀ q, q = pK ∨ q = g → Value.ownBlock u7 ≠ some q := fun q hq e => by
                rcases hq with rfl | rfl
                · exact absurd e (HPK.out e)
                · exact own_ne AL.out OL.out (by decide) _ hgo e
              refine hK.out _ _ ⟨cgr g6 (e6 _ (.inl rfl)) hHeld.1, cgr g6 (e6 _ (.inr rfl)) hHeld.2⟩ (fun hHeld => ?_)
              have O6 := Lib.hid o6; clear hK K o6 g6 OL VL e6
              change wpAnyH _ _ _ _ _ _ _ (Act.put _ (some 60) _) _
              simp only [Act.put, List.setIfInBounds_toArray, List.set_cons_zero, List.set_cons_succ]
              refine wpAnyH_take (i := 11) (v := ?v11a) rfl (by kernel_rfl) (by kernel_rfl) (by kernel_rfl) (fun _ _ _ h => h) (Or.inl ⟨by rfl, ?hy11a⟩) (by assumption) ?rest11a
              case hy11a => (intro zz hSw; (try dsimp only at hSw); go_simp; (try with_reducible rfl))
              change wpAnyH _ _ _ _ _ _ _ (Act.put _ (some 7) _) _
              simp only [Act.put, List.setIfInBounds_toArray, List.set_cons_zero, List.set_cons_succ]
              refine wpAnyH_done (by kernel_rfl) ?_ _
              clear hHeld
              go_wp2_with fail
              go_roundw
              case rel => exact ⟨k + 1, by omega, by go_num, by rw [HSX.out], by rw [HSX.out]; exact O6.out, A6.out, B6.out⟩
              case measure => simp [intV]; omega
            · rw [h4] at hsy c4
              have HSX := Lib.hid hsy; clear hsy
              go_wp2_with fail
              go_roundw
              case rel => exact ⟨k + 1, by omega, by go_num, by rw [HSX.out], by rw [HSX.out]; exact OK.out, AK.out, BW.out⟩
              case measure => simp [intV]; omega
          · have HSX := Lib.hid (hsx.trans (bs_again h3)); clear hsx
            go_wp2_with fail
            go_roundw
            case rel => exact ⟨k + 1, by omega, by go_num, by rw [HSX.out], by rw [HSX.out]; exact OK.out, AK.out, BW.out⟩
            case measure => simp [intV]; omega
    · obtain rfl : k = n := by omega
      have HE := Lib.hid (show (binF R T (all.take k)).2 = binsL R T all by rw [List.take_of_length_le (Nat.le_of_eq HN.out)]; rfl)
      clear oi oc hbel
      go_wp2_with fail
      go_ret
      exact ⟨_, rfl, by rw [HALL.out, ← HE.out]; exact HO.out, HB.out⟩
end Go.Proofs.YtcloejmakjdgcaaGreat.Cl
