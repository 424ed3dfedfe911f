/-
  The contract of impl.Find: 'findP'. (Made by gen_cs.py.)
-/
import Derived.Test.YtkkpokfekbdigaaCk
import Derived.Test.YtkkpokfekbdigaaCn
namespace Go.Proofs.Ytkkpokfekbdigaa.Cl
open Go.RowKit Wd Rp Kp
set_option linter.unusedVariables false
theorem findR_at {l : List Cel} {K c : Cel} (h : okL l = true) (hK : keyB K.r.data.toList K.b.data.toList K.t = true) {m : Nat} (hm : cnt l K = m) (hc : l[m]? = some c) : findR l K = if (c.r == K.r && c.b == K.b) then (c, true) else (zz, false) := by
  subst hm
  unfold findR
  rw [findL_at h hK hc, ba_beq, ba_beq]
  by_cases e1 : c.r.toList = K.r.toList
  · by_cases e2 : c.b.toList = K.b.toList
    · rw [if_pos ⟨e1, e2⟩, e1, e2, beq_self_eq_true, beq_self_eq_true]; rfl
    · rw [if_neg (fun h => e2 h.2), (beq_eq_false_iff_ne).2 e2, Bool.and_false]; rfl
  · rw [if_neg (fun h => e1 h.1), (beq_eq_false_iff_ne).2 e1, Bool.false_and]; rfl
theorem findR_out {l : List Cel} {K : Cel} (hm : cnt l K = l.length) : findR l K = (zz, false) := by
  unfold findR; rw [findL_end hm]
theorem plEq_of {c K : Cel} {x : Bool} (h : (c.r == K.r && c.b == K.b) = x) (w : World) : (Op.equalIn 10000 93 (.agg #[.string c.r, .string c.b]) (.agg #[.string K.r, .string K.b])).run Try.prog w = .ok x w := by
  rw [plEq, h]
/-- A block that holds a key. -/
theorem key_next {n : Nat} {K : Cel} {w w' : World} (h : Bx n K.r K.b K.t w) (hb : Below w.heap.size w w') : Bx n K.r K.b K.t w' := h.next hb
set_option maxRecDepth 100000 in
set_option maxHeartbeats 8000000 in
theorem implFind_any (w : World) (a : Option Addr) (cap : Nat) (l : List Cel) (K : Cel) (n : Nat) (hn : l.length = n) (hv : Vw w a cap l) (hl : n ≤ 4194304) :
    Calls Try.prog 20 #[.slice a n cap, .string K.r, .string K.b, .int .i64 K.t] w (FindPost (findP l K) w) := by
  go_enter Try.func20, Try.ntmps20
  go_wp2_with fail
  have b0 := bel1 w (.cells #[.string ⟨#[]⟩, .string ⟨#[]⟩, .int .i64 0, .int .i64 0, .bool false] 28)
  have Z0 := (Zc.made w 28).next (bel1 _ (.cells #[.string K.r, .string K.b, .int .i64 K.t] 26))
  have X0 := Bx.made K.r K.b K.t (w.alloc (.cells #[.string ⟨#[]⟩, .string ⟨#[]⟩, .int .i64 0, .int .i64 0, .bool false] 28)) 26
  rw [show (w.alloc (.cells #[.string ⟨#[]⟩, .string ⟨#[]⟩, .int .i64 0, .int .i64 0, .bool false] 28)).heap.size = w.heap.size + 1 by simp] at X0
  have b1 := b0.alloc b0.size (.cells #[.string K.r, .string K.b, .int .i64 K.t] 26)
  have hv0 := hv.below b1
  generalize (w.alloc (Obj.cells #[Value.string { data := #[] }, Value.string { data := #[] }, Value.int IntKind.i64 0, Value.int IntKind.i64 0, Value.bool false] 28)).alloc (Obj.cells #[Value.string K.r, Value.string K.b, Value.int IntKind.i64 K.t] 26) = w0 at X0 Z0 b1 hv0 ⊢
  have HB0 := Lib.hid b1; clear b0 b1 hv
  have HZ := Lib.hid Z0; clear Z0
  have HX := Lib.hid X0; clear X0
  have HV := Lib.hid hv0; clear hv0
  generalize hp0 : w.heap.size + 1 = p at HX ⊢
  generalize hq0 : w.heap.size = q at HZ ⊢
  have hqB : w.heap.size ≤ q := by omega
  have nqp : q ≠ p := by omega
  have npq : p ≠ q := by omega
  clear hq0 hp0
  cases hkb : keyB K.r.data.toList K.b.data.toList K.t
  · have HP := Lib.hid (findP_no (l := l) (K := K) (by rw [hkb, Bool.and_false]))
    refine (implKey_is hkb _).mono ?_; rintro e w1 ⟨rfl, b1⟩
    obtain ⟨⟨z0, z1, z2, z3, z4⟩, ⟨f0, f1, f2, f3, f4⟩, -⟩ := HZ.out.next b1
    have B1 := Lib.hid (bel_tr HB0.out b1 (Nat.le_refl _)); clear b1 hkb
    go_wp2_with fail
    refine bodyPost_ret (v := .tuple #[.agg #[.string ⟨#[]⟩, .string ⟨#[]⟩, .int .i64 0, .int .i64 0, .bool false], .bool false]) (by simp [results, Try.results20, go_sem, z0, z1, z2, z3, z4]) rfl ⟨by rw [HP.out]; rfl, ?_⟩
    exact bel_set5 B1.out hqB _ _ _ _ _
  · refine (implKey_is hkb _).mono ?_; rintro e w1 ⟨rfl, b1⟩
    have B1 := Lib.hid b1; clear b1
    cases hok : okL l
    · have HP := Lib.hid (findP_no (l := l) (K := K) (by rw [hok]; rfl))
      have HO := Lib.hid (implCells_is hok w1 a cap n hn (HV.out.below B1.out) hl); clear hok
      go_wp2_with fail
      refine HO.out.mono ?_; rintro e w2 ⟨rfl, b2⟩
      have b02 := bel_tr B1.out b2 (Nat.le_refl _)
      obtain ⟨⟨z0, z1, z2, z3, z4⟩, ⟨f0, f1, f2, f3, f4⟩, -⟩ := HZ.out.next b02
      have B2 := Lib.hid (bel_tr HB0.out b02 (Nat.le_refl _)); clear b2 b02
      go_wp2_with fail
      refine bodyPost_ret (v := .tuple #[.agg #[.string ⟨#[]⟩, .string ⟨#[]⟩, .int .i64 0, .int .i64 0, .bool false], .bool false]) (by simp [results, Try.results20, go_sem, z0, z1, z2, z3, z4]) rfl ⟨by rw [HP.out]; rfl, ?_⟩
      exact bel_set5 B2.out hqB _ _ _ _ _
    · have HO := Lib.hid (implCells_is hok w1 a cap n hn (HV.out.below B1.out) hl)
      obtain ⟨m, hm⟩ : ∃ m, cnt l K = m := ⟨_, rfl⟩
      have hmn : m ≤ n := by rw [← hm, ← hn]; exact (cntP_spec _ l).1
      have HCA := Lib.hid (fun w h => cellAt_is hm rfl w a cap n hn h hl hok)
      generalize there l m K = th at HCA
      have HM := Lib.hid hm
      have HOK := Lib.hid hok
      have HKB := Lib.hid hkb
      clear hm hok hkb
      go_wp2_with fail
      refine HO.out.mono ?_; rintro e w2 ⟨rfl, b2⟩
      have B2 := Lib.hid (bel_tr B1.out b2 (Nat.le_refl _)); clear b2
      obtain ⟨k0, k1, k2, -⟩ := HX.out.next B2.out
      go_wp2_with fail
      refine (HCA.out _ (HV.out.below B2.out)).mono ?_; rintro e w3 ⟨rfl, b3⟩
      have B3 := Lib.hid (bel_tr B2.out b3 (Nat.le_refl _)); clear b3 k0 k1 k2 B1 B2 HO HCA
      obtain ⟨k0, k1, k2, hp⟩ := HX.out.next B3.out
      have i0 : (0 : Int) ≤ (m : Int) := by omega
      by_cases hlt : m < n
      · obtain ⟨c, hc⟩ : ∃ c, l[m]? = some c := ⟨l[m], List.getElem?_eq_getElem (by omega)⟩
        obtain ⟨g, o, rfl, hg, h5⟩ := HV.out.2.2.2 m c hc
        obtain ⟨c0, c1, c2, c3, c4⟩ : At5 w3 g (o + m * 5) c := h5.same (B3.out.block g hg)
        have hg' : g < w3.heap.size := Nat.lt_of_lt_of_le hg B3.out.size
        have h5g := hg
        have HH := Lib.hid h5; clear h5
        have HF := findR_at HOK.out HKB.out HM.out hc
        have i1 : (m : Int) < (n : Int) := by omega
        have i2 : ((m : Int) == (n : Int)) = false := by rw [beq_eq_false_iff_ne]; omega
        have SOF := Lib.hid (show ∀ z, Below w3.heap.size w3 z → (z.cell? ⟨p, 0, none⟩ = some (.string K.r) ∧ z.cell? ⟨p, 1, none⟩ = some (.string K.b) ∧ z.cell? ⟨p, 2, none⟩ = some (.int .i64 K.t) ∧ z.cell? ⟨g, o + m * 5, none⟩ = some (.string c.r) ∧ z.cell? ⟨g, o + m * 5 + 1, none⟩ = some (.string c.b) ∧ z.cell? ⟨g, o + m * 5 + 2, none⟩ = some (.int .i64 c.t) ∧ Below w3.heap.size w3 z) from fun z hz => ⟨coc hz hp k0, coc hz hp k1, coc hz hp k2, coc hz hg' c0, coc hz hg' c1, coc hz hg' c2,  hz⟩)
        clear hc c0 c1 c2 c3 c4 k0 k1 k2
        cases hpe : (c.r == K.r && c.b == K.b)
        · have he := plEq_of hpe
          rw [hpe] at HF
          have HP := Lib.hid ((findP_yes HOK.out HKB.out).trans HF); clear HF hpe
          go_wp2_with fail
          refine wp_region_held_drew (S := fun z => z.cell? ⟨p, 0, none⟩ = some (.string K.r) ∧ z.cell? ⟨p, 1, none⟩ = some (.string K.b) ∧ z.cell? ⟨p, 2, none⟩ = some (.int .i64 K.t) ∧ z.cell? ⟨g, o + m * 5, none⟩ = some (.string c.r) ∧ z.cell? ⟨g, o + m * 5 + 1, none⟩ = some (.string c.b) ∧ z.cell? ⟨g, o + m * 5 + 2, none⟩ = some (.int .i64 c.t) ∧ Below w3.heap.size w3 z) (by kernel_rfl) (SOF.out _ (Below.refl _ _).drew) (fun hHeld => ?_)
          refine wpAnyH_take (i := 0) (v := ?v0a) rfl (by kernel_rfl) (by kernel_rfl) (by kernel_rfl) (fun _ _ _ h => h) (Or.inl ⟨by rfl, ?hy0a⟩) (by assumption) ?rest0a
          case hy0a => (intro zz hSw; (try dsimp only at hSw); go_simp; (try with_reducible rfl))
          change wpAnyH _ _ _ _ _ _ _ (Act.put _ (some 32) _) _
          simp only [Act.put, List.setIfInBounds_toArray, List.set_cons_zero, List.set_cons_succ]
          refine wpAnyH_take (i := 1) (v := ?v1a) rfl (by kernel_rfl) (by kernel_rfl) (by kernel_rfl) (fun _ _ _ h => h) (Or.inl ⟨by rfl, ?hy1a⟩) (by assumption) ?rest1a
          case hy1a => (intro zz hSw; (try dsimp only at hSw); go_simp; (try with_reducible rfl))
          change wpAnyH _ _ _ _ _ _ _ (Act.put _ (some 33) _) _
          simp only [Act.put, List.setIfInBounds_toArray, List.set_cons_zero, List.set_cons_succ]
          refine wpAnyH_take (i := 2) (v := ?v2a) rfl (by kernel_rfl) (by kernel_rfl) (by kernel_rfl) (fun _ _ _ h => h) (Or.inl ⟨by rfl, ?hy2a⟩) (by assumption) ?rest2a
          case hy2a => (intro zz hSw; (try dsimp only at hSw); go_simp; (try with_reducible rfl))
          change wpAnyH _ _ _ _ _ _ _ (Act.put _ (some 34) _) _
          simp only [Act.put, List.setIfInBounds_toArray, List.set_cons_zero, List.set_cons_succ]
          refine wpAnyH_take (i := 3) (v := ?v3a) rfl (by kernel_rfl) (by kernel_rfl) (by kernel_rfl) (fun _ _ _ h => h) (Or.inl ⟨by rfl, ?hy3a⟩) (by assumption) ?rest3a
          case hy3a => (intro zz hSw; (try dsimp only at hSw); go_simp; (try with_reducible rfl))
          change wpAnyH _ _ _ _ _ _ _ (Act.put _ (some 35) _) _
          simp only [Act.put, List.setIfInBounds_toArray, List.set_cons_zero, List.set_cons_succ]
          refine wpAnyH_take (i := 4) (v := ?v4a) rfl (by kernel_rfl) (by kernel_rfl) (by kernel_rfl) (fun _ _ _ h => h) (Or.inl ⟨by rfl, ?hy4a⟩) (by assumption) ?rest4a
          case hy4a => (intro zz hSw; (try dsimp only at hSw); go_simp; (try with_reducible rfl))
          change wpAnyH _ _ _ _ _ _ _ (Act.put _ (some 36) _) _
          simp only [Act.put, List.setIfInBounds_toArray, List.set_cons_zero, List.set_cons_succ]
          refine wpAnyH_take (i := 5) (v := ?v5a) rfl (by kernel_rfl) (by kernel_rfl) (by kernel_rfl) (fun _ _ _ h => h) (Or.inl ⟨by rfl, ?hy5a⟩) (by assumption) ?rest5a
          case hy5a => (intro zz hSw; (try dsimp only at hSw); go_simp; (try with_reducible rfl))
          change wpAnyH _ _ _ _ _ _ _ (Act.put _ (some 37) _) _
          simp only [Act.put, List.setIfInBounds_toArray, List.set_cons_zero, List.set_cons_succ]
          refine wpAnyH_take (i := 6) (v := ?v6a) rfl (by kernel_rfl) (by kernel_rfl) (by kernel_rfl) (fun _ _ _ h => h) (Or.inl ⟨by rfl, ?hy6a⟩) (by assumption) ?rest6a
          case hy6a => (intro zz hSw; (try dsimp only at hSw); go_simp; (try with_reducible rfl))
          change wpAnyH _ _ _ _ _ _ _ (Act.put _ (some 38) _) _
          simp only [Act.put, List.setIfInBounds_toArray, List.set_cons_zero, List.set_cons_succ]
          refine wpAnyH_take (i := 7) (v := ?v7a) rfl (by kernel_rfl) (by kernel_rfl) (by kernel_rfl) (fun _ _ _ h => h) (Or.inl ⟨by rfl, ?hy7a⟩) (by assumption) ?rest7a
          case hy7a => (intro zz hSw; (try dsimp only at hSw); go_simp; (try with_reducible rfl))
          change wpAnyH _ _ _ _ _ _ _ (Act.put _ (some 39) _) _
          simp only [Act.put, List.setIfInBounds_toArray, List.set_cons_zero, List.set_cons_succ]
          refine wpAnyH_take (i := 8) (v := ?v8a) rfl (by kernel_rfl) (by kernel_rfl) (by kernel_rfl) (fun _ _ _ h => h) (Or.inl ⟨by rfl, ?hy8a⟩) (by assumption) ?rest8a
          case hy8a => (intro zz hSw; (try dsimp only at hSw); go_simp; (try with_reducible rfl))
          change wpAnyH _ _ _ _ _ _ _ (Act.put _ (some 40) _) _
          simp only [Act.put, List.setIfInBounds_toArray, List.set_cons_zero, List.set_cons_succ]
          refine wpAnyH_take (i := 9) (v := ?v9a) rfl (by kernel_rfl) (by kernel_rfl) (by kernel_rfl) (fun _ _ _ h => h) (Or.inl ⟨by rfl, ?hy9a⟩) (by assumption) ?rest9a
          case hy9a => (intro zz hSw; (try dsimp only at hSw); go_simp; (try with_reducible rfl))
          change wpAnyH _ _ _ _ _ _ _ (Act.put _ (some 41) _) _
          simp only [Act.put, List.setIfInBounds_toArray, List.set_cons_zero, List.set_cons_succ]
          refine wpAnyH_take (i := 11) (v := ?v11a) rfl (by kernel_rfl) (by kernel_rfl) (by kernel_rfl) (fun _ _ _ h => h) (Or.inl ⟨by rfl, ?hy11a⟩) (by assumption) ?rest11a
          case hy11a => (intro zz hSw; (try dsimp only at hSw); go_simp; (try with_reducible rfl))
          change wpAnyH _ _ _ _ _ _ _ (Act.put _ (some 43) _) _
          simp only [Act.put, List.setIfInBounds_toArray, List.set_cons_zero, List.set_cons_succ]
          refine wpAnyH_ready (rs := [10]) (by kernel_rfl) (by simp) (AllReadyH.cons rfl (fun K hK => ?_) AllReadyH.nil)
          go_simp
          refine (placeOf_bel _ _ _ _).mono ?_; rintro e w' ⟨rfl, bel⟩
          refine hK.out _ _ (SOF.out _ (bel_tr hHeld.2.2.2.2.2.2 bel (Nat.le_refl _))) (fun hHeld => ?_)
          clear hK K bel
          refine wpAnyH_ready (rs := [12]) (by kernel_rfl) (by simp) (AllReadyH.cons rfl (fun K hK => ?_) AllReadyH.nil)
          go_simp
          refine (placeOf_bel _ _ _ _).mono ?_; rintro e w' ⟨rfl, bel⟩
          refine hK.out _ _ (SOF.out _ (bel_tr hHeld.2.2.2.2.2.2 bel (Nat.le_refl _))) (fun hHeld => ?_)
          clear hK K bel
          refine wpAnyH_take (i := 13) (v := ?v13a) rfl (by kernel_rfl) (by kernel_rfl) (by kernel_rfl) (fun _ _ _ h => h) (Or.inl ⟨by rfl, ?hy13a⟩) (by assumption) ?rest13a
          case hy13a => (intro zz hSw; (try dsimp only at hSw); go_simp; (try with_reducible rfl))
          change wpAnyH _ _ _ _ _ _ _ (Act.put _ (some 45) _) _
          simp only [Act.put, List.setIfInBounds_toArray, List.set_cons_zero, List.set_cons_succ]
          refine wpAnyH_take (i := 14) (v := ?v14a) rfl (by kernel_rfl) (by kernel_rfl) (by kernel_rfl) (fun _ _ _ h => h) (Or.inl ⟨by rfl, ?hy14a⟩) (by assumption) ?rest14a
          case hy14a => (intro zz hSw; (try dsimp only at hSw); go_simp; (try with_reducible rfl))
          change wpAnyH _ _ _ _ _ _ _ (Act.put _ (some 46) _) _
          simp only [Act.put, List.setIfInBounds_toArray, List.set_cons_zero, List.set_cons_succ]
          refine wpAnyH_done (by kernel_rfl) ?_ _
          have b4 := bel_tr B3.out hHeld.2.2.2.2.2.2 (Nat.le_refl _)
          obtain ⟨⟨z0, z1, z2, z3, z4⟩, ⟨f0, f1, f2, f3, f4⟩, -⟩ := HZ.out.next b4
          have B4 := Lib.hid (bel_tr HB0.out b4 (Nat.le_refl _)); clear b4 hHeld SOF he
          go_wp2_with fail
          refine bodyPost_ret (v := .tuple #[.agg #[.string ⟨#[]⟩, .string ⟨#[]⟩, .int .i64 0, .int .i64 0, .bool false], .bool false]) (by simp [results, Try.results20, go_sem, z0, z1, z2, z3, z4]) rfl ⟨by rw [HP.out]; rfl, ?_⟩
          exact bel_set5 B4.out hqB _ _ _ _ _
        · have he := plEq_of hpe
          rw [hpe, if_pos rfl] at HF
          have HP := Lib.hid ((findP_yes HOK.out HKB.out).trans HF); clear HF hpe
          go_wp2_with fail
          refine wp_region_held_drew (S := fun z => z.cell? ⟨p, 0, none⟩ = some (.string K.r) ∧ z.cell? ⟨p, 1, none⟩ = some (.string K.b) ∧ z.cell? ⟨p, 2, none⟩ = some (.int .i64 K.t) ∧ z.cell? ⟨g, o + m * 5, none⟩ = some (.string c.r) ∧ z.cell? ⟨g, o + m * 5 + 1, none⟩ = some (.string c.b) ∧ z.cell? ⟨g, o + m * 5 + 2, none⟩ = some (.int .i64 c.t) ∧ Below w3.heap.size w3 z) (by kernel_rfl) (SOF.out _ (Below.refl _ _).drew) (fun hHeld => ?_)
          refine wpAnyH_take (i := 0) (v := ?v0b) rfl (by kernel_rfl) (by kernel_rfl) (by kernel_rfl) (fun _ _ _ h => h) (Or.inl ⟨by rfl, ?hy0b⟩) (by assumption) ?rest0b
          case hy0b => (intro zz hSw; (try dsimp only at hSw); go_simp; (try with_reducible rfl))
          change wpAnyH _ _ _ _ _ _ _ (Act.put _ (some 32) _) _
          simp only [Act.put, List.setIfInBounds_toArray, List.set_cons_zero, List.set_cons_succ]
          refine wpAnyH_take (i := 1) (v := ?v1b) rfl (by kernel_rfl) (by kernel_rfl) (by kernel_rfl) (fun _ _ _ h => h) (Or.inl ⟨by rfl, ?hy1b⟩) (by assumption) ?rest1b
          case hy1b => (intro zz hSw; (try dsimp only at hSw); go_simp; (try with_reducible rfl))
          change wpAnyH _ _ _ _ _ _ _ (Act.put _ (some 33) _) _
          simp only [Act.put, List.setIfInBounds_toArray, List.set_cons_zero, List.set_cons_succ]
          refine wpAnyH_take (i := 2) (v := ?v2b) rfl (by kernel_rfl) (by kernel_rfl) (by kernel_rfl) (fun _ _ _ h => h) (Or.inl ⟨by rfl, ?hy2b⟩) (by assumption) ?rest2b
          case hy2b => (intro zz hSw; (try dsimp only at hSw); go_simp; (try with_reducible rfl))
          change wpAnyH _ _ _ _ _ _ _ (Act.put _ (some 34) _) _
          simp only [Act.put, List.setIfInBounds_toArray, List.set_cons_zero, List.set_cons_succ]
          refine wpAnyH_take (i := 3) (v := ?v3b) rfl (by kernel_rfl) (by kernel_rfl) (by kernel_rfl) (fun _ _ _ h => h) (Or.inl ⟨by rfl, ?hy3b⟩) (by assumption) ?rest3b
          case hy3b => (intro zz hSw; (try dsimp only at hSw); go_simp; (try with_reducible rfl))
          change wpAnyH _ _ _ _ _ _ _ (Act.put _ (some 35) _) _
          simp only [Act.put, List.setIfInBounds_toArray, List.set_cons_zero, List.set_cons_succ]
          refine wpAnyH_take (i := 4) (v := ?v4b) rfl (by kernel_rfl) (by kernel_rfl) (by kernel_rfl) (fun _ _ _ h => h) (Or.inl ⟨by rfl, ?hy4b⟩) (by assumption) ?rest4b
          case hy4b => (intro zz hSw; (try dsimp only at hSw); go_simp; (try with_reducible rfl))
          change wpAnyH _ _ _ _ _ _ _ (Act.put _ (some 36) _) _
          simp only [Act.put, List.setIfInBounds_toArray, List.set_cons_zero, List.set_cons_succ]
          refine wpAnyH_take (i := 5) (v := ?v5b) rfl (by kernel_rfl) (by kernel_rfl) (by kernel_rfl) (fun _ _ _ h => h) (Or.inl ⟨by rfl, ?hy5b⟩) (by assumption) ?rest5b
          case hy5b => (intro zz hSw; (try dsimp only at hSw); go_simp; (try with_reducible rfl))
          change wpAnyH _ _ _ _ _ _ _ (Act.put _ (some 37) _) _
          simp only [Act.put, List.setIfInBounds_toArray, List.set_cons_zero, List.set_cons_succ]
          refine wpAnyH_take (i := 6) (v := ?v6b) rfl (by kernel_rfl) (by kernel_rfl) (by kernel_rfl) (fun _ _ _ h => h) (Or.inl ⟨by rfl, ?hy6b⟩) (by assumption) ?rest6b
          case hy6b => (intro zz hSw; (try dsimp only at hSw); go_simp; (try with_reducible rfl))
          change wpAnyH _ _ _ _ _ _ _ (Act.put _ (some 38) _) _
          simp only [Act.put, List.setIfInBounds_toArray, List.set_cons_zero, List.set_cons_succ]
          refine wpAnyH_take (i := 7) (v := ?v7b) rfl (by kernel_rfl) (by kernel_rfl) (by kernel_rfl) (fun _ _ _ h => h) (Or.inl ⟨by rfl, ?hy7b⟩) (by assumption) ?rest7b
          case hy7b => (intro zz hSw; (try dsimp only at hSw); go_simp; (try with_reducible rfl))
          change wpAnyH _ _ _ _ _ _ _ (Act.put _ (some 39) _) _
          simp only [Act.put, List.setIfInBounds_toArray, List.set_cons_zero, List.set_cons_succ]
          refine wpAnyH_take (i := 8) (v := ?v8b) rfl (by kernel_rfl) (by kernel_rfl) (by kernel_rfl) (fun _ _ _ h => h) (Or.inl ⟨by rfl, ?hy8b⟩) (by assumption) ?rest8b
          case hy8b => (intro zz hSw; (try dsimp only at hSw); go_simp; (try with_reducible rfl))
          change wpAnyH _ _ _ _ _ _ _ (Act.put _ (some 40) _) _
          simp only [Act.put, List.setIfInBounds_toArray, List.set_cons_zero, List.set_cons_succ]
          refine wpAnyH_take (i := 9) (v := ?v9b) rfl (by kernel_rfl) (by kernel_rfl) (by kernel_rfl) (fun _ _ _ h => h) (Or.inl ⟨by rfl, ?hy9b⟩) (by assumption) ?rest9b
          case hy9b => (intro zz hSw; (try dsimp only at hSw); go_simp; (try with_reducible rfl))
          change wpAnyH _ _ _ _ _ _ _ (Act.put _ (some 41) _) _
          simp only [Act.put, List.setIfInBounds_toArray, List.set_cons_zero, List.set_cons_succ]
          refine wpAnyH_take (i := 11) (v := ?v11b) rfl (by kernel_rfl) (by kernel_rfl) (by kernel_rfl) (fun _ _ _ h => h) (Or.inl ⟨by rfl, ?hy11b⟩) (by assumption) ?rest11b
          case hy11b => (intro zz hSw; (try dsimp only at hSw); go_simp; (try with_reducible rfl))
          change wpAnyH _ _ _ _ _ _ _ (Act.put _ (some 43) _) _
          simp only [Act.put, List.setIfInBounds_toArray, List.set_cons_zero, List.set_cons_succ]
          refine wpAnyH_ready (rs := [10]) (by kernel_rfl) (by simp) (AllReadyH.cons rfl (fun K hK => ?_) AllReadyH.nil)
          go_simp
          refine (placeOf_bel _ _ _ _).mono ?_; rintro e w' ⟨rfl, bel⟩
          refine hK.out _ _ (SOF.out _ (bel_tr hHeld.2.2.2.2.2.2 bel (Nat.le_refl _))) (fun hHeld => ?_)
          clear hK K bel
          refine wpAnyH_ready (rs := [12]) (by kernel_rfl) (by simp) (AllReadyH.cons rfl (fun K hK => ?_) AllReadyH.nil)
          go_simp
          refine (placeOf_bel _ _ _ _).mono ?_; rintro e w' ⟨rfl, bel⟩
          refine hK.out _ _ (SOF.out _ (bel_tr hHeld.2.2.2.2.2.2 bel (Nat.le_refl _))) (fun hHeld => ?_)
          clear hK K bel
          refine wpAnyH_take (i := 13) (v := ?v13b) rfl (by kernel_rfl) (by kernel_rfl) (by kernel_rfl) (fun _ _ _ h => h) (Or.inl ⟨by rfl, ?hy13b⟩) (by assumption) ?rest13b
          case hy13b => (intro zz hSw; (try dsimp only at hSw); go_simp; (try with_reducible rfl))
          change wpAnyH _ _ _ _ _ _ _ (Act.put _ (some 45) _) _
          simp only [Act.put, List.setIfInBounds_toArray, List.set_cons_zero, List.set_cons_succ]
          refine wpAnyH_take (i := 14) (v := ?v14b) rfl (by kernel_rfl) (by kernel_rfl) (by kernel_rfl) (fun _ _ _ h => h) (Or.inl ⟨by rfl, ?hy14b⟩) (by assumption) ?rest14b
          case hy14b => (intro zz hSw; (try dsimp only at hSw); go_simp; (try with_reducible rfl))
          change wpAnyH _ _ _ _ _ _ _ (Act.put _ (some 46) _) _
          simp only [Act.put, List.setIfInBounds_toArray, List.set_cons_zero, List.set_cons_succ]
          refine wpAnyH_done (by kernel_rfl) ?_ _
          have b4 := bel_tr B3.out hHeld.2.2.2.2.2.2 (Nat.le_refl _)
          obtain ⟨⟨z0, z1, z2, z3, z4⟩, ⟨f0, f1, f2, f3, f4⟩, -⟩ := HZ.out.next b4
          obtain ⟨c0, c1, c2, c3, c4⟩ := HH.out.same (b4.block g h5g)
          have B4 := Lib.hid (bel_tr HB0.out b4 (Nat.le_refl _)); clear b4 hHeld SOF he
          go_wp2_with fail
          refine bodyPost_ret (v := .tuple #[c.agg, .bool true]) (by simp [results, Try.results20, go_sem, z0, z1, z2, z3, z4, Cel.agg]) rfl ⟨by rw [HP.out], ?_⟩
          exact bel_set5 B4.out hqB _ _ _ _ _
      · obtain rfl : m = n := by omega
        have i2 : ((m : Int) == (m : Int)) = true := by simp
        have HP := Lib.hid ((findP_yes HOK.out HKB.out).trans (findR_out (by rw [HM.out]; omega)))
        have SOF := Lib.hid (show ∀ z, Below w3.heap.size w3 z → (z.cell? ⟨p, 0, none⟩ = some (.string K.r) ∧ z.cell? ⟨p, 1, none⟩ = some (.string K.b) ∧ z.cell? ⟨p, 2, none⟩ = some (.int .i64 K.t) ∧ Below w3.heap.size w3 z) from fun z hz => ⟨coc hz hp k0, coc hz hp k1, coc hz hp k2,  hz⟩)
        clear k0 k1 k2
        go_wp2_with fail
        refine wp_region_held_drew (S := fun z => z.cell? ⟨p, 0, none⟩ = some (.string K.r) ∧ z.cell? ⟨p, 1, none⟩ = some (.string K.b) ∧ z.cell? ⟨p, 2, none⟩ = some (.int .i64 K.t) ∧ Below w3.heap.size w3 z) (by kernel_rfl) (SOF.out _ (Below.refl _ _).drew) (fun hHeld => ?_)
        refine wpAnyH_take (i := 0) (v := ?v0c) rfl (by kernel_rfl) (by kernel_rfl) (by kernel_rfl) (fun _ _ _ h => h) (Or.inl ⟨by rfl, ?hy0c⟩) (by assumption) ?rest0c
        case hy0c => (intro zz hSw; (try dsimp only at hSw); go_simp; (try with_reducible rfl))
        change wpAnyH _ _ _ _ _ _ _ (Act.put _ (some 32) _) _
        simp only [Act.put, List.setIfInBounds_toArray, List.set_cons_zero, List.set_cons_succ]
        refine wpAnyH_take (i := 1) (v := ?v1c) rfl (by kernel_rfl) (by kernel_rfl) (by kernel_rfl) (fun _ _ _ h => h) (Or.inl ⟨by rfl, ?hy1c⟩) (by assumption) ?rest1c
        case hy1c => (intro zz hSw; (try dsimp only at hSw); go_simp; (try with_reducible rfl))
        change wpAnyH _ _ _ _ _ _ _ (Act.put _ (some 33) _) _
        simp only [Act.put, List.setIfInBounds_toArray, List.set_cons_zero, List.set_cons_succ]
        refine wpAnyH_take (i := 2) (v := ?v2c) rfl (by kernel_rfl) (by kernel_rfl) (by kernel_rfl) (fun _ _ _ h => h) (Or.inl ⟨by rfl, ?hy2c⟩) (by assumption) ?rest2c
        case hy2c => (intro zz hSw; (try dsimp only at hSw); go_simp; (try with_reducible rfl))
        change wpAnyH _ _ _ _ _ _ _ (Act.put _ (some 34) _) _
        simp only [Act.put, List.setIfInBounds_toArray, List.set_cons_zero, List.set_cons_succ]
        refine wpAnyH_take (i := 3) (v := ?v3c) rfl (by kernel_rfl) (by kernel_rfl) (by kernel_rfl) (fun _ _ _ h => h) (Or.inl ⟨by rfl, ?hy3c⟩) (by assumption) ?rest3c
        case hy3c => (intro zz hSw; (try dsimp only at hSw); go_simp; (try with_reducible rfl))
        change wpAnyH _ _ _ _ _ _ _ (Act.put _ (some 35) _) _
        simp only [Act.put, List.setIfInBounds_toArray, List.set_cons_zero, List.set_cons_succ]
        refine wpAnyH_take (i := 4) (v := ?v4c) rfl (by kernel_rfl) (by kernel_rfl) (by kernel_rfl) (fun _ _ _ h => h) (Or.inl ⟨by rfl, ?hy4c⟩) (by assumption) ?rest4c
        case hy4c => (intro zz hSw; (try dsimp only at hSw); go_simp; (try with_reducible rfl))
        change wpAnyH _ _ _ _ _ _ _ (Act.put _ (some 36) _) _
        simp only [Act.put, List.setIfInBounds_toArray, List.set_cons_zero, List.set_cons_succ]
        refine wpAnyH_take (i := 5) (v := undef) rfl (by kernel_rfl) (by kernel_rfl) (by kernel_rfl) (fun _ _ _ h => h) (Or.inr ⟨by rfl, rfl⟩) (by assumption) ?_
        change wpAnyH _ _ _ _ _ _ _ (Act.put _ (some 37) _) _
        simp only [Act.put, List.setIfInBounds_toArray, List.set_cons_zero, List.set_cons_succ]
        refine wpAnyH_take (i := 6) (v := undef) rfl (by kernel_rfl) (by kernel_rfl) (by kernel_rfl) (fun _ _ _ h => h) (Or.inr ⟨by rfl, rfl⟩) (by assumption) ?_
        change wpAnyH _ _ _ _ _ _ _ (Act.put _ (some 38) _) _
        simp only [Act.put, List.setIfInBounds_toArray, List.set_cons_zero, List.set_cons_succ]
        refine wpAnyH_take (i := 7) (v := undef) rfl (by kernel_rfl) (by kernel_rfl) (by kernel_rfl) (fun _ _ _ h => h) (Or.inr ⟨by rfl, rfl⟩) (by assumption) ?_
        change wpAnyH _ _ _ _ _ _ _ (Act.put _ (some 39) _) _
        simp only [Act.put, List.setIfInBounds_toArray, List.set_cons_zero, List.set_cons_succ]
        refine wpAnyH_take (i := 8) (v := undef) rfl (by kernel_rfl) (by kernel_rfl) (by kernel_rfl) (fun _ _ _ h => h) (Or.inr ⟨by rfl, rfl⟩) (by assumption) ?_
        change wpAnyH _ _ _ _ _ _ _ (Act.put _ (some 40) _) _
        simp only [Act.put, List.setIfInBounds_toArray, List.set_cons_zero, List.set_cons_succ]
        refine wpAnyH_take (i := 9) (v := undef) rfl (by kernel_rfl) (by kernel_rfl) (by kernel_rfl) (fun _ _ _ h => h) (Or.inr ⟨by rfl, rfl⟩) (by assumption) ?_
        change wpAnyH _ _ _ _ _ _ _ (Act.put _ (some 41) _) _
        simp only [Act.put, List.setIfInBounds_toArray, List.set_cons_zero, List.set_cons_succ]
        refine wpAnyH_take (i := 10) (v := undef) rfl (by kernel_rfl) (by kernel_rfl) (by kernel_rfl) (fun _ _ _ h => h) (Or.inr ⟨by rfl, rfl⟩) (by assumption) ?_
        change wpAnyH _ _ _ _ _ _ _ (Act.put _ (some 42) _) _
        simp only [Act.put, List.setIfInBounds_toArray, List.set_cons_zero, List.set_cons_succ]
        refine wpAnyH_take (i := 11) (v := undef) rfl (by kernel_rfl) (by kernel_rfl) (by kernel_rfl) (fun _ _ _ h => h) (Or.inr ⟨by rfl, rfl⟩) (by assumption) ?_
        change wpAnyH _ _ _ _ _ _ _ (Act.put _ (some 43) _) _
        simp only [Act.put, List.setIfInBounds_toArray, List.set_cons_zero, List.set_cons_succ]
        refine wpAnyH_take (i := 12) (v := undef) rfl (by kernel_rfl) (by kernel_rfl) (by kernel_rfl) (fun _ _ _ h => h) (Or.inr ⟨by rfl, rfl⟩) (by assumption) ?_
        change wpAnyH _ _ _ _ _ _ _ (Act.put _ (some 44) _) _
        simp only [Act.put, List.setIfInBounds_toArray, List.set_cons_zero, List.set_cons_succ]
        refine wpAnyH_take (i := 13) (v := undef) rfl (by kernel_rfl) (by kernel_rfl) (by kernel_rfl) (fun _ _ _ h => h) (Or.inr ⟨by rfl, rfl⟩) (by assumption) ?_
        change wpAnyH _ _ _ _ _ _ _ (Act.put _ (some 45) _) _
        simp only [Act.put, List.setIfInBounds_toArray, List.set_cons_zero, List.set_cons_succ]
        refine wpAnyH_take (i := 14) (v := ?v14c) rfl (by kernel_rfl) (by kernel_rfl) (by kernel_rfl) (fun _ _ _ h => h) (Or.inl ⟨by rfl, ?hy14c⟩) (by assumption) ?rest14c
        case hy14c => (intro zz hSw; (try dsimp only at hSw); go_simp; (try with_reducible rfl))
        change wpAnyH _ _ _ _ _ _ _ (Act.put _ (some 46) _) _
        simp only [Act.put, List.setIfInBounds_toArray, List.set_cons_zero, List.set_cons_succ]
        refine wpAnyH_done (by kernel_rfl) ?_ _
        have b4 := bel_tr B3.out hHeld.2.2.2 (Nat.le_refl _)
        clear hHeld
        generalize w3.drew = w4 at b4 ⊢
        obtain ⟨⟨z0, z1, z2, z3, z4⟩, ⟨f0, f1, f2, f3, f4⟩, -⟩ := HZ.out.next b4
        have B4 := Lib.hid (bel_tr HB0.out b4 (Nat.le_refl _)); clear b4 SOF
        go_wp2_with fail
        refine bodyPost_ret (v := .tuple #[.agg #[.string ⟨#[]⟩, .string ⟨#[]⟩, .int .i64 0, .int .i64 0, .bool false], .bool false]) (by simp [results, Try.results20, go_sem, z0, z1, z2, z3, z4]) rfl ⟨by rw [HP.out]; rfl, ?_⟩
        exact bel_set5 B4.out hqB _ _ _ _ _
end Go.Proofs.Ytkkpokfekbdigaa.Cl
