/-
  The walk of the exact law of PutBarn. (Made by gen_xbp.py.)
-/
import Derived.Test.YtkkpokfekbdigaaWe
import Derived.Deep.DeepCutAuto
import Derived.Deep.Upon
namespace Go.Proofs.Ytkkpokfekbdigaa.Cl
open Go.RowKit Wd Rp Kp Ra
set_option linter.unusedVariables false
/-- A store of a call's own, in a variable's block. -/
def Bxd (r : World) (b : Bool) (h : List Cel) (ss : List (List Cel)) (sp sb : Value) (wx : World) : Prop := ∃ q lo hi a n c sa m sc, sp = .pointer (some ⟨q, 0, none⟩) ∧ sb = .bool b ∧ Bb q (.slice a n c) (.slice sa m sc) wx ∧ OwT lo hi wx (.slice a n c) (.slice sa m sc) h ss ∧ ((q < lo ∨ hi ≤ q) ∧ r.heap.size ≤ lo ∧ hi ≤ wx.heap.size ∧ r.heap.size ≤ q ∧ q < wx.heap.size) ∧ Below r.heap.size r wx
theorem Bxd.one {r z : World} {lo : Nat} {a sa : Option Addr} {n c m sc : Nat} {h : List Cel} {ss : List (List Cel)} (b : Bool) (hb : Below r.heap.size r z) (o : OwT lo z.heap.size z (.slice a n c) (.slice sa m sc) h ss) (hl : r.heap.size ≤ lo) :
    Bxd r b h ss (.pointer (some ⟨z.heap.size, 0, none⟩)) (.bool b) (z.alloc (.cells #[.slice a n c, .slice sa m sc] 45)) :=
  ⟨_, lo, z.heap.size, _, _, _, _, _, _, rfl, rfl, Bb.made _ _ z _, o.next (bel1 _ _), ⟨.inr (Nat.le_refl _), hl, by simp, hb.size, by simp⟩, hb.alloc hb.size _⟩
theorem Bxd.two {r z : World} {q lo : Nat} {u v : Value} {a sa : Option Addr} {n c m sc : Nat} {h : List Cel} {ss : List (List Cel)} (b : Bool) (hb : Below r.heap.size r z) (e : Bb q u v z) (o : OwT lo z.heap.size z (.slice a n c) (.slice sa m sc) h ss) (hl : r.heap.size ≤ lo) (hq : q + 1 ≤ lo) (hr : r.heap.size ≤ q) :
    Bxd r b h ss (.pointer (some ⟨q, 0, none⟩)) (.bool b) ((z.setCell ⟨q, 0, none⟩ (.slice a n c)).setCell ⟨q, 1, none⟩ (.slice sa m sc)) ∧ Below r.heap.size r ((z.setCell ⟨q, 0, none⟩ (.slice a n c)).setCell ⟨q, 1, none⟩ (.slice sa m sc)) := by
  have B2 := (hb.setCell (p := ⟨q, 0, none⟩) hr (.slice a n c)).setCell (p := ⟨q, 1, none⟩) hr (.slice sa m sc)
  have hz : ((z.setCell ⟨q, 0, none⟩ (.slice a n c)).setCell ⟨q, 1, none⟩ (.slice sa m sc)).heap.size = z.heap.size := by rw [World.size_setCell, World.size_setCell]
  have hqz := e.2.2.2.2
  refine ⟨⟨q, lo, z.heap.size, a, n, c, sa, m, sc, rfl, rfl, (e.set0 _).set1 _, ?_, ⟨.inl (by omega), hl, by omega, hr, by omega⟩, B2⟩, B2⟩
  refine OwT.ins (lo := q) (hi := q + 1) (o.ins (lo := q) (hi := q + 1) (Ins.of_grown (grown_set (g := q) (o := 0) (v := .slice a n c)) (fun k hk => by cases hk; omega)) (.inr hq)) (Ins.of_grown (grown_set (g := q) (o := 1) (v := .slice sa m sc)) (fun k hk => by cases hk; omega)) (.inr hq)
theorem putQ_len {h : List Cel} (x : Cel) (hl : h.length ≤ 200) : (putQ h x).1.length ≤ 200 := by
  unfold putQ
  split
  · split
    · exact hl
    · simp only; omega
  · exact hl
theorem pb_low (h : List Cel) (ss : List (List Cel)) (x : Cel) : Low (pbH h ss x) (pbS h ss) ∧ (pbH h ss x).length + tott (pbS h ss) ≤ 1048576 := by
  unfold pbH pbS
  cases hok : okB h ss
  · exact ⟨⟨by simp, by simp, fun l hl => by simp at hl⟩, by simp [tott]⟩
  · obtain ⟨h1, h2⟩ := okB_tot hok
    obtain ⟨-, h3, h4⟩ := okB_iff.1 hok
    have h5 := putQ_len x h1
    refine ⟨⟨by simp only [if_true]; omega, by simp only [if_true]; omega, fun l hl => ?_⟩, by simp only [if_true]; omega⟩
    have := (okL_iff.1 (h4 l (by simpa using hl)).2).2
    omega
theorem Cb.ins {q lo hi : Nat} {c : Cel} {w w' : World} (h : Cb q c w) (i : Ins lo hi w w') (hd : q < lo ∨ hi ≤ q) : Cb q c w' := h.same (i.block q h.2.2 hd)
set_option maxHeartbeats 8000000 in
set_option maxRecDepth 100000 in
theorem FnExactPutBarn_walk (w : World) (a sa : Option Addr) (c sc N M : Nat) (h : List Cel) (hs : List Hd) (ss : List (List Cel)) (hN : h.length = N) (hM : ss.length = M) (hv : Vw w a c h) (hvs : VwS w sa sc hs ss) (hm1 : Big h) (hm2 : ∀ l ∈ ss, Big l) (y : Cel) (hyr : y.r.size ≤ 9223372036854775807) (hyb : y.b.size ≤ 9223372036854775807) :
    Calls Try.prog 13 #[.agg #[.slice a N c, .slice sa M sc], .agg #[.string y.r, .string y.b, .int .i64 y.t, .int .i64 y.v, .bool y.g]] w fun e w' => e = .returned (.bool true) ∧ Below w.heap.size w w' := by
  have HBG := Lib.hid (And.intro hm1 hm2); clear hm1 hm2
  have HV := Lib.hid hv; clear hv
  have HVS := Lib.hid hvs; clear hvs
  have H0 := Lib.hid (bel2 w (.cells #[.slice a N c, .slice sa M sc] 71) (.cells #[.string y.r, .string y.b, .int .i64 y.t, .int .i64 y.v, .bool y.g] 56))
  have KP := Lib.hid ((Bb.made (.slice a N c) (.slice sa M sc) w 71).next (bel1 _ (.cells #[.string y.r, .string y.b, .int .i64 y.t, .int .i64 y.v, .bool y.g] 56)))
  have KY := Lib.hid (show Cb (w.heap.size + 1) y ((w.alloc (.cells #[.slice a N c, .slice sa M sc] 71)).alloc (.cells #[.string y.r, .string y.b, .int .i64 y.t, .int .i64 y.v, .bool y.g] 56)) from by have := Cb.made y (w.alloc (.cells #[.slice a N c, .slice sa M sc] 71)) 56; rwa [World.size_alloc] at this)
  have HSZ := Lib.hid (szBarn_tot _ a sa c sc N M h hs ss hN hM 1048576 (HV.out.below H0.out) (HVS.out.below H0.out) HBG.out.1 HBG.out.2 (by decide) (by decide))
  go_enter Try.func13, Try.ntmps13
  go_wp2_with fail
  refine HSZ.out.mono ?_; rintro e w1 ⟨z, rfl, b1, hz⟩
  have B1 := Lib.hid (bel_tr H0.out b1 (Nat.le_refl _))
  have KP := Lib.hid (KP.out.next b1)
  have KY := Lib.hid (KY.out.next b1); clear b1 HSZ
  rcases hz with hz | ⟨z0, z1, y1, y2, y3⟩
  · go_wp2_with fail
    go_ret
    exact ⟨rfl, B1.out⟩
  have HLM := Lib.hid (low_of y1 y2 y3)
  have q0 : ¬ z < 0 := by omega
  have hTT : h.length + tott ss ≤ 1048576 := by omega
  have HZ := Lib.hid (fun w => szCell_any y.r y.b y.t y.v z y.g w hyr hyb z0 (by omega))
  have HL : 0 ≤ szL y.r y.b z → _ := szL_le
  generalize szL y.r y.b z = zz at HZ HL
  obtain ⟨⟨t0, t1, t2, t3, t4⟩, -, -⟩ := id KY.out
  by_cases hy : zz < 0
  · clear HL
    go_wp2_with fail
    refine (HZ.out _).mono ?_; rintro e w2 ⟨rfl, b2⟩
    have B2 := Lib.hid (bel_tr B1.out b2 (Nat.le_refl _)); clear b2 t0 t1 t2 t3 t4
    go_wp2_with fail
    go_ret
    exact ⟨rfl, B2.out⟩
  have HYM := Lib.hid (show y.mod from by obtain ⟨h1, h2, -⟩ := HL (by omega); exact ⟨by omega, by omega⟩); clear HL
  go_wp2_with fail
  refine (HZ.out _).mono ?_; rintro e w2 ⟨rfl, b2⟩
  have B2 := Lib.hid (bel_tr B1.out b2 (Nat.le_refl _))
  have KP := Lib.hid (KP.out.next b2)
  have KY := Lib.hid (KY.out.next b2); clear b2 t0 t1 t2 t3 t4 HZ B1
  have ZP := Lib.hid (And.intro (show w.heap.size < w2.heap.size from KP.out.2.2.2.2) (show w.heap.size + 1 < w2.heap.size from KY.out.2.2))
  have HSP := Lib.hid (fun w B hv sv (o : OwB B w hv sv h ss) => specPutO y w o HLM.out.1 HLM.out.2 HYM.out)
  have HIM := Lib.hid (fun w B hv sv (o : OwB B w hv sv h ss) => implPutO y w o HLM.out.1)
  have HL1 := Lib.hid (pb_low h ss y)
  generalize pbH h ss y = h1 at HSP HIM HL1
  generalize pbS h ss = s1 at HSP HIM HL1
  generalize pbB h ss y = bb at HSP HIM
  obtain ⟨p, hp⟩ : ∃ p, h1.length + tott s1 = p := ⟨_, rfl⟩
  rw [hp] at HL1
  have HPN := Lib.hid hp; clear hp
  have hself : (!(bb == bb)) = false := by simp
  have hself2 : (bb != bb) = false := by simp
  clear z0 z1 y1 y2 y3
  have Z2 := Lib.hid B2.out.size
  obtain ⟨kP0, kP1, kP2, kP3, -⟩ := id KP.out
  obtain ⟨⟨kY0, kY1, kY2, kY3, kY4⟩, ⟨kY5, kY6, kY7, kY8, kY9⟩, -⟩ := id KY.out
  go_upto_region 8 with fail
  clear kP0 kP1 kP2 kP3 kY0 kY1 kY2 kY3 kY4 kY5 kY6 kY7 kY8 kY9
  go_cut [6, 7] (fun sp sb wx => Bxd w2 bb h1 s1 sp sb wx)
  case first =>
    obtain ⟨hP0, hP1, -, -, hPq⟩ := id KP.out
    obtain ⟨⟨hY0, hY1, hY2, hY3, hY4⟩, -, hYq⟩ := id KY.out
    have SOF := Lib.hid (show ∀ z, Below w2.heap.size w2 z → (z.cell? ⟨w.heap.size, 0, none⟩ = some (.slice a N c) ∧ z.cell? ⟨w.heap.size, 1, none⟩ = some (.slice sa M sc) ∧ z.cell? ⟨w.heap.size + 1, 0, none⟩ = some (.string y.r) ∧ z.cell? ⟨w.heap.size + 1, 1, none⟩ = some (.string y.b) ∧ z.cell? ⟨w.heap.size + 1, 2, none⟩ = some (.int .i64 y.t) ∧ z.cell? ⟨w.heap.size + 1, 3, none⟩ = some (.int .i64 y.v) ∧ z.cell? ⟨w.heap.size + 1, 4, none⟩ = some (.bool y.g) ∧ Below w2.heap.size w2 z) from fun z hz => ⟨coc hz hPq hP0, coc hz hPq hP1, coc hz hYq hY0, coc hz hYq hY1, coc hz hYq hY2, coc hz hYq hY3, coc hz hYq hY4,  hz⟩)
    clear hP0 hP1 hY0 hY1 hY2 hY3 hY4
    refine wp_region_held_drew (S := fun z => z.cell? ⟨w.heap.size, 0, none⟩ = some (.slice a N c) ∧ z.cell? ⟨w.heap.size, 1, none⟩ = some (.slice sa M sc) ∧ z.cell? ⟨w.heap.size + 1, 0, none⟩ = some (.string y.r) ∧ z.cell? ⟨w.heap.size + 1, 1, none⟩ = some (.string y.b) ∧ z.cell? ⟨w.heap.size + 1, 2, none⟩ = some (.int .i64 y.t) ∧ z.cell? ⟨w.heap.size + 1, 3, none⟩ = some (.int .i64 y.v) ∧ z.cell? ⟨w.heap.size + 1, 4, none⟩ = some (.bool y.g) ∧ Below w2.heap.size w2 z) (by kernel_rfl) (SOF.out _ (Below.refl _ _).drew) (fun hHeld => ?_)
    refine wpAnyH_take (i := 0) (v := ?v0r8) rfl (by kernel_rfl) (by kernel_rfl) (by kernel_rfl) (fun _ _ _ h => h) (Or.inl ⟨by rfl, ?hy0r8⟩) (by assumption) ?rest0r8
    case hy0r8 => (intro zz hSw; (try dsimp only at hSw); go_simp; (try with_reducible rfl))
    change wpAnyH _ _ _ _ _ _ _ (Act.put _ (some 27) _) _
    simp only [Act.put, List.setIfInBounds_toArray, List.set_cons_zero, List.set_cons_succ]
    refine wpAnyH_take (i := 2) (v := ?v2r8) rfl (by kernel_rfl) (by kernel_rfl) (by kernel_rfl) (fun _ _ _ h => h) (Or.inl ⟨by rfl, ?hy2r8⟩) (by assumption) ?rest2r8
    case hy2r8 => (intro zz hSw; (try dsimp only at hSw); go_simp; (try with_reducible rfl))
    change wpAnyH _ _ _ _ _ _ _ (Act.put _ (some 29) _) _
    simp only [Act.put, List.setIfInBounds_toArray, List.set_cons_zero, List.set_cons_succ]
    refine wpAnyH_ready (rs := [1, 8]) (by kernel_rfl) (by simp) (AllReadyH.cons rfl (fun K hK => ?_) (AllReadyH.cons rfl (fun K hK => ?_) (AllReadyH.nil)))
    · skip
      go_simp
      refine (toBarn_any _ a sa c sc N M h hs ss hN hM (HV.out.below (bel_tr B2.out hHeld.2.2.2.2.2.2.2 (Nat.le_refl _))) (HVS.out.below (bel_tr B2.out hHeld.2.2.2.2.2.2.2 (Nat.le_refl _))) HLM.out.1).mono ?_; rintro e v1 ⟨q1, p1, rfl, o, bel⟩
      have BT := Lib.hid (bel_tr hHeld.2.2.2.2.2.2.2 bel (Nat.le_refl _))
      have OT := Lib.hid o; clear o
      refine hK.out _ _ (SOF.out _ BT.out) (fun hHeld => ?_)
      clear hK K bel
      refine wpAnyH_ready (rs := [3, 8]) (by kernel_rfl) (by simp) (AllReadyH.cons rfl (fun K hK => ?_) (AllReadyH.cons rfl (fun K hK => ?_) (AllReadyH.nil)))
      · skip
        go_simp
        refine (toCell_any y.r y.b y.t y.v y.g _).mono ?_; rintro e v2 ⟨rfl, bel⟩
        have BT := Lib.hid (bel_tr hHeld.2.2.2.2.2.2.2 bel (Nat.le_refl _))
        have OT := Lib.hid (OT.out.next bel)
        refine hK.out _ _ (SOF.out _ BT.out) (fun hHeld => ?_)
        clear hK K bel
        refine wpAnyH_ready (rs := [4, 8]) (by kernel_rfl) (by simp) (AllReadyH.cons rfl (fun K hK => ?_) (AllReadyH.cons rfl (fun K hK => ?_) (AllReadyH.nil)))
        · skip
          go_simp
          refine (HSP.out _ _ _ _ OT.out).mono ?_; rintro e v3 ⟨hv, sv, rfl, o, bel⟩
          have BT := Lib.hid (bel_tr hHeld.2.2.2.2.2.2.2 bel (Nat.le_refl _))
          obtain ⟨va, vc, sva, svc, hs1, rfl, rfl, -, -⟩ := o.view
          have OG := Lib.hid o.top; have OL := Lib.hid (hHeld.2.2.2.2.2.2.2.size); have BL := Lib.hid BT.out; clear o
          refine hK.out _ _ (SOF.out _ BT.out) (fun hHeld => ?_)
          clear hK K bel
          refine wpAnyH_take (i := 5) (v := ?v5r8xxx) rfl (by kernel_rfl) (by kernel_rfl) (by kernel_rfl) (fun _ _ _ h => h) (Or.inl ⟨by rfl, ?hy5r8xxx⟩) (by assumption) ?rest5r8xxx
          case hy5r8xxx => (intro zz hSw; (try dsimp only at hSw); go_simp; (try with_reducible rfl))
          change wpAnyH _ _ _ _ _ _ _ (Act.put _ (some 26) _) _
          simp only [Act.put, List.setIfInBounds_toArray, List.set_cons_zero, List.set_cons_succ]
          refine wpAnyH_take (i := 6) (v := ?v6r8xxx) rfl (by kernel_rfl) (by kernel_rfl) (by kernel_rfl) (fun _ _ _ h => h) (Or.inl ⟨by rfl, ?hy6r8xxx⟩) (by assumption) ?rest6r8xxx
          case hy6r8xxx => (intro zz hSw; (try dsimp only at hSw); go_simp; (try with_reducible rfl))
          change wpAnyH _ _ _ _ _ _ _ (Act.put _ (some 32) _) _
          simp only [Act.put, List.setIfInBounds_toArray, List.set_cons_zero, List.set_cons_succ]
          refine wpAnyH_take (i := 7) (v := ?v7r8xxx) rfl (by kernel_rfl) (by kernel_rfl) (by kernel_rfl) (fun _ _ _ h => h) (Or.inl ⟨by rfl, ?hy7r8xxx⟩) (by assumption) ?rest7r8xxx
          case hy7r8xxx => (intro zz hSw; (try dsimp only at hSw); go_simp; (try with_reducible rfl))
          change wpAnyH _ _ _ _ _ _ _ (Act.put _ (some 33) _) _
          simp only [Act.put, List.setIfInBounds_toArray, List.set_cons_zero, List.set_cons_succ]
          refine wpAnyH_ready (rs := [8]) (by kernel_rfl) (by simp) (AllReadyH.cons rfl (fun K hK => ?_) (AllReadyH.nil))
          go_simp
          have BT := Lib.hid (BT.out.alloc BT.out.size (.cells #[.slice none 0 0, .slice none 0 0] 45))
          refine hK.out _ _ (SOF.out _ BT.out) (fun hHeld => ?_)
          clear hK K BT
          refine wpAnyH_ready (rs := [9]) (by kernel_rfl) (by simp) (AllReadyH.cons rfl (fun K hK => ?_) (AllReadyH.nil))
          go_simp
          have BF := Lib.hid (BL.out.alloc BL.out.size (.cells #[.slice va h1.length vc, .slice sva s1.length svc] 45))
          refine hK.out _ _ (SOF.out _ BF.out) (fun hHeld => ?_)
          clear hK K
          refine wpAnyH_take (i := 10) (v := ?v10r8xxx) rfl (by kernel_rfl) (by kernel_rfl) (by kernel_rfl) (fun _ _ _ h => h) (Or.inl ⟨by rfl, ?hy10r8xxx⟩) (by assumption) ?rest10r8xxx
          case hy10r8xxx => (intro zz hSw; (try dsimp only at hSw); go_simp; (try with_reducible rfl))
          change wpAnyH _ _ _ _ _ _ _ (Act.put _ (some 7) _) _
          simp only [Act.put, List.setIfInBounds_toArray, List.set_cons_zero, List.set_cons_succ]
          refine wpAnyH_done (by kernel_rfl) ?_ _
          go_wp2_with fail
          go_meet
          exact Bxd.one bb BL.out OG.out OL.out
        · skip
          go_simp
          have EB := Lib.hid (Bb.made (.slice none 0 0) (.slice none 0 0) v2 45)
          have EZ := Lib.hid (show v2.heap.size + 1 ≤ (v2.alloc (.cells #[.slice none 0 0, .slice none 0 0] 45)).heap.size from Nat.le_of_eq (World.size_alloc _ _).symm)
          have EL := Lib.hid BT.out.size
          have OT := Lib.hid (OT.out.next (bel1 v2 (.cells #[.slice none 0 0, .slice none 0 0] 45)))
          have BT := Lib.hid (BT.out.alloc BT.out.size (.cells #[.slice none 0 0, .slice none 0 0] 45))
          refine hK.out _ _ (SOF.out _ BT.out) (fun hHeld => ?_)
          clear hK K
          refine wpAnyH_ready (rs := [4]) (by kernel_rfl) (by simp) (AllReadyH.cons rfl (fun K hK => ?_) (AllReadyH.nil))
          go_simp
          refine (HSP.out _ _ _ _ OT.out).mono ?_; rintro e v3 ⟨hv, sv, rfl, o, bel⟩
          have BT := Lib.hid (bel_tr hHeld.2.2.2.2.2.2.2 bel (Nat.le_refl _))
          have EQ := Lib.hid EZ.out
          have EB := Lib.hid (EB.out.next bel)
          have EZ := Lib.hid (Nat.le_trans EZ.out bel.size)
          obtain ⟨va, vc, sva, svc, hs1, rfl, rfl, -, -⟩ := o.view
          have OG := Lib.hid o.top; have OL := Lib.hid (hHeld.2.2.2.2.2.2.2.size); have BL := Lib.hid BT.out; clear o
          refine hK.out _ _ (SOF.out _ BT.out) (fun hHeld => ?_)
          clear hK K bel
          refine wpAnyH_take (i := 5) (v := ?v5r8xxy) rfl (by kernel_rfl) (by kernel_rfl) (by kernel_rfl) (fun _ _ _ h => h) (Or.inl ⟨by rfl, ?hy5r8xxy⟩) (by assumption) ?rest5r8xxy
          case hy5r8xxy => (intro zz hSw; (try dsimp only at hSw); go_simp; (try with_reducible rfl))
          change wpAnyH _ _ _ _ _ _ _ (Act.put _ (some 26) _) _
          simp only [Act.put, List.setIfInBounds_toArray, List.set_cons_zero, List.set_cons_succ]
          refine wpAnyH_take (i := 6) (v := ?v6r8xxy) rfl (by kernel_rfl) (by kernel_rfl) (by kernel_rfl) (fun _ _ _ h => h) (Or.inl ⟨by rfl, ?hy6r8xxy⟩) (by assumption) ?rest6r8xxy
          case hy6r8xxy => (intro zz hSw; (try dsimp only at hSw); go_simp; (try with_reducible rfl))
          change wpAnyH _ _ _ _ _ _ _ (Act.put _ (some 32) _) _
          simp only [Act.put, List.setIfInBounds_toArray, List.set_cons_zero, List.set_cons_succ]
          refine wpAnyH_take (i := 7) (v := ?v7r8xxy) rfl (by kernel_rfl) (by kernel_rfl) (by kernel_rfl) (fun _ _ _ h => h) (Or.inl ⟨by rfl, ?hy7r8xxy⟩) (by assumption) ?rest7r8xxy
          case hy7r8xxy => (intro zz hSw; (try dsimp only at hSw); go_simp; (try with_reducible rfl))
          change wpAnyH _ _ _ _ _ _ _ (Act.put _ (some 33) _) _
          simp only [Act.put, List.setIfInBounds_toArray, List.set_cons_zero, List.set_cons_succ]
          refine wpAnyH_ready (rs := [9]) (by kernel_rfl) (by simp) (AllReadyH.cons rfl (fun K hK => ?_) (AllReadyH.nil))
          obtain ⟨y0, y1, f0, f1, -⟩ := id EB.out
          have BF := Lib.hid (Bxd.two bb BT.out EB.out OG.out OL.out EQ.out EL.out)
          generalize hq9 : v2.heap.size = q9 at y0 y1 f0 f1 BF ⊢
          go_simp
          subst hq9
          refine hK.out _ _ (SOF.out _ BF.out.2) (fun hHeld => ?_)
          clear hK K y0 y1 f0 f1
          refine wpAnyH_take (i := 10) (v := ?v10r8xxy) rfl (by kernel_rfl) (by kernel_rfl) (by kernel_rfl) (fun _ _ _ h => h) (Or.inl ⟨by rfl, ?hy10r8xxy⟩) (by assumption) ?rest10r8xxy
          case hy10r8xxy => (intro zz hSw; (try dsimp only at hSw); go_simp; (try with_reducible rfl))
          change wpAnyH _ _ _ _ _ _ _ (Act.put _ (some 7) _) _
          simp only [Act.put, List.setIfInBounds_toArray, List.set_cons_zero, List.set_cons_succ]
          refine wpAnyH_done (by kernel_rfl) ?_ _
          go_wp2_with fail
          go_meet
          exact BF.out.1
      · skip
        go_simp
        have EB := Lib.hid (Bb.made (.slice none 0 0) (.slice none 0 0) v1 45)
        have EZ := Lib.hid (show v1.heap.size + 1 ≤ (v1.alloc (.cells #[.slice none 0 0, .slice none 0 0] 45)).heap.size from Nat.le_of_eq (World.size_alloc _ _).symm)
        have EL := Lib.hid BT.out.size
        have OT := Lib.hid (OT.out.next (bel1 v1 (.cells #[.slice none 0 0, .slice none 0 0] 45)))
        have BT := Lib.hid (BT.out.alloc BT.out.size (.cells #[.slice none 0 0, .slice none 0 0] 45))
        refine hK.out _ _ (SOF.out _ BT.out) (fun hHeld => ?_)
        clear hK K
        refine wpAnyH_ready (rs := [3]) (by kernel_rfl) (by simp) (AllReadyH.cons rfl (fun K hK => ?_) (AllReadyH.nil))
        go_simp
        refine (toCell_any y.r y.b y.t y.v y.g _).mono ?_; rintro e v2 ⟨rfl, bel⟩
        have BT := Lib.hid (bel_tr hHeld.2.2.2.2.2.2.2 bel (Nat.le_refl _))
        have EB := Lib.hid (EB.out.next bel)
        have EZ := Lib.hid (Nat.le_trans EZ.out bel.size)
        have OT := Lib.hid (OT.out.next bel)
        refine hK.out _ _ (SOF.out _ BT.out) (fun hHeld => ?_)
        clear hK K bel
        refine wpAnyH_ready (rs := [4]) (by kernel_rfl) (by simp) (AllReadyH.cons rfl (fun K hK => ?_) (AllReadyH.nil))
        go_simp
        refine (HSP.out _ _ _ _ OT.out).mono ?_; rintro e v3 ⟨hv, sv, rfl, o, bel⟩
        have BT := Lib.hid (bel_tr hHeld.2.2.2.2.2.2.2 bel (Nat.le_refl _))
        have EQ := Lib.hid EZ.out
        have EB := Lib.hid (EB.out.next bel)
        have EZ := Lib.hid (Nat.le_trans EZ.out bel.size)
        obtain ⟨va, vc, sva, svc, hs1, rfl, rfl, -, -⟩ := o.view
        have OG := Lib.hid o.top; have OL := Lib.hid (hHeld.2.2.2.2.2.2.2.size); have BL := Lib.hid BT.out; clear o
        refine hK.out _ _ (SOF.out _ BT.out) (fun hHeld => ?_)
        clear hK K bel
        refine wpAnyH_take (i := 5) (v := ?v5r8xy) rfl (by kernel_rfl) (by kernel_rfl) (by kernel_rfl) (fun _ _ _ h => h) (Or.inl ⟨by rfl, ?hy5r8xy⟩) (by assumption) ?rest5r8xy
        case hy5r8xy => (intro zz hSw; (try dsimp only at hSw); go_simp; (try with_reducible rfl))
        change wpAnyH _ _ _ _ _ _ _ (Act.put _ (some 26) _) _
        simp only [Act.put, List.setIfInBounds_toArray, List.set_cons_zero, List.set_cons_succ]
        refine wpAnyH_take (i := 6) (v := ?v6r8xy) rfl (by kernel_rfl) (by kernel_rfl) (by kernel_rfl) (fun _ _ _ h => h) (Or.inl ⟨by rfl, ?hy6r8xy⟩) (by assumption) ?rest6r8xy
        case hy6r8xy => (intro zz hSw; (try dsimp only at hSw); go_simp; (try with_reducible rfl))
        change wpAnyH _ _ _ _ _ _ _ (Act.put _ (some 32) _) _
        simp only [Act.put, List.setIfInBounds_toArray, List.set_cons_zero, List.set_cons_succ]
        refine wpAnyH_take (i := 7) (v := ?v7r8xy) rfl (by kernel_rfl) (by kernel_rfl) (by kernel_rfl) (fun _ _ _ h => h) (Or.inl ⟨by rfl, ?hy7r8xy⟩) (by assumption) ?rest7r8xy
        case hy7r8xy => (intro zz hSw; (try dsimp only at hSw); go_simp; (try with_reducible rfl))
        change wpAnyH _ _ _ _ _ _ _ (Act.put _ (some 33) _) _
        simp only [Act.put, List.setIfInBounds_toArray, List.set_cons_zero, List.set_cons_succ]
        refine wpAnyH_ready (rs := [9]) (by kernel_rfl) (by simp) (AllReadyH.cons rfl (fun K hK => ?_) (AllReadyH.nil))
        obtain ⟨y0, y1, f0, f1, -⟩ := id EB.out
        have BF := Lib.hid (Bxd.two bb BT.out EB.out OG.out OL.out EQ.out EL.out)
        generalize hq9 : v1.heap.size = q9 at y0 y1 f0 f1 BF ⊢
        go_simp
        subst hq9
        refine hK.out _ _ (SOF.out _ BF.out.2) (fun hHeld => ?_)
        clear hK K y0 y1 f0 f1
        refine wpAnyH_take (i := 10) (v := ?v10r8xy) rfl (by kernel_rfl) (by kernel_rfl) (by kernel_rfl) (fun _ _ _ h => h) (Or.inl ⟨by rfl, ?hy10r8xy⟩) (by assumption) ?rest10r8xy
        case hy10r8xy => (intro zz hSw; (try dsimp only at hSw); go_simp; (try with_reducible rfl))
        change wpAnyH _ _ _ _ _ _ _ (Act.put _ (some 7) _) _
        simp only [Act.put, List.setIfInBounds_toArray, List.set_cons_zero, List.set_cons_succ]
        refine wpAnyH_done (by kernel_rfl) ?_ _
        go_wp2_with fail
        go_meet
        exact BF.out.1
    · skip
      go_simp
      have BT := Lib.hid (((Below.refl w2.heap.size w2).alloc (Nat.le_refl _) (.cells #[.slice none 0 0, .slice none 0 0] 45)).drew)
      have EB := Lib.hid (show Bb w2.heap.size (.slice none 0 0) (.slice none 0 0) (w2.alloc (.cells #[.slice none 0 0, .slice none 0 0] 45)).drew from (Bb.made (.slice none 0 0) (.slice none 0 0) w2 45).same' rfl)
      have EZ := Lib.hid (show w2.heap.size + 1 ≤ (w2.alloc (.cells #[.slice none 0 0, .slice none 0 0] 45)).drew.heap.size from Nat.le_of_eq (World.size_alloc _ _).symm)
      have EL := Lib.hid (Nat.le_refl w2.heap.size)
      refine hK.out _ _ (SOF.out _ BT.out) (fun hHeld => ?_)
      clear hK K
      refine wpAnyH_ready (rs := [1]) (by kernel_rfl) (by simp) (AllReadyH.cons rfl (fun K hK => ?_) (AllReadyH.nil))
      go_simp
      refine (toBarn_any _ a sa c sc N M h hs ss hN hM (HV.out.below (bel_tr B2.out hHeld.2.2.2.2.2.2.2 (Nat.le_refl _))) (HVS.out.below (bel_tr B2.out hHeld.2.2.2.2.2.2.2 (Nat.le_refl _))) HLM.out.1).mono ?_; rintro e v1 ⟨q1, p1, rfl, o, bel⟩
      have BT := Lib.hid (bel_tr hHeld.2.2.2.2.2.2.2 bel (Nat.le_refl _))
      have EB := Lib.hid (EB.out.next bel)
      have EZ := Lib.hid (Nat.le_trans EZ.out bel.size)
      have OT := Lib.hid o; clear o
      refine hK.out _ _ (SOF.out _ BT.out) (fun hHeld => ?_)
      clear hK K bel
      refine wpAnyH_ready (rs := [3]) (by kernel_rfl) (by simp) (AllReadyH.cons rfl (fun K hK => ?_) (AllReadyH.nil))
      go_simp
      refine (toCell_any y.r y.b y.t y.v y.g _).mono ?_; rintro e v2 ⟨rfl, bel⟩
      have BT := Lib.hid (bel_tr hHeld.2.2.2.2.2.2.2 bel (Nat.le_refl _))
      have EB := Lib.hid (EB.out.next bel)
      have EZ := Lib.hid (Nat.le_trans EZ.out bel.size)
      have OT := Lib.hid (OT.out.next bel)
      refine hK.out _ _ (SOF.out _ BT.out) (fun hHeld => ?_)
      clear hK K bel
      refine wpAnyH_ready (rs := [4]) (by kernel_rfl) (by simp) (AllReadyH.cons rfl (fun K hK => ?_) (AllReadyH.nil))
      go_simp
      refine (HSP.out _ _ _ _ OT.out).mono ?_; rintro e v3 ⟨hv, sv, rfl, o, bel⟩
      have BT := Lib.hid (bel_tr hHeld.2.2.2.2.2.2.2 bel (Nat.le_refl _))
      have EQ := Lib.hid EZ.out
      have EB := Lib.hid (EB.out.next bel)
      have EZ := Lib.hid (Nat.le_trans EZ.out bel.size)
      obtain ⟨va, vc, sva, svc, hs1, rfl, rfl, -, -⟩ := o.view
      have OG := Lib.hid o.top; have OL := Lib.hid (hHeld.2.2.2.2.2.2.2.size); have BL := Lib.hid BT.out; clear o
      refine hK.out _ _ (SOF.out _ BT.out) (fun hHeld => ?_)
      clear hK K bel
      refine wpAnyH_take (i := 5) (v := ?v5r8y) rfl (by kernel_rfl) (by kernel_rfl) (by kernel_rfl) (fun _ _ _ h => h) (Or.inl ⟨by rfl, ?hy5r8y⟩) (by assumption) ?rest5r8y
      case hy5r8y => (intro zz hSw; (try dsimp only at hSw); go_simp; (try with_reducible rfl))
      change wpAnyH _ _ _ _ _ _ _ (Act.put _ (some 26) _) _
      simp only [Act.put, List.setIfInBounds_toArray, List.set_cons_zero, List.set_cons_succ]
      refine wpAnyH_take (i := 6) (v := ?v6r8y) rfl (by kernel_rfl) (by kernel_rfl) (by kernel_rfl) (fun _ _ _ h => h) (Or.inl ⟨by rfl, ?hy6r8y⟩) (by assumption) ?rest6r8y
      case hy6r8y => (intro zz hSw; (try dsimp only at hSw); go_simp; (try with_reducible rfl))
      change wpAnyH _ _ _ _ _ _ _ (Act.put _ (some 32) _) _
      simp only [Act.put, List.setIfInBounds_toArray, List.set_cons_zero, List.set_cons_succ]
      refine wpAnyH_take (i := 7) (v := ?v7r8y) rfl (by kernel_rfl) (by kernel_rfl) (by kernel_rfl) (fun _ _ _ h => h) (Or.inl ⟨by rfl, ?hy7r8y⟩) (by assumption) ?rest7r8y
      case hy7r8y => (intro zz hSw; (try dsimp only at hSw); go_simp; (try with_reducible rfl))
      change wpAnyH _ _ _ _ _ _ _ (Act.put _ (some 33) _) _
      simp only [Act.put, List.setIfInBounds_toArray, List.set_cons_zero, List.set_cons_succ]
      refine wpAnyH_ready (rs := [9]) (by kernel_rfl) (by simp) (AllReadyH.cons rfl (fun K hK => ?_) (AllReadyH.nil))
      obtain ⟨y0, y1, f0, f1, -⟩ := id EB.out
      have BF := Lib.hid (Bxd.two bb BT.out EB.out OG.out OL.out EQ.out EL.out)
      generalize hq9 : w2.heap.size = q9 at y0 y1 f0 f1 BF ⊢
      go_simp
      subst hq9
      refine hK.out _ _ (SOF.out _ BF.out.2) (fun hHeld => ?_)
      clear hK K y0 y1 f0 f1
      refine wpAnyH_take (i := 10) (v := ?v10r8y) rfl (by kernel_rfl) (by kernel_rfl) (by kernel_rfl) (fun _ _ _ h => h) (Or.inl ⟨by rfl, ?hy10r8y⟩) (by assumption) ?rest10r8y
      case hy10r8y => (intro zz hSw; (try dsimp only at hSw); go_simp; (try with_reducible rfl))
      change wpAnyH _ _ _ _ _ _ _ (Act.put _ (some 7) _) _
      simp only [Act.put, List.setIfInBounds_toArray, List.set_cons_zero, List.set_cons_succ]
      refine wpAnyH_done (by kernel_rfl) ?_ _
      go_wp2_with fail
      go_meet
      exact BF.out.1
  case rest =>
    obtain ⟨qW, loW, hiW, aW, nW, cW, eW, mW, dW, rfl, rfl, kW, oW, zW, bW⟩ := hcut
    generalize hwc : wc = w3 at *; clear hwc
    have B3 := Lib.hid (bel_tr B2.out bW (Nat.le_refl _))
    have Z3 := Lib.hid bW.size
    have KP := Lib.hid (KP.out.next bW)
    have KY := Lib.hid (KY.out.next bW)
    have OW := Lib.hid oW; have KW := Lib.hid kW; have ZZW := Lib.hid zW; clear oW kW zW bW
    obtain ⟨kP0, kP1, kP2, kP3, -⟩ := id KP.out
    obtain ⟨kW0, kW1, kW2, kW3, -⟩ := id KW.out
    obtain ⟨⟨kY0, kY1, kY2, kY3, kY4⟩, ⟨kY5, kY6, kY7, kY8, kY9⟩, -⟩ := id KY.out
    go_wp2_with fail
    clear kP0 kP1 kP2 kP3 kW0 kW1 kW2 kW3 kY0 kY1 kY2 kY3 kY4 kY5 kY6 kY7 kY8 kY9
    refine (toBarn_any w3 a sa c sc N M h hs ss hN hM (HV.out.below B3.out) (HVS.out.below B3.out) HLM.out.1).mono ?_; rintro e w4 ⟨xq1, xp1, rfl, o, b4⟩
    have B4 := Lib.hid (bel_tr B3.out b4 (Nat.le_refl _))
    have Z4 := Lib.hid b4.size
    have OW := Lib.hid (OW.out.next b4)
    have KP := Lib.hid (KP.out.next b4)
    have KW := Lib.hid (KW.out.next b4)
    have KY := Lib.hid (KY.out.next b4)
    have Ox := Lib.hid (OwB.top o); clear o b4
    obtain ⟨kP0, kP1, kP2, kP3, -⟩ := id KP.out
    obtain ⟨kW0, kW1, kW2, kW3, -⟩ := id KW.out
    obtain ⟨⟨kY0, kY1, kY2, kY3, kY4⟩, ⟨kY5, kY6, kY7, kY8, kY9⟩, -⟩ := id KY.out
    have b5 := bel1 w4 (.cells #[.slice (some ⟨xq1, 0, none⟩) N N, .slice (some ⟨xp1, 0, none⟩) M M] 45)
    have B5 := Lib.hid (bel_tr B4.out b5 (Nat.le_refl _))
    have Z5 := Lib.hid b5.size
    have OW := Lib.hid (OW.out.next b5)
    have Ox := Lib.hid (Ox.out.next b5)
    have KP := Lib.hid (KP.out.next b5)
    have KW := Lib.hid (KW.out.next b5)
    have KY := Lib.hid (KY.out.next b5)
    clear b5
    have Kx := Lib.hid (Bb.made (.slice (some ⟨xq1, 0, none⟩) N N) (.slice (some ⟨xp1, 0, none⟩) M M) w4 45)
    obtain ⟨mP0, mP1, mP2, mP3, -⟩ := id KP.out
    obtain ⟨mW0, mW1, mW2, mW3, -⟩ := id KW.out
    obtain ⟨⟨mY0, mY1, mY2, mY3, mY4⟩, ⟨mY5, mY6, mY7, mY8, mY9⟩, -⟩ := id KY.out
    go_wp2_with fail
    clear kP0 kP1 kP2 kP3 kW0 kW1 kW2 kW3 kY0 kY1 kY2 kY3 kY4 kY5 kY6 kY7 kY8 kY9 mP0 mP1 mP2 mP3 mW0 mW1 mW2 mW3 mY0 mY1 mY2 mY3 mY4 mY5 mY6 mY7 mY8 mY9
    generalize w4.alloc (.cells #[.slice (some ⟨xq1, 0, none⟩) N N, .slice (some ⟨xp1, 0, none⟩) M M] 45) = w5 at B5 Z5 Kx OW Ox KP KW KY ⊢
    obtain ⟨kP0, kP1, kP2, kP3, -⟩ := id KP.out
    obtain ⟨kW0, kW1, kW2, kW3, -⟩ := id KW.out
    obtain ⟨kx0, kx1, kx2, kx3, -⟩ := id Kx.out
    obtain ⟨⟨kY0, kY1, kY2, kY3, kY4⟩, ⟨kY5, kY6, kY7, kY8, kY9⟩, -⟩ := id KY.out
    go_upto_region 10 with fail
    clear kP0 kP1 kP2 kP3 kW0 kW1 kW2 kW3 kx0 kx1 kx2 kx3 kY0 kY1 kY2 kY3 kY4 kY5 kY6 kY7 kY8 kY9
    go_cut [9, 10] (fun sp sb wx => Bxd w5 bb h1 s1 sp sb wx)
    case first =>
      obtain ⟨hx0, hx1, -, -, hxq⟩ := id Kx.out
      obtain ⟨⟨hY0, hY1, hY2, hY3, hY4⟩, -, hYq⟩ := id KY.out
      have SOF := Lib.hid (show ∀ z, Below w5.heap.size w5 z → (z.cell? ⟨w4.heap.size, 0, none⟩ = some (.slice (some ⟨xq1, 0, none⟩) N N) ∧ z.cell? ⟨w4.heap.size, 1, none⟩ = some (.slice (some ⟨xp1, 0, none⟩) M M) ∧ z.cell? ⟨w.heap.size + 1, 0, none⟩ = some (.string y.r) ∧ z.cell? ⟨w.heap.size + 1, 1, none⟩ = some (.string y.b) ∧ z.cell? ⟨w.heap.size + 1, 2, none⟩ = some (.int .i64 y.t) ∧ z.cell? ⟨w.heap.size + 1, 3, none⟩ = some (.int .i64 y.v) ∧ z.cell? ⟨w.heap.size + 1, 4, none⟩ = some (.bool y.g) ∧ Below w5.heap.size w5 z) from fun z hz => ⟨coc hz hxq hx0, coc hz hxq hx1, coc hz hYq hY0, coc hz hYq hY1, coc hz hYq hY2, coc hz hYq hY3, coc hz hYq hY4,  hz⟩)
      clear hx0 hx1 hY0 hY1 hY2 hY3 hY4
      refine wp_region_held_drew (S := fun z => z.cell? ⟨w4.heap.size, 0, none⟩ = some (.slice (some ⟨xq1, 0, none⟩) N N) ∧ z.cell? ⟨w4.heap.size, 1, none⟩ = some (.slice (some ⟨xp1, 0, none⟩) M M) ∧ z.cell? ⟨w.heap.size + 1, 0, none⟩ = some (.string y.r) ∧ z.cell? ⟨w.heap.size + 1, 1, none⟩ = some (.string y.b) ∧ z.cell? ⟨w.heap.size + 1, 2, none⟩ = some (.int .i64 y.t) ∧ z.cell? ⟨w.heap.size + 1, 3, none⟩ = some (.int .i64 y.v) ∧ z.cell? ⟨w.heap.size + 1, 4, none⟩ = some (.bool y.g) ∧ Below w5.heap.size w5 z) (by kernel_rfl) (SOF.out _ (Below.refl _ _).drew) (fun hHeld => ?_)
      refine wpAnyH_take (i := 0) (v := ?v0r10) rfl (by kernel_rfl) (by kernel_rfl) (by kernel_rfl) (fun _ _ _ h => h) (Or.inl ⟨by rfl, ?hy0r10⟩) (by assumption) ?rest0r10
      case hy0r10 => (intro zz hSw; (try dsimp only at hSw); go_simp; (try with_reducible rfl))
      change wpAnyH _ _ _ _ _ _ _ (Act.put _ (some 37) _) _
      simp only [Act.put, List.setIfInBounds_toArray, List.set_cons_zero, List.set_cons_succ]
      refine wpAnyH_take (i := 1) (v := ?v1r10) rfl (by kernel_rfl) (by kernel_rfl) (by kernel_rfl) (fun _ _ _ h => h) (Or.inl ⟨by rfl, ?hy1r10⟩) (by assumption) ?rest1r10
      case hy1r10 => (intro zz hSw; (try dsimp only at hSw); go_simp; (try with_reducible rfl))
      change wpAnyH _ _ _ _ _ _ _ (Act.put _ (some 38) _) _
      simp only [Act.put, List.setIfInBounds_toArray, List.set_cons_zero, List.set_cons_succ]
      refine wpAnyH_ready (rs := [2, 7]) (by kernel_rfl) (by simp) (AllReadyH.cons rfl (fun K hK => ?_) (AllReadyH.cons rfl (fun K hK => ?_) (AllReadyH.nil)))
      · skip
        go_simp
        refine (toCell_any y.r y.b y.t y.v y.g _).mono ?_; rintro e v1 ⟨rfl, bel⟩
        have BT := Lib.hid (bel_tr hHeld.2.2.2.2.2.2.2 bel (Nat.le_refl _))
        refine hK.out _ _ (SOF.out _ BT.out) (fun hHeld => ?_)
        clear hK K bel
        refine wpAnyH_ready (rs := [3, 7]) (by kernel_rfl) (by simp) (AllReadyH.cons rfl (fun K hK => ?_) (AllReadyH.cons rfl (fun K hK => ?_) (AllReadyH.nil)))
        · skip
          go_simp
          refine (HIM.out _ _ _ _ (Ox.out.next hHeld.2.2.2.2.2.2.2).own).mono ?_; rintro e v2 ⟨hv, sv, rfl, o, bel⟩
          have BT := Lib.hid (bel_tr hHeld.2.2.2.2.2.2.2 bel (Nat.le_refl _))
          obtain ⟨va, vc, sva, svc, hs1, rfl, rfl, -, -⟩ := o.view
          have OG := Lib.hid o.top; have OL := Lib.hid (hHeld.2.2.2.2.2.2.2.size); have BL := Lib.hid BT.out; clear o
          refine hK.out _ _ (SOF.out _ BT.out) (fun hHeld => ?_)
          clear hK K bel
          refine wpAnyH_take (i := 4) (v := ?v4r10xx) rfl (by kernel_rfl) (by kernel_rfl) (by kernel_rfl) (fun _ _ _ h => h) (Or.inl ⟨by rfl, ?hy4r10xx⟩) (by assumption) ?rest4r10xx
          case hy4r10xx => (intro zz hSw; (try dsimp only at hSw); go_simp; (try with_reducible rfl))
          change wpAnyH _ _ _ _ _ _ _ (Act.put _ (some 36) _) _
          simp only [Act.put, List.setIfInBounds_toArray, List.set_cons_zero, List.set_cons_succ]
          refine wpAnyH_take (i := 5) (v := ?v5r10xx) rfl (by kernel_rfl) (by kernel_rfl) (by kernel_rfl) (fun _ _ _ h => h) (Or.inl ⟨by rfl, ?hy5r10xx⟩) (by assumption) ?rest5r10xx
          case hy5r10xx => (intro zz hSw; (try dsimp only at hSw); go_simp; (try with_reducible rfl))
          change wpAnyH _ _ _ _ _ _ _ (Act.put _ (some 41) _) _
          simp only [Act.put, List.setIfInBounds_toArray, List.set_cons_zero, List.set_cons_succ]
          refine wpAnyH_take (i := 6) (v := ?v6r10xx) rfl (by kernel_rfl) (by kernel_rfl) (by kernel_rfl) (fun _ _ _ h => h) (Or.inl ⟨by rfl, ?hy6r10xx⟩) (by assumption) ?rest6r10xx
          case hy6r10xx => (intro zz hSw; (try dsimp only at hSw); go_simp; (try with_reducible rfl))
          change wpAnyH _ _ _ _ _ _ _ (Act.put _ (some 42) _) _
          simp only [Act.put, List.setIfInBounds_toArray, List.set_cons_zero, List.set_cons_succ]
          refine wpAnyH_ready (rs := [7]) (by kernel_rfl) (by simp) (AllReadyH.cons rfl (fun K hK => ?_) (AllReadyH.nil))
          go_simp
          have BT := Lib.hid (BT.out.alloc BT.out.size (.cells #[.slice none 0 0, .slice none 0 0] 45))
          refine hK.out _ _ (SOF.out _ BT.out) (fun hHeld => ?_)
          clear hK K BT
          refine wpAnyH_ready (rs := [8]) (by kernel_rfl) (by simp) (AllReadyH.cons rfl (fun K hK => ?_) (AllReadyH.nil))
          go_simp
          have BF := Lib.hid (BL.out.alloc BL.out.size (.cells #[.slice va h1.length vc, .slice sva s1.length svc] 45))
          refine hK.out _ _ (SOF.out _ BF.out) (fun hHeld => ?_)
          clear hK K
          refine wpAnyH_take (i := 9) (v := ?v9r10xx) rfl (by kernel_rfl) (by kernel_rfl) (by kernel_rfl) (fun _ _ _ h => h) (Or.inl ⟨by rfl, ?hy9r10xx⟩) (by assumption) ?rest9r10xx
          case hy9r10xx => (intro zz hSw; (try dsimp only at hSw); go_simp; (try with_reducible rfl))
          change wpAnyH _ _ _ _ _ _ _ (Act.put _ (some 10) _) _
          simp only [Act.put, List.setIfInBounds_toArray, List.set_cons_zero, List.set_cons_succ]
          refine wpAnyH_done (by kernel_rfl) ?_ _
          go_wp2_with fail
          go_meet
          exact Bxd.one bb BL.out OG.out OL.out
        · skip
          go_simp
          have EB := Lib.hid (Bb.made (.slice none 0 0) (.slice none 0 0) v1 45)
          have EZ := Lib.hid (show v1.heap.size + 1 ≤ (v1.alloc (.cells #[.slice none 0 0, .slice none 0 0] 45)).heap.size from Nat.le_of_eq (World.size_alloc _ _).symm)
          have EL := Lib.hid BT.out.size
          have BT := Lib.hid (BT.out.alloc BT.out.size (.cells #[.slice none 0 0, .slice none 0 0] 45))
          refine hK.out _ _ (SOF.out _ BT.out) (fun hHeld => ?_)
          clear hK K
          refine wpAnyH_ready (rs := [3]) (by kernel_rfl) (by simp) (AllReadyH.cons rfl (fun K hK => ?_) (AllReadyH.nil))
          go_simp
          refine (HIM.out _ _ _ _ (Ox.out.next hHeld.2.2.2.2.2.2.2).own).mono ?_; rintro e v2 ⟨hv, sv, rfl, o, bel⟩
          have BT := Lib.hid (bel_tr hHeld.2.2.2.2.2.2.2 bel (Nat.le_refl _))
          have EQ := Lib.hid EZ.out
          have EB := Lib.hid (EB.out.next bel)
          have EZ := Lib.hid (Nat.le_trans EZ.out bel.size)
          obtain ⟨va, vc, sva, svc, hs1, rfl, rfl, -, -⟩ := o.view
          have OG := Lib.hid o.top; have OL := Lib.hid (hHeld.2.2.2.2.2.2.2.size); have BL := Lib.hid BT.out; clear o
          refine hK.out _ _ (SOF.out _ BT.out) (fun hHeld => ?_)
          clear hK K bel
          refine wpAnyH_take (i := 4) (v := ?v4r10xy) rfl (by kernel_rfl) (by kernel_rfl) (by kernel_rfl) (fun _ _ _ h => h) (Or.inl ⟨by rfl, ?hy4r10xy⟩) (by assumption) ?rest4r10xy
          case hy4r10xy => (intro zz hSw; (try dsimp only at hSw); go_simp; (try with_reducible rfl))
          change wpAnyH _ _ _ _ _ _ _ (Act.put _ (some 36) _) _
          simp only [Act.put, List.setIfInBounds_toArray, List.set_cons_zero, List.set_cons_succ]
          refine wpAnyH_take (i := 5) (v := ?v5r10xy) rfl (by kernel_rfl) (by kernel_rfl) (by kernel_rfl) (fun _ _ _ h => h) (Or.inl ⟨by rfl, ?hy5r10xy⟩) (by assumption) ?rest5r10xy
          case hy5r10xy => (intro zz hSw; (try dsimp only at hSw); go_simp; (try with_reducible rfl))
          change wpAnyH _ _ _ _ _ _ _ (Act.put _ (some 41) _) _
          simp only [Act.put, List.setIfInBounds_toArray, List.set_cons_zero, List.set_cons_succ]
          refine wpAnyH_take (i := 6) (v := ?v6r10xy) rfl (by kernel_rfl) (by kernel_rfl) (by kernel_rfl) (fun _ _ _ h => h) (Or.inl ⟨by rfl, ?hy6r10xy⟩) (by assumption) ?rest6r10xy
          case hy6r10xy => (intro zz hSw; (try dsimp only at hSw); go_simp; (try with_reducible rfl))
          change wpAnyH _ _ _ _ _ _ _ (Act.put _ (some 42) _) _
          simp only [Act.put, List.setIfInBounds_toArray, List.set_cons_zero, List.set_cons_succ]
          refine wpAnyH_ready (rs := [8]) (by kernel_rfl) (by simp) (AllReadyH.cons rfl (fun K hK => ?_) (AllReadyH.nil))
          obtain ⟨y0, y1, f0, f1, -⟩ := id EB.out
          have BF := Lib.hid (Bxd.two bb BT.out EB.out OG.out OL.out EQ.out EL.out)
          generalize hq9 : v1.heap.size = q9 at y0 y1 f0 f1 BF ⊢
          go_simp
          subst hq9
          refine hK.out _ _ (SOF.out _ BF.out.2) (fun hHeld => ?_)
          clear hK K y0 y1 f0 f1
          refine wpAnyH_take (i := 9) (v := ?v9r10xy) rfl (by kernel_rfl) (by kernel_rfl) (by kernel_rfl) (fun _ _ _ h => h) (Or.inl ⟨by rfl, ?hy9r10xy⟩) (by assumption) ?rest9r10xy
          case hy9r10xy => (intro zz hSw; (try dsimp only at hSw); go_simp; (try with_reducible rfl))
          change wpAnyH _ _ _ _ _ _ _ (Act.put _ (some 10) _) _
          simp only [Act.put, List.setIfInBounds_toArray, List.set_cons_zero, List.set_cons_succ]
          refine wpAnyH_done (by kernel_rfl) ?_ _
          go_wp2_with fail
          go_meet
          exact BF.out.1
      · skip
        go_simp
        have BT := Lib.hid (((Below.refl w5.heap.size w5).alloc (Nat.le_refl _) (.cells #[.slice none 0 0, .slice none 0 0] 45)).drew)
        have EB := Lib.hid (show Bb w5.heap.size (.slice none 0 0) (.slice none 0 0) (w5.alloc (.cells #[.slice none 0 0, .slice none 0 0] 45)).drew from (Bb.made (.slice none 0 0) (.slice none 0 0) w5 45).same' rfl)
        have EZ := Lib.hid (show w5.heap.size + 1 ≤ (w5.alloc (.cells #[.slice none 0 0, .slice none 0 0] 45)).drew.heap.size from Nat.le_of_eq (World.size_alloc _ _).symm)
        have EL := Lib.hid (Nat.le_refl w5.heap.size)
        refine hK.out _ _ (SOF.out _ BT.out) (fun hHeld => ?_)
        clear hK K
        refine wpAnyH_ready (rs := [2]) (by kernel_rfl) (by simp) (AllReadyH.cons rfl (fun K hK => ?_) (AllReadyH.nil))
        go_simp
        refine (toCell_any y.r y.b y.t y.v y.g _).mono ?_; rintro e v1 ⟨rfl, bel⟩
        have BT := Lib.hid (bel_tr hHeld.2.2.2.2.2.2.2 bel (Nat.le_refl _))
        have EB := Lib.hid (EB.out.next bel)
        have EZ := Lib.hid (Nat.le_trans EZ.out bel.size)
        refine hK.out _ _ (SOF.out _ BT.out) (fun hHeld => ?_)
        clear hK K bel
        refine wpAnyH_ready (rs := [3]) (by kernel_rfl) (by simp) (AllReadyH.cons rfl (fun K hK => ?_) (AllReadyH.nil))
        go_simp
        refine (HIM.out _ _ _ _ (Ox.out.next hHeld.2.2.2.2.2.2.2).own).mono ?_; rintro e v2 ⟨hv, sv, rfl, o, bel⟩
        have BT := Lib.hid (bel_tr hHeld.2.2.2.2.2.2.2 bel (Nat.le_refl _))
        have EQ := Lib.hid EZ.out
        have EB := Lib.hid (EB.out.next bel)
        have EZ := Lib.hid (Nat.le_trans EZ.out bel.size)
        obtain ⟨va, vc, sva, svc, hs1, rfl, rfl, -, -⟩ := o.view
        have OG := Lib.hid o.top; have OL := Lib.hid (hHeld.2.2.2.2.2.2.2.size); have BL := Lib.hid BT.out; clear o
        refine hK.out _ _ (SOF.out _ BT.out) (fun hHeld => ?_)
        clear hK K bel
        refine wpAnyH_take (i := 4) (v := ?v4r10y) rfl (by kernel_rfl) (by kernel_rfl) (by kernel_rfl) (fun _ _ _ h => h) (Or.inl ⟨by rfl, ?hy4r10y⟩) (by assumption) ?rest4r10y
        case hy4r10y => (intro zz hSw; (try dsimp only at hSw); go_simp; (try with_reducible rfl))
        change wpAnyH _ _ _ _ _ _ _ (Act.put _ (some 36) _) _
        simp only [Act.put, List.setIfInBounds_toArray, List.set_cons_zero, List.set_cons_succ]
        refine wpAnyH_take (i := 5) (v := ?v5r10y) rfl (by kernel_rfl) (by kernel_rfl) (by kernel_rfl) (fun _ _ _ h => h) (Or.inl ⟨by rfl, ?hy5r10y⟩) (by assumption) ?rest5r10y
        case hy5r10y => (intro zz hSw; (try dsimp only at hSw); go_simp; (try with_reducible rfl))
        change wpAnyH _ _ _ _ _ _ _ (Act.put _ (some 41) _) _
        simp only [Act.put, List.setIfInBounds_toArray, List.set_cons_zero, List.set_cons_succ]
        refine wpAnyH_take (i := 6) (v := ?v6r10y) rfl (by kernel_rfl) (by kernel_rfl) (by kernel_rfl) (fun _ _ _ h => h) (Or.inl ⟨by rfl, ?hy6r10y⟩) (by assumption) ?rest6r10y
        case hy6r10y => (intro zz hSw; (try dsimp only at hSw); go_simp; (try with_reducible rfl))
        change wpAnyH _ _ _ _ _ _ _ (Act.put _ (some 42) _) _
        simp only [Act.put, List.setIfInBounds_toArray, List.set_cons_zero, List.set_cons_succ]
        refine wpAnyH_ready (rs := [8]) (by kernel_rfl) (by simp) (AllReadyH.cons rfl (fun K hK => ?_) (AllReadyH.nil))
        obtain ⟨y0, y1, f0, f1, -⟩ := id EB.out
        have BF := Lib.hid (Bxd.two bb BT.out EB.out OG.out OL.out EQ.out EL.out)
        generalize hq9 : w5.heap.size = q9 at y0 y1 f0 f1 BF ⊢
        go_simp
        subst hq9
        refine hK.out _ _ (SOF.out _ BF.out.2) (fun hHeld => ?_)
        clear hK K y0 y1 f0 f1
        refine wpAnyH_take (i := 9) (v := ?v9r10y) rfl (by kernel_rfl) (by kernel_rfl) (by kernel_rfl) (fun _ _ _ h => h) (Or.inl ⟨by rfl, ?hy9r10y⟩) (by assumption) ?rest9r10y
        case hy9r10y => (intro zz hSw; (try dsimp only at hSw); go_simp; (try with_reducible rfl))
        change wpAnyH _ _ _ _ _ _ _ (Act.put _ (some 10) _) _
        simp only [Act.put, List.setIfInBounds_toArray, List.set_cons_zero, List.set_cons_succ]
        refine wpAnyH_done (by kernel_rfl) ?_ _
        go_wp2_with fail
        go_meet
        exact BF.out.1
    case rest =>
      obtain ⟨qG, loG, hiG, aG, nG, cG, eG, mG, dG, rfl, rfl, kG, oG, zG, bG⟩ := hcut
      generalize hwc : wc = w6 at *; clear hwc
      have B6 := Lib.hid (bel_tr B5.out bG (Nat.le_refl _))
      have Z6 := Lib.hid bG.size
      have OW := Lib.hid (OW.out.next bG)
      have Ox := Lib.hid (Ox.out.next bG)
      have KP := Lib.hid (KP.out.next bG)
      have KW := Lib.hid (KW.out.next bG)
      have Kx := Lib.hid (Kx.out.next bG)
      have KY := Lib.hid (KY.out.next bG)
      have OG := Lib.hid oG; have KG := Lib.hid kG; have ZZG := Lib.hid zG; clear oG kG zG bG
      obtain ⟨kP0, kP1, kP2, kP3, -⟩ := id KP.out
      obtain ⟨kW0, kW1, kW2, kW3, -⟩ := id KW.out
      obtain ⟨kx0, kx1, kx2, kx3, -⟩ := id Kx.out
      obtain ⟨kG0, kG1, kG2, kG3, -⟩ := id KG.out
      obtain ⟨⟨kY0, kY1, kY2, kY3, kY4⟩, ⟨kY5, kY6, kY7, kY8, kY9⟩, -⟩ := id KY.out
      go_wp2_with fail
      clear kP0 kP1 kP2 kP3 kW0 kW1 kW2 kW3 kx0 kx1 kx2 kx3 kG0 kG1 kG2 kG3 kY0 kY1 kY2 kY3 kY4 kY5 kY6 kY7 kY8 kY9
      refine (eqB_own w6 OG.out.own OW.out.own HL1.out.1).mono ?_; rintro e w7 ⟨rfl, b7⟩
      have B7 := Lib.hid (bel_tr B6.out b7 (Nat.le_refl _))
      have Z7 := Lib.hid b7.size
      have OW := Lib.hid (OW.out.next b7)
      have Ox := Lib.hid (Ox.out.next b7)
      have OG := Lib.hid (OG.out.next b7)
      have KP := Lib.hid (KP.out.next b7)
      have KW := Lib.hid (KW.out.next b7)
      have Kx := Lib.hid (Kx.out.next b7)
      have KG := Lib.hid (KG.out.next b7)
      have KY := Lib.hid (KY.out.next b7)
      clear b7
      obtain ⟨kP0, kP1, kP2, kP3, -⟩ := id KP.out
      obtain ⟨kW0, kW1, kW2, kW3, -⟩ := id KW.out
      obtain ⟨kx0, kx1, kx2, kx3, -⟩ := id Kx.out
      obtain ⟨kG0, kG1, kG2, kG3, -⟩ := id KG.out
      obtain ⟨⟨kY0, kY1, kY2, kY3, kY4⟩, ⟨kY5, kY6, kY7, kY8, kY9⟩, -⟩ := id KY.out
      go_wp2_with fail
      clear kP0 kP1 kP2 kP3 kW0 kW1 kW2 kW3 kx0 kx1 kx2 kx3 kG0 kG1 kG2 kG3 kY0 kY1 kY2 kY3 kY4 kY5 kY6 kY7 kY8 kY9
      obtain ⟨hx0, hx1, -, -, hxq⟩ := id Kx.out
      obtain ⟨hP0, hP1, -, -, hPq⟩ := id KP.out
      have SOF := Lib.hid (show ∀ z, Below w7.heap.size w7 z → (z.cell? ⟨w4.heap.size, 0, none⟩ = some (.slice (some ⟨xq1, 0, none⟩) N N) ∧ z.cell? ⟨w4.heap.size, 1, none⟩ = some (.slice (some ⟨xp1, 0, none⟩) M M) ∧ z.cell? ⟨w.heap.size, 0, none⟩ = some (.slice a N c) ∧ z.cell? ⟨w.heap.size, 1, none⟩ = some (.slice sa M sc) ∧ Below w7.heap.size w7 z) from fun z hz => ⟨coc hz hxq hx0, coc hz hxq hx1, coc hz hPq hP0, coc hz hPq hP1,  hz⟩)
      clear hx0 hx1 hP0 hP1
      refine wp_region_held_drew (S := fun z => z.cell? ⟨w4.heap.size, 0, none⟩ = some (.slice (some ⟨xq1, 0, none⟩) N N) ∧ z.cell? ⟨w4.heap.size, 1, none⟩ = some (.slice (some ⟨xp1, 0, none⟩) M M) ∧ z.cell? ⟨w.heap.size, 0, none⟩ = some (.slice a N c) ∧ z.cell? ⟨w.heap.size, 1, none⟩ = some (.slice sa M sc) ∧ Below w7.heap.size w7 z) (by kernel_rfl) (SOF.out _ (Below.refl _ _).drew) (fun hHeld => ?_)
      refine wpAnyH_take (i := 0) (v := ?v0a) rfl (by kernel_rfl) (by kernel_rfl) (by kernel_rfl) (fun _ _ _ h => h) (Or.inl ⟨by rfl, ?hy0a⟩) (by assumption) ?rest0a
      case hy0a => (intro zz hSw; (try dsimp only at hSw); go_simp; (try with_reducible rfl))
      change wpAnyH _ _ _ _ _ _ _ (Act.put _ (some 52) _) _
      simp only [Act.put, List.setIfInBounds_toArray, List.set_cons_zero, List.set_cons_succ]
      refine wpAnyH_take (i := 1) (v := ?v1a) rfl (by kernel_rfl) (by kernel_rfl) (by kernel_rfl) (fun _ _ _ h => h) (Or.inl ⟨by rfl, ?hy1a⟩) (by assumption) ?rest1a
      case hy1a => (intro zz hSw; (try dsimp only at hSw); go_simp; (try with_reducible rfl))
      change wpAnyH _ _ _ _ _ _ _ (Act.put _ (some 53) _) _
      simp only [Act.put, List.setIfInBounds_toArray, List.set_cons_zero, List.set_cons_succ]
      refine wpAnyH_ready (rs := [2]) (by kernel_rfl) (by simp) (AllReadyH.cons rfl (fun K hK => ?_) (AllReadyH.nil))
      go_simp
      refine (toBarn_any _ a sa c sc N M h hs ss hN hM (HV.out.below (bel_tr B7.out hHeld.2.2.2.2 (Nat.le_refl _))) (HVS.out.below (bel_tr B7.out hHeld.2.2.2.2 (Nat.le_refl _))) HLM.out.1).mono ?_; rintro e w8 ⟨q3, p3, rfl, o, bel⟩
      have Ot := Lib.hid o; clear o
      have Bt := Lib.hid (bel_tr hHeld.2.2.2.2 bel (Nat.le_refl _))
      refine hK.out _ _ (SOF.out _ (bel_tr hHeld.2.2.2.2 bel (Nat.le_refl _))) (fun hHeld => ?_)
      clear hK K
      refine wpAnyH_ready (rs := [3]) (by kernel_rfl) (by simp) (AllReadyH.cons rfl (fun K hK => ?_) (AllReadyH.nil))
      go_simp
      refine (eqB_own _ (Ox.out.next hHeld.2.2.2.2).own Ot.out HLM.out.1).mono ?_; rintro e w9 ⟨rfl, bel⟩
      refine hK.out _ _ (SOF.out _ (bel_tr hHeld.2.2.2.2 bel (Nat.le_refl _))) (fun hHeld => ?_)
      clear hK K
      refine wpAnyH_take (i := 4) (v := ?v4a) rfl (by kernel_rfl) (by kernel_rfl) (by kernel_rfl) (fun _ _ _ h => h) (Or.inl ⟨by rfl, ?hy4a⟩) (by assumption) ?rest4a
      case hy4a => (intro zz hSw; (try dsimp only at hSw); go_simp; (try with_reducible rfl))
      change wpAnyH _ _ _ _ _ _ _ (Act.put _ (some 56) _) _
      simp only [Act.put, List.setIfInBounds_toArray, List.set_cons_zero, List.set_cons_succ]
      refine wpAnyH_done (by kernel_rfl) ?_ _
      have bx := hHeld.2.2.2.2; clear hHeld SOF
      clear hxq hPq
      have B9 := Lib.hid (bel_tr B7.out bx (Nat.le_refl _))
      have Z9 := Lib.hid bx.size
      have OW := Lib.hid (OW.out.next bx)
      have Ox := Lib.hid (Ox.out.next bx)
      have OG := Lib.hid (OG.out.next bx)
      have KP := Lib.hid (KP.out.next bx)
      have KW := Lib.hid (KW.out.next bx)
      have Kx := Lib.hid (Kx.out.next bx)
      have KG := Lib.hid (KG.out.next bx)
      have KY := Lib.hid (KY.out.next bx)
      clear bx
      have k0 : ¬ ((1 + 5 * (h.length + tott ss) : Nat) : Int) < 0 := by omega
      have HMX := Lib.hid (markBarn_any w9 Ox.out (by have := Z2.out; have := ZP.out; have := Z3.out; have := ZZW.out; have := Z4.out; have := Z5.out; have := Z6.out; have := ZZG.out; have := Z7.out; have := Z9.out; omega) rfl hTT HLM.out.1.2.1)
      generalize ((1 + 5 * (h.length + tott ss) : Nat) : Int) = kk at k0 HMX ⊢
      obtain ⟨kP0, kP1, kP2, kP3, -⟩ := id KP.out
      obtain ⟨kW0, kW1, kW2, kW3, -⟩ := id KW.out
      obtain ⟨kx0, kx1, kx2, kx3, -⟩ := id Kx.out
      obtain ⟨kG0, kG1, kG2, kG3, -⟩ := id KG.out
      obtain ⟨⟨kY0, kY1, kY2, kY3, kY4⟩, ⟨kY5, kY6, kY7, kY8, kY9⟩, -⟩ := id KY.out
      go_wp2_with fail
      clear kP0 kP1 kP2 kP3 kW0 kW1 kW2 kW3 kx0 kx1 kx2 kx3 kG0 kG1 kG2 kG3 kY0 kY1 kY2 kY3 kY4 kY5 kY6 kY7 kY8 kY9
      refine (HMX.out).mono ?_; rintro e w10 ⟨rfl, i10, -⟩
      have B10 := Lib.hid (i10.bel B9.out (by have := Z2.out; have := ZP.out; have := Z3.out; have := ZZW.out; have := Z4.out; have := Z5.out; have := Z6.out; have := ZZG.out; have := Z7.out; have := Z9.out; omega) (by have := Z2.out; have := ZP.out; have := Z3.out; have := ZZW.out; have := Z4.out; have := Z5.out; have := Z6.out; have := ZZG.out; have := Z7.out; have := Z9.out; omega))
      have OW := Lib.hid (OW.out.ins i10 (by have := Z2.out; have := ZP.out; have := Z3.out; have := ZZW.out; have := Z4.out; have := Z5.out; have := Z6.out; have := ZZG.out; have := Z7.out; have := Z9.out; omega))
      have OG := Lib.hid (OG.out.ins i10 (by have := Z2.out; have := ZP.out; have := Z3.out; have := ZZW.out; have := Z4.out; have := Z5.out; have := Z6.out; have := ZZG.out; have := Z7.out; have := Z9.out; omega))
      have KP := Lib.hid (KP.out.ins i10 (by have := Z2.out; have := ZP.out; have := Z3.out; have := ZZW.out; have := Z4.out; have := Z5.out; have := Z6.out; have := ZZG.out; have := Z7.out; have := Z9.out; omega))
      have KW := Lib.hid (KW.out.ins i10 (by have := Z2.out; have := ZP.out; have := Z3.out; have := ZZW.out; have := Z4.out; have := Z5.out; have := Z6.out; have := ZZG.out; have := Z7.out; have := Z9.out; omega))
      have Kx := Lib.hid (Kx.out.ins i10 (by have := Z2.out; have := ZP.out; have := Z3.out; have := ZZW.out; have := Z4.out; have := Z5.out; have := Z6.out; have := ZZG.out; have := Z7.out; have := Z9.out; omega))
      have KG := Lib.hid (KG.out.ins i10 (by have := Z2.out; have := ZP.out; have := Z3.out; have := ZZW.out; have := Z4.out; have := Z5.out; have := Z6.out; have := ZZG.out; have := Z7.out; have := Z9.out; omega))
      have KY := Lib.hid (KY.out.ins i10 (by have := Z2.out; have := ZP.out; have := Z3.out; have := ZZW.out; have := Z4.out; have := Z5.out; have := Z6.out; have := ZZG.out; have := Z7.out; have := Z9.out; omega))
      have Z10 := Lib.hid i10.size
      clear i10
      clear Ox
      clear HMX
      clear Kx
      obtain ⟨kP0, kP1, kP2, kP3, -⟩ := id KP.out
      obtain ⟨kW0, kW1, kW2, kW3, -⟩ := id KW.out
      obtain ⟨kG0, kG1, kG2, kG3, -⟩ := id KG.out
      obtain ⟨⟨kY0, kY1, kY2, kY3, kY4⟩, ⟨kY5, kY6, kY7, kY8, kY9⟩, -⟩ := id KY.out
      go_wp2_with fail
      clear kP0 kP1 kP2 kP3 kW0 kW1 kW2 kW3 kG0 kG1 kG2 kG3 kY0 kY1 kY2 kY3 kY4 kY5 kY6 kY7 kY8 kY9
      refine (eqB_own w10 OG.out.own OW.out.own HL1.out.1).mono ?_; rintro e w11 ⟨rfl, b11⟩
      have B11 := Lib.hid (bel_tr B10.out b11 (Nat.le_refl _))
      have Z11 := Lib.hid b11.size
      have OW := Lib.hid (OW.out.next b11)
      have OG := Lib.hid (OG.out.next b11)
      have KP := Lib.hid (KP.out.next b11)
      have KW := Lib.hid (KW.out.next b11)
      have KG := Lib.hid (KG.out.next b11)
      have KY := Lib.hid (KY.out.next b11)
      clear b11
      have m0 : ¬ ((1 + 5 * p : Nat) : Int) < 0 := by omega
      have m1 : (((1 + 5 * p : Nat) : Int) != ((1 + 5 * p : Nat) : Int)) = false := by simp
      have HMG := Lib.hid (markBarn_any w11 OG.out (by have := Z2.out; have := ZP.out; have := Z3.out; have := ZZW.out; have := Z4.out; have := Z5.out; have := Z6.out; have := ZZG.out; have := Z7.out; have := Z9.out; have := Z10.out; have := Z11.out; omega) HPN.out HL1.out.2 HL1.out.1.2.1)
      have HH0 := Lib.hid (fun mh ms (l1 : mh.length = h1.length) (l2 : ms.map List.length = s1.map List.length) (mk : MkdB mh ms) w (o : OwT loG hiG w (.slice aG nG cG) (.slice eG mG dG) mh ms) => heldBarn_any (N := p) w o mk (by rw [l1, ← HPN.out]; unfold tott; rw [l2]) HL1.out.2 (by rw [lens_len l2]; exact HL1.out.1.2.1))
      generalize ((1 + 5 * p : Nat) : Int) = mm at m0 m1 HMG HH0 ⊢
      obtain ⟨kP0, kP1, kP2, kP3, -⟩ := id KP.out
      obtain ⟨kW0, kW1, kW2, kW3, -⟩ := id KW.out
      obtain ⟨kG0, kG1, kG2, kG3, -⟩ := id KG.out
      obtain ⟨⟨kY0, kY1, kY2, kY3, kY4⟩, ⟨kY5, kY6, kY7, kY8, kY9⟩, -⟩ := id KY.out
      go_wp2_with fail
      clear kP0 kP1 kP2 kP3 kW0 kW1 kW2 kW3 kG0 kG1 kG2 kG3 kY0 kY1 kY2 kY3 kY4 kY5 kY6 kY7 kY8 kY9
      refine (HMG.out).mono ?_; rintro e w12 ⟨rfl, i12, mh, ms, l1, l2, mk, og⟩
      have B12 := Lib.hid (i12.bel B11.out (by have := Z2.out; have := ZP.out; have := Z3.out; have := ZZW.out; have := Z4.out; have := Z5.out; have := Z6.out; have := ZZG.out; have := Z7.out; have := Z9.out; have := Z10.out; have := Z11.out; omega) (by have := Z2.out; have := ZP.out; have := Z3.out; have := ZZW.out; have := Z4.out; have := Z5.out; have := Z6.out; have := ZZG.out; have := Z7.out; have := Z9.out; have := Z10.out; have := Z11.out; omega))
      have OW := Lib.hid (OW.out.ins i12 (by have := Z2.out; have := ZP.out; have := Z3.out; have := ZZW.out; have := Z4.out; have := Z5.out; have := Z6.out; have := ZZG.out; have := Z7.out; have := Z9.out; have := Z10.out; have := Z11.out; omega))
      have KP := Lib.hid (KP.out.ins i12 (by have := Z2.out; have := ZP.out; have := Z3.out; have := ZZW.out; have := Z4.out; have := Z5.out; have := Z6.out; have := ZZG.out; have := Z7.out; have := Z9.out; have := Z10.out; have := Z11.out; omega))
      have KW := Lib.hid (KW.out.ins i12 (by have := Z2.out; have := ZP.out; have := Z3.out; have := ZZW.out; have := Z4.out; have := Z5.out; have := Z6.out; have := ZZG.out; have := Z7.out; have := Z9.out; have := Z10.out; have := Z11.out; omega))
      have KG := Lib.hid (KG.out.ins i12 (by have := Z2.out; have := ZP.out; have := Z3.out; have := ZZW.out; have := Z4.out; have := Z5.out; have := Z6.out; have := ZZG.out; have := Z7.out; have := Z9.out; have := Z10.out; have := Z11.out; omega))
      have KY := Lib.hid (KY.out.ins i12 (by have := Z2.out; have := ZP.out; have := Z3.out; have := ZZW.out; have := Z4.out; have := Z5.out; have := Z6.out; have := ZZG.out; have := Z7.out; have := Z9.out; have := Z10.out; have := Z11.out; omega))
      have Z12 := Lib.hid i12.size
      clear i12
      have OG := Lib.hid og
      have HH := Lib.hid (HH0.out mh ms l1 l2 mk); clear og l1 l2 mk HMG HH0
      obtain ⟨kP0, kP1, kP2, kP3, -⟩ := id KP.out
      obtain ⟨kW0, kW1, kW2, kW3, -⟩ := id KW.out
      obtain ⟨kG0, kG1, kG2, kG3, -⟩ := id KG.out
      obtain ⟨⟨kY0, kY1, kY2, kY3, kY4⟩, ⟨kY5, kY6, kY7, kY8, kY9⟩, -⟩ := id KY.out
      go_wp2_with fail
      clear kP0 kP1 kP2 kP3 kW0 kW1 kW2 kW3 kG0 kG1 kG2 kG3 kY0 kY1 kY2 kY3 kY4 kY5 kY6 kY7 kY8 kY9
      refine (HH.out w12 OG.out).mono ?_; rintro e w13 ⟨rfl, b13⟩
      have B13 := Lib.hid (bel_tr B12.out b13 (Nat.le_refl _))
      have Z13 := Lib.hid b13.size
      have OW := Lib.hid (OW.out.next b13)
      have OG := Lib.hid (OG.out.next b13)
      have KP := Lib.hid (KP.out.next b13)
      have KW := Lib.hid (KW.out.next b13)
      have KG := Lib.hid (KG.out.next b13)
      have KY := Lib.hid (KY.out.next b13)
      clear b13
      obtain ⟨kP0, kP1, kP2, kP3, -⟩ := id KP.out
      obtain ⟨kW0, kW1, kW2, kW3, -⟩ := id KW.out
      obtain ⟨kG0, kG1, kG2, kG3, -⟩ := id KG.out
      obtain ⟨⟨kY0, kY1, kY2, kY3, kY4⟩, ⟨kY5, kY6, kY7, kY8, kY9⟩, -⟩ := id KY.out
      go_upto_region 27 with fail
      clear kP0 kP1 kP2 kP3 kW0 kW1 kW2 kW3 kG0 kG1 kG2 kG3 kY0 kY1 kY2 kY3 kY4 kY5 kY6 kY7 kY8 kY9
      go_cut [14, 15] (fun sp sb wx => Bxd w13 bb h1 s1 sp sb wx)
      case first =>
        obtain ⟨hP0, hP1, -, -, hPq⟩ := id KP.out
        obtain ⟨⟨hY0, hY1, hY2, hY3, hY4⟩, -, hYq⟩ := id KY.out
        have SOF := Lib.hid (show ∀ z, Below w13.heap.size w13 z → (z.cell? ⟨w.heap.size, 0, none⟩ = some (.slice a N c) ∧ z.cell? ⟨w.heap.size, 1, none⟩ = some (.slice sa M sc) ∧ z.cell? ⟨w.heap.size + 1, 0, none⟩ = some (.string y.r) ∧ z.cell? ⟨w.heap.size + 1, 1, none⟩ = some (.string y.b) ∧ z.cell? ⟨w.heap.size + 1, 2, none⟩ = some (.int .i64 y.t) ∧ z.cell? ⟨w.heap.size + 1, 3, none⟩ = some (.int .i64 y.v) ∧ z.cell? ⟨w.heap.size + 1, 4, none⟩ = some (.bool y.g) ∧ Below w13.heap.size w13 z) from fun z hz => ⟨coc hz hPq hP0, coc hz hPq hP1, coc hz hYq hY0, coc hz hYq hY1, coc hz hYq hY2, coc hz hYq hY3, coc hz hYq hY4,  hz⟩)
        clear hP0 hP1 hY0 hY1 hY2 hY3 hY4
        refine wp_region_held_drew (S := fun z => z.cell? ⟨w.heap.size, 0, none⟩ = some (.slice a N c) ∧ z.cell? ⟨w.heap.size, 1, none⟩ = some (.slice sa M sc) ∧ z.cell? ⟨w.heap.size + 1, 0, none⟩ = some (.string y.r) ∧ z.cell? ⟨w.heap.size + 1, 1, none⟩ = some (.string y.b) ∧ z.cell? ⟨w.heap.size + 1, 2, none⟩ = some (.int .i64 y.t) ∧ z.cell? ⟨w.heap.size + 1, 3, none⟩ = some (.int .i64 y.v) ∧ z.cell? ⟨w.heap.size + 1, 4, none⟩ = some (.bool y.g) ∧ Below w13.heap.size w13 z) (by kernel_rfl) (SOF.out _ (Below.refl _ _).drew) (fun hHeld => ?_)
        refine wpAnyH_take (i := 0) (v := ?v0r27) rfl (by kernel_rfl) (by kernel_rfl) (by kernel_rfl) (fun _ _ _ h => h) (Or.inl ⟨by rfl, ?hy0r27⟩) (by assumption) ?rest0r27
        case hy0r27 => (intro zz hSw; (try dsimp only at hSw); go_simp; (try with_reducible rfl))
        change wpAnyH _ _ _ _ _ _ _ (Act.put _ (some 85) _) _
        simp only [Act.put, List.setIfInBounds_toArray, List.set_cons_zero, List.set_cons_succ]
        refine wpAnyH_take (i := 2) (v := ?v2r27) rfl (by kernel_rfl) (by kernel_rfl) (by kernel_rfl) (fun _ _ _ h => h) (Or.inl ⟨by rfl, ?hy2r27⟩) (by assumption) ?rest2r27
        case hy2r27 => (intro zz hSw; (try dsimp only at hSw); go_simp; (try with_reducible rfl))
        change wpAnyH _ _ _ _ _ _ _ (Act.put _ (some 87) _) _
        simp only [Act.put, List.setIfInBounds_toArray, List.set_cons_zero, List.set_cons_succ]
        refine wpAnyH_ready (rs := [1, 8]) (by kernel_rfl) (by simp) (AllReadyH.cons rfl (fun K hK => ?_) (AllReadyH.cons rfl (fun K hK => ?_) (AllReadyH.nil)))
        · skip
          go_simp
          refine (toBarn_any _ a sa c sc N M h hs ss hN hM (HV.out.below (bel_tr B13.out hHeld.2.2.2.2.2.2.2 (Nat.le_refl _))) (HVS.out.below (bel_tr B13.out hHeld.2.2.2.2.2.2.2 (Nat.le_refl _))) HLM.out.1).mono ?_; rintro e v1 ⟨q1, p1, rfl, o, bel⟩
          have BT := Lib.hid (bel_tr hHeld.2.2.2.2.2.2.2 bel (Nat.le_refl _))
          have OT := Lib.hid o; clear o
          refine hK.out _ _ (SOF.out _ BT.out) (fun hHeld => ?_)
          clear hK K bel
          refine wpAnyH_ready (rs := [3, 8]) (by kernel_rfl) (by simp) (AllReadyH.cons rfl (fun K hK => ?_) (AllReadyH.cons rfl (fun K hK => ?_) (AllReadyH.nil)))
          · skip
            go_simp
            refine (toCell_any y.r y.b y.t y.v y.g _).mono ?_; rintro e v2 ⟨rfl, bel⟩
            have BT := Lib.hid (bel_tr hHeld.2.2.2.2.2.2.2 bel (Nat.le_refl _))
            have OT := Lib.hid (OT.out.next bel)
            refine hK.out _ _ (SOF.out _ BT.out) (fun hHeld => ?_)
            clear hK K bel
            refine wpAnyH_ready (rs := [4, 8]) (by kernel_rfl) (by simp) (AllReadyH.cons rfl (fun K hK => ?_) (AllReadyH.cons rfl (fun K hK => ?_) (AllReadyH.nil)))
            · skip
              go_simp
              refine (HIM.out _ _ _ _ OT.out).mono ?_; rintro e v3 ⟨hv, sv, rfl, o, bel⟩
              have BT := Lib.hid (bel_tr hHeld.2.2.2.2.2.2.2 bel (Nat.le_refl _))
              obtain ⟨va, vc, sva, svc, hs1, rfl, rfl, -, -⟩ := o.view
              have OG := Lib.hid o.top; have OL := Lib.hid (hHeld.2.2.2.2.2.2.2.size); have BL := Lib.hid BT.out; clear o
              refine hK.out _ _ (SOF.out _ BT.out) (fun hHeld => ?_)
              clear hK K bel
              refine wpAnyH_take (i := 5) (v := ?v5r27xxx) rfl (by kernel_rfl) (by kernel_rfl) (by kernel_rfl) (fun _ _ _ h => h) (Or.inl ⟨by rfl, ?hy5r27xxx⟩) (by assumption) ?rest5r27xxx
              case hy5r27xxx => (intro zz hSw; (try dsimp only at hSw); go_simp; (try with_reducible rfl))
              change wpAnyH _ _ _ _ _ _ _ (Act.put _ (some 84) _) _
              simp only [Act.put, List.setIfInBounds_toArray, List.set_cons_zero, List.set_cons_succ]
              refine wpAnyH_take (i := 6) (v := ?v6r27xxx) rfl (by kernel_rfl) (by kernel_rfl) (by kernel_rfl) (fun _ _ _ h => h) (Or.inl ⟨by rfl, ?hy6r27xxx⟩) (by assumption) ?rest6r27xxx
              case hy6r27xxx => (intro zz hSw; (try dsimp only at hSw); go_simp; (try with_reducible rfl))
              change wpAnyH _ _ _ _ _ _ _ (Act.put _ (some 90) _) _
              simp only [Act.put, List.setIfInBounds_toArray, List.set_cons_zero, List.set_cons_succ]
              refine wpAnyH_take (i := 7) (v := ?v7r27xxx) rfl (by kernel_rfl) (by kernel_rfl) (by kernel_rfl) (fun _ _ _ h => h) (Or.inl ⟨by rfl, ?hy7r27xxx⟩) (by assumption) ?rest7r27xxx
              case hy7r27xxx => (intro zz hSw; (try dsimp only at hSw); go_simp; (try with_reducible rfl))
              change wpAnyH _ _ _ _ _ _ _ (Act.put _ (some 91) _) _
              simp only [Act.put, List.setIfInBounds_toArray, List.set_cons_zero, List.set_cons_succ]
              refine wpAnyH_ready (rs := [8]) (by kernel_rfl) (by simp) (AllReadyH.cons rfl (fun K hK => ?_) (AllReadyH.nil))
              go_simp
              have BT := Lib.hid (BT.out.alloc BT.out.size (.cells #[.slice none 0 0, .slice none 0 0] 45))
              refine hK.out _ _ (SOF.out _ BT.out) (fun hHeld => ?_)
              clear hK K BT
              refine wpAnyH_ready (rs := [9]) (by kernel_rfl) (by simp) (AllReadyH.cons rfl (fun K hK => ?_) (AllReadyH.nil))
              go_simp
              have BF := Lib.hid (BL.out.alloc BL.out.size (.cells #[.slice va h1.length vc, .slice sva s1.length svc] 45))
              refine hK.out _ _ (SOF.out _ BF.out) (fun hHeld => ?_)
              clear hK K
              refine wpAnyH_take (i := 10) (v := ?v10r27xxx) rfl (by kernel_rfl) (by kernel_rfl) (by kernel_rfl) (fun _ _ _ h => h) (Or.inl ⟨by rfl, ?hy10r27xxx⟩) (by assumption) ?rest10r27xxx
              case hy10r27xxx => (intro zz hSw; (try dsimp only at hSw); go_simp; (try with_reducible rfl))
              change wpAnyH _ _ _ _ _ _ _ (Act.put _ (some 15) _) _
              simp only [Act.put, List.setIfInBounds_toArray, List.set_cons_zero, List.set_cons_succ]
              refine wpAnyH_done (by kernel_rfl) ?_ _
              go_wp2_with fail
              go_meet
              exact Bxd.one bb BL.out OG.out OL.out
            · skip
              go_simp
              have EB := Lib.hid (Bb.made (.slice none 0 0) (.slice none 0 0) v2 45)
              have EZ := Lib.hid (show v2.heap.size + 1 ≤ (v2.alloc (.cells #[.slice none 0 0, .slice none 0 0] 45)).heap.size from Nat.le_of_eq (World.size_alloc _ _).symm)
              have EL := Lib.hid BT.out.size
              have OT := Lib.hid (OT.out.next (bel1 v2 (.cells #[.slice none 0 0, .slice none 0 0] 45)))
              have BT := Lib.hid (BT.out.alloc BT.out.size (.cells #[.slice none 0 0, .slice none 0 0] 45))
              refine hK.out _ _ (SOF.out _ BT.out) (fun hHeld => ?_)
              clear hK K
              refine wpAnyH_ready (rs := [4]) (by kernel_rfl) (by simp) (AllReadyH.cons rfl (fun K hK => ?_) (AllReadyH.nil))
              go_simp
              refine (HIM.out _ _ _ _ OT.out).mono ?_; rintro e v3 ⟨hv, sv, rfl, o, bel⟩
              have BT := Lib.hid (bel_tr hHeld.2.2.2.2.2.2.2 bel (Nat.le_refl _))
              have EQ := Lib.hid EZ.out
              have EB := Lib.hid (EB.out.next bel)
              have EZ := Lib.hid (Nat.le_trans EZ.out bel.size)
              obtain ⟨va, vc, sva, svc, hs1, rfl, rfl, -, -⟩ := o.view
              have OG := Lib.hid o.top; have OL := Lib.hid (hHeld.2.2.2.2.2.2.2.size); have BL := Lib.hid BT.out; clear o
              refine hK.out _ _ (SOF.out _ BT.out) (fun hHeld => ?_)
              clear hK K bel
              refine wpAnyH_take (i := 5) (v := ?v5r27xxy) rfl (by kernel_rfl) (by kernel_rfl) (by kernel_rfl) (fun _ _ _ h => h) (Or.inl ⟨by rfl, ?hy5r27xxy⟩) (by assumption) ?rest5r27xxy
              case hy5r27xxy => (intro zz hSw; (try dsimp only at hSw); go_simp; (try with_reducible rfl))
              change wpAnyH _ _ _ _ _ _ _ (Act.put _ (some 84) _) _
              simp only [Act.put, List.setIfInBounds_toArray, List.set_cons_zero, List.set_cons_succ]
              refine wpAnyH_take (i := 6) (v := ?v6r27xxy) rfl (by kernel_rfl) (by kernel_rfl) (by kernel_rfl) (fun _ _ _ h => h) (Or.inl ⟨by rfl, ?hy6r27xxy⟩) (by assumption) ?rest6r27xxy
              case hy6r27xxy => (intro zz hSw; (try dsimp only at hSw); go_simp; (try with_reducible rfl))
              change wpAnyH _ _ _ _ _ _ _ (Act.put _ (some 90) _) _
              simp only [Act.put, List.setIfInBounds_toArray, List.set_cons_zero, List.set_cons_succ]
              refine wpAnyH_take (i := 7) (v := ?v7r27xxy) rfl (by kernel_rfl) (by kernel_rfl) (by kernel_rfl) (fun _ _ _ h => h) (Or.inl ⟨by rfl, ?hy7r27xxy⟩) (by assumption) ?rest7r27xxy
              case hy7r27xxy => (intro zz hSw; (try dsimp only at hSw); go_simp; (try with_reducible rfl))
              change wpAnyH _ _ _ _ _ _ _ (Act.put _ (some 91) _) _
              simp only [Act.put, List.setIfInBounds_toArray, List.set_cons_zero, List.set_cons_succ]
              refine wpAnyH_ready (rs := [9]) (by kernel_rfl) (by simp) (AllReadyH.cons rfl (fun K hK => ?_) (AllReadyH.nil))
              obtain ⟨y0, y1, f0, f1, -⟩ := id EB.out
              have BF := Lib.hid (Bxd.two bb BT.out EB.out OG.out OL.out EQ.out EL.out)
              generalize hq9 : v2.heap.size = q9 at y0 y1 f0 f1 BF ⊢
              go_simp
              subst hq9
              refine hK.out _ _ (SOF.out _ BF.out.2) (fun hHeld => ?_)
              clear hK K y0 y1 f0 f1
              refine wpAnyH_take (i := 10) (v := ?v10r27xxy) rfl (by kernel_rfl) (by kernel_rfl) (by kernel_rfl) (fun _ _ _ h => h) (Or.inl ⟨by rfl, ?hy10r27xxy⟩) (by assumption) ?rest10r27xxy
              case hy10r27xxy => (intro zz hSw; (try dsimp only at hSw); go_simp; (try with_reducible rfl))
              change wpAnyH _ _ _ _ _ _ _ (Act.put _ (some 15) _) _
              simp only [Act.put, List.setIfInBounds_toArray, List.set_cons_zero, List.set_cons_succ]
              refine wpAnyH_done (by kernel_rfl) ?_ _
              go_wp2_with fail
              go_meet
              exact BF.out.1
          · skip
            go_simp
            have EB := Lib.hid (Bb.made (.slice none 0 0) (.slice none 0 0) v1 45)
            have EZ := Lib.hid (show v1.heap.size + 1 ≤ (v1.alloc (.cells #[.slice none 0 0, .slice none 0 0] 45)).heap.size from Nat.le_of_eq (World.size_alloc _ _).symm)
            have EL := Lib.hid BT.out.size
            have OT := Lib.hid (OT.out.next (bel1 v1 (.cells #[.slice none 0 0, .slice none 0 0] 45)))
            have BT := Lib.hid (BT.out.alloc BT.out.size (.cells #[.slice none 0 0, .slice none 0 0] 45))
            refine hK.out _ _ (SOF.out _ BT.out) (fun hHeld => ?_)
            clear hK K
            refine wpAnyH_ready (rs := [3]) (by kernel_rfl) (by simp) (AllReadyH.cons rfl (fun K hK => ?_) (AllReadyH.nil))
            go_simp
            refine (toCell_any y.r y.b y.t y.v y.g _).mono ?_; rintro e v2 ⟨rfl, bel⟩
            have BT := Lib.hid (bel_tr hHeld.2.2.2.2.2.2.2 bel (Nat.le_refl _))
            have EB := Lib.hid (EB.out.next bel)
            have EZ := Lib.hid (Nat.le_trans EZ.out bel.size)
            have OT := Lib.hid (OT.out.next bel)
            refine hK.out _ _ (SOF.out _ BT.out) (fun hHeld => ?_)
            clear hK K bel
            refine wpAnyH_ready (rs := [4]) (by kernel_rfl) (by simp) (AllReadyH.cons rfl (fun K hK => ?_) (AllReadyH.nil))
            go_simp
            refine (HIM.out _ _ _ _ OT.out).mono ?_; rintro e v3 ⟨hv, sv, rfl, o, bel⟩
            have BT := Lib.hid (bel_tr hHeld.2.2.2.2.2.2.2 bel (Nat.le_refl _))
            have EQ := Lib.hid EZ.out
            have EB := Lib.hid (EB.out.next bel)
            have EZ := Lib.hid (Nat.le_trans EZ.out bel.size)
            obtain ⟨va, vc, sva, svc, hs1, rfl, rfl, -, -⟩ := o.view
            have OG := Lib.hid o.top; have OL := Lib.hid (hHeld.2.2.2.2.2.2.2.size); have BL := Lib.hid BT.out; clear o
            refine hK.out _ _ (SOF.out _ BT.out) (fun hHeld => ?_)
            clear hK K bel
            refine wpAnyH_take (i := 5) (v := ?v5r27xy) rfl (by kernel_rfl) (by kernel_rfl) (by kernel_rfl) (fun _ _ _ h => h) (Or.inl ⟨by rfl, ?hy5r27xy⟩) (by assumption) ?rest5r27xy
            case hy5r27xy => (intro zz hSw; (try dsimp only at hSw); go_simp; (try with_reducible rfl))
            change wpAnyH _ _ _ _ _ _ _ (Act.put _ (some 84) _) _
            simp only [Act.put, List.setIfInBounds_toArray, List.set_cons_zero, List.set_cons_succ]
            refine wpAnyH_take (i := 6) (v := ?v6r27xy) rfl (by kernel_rfl) (by kernel_rfl) (by kernel_rfl) (fun _ _ _ h => h) (Or.inl ⟨by rfl, ?hy6r27xy⟩) (by assumption) ?rest6r27xy
            case hy6r27xy => (intro zz hSw; (try dsimp only at hSw); go_simp; (try with_reducible rfl))
            change wpAnyH _ _ _ _ _ _ _ (Act.put _ (some 90) _) _
            simp only [Act.put, List.setIfInBounds_toArray, List.set_cons_zero, List.set_cons_succ]
            refine wpAnyH_take (i := 7) (v := ?v7r27xy) rfl (by kernel_rfl) (by kernel_rfl) (by kernel_rfl) (fun _ _ _ h => h) (Or.inl ⟨by rfl, ?hy7r27xy⟩) (by assumption) ?rest7r27xy
            case hy7r27xy => (intro zz hSw; (try dsimp only at hSw); go_simp; (try with_reducible rfl))
            change wpAnyH _ _ _ _ _ _ _ (Act.put _ (some 91) _) _
            simp only [Act.put, List.setIfInBounds_toArray, List.set_cons_zero, List.set_cons_succ]
            refine wpAnyH_ready (rs := [9]) (by kernel_rfl) (by simp) (AllReadyH.cons rfl (fun K hK => ?_) (AllReadyH.nil))
            obtain ⟨y0, y1, f0, f1, -⟩ := id EB.out
            have BF := Lib.hid (Bxd.two bb BT.out EB.out OG.out OL.out EQ.out EL.out)
            generalize hq9 : v1.heap.size = q9 at y0 y1 f0 f1 BF ⊢
            go_simp
            subst hq9
            refine hK.out _ _ (SOF.out _ BF.out.2) (fun hHeld => ?_)
            clear hK K y0 y1 f0 f1
            refine wpAnyH_take (i := 10) (v := ?v10r27xy) rfl (by kernel_rfl) (by kernel_rfl) (by kernel_rfl) (fun _ _ _ h => h) (Or.inl ⟨by rfl, ?hy10r27xy⟩) (by assumption) ?rest10r27xy
            case hy10r27xy => (intro zz hSw; (try dsimp only at hSw); go_simp; (try with_reducible rfl))
            change wpAnyH _ _ _ _ _ _ _ (Act.put _ (some 15) _) _
            simp only [Act.put, List.setIfInBounds_toArray, List.set_cons_zero, List.set_cons_succ]
            refine wpAnyH_done (by kernel_rfl) ?_ _
            go_wp2_with fail
            go_meet
            exact BF.out.1
        · skip
          go_simp
          have BT := Lib.hid (((Below.refl w13.heap.size w13).alloc (Nat.le_refl _) (.cells #[.slice none 0 0, .slice none 0 0] 45)).drew)
          have EB := Lib.hid (show Bb w13.heap.size (.slice none 0 0) (.slice none 0 0) (w13.alloc (.cells #[.slice none 0 0, .slice none 0 0] 45)).drew from (Bb.made (.slice none 0 0) (.slice none 0 0) w13 45).same' rfl)
          have EZ := Lib.hid (show w13.heap.size + 1 ≤ (w13.alloc (.cells #[.slice none 0 0, .slice none 0 0] 45)).drew.heap.size from Nat.le_of_eq (World.size_alloc _ _).symm)
          have EL := Lib.hid (Nat.le_refl w13.heap.size)
          refine hK.out _ _ (SOF.out _ BT.out) (fun hHeld => ?_)
          clear hK K
          refine wpAnyH_ready (rs := [1]) (by kernel_rfl) (by simp) (AllReadyH.cons rfl (fun K hK => ?_) (AllReadyH.nil))
          go_simp
          refine (toBarn_any _ a sa c sc N M h hs ss hN hM (HV.out.below (bel_tr B13.out hHeld.2.2.2.2.2.2.2 (Nat.le_refl _))) (HVS.out.below (bel_tr B13.out hHeld.2.2.2.2.2.2.2 (Nat.le_refl _))) HLM.out.1).mono ?_; rintro e v1 ⟨q1, p1, rfl, o, bel⟩
          have BT := Lib.hid (bel_tr hHeld.2.2.2.2.2.2.2 bel (Nat.le_refl _))
          have EB := Lib.hid (EB.out.next bel)
          have EZ := Lib.hid (Nat.le_trans EZ.out bel.size)
          have OT := Lib.hid o; clear o
          refine hK.out _ _ (SOF.out _ BT.out) (fun hHeld => ?_)
          clear hK K bel
          refine wpAnyH_ready (rs := [3]) (by kernel_rfl) (by simp) (AllReadyH.cons rfl (fun K hK => ?_) (AllReadyH.nil))
          go_simp
          refine (toCell_any y.r y.b y.t y.v y.g _).mono ?_; rintro e v2 ⟨rfl, bel⟩
          have BT := Lib.hid (bel_tr hHeld.2.2.2.2.2.2.2 bel (Nat.le_refl _))
          have EB := Lib.hid (EB.out.next bel)
          have EZ := Lib.hid (Nat.le_trans EZ.out bel.size)
          have OT := Lib.hid (OT.out.next bel)
          refine hK.out _ _ (SOF.out _ BT.out) (fun hHeld => ?_)
          clear hK K bel
          refine wpAnyH_ready (rs := [4]) (by kernel_rfl) (by simp) (AllReadyH.cons rfl (fun K hK => ?_) (AllReadyH.nil))
          go_simp
          refine (HIM.out _ _ _ _ OT.out).mono ?_; rintro e v3 ⟨hv, sv, rfl, o, bel⟩
          have BT := Lib.hid (bel_tr hHeld.2.2.2.2.2.2.2 bel (Nat.le_refl _))
          have EQ := Lib.hid EZ.out
          have EB := Lib.hid (EB.out.next bel)
          have EZ := Lib.hid (Nat.le_trans EZ.out bel.size)
          obtain ⟨va, vc, sva, svc, hs1, rfl, rfl, -, -⟩ := o.view
          have OG := Lib.hid o.top; have OL := Lib.hid (hHeld.2.2.2.2.2.2.2.size); have BL := Lib.hid BT.out; clear o
          refine hK.out _ _ (SOF.out _ BT.out) (fun hHeld => ?_)
          clear hK K bel
          refine wpAnyH_take (i := 5) (v := ?v5r27y) rfl (by kernel_rfl) (by kernel_rfl) (by kernel_rfl) (fun _ _ _ h => h) (Or.inl ⟨by rfl, ?hy5r27y⟩) (by assumption) ?rest5r27y
          case hy5r27y => (intro zz hSw; (try dsimp only at hSw); go_simp; (try with_reducible rfl))
          change wpAnyH _ _ _ _ _ _ _ (Act.put _ (some 84) _) _
          simp only [Act.put, List.setIfInBounds_toArray, List.set_cons_zero, List.set_cons_succ]
          refine wpAnyH_take (i := 6) (v := ?v6r27y) rfl (by kernel_rfl) (by kernel_rfl) (by kernel_rfl) (fun _ _ _ h => h) (Or.inl ⟨by rfl, ?hy6r27y⟩) (by assumption) ?rest6r27y
          case hy6r27y => (intro zz hSw; (try dsimp only at hSw); go_simp; (try with_reducible rfl))
          change wpAnyH _ _ _ _ _ _ _ (Act.put _ (some 90) _) _
          simp only [Act.put, List.setIfInBounds_toArray, List.set_cons_zero, List.set_cons_succ]
          refine wpAnyH_take (i := 7) (v := ?v7r27y) rfl (by kernel_rfl) (by kernel_rfl) (by kernel_rfl) (fun _ _ _ h => h) (Or.inl ⟨by rfl, ?hy7r27y⟩) (by assumption) ?rest7r27y
          case hy7r27y => (intro zz hSw; (try dsimp only at hSw); go_simp; (try with_reducible rfl))
          change wpAnyH _ _ _ _ _ _ _ (Act.put _ (some 91) _) _
          simp only [Act.put, List.setIfInBounds_toArray, List.set_cons_zero, List.set_cons_succ]
          refine wpAnyH_ready (rs := [9]) (by kernel_rfl) (by simp) (AllReadyH.cons rfl (fun K hK => ?_) (AllReadyH.nil))
          obtain ⟨y0, y1, f0, f1, -⟩ := id EB.out
          have BF := Lib.hid (Bxd.two bb BT.out EB.out OG.out OL.out EQ.out EL.out)
          generalize hq9 : w13.heap.size = q9 at y0 y1 f0 f1 BF ⊢
          go_simp
          subst hq9
          refine hK.out _ _ (SOF.out _ BF.out.2) (fun hHeld => ?_)
          clear hK K y0 y1 f0 f1
          refine wpAnyH_take (i := 10) (v := ?v10r27y) rfl (by kernel_rfl) (by kernel_rfl) (by kernel_rfl) (fun _ _ _ h => h) (Or.inl ⟨by rfl, ?hy10r27y⟩) (by assumption) ?rest10r27y
          case hy10r27y => (intro zz hSw; (try dsimp only at hSw); go_simp; (try with_reducible rfl))
          change wpAnyH _ _ _ _ _ _ _ (Act.put _ (some 15) _) _
          simp only [Act.put, List.setIfInBounds_toArray, List.set_cons_zero, List.set_cons_succ]
          refine wpAnyH_done (by kernel_rfl) ?_ _
          go_wp2_with fail
          go_meet
          exact BF.out.1
      case rest =>
        obtain ⟨qH, loH, hiH, aH, nH, cH, eH, mH, dH, rfl, rfl, kH, oH, zH, bH⟩ := hcut
        generalize hwc : wc = w14 at *; clear hwc
        have B14 := Lib.hid (bel_tr B13.out bH (Nat.le_refl _))
        have Z14 := Lib.hid bH.size
        have OW := Lib.hid (OW.out.next bH)
        have OG := Lib.hid (OG.out.next bH)
        have KP := Lib.hid (KP.out.next bH)
        have KW := Lib.hid (KW.out.next bH)
        have KG := Lib.hid (KG.out.next bH)
        have KY := Lib.hid (KY.out.next bH)
        have OH := Lib.hid oH; have KH := Lib.hid kH; have ZZH := Lib.hid zH; clear oH kH zH bH
        obtain ⟨kP0, kP1, kP2, kP3, -⟩ := id KP.out
        obtain ⟨kW0, kW1, kW2, kW3, -⟩ := id KW.out
        obtain ⟨kG0, kG1, kG2, kG3, -⟩ := id KG.out
        obtain ⟨kH0, kH1, kH2, kH3, -⟩ := id KH.out
        obtain ⟨⟨kY0, kY1, kY2, kY3, kY4⟩, ⟨kY5, kY6, kY7, kY8, kY9⟩, -⟩ := id KY.out
        go_wp2_with fail
        clear kP0 kP1 kP2 kP3 kW0 kW1 kW2 kW3 kG0 kG1 kG2 kG3 kH0 kH1 kH2 kH3 kY0 kY1 kY2 kY3 kY4 kY5 kY6 kY7 kY8 kY9
        refine (eqB_own w14 OH.out.own OW.out.own HL1.out.1).mono ?_; rintro e w15 ⟨rfl, b15⟩
        have B15 := Lib.hid (bel_tr B14.out b15 (Nat.le_refl _))
        have Z15 := Lib.hid b15.size
        have OW := Lib.hid (OW.out.next b15)
        have OG := Lib.hid (OG.out.next b15)
        have OH := Lib.hid (OH.out.next b15)
        have KP := Lib.hid (KP.out.next b15)
        have KW := Lib.hid (KW.out.next b15)
        have KG := Lib.hid (KG.out.next b15)
        have KH := Lib.hid (KH.out.next b15)
        have KY := Lib.hid (KY.out.next b15)
        clear b15
        obtain ⟨kP0, kP1, kP2, kP3, -⟩ := id KP.out
        obtain ⟨kW0, kW1, kW2, kW3, -⟩ := id KW.out
        obtain ⟨kG0, kG1, kG2, kG3, -⟩ := id KG.out
        obtain ⟨kH0, kH1, kH2, kH3, -⟩ := id KH.out
        obtain ⟨⟨kY0, kY1, kY2, kY3, kY4⟩, ⟨kY5, kY6, kY7, kY8, kY9⟩, -⟩ := id KY.out
        go_wp2_with fail
        clear kP0 kP1 kP2 kP3 kW0 kW1 kW2 kW3 kG0 kG1 kG2 kG3 kH0 kH1 kH2 kH3 kY0 kY1 kY2 kY3 kY4 kY5 kY6 kY7 kY8 kY9
        refine (HH.out w15 OG.out).mono ?_; rintro e w16 ⟨rfl, b16⟩
        have B16 := Lib.hid (bel_tr B15.out b16 (Nat.le_refl _))
        have Z16 := Lib.hid b16.size
        have OW := Lib.hid (OW.out.next b16)
        have OG := Lib.hid (OG.out.next b16)
        have OH := Lib.hid (OH.out.next b16)
        have KP := Lib.hid (KP.out.next b16)
        have KW := Lib.hid (KW.out.next b16)
        have KG := Lib.hid (KG.out.next b16)
        have KH := Lib.hid (KH.out.next b16)
        have KY := Lib.hid (KY.out.next b16)
        clear b16
        go_wp2_with fail
        go_ret
        exact ⟨rfl, B16.out⟩
end Go.Proofs.Ytkkpokfekbdigaa.Cl
