/-
  laws.markCellS marks each place of a slice of cells of a call's own, and turns nothing else.
  laws.heldCellS finds the marks that are there. (Made by gen_cp.py.)
  Slices of cells of a call's own at the laws' helpers; what carries them over a write elsewhere.
-/
import Derived.Test.YtdalncgbbkeimaaDoorCe
import Derived.Test.YtdalncgbbkeimaaDoorDg
import Derived.Test.YtdalncgbbkeimaaDoorCc
namespace Go.Proofs.YtdalncgbbkeimaaDoor.Cl
open Go.RowKit Wd Rp Kp
set_option linter.unusedVariables false
theorem set_same {l : List Value} {i : Nat} {v : Value} (h : l[i]? = some v) : l.set i v = l := by
  apply List.ext_getElem?
  intro j
  by_cases e : i = j
  · subst e; rw [List.getElem?_set_self (List.getElem?_eq_some_iff.1 h).1, h]
  · rw [List.getElem?_set_ne e]
theorem flat_set0 (l : List Cel) (k : Nat) (d : Cel) (hd : l[k]? = some d) (x : ByteArray) : (flat l).set (k * 5) (.string x) = flat (l.set k ⟨x, d.b, d.t, d.v, d.g⟩) := by
  rw [← flat_set l k ⟨x, d.b, d.t, d.v, d.g⟩ (List.getElem?_eq_some_iff.1 hd).1]
  have h1 : ((flat l).set (k * 5) (.string x))[k * 5 + 1]? = some (.string d.b) := by rw [List.getElem?_set_ne (by omega)]; exact flat_get l k 1 d hd (by decide)
  have h2 : ((flat l).set (k * 5) (.string x))[k * 5 + 2]? = some (.int .i64 d.t) := by rw [List.getElem?_set_ne (by omega)]; exact flat_get l k 2 d hd (by decide)
  have h3 : ((flat l).set (k * 5) (.string x))[k * 5 + 3]? = some (.int .i64 d.v) := by rw [List.getElem?_set_ne (by omega)]; exact flat_get l k 3 d hd (by decide)
  have h4 : ((flat l).set (k * 5) (.string x))[k * 5 + 4]? = some (.bool d.g) := by rw [List.getElem?_set_ne (by omega)]; exact flat_get l k 4 d hd (by decide)
  rw [set_same h1, set_same h2, set_same h3, set_same h4]
theorem OwC.set0 {B : Nat} {w : World} {g n cap : Nat} {l : List Cel} (h : OwC B w (.slice (some ⟨g, 0, none⟩) n cap) l) (hn : n = l.length) (k : Nat) (d : Cel) (hd : l[k]? = some d) (x : ByteArray) :
    OwC B (w.setCell ⟨g, k * 5, none⟩ (.string x)) (.slice (some ⟨g, 0, none⟩) n cap) (l.set k ⟨x, d.b, d.t, d.v, d.g⟩) := by
  subst hn
  unfold OwC
  rw [List.length_set, ← flat_set0 l k d hd]
  exact (World.ownsRow.stored h (k * 5) (.string x)).1
theorem OwC.set4 {B : Nat} {w : World} {g n cap : Nat} {l : List Cel} (h : OwC B w (.slice (some ⟨g, 0, none⟩) n cap) l) (hn : n = l.length) (k : Nat) (c : Cel) (d : Cel) (hd : l[k]? = some d) (hc : c.r = d.r) :
    OwC B ((((w.setCell ⟨g, k * 5 + 1, none⟩ (.string c.b)).setCell ⟨g, k * 5 + 2, none⟩ (.int .i64 c.t)).setCell ⟨g, k * 5 + 3, none⟩ (.int .i64 c.v)).setCell ⟨g, k * 5 + 4, none⟩ (.bool c.g)) (.slice (some ⟨g, 0, none⟩) n cap) (l.set k c) := by
  subst hn
  have h1 := (World.ownsRow.stored h (k * 5 + 1) (.string c.b)).1
  have h2 := (World.ownsRow.stored h1 (k * 5 + 2) (.int .i64 c.t)).1
  have h3 := (World.ownsRow.stored h2 (k * 5 + 3) (.int .i64 c.v)).1
  have h4 := (World.ownsRow.stored h3 (k * 5 + 4) (.bool c.g)).1
  unfold OwC
  have e0 : (flat l).set (k * 5) (.string c.r) = flat l := set_same (by rw [hc]; exact flat_get l k 0 d hd (by decide))
  rw [List.length_set, ← flat_set l k c (List.getElem?_eq_some_iff.1 hd).1, e0]; exact h4
theorem grown_of {w w' : World} {row : Option Nat} (h : Below w.heap.size w w') : w.grownBy w' row := ⟨h.os, h.tape, h.output, h.size, fun k hk _ => h.block k hk⟩
theorem grown_set {w : World} {g o : Nat} {v : Value} : w.grownBy (w.setCell ⟨g, o, none⟩ v) (some g) := ⟨rfl, rfl, rfl, by simp [World.setCell], fun k _ hk => Below.heap_setCell _ _ _ _ (fun e => hk (by rw [e]))⟩
/-- The mark of the k-th cell. -/
def mkC (s k : Nat) : Cel := ⟨tx (mtx (s + 5 * k)), tx (mtx (s + 5 * k + 1)), ((s + 5 * k : Nat) : Int) + 1 + 1, ((s + 5 * k : Nat) : Int) + 1 + 1 + 1, (((s + 5 * k : Nat) : Int) + 1 + 1 + 1 + 1) % 3 == 0⟩
def MkdC (s : Nat) (m : List Cel) : Prop := ∀ j, j < m.length → m[j]? = some (mkC s j)
theorem five_frozen {w : World} {g : Nat} (h : ∀ j, w.frozen? ⟨g, j, none⟩ = false) (k : Nat) : w.frozen? ⟨g, k * 5, none⟩ = false ∧ w.frozen? ⟨g, k * 5 + 1, none⟩ = false ∧ w.frozen? ⟨g, k * 5 + 2, none⟩ = false ∧ w.frozen? ⟨g, k * 5 + 3, none⟩ = false ∧ w.frozen? ⟨g, k * 5 + 4, none⟩ = false := ⟨h _, h _, h _, h _, h _⟩
theorem OwC.at {B : Nat} {w : World} {g n cap : Nat} {l : List Cel} (h : OwC B w (.slice (some ⟨g, 0, none⟩) n cap) l) {k : Nat} {d : Cel} (hd : l[k]? = some d) :
    At5 w g (k * 5) d ∧ (w.frozen? ⟨g, k * 5, none⟩ = false ∧ w.frozen? ⟨g, k * 5 + 1, none⟩ = false ∧ w.frozen? ⟨g, k * 5 + 2, none⟩ = false ∧ w.frozen? ⟨g, k * 5 + 3, none⟩ = false ∧ w.frozen? ⟨g, k * 5 + 4, none⟩ = false) ∧ B ≤ g ∧ g < w.heap.size := by
  obtain ⟨a, cap', e, hv, hf⟩ := h.view
  obtain ⟨g2, e2, hB, hfr⟩ := hf k (List.getElem?_eq_some_iff.1 hd).1
  obtain ⟨g3, o3, e3, hlt, h5⟩ := hv.2.2.2 k d hd
  cases e
  cases e2
  cases e3
  rw [Nat.zero_add] at h5
  exact ⟨h5, five_frozen hfr k, hB, hlt⟩
theorem markText_next (n : Nat) (w : World) (hn : n ≤ 9223372036854775806) : Calls Tryd.prog 81 #[.int .i64 ((n : Int) + 1)] w fun e w' => e = .returned (.string (tx (mtx (n + 1)))) ∧ Below w.heap.size w w' := by
  have := markText_any (n + 1) w (by omega) (by omega)
  rwa [show ((n + 1 : Nat) : Int) = (n : Int) + 1 by omega] at this
set_option maxRecDepth 100000 in
set_option maxHeartbeats 4000000 in
theorem markC_any {B : Nat} {v : Value} {l : List Cel} (w : World) (hv : OwC B w v l) (hl : l.length ≤ 4194304) (s : Nat) (hs1 : 1 ≤ s) (hs2 : s ≤ 9000000) :
    Calls Tryd.prog 45 #[v, .int .i64 (s : Int)] w fun e w' => e = .returned (.int .i64 ((s + 5 * l.length : Nat) : Int)) ∧ w.grownBy w' v.ownBlock ∧ ∃ m, m.length = l.length ∧ MkdC s m ∧ OwC B w' v m := by
  obtain ⟨a, ca, rfl, -, ha⟩ := hv.view
  have HA := Lib.hid ha; clear ha
  have HO := Lib.hid hv; clear hv
  generalize hn : l.length = n at *
  go_enter Tryd.func45, Tryd.ntmps45
  go_wp2
  go_loopw [1, 5] (fun q i wr => ∃ (k : Nat) (m : List Cel), k ≤ n ∧ i = .int .i64 k ∧ q = .int .i64 ((s + 5 * k : Nat) : Int) ∧ w.grownBy wr (Value.slice a n ca).ownBlock ∧ m.length = n ∧ (∀ j, j < k → m[j]? = some (mkC s j)) ∧ OwC B wr (.slice a n ca) m) (fun _ i _ => n - intV i)
  case atStart => exact ⟨0, l, Nat.zero_le _, rfl, rfl, World.grownBy.refl _ _, hn, fun j hj => by omega, HO.out⟩
  case round =>
    obtain ⟨k, m, hk, rfl, rfl, hgr, hm, hmk, hown⟩ := hrel
    have HG := Lib.hid hgr; clear hgr
    have HM := Lib.hid hmk; clear hmk
    have HW := Lib.hid hown; clear hown HO
    by_cases hlt : k < n
    · obtain ⟨g, rfl, -, -⟩ := HA.out k (by omega)
      obtain ⟨d, hd⟩ : ∃ d, m[k]? = some d := ⟨m[k], List.getElem?_eq_getElem (by omega)⟩
      have HD := Lib.hid hd; clear hd
      have HT := Lib.hid (fun w => markText_any (s + 5 * k) w (by omega) (by omega))
      have HT2 := Lib.hid (fun w => markText_next (s + 5 * k) w (by omega))
      have HC := Lib.hid (show mkC s k = ⟨tx (mtx (s + 5 * k)), tx (mtx (s + 5 * k + 1)), ((s + 5 * k : Nat) : Int) + 1 + 1, ((s + 5 * k : Nat) : Int) + 1 + 1 + 1, (((s + 5 * k : Nat) : Int) + 1 + 1 + 1 + 1) % 3 == 0⟩ from rfl)
      generalize hq : s + 5 * k = q at *
      generalize tx (mtx q) = s0 at HT HC
      generalize tx (mtx (q + 1)) = s1 at HT2 HC
      go_wp2_with fail
      refine (HT.out _).mono ?_; rintro e w1 ⟨rfl, b1⟩
      have HG1 := Lib.hid (HG.out.trans (grown_of b1))
      have HW1 := Lib.hid (HW.out.next b1); clear b1
      obtain ⟨⟨c0, c1, c2, c3, c4⟩, ⟨f0, f1, f2, f3, f4⟩, -, -⟩ := HW1.out.at HD.out
      have hq2 : (q : Int) ≤ 30000000 := by omega
      have hq3 : (0 : Int) ≤ (q : Int) := by omega
      go_wp2_with fail
      refine (HT2.out _).mono ?_; rintro e w2 ⟨rfl, b2⟩
      have HG2 := Lib.hid ((HG1.out.trans grown_set).trans (grown_of b2))
      have hd1 : (m.set k ⟨s0, d.b, d.t, d.v, d.g⟩)[k]? = some ⟨s0, d.b, d.t, d.v, d.g⟩ := List.getElem?_set_self (by omega)
      have HW2 := Lib.hid ((HW1.out.set0 (by rw [hm]) k d HD.out s0).next b2); clear b2 c0 c1 c2 c3 c4 f0 f1 f2 f3 f4
      obtain ⟨⟨c0, c1, c2, c3, c4⟩, ⟨f0, f1, f2, f3, f4⟩, -, -⟩ := HW2.out.at hd1
      have HD1 := Lib.hid hd1; clear hd1
      go_wp2_with fail
      go_roundw
      case rel =>
        refine ⟨k + 1, (m.set k ⟨s0, d.b, d.t, d.v, d.g⟩).set k (mkC s k), by omega, by go_num, ?_, ((((HG2.out.trans grown_set).trans grown_set).trans grown_set).trans grown_set), by rw [List.length_set, List.length_set, hm], fun j hj => ?_, ?_⟩
        · congr 1; omega
        · by_cases hjk : j = k
          · subst hjk; rw [List.getElem?_set_self (by rw [List.length_set]; omega)]
          · rw [List.getElem?_set_ne (by omega), List.getElem?_set_ne (by omega)]; exact HM.out j (by omega)
        · rw [HC.out]
          exact HW2.out.set4 (by rw [List.length_set, hm]) k ⟨s0, s1, (q : Int) + 1 + 1, (q : Int) + 1 + 1 + 1, ((q : Int) + 1 + 1 + 1 + 1) % 3 == 0⟩ _ HD1.out rfl
      case measure => simp [intV]; omega
    · obtain rfl : k = n := by omega
      go_wp2_with fail
      go_ret
      exact ⟨rfl, HG.out, m, hm, fun j hj => HM.out j (by omega), HW.out⟩
end Go.Proofs.YtdalncgbbkeimaaDoor.Cl
namespace Go.Proofs.YtdalncgbbkeimaaDoor.Cl
open Go.RowKit Wd Rp Kp
set_option linter.unusedVariables false
set_option maxRecDepth 100000 in
set_option maxHeartbeats 4000000 in
theorem heldC_any (s : Nat) (w : World) (a : Option Addr) (cap : Nat) (l : List Cel) (n : Nat) (hn : l.length = n) (hv : Vw w a cap l) (hm : MkdC s l) (hl : n ≤ 4194304) (hs1 : 1 ≤ s) (hs2 : s ≤ 9000000) :
    Calls Tryd.prog 46 #[.slice a n cap, .int .i64 (s : Int)] w fun e w' => e = .returned (.int .i64 ((s + 5 * n : Nat) : Int)) ∧ Below w.heap.size w w' := by
  have HV := Lib.hid hv; clear hv
  have HM := Lib.hid hm; clear hm
  go_enter Tryd.func46, Tryd.ntmps46
  go_wp2
  go_loopw [1, 5] (fun q i wr => ∃ (k : Nat), k ≤ n ∧ i = .int .i64 k ∧ q = .int .i64 ((s + 5 * k : Nat) : Int) ∧ Below w.heap.size w wr) (fun _ i _ => n - intV i)
  case atStart => exact ⟨0, Nat.zero_le _, rfl, rfl, Below.refl _ _⟩
  case round =>
    obtain ⟨k, hk, rfl, rfl, hbel⟩ := hrel
    have HB := Lib.hid hbel; clear hbel
    by_cases hlt : k < n
    · have hc := HM.out k (by omega)
      obtain ⟨g, o, rfl, hg, h5⟩ := HV.out.2.2.2 k _ hc
      obtain ⟨c0, c1, c2, c3, c4⟩ : At5 wr g (o + k * 5) (mkC s k) := h5.same (HB.out.block g hg)
      have hg' : g < wr.heap.size := Nat.lt_of_lt_of_le hg HB.out.size
      have HT := Lib.hid (fun w => markText_any (s + 5 * k) w (by omega) (by omega))
      have HT2 := Lib.hid (fun w => markText_next (s + 5 * k) w (by omega))
      have e0 : (mkC s k).r = tx (mtx (s + 5 * k)) := rfl
      have e1 : (mkC s k).b = tx (mtx (s + 5 * k + 1)) := rfl
      have e2 : (mkC s k).t = ((s + 5 * k : Nat) : Int) + 1 + 1 := rfl
      have e3 : (mkC s k).v = ((s + 5 * k : Nat) : Int) + 1 + 1 + 1 := rfl
      have e4 : (mkC s k).g = ((((s + 5 * k : Nat) : Int) + 1 + 1 + 1 + 1) % 3 == 0) := rfl
      generalize mkC s k = c at *
      rw [← e0] at HT
      rw [← e1] at HT2
      clear hc h5 hg e0 e1
      generalize hq : s + 5 * k = q at *
      have hq2 : (q : Int) ≤ 30000000 := by omega
      have hq3 : (0 : Int) ≤ (q : Int) := by omega
      have i1 : (k : Int) < (n : Int) := by omega
      have i2 : (0 : Int) ≤ (k : Int) := by omega
      have s0 : (c.r.toList == c.r.toList) = true := by simp
      have s1 : (c.b.toList == c.b.toList) = true := by simp
      have SOF := Lib.hid (show ∀ z, Below wr.heap.size wr z → (z.cell? ⟨g, o + k * 5, none⟩ = some (.string c.r) ∧ z.cell? ⟨g, o + k * 5 + 1, none⟩ = some (.string c.b) ∧ z.cell? ⟨g, o + k * 5 + 2, none⟩ = some (.int .i64 c.t) ∧ z.cell? ⟨g, o + k * 5 + 3, none⟩ = some (.int .i64 c.v) ∧ z.cell? ⟨g, o + k * 5 + 4, none⟩ = some (.bool c.g) ∧ Below wr.heap.size wr z) from fun z hz => ⟨coc hz hg' c0, coc hz hg' c1, coc hz hg' c2, coc hz hg' c3, coc hz hg' c4,  hz⟩)
      have E2 := Lib.hid e2; clear e2
      have E3 := Lib.hid e3; clear e3
      have E4 := Lib.hid e4; clear e4
      clear c0 c1 c2 c3 c4
      go_wp2_with fail
      refine wp_region_held_drew (S := fun z => z.cell? ⟨g, o + k * 5, none⟩ = some (.string c.r) ∧ z.cell? ⟨g, o + k * 5 + 1, none⟩ = some (.string c.b) ∧ z.cell? ⟨g, o + k * 5 + 2, none⟩ = some (.int .i64 c.t) ∧ z.cell? ⟨g, o + k * 5 + 3, none⟩ = some (.int .i64 c.v) ∧ z.cell? ⟨g, o + k * 5 + 4, none⟩ = some (.bool c.g) ∧ Below wr.heap.size wr z) (by kernel_rfl) (SOF.out _ (Below.refl _ _).drew) (fun hHeld => ?_)
      refine wpAnyH_take (i := 0) (v := ?v0a) rfl (by kernel_rfl) (by kernel_rfl) (by kernel_rfl) (fun _ _ _ h => h) (Or.inl ⟨by rfl, ?hy0a⟩) (by assumption) ?rest0a
      case hy0a => (intro zz hSw; (try dsimp only at hSw); go_simp; (try with_reducible rfl))
      change wpAnyH _ _ _ _ _ _ _ (Act.put _ (some 12) _) _
      simp only [Act.put, List.setIfInBounds_toArray, List.set_cons_zero, List.set_cons_succ]
      refine wpAnyH_take (i := 1) (v := ?v1a) rfl (by kernel_rfl) (by kernel_rfl) (by kernel_rfl) (fun _ _ _ h => h) (Or.inl ⟨by rfl, ?hy1a⟩) (by assumption) ?rest1a
      case hy1a => (intro zz hSw; (try dsimp only at hSw); go_simp; (try with_reducible rfl))
      change wpAnyH _ _ _ _ _ _ _ (Act.put _ (some 13) _) _
      simp only [Act.put, List.setIfInBounds_toArray, List.set_cons_zero, List.set_cons_succ]
      refine wpAnyH_take (i := 2) (v := ?v2a) rfl (by kernel_rfl) (by kernel_rfl) (by kernel_rfl) (fun _ _ _ h => h) (Or.inl ⟨by rfl, ?hy2a⟩) (by assumption) ?rest2a
      case hy2a => (intro zz hSw; (try dsimp only at hSw); go_simp; (try with_reducible rfl))
      change wpAnyH _ _ _ _ _ _ _ (Act.put _ (some 14) _) _
      simp only [Act.put, List.setIfInBounds_toArray, List.set_cons_zero, List.set_cons_succ]
      refine wpAnyH_take (i := 3) (v := ?v3a) rfl (by kernel_rfl) (by kernel_rfl) (by kernel_rfl) (fun _ _ _ h => h) (Or.inl ⟨by rfl, ?hy3a⟩) (by assumption) ?rest3a
      case hy3a => (intro zz hSw; (try dsimp only at hSw); go_simp; (try with_reducible rfl))
      change wpAnyH _ _ _ _ _ _ _ (Act.put _ (some 15) _) _
      simp only [Act.put, List.setIfInBounds_toArray, List.set_cons_zero, List.set_cons_succ]
      refine wpAnyH_take (i := 4) (v := ?v4a) rfl (by kernel_rfl) (by kernel_rfl) (by kernel_rfl) (fun _ _ _ h => h) (Or.inl ⟨by rfl, ?hy4a⟩) (by assumption) ?rest4a
      case hy4a => (intro zz hSw; (try dsimp only at hSw); go_simp; (try with_reducible rfl))
      change wpAnyH _ _ _ _ _ _ _ (Act.put _ (some 16) _) _
      simp only [Act.put, List.setIfInBounds_toArray, List.set_cons_zero, List.set_cons_succ]
      refine wpAnyH_take (i := 5) (v := ?v5a) rfl (by kernel_rfl) (by kernel_rfl) (by kernel_rfl) (fun _ _ _ h => h) (Or.inl ⟨by rfl, ?hy5a⟩) (by assumption) ?rest5a
      case hy5a => (intro zz hSw; (try dsimp only at hSw); go_simp; (try with_reducible rfl))
      change wpAnyH _ _ _ _ _ _ _ (Act.put _ (some 17) _) _
      simp only [Act.put, List.setIfInBounds_toArray, List.set_cons_zero, List.set_cons_succ]
      refine wpAnyH_take (i := 6) (v := ?v6a) rfl (by kernel_rfl) (by kernel_rfl) (by kernel_rfl) (fun _ _ _ h => h) (Or.inl ⟨by rfl, ?hy6a⟩) (by assumption) ?rest6a
      case hy6a => (intro zz hSw; (try dsimp only at hSw); go_simp; (try with_reducible rfl))
      change wpAnyH _ _ _ _ _ _ _ (Act.put _ (some 18) _) _
      simp only [Act.put, List.setIfInBounds_toArray, List.set_cons_zero, List.set_cons_succ]
      refine wpAnyH_ready (rs := [7]) (by kernel_rfl) (by simp) (AllReadyH.cons rfl (fun K hK => ?_) AllReadyH.nil)
      go_simp
      refine (HT.out _).mono ?_; rintro e w' ⟨rfl, bel⟩
      refine hK.out _ _ (SOF.out _ (bel_tr hHeld.2.2.2.2.2 bel (Nat.le_refl _))) (fun hHeld => ?_)
      clear hK K bel
      refine wpAnyH_take (i := 8) (v := ?v8a) rfl (by kernel_rfl) (by kernel_rfl) (by kernel_rfl) (fun _ _ _ h => h) (Or.inl ⟨by rfl, ?hy8a⟩) (by assumption) ?rest8a
      case hy8a => (intro zz hSw; (try dsimp only at hSw); go_simp; (try with_reducible rfl))
      change wpAnyH _ _ _ _ _ _ _ (Act.put _ (some 20) _) _
      simp only [Act.put, List.setIfInBounds_toArray, List.set_cons_zero, List.set_cons_succ]
      refine wpAnyH_done (by kernel_rfl) ?_ _
      have B1 := Lib.hid hHeld.2.2.2.2.2
      obtain ⟨c0, c1, c2, c3, c4, -⟩ := hHeld
      clear SOF
      have hg2 : g < w'.heap.size := Nat.lt_of_lt_of_le hg' B1.out.size
      have BW := Lib.hid (bel_tr HB.out B1.out (Nat.le_refl _)); clear B1
      generalize w' = w2 at *
      have SOG := Lib.hid (show ∀ z, Below w2.heap.size w2 z → (z.cell? ⟨g, o + k * 5, none⟩ = some (.string c.r) ∧ z.cell? ⟨g, o + k * 5 + 1, none⟩ = some (.string c.b) ∧ z.cell? ⟨g, o + k * 5 + 2, none⟩ = some (.int .i64 c.t) ∧ z.cell? ⟨g, o + k * 5 + 3, none⟩ = some (.int .i64 c.v) ∧ z.cell? ⟨g, o + k * 5 + 4, none⟩ = some (.bool c.g) ∧ Below w2.heap.size w2 z) from fun z hz => ⟨coc hz hg2 c0, coc hz hg2 c1, coc hz hg2 c2, coc hz hg2 c3, coc hz hg2 c4,  hz⟩)
      clear c0 c1 c2 c3 c4
      go_wp2_with fail
      refine wp_region_held_drew (S := fun z => z.cell? ⟨g, o + k * 5, none⟩ = some (.string c.r) ∧ z.cell? ⟨g, o + k * 5 + 1, none⟩ = some (.string c.b) ∧ z.cell? ⟨g, o + k * 5 + 2, none⟩ = some (.int .i64 c.t) ∧ z.cell? ⟨g, o + k * 5 + 3, none⟩ = some (.int .i64 c.v) ∧ z.cell? ⟨g, o + k * 5 + 4, none⟩ = some (.bool c.g) ∧ Below w2.heap.size w2 z) (by kernel_rfl) (SOG.out _ (Below.refl _ _).drew) (fun hHeld => ?_)
      refine wpAnyH_take (i := 0) (v := ?v0b) rfl (by kernel_rfl) (by kernel_rfl) (by kernel_rfl) (fun _ _ _ h => h) (Or.inl ⟨by rfl, ?hy0b⟩) (by assumption) ?rest0b
      case hy0b => (intro zz hSw; (try dsimp only at hSw); go_simp; (try with_reducible rfl))
      change wpAnyH _ _ _ _ _ _ _ (Act.put _ (some 23) _) _
      simp only [Act.put, List.setIfInBounds_toArray, List.set_cons_zero, List.set_cons_succ]
      refine wpAnyH_take (i := 1) (v := ?v1b) rfl (by kernel_rfl) (by kernel_rfl) (by kernel_rfl) (fun _ _ _ h => h) (Or.inl ⟨by rfl, ?hy1b⟩) (by assumption) ?rest1b
      case hy1b => (intro zz hSw; (try dsimp only at hSw); go_simp; (try with_reducible rfl))
      change wpAnyH _ _ _ _ _ _ _ (Act.put _ (some 24) _) _
      simp only [Act.put, List.setIfInBounds_toArray, List.set_cons_zero, List.set_cons_succ]
      refine wpAnyH_take (i := 2) (v := ?v2b) rfl (by kernel_rfl) (by kernel_rfl) (by kernel_rfl) (fun _ _ _ h => h) (Or.inl ⟨by rfl, ?hy2b⟩) (by assumption) ?rest2b
      case hy2b => (intro zz hSw; (try dsimp only at hSw); go_simp; (try with_reducible rfl))
      change wpAnyH _ _ _ _ _ _ _ (Act.put _ (some 25) _) _
      simp only [Act.put, List.setIfInBounds_toArray, List.set_cons_zero, List.set_cons_succ]
      refine wpAnyH_take (i := 3) (v := ?v3b) rfl (by kernel_rfl) (by kernel_rfl) (by kernel_rfl) (fun _ _ _ h => h) (Or.inl ⟨by rfl, ?hy3b⟩) (by assumption) ?rest3b
      case hy3b => (intro zz hSw; (try dsimp only at hSw); go_simp; (try with_reducible rfl))
      change wpAnyH _ _ _ _ _ _ _ (Act.put _ (some 26) _) _
      simp only [Act.put, List.setIfInBounds_toArray, List.set_cons_zero, List.set_cons_succ]
      refine wpAnyH_take (i := 4) (v := ?v4b) rfl (by kernel_rfl) (by kernel_rfl) (by kernel_rfl) (fun _ _ _ h => h) (Or.inl ⟨by rfl, ?hy4b⟩) (by assumption) ?rest4b
      case hy4b => (intro zz hSw; (try dsimp only at hSw); go_simp; (try with_reducible rfl))
      change wpAnyH _ _ _ _ _ _ _ (Act.put _ (some 27) _) _
      simp only [Act.put, List.setIfInBounds_toArray, List.set_cons_zero, List.set_cons_succ]
      refine wpAnyH_take (i := 5) (v := ?v5b) rfl (by kernel_rfl) (by kernel_rfl) (by kernel_rfl) (fun _ _ _ h => h) (Or.inl ⟨by rfl, ?hy5b⟩) (by assumption) ?rest5b
      case hy5b => (intro zz hSw; (try dsimp only at hSw); go_simp; (try with_reducible rfl))
      change wpAnyH _ _ _ _ _ _ _ (Act.put _ (some 28) _) _
      simp only [Act.put, List.setIfInBounds_toArray, List.set_cons_zero, List.set_cons_succ]
      refine wpAnyH_take (i := 6) (v := ?v6b) rfl (by kernel_rfl) (by kernel_rfl) (by kernel_rfl) (fun _ _ _ h => h) (Or.inl ⟨by rfl, ?hy6b⟩) (by assumption) ?rest6b
      case hy6b => (intro zz hSw; (try dsimp only at hSw); go_simp; (try with_reducible rfl))
      change wpAnyH _ _ _ _ _ _ _ (Act.put _ (some 29) _) _
      simp only [Act.put, List.setIfInBounds_toArray, List.set_cons_zero, List.set_cons_succ]
      refine wpAnyH_ready (rs := [7]) (by kernel_rfl) (by simp) (AllReadyH.cons rfl (fun K hK => ?_) AllReadyH.nil)
      go_simp
      refine (HT2.out _).mono ?_; rintro e w' ⟨rfl, bel⟩
      refine hK.out _ _ (SOG.out _ (bel_tr hHeld.2.2.2.2.2 bel (Nat.le_refl _))) (fun hHeld => ?_)
      clear hK K bel
      refine wpAnyH_take (i := 8) (v := ?v8b) rfl (by kernel_rfl) (by kernel_rfl) (by kernel_rfl) (fun _ _ _ h => h) (Or.inl ⟨by rfl, ?hy8b⟩) (by assumption) ?rest8b
      case hy8b => (intro zz hSw; (try dsimp only at hSw); go_simp; (try with_reducible rfl))
      change wpAnyH _ _ _ _ _ _ _ (Act.put _ (some 31) _) _
      simp only [Act.put, List.setIfInBounds_toArray, List.set_cons_zero, List.set_cons_succ]
      refine wpAnyH_done (by kernel_rfl) ?_ _
      have B2 := Lib.hid hHeld.2.2.2.2.2
      obtain ⟨c0, c1, c2, c3, c4, -⟩ := hHeld
      have BX := Lib.hid (bel_tr BW.out B2.out (Nat.le_refl _)); clear B2 BW SOG
      rw [E2.out] at c2
      rw [E3.out] at c3
      rw [E4.out] at c4
      have t2 : (((q : Int) + 1 + 1) != ((q : Int) + 1 + 1)) = false := by simp
      have t3 : (((q : Int) + 1 + 1 + 1) != ((q : Int) + 1 + 1 + 1)) = false := by simp
      have t4 : ((((q : Int) + 1 + 1 + 1 + 1) % 3 == 0) != (((q : Int) + 1 + 1 + 1 + 1) % 3 == 0)) = false := by simp
      go_wp2_with fail
      go_roundw
      case rel => exact ⟨k + 1, by omega, by go_num, by congr 1; omega, BX.out⟩
      case measure => simp [intV]; omega
    · obtain rfl : k = n := by omega
      go_wp2_with fail
      go_ret
      exact ⟨rfl, HB.out⟩
end Go.Proofs.YtdalncgbbkeimaaDoor.Cl
namespace Go.Proofs.YtdalncgbbkeimaaDoor.Cl
open Go.RowKit Wd Rp Kp
set_option linter.unusedVariables false
theorem OwC.vw {B : Nat} {w : World} {a : Option Addr} {n cap : Nat} {l : List Cel} (h : OwC B w (.slice a n cap) l) : Vw w a cap l := by
  obtain ⟨a', cap', e, hv, -⟩ := h.view
  cases e
  exact hv
theorem OwC.grown {B : Nat} {w w' : World} {v : Value} {l : List Cel} {row : Option Nat} (h : OwC B w v l) (hg : w.grownBy w' row) (hne : ∀ k, v.ownBlock = some k → row ≠ some k) : OwC B w' v l :=
  row_next h fun g hb hlt => hg.block g hlt (fun e => hne g hb e.symm)
theorem OwC.low {B : Nat} {w : World} {v : Value} {l : List Cel} (h : OwC B w v l) : ∀ k, v.ownBlock = some k → k < w.heap.size := fun k hk => (World.ownsRow.lt h k hk).2
theorem eqS_own {B C : Nat} {v u : Value} {l : List Cel} (w : World) (hv : OwC B w v l) (hu : OwC C w u l) (hl : l.length ≤ 4194304) :
    Calls Tryd.prog 42 #[v, u] w fun e w' => e = .returned (.bool true) ∧ Below w.heap.size w w' := by
  obtain ⟨a, ca, rfl, h1, -⟩ := hv.view
  obtain ⟨b, cb, rfl, h2, -⟩ := hu.view
  exact eqCellS_same w a b ca cb l h1 h2 hl
theorem held_own {B : Nat} {v : Value} {l : List Cel} {n : Nat} (w : World) (hv : OwC B w v l) (hn : l.length = n) (hm : MkdC 1 l) (hl : n ≤ 4194304) :
    Calls Tryd.prog 46 #[v, .int .i64 1] w fun e w' => e = .returned (.int .i64 ((1 + 5 * n : Nat) : Int)) ∧ Below w.heap.size w w' := by
  subst hn
  obtain ⟨a, ca, rfl, h1, -⟩ := hv.view
  exact heldC_any 1 w a ca l _ rfl h1 hm hl (by decide) (by decide)
/-- From another number on. -/
theorem held_from {B : Nat} {v : Value} {l : List Cel} {n s : Nat} (w : World) (hv : OwC B w v l) (hn : l.length = n) (hm : MkdC s l) (hl : n ≤ 4194304) (hs1 : 1 ≤ s) (hs2 : s ≤ 9000000) :
    Calls Tryd.prog 46 #[v, .int .i64 (s : Int)] w fun e w' => e = .returned (.int .i64 ((s + 5 * n : Nat) : Int)) ∧ Below w.heap.size w w' := by
  subst hn
  obtain ⟨a, ca, rfl, h1, -⟩ := hv.view
  exact heldC_any s w a ca l _ rfl h1 hm hl hs1 hs2
theorem mark_from {B : Nat} {v : Value} {l : List Cel} {n s : Nat} (w : World) (hv : OwC B w v l) (hn : l.length = n) (hl : n ≤ 4194304) (hs1 : 1 ≤ s) (hs2 : s ≤ 9000000) :
    Calls Tryd.prog 45 #[v, .int .i64 (s : Int)] w fun e w' => e = .returned (.int .i64 ((s + 5 * n : Nat) : Int)) ∧ w.grownBy w' v.ownBlock ∧ ∃ m, m.length = n ∧ MkdC s m ∧ OwC B w' v m := by
  subst hn
  exact markC_any w hv hl s hs1 hs2
theorem mark_own {B : Nat} {v : Value} {l : List Cel} {n : Nat} (w : World) (hv : OwC B w v l) (hn : l.length = n) (hl : n ≤ 4194304) :
    Calls Tryd.prog 45 #[v, .int .i64 1] w fun e w' => e = .returned (.int .i64 ((1 + 5 * n : Nat) : Int)) ∧ w.grownBy w' v.ownBlock ∧ ∃ m, m.length = n ∧ MkdC 1 m ∧ OwC B w' v m := by
  subst hn
  exact markC_any w hv hl 1 (by decide) (by decide)
theorem toCellS_is (w : World) (a : Option Addr) (cap : Nat) (l : List Cel) (n : Nat) (hn : l.length = n) (hv : Vw w a cap l) (hl : n ≤ 1048576) :
    Calls Tryd.prog 40 #[.slice a n cap] w fun e w' => ∃ g, e = .returned (.slice (some ⟨g, 0, none⟩) n n) ∧ w.heap.size ≤ g ∧ OwC w.heap.size w' (.slice (some ⟨g, 0, none⟩) n n) l ∧ Below w.heap.size w w' := by
  subst hn
  exact (toCellS_any w a cap l hv hl).mono fun e w' ⟨g, he, ho, hb⟩ => ⟨g, he, OwC.lt ho g rfl, ho, hb⟩
end Go.Proofs.YtdalncgbbkeimaaDoor.Cl
