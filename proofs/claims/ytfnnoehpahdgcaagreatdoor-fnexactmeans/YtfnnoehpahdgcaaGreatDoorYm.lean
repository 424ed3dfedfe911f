/-
  Values by the program: contracts of impl.valueOf, of SumOf's closure, of (impl.operator).outcome, of impl.SumOf.
-/
import Derived.Test.YtfnnoehpahdgcaaGreatDoorYl
import Derived.Test.YtfnnoehpahdgcaaGreatDoorYk
import Derived.Test.YtfnnoehpahdgcaaGreatDoorYg
namespace Go.Proofs.YtfnnoehpahdgcaaGreatDoor.Cl
open Go.RowKit Wd Rp Kp Ra Go.Shelf
set_option linter.unusedVariables false
theorem tw_wd (v : Value) (w : World) : (Instr.typeAssert (.iface 134 v) 142 134 true).run Tryz.prog w = .ok (.tuple #[v, .bool true]) w := by kernel_rfl
theorem tw_gv (v : Value) (w : World) : (Instr.typeAssert (.iface 158 v) 142 134 true).run Tryz.prog w = .ok (.tuple #[.int .i32 0, .bool false]) w := by kernel_rfl
theorem tw_nm (v : Value) (w : World) : (Instr.typeAssert (.iface 159 v) 142 134 true).run Tryz.prog w = .ok (.tuple #[.int .i32 0, .bool false]) w := by kernel_rfl
theorem tg_gv (v : Value) (w : World) : (Instr.typeAssert (.iface 158 v) 142 158 true).run Tryz.prog w = .ok (.tuple #[v, .bool true]) w := by kernel_rfl
theorem tg_nm (v : Value) (w : World) : (Instr.typeAssert (.iface 159 v) 142 158 true).run Tryz.prog w = .ok (.tuple #[.int .i64 0, .bool false]) w := by kernel_rfl
theorem tn_nm (v : Value) (w : World) : (Instr.typeAssert (.iface 159 v) 142 159 true).run Tryz.prog w = .ok (.tuple #[v, .bool true]) w := by kernel_rfl
theorem sgV_gv {s : Tk} (h : gvN s ≠ 0) : sgV s = .iface 158 (.int .i64 ((gvN s : Int) - 1)) := by unfold sgV; rw [if_pos h]
theorem sgV_nm {s : Tk} (h0 : opN s = 0) (h : gvN s = 0) (h2 : nmB s = true) : sgV s = .iface 159 (.string (tx s)) := by unfold sgV; rw [if_neg (by omega), if_neg (by omega), h2]; rfl
theorem sgV_wd {s : Tk} (h0 : opN s = 0) (h : gvN s = 0) (h2 : nmB s = false) (h3 : rdB s = true) : sgV s = .iface 134 (.int .i32 (rdV s)) := by unfold sgV; rw [if_neg (by omega), if_neg (by omega), h2, h3]; rfl
set_option maxHeartbeats 4000000 in
set_option maxRecDepth 100000 in
theorem valueOf_any (s : Tk) (hs : isL s = true) (w : World) (ba : Option Addr) (bc bn : Nat) (bs : List Bi) (ga : Option Addr) (gc : Nat) (gs : List Int) (he : Env w ba bc bn bs ga gc gs) :
    Calls Tryz.prog 135 #[sgV s, .slice ba bn bc, .slice ga (3 : Nat) gc] w fun e w' => e = .returned (.int .i64 (vlF gs bs s).1) ∧ Below w.heap.size w w' := by
  have h0 := isL_0 hs
  by_cases hgv : gvN s = 0
  · cases hnm : nmB s
    · have hrd : rdB s = true := by
        cases e : rdB s with
        | true => rfl
        | false => rw [isL_nm hs hgv e] at hnm; cases hnm
      have HE := Lib.hid (vlF_rd (gs := gs) (bs := bs) hgv hrd)
      obtain ⟨r0, r1⟩ := (isW_iff _).1 (rd_word hrd)
      rw [sgV_wd h0 hgv hnm hrd]
      have t1 := tw_wd (.int .i32 (rdV s))
      clear hs h0 hgv hnm hrd he
      generalize vlF gs bs s = vv at *
      generalize rdV s = rv at *
      go_enter Tryz.func135, Tryz.ntmps135
      go_wp2_with fail
      go_ret
      exact ⟨by rw [HE.out]; rfl, Below.refl _ _⟩
    · have HE := Lib.hid (vlF_nm (gs := gs) (bs := bs) hgv hnm)
      rw [sgV_nm h0 hgv hnm]
      have t1 := tw_nm (.string (tx s))
      have t2 := tg_nm (.string (tx s))
      have t3 := tn_nm (.string (tx s))
      have HV := Lib.hid (implValue_any w ba bc bs bn (tx s) he.bl he.bv he.b4)
      clear hs h0 hgv hnm he
      generalize vlF gs bs s = vv at *
      generalize (valL (tx s) bs).1 = va at *
      generalize (valL (tx s) bs).2 = vb at *
      generalize tx s = x at *
      go_enter Tryz.func135, Tryz.ntmps135
      go_wp2_with fail
      refine HV.out.mono ?_; rintro e w1 ⟨rfl, b1⟩
      have B1 := Lib.hid b1; clear b1
      go_wp2_with fail
      go_ret
      exact ⟨by rw [HE.out]; rfl, B1.out⟩
  · have HE := Lib.hid (vlF_gv (gs := gs) (bs := bs) hgv)
    have hg3 := gvN_le s
    rw [sgV_gv hgv]
    obtain ⟨j, hj⟩ : ∃ j : Nat, gvN s - 1 = j := ⟨_, rfl⟩
    have hj3 : j < 3 := by omega
    have hjg : (gvN s : Int) - 1 = (j : Int) := by omega
    rw [hj] at HE
    rw [hjg]
    have t1 := tw_gv (.int .i64 (j : Int))
    have t2 := tg_gv (.int .i64 (j : Int))
    obtain ⟨v, hv⟩ : ∃ v, gs[j]? = some v := ⟨gs[j]'(by have := he.g3; omega), List.getElem?_eq_getElem _⟩
    have hgd : gs.getD j 0 = v := by rw [List.getD_eq_getElem?_getD, hv]; rfl
    rw [hgd] at HE
    obtain ⟨gg, go, rfl, hgg, gc0⟩ := he.gv.iv hv
    clear hs h0 hgv hj hjg hg3 hv hgd he
    generalize vlF gs bs s = vv at *
    go_enter Tryz.func135, Tryz.ntmps135
    go_wp2_with fail
    go_ret
    exact ⟨by rw [HE.out]; rfl, Below.refl _ _⟩
set_option maxHeartbeats 4000000 in
set_option maxRecDepth 100000 in
theorem oneOut_any (s : Tk) (hs : isL s = true) (w : World) (q p : Nat) (ba : Option Addr) (bc bn : Nat) (bs : List Bi) (ga : Option Addr) (gc : Nat) (gs : List Int) (he : Env w ba bc bn bs ga gc gs) (hq : w.cell? ⟨q, 0, none⟩ = some (.slice ba bn bc)) (hp : w.cell? ⟨p, 0, none⟩ = some (.slice ga (3 : Nat) gc)) :
    Calls Tryz.prog 134 #[sgV s, .pointer (some ⟨q, 0, none⟩), .pointer (some ⟨p, 0, none⟩)] w fun e w' => e = .returned (.agg #[.int .i64 (vlF gs bs s).1, .bool (vlF gs bs s).2]) ∧ Below w.heap.size w w' := by
  have hb := bel1 w (.cells #[.int .i64 0, .bool false] 144)
  have HB := Lib.hid hb
  have HZ := Lib.hid (new_of w (.cells #[.int .i64 0, .bool false] 144))
  have hsz : (w.alloc (.cells #[.int .i64 0, .bool false] 144)).heap.size = w.heap.size + 1 := by simp
  have hq1 : (w.alloc (.cells #[.int .i64 0, .bool false] 144)).cell? ⟨q, 0, none⟩ = some (.slice ba bn bc) := (hb.cell (p := ⟨q, 0, none⟩) (Lib.lt_of_cell hq)).trans hq
  have hp1 : (w.alloc (.cells #[.int .i64 0, .bool false] 144)).cell? ⟨p, 0, none⟩ = some (.slice ga (3 : Nat) gc) := (hb.cell (p := ⟨p, 0, none⟩) (Lib.lt_of_cell hp)).trans hp
  have HV := Lib.hid (valueOf_any s hs (w.alloc (.cells #[.int .i64 0, .bool false] 144)) ba bc bn bs ga gc gs (he.below hb))
  have HT := Lib.hid (show (vlF gs bs s).2 = true from rfl)
  clear he hs hb
  generalize vlF gs bs s = vv at *
  generalize sgV s = sv at *
  obtain ⟨vv, vb⟩ := vv
  obtain rfl : vb = true := HT.out
  simp only at HV
  go_enter Tryz.func134, Tryz.ntmps134
  go_wp2_with fail
  generalize hW : w.alloc (.cells #[.int .i64 0, .bool false] 144) = w1 at *
  generalize hN : w.heap.size = N at *
  refine HV.out.mono ?_; rintro e w2 ⟨rfl, b2⟩
  obtain ⟨z0, z1, f0, f1⟩ := two_cells ((b2.block N (by omega)).trans HZ.out)
  have B2 := Lib.hid (HB.out.trans (b2.mono (by omega))); clear b2 hq1 hp1 hq hp
  go_wp2_with fail
  refine bodyPost_ret (v := .agg #[.int .i64 vv, .bool true]) (by simp [results, Tryz.results134, go_sem, z0, z1]) rfl ⟨rfl, ?_⟩
  rw [hN]
  exact (B2.out.setCell (p := ⟨N, 0, none⟩) (Nat.le_refl _) _).setCell (p := ⟨N, 1, none⟩) (Nat.le_refl _) _
set_option maxHeartbeats 4000000 in
set_option maxRecDepth 100000 in
theorem outcome_any (o : Nat) (x y : Int × Bool) (w : World) :
    Calls Tryz.prog 137 #[.int .i64 o, .agg #[.int .i64 x.1, .bool x.2], .agg #[.int .i64 y.1, .bool y.2]] w fun e w' => e = .returned (.agg #[.int .i64 (vlG o x y).1, .bool (vlG o x y).2]) ∧ Below w.heap.size w w' := by
  obtain ⟨x, xb⟩ := x
  obtain ⟨y, yb⟩ := y
  have HB := Lib.hid (fun o3 => bel3 w (.cells #[.int .i64 x, .bool xb] 144) (.cells #[.int .i64 y, .bool yb] 144) o3)
  have HD := Lib.hid (implDid_any (o : Int) x y)
  cases xb
  · have HE := Lib.hid (vlG_no1 (o := o) (a := (x, false)) (b := (y, yb)) rfl)
    generalize vlG o (x, false) (y, yb) = vv at *
    go_enter Tryz.func137, Tryz.ntmps137
    go_wp2_with fail
    refine bodyPost_ret (v := .agg #[.int .i64 0, .bool false]) (by simp [results, Tryz.results137, go_sem]) rfl ⟨by rw [HE.out], HB.out _⟩
  cases yb
  · have HE := Lib.hid (vlG_no2 (o := o) (a := (x, true)) (b := (y, false)) rfl)
    generalize vlG o (x, true) (y, false) = vv at *
    go_enter Tryz.func137, Tryz.ntmps137
    go_wp2_with fail
    refine bodyPost_ret (v := .agg #[.int .i64 0, .bool false]) (by simp [results, Tryz.results137, go_sem]) rfl ⟨by rw [HE.out], HB.out _⟩
  · have HE := Lib.hid (vlG_yes (o := o) (a := (x, true)) (b := (y, true)) rfl rfl)
    simp only at HE
    generalize vlG o (x, true) (y, true) = vv at *
    generalize didV (o : Int) x y = dv at *
    generalize didB (o : Int) x y = db at *
    go_enter Tryz.func137, Tryz.ntmps137
    go_wp2_with fail
    refine (HD.out _).mono ?_; rintro e w1 ⟨rfl, rfl⟩
    go_wp2_with fail
    refine bodyPost_ret (v := .agg #[.int .i64 dv, .bool db]) (by simp [results, Tryz.results137, go_sem]) rfl ⟨by rw [HE.out], HB.out _⟩
end Go.Proofs.YtfnnoehpahdgcaaGreatDoor.Cl
