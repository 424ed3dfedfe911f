/-
  Draws of expressions, bent and placed: contracts of spec.l8Bend, l8Draw, DrawSumEnd. (Made by gen_yq.py.)
-/
import Derived.Test.YtkhmbmcomgclaaaGreatDoorYp
import Derived.Test.YtkhmbmcomgclaaaGreatDoorYi
namespace Go.Proofs.YtkhmbmcomgclaaaGreatDoor.Cl
open Go.RowKit Wd Rp Cu Kp
set_option linter.unusedVariables false
theorem txL_set (l : List Tk) (k : Nat) (s : Tk) : (txL l).set k (tv s) = txL (l.set k s) := by unfold txL; rw [List.map_set]
theorem OT.set {B : Nat} {w : World} {g n cap : Nat} {l : List Tk} (h : OT B w (.slice (some ⟨g, 0, none⟩) n cap) l) (hn : l.length = n) (k : Nat) (s : Tk) : OT B (w.setCell ⟨g, k, none⟩ (.string (tx s))) (.slice (some ⟨g, 0, none⟩) n cap) (l.set k s) := by
  have := O1.set h (by rw [txL_len, hn]) k (tv s)
  unfold OT
  rw [← txL_set]; exact this
theorem OT.cut {B : Nat} {w : World} {g n cap : Nat} {l : List Tk} (h : OT B w (.slice (some ⟨g, 0, none⟩) n cap) l) (hn : l.length = n) {k : Nat} (hk : k ≤ n) : OT B w (.slice (some ⟨g, 0, none⟩) k cap) (l.take k) := by
  unfold OT O1 at h ⊢
  rw [txL_len, hn] at h
  have := row_cut h hk
  rw [txL_len, List.length_take, Nat.min_eq_left (by omega)]
  unfold txL at this ⊢
  rwa [Nat.mul_one, ← List.map_take] at this
theorem OT.own {B : Nat} {w : World} {v : Value} {l : List Tk} {n : Nat} (h : OT B w v l) (hn : l.length = n + 1) : ∃ g cap, v = .slice (some ⟨g, 0, none⟩) (n + 1) cap ∧ B ≤ g ∧ g < w.heap.size := by
  unfold OT O1 at h
  rw [txL_len, hn] at h
  exact row_own h
theorem OT.nil {B : Nat} {w : World} {v : Value} (h : OT B w v []) : ∃ a cap, v = .slice a 0 cap := by
  obtain ⟨a, cap, e, -⟩ := h.form
  exact ⟨a, cap, e⟩
theorem step_append_tx {ops : Array Oper} {o : Oper} {a : Act} {Q : Exit → Act → World → Prop} {K : Act → World → Prop} {w : World} (hw : Region.wanted o (yielded ops a.tmps) = true) (s x : Operand)
    (ho : o.op = .call { callee := .builtin .append, args := #[s, x], argTypes := #[24, 24] })
    {base : Nat} {v : Value} {ad : Option Addr} {cap n : Nat} {l m : List Tk} (hs : a.eval s = v) (hx : a.eval x = .slice ad n cap) (hmn : m.length = n) (hown : OT base w v l) (hy : V1 w ad cap (txL m)) (hlen : l.length + m.length ≤ 10000000) (hbase : base ≤ w.heap.size)
    (h : ∀ v' w', OT base w' v' (l ++ m) → w.grownBy w' v.ownBlock → K (a.put o.dst v') w') :
    if Region.wanted o (yielded ops a.tmps) = true then Oper.wp Tryz.prog o a w K Q else K (a.put o.dst undef) w := by
  rw [if_pos hw]
  subst hmn
  obtain ⟨v', w', hr, h2, h3⟩ := run_append_tx o.type hown hy hlen hbase
  unfold Oper.wp execOp
  simp only [ho, resolve, invoke, builtin, Sem.run_bind, Sem.run_pure, Result.andThen_ok, List.map_toArray, List.map_cons, List.map_nil, hs, hx, hr]
  exact h v' w' h2 h3
set_option maxRecDepth 100000 in
theorem cut1_from (T : TypeId) (hu : Tryz.prog.underlying T = some (.slice (Tryz.prog.elem T))) (hs : ∀ w, (sizeOf (Tryz.prog.elem T)).run Tryz.prog w = .ok 1 w) (a : Option Addr) (n cap i : Nat) (hi : i ≤ n) : ∃ b cb, (∀ w, (Instr.slice T (.slice a n cap) (some (.int .i64 (i : Int))) none none).run Tryz.prog w = .ok (.slice b (n - i) cb) w) ∧
    ∀ w l, V1 w a cap l → l.length = n → V1 w b cb (l.drop i) := by
  refine ⟨_, _, fun w => ?_, fun w l h hl => h.drop (k := i) (by omega)⟩
  rw [run_slice_l w T a n cap hu .i64 (i : Int) (by omega) (by omega), hs]
  rfl
theorem st_drewN {w0 w : World} {B b : Nat} (h : St w0 B b w) (n : Nat) : St w0 B b (w.drewN n) := h.drewN n
def bendL : List Tk := [[43], [60], [38], [91], [93], [115, 101, 116], [105, 102], [65], [64, 51], [53], [104, 97, 121], []]
set_option maxHeartbeats 16000000 in
set_option maxRecDepth 100000 in
theorem bend_any (B b : Nat) (w : World) (hc : Cur B b w) (a : Option Addr) (cap : Nat) (l : List Tk) (n : Nat) (hn : l.length = n) (hv : V1 w a cap (txL l)) (hl : n ≤ 1000) (hs : SmT l) :
    Calls Tryz.prog 56 #[.pointer (some ⟨b, 0, none⟩), .slice a n cap] w (DrawsX n B b w) := by
  have hlt := hc.lt
  have HS0 := Lib.hid (⟨But.refl b w, hc, hlt⟩ : St w B b w); clear hc
  have HT := Lib.hid (l1Texts_any w a cap l n hn hv (by omega)); clear hv
  have HM := Lib.hid hs; clear hs
  go_enter Tryz.func56, Tryz.ntmps56
  go_wp2_with fail
  refine HT.out.mono ?_; rintro e w1 ⟨v, rfl, o1, b1⟩
  have HS1 := Lib.hid (st_belowT HS0.out b1); clear b1 HS0 HT
  cases n with
  | zero =>
    obtain rfl : l = [] := List.length_eq_zero_iff.1 hn
    obtain ⟨va, vc, rfl⟩ := o1.nil
    have HO1 := Lib.hid o1; clear o1
    go_wp2_with fail
    go_ret
    exact ⟨_, [], rfl, HO1.out, Nat.le_refl _, (fun s h => by cases h), HS1.out.cur, HS1.out.but⟩
  | succ n =>
    obtain ⟨g, vc, rfl, hg, hgs⟩ := o1.own hn
    have HO1 := Lib.hid o1; clear o1
    have HN := Lib.hid hn
    have p0 : (0 : Int) < ((n + 1 : Nat) : Int) := by omega
    go_wp2_with fail
    refine (below_any B b _ _ HS1.out.cur (by omega) (by omega)).mono ?_; rintro e w2 ⟨k, rfl, k0, k1, hc2, hw2⟩
    obtain ⟨k, rfl⟩ := Int.eq_ofNat_of_zero_le k0
    have HO2 := Lib.hid (HO1.out.but hw2 hlt)
    have HS2 := Lib.hid (HS1.out.draws hw2 hc2); clear hw2 hc2 HO1 HS1
    have hkn : k < n + 1 := by omega
    clear k0 k1
    go_wp2_with fail
    refine (below_any B b _ _ HS2.out.cur (by decide) (by decide)).mono ?_; rintro e w3 ⟨y, rfl, y0, y1, hc3, hw3⟩
    have HO3 := Lib.hid (HO2.out.but hw3 hlt)
    have HS3 := Lib.hid (HS2.out.draws hw3 hc3); clear hw3 hc3 HO2 HS2
    by_cases e0 : y = 0
    · subst e0
      have HLB := Lib.hid (fun o => HS3.out.alloc o)
      have HOB := Lib.hid (fun o => HO3.out.next (bel1 w3 o))
      have hgs3 : g < w3.heap.size := HO3.out.low g rfl
      go_wp2_with fail
      refine (below_any B b _ _ (HLB.out _).cur (by decide) (by decide)).mono ?_; rintro e w4 ⟨z, rfl, z0, z1, hc4, hw4⟩
      obtain ⟨m, rfl⟩ := Int.eq_ofNat_of_zero_le z0
      obtain ⟨s, hs, c0⟩ := pick_tx (ts := bendL) HS3.out.cur.lt hw4 (k := m) (by simp [bendL]; omega)
      have hsl := mem_short hs (by decide)
      have HO4 := Lib.hid ((HOB.out _).but hw4 hlt)
      have HS4 := Lib.hid ((HLB.out _).draws hw4 hc4); clear hw4 hc4 hs HLB HOB HO3 HS3
      have hm4 : m < 12 := by omega
      obtain ⟨d, hd⟩ : ∃ d, l[k]? = some d := ⟨l[k]'(by have := HN.out; omega), List.getElem?_eq_getElem _⟩
      obtain ⟨g2, o2, e2, -, d0⟩ := HO4.out.vw.tx hd
      cases e2
      rw [Nat.zero_add] at d0
      have f0 := O1.frozen HO4.out (by rw [txL_len]; exact HN.out.symm) k
      have HO5 := Lib.hid (HO4.out.set HN.out k s)
      have HS5 := Lib.hid (HS4.out.setNew (p := ⟨g, k, none⟩) hg (.string (tx s)))
      clear hd
      generalize tx s = x at *
      go_wp2_with fail
      go_ret
      exact ⟨_, l.set k s, rfl, HO5.out, by rw [List.length_set, HN.out]; exact Nat.le_refl _, HM.out.set k hsl, HS5.out.cur, HS5.out.but⟩
    have q0 : (y == 0) = false := by rw [beq_eq_false_iff_ne]; exact e0
    by_cases e1 : y = 1
    · subst e1
      have HCT := Lib.hid (HO3.out.cut HN.out (k := k) (by omega))
      have hcap : n + 1 ≤ vc := by have := HO3.out.vw.1; rw [txL_len] at this; have := HN.out; omega
      have hr1 : ∀ w, (Instr.slice 24 (.slice (some ⟨g, 0, none⟩) (n + 1) vc) none (some (.int .i64 (k : Int))) none).run Tryz.prog w = .ok (.slice (some ⟨g, 0, none⟩) k vc) w := fun w => cut1_to 24 (by kernel_rfl) (fun w => by exact Tryz.sizeOf9 w) (some ⟨g, 0, none⟩) (n + 1) vc k (by omega) hcap w
      obtain ⟨b2, c2, hr2, hv2⟩ := cut1_from 24 (by kernel_rfl) (fun w => by exact Tryz.sizeOf9 w) (some ⟨g, 0, none⟩) (n + 1) vc (k + 1) (by omega)
      have hr3 : ∀ w, (Instr.slice 24 (.slice (some ⟨g, 0, none⟩) (n + 1) vc) (some (.int .i64 ((k : Int) + 1))) none none).run Tryz.prog w = .ok (.slice b2 (n + 1 - (k + 1)) c2) w := hr2
      have HV2 := Lib.hid (show V1 w3 b2 c2 (txL (l.drop (k + 1))) from by
        have := hv2 w3 (txL l) HO3.out.vw (by rw [txL_len]; exact HN.out)
        unfold txL at this ⊢
        rwa [← List.map_drop] at this)
      have HLT := Lib.hid (show (l.take k).length = k by rw [List.length_take]; have := HN.out; omega)
      have HLD := Lib.hid (show (l.drop (k + 1)).length = n - k by rw [List.length_drop]; have := HN.out; omega)
      have HT3 := Lib.hid (l1Texts_any w3.drew (some ⟨g, 0, none⟩) vc (l.take k) k HLT.out (HCT.out.vw) (by omega))
      have hwk : IntKind.i64.wrap ((k : Int) + 1) = (k : Int) + 1 := by rw [IntKind.wrap_i64]; omega
      clear hr2 hv2
      have i1 : (k : Int) + 1 ≤ 9223372036854775807 := by omega
      go_wp2_with fail
      refine wp_region_held_drew (S := fun z => True) (by kernel_rfl) trivial (fun hHeld => ?_)
      refine wpAnyH_take (i := 0) (v := ?v0t) rfl (by kernel_rfl) (by kernel_rfl) (by kernel_rfl) (fun _ _ _ h => h) (Or.inl ⟨by rfl, ?hy0t⟩) (by assumption) ?rest0t
      case hy0t => (intro zz hSw; (try dsimp only at hSw); go_simp; (try with_reducible rfl))
      change wpAnyH _ _ _ _ _ _ _ (Act.put _ (some 31) _) _
      simp only [Act.put, List.setIfInBounds_toArray, List.set_cons_zero, List.set_cons_succ]
      refine wpAnyH_take (i := 1) (v := ?v1t) rfl (by kernel_rfl) (by kernel_rfl) (by kernel_rfl) (fun _ _ _ h => h) (Or.inl ⟨by rfl, ?hy1t⟩) (by assumption) ?rest1t
      case hy1t => (intro zz hSw; (try dsimp only at hSw); go_simp; (try with_reducible rfl))
      change wpAnyH _ _ _ _ _ _ _ (Act.put _ (some 32) _) _
      simp only [Act.put, List.setIfInBounds_toArray, List.set_cons_zero, List.set_cons_succ]
      refine wpAnyH_take (i := 2) (v := ?v2t) rfl (by kernel_rfl) (by kernel_rfl) (by kernel_rfl) (fun _ _ _ h => h) (Or.inl ⟨by rfl, ?hy2t⟩) (by assumption) ?rest2t
      case hy2t => (intro zz hSw; (try dsimp only at hSw); go_simp; (try with_reducible rfl))
      change wpAnyH _ _ _ _ _ _ _ (Act.put _ (some 33) _) _
      simp only [Act.put, List.setIfInBounds_toArray, List.set_cons_zero, List.set_cons_succ]
      refine wpAnyH_take (i := 4) (v := ?v4t) rfl (by kernel_rfl) (by kernel_rfl) (by kernel_rfl) (fun _ _ _ h => h) (Or.inl ⟨by rfl, ?hy4t⟩) (by assumption) ?rest4t
      case hy4t => (intro zz hSw; (try dsimp only at hSw); go_simp; (try with_reducible rfl))
      change wpAnyH _ _ _ _ _ _ _ (Act.put _ (some 35) _) _
      simp only [Act.put, List.setIfInBounds_toArray, List.set_cons_zero, List.set_cons_succ]
      refine wpAnyH_take (i := 5) (v := ?v5t) rfl (by kernel_rfl) (by kernel_rfl) (by kernel_rfl) (fun _ _ _ h => h) (Or.inl ⟨by rfl, ?hy5t⟩) (by assumption) ?rest5t
      case hy5t => (intro zz hSw; (try dsimp only at hSw); go_simp; (try with_reducible rfl))
      change wpAnyH _ _ _ _ _ _ _ (Act.put _ (some 36) _) _
      simp only [Act.put, List.setIfInBounds_toArray, List.set_cons_zero, List.set_cons_succ]
      refine wpAnyH_take (i := 6) (v := ?v6t) rfl (by kernel_rfl) (by kernel_rfl) (by kernel_rfl) (fun _ _ _ h => h) (Or.inl ⟨by rfl, ?hy6t⟩) (by assumption) ?rest6t
      case hy6t => (intro zz hSw; (try dsimp only at hSw); go_simp; (try with_reducible rfl))
      change wpAnyH _ _ _ _ _ _ _ (Act.put _ (some 37) _) _
      simp only [Act.put, List.setIfInBounds_toArray, List.set_cons_zero, List.set_cons_succ]
      refine wpAnyH_take (i := 7) (v := ?v7t) rfl (by kernel_rfl) (by kernel_rfl) (by kernel_rfl) (fun _ _ _ h => h) (Or.inl ⟨by rfl, ?hy7t⟩) (by assumption) ?rest7t
      case hy7t => (intro zz hSw; (try dsimp only at hSw); go_simp; (try with_reducible rfl))
      change wpAnyH _ _ _ _ _ _ _ (Act.put _ (some 38) _) _
      simp only [Act.put, List.setIfInBounds_toArray, List.set_cons_zero, List.set_cons_succ]
      refine wpAnyH_ready (rs := [3]) (by kernel_rfl) (by simp) (AllReadyH.cons rfl (fun K hK => ?_) (AllReadyH.nil))
      go_simp
      refine HT3.out.mono ?_; rintro e w4 ⟨v4, rfl, o4, b4⟩
      have B4 := Lib.hid b4
      have HO4 := Lib.hid (OT.mono o4 HS3.out.size)
      have HV4 := Lib.hid ((show V1 w3.drew b2 c2 (txL (l.drop (k + 1))) from HV2.out).below b4)
      have HS4 := Lib.hid (st_belowT (HS3.out.drewN 1) b4)
      clear o4 b4
      refine hK.out _ _ trivial (fun hHeld => ?_)
      clear hK K
      refine wpAnyH_ready (rs := [8]) (by kernel_rfl) (by simp) (AllReadyH.cons rfl (fun K hK => ?_) (AllReadyH.nil))
      refine step_append_tx rfl (.tmp 34) (.tmp 38) rfl (base := w.heap.size) (l := l.take k) (m := l.drop (k + 1)) rfl rfl HLD.out HO4.out HV4.out (by have := HLT.out; have := HLD.out; omega) HS4.out.size ?_
      intro v5 w5 o5 g5
      have O5 := Lib.hid (And.intro o5 g5); clear o5 g5
      refine hK.out _ _ trivial (fun hHeld => ?_)
      clear hK K
      change wpAnyH _ _ _ _ _ _ _ (Act.put _ (some 39) _) _
      simp only [Act.put, List.setIfInBounds_toArray, List.set_cons_zero, List.set_cons_succ]
      refine wpAnyH_take (i := 9) (v := ?v9t) rfl (by kernel_rfl) (by kernel_rfl) (by kernel_rfl) (fun _ _ _ h => h) (Or.inl ⟨by rfl, ?hy9t⟩) (by assumption) ?rest9t
      case hy9t => (intro zz hSw; (try dsimp only at hSw); go_simp; (try with_reducible rfl))
      change wpAnyH _ _ _ _ _ _ _ (Act.put _ (some 5) _) _
      simp only [Act.put, List.setIfInBounds_toArray, List.set_cons_zero, List.set_cons_succ]
      refine wpAnyH_done (by kernel_rfl) ?_ _
      have HS5 := Lib.hid (HS4.out.grown O5.out.2 (fun k hk => OT.lt HO4.out k hk))
      go_wp2_with fail
      go_ret
      exact ⟨_, l.take k ++ l.drop (k + 1), rfl, O5.out.1, by rw [List.length_append, HLT.out, HLD.out]; omega, (HM.out.take k).app (HM.out.drop (k + 1)), HS5.out.cur, HS5.out.but⟩
    have q1 : (y == 1) = false := by rw [beq_eq_false_iff_ne]; exact e1
    obtain rfl : y = 2 := by omega
    have HCT := Lib.hid (HO3.out.cut HN.out (k := k) (by omega))
    have hcap : n + 1 ≤ vc := by have := HO3.out.vw.1; rw [txL_len] at this; have := HN.out; omega
    have hr1 : ∀ w, (Instr.slice 24 (.slice (some ⟨g, 0, none⟩) (n + 1) vc) none (some (.int .i64 (k : Int))) none).run Tryz.prog w = .ok (.slice (some ⟨g, 0, none⟩) k vc) w := fun w => cut1_to 24 (by kernel_rfl) (fun w => by exact Tryz.sizeOf9 w) (some ⟨g, 0, none⟩) (n + 1) vc k (by omega) hcap w
    go_wp2_with fail
    go_ret
    exact ⟨_, l.take k, rfl, HCT.out, by rw [List.length_take]; have := HN.out; omega, HM.out.take k, HS3.out.cur, HS3.out.but⟩
end Go.Proofs.YtkhmbmcomgclaaaGreatDoor.Cl
