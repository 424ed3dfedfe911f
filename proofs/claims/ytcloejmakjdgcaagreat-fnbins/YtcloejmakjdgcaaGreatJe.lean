/-
  impl.BinsOf: the bins of a row, out of the versions of each bin. (Made by gen_je.py.)
-/
import Derived.Test.YtcloejmakjdgcaaGreatIc
import Derived.Test.YtcloejmakjdgcaaGreatVa
import Derived.Test.YtcloejmakjdgcaaGreatQa
import Derived.Test.YtcloejmakjdgcaaGreatJa
namespace Go.Proofs.YtcloejmakjdgcaaGreat.Cl
open Go.RowKit Wd Rp Kp
set_option linter.unusedVariables false
theorem okc_name {c : Cel} (h : c.ok = true) : c.b.toList ≠ [] := by
  have hk := ok_key h
  unfold keyB at hk
  simp only [Bool.and_eq_true] at hk
  have h2 := hk.2.1
  unfold nmB at h2
  simp only [Bool.and_eq_true, decide_eq_true_eq] at h2
  intro e
  rw [Lib.toList_data] at e
  rw [e] at h2
  simp at h2
/-- The first version that is not later. -/
def laL (T : Int) : List Cel → Cel × Bool
  | [] => (zz, false)
  | c :: r => if c.t ≤ T then (c, true) else laL T r
theorem laL_mem {T : Int} : ∀ {l : List Cel}, (laL T l).2 = true → (laL T l).1 ∈ l
  | [], h => by simp [laL] at h
  | c :: r, h => by
    rw [laL] at h ⊢
    split at h
    · rename_i hc; rw [if_pos hc]; simp
    · rename_i hc; rw [if_neg hc]; exact List.mem_cons_of_mem _ (laL_mem h)
theorem laL_at {T : Int} : ∀ {l : List Cel} {k : Nat} {c : Cel}, l[k]? = some c → (∀ (j : Nat) (d : Cel), j < k → l[j]? = some d → ¬ d.t ≤ T) → c.t ≤ T → laL T l = (c, true)
  | [], k, c, h, _, _ => by simp at h
  | d :: r, 0, c, h, _, e => by
    simp at h; subst h
    rw [laL, if_pos e]
  | d :: r, k + 1, c, h, hn, e => by
    rw [laL, if_neg (hn 0 d (by omega) rfl)]
    exact laL_at (l := r) (by simpa using h) (fun j x hj hx => hn (j + 1) x (by omega) (by simpa using hx)) e
theorem laL_none {T : Int} : ∀ {l : List Cel}, (∀ (j : Nat) (d : Cel), l[j]? = some d → ¬ d.t ≤ T) → laL T l = (zz, false)
  | [], _ => rfl
  | d :: r, h => by
    rw [laL, if_neg (h 0 d rfl)]
    exact laL_none (l := r) fun j x hx => h (j + 1) x (by simpa using hx)
/-- What one bin adds. -/
def grpBin (R : ByteArray) (T : Int) (g : List Cel) : List Bi := if (laL T g).2 && (!(laL T g).1.g && (laL T g).1.r.toList == R.toList) then [⟨(laL T g).1.b, (laL T g).1.v⟩] else []
theorem binStep_row {R : ByteArray} {T : Int} {s : ByteArray × List Bi} {c : Cel} (h : c.r.toList ≠ R.toList) : binStep R T s c = s := bs_no (by simpa using h)
theorem fold_row {R : ByteArray} {T : Int} : ∀ {g : List Cel} {s : ByteArray × List Bi}, (∀ c ∈ g, c.r.toList ≠ R.toList) → g.foldl (binStep R T) s = s
  | [], s, _ => rfl
  | c :: r, s, h => by
    rw [List.foldl_cons, binStep_row (h c (by simp))]
    exact fold_row fun d hd => h d (by simp [hd])
theorem fold_again {R : ByteArray} {T : Int} {b : List UInt8} : ∀ {g : List Cel} {s : ByteArray × List Bi}, (∀ c ∈ g, c.b.toList = b) → s.1.toList = b → g.foldl (binStep R T) s = s
  | [], s, _, _ => rfl
  | c :: r, s, h, hs => by
    rw [List.foldl_cons, bs_again (by rw [h c (by simp), hs]; simp)]
    exact fold_again (fun d hd => h d (by simp [hd])) hs
/-- One bin's versions, in one row. -/
theorem fold_grp {R : ByteArray} {T : Int} {b : List UInt8} : ∀ {g : List Cel} {s : ByteArray × List Bi}, (∀ c ∈ g, c.r.toList = R.toList ∧ c.b.toList = b) → s.1.toList ≠ b →
    (g.foldl (binStep R T) s).2 = s.2 ++ grpBin R T g ∧ ((g.foldl (binStep R T) s).1.toList = s.1.toList ∨ (g.foldl (binStep R T) s).1.toList = b)
  | [], s, _, _ => by simp [grpBin, laL]
  | c :: r, s, h, hs => by
    obtain ⟨h1, h2⟩ := h c (by simp)
    rw [List.foldl_cons]
    by_cases ht : c.t ≤ T
    · have e : laL T (c :: r) = (c, true) := by rw [laL, if_pos ht]
      rw [bs_new (by rw [h1]; simp) (by omega) (by rw [h2]; simpa using fun e => hs e.symm)]
      rw [fold_again (b := b) (fun d hd => (h d (by simp [hd])).2) h2]
      refine ⟨?_, Or.inr h2⟩
      unfold grpBin
      rw [e]
      cases hg : c.g <;> simp [h1]
    · have e : laL T (c :: r) = laL T r := by rw [laL, if_neg ht]
      rw [bs_late (by omega)]
      have ih := fold_grp (T := T) (g := r) (s := s) (fun d hd => h d (by simp [hd])) hs
      unfold grpBin at ih ⊢
      rw [e]; exact ih
theorem grpBin_row {R : ByteArray} {T : Int} {g : List Cel} (h : ∀ c ∈ g, c.r.toList ≠ R.toList) : grpBin R T g = [] := by
  unfold grpBin
  cases hb : (laL T g).2
  · rfl
  · have := h _ (laL_mem hb)
    rw [if_neg]
    simp [this]
theorem bins_grps (R : ByteArray) (T : Int) (l : List Cel) (hs : Srt l) (hn : ∀ c ∈ l, c.b.toList ≠ []) : binsL R T l = (grps l).flatMap (grpBin R T) := by
  have key : ∀ (l : List Cel), Srt l → ∀ s : ByteArray × List Bi, (∀ d ∈ l, d.r.toList = R.toList → d.b.toList ≠ s.1.toList) → (l.foldl (binStep R T) s).2 = s.2 ++ (grps l).flatMap (grpBin R T) := by
    intro l
    refine cells_ind (P := fun l => Srt l → ∀ s : ByteArray × List Bi, (∀ d ∈ l, d.r.toList = R.toList → d.b.toList ≠ s.1.toList) → (l.foldl (binStep R T) s).2 = s.2 ++ (grps l).flatMap (grpBin R T)) (fun _ s _ => by rw [grps_nil]; simp) (fun l hl ih hsrt s hd => ?_) l.length l (Nat.le_refl _)
    have h1 := one_grp hsrt
    have h2 := grp_out hsrt
    have hsd : Srt (l.drop (grp l)) := List.Pairwise.sublist (List.drop_sublist _ _) hsrt
    obtain ⟨x, hx⟩ : ∃ x, x ∈ l.take (grp l) := by
      cases l with
      | nil => exact absurd rfl hl
      | cons c r =>
        have := grp_pos (l := c :: r) (by simp)
        obtain ⟨m, e⟩ : ∃ m, grp (c :: r) = m + 1 := ⟨grp (c :: r) - 1, by omega⟩
        exact ⟨c, by rw [e, List.take_succ_cons]; simp⟩
    have hall : ∀ c ∈ l.take (grp l), c.r.toList = x.r.toList ∧ c.b.toList = x.b.toList := fun c hc => (al_iff c x).1 (h1.2 c hc x hx)
    rw [grps_cons hl, List.flatMap_cons]
    conv => lhs; rw [← List.take_append_drop (grp l) l]
    rw [List.foldl_append]
    by_cases hr : x.r.toList = R.toList
    · have hs1 : s.1.toList ≠ x.b.toList := fun e => hd x (List.mem_of_mem_take hx) hr e.symm
      obtain ⟨f1, f2⟩ := fold_grp (T := T) (g := l.take (grp l)) (s := s) (b := x.b.toList) (fun c hc => ⟨(hall c hc).1.trans hr, (hall c hc).2⟩) hs1
      rw [ih hsd _ (fun d hdd hdr => ?_), f1, List.append_assoc]
      rcases f2 with f2 | f2
      · rw [f2]; exact hd d (List.mem_of_mem_drop hdd) hdr
      · rw [f2]; intro e
        have h3 := h2 x hx d hdd
        rw [(al_iff x d).2 ⟨hr.trans hdr.symm, e.symm⟩] at h3
        cases h3
    · have hrow : ∀ c ∈ l.take (grp l), c.r.toList ≠ R.toList := fun c hc e => hr ((hall c hc).1.symm.trans e)
      rw [fold_row hrow, grpBin_row hrow, List.nil_append]
      exact ih hsd s fun d hdd => hd d (List.mem_of_mem_drop hdd)
  have := key l hs (⟨#[]⟩, []) fun d hd _ => by
    have := hn d hd
    simpa using this
  unfold binsL binF
  rw [this]; rfl
set_option maxHeartbeats 4000000 in
set_option maxRecDepth 100000 in
theorem latestAt_any (w : World) (a : Option Addr) (cap : Nat) (l : List Cel) (n : Nat) (T : Int) (hn : l.length = n) (hv : Vw w a cap l) (hl : n ≤ 4194304) :
    Calls Tryz.prog 25 #[.slice a n cap, .int .i64 T] w fun e w' => e = .returned (.tuple #[(laL T l).1.agg, .bool (laL T l).2]) ∧ Below w.heap.size w w' := by
  have HV := Lib.hid hv; clear hv
  have HN := Lib.hid hn; clear hn
  have HZ := Lib.hid (new_of w (.cells #[.string ⟨#[]⟩, .string ⟨#[]⟩, .int .i64 0, .int .i64 0, .bool false] 44))
  have H0 := Lib.hid (bel1 w (.cells #[.string ⟨#[]⟩, .string ⟨#[]⟩, .int .i64 0, .int .i64 0, .bool false] 44))
  have hz0 : (w.alloc (.cells #[.string ⟨#[]⟩, .string ⟨#[]⟩, .int .i64 0, .int .i64 0, .bool false] 44)).heap.size = w.heap.size + 1 := by simp
  go_enter Tryz.func25, Tryz.ntmps25
  go_wp2_with fail
  generalize hq : w.heap.size = q at *
  generalize w.alloc (.cells #[.string ⟨#[]⟩, .string ⟨#[]⟩, .int .i64 0, .int .i64 0, .bool false] 44) = w0 at *
  go_loopw [10] (fun i wr => ∃ k : Nat, k ≤ n ∧ i = .int .i64 k ∧ (∀ (j : Nat) (d : Cel), j < k → l[j]? = some d → ¬ d.t ≤ T) ∧ Below (q + 1) w0 wr) (fun i _ => n - intV i)
  case atStart => exact ⟨0, Nat.zero_le _, rfl, (fun j c hj => by omega), Below.refl _ _⟩
  case round =>
    obtain ⟨k, hk, rfl, hlo, hbel⟩ := hrel
    have HB := Lib.hid hbel
    have HBB := Lib.hid (H0.out.trans (hbel.mono (by omega))); clear hbel
    have HLO := Lib.hid hlo; clear hlo
    have hz1 : q + 1 ≤ wr.heap.size := by have := HB.out.size; omega
    have HZZ := Lib.hid (show wr.heap[q]? = _ from (HB.out.block q (by omega)).trans HZ.out)
    have nn : wr.heap.size ≠ q := by omega
    by_cases hlt : k < n
    · obtain ⟨c, hc⟩ : ∃ c, l[k]? = some c := ⟨l[k]'(by have := HN.out; omega), List.getElem?_eq_getElem _⟩
      obtain ⟨g, o, rfl, hg, h5⟩ := HV.out.2.2.2 k c hc
      obtain ⟨c0, c1, c2, c3, c4⟩ : At5 wr g (o + k * 5) c := h5.same (HBB.out.block g (by omega))
      have HC := Lib.hid hc; clear hc h5 hg
      have HW := Lib.hid (bel1 wr (.cells #[.string c.r, .string c.b, .int .i64 c.t, .int .i64 c.v, .bool c.g] 44))
      by_cases ht : c.t ≤ T
      · have HE := Lib.hid (laL_at HC.out HLO.out ht)
        obtain ⟨z0, z1, z2, z3, z4, f0, f1, f2, f3, f4⟩ := five_of ((HW.out.block q (by omega)).trans HZZ.out)
        go_wp2_with fail
        refine bodyPost_ret (v := .tuple #[c.agg, .bool true]) (by simp [results, Tryz.results25, go_sem, z0, z1, z2, z3, z4, Cel.agg]) rfl ⟨by rw [HE.out], ?_⟩
        exact bel_set5 (HBB.out.trans (HW.out.mono (by omega))) (Nat.le_refl _) _ _ _ _ _
      · have HL2 := Lib.hid (show ∀ (j : Nat) (d : Cel), j < k + 1 → l[j]? = some d → ¬ d.t ≤ T from fun j d hj hd => by
          by_cases e : j = k
          · subst e; rw [HC.out] at hd; cases hd; exact ht
          · exact HLO.out j d (by omega) hd)
        go_wp2_with fail
        go_roundw
        case rel => exact ⟨k + 1, by omega, by go_num, HL2.out, HB.out.trans (HW.out.mono hz1)⟩
        case measure => simp [intV]; omega
    · obtain rfl : k = n := by omega
      have HE := Lib.hid (laL_none (T := T) (l := l) fun j d hd => HLO.out j d (by have := (List.getElem?_eq_some_iff.1 hd).1; have := HN.out; omega) hd)
      obtain ⟨z0, z1, z2, z3, z4, f0, f1, f2, f3, f4⟩ := five_of HZZ.out
      go_wp2_with fail
      refine bodyPost_ret (v := .tuple #[.agg #[.string ⟨#[]⟩, .string ⟨#[]⟩, .int .i64 0, .int .i64 0, .bool false], .bool false]) (by simp [results, Tryz.results25, go_sem, z0, z1, z2, z3, z4]) rfl ⟨by rw [HE.out]; rfl, ?_⟩
      exact bel_set5 HBB.out (Nat.le_refl _) _ _ _ _ _
end Go.Proofs.YtcloejmakjdgcaaGreat.Cl
namespace Go.Proofs.YtcloejmakjdgcaaGreat.Cl
open Go.RowKit Wd Rp Kp Ra Go.Shelf
attribute [local go_sem] Oper.semAt_some
set_option linter.unusedVariables false
theorem OwI.drew {B : Nat} {w : World} {v : Value} {l : List Bi} (h : OwI B w v l) : OwI B w.drew v l := h
theorem appendI_in {F : Fence} {n : Nat} {ops : Array Oper} {rest : List Oper} {o : Oper} {a : Act} {Q : Exit → Act → World → Prop} (w : World) (hg : o.guard = none) (s x : Operand) (hop : o.op = Op.call { callee := Callee.builtin Builtin.append, args := #[s, x], argTypes := #[30, 30] })
    {base : Nat} {v : Value} {ad : Option Addr} {cap k : Nat} {l m : List Bi} (hs : a.eval s = v) (hx : a.eval x = .slice ad k cap) (hmn : m.length = k) (hown : OwI base w v l) (hy : VwI w ad cap m) (hlen : l.length + m.length ≤ 10000000) (hbase : base ≤ w.heap.size)
    (hK : ∀ v' w', OwI base w' v' (l ++ m) → w.grownBy w' v.ownBlock → (v'.ownBlock = v.ownBlock ∨ v'.ownBlock = some w.heap.size) → wpListIn F n Tryz.prog ops Q rest (a.put o.dst v') w') :
    wpListIn F n Tryz.prog ops Q (o :: rest) a w := by
  refine wpListIn_plain hg fun K hK' => ?_
  obtain ⟨v', w', hrun, r1, r2, r3⟩ := run_append_bins o.type hown hy hlen hbase
  subst hmn
  unfold Oper.wpIn
  refine ⟨?_, ?_⟩
  · simp [Oper.about, hop, resolve, Target.leads, Sem.run_pure]
  · rw [Oper.semAt_plain F _ _ (by rw [hop]; intro c hc'; cases hc')]
    simp [execOp, hop, resolve, invoke, builtin, hs, hx, hrun, Result.andThen]
    exact hK' _ _ (hK v' w' r1 r2 r3)
theorem bin_snoc {l g : List Cel} {k : Nat} {R : ByteArray} {T : Int} (h : (grps l)[k]? = some g) : ((grps l).take (k + 1)).flatMap (grpBin R T) = ((grps l).take k).flatMap (grpBin R T) ++ grpBin R T g := by
  rw [List.take_add_one, h, List.flatMap_append]; simp
theorem grpBin_len (R : ByteArray) (T : Int) (g : List Cel) : (grpBin R T g).length ≤ 1 := by unfold grpBin; split <;> simp
theorem flat_bins_len (R : ByteArray) (T : Int) : ∀ gs : List (List Cel), (gs.flatMap (grpBin R T)).length ≤ gs.length
  | [] => Nat.le_refl _
  | g :: gs => by
    have := flat_bins_len R T gs
    have := grpBin_len R T g
    rw [List.flatMap_cons, List.length_append, List.length_cons]; omega
theorem grps_le (l : List Cel) : (grps l).length ≤ l.length := by
  refine cells_ind (P := fun l => (grps l).length ≤ l.length) (by rw [grps_nil]; exact Nat.le_refl _) (fun l h ih => ?_) l.length l (Nat.le_refl _)
  have := grp_pos h
  have := grp_le l
  rw [List.length_drop] at ih
  rw [grps_cons h, List.length_cons]; omega
/-- While the bins are gathered: M holds them, q + 1 the row, q + 2 the time, q0 the cells. -/
def Bng (q M q0 : Nat) (w4 : World) (R : ByteArray) (T : Int) (l : List Cel) (w : World) (s : List Value × Option Nat) (W : World) : Prop :=
  w4.heap.size ≤ W.heap.size ∧ ∃ sv, Bxd M sv W ∧ OwI w4.heap.size W sv (((grps l).take s.1.length).flatMap (grpBin R T)) ∧ sv.ownBlock = s.2 ∧ Below q w W ∧ W.cell? ⟨q + 1, 0, none⟩ = some (.string R) ∧ W.cell? ⟨q + 1 + 1, 0, none⟩ = some (.int .i64 T) ∧ (l ≠ [] → W.heap[q0]? = w4.heap[q0]?)
theorem bng_skip {q M q0 : Nat} {R : ByteArray} {T : Int} {l g : List Cel} {w w4 W W' : World} {pre : List Value} {x sv : Value} {gg : Option Nat} (a : Act) (hb : Below W.heap.size W W') (hs1 : w4.heap.size ≤ W.heap.size) (ho : Bxd M sv W) (hr : OwI w4.heap.size W sv (((grps l).take pre.length).flatMap (grpBin R T))) (hg : sv.ownBlock = gg) (hw : Below q w W)
    (h1 : W.cell? ⟨q + 1, 0, none⟩ = some (.string R)) (h2 : W.cell? ⟨q + 1 + 1, 0, none⟩ = some (.int .i64 T)) (h3 : l ≠ [] → W.heap[q0]? = w4.heap[q0]?) (hM : M < w4.heap.size) (hq : q + 1 + 1 < w4.heap.size) (hq0 : l ≠ [] → q0 < w4.heap.size) (hk : (grps l)[pre.length]? = some g) (he : grpBin R T g = []) :
    Rounds w4.heap.size (fun k => k = M) (Bng q M q0 w4 R T l w) (fun _ _ _ => False) (pre ++ [x]) gg W .normal a W' := by
  have K : Kept (fun k => k = M) gg W W' := Kept.of_below hb
  refine ⟨K.keeps (fun k hk => by have : k = M := hk; omega), K, gg, Or.inl rfl, Nat.le_trans hs1 hb.size, sv, ho.same (hb.block M (by omega)), ?_, hg, Below.trans hw (hb.mono (by omega)), ?_, ?_, fun hne => (hb.block q0 (by have := hq0 hne; omega)).trans (h3 hne)⟩
  · rw [show ((pre ++ [x], gg) : List Value × Option Nat).1.length = pre.length + 1 by simp, bin_snoc hk, he, List.append_nil]
    exact hr.next hb
  · exact (World.cell?_of_block (w := W) (hb.block (q + 1) (by omega))).trans h1
  · exact (World.cell?_of_block (w := W) (hb.block (q + 1 + 1) (by omega))).trans h2
theorem bng_app {q M q0 L : Nat} {R : ByteArray} {T : Int} {l : List Cel} {w w4 W w7 w8 : World} {pre : List Value} {x sv : Value} {gg : Option Nat} {o m : List Bi} {va : Option Addr} {vc : Nat} (a : Act) (hb : Below W.heap.size W w7) (hs1 : w4.heap.size ≤ W.heap.size) (ho : Bxd M sv W) (hr : OwI w4.heap.size W sv o) (hg : sv.ownBlock = gg) (hw : Below q w W)
    (h1 : W.cell? ⟨q + 1, 0, none⟩ = some (.string R)) (h2 : W.cell? ⟨q + 1 + 1, 0, none⟩ = some (.int .i64 T)) (h3 : l ≠ [] → W.heap[q0]? = w4.heap[q0]?) (hM : M < w4.heap.size) (hqM : q + 1 + 1 < M) (hq0 : l ≠ [] → q0 < w4.heap.size ∧ q0 ≠ M)
    (h8 : OwI w4.heap.size w8 (.slice va L vc) (o ++ m) ∧ w7.grownBy w8 sv.ownBlock ∧ ((Value.slice va L vc).ownBlock = sv.ownBlock ∨ (Value.slice va L vc).ownBlock = some w7.heap.size)) (hsn : o ++ m = ((grps l).take (pre.length + 1)).flatMap (grpBin R T)) :
    Rounds w4.heap.size (fun k => k = M) (Bng q M q0 w4 R T l w) (fun _ _ _ => False) (pre ++ [x]) gg W .normal a (w8.setCell ⟨M, 0, none⟩ (.slice va L vc)) := by
  obtain ⟨r8, g8, n8⟩ := h8
  have hr7 := hr.next hb
  have K7 : Kept (fun k => k = M) gg W w7 := Kept.of_below hb
  have K8 : Kept (fun k => k = M) gg W w8 := K7.trans (Kept.of_grown g8 fun k hk => Or.inr ⟨by rw [← hg]; exact hk, cells_of_owns hr7 hk⟩)
  have K9 : Kept (fun k => k = M) gg W (w8.setCell ⟨M, 0, none⟩ (.slice va L vc)) := K8.trans (Kept.set (F := fun k => k = M) (p := ⟨M, 0, none⟩) rfl _)
  have hlt : ∀ k, sv.ownBlock = some k → w4.heap.size ≤ k := fun k hk => OwI.lt hr k hk
  have hz7 := hb.size
  have hz8 : w7.heap.size ≤ w8.heap.size := g8.size
  have hblk : ∀ k, k < w4.heap.size → k ≠ M → (w8.setCell ⟨M, 0, none⟩ (.slice va L vc)).heap[k]? = W.heap[k]? := fun k hk hne =>
    (Below.heap_setCell _ _ _ k (fun e => hne e)).trans ((g8.block k (by omega) (fun e => by have := hlt k e.symm; omega)).trans (hb.block k (by omega)))
  refine ⟨K9.keeps (fun k hk => by have : k = M := hk; omega), K9, (Value.slice va L vc).ownBlock, ?_, ?_, _, ((ho.same (hb.block M (by omega))).same (g8.block M (by omega) (fun e => by have := hlt M e.symm; omega))).set _, ?_, rfl, ?_, ?_, ?_, fun hne => (hblk q0 (hq0 hne).1 (hq0 hne).2).trans (h3 hne)⟩
  · rw [World.size_setCell]
    rcases n8 with e | e
    · exact Or.inl (e.trans hg)
    · exact Or.inr ⟨w7.heap.size, e, hz7, (World.ownsRow.lt r8 _ e).2⟩
  · rw [World.size_setCell]; omega
  · rw [show ((pre ++ [x], (Value.slice va L vc).ownBlock) : List Value × Option Nat).1.length = pre.length + 1 by simp, ← hsn]
    exact row_next r8 fun g hgb _ => Below.heap_setCell _ _ _ _ (fun e => by have := OwI.lt r8 g hgb; have e' : g = M := e; omega)
  · exact ((Below.trans hw (hb.mono (by omega))).grown g8 (by have := hw.size; omega) (fun k hk => by have := hlt k hk; omega)).setCell (p := ⟨M, 0, none⟩) (by show q ≤ M; omega) _
  · exact (World.cell?_of_block (w := W) (hblk (q + 1) (by omega) (by omega))).trans h1
  · exact (World.cell?_of_block (w := W) (hblk (q + 1 + 1) (by omega) (by omega))).trans h2
set_option maxHeartbeats 4000000 in
set_option maxRecDepth 100000 in
theorem implBinsOf_any (w : World) (a sa : Option Addr) (c sc n sn : Nat) (h : List Cel) (hs : List Hd) (ss : List (List Cel)) (hn : h.length = n) (hsn : ss.length = sn) (hv : Vw w a c h) (hvs : VwS w sa sc hs ss) (hlow : Low h ss) (R : ByteArray) (T : Int) :
    Calls Tryz.prog 6 #[.agg #[.slice a n c, .slice sa sn sc], .string R, .int .i64 T] w (BiPost (bnP h ss R T) w) := by
  have HV := Lib.hid hv; clear hv
  have HVS := Lib.hid hvs; clear hvs
  have HLOW := Lib.hid hlow; clear hlow
  have HN := Lib.hid (And.intro hn hsn); clear hn hsn
  have H0 := Lib.hid (bel3 w (.cells #[.slice a n c, .slice sa sn sc] 27) (.cells #[.string R] 9) (.cells #[.int .i64 T] 2))
  obtain ⟨x, hx⟩ : ∃ x, okB h ss = x := ⟨_, rfl⟩
  obtain ⟨y, hy⟩ : ∃ y, nmB R.data.toList = y := ⟨_, rfl⟩
  obtain ⟨z, hz⟩ : ∃ z, inB T 0 1000000 = z := ⟨_, rfl⟩
  have HX := Lib.hid hx
  have HY := Lib.hid hy
  have HZ := Lib.hid hz
  have HP := Lib.hid (show bnP h ss R T = if x && (y && z) then (if 12 < (binsL R T (mgA h ss)).length then [] else binsL R T (mgA h ss)) else [] from by unfold bnP; rw [hx, hy, hz])
  have HBK := Lib.hid (fun w1 (hb : Below w.heap.size w w1) => barnI_is hx w1 a sa c sc n sn hs HN.out.1 HN.out.2 (HV.out.below hb) (HVS.out.below hb) HLOW.out)
  have hb3 := third_of (Below.refl (((w.alloc (.cells #[.slice a n c, .slice sa sn sc] 27)).alloc (.cells #[.string R] 9)).alloc (.cells #[.int .i64 T] 2)).heap.size (((w.alloc (.cells #[.slice a n c, .slice sa sn sc] 27)).alloc (.cells #[.string R] 9)).alloc (.cells #[.int .i64 T] 2)))
  have hz3 : (((w.alloc (.cells #[.slice a n c, .slice sa sn sc] 27)).alloc (.cells #[.string R] 9)).alloc (.cells #[.int .i64 T] 2)).heap.size = w.heap.size + 3 := by simp
  have HB3 := Lib.hid hb3; clear hb3 hx hy hz
  cases x
  · have HE := Lib.hid (HP.out.trans rfl)
    go_enter Tryz.func6, Tryz.ntmps6
    go_wp2_with fail
    refine (HBK.out _ H0.out).mono ?_; rintro e w1 ⟨rfl, b1⟩
    have B1 := Lib.hid (bel_tr H0.out b1 (Nat.le_refl _)); clear b1
    go_wp2_with fail
    go_ret
    exact ⟨_, rfl, by rw [HE.out]; exact OwI.nothing _ _, B1.out⟩
  cases y
  · have HE := Lib.hid (HP.out.trans rfl)
    go_enter Tryz.func6, Tryz.ntmps6
    go_wp2_with fail
    refine (HBK.out _ H0.out).mono ?_; rintro e w1 ⟨rfl, b1⟩
    have B1 := Lib.hid (bel_tr H0.out b1 (Nat.le_refl _))
    obtain ⟨x1, -⟩ := Bxd.of ((b1.block (w.heap.size + 1) (by rw [hz3]; omega)).trans HB3.out.2.1)
    clear b1
    go_wp2_with fail
    refine (implName_is HY.out _).mono ?_; rintro e w2 ⟨rfl, rfl⟩
    go_wp2_with fail
    go_ret
    exact ⟨_, rfl, by rw [HE.out]; exact OwI.nothing _ _, B1.out⟩
  cases z
  · have HE := Lib.hid (HP.out.trans rfl)
    go_enter Tryz.func6, Tryz.ntmps6
    go_wp2_with fail
    refine (HBK.out _ H0.out).mono ?_; rintro e w1 ⟨rfl, b1⟩
    have B1 := Lib.hid (bel_tr H0.out b1 (Nat.le_refl _))
    obtain ⟨x1, -⟩ := Bxd.of ((b1.block (w.heap.size + 1) (by rw [hz3]; omega)).trans HB3.out.2.1)
    obtain ⟨x2, -⟩ := Bxd.of ((b1.block (w.heap.size + 1 + 1) (by rw [hz3]; omega)).trans HB3.out.1)
    clear b1
    go_wp2_with fail
    refine (implName_is HY.out _).mono ?_; rintro e w2 ⟨rfl, rfl⟩
    go_wp2_with fail
    refine (implTime_is HZ.out _).mono ?_; rintro e w2 ⟨rfl, rfl⟩
    go_wp2_with fail
    go_ret
    exact ⟨_, rfl, by rw [HE.out]; exact OwI.nothing _ _, B1.out⟩
  have hsr := mgA_srt ss h (okB_srt HX.out).1 (okB_srt HX.out).2
  have HBG := Lib.hid (bins_grps R T (mgA h ss) hsr (fun c hc => okc_name (okB_mem HX.out c hc))); clear hsr
  have hml : (mgA h ss).length ≤ 4000 := by
    have h1 := mgA_len ss h
    have h2 := okB_tot HX.out
    omega
  unfold BiPost
  generalize hq : w.heap.size = q at *
  refine (callsIn_wide (n := 9)).1 (callsIn_of_wp_marks Tryz.func6 rfl trivial ?_ rfl)
  simp only [Tryz.ntmps6, List.size_toArray, List.length_cons, List.length_nil, Nat.reduceAdd, Nat.reduceSub, Array.replicate_succ, Array.replicate_zero, List.push_toArray, List.append_toArray, List.nil_append, List.cons_append]
  gi_wp2_with fail
  refine ⟨trivial, (callsIn_wide.2 (HBK.out _ H0.out)).mono ?_⟩
  rintro e w1 ⟨rfl, b1⟩
  rw [hz3] at b1
  have B1 := Lib.hid (H0.out.trans (b1.mono (by omega)))
  have z1 : q + 3 ≤ w1.heap.size := by have := b1.size; omega
  have XB := Lib.hid ((b1.block q (by omega)).trans HB3.out.2.2)
  have XR := Lib.hid (Bxd.of ((b1.block (q + 1) (by omega)).trans HB3.out.2.1)).1
  have XT := Lib.hid (Bxd.of ((b1.block (q + 1 + 1) (by omega)).trans HB3.out.1)).1
  clear b1 HB3 H0 hz3
  have xr := XR.out
  gi_wp2_with fail
  refine ⟨trivial, (callsIn_wide.2 (implName_is HY.out _)).mono ?_⟩
  rintro e w2 ⟨rfl, rfl⟩
  have xt := XT.out
  gi_wp2_with fail
  refine ⟨trivial, (callsIn_wide.2 (implTime_is HZ.out _)).mono ?_⟩
  rintro e w2 ⟨rfl, rfl⟩
  have BM := Lib.hid (bel1 w1 (.cells #[.slice none 0 0] 30))
  have XM := Lib.hid (Bxd.of (new_of w1 (.cells #[.slice none 0 0] 30)))
  have zM : (w1.alloc (.cells #[.slice none 0 0] 30)).heap.size = w1.heap.size + 1 := by simp
  have HMT := Lib.hid (mergedTables_any (w1.alloc (.cells #[.slice none 0 0] 30)) a sa c sc n sn h hs ss HN.out.1 HN.out.2 (HV.out.below (by rw [hq]; exact B1.out.trans (BM.out.mono (by omega)))) (HVS.out.below (by rw [hq]; exact B1.out.trans (BM.out.mono (by omega)))) HX.out)
  obtain ⟨xb0, xb1, -, -⟩ := two_cells XB.out
  obtain ⟨xc0, xc1, -, -⟩ := two_cells ((BM.out.block q (by omega)).trans XB.out)
  have nq : q ≠ w1.heap.size := by omega
  have nq2 : w1.heap.size ≠ q := by omega
  clear xr xt
  generalize hM : w1.heap.size = M at *
  gi_wp2_with fail
  refine ⟨trivial, (callsIn_wide.2 HMT.out).mono ?_⟩
  rintro e w3 ⟨v, rfl, o3, b3⟩
  rw [zM] at b3
  obtain ⟨va, vc, rfl, hvv, hf⟩ := o3.view
  have V3 := Lib.hid hvv
  obtain ⟨q0, hq0⟩ : ∃ q0, (mgA h ss ≠ [] → (∃ o, va = some ⟨q0, o, none⟩) ∧ M + 1 ≤ q0 ∧ q0 < w3.heap.size) := by
    cases hl : mgA h ss with
    | nil => exact ⟨0, fun e => absurd rfl e⟩
    | cons c0 r0 =>
      obtain ⟨g, e, hg, -⟩ := hf 0 (by rw [hl]; simp)
      obtain ⟨g', o', e', hg', -⟩ := hvv.2.2.2 0 c0 (by rw [hl]; rfl)
      rw [e] at e'; cases e'
      exact ⟨g, fun _ => ⟨⟨0, e⟩, by rw [zM] at hg; exact hg, hg'⟩⟩
  have HQ0 := Lib.hid hq0
  have B3 := Lib.hid (B1.out.trans ((BM.out.mono (by omega)).trans (b3.mono (by omega))))
  have M3 := Lib.hid (XM.out.same (b3.block M (by omega)))
  have R3 := Lib.hid ((World.cell?_of_block (w := w1.alloc (.cells #[.slice none 0 0] 30)) (b3.block (q + 1) (by omega))).trans ((World.cell?_of_block (w := w1) (BM.out.block (q + 1) (by omega))).trans XR.out))
  have T3 := Lib.hid ((World.cell?_of_block (w := w1.alloc (.cells #[.slice none 0 0] 30)) (b3.block (q + 1 + 1) (by omega))).trans ((World.cell?_of_block (w := w1) (BM.out.block (q + 1 + 1) (by omega))).trans XT.out))
  have z3 : M + 1 ≤ w3.heap.size := by have := b3.size; omega
  clear hvv hf o3 b3 hq0 xb0 xb1 xc0 xc1 nq nq2 XM XB XR XT HMT HBK
  generalize hL : mgA h ss = l at *
  have HLL := Lib.hid hL; clear hL
  gi_wp2_with fail
  refine ⟨trivial, (callsIn_wide.2 (versionsOf_any (fun k => k = M) q0 va vc l.length l rfl (by omega) w3 V3.out (fun hne => (HQ0.out hne).1) (fun hne e => by have := (HQ0.out hne).2.1; omega))).mono ?_⟩
  rintro e w4 ⟨gf, lb, rfl, hen, hha, b4⟩
  have HHA := Lib.hid hha
  have B4 := Lib.hid (B3.out.trans (b4.mono (by omega)))
  have M4 := Lib.hid (M3.out.same (b4.block M (by omega)))
  have R4 := Lib.hid ((World.cell?_of_block (w := w3) (b4.block (q + 1) (by omega))).trans R3.out)
  have T4 := Lib.hid ((World.cell?_of_block (w := w3) (b4.block (q + 1 + 1) (by omega))).trans T3.out)
  have V4 := Lib.hid (V3.out.below b4)
  have z4 : M + 1 ≤ w4.heap.size := by have := b4.size; omega
  have z34 : w3.heap.size ≤ w4.heap.size := b4.size
  clear hha b4 M3 R3 T3
  gi_wp2_with fail
  refine loop_hands1 27 8 rfl hen (HHA.out (fun k => k = M) (fun k hk => Or.inl hk)) (Below.refl _ _) (fun k hk => by have : k = M := hk; omega) (Bng q M q0 w4 R T l w) (fun _ _ _ => False) ?_ ?_ ?_ ?_ ?_ ?_ ?_
  · rintro s W W' row ⟨h1, sv, ho, hr, hg, hb, hc0, hc1, hc2⟩ hgr hrow
    have hbb : Below w4.heap.size W W' := (Below.refl _ W).grown hgr h1 (fun k e => (hrow k e).1)
    refine ⟨Nat.le_trans h1 hgr.size, sv, ho.same (hbb.block _ (by omega)), OwI.grown hr hgr (fun k hk e => ?_), hg, hb.trans (hbb.mono (by omega)), (World.cell?_of_block (w := W) (hbb.block (q + 1) (by omega))).trans hc0, (World.cell?_of_block (w := W) (hbb.block (q + 1 + 1) (by omega))).trans hc1, fun hne => (hbb.block q0 (by have := (HQ0.out hne).2.2; omega)).trans (hc2 hne)⟩
    obtain ⟨-, o, ho2, hc⟩ := hrow k e
    rw [cells_of_owns hr hk o ho2] at hc; cases hc
  · exact fun k => fun _ _ _ _ h _ _ => h
  · exact ⟨Nat.le_refl _, _, M4.out, OwI.nothing _ _, rfl, B4.out, R4.out, T4.out, fun _ => rfl⟩
  · intro l m x W K hK
    simp only [List.setIfInBounds_toArray, List.set_cons_zero, List.set_cons_succ] at hK ⊢
    gi_wp2
    exact hK
  · rintro l2 m pre x gg W hpre hsz1 ⟨hs1, sv, ho, hr, hg, hb, hc0, hc1, hc2⟩
    replace hg : sv.ownBlock = gg := hg
    replace hr : OwI w4.heap.size W sv (((grps l).take pre.length).flatMap (grpBin R T)) := hr
    simp only [List.setIfInBounds_toArray, List.set_cons_zero, List.set_cons_succ]
    obtain ⟨b, cp, g, hgk, rfl, hvg, hne, hgl⟩ := pre_grps (V4.out.moved (fun hne => (HQ0.out hne).1) hc2 hs1) hpre
    have HO := Lib.hid ho
    have HR := Lib.hid hr
    have HB := Lib.hid hb
    have HG := Lib.hid hg
    have HGK := Lib.hid hgk
    have HC0 := Lib.hid hc0
    have HC1 := Lib.hid hc1
    have HC2 := Lib.hid hc2
    have HLA := Lib.hid (latestAt_any W b cp g g.length T rfl hvg (by omega))
    have HLN := Lib.hid (show (((grps l).take pre.length).flatMap (grpBin R T)).length ≤ 4000 from by
      have h1 := flat_bins_len R T ((grps l).take pre.length)
      have h2 := grps_le l
      rw [List.length_take] at h1
      omega)
    clear hr ho hb hg hvg hgk hc0 hc2
    have HGB := Lib.hid (show grpBin R T g = if (laL T g).2 && (!(laL T g).1.g && (laL T g).1.r.toList == R.toList) then [⟨(laL T g).1.b, (laL T g).1.v⟩] else [] from rfl)
    generalize laL T g = la at *
    obtain ⟨⟨lr, ln, lt, lv, lg⟩, lb⟩ := la
    simp only [Cel.agg] at HLA
    have hqM : q + 1 + 1 < M := by omega
    have HQ1 := Lib.hid (show l ≠ [] → q0 < w4.heap.size ∧ q0 ≠ M from fun hne => ⟨by have := (HQ0.out hne).2.2; omega, by have := (HQ0.out hne).2.1; omega⟩)
    have DONE := Lib.hid (fun (w5 : World) (hbl : Below W.heap.size W w5) (he : grpBin R T g = []) (a : Act) => bng_skip (x := .slice b g.length cp) a hbl hs1 HO.out HR.out HG.out HB.out HC0.out HC1.out HC2.out (show M < w4.heap.size by omega) (by omega) (fun hne => (HQ1.out hne).1) HGK.out he)
    gi_wp2_with fail
    refine ⟨trivial, (fun h => by cases h), (CallsIn.inRound l2 (callsIn_wide.2 HLA.out)).mono ?_⟩
    rintro e w5 ⟨rfl, b5⟩
    have HB5 := Lib.hid b5
    have HB6 := Lib.hid (bel_tr b5 (bel1 w5 (.cells #[.string lr, .string ln, .int .i64 lt, .int .i64 lv, .bool lg] 44)) (Nat.le_refl _))
    clear b5 hc1
    cases lb
    · have HE := Lib.hid (HGB.out.trans rfl)
      gi_wp2_with fail
      exact DONE.out _ HB6.out HE.out { tmps := #[], defers := [] }
    cases lg with
    | true =>
      have HE := Lib.hid (HGB.out.trans rfl)
      gi_wp2_with fail
      exact DONE.out _ HB6.out HE.out { tmps := #[], defers := [] }
    | false =>
      cases hrr : (lr.toList == R.toList)
      · have HE := Lib.hid (HGB.out.trans (by simp only [hrr]; rfl))
        have xr := (World.cell?_of_block (w := W) (HB6.out.block (q + 1) (by omega))).trans HC0.out
        have xr5 := (World.cell?_of_block (w := W) (HB5.out.block (q + 1) (by omega))).trans HC0.out
        gi_wp2_with fail
        exact DONE.out _ HB6.out HE.out { tmps := #[], defers := [] }
      · have HE := Lib.hid (HGB.out.trans (by simp only [hrr]; rfl) : grpBin R T g = [⟨ln, lv⟩])
        have xr := (World.cell?_of_block (w := W) (HB6.out.block (q + 1) (by omega))).trans HC0.out
        have xr5 := (World.cell?_of_block (w := W) (HB5.out.block (q + 1) (by omega))).trans HC0.out
        have HSN := Lib.hid (bin_snoc (R := R) (T := T) HGK.out)
        rw [HE.out] at HSN
        generalize (((grps l).take pre.length).flatMap (grpBin R T)) = o at *
        have z5 : W.heap.size ≤ w5.heap.size := HB5.out.size
        have zM5 : w5.heap.size ≠ M := by omega
        have HO6 := Lib.hid (HO.out.same (HB6.out.block M (by omega)))
        have hB7 := bel1 (w5.alloc (.cells #[.string lr, .string ln, .int .i64 lt, .int .i64 lv, .bool false] 44)) (.cells #[.string ln, .int .i64 lv] 48)
        have HB7 := Lib.hid (bel_tr HB6.out hB7 (Nat.le_refl _))
        have HR7 := Lib.hid (HR.out.next HB7.out)
        have HV7 := Lib.hid (VwI.lit (w5.alloc (.cells #[.string lr, .string ln, .int .i64 lt, .int .i64 lv, .bool false] 44)) ⟨ln, lv⟩)
        have HO7 := Lib.hid (HO.out.same (HB7.out.block M (by omega)))
        have zz6 : (w5.alloc (.cells #[.string lr, .string ln, .int .i64 lt, .int .i64 lv, .bool false] 44)).heap.size = w5.heap.size + 1 := by simp
        rw [zz6] at HV7
        have T1 : o.length + [(⟨ln, lv⟩ : Bi)].length ≤ 10000000 := by have := HLN.out; simp; omega
        have T2 := Nat.le_trans hs1 HB7.out.size
        obtain ⟨m0, -, -⟩ := id HO6.out
        obtain ⟨n0, n1, -⟩ := id HO7.out
        obtain ⟨sva, svc, rfl, -⟩ := HR.out.view
        gi_wp2_with (gi_at_builtin; refine appendI_in _ rfl (.tmp 47) (.tmp 54) rfl (base := w4.heap.size) (l := o) (m := [(⟨ln, lv⟩ : Bi)]) rfl rfl rfl HR7.out HV7.out T1 T2 ?_; intro v8 w8 r8 g8 n8; have R8 := Lib.hid (And.intro r8 (And.intro g8 n8)); have O8 := Lib.hid (HO7.out.same (g8.block M (by have := HB7.out.size; omega) (fun e => by have := OwI.lt HR.out M e.symm; omega))); obtain ⟨v8a, v8c, e8, -⟩ := id r8.view; rw [List.length_append, List.length_singleton] at e8; subst e8; clear r8 g8 n8; obtain ⟨o80, o81, -⟩ := id O8.out)
        exact bng_app (x := .slice b g.length cp) { tmps := #[], defers := [] } HB7.out hs1 HO.out HR.out HG.out HB.out HC0.out HC1.out HC2.out (show M < w4.heap.size by omega) hqM HQ1.out R8.out HSN.out.symm
  · rintro D gg W hD ⟨hs1, sv, ho, hr, hg, hb, hc0, hc1, hc2⟩ hK
    rw [show ((grpV va vc l, gg) : List Value × Option Nat).1.length = (grps l).length from grps_len va vc l, List.take_length, ← HBG.out] at hr
    have HR := Lib.hid hr
    have HB := Lib.hid hb
    obtain ⟨sva, svc, rfl, -⟩ := HR.out.view
    obtain ⟨o1, o2, o3⟩ := ho
    clear hr hb hg hc0 hc1 hc2
    have PB := Lib.hid (put_below (n₀ := q) (l := D) (W := W) (o := .deferred none) (by omega) (by omega))
    have HF := Lib.hid (show OwI q (W.putObj D (.deferred none)) (.slice sva (binsL R T l).length svc) (binsL R T l) from OwI.mono (HR.out.grown (grownBy_putObj' W D (.deferred none)) (fun k hk e => by
      cases e
      have := cells_of_owns HR.out hk _ hK
      cases this)) (by omega))
    by_cases hbg : 12 < (binsL R T l).length
    · have HE := Lib.hid (HP.out.trans (if_pos hbg))
      have z1 : (12 : Int) < ((binsL R T l).length : Int) := by omega
      generalize (binsL R T l).length = ml at *
      gi_wp2_with fail
      refine ⟨by simp, .inl ⟨_, _, rfl, run_takeDeferred hK, ?_⟩⟩
      exact ⟨_, results_tmp rfl _ _ _, _, rfl, by rw [HE.out]; exact OwI.nothing _ _, HB.out.trans PB.out⟩
    · have HE := Lib.hid (HP.out.trans (if_neg hbg))
      have z1 : ¬ (12 : Int) < ((binsL R T l).length : Int) := by omega
      generalize (binsL R T l).length = ml at *
      gi_wp2_with fail
      refine ⟨by simp, .inl ⟨_, _, rfl, run_takeDeferred hK, ?_⟩⟩
      exact ⟨_, results_tmp rfl _ _ _, _, rfl, by rw [HE.out]; exact HF.out, HB.out.trans PB.out⟩
  · rintro D k pre W hD hpre hf hK
    exact hf.elim
theorem implBinsOfO {B : Nat} {hv sv : Value} {h : List Cel} {ss : List (List Cel)} (R : ByteArray) (T : Int) (w : World) (o : OwB B w hv sv h ss) (hlow : Low h ss) : Calls Tryz.prog 6 #[.agg #[hv, sv], .string R, .int .i64 T] w (BiPost (bnP h ss R T) w) := by
  obtain ⟨a, ca, sa, sc, hs, rfl, rfl, h1, h2⟩ := o.view
  exact implBinsOf_any w a sa ca sc _ _ h hs ss rfl rfl h1 h2 hlow R T
end Go.Proofs.YtcloejmakjdgcaaGreat.Cl
