/-
  Bins: contracts of first, ValueIn (both), spec.l7Find, l7Copy, l7Set, l7Cut, SetBin, CutBin. (Made by gen_jc.py.)
-/
import Derived.Test.YtdgkinepoalfcaaDoorJb
namespace Go.Proofs.YtdgkinepoalfcaaDoor.Cl
open Go.RowKit Wd Rp Kp
set_option linter.unusedVariables false
theorem valL_succ {n : ByteArray} {l : List Bi} {k : Nat} {c : Bi} (hc : l[k]? = some c) (h : ∀ (j : Nat) (d : Bi), j < k → l[j]? = some d → (d.n.toList == n.toList) = false) (hn : (c.n.toList == n.toList) = false) : ∀ (j : Nat) (d : Bi), j < k + 1 → l[j]? = some d → (d.n.toList == n.toList) = false := fun j d hj hd => by
  by_cases e : j = k
  · subst e; rw [hc] at hd; cases hd; exact hn
  · exact h j d (by omega) hd
set_option maxHeartbeats 4000000 in
set_option maxRecDepth 100000 in
theorem specValue_any (w : World) (a : Option Addr) (cap : Nat) (l : List Bi) (n : Nat) (s : ByteArray) (hn : l.length = n) (hv : VwI w a cap l) (hl : n ≤ 4194304) :
    Calls Tryd.prog 68 #[.slice a n cap, .string s] w fun e w' => e = .returned (.tuple #[.int .i64 (valL s l).1, .bool (valL s l).2]) ∧ Below w.heap.size w w' := by
  have HV := Lib.hid hv; clear hv
  have HN := Lib.hid hn; clear hn
  go_enter Tryd.func68, Tryd.ntmps68
  go_wp2_with fail
  go_loopw [6] (fun i wr => ∃ k : Nat, k ≤ n ∧ i = .int .i64 k ∧ (∀ (j : Nat) (d : Bi), j < k → l[j]? = some d → (d.n.toList == s.toList) = false) ∧ Below w.heap.size w wr) (fun i _ => n - intV i)
  case atStart => exact ⟨0, Nat.zero_le _, rfl, (fun j c hj => by omega), Below.refl _ _⟩
  case round =>
    obtain ⟨k, hk, rfl, hlo, hbel⟩ := hrel
    have HB := Lib.hid hbel; clear hbel
    have HLO := Lib.hid hlo; clear hlo
    by_cases hlt : k < n
    · obtain ⟨c, hc⟩ : ∃ c, l[k]? = some c := ⟨l[k]'(by have := HN.out; omega), List.getElem?_eq_getElem _⟩
      obtain ⟨g, o, rfl, hg, h5⟩ := HV.out.2.2.2 k c hc
      obtain ⟨c0, c1⟩ : At2 wr g (o + k * 2) c := h5.same (HB.out.block g hg)
      have HC := Lib.hid hc; clear hc h5 hg
      cases he : (c.n.toList == s.toList)
      · have HL2 := Lib.hid (valL_succ HC.out HLO.out he)
        go_wp2_with fail
        go_roundw
        case rel => exact ⟨k + 1, by omega, by go_num, HL2.out, HB.out⟩
        case measure => simp [intV]; omega
      · have HE := Lib.hid (valL_at HC.out HLO.out he)
        go_wp2_with fail
        refine bodyPost_ret (v := .tuple #[.int .i64 c.v, .bool true]) (by simp [results, Tryd.results68, go_sem]) rfl ⟨by rw [HE.out], HB.out⟩
    · obtain rfl : k = n := by omega
      have HE := Lib.hid (valL_none (n := s) (l := l) fun j d hd => HLO.out j d (by have := (List.getElem?_eq_some_iff.1 hd).1; have := HN.out; omega) hd)
      go_wp2_with fail
      refine bodyPost_ret (v := .tuple #[.int .i64 0, .bool false]) (by simp [results, Tryd.results68, go_sem]) rfl ⟨by rw [HE.out], HB.out⟩
/-- The bin that is found. -/
def fstL (n : ByteArray) : List Bi → Bi × Bool
  | [] => (zi, false)
  | c :: r => if c.n.toList == n.toList then (c, true) else fstL n r
theorem fstL_at {n : ByteArray} : ∀ {l : List Bi} {k : Nat} {c : Bi}, l[k]? = some c → (∀ (j : Nat) (d : Bi), j < k → l[j]? = some d → (d.n.toList == n.toList) = false) → (c.n.toList == n.toList) = true → fstL n l = (c, true)
  | [], k, c, h, _, _ => by simp at h
  | d :: r, 0, c, h, _, e => by
    simp at h; subst h
    rw [fstL, if_pos e]
  | d :: r, k + 1, c, h, hn, e => by
    rw [fstL, if_neg (by rw [hn 0 d (by omega) rfl]; decide)]
    exact fstL_at (l := r) (by simpa using h) (fun j x hj hx => hn (j + 1) x (by omega) (by simpa using hx)) e
theorem fstL_none {n : ByteArray} : ∀ {l : List Bi}, (∀ (j : Nat) (d : Bi), l[j]? = some d → (d.n.toList == n.toList) = false) → fstL n l = (zi, false)
  | [], _ => rfl
  | d :: r, h => by
    rw [fstL, if_neg (by rw [h 0 d rfl]; decide)]
    exact fstL_none (l := r) fun j x hx => h (j + 1) x (by simpa using hx)
theorem fstL_val (n : ByteArray) : ∀ l : List Bi, valL n l = ((fstL n l).1.v, (fstL n l).2)
  | [] => rfl
  | c :: r => by
    rw [valL, fstL]; split
    · rfl
    · exact fstL_val n r
set_option maxHeartbeats 4000000 in
set_option maxRecDepth 100000 in
theorem first_any (w : World) (a : Option Addr) (cap : Nat) (l : List Bi) (n : Nat) (s : ByteArray) (hn : l.length = n) (hv : VwI w a cap l) (hl : n ≤ 4194304) :
    Calls Tryd.prog 88 #[.slice a n cap, .string s] w fun e w' => e = .returned (.tuple #[.agg #[.string (fstL s l).1.n, .int .i64 (fstL s l).1.v], .bool (fstL s l).2]) ∧ Below w.heap.size w w' := by
  have HV := Lib.hid hv; clear hv
  have HN := Lib.hid hn; clear hn
  have HZ := Lib.hid (new_of w (.cells #[.string ⟨#[]⟩, .int .i64 0] 63))
  have H0 := Lib.hid (bel1 w (.cells #[.string ⟨#[]⟩, .int .i64 0] 63))
  have hz0 : (w.alloc (.cells #[.string ⟨#[]⟩, .int .i64 0] 63)).heap.size = w.heap.size + 1 := by simp
  go_enter Tryd.func88, Tryd.ntmps88
  go_wp2_with fail
  generalize hq : w.heap.size = q at *
  generalize w.alloc (.cells #[.string ⟨#[]⟩, .int .i64 0] 63) = w0 at *
  go_loopw [11] (fun i wr => ∃ k : Nat, k ≤ n ∧ i = .int .i64 k ∧ (∀ (j : Nat) (d : Bi), j < k → l[j]? = some d → (d.n.toList == s.toList) = false) ∧ Below (q + 1) w0 wr) (fun i _ => n - intV i)
  case atStart => exact ⟨0, Nat.zero_le _, rfl, (fun j c hj => by omega), Below.refl _ _⟩
  case round =>
    obtain ⟨k, hk, rfl, hlo, hbel⟩ := hrel
    have HB := Lib.hid hbel
    have HBB := Lib.hid (H0.out.trans (hbel.mono (by omega))); clear hbel
    have HLO := Lib.hid hlo; clear hlo
    have hz1 : q + 1 ≤ wr.heap.size := by have := HB.out.size; omega
    have HZZ := Lib.hid (show wr.heap[q]? = _ from (HB.out.block q (by omega)).trans HZ.out)
    by_cases hlt : k < n
    · obtain ⟨c, hc⟩ : ∃ c, l[k]? = some c := ⟨l[k]'(by have := HN.out; omega), List.getElem?_eq_getElem _⟩
      obtain ⟨g, o, rfl, hg, h5⟩ := HV.out.2.2.2 k c hc
      obtain ⟨c0, c1⟩ : At2 wr g (o + k * 2) c := h5.same (HBB.out.block g (by omega))
      have HC := Lib.hid hc; clear hc h5 hg
      have HW := Lib.hid (bel1 wr (.cells #[.string c.n, .int .i64 c.v] 63))
      have HX := Lib.hid (new_of wr (.cells #[.string c.n, .int .i64 c.v] 63))
      have hmn := m_name c.n c.v
      have hen := e_name
      cases he : (c.n.toList == s.toList)
      · have HL2 := Lib.hid (valL_succ HC.out HLO.out he)
        go_wp2_with fail
        refine (nameB_any c.n c.v _).mono ?_; rintro e w2 ⟨rfl, b2⟩
        have B2 := Lib.hid (bel_tr HW.out b2 (Nat.le_refl _)); clear b2
        go_wp2_with fail
        go_roundw
        case rel => exact ⟨k + 1, by omega, by go_num, HL2.out, HB.out.trans (B2.out.mono hz1)⟩
        case measure => simp [intV]; omega
      · have HE := Lib.hid (fstL_at HC.out HLO.out he)
        go_wp2_with fail
        refine (nameB_any c.n c.v _).mono ?_; rintro e w2 ⟨rfl, b2⟩
        have B2 := Lib.hid (bel_tr HW.out b2 (Nat.le_refl _))
        obtain ⟨x0, x1, -, -⟩ := two_cells ((b2.block wr.heap.size (by simp)).trans HX.out)
        obtain ⟨z0, z1, f0, f1⟩ := two_cells ((B2.out.block q (by omega)).trans HZZ.out)
        have nn : wr.heap.size ≠ q := by omega
        have hqs : q < w2.heap.size := by have := B2.out.size; omega
        generalize wr.heap.size = wrs at *
        clear b2 c0 c1
        go_wp2_with fail
        refine bodyPost_ret (v := .tuple #[.agg #[.string c.n, .int .i64 c.v], .bool true]) (by simp [results, Tryd.results88, go_sem, z0, z1]) rfl ⟨by rw [HE.out], ?_⟩
        rw [hq]
        exact (HBB.out.trans (B2.out.mono (by omega))).setCell (p := ⟨q, 0, none⟩) (Nat.le_refl _) _ |>.setCell (p := ⟨q, 1, none⟩) (Nat.le_refl _) _
    · obtain rfl : k = n := by omega
      have HE := Lib.hid (fstL_none (n := s) (l := l) fun j d hd => HLO.out j d (by have := (List.getElem?_eq_some_iff.1 hd).1; have := HN.out; omega) hd)
      have HW := Lib.hid (bel1 wr (.cells #[.string ⟨#[]⟩, .int .i64 0] 63))
      obtain ⟨z0, z1, f0, f1⟩ := two_cells ((HW.out.block q (by omega)).trans HZZ.out)
      have nn : wr.heap.size ≠ q := by omega
      go_wp2_with fail
      refine bodyPost_ret (v := .tuple #[.agg #[.string ⟨#[]⟩, .int .i64 0], .bool false]) (by simp [results, Tryd.results88, go_sem, z0, z1]) rfl ⟨by rw [HE.out]; rfl, ?_⟩
      rw [hq]
      exact (HBB.out.trans (HW.out.mono (by omega))).setCell (p := ⟨q, 0, none⟩) (Nat.le_refl _) _ |>.setCell (p := ⟨q, 1, none⟩) (Nat.le_refl _) _
set_option maxHeartbeats 4000000 in
set_option maxRecDepth 100000 in
theorem implValue_any (w : World) (a : Option Addr) (cap : Nat) (l : List Bi) (n : Nat) (s : ByteArray) (hn : l.length = n) (hv : VwI w a cap l) (hl : n ≤ 4194304) :
    Calls Tryd.prog 72 #[.slice a n cap, .string s] w fun e w' => e = .returned (.tuple #[.int .i64 (valL s l).1, .bool (valL s l).2]) ∧ Below w.heap.size w w' := by
  have HF := Lib.hid (first_any w a cap l n s hn hv hl); clear hv
  have HV := Lib.hid (fstL_val s l)
  generalize fstL s l = x at *
  obtain ⟨⟨xn, xv⟩, xb⟩ := x
  go_enter Tryd.func72, Tryd.ntmps72
  go_wp2_with fail
  refine HF.out.mono ?_; rintro e w1 ⟨rfl, b1⟩
  have B1 := Lib.hid (bel_tr b1 (bel1 w1 (.cells #[.string xn, .int .i64 xv] 63)) (Nat.le_refl _)); clear b1
  go_wp2_with fail
  refine bodyPost_ret (v := .tuple #[.int .i64 xv, .bool xb]) (by simp [results, Tryd.results72, go_sem]) rfl ⟨by rw [HV.out], B1.out⟩
theorem run_append_binsT {w : World} {base : Nat} {v : Value} {a : Option Addr} {cap : Nat} {l m : List Bi} (T : TypeId) (hT : Tryd.prog.underlying T = some (.slice 63)) (ty : TypeId) (hown : OwI base w v l) (hy : VwI w a cap m) (hlen : l.length + m.length ≤ 10000000) (hbase : base ≤ w.heap.size) :
    ∃ v' w', (Builtin.append_ #[T, T] ty #[v, .slice a m.length cap]).run Tryd.prog w = .ok v' w' ∧ OwI base w' v' (l ++ m) ∧ w.grownBy w' v.ownBlock ∧ (v'.ownBlock = v.ownBlock ∨ v'.ownBlock = some w.heap.size) := by
  obtain ⟨i0, hi, hz0, hz1, hz2⟩ := info_parts infoI
  cases a with
  | none =>
    have hc := hy.2.2.1 rfl
    have hm : m = [] := List.length_eq_zero_iff.1 (by have := hy.1; omega)
    subst hm hc
    rw [List.append_nil]
    exact ⟨v, w, run_append_owned_none w base T ty 63 i0 2 hT hi v _ _ hown, hown, World.grownBy.refl _ _, Or.inl rfl⟩
  | some ad =>
    obtain ⟨v', w', hr, h2, h3, h4, h5⟩ := run_append_own_at (P := Tryd.prog) w base T ty 63 i0 _ 2 24 hT hi hz0 hz1 hz2 rfl (by decide) v l.length (flatI l) hown
      ad m.length cap (flatI m) (flatI_len m) (vwI_cells hy) (flatI_one m) (by unfold maxLen; omega) (by omega) hbase
    refine ⟨v', w', hr, ?_, h3, h5⟩
    unfold OwI
    rw [List.length_append, flatI_app]; exact h2
theorem step_append_binsT {ops : Array Oper} {o : Oper} {a : Act} {Q : Exit → Act → World → Prop} {K : Act → World → Prop} {w : World} (hw : Region.wanted o (yielded ops a.tmps) = true) (s x : Operand) (T : TypeId) (hT : Tryd.prog.underlying T = some (.slice 63))
    (ho : o.op = .call { callee := .builtin .append, args := #[s, x], argTypes := #[T, T] })
    {base : Nat} {v : Value} {ad : Option Addr} {cap n : Nat} {l m : List Bi} (hs : a.eval s = v) (hx : a.eval x = .slice ad n cap) (hmn : m.length = n) (hown : OwI base w v l) (hy : VwI w ad cap m) (hlen : l.length + m.length ≤ 10000000) (hbase : base ≤ w.heap.size)
    (h : ∀ v' w', OwI base w' v' (l ++ m) → w.grownBy w' v.ownBlock → (v'.ownBlock = v.ownBlock ∨ v'.ownBlock = some w.heap.size) → K (a.put o.dst v') w') :
    if Region.wanted o (yielded ops a.tmps) = true then Oper.wp Tryd.prog o a w K Q else K (a.put o.dst undef) w := by
  rw [if_pos hw]
  obtain ⟨v', w', hr, h2, h3, h4⟩ := run_append_binsT T hT o.type hown hy hlen hbase
  subst hmn
  unfold Oper.wp execOp
  simp only [ho, resolve, invoke, builtin, Sem.run_bind, Sem.run_pure, Result.andThen_ok, List.map_toArray, List.map_cons, List.map_nil, hs, hx, hr]
  exact h v' w' h2 h3 h4
theorem append_binsT {ops : Array Oper} {rest : List Oper} {o : Oper} {a : Act} {Q : Exit → Act → World → Prop} {w : World} (hw : Region.wanted o (yielded ops a.tmps) = true) (s x : Operand) (T : TypeId) (hT : Tryd.prog.underlying T = some (.slice 63))
    (ho : o.op = .call { callee := .builtin .append, args := #[s, x], argTypes := #[T, T] })
    {base : Nat} {v : Value} {ad : Option Addr} {cap n : Nat} {l m : List Bi} (hs : a.eval s = v) (hx : a.eval x = .slice ad n cap) (hmn : m.length = n) (hown : OwI base w v l) (hy : VwI w ad cap m) (hlen : l.length + m.length ≤ 10000000) (hbase : base ≤ w.heap.size)
    (h : ∀ v' w', OwI base w' v' (l ++ m) → w.grownBy w' v.ownBlock → wpList Tryd.prog ops Q rest (a.put o.dst v') w') : wpList Tryd.prog ops Q (o :: rest) a w := by
  refine BigFrame.wpList_want hw fun K hK => ?_
  subst hmn
  obtain ⟨v', w', hr, h2, h3, -⟩ := run_append_binsT T hT o.type hown hy hlen hbase
  unfold Oper.wp execOp
  simp only [ho, resolve, invoke, builtin, Sem.run_bind, Sem.run_pure, Result.andThen_ok, List.map_toArray, List.map_cons, List.map_nil, hs, hx, hr]
  exact hK _ _ (h v' w' h2 h3)
theorem VwI.grown {w w' : World} {a : Option Addr} {cap : Nat} {l : List Bi} {row : Option Nat} (h : VwI w a cap l) (hg : w.grownBy w' row) (hne : ∀ g o, l ≠ [] → a = some ⟨g, o, none⟩ → row ≠ some g) : VwI w' a cap l := by
  obtain ⟨h1, h2, h3, h4⟩ := h
  refine ⟨h1, h2, h3, fun k c hk => ?_⟩
  obtain ⟨g, o, e, hlt, hc⟩ := h4 k c hk
  exact ⟨g, o, e, Nat.lt_of_lt_of_le hlt hg.size, hc.same (hg.block g hlt (fun e2 => hne g o (fun e3 => by rw [e3] at hk; simp at hk) e e2.symm))⟩
/-- Where a slice of a call's own lies. -/
theorem OwI.blk {B : Nat} {w : World} {a : Option Addr} {n cap : Nat} {l : List Bi} (h : OwI B w (.slice a n cap) l) : ∀ g o, l ≠ [] → a = some ⟨g, o, none⟩ → B ≤ g ∧ g < w.heap.size := fun g o hne ha => by
  obtain ⟨c, r, hc⟩ := List.exists_cons_of_ne_nil hne
  obtain ⟨a', cap', e, -, hf⟩ := h.own
  cases e
  obtain ⟨g', e', -⟩ := hf 0 (by rw [hc]; simp)
  rw [ha] at e'; cases e'
  exact ⟨OwI.lt h g (by rw [ha]; rfl), OwI.low h g (by rw [ha]; rfl)⟩
theorem VwI.at {w : World} {a : Option Addr} {cap : Nat} {l : List Bi} (h : VwI w a cap l) {k : Nat} (hk : k ≤ l.length) : VwI w a cap (l.take k) := h.take hk (Nat.le_trans hk h.1) (Nat.le_refl _) h.2.2.1
set_option maxRecDepth 100000 in
theorem cutI_from (T : TypeId) (hu : Tryd.prog.underlying T = some (.slice (Tryd.prog.elem T))) (he : Tryd.prog.elem T = 63) (a : Option Addr) (n cap k : Nat) (hk : k ≤ n) : ∃ b cb, (∀ w, (Instr.slice T (.slice a n cap) (some (.int .i64 (k : Int))) none none).run Tryd.prog w = .ok (.slice b (n - k) cb) w) ∧
    ∀ w l, VwI w a cap l → l.length = n → VwI w b cb (l.drop k) := by
  refine ⟨_, _, fun w => ?_, fun w l h hl => h.drop (k := k) (by omega)⟩
  have hs : ∀ w, (sizeOf (Tryd.prog.elem T)).run Tryd.prog w = .ok 2 w := fun w => by
    rw [he]; exact Tryd.sizeOf63 w
  rw [run_slice_l w T a n cap hu .i64 (k : Int) (by omega) (by omega), hs]
  rfl
set_option maxRecDepth 100000 in
theorem cutI_to (T : TypeId) (hu : Tryd.prog.underlying T = some (.slice (Tryd.prog.elem T))) (he : Tryd.prog.elem T = 63) (a : Option Addr) (n cap k : Nat) (hk : k ≤ n) (hn : n ≤ cap) (hz : a = none → cap = 0) : (∀ w, (Instr.slice T (.slice a n cap) none (some (.int .i64 (k : Int))) none).run Tryd.prog w = .ok (.slice a k cap) w) ∧
    ∀ w l, VwI w a cap l → l.length = n → VwI w a cap (l.take k) := by
  refine ⟨fun w => ?_, fun w l h hl => h.take (by omega) (by omega) (Nat.le_refl _) hz⟩
  have hs : ∀ w, (sizeOf (Tryd.prog.elem T)).run Tryd.prog w = .ok 2 w := fun w => by
    rw [he]; exact Tryd.sizeOf63 w
  rw [run_slice_h w T a n cap hu .i64 (k : Int) (by omega) (by omega), hs]
  show Result.ok (Value.slice (if cap = 0 then a else a.map (·.add (0 * 2))) (k - 0) (cap - 0)) w = _
  congr 2
  split
  · rfl
  · cases a <;> simp [Addr.add]
theorem ctI_no {l : List Bi} {n : ByteArray} (h : isAt n l = false) : ctI l n = l := by unfold ctI behI; rw [if_neg (by rw [h]; decide)]; exact List.take_append_drop _ _
def CbPost (B : Nat) (p : List Bi) (w : World) (e : Ending) (w' : World) : Prop := ∃ v, e = .returned v ∧ OwI B w' v p ∧ Below B w w'
end Go.Proofs.YtdgkinepoalfcaaDoor.Cl
