/-
  Draws of expressions: contracts of spec.l1Texts, l8DrawSum, l1From, l8Bend, l8Draw, DrawSumEnd. (Made by gen_yp.py.)
-/
import Derived.Test.YtkhmbmcomgclaaaGreatDoorYd
import Derived.Test.YtkhmbmcomgclaaaGreatDoorKs
import Derived.Test.YtkhmbmcomgclaaaGreatDoorDg
import Derived.Lib.ItoaLen
namespace Go.Proofs.YtkhmbmcomgclaaaGreatDoor.Cl
open Go.RowKit Wd Rp Cu Kp
set_option linter.unusedVariables false
theorem OT.but {B b : Nat} {w w' : World} {v : Value} {l : List Tk} (h : OT B w v l) (hb : But b w w') (hB : b < B) : OT B w' v l :=
  row_next h fun g hg hlt => hb.block g hlt (by have := OT.lt h g hg; omega)
theorem OT.mono {B C : Nat} {w : World} {v : Value} {l : List Tk} (h : OT B w v l) (hC : C ≤ B) : OT C w v l := O1.mono h hC
theorem OT.grown {B : Nat} {w w' : World} {v : Value} {l : List Tk} {row : Option Nat} (h : OT B w v l) (hg : w.grownBy w' row) (hne : ∀ k, v.ownBlock = some k → row ≠ some k) : OT B w' v l := O1.grown h hg hne
theorem OT.form {B : Nat} {w : World} {v : Value} {l : List Tk} (h : OT B w v l) : ∃ a cap, v = .slice a l.length cap ∧ V1 w a cap (txL l) := by
  obtain ⟨a, cap, e, hv⟩ := O1.view h
  rw [txL_len] at e
  exact ⟨a, cap, e, hv⟩
theorem txL_app (l m : List Tk) : txL (l ++ m) = txL l ++ txL m := List.map_append
theorem txL_one : ∀ l : List Tk, ∀ u ∈ txL l, u.oneCell' = true := fun l u hu => by
  unfold txL at hu
  rw [List.mem_map] at hu
  obtain ⟨s, -, rfl⟩ := hu; rfl
theorem v1_cells {w : World} {ad : Addr} {cap : Nat} {m : List Value} (h : V1 w (some ad) cap m) : ∀ j u, m[j]? = some u → w.cell? (ad.add j) = some u := fun j u hj => by
  obtain ⟨g, o, e, -, hc⟩ := h.2.2.2 j u hj
  cases e
  have hadd : (⟨g, o, none⟩ : Addr).add j = ⟨g, o + j, none⟩ := by cases j <;> simp [Addr.add]
  rw [hadd]; exact hc
theorem run_append_tx {w : World} {base : Nat} {v : Value} {a : Option Addr} {cap : Nat} {l m : List Tk} (ty : TypeId) (hown : OT base w v l) (hy : V1 w a cap (txL m)) (hlen : l.length + m.length ≤ 10000000) (hbase : base ≤ w.heap.size) :
    ∃ v' w', (Builtin.append_ #[24, 24] ty #[v, .slice a m.length cap]).run Tryz.prog w = .ok v' w' ∧ OT base w' v' (l ++ m) ∧ w.grownBy w' v.ownBlock := by
  obtain ⟨i0, hi, hz0, hz1, hz2⟩ := info_parts info1T
  unfold OT O1 at hown
  rw [txL_len] at hown
  cases a with
  | none =>
    have hc := hy.2.2.1 rfl
    have hm : m = [] := List.length_eq_zero_iff.1 (by have := hy.1; rw [txL_len] at this; omega)
    subst hm hc
    rw [List.append_nil]
    exact ⟨v, w, run_append_owned_none w base 24 ty 9 i0 1 Tryz.underlying24 hi v _ _ hown, (by unfold OT O1; rw [txL_len]; exact hown), World.grownBy.refl _ _⟩
  | some ad =>
    obtain ⟨v', w', hr, h2, h3, h4, h5⟩ := run_append_own_at (P := Tryz.prog) w base 24 ty 9 i0 _ 1 16 Tryz.underlying24 hi hz0 hz1 hz2 rfl (by decide) v l.length (txL l) hown
      ad m.length cap (txL m) (by rw [txL_len, Nat.mul_one]) (v1_cells hy) (txL_one m) (by unfold maxLen; omega) (by omega) hbase
    refine ⟨v', w', hr, ?_, h3⟩
    unfold OT O1
    rw [txL_len, List.length_append, txL_app]; exact h2
theorem append_tx {ops : Array Oper} {rest : List Oper} {o : Oper} {a : Act} {Q : Exit → Act → World → Prop} {w : World} (hw : Region.wanted o (yielded ops a.tmps) = true) (s x : Operand)
    (ho : o.op = .call { callee := .builtin .append, args := #[s, x], argTypes := #[24, 24] })
    {base : Nat} {v : Value} {ad : Option Addr} {cap n : Nat} {l m : List Tk} (hs : a.eval s = v) (hx : a.eval x = .slice ad n cap) (hmn : m.length = n) (hown : OT base w v l) (hy : V1 w ad cap (txL m)) (hlen : l.length + m.length ≤ 10000000) (hbase : base ≤ w.heap.size)
    (h : ∀ v' w', OT base w' v' (l ++ m) → w.grownBy w' v.ownBlock → wpList Tryz.prog ops Q rest (a.put o.dst v') w') : wpList Tryz.prog ops Q (o :: rest) a w := by
  refine BigFrame.wpList_want hw fun K hK => ?_
  subst hmn
  obtain ⟨v', w', hr, h2, h3⟩ := run_append_tx o.type hown hy hlen hbase
  unfold Oper.wp execOp
  simp only [ho, resolve, invoke, builtin, Sem.run_bind, Sem.run_pure, Result.andThen_ok, List.map_toArray, List.map_cons, List.map_nil, hs, hx, hr]
  exact hK _ _ (h v' w' h2 h3)
theorem lit1 {B : Nat} (w : World) (s : Tk) (h : B ≤ w.heap.size) : OT B (w.alloc (.cells #[.string (tx s)] 9)) (.slice (some ⟨w.heap.size, 0, none⟩) 1 1) [s] :=
  O1.lit (T := 9) h #[.string (tx s)] (by unfold maxLen; simp)
/-- Short texts. -/
def SmT (l : List Tk) : Prop := ∀ s ∈ l, s.length ≤ 40
theorem SmT.app {l m : List Tk} (h : SmT l) (h' : SmT m) : SmT (l ++ m) := fun c hc => by
  rcases List.mem_append.1 hc with e | e
  · exact h c e
  · exact h' c e
theorem SmT.one {s : Tk} (h : s.length ≤ 40) : SmT [s] := fun d hd => by
  rcases List.mem_cons.1 hd with e | e
  · subst e; exact h
  · cases e
theorem SmT.take {l : List Tk} (h : SmT l) (k : Nat) : SmT (l.take k) := fun c hc => h c (List.mem_of_mem_take hc)
theorem SmT.drop {l : List Tk} (h : SmT l) (k : Nat) : SmT (l.drop k) := fun c hc => h c (List.mem_of_mem_drop hc)
theorem SmT.set {l : List Tk} (h : SmT l) (k : Nat) {s : Tk} (hs : s.length ≤ 40) : SmT (l.set k s) := fun c hc => by
  rcases List.mem_or_eq_of_mem_set hc with e | e
  · exact h c e
  · subst e; exact hs
theorem st_belowT {w0 w w' : World} {B b : Nat} (h : St w0 B b w) (hb : Below w.heap.size w w') : St w0 B b w' :=
  ⟨h.but.below' hb, h.cur.carry (fun k hk => hb.block k (by have := h.cur.le; have := h.cur.lt; omega)) (hb.block b h.cur.lt), h.lt⟩
/-- Texts drawn, at most n of them. -/
def DrawsX (n : Nat) (B b : Nat) (w : World) (e : Ending) (w' : World) : Prop := ∃ (v : Value) (l : List Tk), e = .returned v ∧ OT w.heap.size w' v l ∧ l.length ≤ n ∧ SmT l ∧ Cur B b w' ∧ But b w w'
theorem nm_len {t : Tk} (h : nmB t = true) : t.length ≤ 8 := by
  unfold nmB at h
  simp only [Bool.and_eq_true, decide_eq_true_eq] at h
  exact h.2.2
theorem tx_itoa (n : Int) : (⟨(Lib.itoa n).toArray⟩ : ByteArray) = tx (Lib.itoa n) := rfl
set_option maxHeartbeats 4000000 in
set_option maxRecDepth 100000 in
theorem l1Texts_any (w : World) (a : Option Addr) (cap : Nat) (l : List Tk) (n : Nat) (hn : l.length = n) (hv : V1 w a cap (txL l)) (hl : n ≤ 4194304) :
    Calls Tryz.prog 75 #[.slice a n cap] w fun e w' => ∃ v, e = .returned v ∧ OT w.heap.size w' v l ∧ Below w.heap.size w w' := by
  have HO := Lib.hid (show OT w.heap.size (w.alloc (.cells #[] 9)) (.slice (some ⟨w.heap.size, 0, none⟩) 0 0) [] from O1.start (Nat.le_refl _))
  have HB := Lib.hid (bel1 w (.cells #[] 9))
  have HV := Lib.hid (hv.below HB.out); clear hv
  go_enter Tryz.func75, Tryz.ntmps75
  go_wp2_with (first
    | (at_builtin; refine append_tx rfl (.tmp 3) (.tmp 4) rfl (base := w.heap.size) (l := []) (m := l) rfl rfl hn HO.out HV.out (by simp; omega) (by simp) ?_; intro v5 w5 o5 g5; have O5 := Lib.hid (And.intro o5 g5); clear o5 g5))
  go_ret
  exact ⟨_, rfl, O5.out.1, HB.out.grown O5.out.2 (by simp) (fun k hk => OT.lt HO.out k hk)⟩
set_option maxRecDepth 100000 in
theorem from_any (B b : Nat) (lo hi : Int) (w : World) (hc : Cur B b w) (h1 : lo ≤ hi) (h2 : -1000000 ≤ lo) (h3 : hi ≤ 100000000) : Calls Tryz.prog 41 #[.pointer (some ⟨b, 0, none⟩), .int .i64 lo, .int .i64 hi] w (Draws B b w lo hi) := by
  have HB := Lib.hid (below_any B b (hi - lo + 1) w hc (by omega) (by omega))
  go_enter Tryz.func41, Tryz.ntmps41
  go_wp2_with fail
  refine HB.out.mono ?_; rintro e w1 ⟨y, rfl, y0, y1, hc1, hw1⟩
  have H1 := Lib.hid (And.intro hc1 hw1); clear hc1 hw1
  go_wp2_with fail
  go_ret
  exact ⟨_, rfl, by omega, by omega, H1.out.1, H1.out.2⟩
/-- One of the texts of a literal. -/
theorem pick_tx {b : Nat} {w w1 : World} {T : Nat} {ts : List Tk} (hb : b < w.heap.size) (h : But b (w.alloc (.cells (ts.map tv).toArray T)) w1) {k : Nat} (hk : k < ts.length) : ∃ s, ts[k]? = some s ∧ w1.cell? ⟨w.heap.size, k, none⟩ = some (.string (tx s)) := by
  refine ⟨ts[k], List.getElem?_eq_getElem hk, ?_⟩
  rw [pick_any hb h k]
  simp [tv, hk]
theorem mem_short {ts : List Tk} {k : Nat} {s : Tk} (h : ts[k]? = some s) (hs : ∀ s ∈ ts, s.length ≤ 40) : s.length ≤ 40 := hs s (List.mem_of_getElem? h)
theorem at_app (t : ByteArray) : ((⟨#[64]⟩ : ByteArray) ++ t) = tx (64 :: t.data.toList) := by
  apply ByteArray.ext
  apply Array.toList_inj.1
  rw [Joins.data_append, tx_data]; rfl
set_option maxHeartbeats 16000000 in
set_option maxRecDepth 100000 in
theorem drawSum_any : ∀ (d : Nat), d ≤ 10 → ∀ (kind dep : Int), ((kind = 1 ∧ dep ≤ d) ∨ (kind = 2 ∧ dep + 1 ≤ d ∧ 1 ≤ d)) → -1000 + (d : Int) ≤ dep → ∀ (B b : Nat) (w : World), Cur B b w →
    Calls Tryz.prog 108 #[.pointer (some ⟨b, 0, none⟩), .int .i64 kind, .int .i64 dep] w (DrawsX (2 ^ (d + 1) - 1) B b w) := by
  intro d
  induction d with
  | zero =>
    intro hd kind dep hk hlo B b w hc
    obtain ⟨rfl, hdep⟩ : kind = 1 ∧ dep ≤ 0 := by omega
    have hlt := hc.lt
    have HS0 := Lib.hid (⟨But.refl b w, hc, hlt⟩ : St w B b w); clear hc
    have hp : 1 ≤ 2 ^ (0 + 1) - 1 := by decide
    have k0 : decide (dep ≤ 0) = true := by simpa using hdep
    go_enter Tryz.func108, Tryz.ntmps108
    go_wp2_with fail
    refine (below_any B b _ _ HS0.out.cur (by decide) (by decide)).mono ?_; rintro e wa ⟨y, rfl, y0, y1, hca, hwa⟩
    have HSa := Lib.hid (HS0.out.draws hwa hca); clear hwa hca HS0
    by_cases e0 : y = 0
    · subst e0
      go_wp2_with fail
      refine (drawWord_any B b _ HSa.out.cur).mono ?_; rintro e wb ⟨v, rfl, v0, v1, hcb, hwb⟩
      have HSb := Lib.hid (HSa.out.draws hwb hcb); clear hwb hcb HSa
      go_wp2_with fail
      refine (l1Int_any v wb (by omega) (by omega)).mono ?_; rintro e wc ⟨rfl, bc⟩
      have HSc := Lib.hid (st_belowT HSb.out bc); clear bc HSb
      have HL := Lib.hid (lit1 (B := w.heap.size) wc (Lib.itoa v) HSc.out.size)
      have HLN := Lib.hid (Lib.itoa_length_le v (by omega) (by omega))
      go_wp2_with fail
      go_ret
      exact ⟨_, [Lib.itoa v], rfl, HL.out, hp, SmT.one (by have := HLN.out; omega), (HSc.out.alloc _).cur, (HSc.out.alloc _).but⟩
    have k1 : (y == 0) = false := by rw [beq_eq_false_iff_ne]; exact e0
    by_cases e1 : y = 1
    · subst e1
      go_wp2_with fail
      refine (below_any B b _ _ HSa.out.cur (by decide) (by decide)).mono ?_; rintro e wb ⟨v, rfl, v0, v1, hcb, hwb⟩
      have HSb := Lib.hid (HSa.out.draws hwb hcb); clear hwb hcb HSa
      go_wp2_with fail
      refine (l1Int_any v wb (by omega) (by omega)).mono ?_; rintro e wc ⟨rfl, bc⟩
      have HSc := Lib.hid (st_belowT HSb.out bc); clear bc HSb
      have hsz : (⟨(Lib.itoa v).toArray⟩ : ByteArray).size ≤ 21 := by have := Lib.itoa_length_le v (by omega) (by omega); rw [tx_itoa, tx_size]; exact this
      generalize (⟨(Lib.itoa v).toArray⟩ : ByteArray) = t at *
      have hcat : ¬ 9223372036854775807 < (⟨#[64]⟩ : ByteArray).size + t.size := by show ¬ 9223372036854775807 < 1 + t.size; omega
      have HAT := Lib.hid (at_app t)
      have HL := Lib.hid (lit1 (B := w.heap.size) wc (64 :: t.data.toList) HSc.out.size)
      rw [← HAT.out] at HL
      have HLN := Lib.hid hsz
      go_wp2_with fail
      go_ret
      exact ⟨_, [64 :: t.data.toList], rfl, HL.out, hp, SmT.one (by have := HLN.out; have := llen t; simp only [List.length_cons]; omega), (HSc.out.alloc _).cur, (HSc.out.alloc _).but⟩
    have k2 : (y == 1) = false := by rw [beq_eq_false_iff_ne]; exact e1
    go_wp2_with fail
    refine (drawName_any B b _ HSa.out.cur).mono ?_; rintro e wb ⟨s, rfl, hnm, hcb, hwb⟩
    have HSb := Lib.hid (HSa.out.draws hwb hcb); clear hwb hcb HSa
    obtain ⟨t, rfl⟩ : ∃ t, s = tx t := ⟨_, (tx_of s).symm⟩
    rw [tx_data] at hnm
    have HLN := Lib.hid (nm_len hnm); clear hnm
    have HL := Lib.hid (lit1 (B := w.heap.size) wb t HSb.out.size)
    go_wp2_with fail
    go_ret
    exact ⟨_, [t], rfl, HL.out, hp, SmT.one (by have := HLN.out; omega), (HSb.out.alloc _).cur, (HSb.out.alloc _).but⟩
  | succ d ih =>
    intro hd kind dep hk hlo B b w hc
    have hlt := hc.lt
    have HS0 := Lib.hid (⟨But.refl b w, hc, hlt⟩ : St w B b w); clear hc
    have hpp : 2 ^ (d + 1 + 1) = 2 * 2 ^ (d + 1) := by rw [Nat.pow_succ]; omega
    have hp1 : 1 ≤ 2 ^ (d + 1) := Nat.one_le_two_pow
    have hp2 : 2 ^ (d + 1) ≤ 2 ^ 11 := Nat.pow_le_pow_right (by decide) (by omega)
    have IH := Lib.hid (ih (by omega)); clear ih
    generalize 2 ^ (d + 1 + 1) = P at *
    generalize 2 ^ (d + 1) = p at *
    subst hpp
    have hp : 1 ≤ 2 * p - 1 := by omega
    rcases hk with ⟨rfl, hdep⟩ | ⟨rfl, hdep, -⟩
    · by_cases hd0 : dep ≤ 0
      · have k0 : decide (dep ≤ 0) = true := by simpa using hd0
        clear IH
        go_enter Tryz.func108, Tryz.ntmps108
        go_wp2_with fail
        refine (below_any B b _ _ HS0.out.cur (by decide) (by decide)).mono ?_; rintro e wa ⟨y, rfl, y0, y1, hca, hwa⟩
        have HSa := Lib.hid (HS0.out.draws hwa hca); clear hwa hca HS0
        by_cases e0 : y = 0
        · subst e0
          go_wp2_with fail
          refine (drawWord_any B b _ HSa.out.cur).mono ?_; rintro e wb ⟨v, rfl, v0, v1, hcb, hwb⟩
          have HSb := Lib.hid (HSa.out.draws hwb hcb); clear hwb hcb HSa
          go_wp2_with fail
          refine (l1Int_any v wb (by omega) (by omega)).mono ?_; rintro e wc ⟨rfl, bc⟩
          have HSc := Lib.hid (st_belowT HSb.out bc); clear bc HSb
          have HL := Lib.hid (lit1 (B := w.heap.size) wc (Lib.itoa v) HSc.out.size)
          have HLN := Lib.hid (Lib.itoa_length_le v (by omega) (by omega))
          go_wp2_with fail
          go_ret
          exact ⟨_, [Lib.itoa v], rfl, HL.out, hp, SmT.one (by have := HLN.out; omega), (HSc.out.alloc _).cur, (HSc.out.alloc _).but⟩
        have k1 : (y == 0) = false := by rw [beq_eq_false_iff_ne]; exact e0
        by_cases e1 : y = 1
        · subst e1
          go_wp2_with fail
          refine (below_any B b _ _ HSa.out.cur (by decide) (by decide)).mono ?_; rintro e wb ⟨v, rfl, v0, v1, hcb, hwb⟩
          have HSb := Lib.hid (HSa.out.draws hwb hcb); clear hwb hcb HSa
          go_wp2_with fail
          refine (l1Int_any v wb (by omega) (by omega)).mono ?_; rintro e wc ⟨rfl, bc⟩
          have HSc := Lib.hid (st_belowT HSb.out bc); clear bc HSb
          have hsz : (⟨(Lib.itoa v).toArray⟩ : ByteArray).size ≤ 21 := by have := Lib.itoa_length_le v (by omega) (by omega); rw [tx_itoa, tx_size]; exact this
          generalize (⟨(Lib.itoa v).toArray⟩ : ByteArray) = t at *
          have hcat : ¬ 9223372036854775807 < (⟨#[64]⟩ : ByteArray).size + t.size := by show ¬ 9223372036854775807 < 1 + t.size; omega
          have HAT := Lib.hid (at_app t)
          have HL := Lib.hid (lit1 (B := w.heap.size) wc (64 :: t.data.toList) HSc.out.size)
          rw [← HAT.out] at HL
          have HLN := Lib.hid hsz
          go_wp2_with fail
          go_ret
          exact ⟨_, [64 :: t.data.toList], rfl, HL.out, hp, SmT.one (by have := HLN.out; have := llen t; simp only [List.length_cons]; omega), (HSc.out.alloc _).cur, (HSc.out.alloc _).but⟩
        have k2 : (y == 1) = false := by rw [beq_eq_false_iff_ne]; exact e1
        go_wp2_with fail
        refine (drawName_any B b _ HSa.out.cur).mono ?_; rintro e wb ⟨s, rfl, hnm, hcb, hwb⟩
        have HSb := Lib.hid (HSa.out.draws hwb hcb); clear hwb hcb HSa
        obtain ⟨t, rfl⟩ : ∃ t, s = tx t := ⟨_, (tx_of s).symm⟩
        rw [tx_data] at hnm
        have HLN := Lib.hid (nm_len hnm); clear hnm
        have HL := Lib.hid (lit1 (B := w.heap.size) wb t HSb.out.size)
        go_wp2_with fail
        go_ret
        exact ⟨_, [t], rfl, HL.out, hp, SmT.one (by have := HLN.out; omega), (HSb.out.alloc _).cur, (HSb.out.alloc _).but⟩
      · have k0 : decide (dep ≤ 0) = false := by simpa using hd0
        go_enter Tryz.func108, Tryz.ntmps108
        go_wp2_with fail
        refine (once_any B b _ _ HS0.out.cur (by decide) (by decide)).mono ?_; rintro e w1 ⟨tb, rfl, hc1, hw1⟩
        have HS1 := Lib.hid (HS0.out.draws hw1 hc1); clear hw1 hc1 HS0
        cases tb
        · have HLB := Lib.hid (fun o => HS1.out.alloc o)
          go_wp2_with fail
          refine (below_any B b _ _ (HLB.out _).cur (by decide) (by decide)).mono ?_; rintro e w2 ⟨y, rfl, y0, y1, hc2, hw2⟩
          obtain ⟨m, rfl⟩ := Int.eq_ofNat_of_zero_le y0
          obtain ⟨s, hs, c0⟩ := pick_tx (ts := [[43], [45], [42], [47]]) HS1.out.cur.lt hw2 (k := m) (by simp; omega)
          have hsl := mem_short hs (by decide)
          have HS2 := Lib.hid ((HLB.out _).draws hw2 hc2); clear hw2 hc2 hs HLB
          have hm4 : m < 4 := by omega
          have HK := Lib.hid (lit1 (B := w.heap.size) w2 s HS2.out.size)
          have HSa := Lib.hid (HS2.out.alloc (.cells #[.string (tx s)] 9)); clear HS2
          have HC1 := Lib.hid (IH.out 1 (dep - 1) (by omega) (by omega) B b _ HSa.out.cur)
          go_wp2_with fail
          refine HC1.out.mono ?_; rintro e x1 ⟨v1, l1, rfl, o1, n1, s1, hd1, hx1⟩
          have HK1 := Lib.hid (HK.out.but hx1 hlt)
          have HX1 := Lib.hid (HSa.out.draws hx1 hd1); clear hx1 hd1 HSa HK HC1
          obtain ⟨a1, c1, rfl, hv1⟩ := o1.form
          have HV1 := Lib.hid hv1
          have HM1 := Lib.hid s1
          clear o1 hv1 s1
          go_wp2_with (first
            | (at_builtin; refine append_tx rfl (.tmp 69) (.tmp 74) rfl (base := w.heap.size) (l := [s]) (m := l1) rfl rfl rfl HK1.out HV1.out (by simp; omega) HX1.out.size ?_; intro v2 x2 o2 g2; have O2 := Lib.hid (And.intro o2 g2); clear o2 g2))
          have HX2 := Lib.hid (HX1.out.grown O2.out.2 (fun k hk => OT.lt HK1.out k hk))
          have HC2 := Lib.hid (IH.out 1 (dep - 1) (by omega) (by omega) B b _ HX2.out.cur)
          refine HC2.out.mono ?_; rintro e x3 ⟨v3, l3, rfl, o3, n3, s3, hd3, hx3⟩
          have HK3 := Lib.hid (O2.out.1.but hx3 hlt)
          have HX3 := Lib.hid (HX2.out.draws hx3 hd3); clear hx3 hd3 HX1 HX2 HC2
          obtain ⟨a3, c3, rfl, hv3⟩ := o3.form
          have HV3 := Lib.hid hv3
          have HM3 := Lib.hid s3
          clear o3 hv3 s3
          go_wp2_with (first
            | (at_builtin; refine append_tx rfl (.tmp 75) (.tmp 80) rfl (base := w.heap.size) (l := [s] ++ l1) (m := l3) rfl rfl rfl HK3.out HV3.out (by simp; omega) HX3.out.size ?_; intro v4 x4 o4 g4; have O4 := Lib.hid (And.intro o4 g4); clear o4 g4))
          have HX4 := Lib.hid (HX3.out.grown O4.out.2 (fun k hk => OT.lt HK3.out k hk))
          go_ret
          exact ⟨_, _, rfl, O4.out.1, by simp; omega, ((SmT.one hsl).app HM1.out).app HM3.out, HX4.out.cur, HX4.out.but⟩
        · clear IH
          go_wp2_with fail
          refine (below_any B b _ _ HS1.out.cur (by decide) (by decide)).mono ?_; rintro e wa ⟨y, rfl, y0, y1, hca, hwa⟩
          have HSa := Lib.hid (HS1.out.draws hwa hca); clear hwa hca HS1
          by_cases e0 : y = 0
          · subst e0
            go_wp2_with fail
            refine (drawWord_any B b _ HSa.out.cur).mono ?_; rintro e wb ⟨v, rfl, v0, v1, hcb, hwb⟩
            have HSb := Lib.hid (HSa.out.draws hwb hcb); clear hwb hcb HSa
            go_wp2_with fail
            refine (l1Int_any v wb (by omega) (by omega)).mono ?_; rintro e wc ⟨rfl, bc⟩
            have HSc := Lib.hid (st_belowT HSb.out bc); clear bc HSb
            have HL := Lib.hid (lit1 (B := w.heap.size) wc (Lib.itoa v) HSc.out.size)
            have HLN := Lib.hid (Lib.itoa_length_le v (by omega) (by omega))
            go_wp2_with fail
            go_ret
            exact ⟨_, [Lib.itoa v], rfl, HL.out, hp, SmT.one (by have := HLN.out; omega), (HSc.out.alloc _).cur, (HSc.out.alloc _).but⟩
          have k1 : (y == 0) = false := by rw [beq_eq_false_iff_ne]; exact e0
          by_cases e1 : y = 1
          · subst e1
            go_wp2_with fail
            refine (below_any B b _ _ HSa.out.cur (by decide) (by decide)).mono ?_; rintro e wb ⟨v, rfl, v0, v1, hcb, hwb⟩
            have HSb := Lib.hid (HSa.out.draws hwb hcb); clear hwb hcb HSa
            go_wp2_with fail
            refine (l1Int_any v wb (by omega) (by omega)).mono ?_; rintro e wc ⟨rfl, bc⟩
            have HSc := Lib.hid (st_belowT HSb.out bc); clear bc HSb
            have hsz : (⟨(Lib.itoa v).toArray⟩ : ByteArray).size ≤ 21 := by have := Lib.itoa_length_le v (by omega) (by omega); rw [tx_itoa, tx_size]; exact this
            generalize (⟨(Lib.itoa v).toArray⟩ : ByteArray) = t at *
            have hcat : ¬ 9223372036854775807 < (⟨#[64]⟩ : ByteArray).size + t.size := by show ¬ 9223372036854775807 < 1 + t.size; omega
            have HAT := Lib.hid (at_app t)
            have HL := Lib.hid (lit1 (B := w.heap.size) wc (64 :: t.data.toList) HSc.out.size)
            rw [← HAT.out] at HL
            have HLN := Lib.hid hsz
            go_wp2_with fail
            go_ret
            exact ⟨_, [64 :: t.data.toList], rfl, HL.out, hp, SmT.one (by have := HLN.out; have := llen t; simp only [List.length_cons]; omega), (HSc.out.alloc _).cur, (HSc.out.alloc _).but⟩
          have k2 : (y == 1) = false := by rw [beq_eq_false_iff_ne]; exact e1
          go_wp2_with fail
          refine (drawName_any B b _ HSa.out.cur).mono ?_; rintro e wb ⟨s, rfl, hnm, hcb, hwb⟩
          have HSb := Lib.hid (HSa.out.draws hwb hcb); clear hwb hcb HSa
          obtain ⟨t, rfl⟩ : ∃ t, s = tx t := ⟨_, (tx_of s).symm⟩
          rw [tx_data] at hnm
          have HLN := Lib.hid (nm_len hnm); clear hnm
          have HL := Lib.hid (lit1 (B := w.heap.size) wb t HSb.out.size)
          go_wp2_with fail
          go_ret
          exact ⟨_, [t], rfl, HL.out, hp, SmT.one (by have := HLN.out; omega), (HSb.out.alloc _).cur, (HSb.out.alloc _).but⟩
    · have HLB := Lib.hid (fun o => HS0.out.alloc o)
      have hwc := HS0.out.cur.lt
      go_enter Tryz.func108, Tryz.ntmps108
      go_wp2_with fail
      refine (below_any B b _ _ (HLB.out _).cur (by decide) (by decide)).mono ?_; rintro e w2 ⟨y, rfl, y0, y1, hc2, hw2⟩
      obtain ⟨m, rfl⟩ := Int.eq_ofNat_of_zero_le y0
      obtain ⟨s, hs, c0⟩ := pick_tx (ts := [[60], [60], [61], [38]]) hwc hw2 (k := m) (by simp; omega)
      have hsl := mem_short hs (by decide)
      have HS2 := Lib.hid ((HLB.out _).draws hw2 hc2); clear hw2 hc2 hs HLB HS0
      have hm4 : m < 4 := by omega
      by_cases h38 : s = [38]
      · subst h38
        replace c0 : w2.cell? ⟨w.heap.size, m, none⟩ = some (.string ⟨#[38]⟩) := c0
        by_cases hd1 : 1 < dep
        · have k0 : decide (1 < dep) = true := by simpa using hd1
          have HK := Lib.hid (lit1 (B := w.heap.size) w2 [38] HS2.out.size)
          have HSa := Lib.hid (HS2.out.alloc (.cells #[.string (tx [38])] 9)); clear HS2
          have HC1 := Lib.hid (IH.out 2 (dep - 1) (by omega) (by omega) B b _ HSa.out.cur)
          go_wp2_with fail
          refine HC1.out.mono ?_; rintro e x1 ⟨v1, l1, rfl, o1, n1, s1, hd1, hx1⟩
          have HK1 := Lib.hid (HK.out.but hx1 hlt)
          have HX1 := Lib.hid (HSa.out.draws hx1 hd1); clear hx1 hd1 HSa HK HC1
          obtain ⟨a1, c1, rfl, hv1⟩ := o1.form
          have HV1 := Lib.hid hv1
          have HM1 := Lib.hid s1
          clear o1 hv1 s1
          go_wp2_with (first
            | (at_builtin; refine append_tx rfl (.tmp 26) (.tmp 31) rfl (base := w.heap.size) (l := [[38]]) (m := l1) rfl rfl rfl HK1.out HV1.out (by simp; omega) HX1.out.size ?_; intro v2 x2 o2 g2; have O2 := Lib.hid (And.intro o2 g2); clear o2 g2))
          have HX2 := Lib.hid (HX1.out.grown O2.out.2 (fun k hk => OT.lt HK1.out k hk))
          have HC2 := Lib.hid (IH.out 2 (dep - 1) (by omega) (by omega) B b _ HX2.out.cur)
          refine HC2.out.mono ?_; rintro e x3 ⟨v3, l3, rfl, o3, n3, s3, hd3, hx3⟩
          have HK3 := Lib.hid (O2.out.1.but hx3 hlt)
          have HX3 := Lib.hid (HX2.out.draws hx3 hd3); clear hx3 hd3 HX1 HX2 HC2
          obtain ⟨a3, c3, rfl, hv3⟩ := o3.form
          have HV3 := Lib.hid hv3
          have HM3 := Lib.hid s3
          clear o3 hv3 s3
          go_wp2_with (first
            | (at_builtin; refine append_tx rfl (.tmp 32) (.tmp 37) rfl (base := w.heap.size) (l := [[38]] ++ l1) (m := l3) rfl rfl rfl HK3.out HV3.out (by simp; omega) HX3.out.size ?_; intro v4 x4 o4 g4; have O4 := Lib.hid (And.intro o4 g4); clear o4 g4))
          have HX4 := Lib.hid (HX3.out.grown O4.out.2 (fun k hk => OT.lt HK3.out k hk))
          go_ret
          exact ⟨_, _, rfl, O4.out.1, by simp; omega, ((SmT.one (by decide)).app HM1.out).app HM3.out, HX4.out.cur, HX4.out.but⟩
        · have k0 : decide (1 < dep) = false := by simpa using hd1
          have HK := Lib.hid (lit1 (B := w.heap.size) w2 [60] HS2.out.size)
          have HSa := Lib.hid (HS2.out.alloc (.cells #[.string (tx [60])] 9)); clear HS2
          have HC1 := Lib.hid (IH.out 1 (dep - 1) (by omega) (by omega) B b _ HSa.out.cur)
          go_wp2_with fail
          refine HC1.out.mono ?_; rintro e x1 ⟨v1, l1, rfl, o1, n1, s1, hd1, hx1⟩
          have HK1 := Lib.hid (HK.out.but hx1 hlt)
          have HX1 := Lib.hid (HSa.out.draws hx1 hd1); clear hx1 hd1 HSa HK HC1
          obtain ⟨a1, c1, rfl, hv1⟩ := o1.form
          have HV1 := Lib.hid hv1
          have HM1 := Lib.hid s1
          clear o1 hv1 s1
          go_wp2_with (first
            | (at_builtin; refine append_tx rfl (.tmp 26) (.tmp 31) rfl (base := w.heap.size) (l := [[60]]) (m := l1) rfl rfl rfl HK1.out HV1.out (by simp; omega) HX1.out.size ?_; intro v2 x2 o2 g2; have O2 := Lib.hid (And.intro o2 g2); clear o2 g2))
          have HX2 := Lib.hid (HX1.out.grown O2.out.2 (fun k hk => OT.lt HK1.out k hk))
          have HC2 := Lib.hid (IH.out 1 (dep - 1) (by omega) (by omega) B b _ HX2.out.cur)
          refine HC2.out.mono ?_; rintro e x3 ⟨v3, l3, rfl, o3, n3, s3, hd3, hx3⟩
          have HK3 := Lib.hid (O2.out.1.but hx3 hlt)
          have HX3 := Lib.hid (HX2.out.draws hx3 hd3); clear hx3 hd3 HX1 HX2 HC2
          obtain ⟨a3, c3, rfl, hv3⟩ := o3.form
          have HV3 := Lib.hid hv3
          have HM3 := Lib.hid s3
          clear o3 hv3 s3
          go_wp2_with (first
            | (at_builtin; refine append_tx rfl (.tmp 32) (.tmp 37) rfl (base := w.heap.size) (l := [[60]] ++ l1) (m := l3) rfl rfl rfl HK3.out HV3.out (by simp; omega) HX3.out.size ?_; intro v4 x4 o4 g4; have O4 := Lib.hid (And.intro o4 g4); clear o4 g4))
          have HX4 := Lib.hid (HX3.out.grown O4.out.2 (fun k hk => OT.lt HK3.out k hk))
          go_ret
          exact ⟨_, _, rfl, O4.out.1, by simp; omega, ((SmT.one (by decide)).app HM1.out).app HM3.out, HX4.out.cur, HX4.out.but⟩
      · have q1 := tx_neL h38
        have HK := Lib.hid (lit1 (B := w.heap.size) w2 s HS2.out.size)
        have HSa := Lib.hid (HS2.out.alloc (.cells #[.string (tx s)] 9)); clear HS2
        have HC1 := Lib.hid (IH.out 1 (dep - 1) (by omega) (by omega) B b _ HSa.out.cur)
        go_wp2_with fail
        refine HC1.out.mono ?_; rintro e x1 ⟨v1, l1, rfl, o1, n1, s1, hd1, hx1⟩
        have HK1 := Lib.hid (HK.out.but hx1 hlt)
        have HX1 := Lib.hid (HSa.out.draws hx1 hd1); clear hx1 hd1 HSa HK HC1
        obtain ⟨a1, c1, rfl, hv1⟩ := o1.form
        have HV1 := Lib.hid hv1
        have HM1 := Lib.hid s1
        clear o1 hv1 s1
        go_wp2_with (first
          | (at_builtin; refine append_tx rfl (.tmp 26) (.tmp 31) rfl (base := w.heap.size) (l := [s]) (m := l1) rfl rfl rfl HK1.out HV1.out (by simp; omega) HX1.out.size ?_; intro v2 x2 o2 g2; have O2 := Lib.hid (And.intro o2 g2); clear o2 g2))
        have HX2 := Lib.hid (HX1.out.grown O2.out.2 (fun k hk => OT.lt HK1.out k hk))
        have HC2 := Lib.hid (IH.out 1 (dep - 1) (by omega) (by omega) B b _ HX2.out.cur)
        refine HC2.out.mono ?_; rintro e x3 ⟨v3, l3, rfl, o3, n3, s3, hd3, hx3⟩
        have HK3 := Lib.hid (O2.out.1.but hx3 hlt)
        have HX3 := Lib.hid (HX2.out.draws hx3 hd3); clear hx3 hd3 HX1 HX2 HC2
        obtain ⟨a3, c3, rfl, hv3⟩ := o3.form
        have HV3 := Lib.hid hv3
        have HM3 := Lib.hid s3
        clear o3 hv3 s3
        go_wp2_with (first
          | (at_builtin; refine append_tx rfl (.tmp 32) (.tmp 37) rfl (base := w.heap.size) (l := [s] ++ l1) (m := l3) rfl rfl rfl HK3.out HV3.out (by simp; omega) HX3.out.size ?_; intro v4 x4 o4 g4; have O4 := Lib.hid (And.intro o4 g4); clear o4 g4))
        have HX4 := Lib.hid (HX3.out.grown O4.out.2 (fun k hk => OT.lt HK3.out k hk))
        go_ret
        exact ⟨_, _, rfl, O4.out.1, by simp; omega, ((SmT.one hsl).app HM1.out).app HM3.out, HX4.out.cur, HX4.out.but⟩
end Go.Proofs.YtkhmbmcomgclaaaGreatDoor.Cl
