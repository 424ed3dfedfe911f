/-
  The walk of FnBins at a code that is not too long. (Made by gen_jh.py.)
-/
import Derived.Test.YtcloejmakjdgcaaGreatJg
import Derived.Test.YtcloejmakjdgcaaGreatFr
import Derived.Deep.DeepCutAuto
import Derived.Deep.CutBlock
namespace Go.Proofs.YtcloejmakjdgcaaGreat.Cl
open Go.RowKit Wd Rp Cu Kp Ra
set_option linter.unusedVariables false
theorem Bc.set5 {w : World} {n T : Nat} {z0 z1 z2 z3 z4 : Value} (h : w.heap[n]? = some (.cells #[z0, z1, z2, z3, z4] T (0, 0))) (r b : ByteArray) (t v : Int) (g : Bool) :
    Bc n r b t v g (((((w.setCell ⟨n, 0, none⟩ (.string r)).setCell ⟨n, 1, none⟩ (.string b)).setCell ⟨n, 2, none⟩ (.int .i64 t)).setCell ⟨n, 3, none⟩ (.int .i64 v)).setCell ⟨n, 4, none⟩ (.bool g)) := by
  obtain ⟨y0, y1, y2, y3, y4, -⟩ := five_of h
  have hn := (Array.getElem?_eq_some_iff.1 h).1
  refine ⟨?_, ?_, ?_, ?_, ?_, by simpa using hn⟩ <;> simp [go_sem, y0, y1, y2, y3, y4]
/-- Bins of a call's own, by their slice. -/
theorem OwI.op {B : Nat} {w : World} {v : Value} {l : List Bi} (h : OwI B w v l) : ∃ a n c, v = .slice a n c ∧ OwI B w (.slice a n c) l := by
  obtain ⟨a, c, rfl, -⟩ := h.view
  exact ⟨a, _, c, rfl, h⟩
theorem smI_mod {l : List Bi} (h : SmI l) : ∀ c ∈ l, c.n.size ≤ 9223372036854775806 := fun c hc => by have := h c hc; omega
theorem drawBR {w : World} {a : Option Addr} {len cap : Nat} (hb : IsBytes w a len) (hl : len ≤ 4096) : Calls Tryz.prog 5 #[.slice a len cap] w fun e w' => ∃ ha hn hc sa sn sc h ss r t, e = .returned (.tuple #[.agg #[.slice ha hn hc, .slice sa sn sc], .string r, .int .i64 t]) ∧ OwB w.heap.size w' (.slice ha hn hc) (.slice sa sn sc) h ss ∧ Stor h ss ∧ r.size ≤ 9 ∧ Below w.heap.size w w' := by
  refine (drawBinsOf_any w a len cap hb hl).mono ?_; rintro e w' ⟨hv, sv, h, ss, r, t, rfl, o, s, hr, b⟩
  obtain ⟨ha, hc, sa, sc, hs, rfl, rfl, -, -⟩ := o.view
  exact ⟨ha, _, hc, sa, _, sc, h, ss, r, t, rfl, o, s, hr, b⟩
theorem drawSB {w : World} {a : Option Addr} {len cap : Nat} (hb : IsBytes w a len) (hl : len ≤ 4096) : Calls Tryz.prog 7 #[.slice a len cap] w fun e w' => ∃ qa qn qc q s x, e = .returned (.tuple #[.slice qa qn qc, .string s, .int .i64 x]) ∧ OwI w.heap.size w' (.slice qa qn qc) q ∧ qn ≤ 20 ∧ SmI q ∧ s.size ≤ 9 ∧ Below w.heap.size w w' := by
  refine (drawSetB_any w a len cap hb hl).mono ?_; rintro e w' ⟨v, q, s, x, rfl, o, hq, hm, hs, b⟩
  obtain ⟨qa, qn, qc, rfl, o'⟩ := o.op
  exact ⟨qa, qn, qc, q, s, x, rfl, o', by rw [← o'.len]; exact hq, hm, hs, b⟩
theorem drawCB {w : World} {a : Option Addr} {len cap : Nat} (hb : IsBytes w a len) (hl : len ≤ 4096) : Calls Tryz.prog 9 #[.slice a len cap] w fun e w' => ∃ qa qn qc q s, e = .returned (.tuple #[.slice qa qn qc, .string s]) ∧ OwI w.heap.size w' (.slice qa qn qc) q ∧ qn ≤ 20 ∧ SmI q ∧ s.size ≤ 9 ∧ Below w.heap.size w w' := by
  refine (drawCutB_any w a len cap hb hl).mono ?_; rintro e w' ⟨v, q, s, rfl, o, hq, hm, hs, b⟩
  obtain ⟨qa, qn, qc, rfl, o'⟩ := o.op
  exact ⟨qa, qn, qc, q, s, rfl, o', by rw [← o'.len]; exact hq, hm, hs, b⟩
section
variable {B : Nat} {w : World} {hv sv : Value} {h : List Cel} {ss : List (List Cel)} {l q x : List Bi} {R s : ByteArray} {T v : Int} {is : Bool} {a : Option Addr} {n c : Nat}
theorem bnI (hl : bnP h ss R T = l) (w : World) (o : OwB B w hv sv h ss) (st : Stor h ss) : Calls Tryz.prog 6 #[.agg #[hv, sv], .string R, .int .i64 T] w fun e w' => ∃ la ln lc, e = .returned (.slice la ln lc) ∧ OwI w.heap.size w' (.slice la ln lc) l ∧ Below w.heap.size w w' := by
  refine (implBinsOfO R T w o st.low).mono ?_; rintro e w' ⟨u, rfl, o', b⟩
  rw [hl] at o'
  obtain ⟨la, ln, lc, rfl, o'⟩ := o'.op
  exact ⟨la, ln, lc, rfl, o', b⟩
theorem bnS (hl : bnP h ss R T = l) (w : World) (o : OwB B w hv sv h ss) (st : Stor h ss) (hR : R.size ≤ 9) : Calls Tryz.prog 13 #[.agg #[hv, sv], .string R, .int .i64 T] w fun e w' => ∃ la ln lc, e = .returned (.slice la ln lc) ∧ OwI w.heap.size w' (.slice la ln lc) l ∧ Below w.heap.size w w' := by
  refine (specBins_any R T w o st.low st.mod (by omega)).mono ?_; rintro e w' ⟨u, rfl, o', b⟩
  rw [hl] at o'
  obtain ⟨la, ln, lc, rfl, o'⟩ := o'.op
  exact ⟨la, ln, lc, rfl, o', b⟩
theorem stI' (hp : sbP q s v = (x, is)) (w : World) (o : OwI B w (.slice a n c) q) (hn : n ≤ 20) : Calls Tryz.prog 8 #[.slice a n c, .string s, .int .i64 v] w fun e w' => ∃ la ln lc, e = .returned (.tuple #[.slice la ln lc, .bool is]) ∧ OwI w.heap.size w' (.slice la ln lc) x ∧ Below w.heap.size w w' := by
  refine (implSet_any w a c q n s v o.len o.vw (by omega)).mono ?_; rintro e w' ⟨u, rfl, o', b⟩
  rw [hp] at o'
  obtain ⟨la, ln, lc, rfl, o'⟩ := o'.op
  exact ⟨la, ln, lc, by rw [hp], o', b⟩
theorem stS' (hp : sbP q s v = (x, is)) (w : World) (o : OwI B w (.slice a n c) q) (hn : n ≤ 20) (hm : SmI q) (hs : s.size ≤ 9) : Calls Tryz.prog 11 #[.slice a n c, .string s, .int .i64 v] w fun e w' => ∃ la ln lc, e = .returned (.tuple #[.slice la ln lc, .bool is]) ∧ OwI w.heap.size w' (.slice la ln lc) x ∧ Below w.heap.size w w' := by
  refine (specSet_any w a c q n s v o.len o.vw (smI_mod hm) (by omega) (by omega)).mono ?_; rintro e w' ⟨u, rfl, o', b⟩
  rw [hp] at o'
  obtain ⟨la, ln, lc, rfl, o'⟩ := o'.op
  exact ⟨la, ln, lc, by rw [hp], o', b⟩
theorem cuI (hp : cbP q s = x) (w : World) (o : OwI B w (.slice a n c) q) (hn : n ≤ 20) : Calls Tryz.prog 10 #[.slice a n c, .string s] w fun e w' => ∃ la ln lc, e = .returned (.slice la ln lc) ∧ OwI w.heap.size w' (.slice la ln lc) x ∧ Below w.heap.size w w' := by
  refine (implCut_any w a c q n s o.len o.vw (by omega)).mono ?_; rintro e w' ⟨u, rfl, o', b⟩
  rw [hp] at o'
  obtain ⟨la, ln, lc, rfl, o'⟩ := o'.op
  exact ⟨la, ln, lc, rfl, o', b⟩
theorem cuS (hp : cbP q s = x) (w : World) (o : OwI B w (.slice a n c) q) (hn : n ≤ 20) (hm : SmI q) : Calls Tryz.prog 14 #[.slice a n c, .string s] w fun e w' => ∃ la ln lc, e = .returned (.slice la ln lc) ∧ OwI w.heap.size w' (.slice la ln lc) x ∧ Below w.heap.size w w' := by
  refine (specCut_any w a c q n s o.len o.vw (smI_mod hm) (by omega)).mono ?_; rintro e w' ⟨u, rfl, o', b⟩
  rw [hp] at o'
  obtain ⟨la, ln, lc, rfl, o'⟩ := o'.op
  exact ⟨la, ln, lc, rfl, o', b⟩
theorem vaI {u : Int} {t : Bool} (hp : valL s q = (u, t)) (w : World) (o : OwI B w (.slice a n c) q) (hn : n ≤ 40) : Calls Tryz.prog 18 #[.slice a n c, .string s] w fun e w' => e = .returned (.tuple #[.int .i64 u, .bool t]) ∧ Below w.heap.size w w' := by
  have := implValue_any w a c q n s o.len o.vw (by omega)
  rw [hp] at this; exact this
theorem fdS {K d : Cel} {fb : Bool} (hf : fdP h ss K = (d, fb)) (w : World) (o : OwB B w hv sv h ss) (st : Stor h ss) (hK : K.mod) :
    Calls Tryz.prog 17 #[.agg #[hv, sv], .string K.r, .string K.b, .int .i64 K.t] w fun e w' => e = .returned (.tuple #[.agg #[.string d.r, .string d.b, .int .i64 d.t, .int .i64 d.v, .bool d.g], .bool fb]) ∧ Below w.heap.size w w' := by
  have := specFindO K w o st.low st.mod hK
  rw [hf] at this; exact this
end
theorem sb_len {q x : List Bi} {s : ByteArray} {v : Int} {is : Bool} (h : sbP q s v = (x, is)) (hq : q.length ≤ 20) : x.length ≤ 40 := by
  rcases sb_cases q s v with ⟨-, h2⟩ | ⟨-, h2⟩ | ⟨-, h2, h3⟩ <;> rw [h] at h2 <;> cases h2
  · simp
  · omega
  · have := (okI_iff.1 h3).1; omega
theorem cb_len {q x : List Bi} {s : ByteArray} (h : cbP q s = x) (hq : q.length ≤ 20) : x.length ≤ 40 := by
  subst h
  cases hok : okI q with
  | false => rw [cbP_no hok]; simp
  | true => rw [cbP_yes hok]; unfold ctI behI; rw [List.length_append, List.length_take, List.length_drop]; omega
set_option maxHeartbeats 16000000 in
set_option maxRecDepth 100000 in
theorem bins_small (w : World) (a0 : Option Addr) (len0 cap0 : Nat) (hb : IsBytes w a0 len0) (hl : len0 ≤ 4096) :
    Calls Tryz.prog 3 #[.slice a0 len0 cap0] w fun e w' => e = .returned (.bool true) ∧ Below w.heap.size w w' := by
  have HB := Lib.hid hb; clear hb
  go_enter Tryz.func3, Tryz.ntmps3
  go_wp2_with fail
  refine (big_no w a0 len0 cap0 hl).mono ?_; rintro e wx ⟨rfl, rfl⟩
  go_wp2_with fail
  refine (drawBR HB.out hl).mono ?_; rintro e w1 ⟨ha, hn, hc, sa, sn, sc, h, ss, R, T, rfl, o1, s1, hR, b1⟩
  have HM := Lib.hid (And.intro s1 hR)
  have OB := Lib.hid (o1.next (bel1 w1 (.cells #[.slice ha hn hc, .slice sa sn sc] 27)))
  have KX := Lib.hid (Bb.made (.slice ha hn hc) (.slice sa sn sc) w1 27)
  have B := Lib.hid (bel_tr b1 (bel1 w1 (.cells #[.slice ha hn hc, .slice sa sn sc] 27)) (Nat.le_refl _))
  clear o1 s1 b1 hR
  obtain ⟨l, hbl⟩ : ∃ l, bnP h ss R T = l := ⟨_, rfl⟩
  have HBL := Lib.hid hbl; clear hbl
  go_wp2_with fail
  generalize w1.alloc (.cells #[.slice ha hn hc, .slice sa sn sc] 27) = w2 at *
  generalize w1.heap.size = p1 at *
  refine (bnI HBL.out w2 OB.out HM.out.1).mono ?_; rintro e w3 ⟨la, ln, lc, rfl, o, bn⟩
  have OB := Lib.hid (OB.out.next bn)
  have KX := Lib.hid (KX.out.next bn)
  have B := Lib.hid (bel_tr B.out bn (Nat.le_refl _)); clear bn
  have OL := Lib.hid o; clear o
  go_wp2_with fail
  refine (drawSB (isBytes_nx HB.out B.out) hl).mono ?_; rintro e w4 ⟨qa, qn, qc, q, nm, v, rfl, o, hq, hm, hs, bn⟩
  have OB := Lib.hid (OB.out.next bn)
  have KX := Lib.hid (KX.out.next bn)
  have OL := Lib.hid (OL.out.next bn)
  have B := Lib.hid (bel_tr B.out bn (Nat.le_refl _)); clear bn
  have OQ := Lib.hid o; clear o
  have HQ := Lib.hid (And.intro hq (And.intro hm hs)); clear hq hm hs
  obtain ⟨x, is, hsb⟩ : ∃ x is, sbP q nm v = (x, is) := ⟨_, _, rfl⟩
  have HSB := Lib.hid hsb; clear hsb
  go_wp2_with fail
  refine (stI' HSB.out w4 OQ.out HQ.out.1).mono ?_; rintro e w5 ⟨xa, xn, xc, rfl, o, bn⟩
  have OB := Lib.hid (OB.out.next bn)
  have KX := Lib.hid (KX.out.next bn)
  have OL := Lib.hid (OL.out.next bn)
  have OQ := Lib.hid (OQ.out.next bn)
  have B := Lib.hid (bel_tr B.out bn (Nat.le_refl _)); clear bn
  have OX := Lib.hid o; clear o
  go_wp2_with fail
  refine (drawCB (isBytes_nx HB.out B.out) hl).mono ?_; rintro e w6 ⟨ra, rn, rc, r, gn, rfl, o, hq, hm, hs, bn⟩
  have OB := Lib.hid (OB.out.next bn)
  have KX := Lib.hid (KX.out.next bn)
  have OL := Lib.hid (OL.out.next bn)
  have OQ := Lib.hid (OQ.out.next bn)
  have OX := Lib.hid (OX.out.next bn)
  have B := Lib.hid (bel_tr B.out bn (Nat.le_refl _)); clear bn
  have OR := Lib.hid o; clear o
  have HR := Lib.hid (And.intro hq (And.intro hm hs)); clear hq hm hs
  obtain ⟨y, hcb⟩ : ∃ y, cbP r gn = y := ⟨_, rfl⟩
  have HCB := Lib.hid hcb; clear hcb
  go_wp2_with fail
  refine (cuI HCB.out w6 OR.out HR.out.1).mono ?_; rintro e w7 ⟨ya, yn, yc, rfl, o, bn⟩
  have OB := Lib.hid (OB.out.next bn)
  have KX := Lib.hid (KX.out.next bn)
  have OL := Lib.hid (OL.out.next bn)
  have OQ := Lib.hid (OQ.out.next bn)
  have OX := Lib.hid (OX.out.next bn)
  have OR := Lib.hid (OR.out.next bn)
  have B := Lib.hid (bel_tr B.out bn (Nat.le_refl _)); clear bn
  have OY := Lib.hid o; clear o
  go_wp2_with fail
  refine (stS' HSB.out w7 OQ.out HQ.out.1 HQ.out.2.1 HQ.out.2.2).mono ?_; rintro e w8 ⟨za, zn, zc, rfl, o, bn⟩
  have OB := Lib.hid (OB.out.next bn)
  have KX := Lib.hid (KX.out.next bn)
  have OL := Lib.hid (OL.out.next bn)
  have OQ := Lib.hid (OQ.out.next bn)
  have OX := Lib.hid (OX.out.next bn)
  have OR := Lib.hid (OR.out.next bn)
  have OY := Lib.hid (OY.out.next bn)
  have B := Lib.hid (bel_tr B.out bn (Nat.le_refl _)); clear bn
  have OZ := Lib.hid o; clear o
  have HXN := Lib.hid (show xn ≤ 40 from by rw [← OX.out.len]; exact sb_len HSB.out (by rw [OQ.out.len]; exact HQ.out.1))
  have HYN := Lib.hid (show yn ≤ 40 from by rw [← OY.out.len]; exact cb_len HCB.out (by rw [OR.out.len]; exact HR.out.1))
  have HLN := Lib.hid (show ln ≤ 12 from by rw [← OL.out.len, ← HBL.out]; exact bn_len h ss R T)
  obtain ⟨ok, hok⟩ : ∃ ok, okI q = ok := ⟨_, rfl⟩
  have HOK := Lib.hid hok; clear hok
  have n1 : (is != is) = false := by simp
  have n2 : (ok != ok) = false := by simp
  go_wp2_with fail
  refine (likeI_own w8 OX.out OZ.out (by have := OX.out.len; have := HXN.out; omega)).mono ?_; rintro e w9 ⟨rfl, bn⟩
  have OB := Lib.hid (OB.out.next bn)
  have KX := Lib.hid (KX.out.next bn)
  have OL := Lib.hid (OL.out.next bn)
  have OQ := Lib.hid (OQ.out.next bn)
  have OX := Lib.hid (OX.out.next bn)
  have OR := Lib.hid (OR.out.next bn)
  have OY := Lib.hid (OY.out.next bn)
  have OZ := Lib.hid (OZ.out.next bn)
  have B := Lib.hid (bel_tr B.out bn (Nat.le_refl _)); clear bn
  clear OZ
  obtain ⟨k0, k1, -, -, -⟩ := id KX.out
  go_wp2_with fail
  refine (bnS HBL.out w9 OB.out HM.out.1 HM.out.2).mono ?_; rintro e w10 ⟨za, zn, zc, rfl, o, bn⟩
  have OB := Lib.hid (OB.out.next bn)
  have KX := Lib.hid (KX.out.next bn)
  have OL := Lib.hid (OL.out.next bn)
  have OQ := Lib.hid (OQ.out.next bn)
  have OX := Lib.hid (OX.out.next bn)
  have OR := Lib.hid (OR.out.next bn)
  have OY := Lib.hid (OY.out.next bn)
  have B := Lib.hid (bel_tr B.out bn (Nat.le_refl _)); clear bn
  have OZ := Lib.hid o; clear o
  clear k0 k1
  go_wp2_with fail
  refine (likeI_own w10 OL.out OZ.out (by have := OL.out.len; have := HLN.out; omega)).mono ?_; rintro e w11 ⟨rfl, bn⟩
  have OB := Lib.hid (OB.out.next bn)
  have KX := Lib.hid (KX.out.next bn)
  have OL := Lib.hid (OL.out.next bn)
  have OQ := Lib.hid (OQ.out.next bn)
  have OX := Lib.hid (OX.out.next bn)
  have OR := Lib.hid (OR.out.next bn)
  have OY := Lib.hid (OY.out.next bn)
  have OZ := Lib.hid (OZ.out.next bn)
  have B := Lib.hid (bel_tr B.out bn (Nat.le_refl _)); clear bn
  clear OZ
  go_wp2_with fail
  refine (cuS HCB.out w11 OR.out HR.out.1 HR.out.2.1).mono ?_; rintro e w12 ⟨za, zn, zc, rfl, o, bn⟩
  have OB := Lib.hid (OB.out.next bn)
  have KX := Lib.hid (KX.out.next bn)
  have OL := Lib.hid (OL.out.next bn)
  have OQ := Lib.hid (OQ.out.next bn)
  have OX := Lib.hid (OX.out.next bn)
  have OR := Lib.hid (OR.out.next bn)
  have OY := Lib.hid (OY.out.next bn)
  have B := Lib.hid (bel_tr B.out bn (Nat.le_refl _)); clear bn
  have OZ := Lib.hid o; clear o
  go_wp2_with fail
  refine (likeI_own w12 OY.out OZ.out (by have := OY.out.len; have := HYN.out; omega)).mono ?_; rintro e w13 ⟨rfl, bn⟩
  have OB := Lib.hid (OB.out.next bn)
  have KX := Lib.hid (KX.out.next bn)
  have OL := Lib.hid (OL.out.next bn)
  have OQ := Lib.hid (OQ.out.next bn)
  have OX := Lib.hid (OX.out.next bn)
  have OR := Lib.hid (OR.out.next bn)
  have OY := Lib.hid (OY.out.next bn)
  have OZ := Lib.hid (OZ.out.next bn)
  have B := Lib.hid (bel_tr B.out bn (Nat.le_refl _)); clear bn
  clear OZ
  go_wp2_with fail
  refine (implBins_is HOK.out w13 qa qc qn OQ.out.len OQ.out.vw (by have := HQ.out.1; omega)).mono ?_; rintro e w14 ⟨rfl, bn⟩
  have OB := Lib.hid (OB.out.next bn)
  have KX := Lib.hid (KX.out.next bn)
  have OL := Lib.hid (OL.out.next bn)
  have OQ := Lib.hid (OQ.out.next bn)
  have OX := Lib.hid (OX.out.next bn)
  have OR := Lib.hid (OR.out.next bn)
  have OY := Lib.hid (OY.out.next bn)
  have B := Lib.hid (bel_tr B.out bn (Nat.le_refl _)); clear bn
  go_wp2_with fail
  refine (specBins2_is HOK.out w14 qa qc qn OQ.out.len OQ.out.vw (smI_mod HQ.out.2.1) (by have := HQ.out.1; omega)).mono ?_; rintro e w15 ⟨rfl, bn⟩
  have OB := Lib.hid (OB.out.next bn)
  have KX := Lib.hid (KX.out.next bn)
  have OL := Lib.hid (OL.out.next bn)
  have OQ := Lib.hid (OQ.out.next bn)
  have OX := Lib.hid (OX.out.next bn)
  have OR := Lib.hid (OR.out.next bn)
  have OY := Lib.hid (OY.out.next bn)
  have B := Lib.hid (bel_tr B.out bn (Nat.le_refl _)); clear bn
  go_wp2_with fail
  go_loopw [17] (fun i wr => ∃ k : Nat, k ≤ ln ∧ i = .int .i64 k ∧ Below w15.heap.size w15 wr) (fun i _ => ln - intV i)
  case atStart => exact ⟨0, Nat.zero_le _, rfl, Below.refl _ _⟩
  case round =>
    obtain ⟨k, hk, rfl, hbel⟩ := hrel
    have HW := Lib.hid hbel; clear hbel n1 n2
    by_cases hlt : k < ln
    · obtain ⟨c, hcl⟩ : ∃ c, l[k]? = some c := ⟨l[k]'(by have := OL.out.len; omega), List.getElem?_eq_getElem _⟩
      obtain ⟨d, hf, hd1, hd2⟩ := bin_found (h := h) (ss := ss) (R := R) (T := T) (c := c) (by rw [HBL.out]; exact List.mem_of_getElem? hcl)
      have HF := Lib.hid (show ∀ z, Below wr.heap.size wr z → Calls Tryz.prog 17 #[.agg #[.slice ha hn hc, .slice sa sn sc], .string R, .string c.n, .int .i64 T] z fun e w' => e = .returned (.tuple #[.agg #[.string d.r, .string d.b, .int .i64 d.t, .int .i64 d.v, .bool d.g], .bool true]) ∧ Below z.heap.size z w' from fun z hz => fdS (K := ⟨R, c.n, T, 0, false⟩) hf z ((OB.out.next HW.out).next hz) HM.out.1 ⟨by have := HM.out.2; show R.size ≤ _; omega, by have := bn_small (h := h) (ss := ss) (R := R) (T := T) (c := c) (by rw [HBL.out]; exact List.mem_of_getElem? hcl); show c.n.size ≤ _; omega⟩)
      have HD := Lib.hid (And.intro hd1 hd2); clear hf hd1 hd2
      obtain ⟨g, o, rfl, hg, h2⟩ := OL.out.vw.2.2.2 k c hcl
      obtain ⟨c0, c1⟩ : At2 wr g (o + k * 2) c := h2.same (HW.out.block g hg)
      have hg' : g < wr.heap.size := Nat.lt_of_lt_of_le hg HW.out.size
      obtain ⟨k0, k1, -, -, hp1⟩ := KX.out.next HW.out
      clear hcl h2 hg
      have i1 : (k : Int) < (ln : Int) := by omega
      have i3 : ln ≤ 12 := HLN.out
      go_upto_region 15 with fail
      go_cut [18, 19] (fun sp sb wx => ∃ q, sp = .pointer (some ⟨q, 0, none⟩) ∧ sb = .bool true ∧ Bc q d.r d.b d.t d.v d.g wx ∧ Below wr.heap.size wr wx)
      case first =>
        have SOA := Lib.hid (show ∀ z, Below wr.heap.size wr z → (z.cell? ⟨p1, 0, none⟩ = some (.slice ha hn hc) ∧ z.cell? ⟨p1, 1, none⟩ = some (.slice sa sn sc) ∧ z.cell? ⟨g, o + k * 2, none⟩ = some (.string c.n) ∧ z.cell? ⟨g, o + k * 2 + 1, none⟩ = some (.int .i64 c.v) ∧ Below wr.heap.size wr z) from fun z hz => ⟨coc hz hp1 k0, coc hz hp1 k1, coc hz hg' c0, coc hz hg' c1,  hz⟩)
        clear k0 k1 c0 c1
        refine wp_region_held_drew (S := fun z => z.cell? ⟨p1, 0, none⟩ = some (.slice ha hn hc) ∧ z.cell? ⟨p1, 1, none⟩ = some (.slice sa sn sc) ∧ z.cell? ⟨g, o + k * 2, none⟩ = some (.string c.n) ∧ z.cell? ⟨g, o + k * 2 + 1, none⟩ = some (.int .i64 c.v) ∧ Below wr.heap.size wr z) (by kernel_rfl) (SOA.out _ (Below.refl _ _).drew) (fun hHeld => ?_)
        refine wpAnyH_take (i := 0) (v := ?v0A) rfl (by kernel_rfl) (by kernel_rfl) (by kernel_rfl) (fun _ _ _ h => h) (Or.inl ⟨by rfl, ?hy0A⟩) (by assumption) ?rest0A
        case hy0A => (intro zz hSw; (try dsimp only at hSw); go_simp; (try with_reducible rfl))
        change wpAnyH _ _ _ _ _ _ _ (Act.put _ (some 108) _) _
        simp only [Act.put, List.setIfInBounds_toArray, List.set_cons_zero, List.set_cons_succ]
        refine wpAnyH_take (i := 1) (v := ?v1A) rfl (by kernel_rfl) (by kernel_rfl) (by kernel_rfl) (fun _ _ _ h => h) (Or.inl ⟨by rfl, ?hy1A⟩) (by assumption) ?rest1A
        case hy1A => (intro zz hSw; (try dsimp only at hSw); go_simp; (try with_reducible rfl))
        change wpAnyH _ _ _ _ _ _ _ (Act.put _ (some 109) _) _
        simp only [Act.put, List.setIfInBounds_toArray, List.set_cons_zero, List.set_cons_succ]
        refine wpAnyH_take (i := 2) (v := ?v2A) rfl (by kernel_rfl) (by kernel_rfl) (by kernel_rfl) (fun _ _ _ h => h) (Or.inl ⟨by rfl, ?hy2A⟩) (by assumption) ?rest2A
        case hy2A => (intro zz hSw; (try dsimp only at hSw); go_simp; (try with_reducible rfl))
        change wpAnyH _ _ _ _ _ _ _ (Act.put _ (some 110) _) _
        simp only [Act.put, List.setIfInBounds_toArray, List.set_cons_zero, List.set_cons_succ]
        refine wpAnyH_take (i := 3) (v := ?v3A) rfl (by kernel_rfl) (by kernel_rfl) (by kernel_rfl) (fun _ _ _ h => h) (Or.inl ⟨by rfl, ?hy3A⟩) (by assumption) ?rest3A
        case hy3A => (intro zz hSw; (try dsimp only at hSw); go_simp; (try with_reducible rfl))
        change wpAnyH _ _ _ _ _ _ _ (Act.put _ (some 111) _) _
        simp only [Act.put, List.setIfInBounds_toArray, List.set_cons_zero, List.set_cons_succ]
        refine wpAnyH_take (i := 4) (v := ?v4A) rfl (by kernel_rfl) (by kernel_rfl) (by kernel_rfl) (fun _ _ _ h => h) (Or.inl ⟨by rfl, ?hy4A⟩) (by assumption) ?rest4A
        case hy4A => (intro zz hSw; (try dsimp only at hSw); go_simp; (try with_reducible rfl))
        change wpAnyH _ _ _ _ _ _ _ (Act.put _ (some 112) _) _
        simp only [Act.put, List.setIfInBounds_toArray, List.set_cons_zero, List.set_cons_succ]
        refine wpAnyH_take (i := 5) (v := ?v5A) rfl (by kernel_rfl) (by kernel_rfl) (by kernel_rfl) (fun _ _ _ h => h) (Or.inl ⟨by rfl, ?hy5A⟩) (by assumption) ?rest5A
        case hy5A => (intro zz hSw; (try dsimp only at hSw); go_simp; (try with_reducible rfl))
        change wpAnyH _ _ _ _ _ _ _ (Act.put _ (some 113) _) _
        simp only [Act.put, List.setIfInBounds_toArray, List.set_cons_zero, List.set_cons_succ]
        refine wpAnyH_take (i := 6) (v := ?v6A) rfl (by kernel_rfl) (by kernel_rfl) (by kernel_rfl) (fun _ _ _ h => h) (Or.inl ⟨by rfl, ?hy6A⟩) (by assumption) ?rest6A
        case hy6A => (intro zz hSw; (try dsimp only at hSw); go_simp; (try with_reducible rfl))
        change wpAnyH _ _ _ _ _ _ _ (Act.put _ (some 114) _) _
        simp only [Act.put, List.setIfInBounds_toArray, List.set_cons_zero, List.set_cons_succ]
        refine wpAnyH_take (i := 7) (v := ?v7A) rfl (by kernel_rfl) (by kernel_rfl) (by kernel_rfl) (fun _ _ _ h => h) (Or.inl ⟨by rfl, ?hy7A⟩) (by assumption) ?rest7A
        case hy7A => (intro zz hSw; (try dsimp only at hSw); go_simp; (try with_reducible rfl))
        change wpAnyH _ _ _ _ _ _ _ (Act.put _ (some 115) _) _
        simp only [Act.put, List.setIfInBounds_toArray, List.set_cons_zero, List.set_cons_succ]
        refine wpAnyH_ready (rs := [8, 12]) (by kernel_rfl) (by simp) (AllReadyH.cons rfl (fun K hK => ?_) (AllReadyH.cons rfl (fun K hK => ?_) (AllReadyH.nil)))
        · skip
          go_simp
          refine (HF.out _ hHeld.2.2.2.2).mono ?_; rintro _ w7 ⟨rfl, bel⟩
          have BX7 := Lib.hid (bel_tr hHeld.2.2.2.2 bel (Nat.le_refl _))
          refine hK.out _ _ (SOA.out _ BX7.out) (fun hHeld => ?_)
          clear hK K bel
          refine wpAnyH_take (i := 9) (v := ?v9Ax) rfl (by kernel_rfl) (by kernel_rfl) (by kernel_rfl) (fun _ _ _ h => h) (Or.inl ⟨by rfl, ?hy9Ax⟩) (by assumption) ?rest9Ax
          case hy9Ax => (intro zz hSw; (try dsimp only at hSw); go_simp; (try with_reducible rfl))
          change wpAnyH _ _ _ _ _ _ _ (Act.put _ (some 107) _) _
          simp only [Act.put, List.setIfInBounds_toArray, List.set_cons_zero, List.set_cons_succ]
          refine wpAnyH_take (i := 10) (v := ?v10Ax) rfl (by kernel_rfl) (by kernel_rfl) (by kernel_rfl) (fun _ _ _ h => h) (Or.inl ⟨by rfl, ?hy10Ax⟩) (by assumption) ?rest10Ax
          case hy10Ax => (intro zz hSw; (try dsimp only at hSw); go_simp; (try with_reducible rfl))
          change wpAnyH _ _ _ _ _ _ _ (Act.put _ (some 117) _) _
          simp only [Act.put, List.setIfInBounds_toArray, List.set_cons_zero, List.set_cons_succ]
          refine wpAnyH_take (i := 11) (v := ?v11Ax) rfl (by kernel_rfl) (by kernel_rfl) (by kernel_rfl) (fun _ _ _ h => h) (Or.inl ⟨by rfl, ?hy11Ax⟩) (by assumption) ?rest11Ax
          case hy11Ax => (intro zz hSw; (try dsimp only at hSw); go_simp; (try with_reducible rfl))
          change wpAnyH _ _ _ _ _ _ _ (Act.put _ (some 118) _) _
          simp only [Act.put, List.setIfInBounds_toArray, List.set_cons_zero, List.set_cons_succ]
          refine wpAnyH_ready (rs := [12]) (by kernel_rfl) (by simp) (AllReadyH.cons rfl (fun K hK => ?_) (AllReadyH.nil))
          go_simp
          refine hK.out _ _ (SOA.out _ (BX7.out.alloc BX7.out.size _)) (fun hHeld => ?_)
          clear hK K
          refine wpAnyH_ready (rs := [13]) (by kernel_rfl) (by simp) (AllReadyH.cons rfl (fun K hK => ?_) (AllReadyH.nil))
          go_simp
          refine hK.out _ _ (SOA.out _ (BX7.out.alloc BX7.out.size _)) (fun hHeld => ?_)
          clear hK K
          refine wpAnyH_take (i := 14) (v := ?v14Ax) rfl (by kernel_rfl) (by kernel_rfl) (by kernel_rfl) (fun _ _ _ h => h) (Or.inl ⟨by rfl, ?hy14Ax⟩) (by assumption) ?rest14Ax
          case hy14Ax => (intro zz hSw; (try dsimp only at hSw); go_simp; (try with_reducible rfl))
          change wpAnyH _ _ _ _ _ _ _ (Act.put _ (some 19) _) _
          simp only [Act.put, List.setIfInBounds_toArray, List.set_cons_zero, List.set_cons_succ]
          refine wpAnyH_done (by kernel_rfl) ?_ _
          go_wp2_with fail
          go_meet
          exact ⟨w7.heap.size, rfl, rfl, Bc.made _ _ _ _ _ w7 _, BX7.out.alloc BX7.out.size _⟩
        · skip
          go_simp
          refine hK.out _ _ (SOA.out _ ((Below.refl _ _).alloc (Nat.le_refl _) _).drew) (fun hHeld => ?_)
          clear hK K
          refine wpAnyH_ready (rs := [8]) (by kernel_rfl) (by simp) (AllReadyH.cons rfl (fun K hK => ?_) (AllReadyH.nil))
          go_simp
          refine (HF.out _ hHeld.2.2.2.2).mono ?_; rintro _ w7 ⟨rfl, bel⟩
          have BX7 := Lib.hid (bel_tr hHeld.2.2.2.2 bel (Nat.le_refl _))
          have E7 := Lib.hid ((bel.block wr.heap.size (by simp)).trans (World.alloc_heap_new wr _))
          refine hK.out _ _ (SOA.out _ BX7.out) (fun hHeld => ?_)
          clear hK K bel
          refine wpAnyH_take (i := 9) (v := ?v9Ay) rfl (by kernel_rfl) (by kernel_rfl) (by kernel_rfl) (fun _ _ _ h => h) (Or.inl ⟨by rfl, ?hy9Ay⟩) (by assumption) ?rest9Ay
          case hy9Ay => (intro zz hSw; (try dsimp only at hSw); go_simp; (try with_reducible rfl))
          change wpAnyH _ _ _ _ _ _ _ (Act.put _ (some 107) _) _
          simp only [Act.put, List.setIfInBounds_toArray, List.set_cons_zero, List.set_cons_succ]
          refine wpAnyH_take (i := 10) (v := ?v10Ay) rfl (by kernel_rfl) (by kernel_rfl) (by kernel_rfl) (fun _ _ _ h => h) (Or.inl ⟨by rfl, ?hy10Ay⟩) (by assumption) ?rest10Ay
          case hy10Ay => (intro zz hSw; (try dsimp only at hSw); go_simp; (try with_reducible rfl))
          change wpAnyH _ _ _ _ _ _ _ (Act.put _ (some 117) _) _
          simp only [Act.put, List.setIfInBounds_toArray, List.set_cons_zero, List.set_cons_succ]
          refine wpAnyH_take (i := 11) (v := ?v11Ay) rfl (by kernel_rfl) (by kernel_rfl) (by kernel_rfl) (fun _ _ _ h => h) (Or.inl ⟨by rfl, ?hy11Ay⟩) (by assumption) ?rest11Ay
          case hy11Ay => (intro zz hSw; (try dsimp only at hSw); go_simp; (try with_reducible rfl))
          change wpAnyH _ _ _ _ _ _ _ (Act.put _ (some 118) _) _
          simp only [Act.put, List.setIfInBounds_toArray, List.set_cons_zero, List.set_cons_succ]
          refine wpAnyH_ready (rs := [13]) (by kernel_rfl) (by simp) (AllReadyH.cons rfl (fun K hK => ?_) (AllReadyH.nil))
          obtain ⟨y0, y1, y2, y3, y4, f0, f1, f2, f3, f4⟩ := five_of E7.out
          have XB := Lib.hid (Bc.set5 E7.out d.r d.b d.t d.v d.g)
          have BB := Lib.hid (bel_set5 BX7.out (Nat.le_refl _) (.string d.r) (.string d.b) (.int .i64 d.t) (.int .i64 d.v) (.bool d.g))
          generalize hq9 : wr.heap.size = q9 at y0 y1 y2 y3 y4 f0 f1 f2 f3 f4 XB BB ⊢
          go_simp
          subst hq9
          refine hK.out _ _ (SOA.out _ BB.out) (fun hHeld => ?_)
          clear hK K y0 y1 y2 y3 y4 f0 f1 f2 f3 f4
          refine wpAnyH_take (i := 14) (v := ?v14Ay) rfl (by kernel_rfl) (by kernel_rfl) (by kernel_rfl) (fun _ _ _ h => h) (Or.inl ⟨by rfl, ?hy14Ay⟩) (by assumption) ?rest14Ay
          case hy14Ay => (intro zz hSw; (try dsimp only at hSw); go_simp; (try with_reducible rfl))
          change wpAnyH _ _ _ _ _ _ _ (Act.put _ (some 19) _) _
          simp only [Act.put, List.setIfInBounds_toArray, List.set_cons_zero, List.set_cons_succ]
          refine wpAnyH_done (by kernel_rfl) ?_ _
          go_wp2_with fail
          go_meet
          exact ⟨wr.heap.size, rfl, rfl, XB.out, BB.out⟩
      case rest =>
        obtain ⟨qd, rfl, rfl, xd, bd⟩ := hcut
        obtain ⟨wd, hwd⟩ : ∃ x, x = wc := ⟨_, rfl⟩
        subst hwd
        have HWD := Lib.hid (bel_tr HW.out bd (Nat.le_refl _))
        have c1' := coc bd hg' c1
        have hgd : g < wd.heap.size := Nat.lt_of_lt_of_le hg' bd.size
        obtain ⟨-, -, -, f3, f4, hqd⟩ := xd
        rw [HD.out.2] at f3
        rw [HD.out.1] at f4
        clear bd k0 k1 c0 c1
        have v1 : (c.v != c.v) = false := by simp
        have SOB := Lib.hid (show ∀ z, Below wd.heap.size wd z → (z.cell? ⟨qd, 3, none⟩ = some (.int .i64 c.v) ∧ z.cell? ⟨qd, 4, none⟩ = some (.bool false) ∧ z.cell? ⟨g, o + k * 2 + 1, none⟩ = some (.int .i64 c.v) ∧ Below wd.heap.size wd z) from fun z hz => ⟨coc hz hqd f3, coc hz hqd f4, coc hz hgd c1',  hz⟩)
        clear f3 f4 c1'
        go_wp2_with fail
        refine wp_region_held_drew (S := fun z => z.cell? ⟨qd, 3, none⟩ = some (.int .i64 c.v) ∧ z.cell? ⟨qd, 4, none⟩ = some (.bool false) ∧ z.cell? ⟨g, o + k * 2 + 1, none⟩ = some (.int .i64 c.v) ∧ Below wd.heap.size wd z) (by kernel_rfl) (SOB.out _ (Below.refl _ _).drew) (fun hHeld => ?_)
        refine wpAnyH_take (i := 0) (v := ?v0B) rfl (by kernel_rfl) (by kernel_rfl) (by kernel_rfl) (fun _ _ _ h => h) (Or.inl ⟨by rfl, ?hy0B⟩) (by assumption) ?rest0B
        case hy0B => (intro zz hSw; (try dsimp only at hSw); go_simp; (try with_reducible rfl))
        change wpAnyH _ _ _ _ _ _ _ (Act.put _ (some 119) _) _
        simp only [Act.put, List.setIfInBounds_toArray, List.set_cons_zero, List.set_cons_succ]
        refine wpAnyH_take (i := 1) (v := ?v1B) rfl (by kernel_rfl) (by kernel_rfl) (by kernel_rfl) (fun _ _ _ h => h) (Or.inl ⟨by rfl, ?hy1B⟩) (by assumption) ?rest1B
        case hy1B => (intro zz hSw; (try dsimp only at hSw); go_simp; (try with_reducible rfl))
        change wpAnyH _ _ _ _ _ _ _ (Act.put _ (some 120) _) _
        simp only [Act.put, List.setIfInBounds_toArray, List.set_cons_zero, List.set_cons_succ]
        refine wpAnyH_take (i := 2) (v := ?v2B) rfl (by kernel_rfl) (by kernel_rfl) (by kernel_rfl) (fun _ _ _ h => h) (Or.inl ⟨by rfl, ?hy2B⟩) (by assumption) ?rest2B
        case hy2B => (intro zz hSw; (try dsimp only at hSw); go_simp; (try with_reducible rfl))
        change wpAnyH _ _ _ _ _ _ _ (Act.put _ (some 121) _) _
        simp only [Act.put, List.setIfInBounds_toArray, List.set_cons_zero, List.set_cons_succ]
        refine wpAnyH_take (i := 3) (v := ?v3B) rfl (by kernel_rfl) (by kernel_rfl) (by kernel_rfl) (fun _ _ _ h => h) (Or.inl ⟨by rfl, ?hy3B⟩) (by assumption) ?rest3B
        case hy3B => (intro zz hSw; (try dsimp only at hSw); go_simp; (try with_reducible rfl))
        change wpAnyH _ _ _ _ _ _ _ (Act.put _ (some 122) _) _
        simp only [Act.put, List.setIfInBounds_toArray, List.set_cons_zero, List.set_cons_succ]
        refine wpAnyH_take (i := 4) (v := ?v4B) rfl (by kernel_rfl) (by kernel_rfl) (by kernel_rfl) (fun _ _ _ h => h) (Or.inl ⟨by rfl, ?hy4B⟩) (by assumption) ?rest4B
        case hy4B => (intro zz hSw; (try dsimp only at hSw); go_simp; (try with_reducible rfl))
        change wpAnyH _ _ _ _ _ _ _ (Act.put _ (some 123) _) _
        simp only [Act.put, List.setIfInBounds_toArray, List.set_cons_zero, List.set_cons_succ]
        refine wpAnyH_take (i := 5) (v := ?v5B) rfl (by kernel_rfl) (by kernel_rfl) (by kernel_rfl) (fun _ _ _ h => h) (Or.inl ⟨by rfl, ?hy5B⟩) (by assumption) ?rest5B
        case hy5B => (intro zz hSw; (try dsimp only at hSw); go_simp; (try with_reducible rfl))
        change wpAnyH _ _ _ _ _ _ _ (Act.put _ (some 124) _) _
        simp only [Act.put, List.setIfInBounds_toArray, List.set_cons_zero, List.set_cons_succ]
        refine wpAnyH_take (i := 6) (v := ?v6B) rfl (by kernel_rfl) (by kernel_rfl) (by kernel_rfl) (fun _ _ _ h => h) (Or.inl ⟨by rfl, ?hy6B⟩) (by assumption) ?rest6B
        case hy6B => (intro zz hSw; (try dsimp only at hSw); go_simp; (try with_reducible rfl))
        change wpAnyH _ _ _ _ _ _ _ (Act.put _ (some 125) _) _
        simp only [Act.put, List.setIfInBounds_toArray, List.set_cons_zero, List.set_cons_succ]
        refine wpAnyH_take (i := 7) (v := ?v7B) rfl (by kernel_rfl) (by kernel_rfl) (by kernel_rfl) (fun _ _ _ h => h) (Or.inl ⟨by rfl, ?hy7B⟩) (by assumption) ?rest7B
        case hy7B => (intro zz hSw; (try dsimp only at hSw); go_simp; (try with_reducible rfl))
        change wpAnyH _ _ _ _ _ _ _ (Act.put _ (some 126) _) _
        simp only [Act.put, List.setIfInBounds_toArray, List.set_cons_zero, List.set_cons_succ]
        refine wpAnyH_take (i := 8) (v := ?v8B) rfl (by kernel_rfl) (by kernel_rfl) (by kernel_rfl) (fun _ _ _ h => h) (Or.inl ⟨by rfl, ?hy8B⟩) (by assumption) ?rest8B
        case hy8B => (intro zz hSw; (try dsimp only at hSw); go_simp; (try with_reducible rfl))
        change wpAnyH _ _ _ _ _ _ _ (Act.put _ (some 127) _) _
        simp only [Act.put, List.setIfInBounds_toArray, List.set_cons_zero, List.set_cons_succ]
        refine wpAnyH_take (i := 9) (v := ?v9B) rfl (by kernel_rfl) (by kernel_rfl) (by kernel_rfl) (fun _ _ _ h => h) (Or.inl ⟨by rfl, ?hy9B⟩) (by assumption) ?rest9B
        case hy9B => (intro zz hSw; (try dsimp only at hSw); go_simp; (try with_reducible rfl))
        change wpAnyH _ _ _ _ _ _ _ (Act.put _ (some 128) _) _
        simp only [Act.put, List.setIfInBounds_toArray, List.set_cons_zero, List.set_cons_succ]
        refine wpAnyH_take (i := 10) (v := ?v10B) rfl (by kernel_rfl) (by kernel_rfl) (by kernel_rfl) (fun _ _ _ h => h) (Or.inl ⟨by rfl, ?hy10B⟩) (by assumption) ?rest10B
        case hy10B => (intro zz hSw; (try dsimp only at hSw); go_simp; (try with_reducible rfl))
        change wpAnyH _ _ _ _ _ _ _ (Act.put _ (some 129) _) _
        simp only [Act.put, List.setIfInBounds_toArray, List.set_cons_zero, List.set_cons_succ]
        refine wpAnyH_take (i := 11) (v := ?v11B) rfl (by kernel_rfl) (by kernel_rfl) (by kernel_rfl) (fun _ _ _ h => h) (Or.inl ⟨by rfl, ?hy11B⟩) (by assumption) ?rest11B
        case hy11B => (intro zz hSw; (try dsimp only at hSw); go_simp; (try with_reducible rfl))
        change wpAnyH _ _ _ _ _ _ _ (Act.put _ (some 130) _) _
        simp only [Act.put, List.setIfInBounds_toArray, List.set_cons_zero, List.set_cons_succ]
        refine wpAnyH_take (i := 12) (v := ?v12B) rfl (by kernel_rfl) (by kernel_rfl) (by kernel_rfl) (fun _ _ _ h => h) (Or.inl ⟨by rfl, ?hy12B⟩) (by assumption) ?rest12B
        case hy12B => (intro zz hSw; (try dsimp only at hSw); go_simp; (try with_reducible rfl))
        change wpAnyH _ _ _ _ _ _ _ (Act.put _ (some 131) _) _
        simp only [Act.put, List.setIfInBounds_toArray, List.set_cons_zero, List.set_cons_succ]
        refine wpAnyH_take (i := 13) (v := ?v13B) rfl (by kernel_rfl) (by kernel_rfl) (by kernel_rfl) (fun _ _ _ h => h) (Or.inl ⟨by rfl, ?hy13B⟩) (by assumption) ?rest13B
        case hy13B => (intro zz hSw; (try dsimp only at hSw); go_simp; (try with_reducible rfl))
        change wpAnyH _ _ _ _ _ _ _ (Act.put _ (some 132) _) _
        simp only [Act.put, List.setIfInBounds_toArray, List.set_cons_zero, List.set_cons_succ]
        refine wpAnyH_take (i := 14) (v := ?v14B) rfl (by kernel_rfl) (by kernel_rfl) (by kernel_rfl) (fun _ _ _ h => h) (Or.inl ⟨by rfl, ?hy14B⟩) (by assumption) ?rest14B
        case hy14B => (intro zz hSw; (try dsimp only at hSw); go_simp; (try with_reducible rfl))
        change wpAnyH _ _ _ _ _ _ _ (Act.put _ (some 133) _) _
        simp only [Act.put, List.setIfInBounds_toArray, List.set_cons_zero, List.set_cons_succ]
        refine wpAnyH_take (i := 15) (v := ?v15B) rfl (by kernel_rfl) (by kernel_rfl) (by kernel_rfl) (fun _ _ _ h => h) (Or.inl ⟨by rfl, ?hy15B⟩) (by assumption) ?rest15B
        case hy15B => (intro zz hSw; (try dsimp only at hSw); go_simp; (try with_reducible rfl))
        change wpAnyH _ _ _ _ _ _ _ (Act.put _ (some 134) _) _
        simp only [Act.put, List.setIfInBounds_toArray, List.set_cons_zero, List.set_cons_succ]
        refine wpAnyH_done (by kernel_rfl) ?_ _
        have HWE := Lib.hid (bel_tr HWD.out hHeld.2.2.2 (Nat.le_refl _)); clear hHeld SOB HWD
        go_wp2_with fail
        go_roundw
        case rel => exact ⟨k + 1, by omega, by go_num, HWE.out⟩
        case measure => simp [intV]; omega
    · obtain rfl : k = ln := by omega
      obtain ⟨or, hor⟩ : ∃ or, okI r = or := ⟨_, rfl⟩
      have HOR := Lib.hid hor; clear hor
      go_wp2_with fail
      refine (specBins2_is HOR.out wr ra rc rn OR.out.len (OR.out.next HW.out).vw (smI_mod HR.out.2.1) (by have := HR.out.1; omega)).mono ?_; rintro e ws ⟨rfl, bs⟩
      have HS := Lib.hid (bel_tr HW.out bs (Nat.le_refl _)); clear bs
      cases or
      · skip
        rcases sb_cases q nm v with ⟨hq1, hq2⟩ | ⟨hq1, hq2⟩ | ⟨hq1, hq2, hq3⟩
        · obtain ⟨rfl, rfl⟩ := Prod.mk.inj (hq2.symm.trans HSB.out)
          obtain rfl : xn = 0 := OX.out.len.symm
          have HQ1 := Lib.hid hq1; clear hq1 hq2
          go_wp2_with fail
          refine (specBins2_is HQ1.out ws qa qc qn OQ.out.len (OQ.out.next HS.out).vw (smI_mod HQ.out.2.1) (by have := HQ.out.1; omega)).mono ?_; rintro e wt ⟨rfl, bt⟩
          have BT := Lib.hid (bel_tr (bel_tr B.out HS.out (Nat.le_refl _)) bt (Nat.le_refl _)); clear bt
          go_wp2_with fail
          go_ret
          exact ⟨rfl, BT.out⟩
        · obtain ⟨rfl, rfl⟩ := Prod.mk.inj (hq2.symm.trans HSB.out)
          have HQ1 := Lib.hid hq1; clear hq1 hq2
          go_wp2_with fail
          refine (specBins2_is HQ1.out ws qa qc qn OQ.out.len (OQ.out.next HS.out).vw (smI_mod HQ.out.2.1) (by have := HQ.out.1; omega)).mono ?_; rintro e wt ⟨rfl, bt⟩
          have BT := Lib.hid (bel_tr (bel_tr B.out HS.out (Nat.le_refl _)) bt (Nat.le_refl _))
          have LT := Lib.hid (likeI_own wt ((OX.out.next HS.out).next bt) ((OQ.out.next HS.out).next bt) (by have := OQ.out.len; have := HQ.out.1; omega)); clear bt
          go_wp2_with fail
          refine LT.out.mono ?_; rintro e wu ⟨rfl, bu⟩
          have BU := Lib.hid (bel_tr BT.out bu (Nat.le_refl _)); clear bu
          go_wp2_with fail
          go_ret
          exact ⟨rfl, BU.out⟩
        · obtain ⟨rfl, rfl⟩ := Prod.mk.inj (hq2.symm.trans HSB.out)
          have HQ3 := Lib.hid (And.intro hq3 (okI_iff.1 hq1).2.1); clear hq1 hq2 hq3
          go_wp2_with fail
          go_loopw [23] (fun i wr => ∃ k : Nat, k ≤ qn ∧ i = .int .i64 k ∧ Below ws.heap.size ws wr) (fun i _ => qn - intV i)
          case atStart => exact ⟨0, Nat.zero_le _, rfl, Below.refl _ _⟩
          case round =>
            obtain ⟨k, hk, rfl, hbel⟩ := hrel
            have HX := Lib.hid (bel_tr HS.out hbel (Nat.le_refl _))
            have HXW := Lib.hid hbel; clear hbel
            by_cases hlt : k < qn
            · obtain ⟨c, hcq⟩ : ∃ c, q[k]? = some c := ⟨q[k]'(by have := OQ.out.len; omega), List.getElem?_eq_getElem _⟩
              have HV := Lib.hid (set_val HQ3.out.2 (List.mem_of_getElem? hcq) nm v)
              obtain ⟨g, o, rfl, hg, h2⟩ := OQ.out.vw.2.2.2 k c hcq
              obtain ⟨c0, c1⟩ : At2 wr g (o + k * 2) c := h2.same (HX.out.block g hg)
              have hg' : g < wr.heap.size := Nat.lt_of_lt_of_le hg HX.out.size
              clear hcq h2 hg
              have v1 : (c.v != c.v) = false := by simp
              have i1 : (k : Int) < (qn : Int) := by omega
              have i3 : qn ≤ 20 := HQ.out.1
              cases he : (c.n.toList == nm.toList)
              · have HV2 := Lib.hid (vaI (HV.out.trans (by rw [he])) wr (OX.out.next HX.out) HXN.out)
                go_wp2_with fail
                refine HV2.out.mono ?_; rintro e wv ⟨rfl, bv⟩
                have HY := Lib.hid (bel_tr HXW.out bv (Nat.le_refl _))
                have d0 := coc bv hg' c0
                have d1 := coc bv hg' c1
                clear bv c0 c1
                go_wp2_with fail
                go_roundw
                case rel => exact ⟨k + 1, by omega, by go_num, HY.out⟩
                case measure => simp [intV]; omega
              · have HV2 := Lib.hid (vaI (HV.out.trans (by rw [he])) wr (OX.out.next HX.out) HXN.out)
                go_wp2_with fail
                refine HV2.out.mono ?_; rintro e wv ⟨rfl, bv⟩
                have HY := Lib.hid (bel_tr HXW.out bv (Nat.le_refl _))
                have d0 := coc bv hg' c0
                have d1 := coc bv hg' c1
                clear bv c0 c1
                go_wp2_with fail
                go_roundw
                case rel => exact ⟨k + 1, by omega, by go_num, HY.out⟩
                case measure => simp [intV]; omega
            · obtain rfl : k = qn := by omega
              have v2 : (v == v) = true := by simp
              have HV2 := Lib.hid (vaI (set_self HQ3.out.2 nm v) wr (OX.out.next HX.out) HXN.out)
              go_wp2_with fail
              refine HV2.out.mono ?_; rintro e wv ⟨rfl, bv⟩
              have HY := Lib.hid (bel_tr HX.out bv (Nat.le_refl _)); clear bv
              have HO := Lib.hid (implBins_is HQ3.out.1 wv xa xc xn OX.out.len (OX.out.next HY.out).vw (by have := HXN.out; omega))
              go_wp2_with fail
              refine HO.out.mono ?_; rintro e wu ⟨rfl, bu⟩
              have BU := Lib.hid (bel_tr (bel_tr B.out HY.out (Nat.le_refl _)) bu (Nat.le_refl _)); clear bu
              go_wp2_with fail
              go_ret
              exact ⟨rfl, BU.out⟩
      · go_wp2_with fail
        go_loopw [20] (fun i wr => ∃ k : Nat, k ≤ rn ∧ i = .int .i64 k ∧ Below w15.heap.size w15 wr) (fun i _ => rn - intV i)
        case atStart => exact ⟨0, Nat.zero_le _, rfl, HS.out⟩
        case round =>
          clear HS HW
          obtain ⟨k, hk, rfl, hbel⟩ := hrel
          have HX := Lib.hid hbel; clear hbel
          by_cases hlt : k < rn
          · obtain ⟨c, hcq⟩ : ∃ c, r[k]? = some c := ⟨r[k]'(by have := OR.out.len; omega), List.getElem?_eq_getElem _⟩
            have HV := Lib.hid (cut_val HOR.out (List.mem_of_getElem? hcq) gn)
            rw [HCB.out] at HV
            obtain ⟨g, o, rfl, hg, h2⟩ := OR.out.vw.2.2.2 k c hcq
            obtain ⟨c0, c1⟩ : At2 wr g (o + k * 2) c := h2.same (HX.out.block g hg)
            have hg' : g < wr.heap.size := Nat.lt_of_lt_of_le hg HX.out.size
            clear hcq h2 hg
            have v1 : (c.v != c.v) = false := by simp
            have i1 : (k : Int) < (rn : Int) := by omega
            have i3 : rn ≤ 20 := HR.out.1
            cases he : (c.n.toList == gn.toList)
            · have HV2 := Lib.hid (vaI (HV.out.trans (by rw [he])) wr (OY.out.next HX.out) HYN.out)
              go_wp2_with fail
              refine HV2.out.mono ?_; rintro e wv ⟨rfl, bv⟩
              have HY := Lib.hid (bel_tr HX.out bv (Nat.le_refl _))
              have d0 := coc bv hg' c0
              have d1 := coc bv hg' c1
              clear bv c0 c1
              go_wp2_with fail
              go_roundw
              case rel => exact ⟨k + 1, by omega, by go_num, HY.out⟩
              case measure => simp [intV]; omega
            · have HV2 := Lib.hid (vaI (HV.out.trans (by rw [he])) wr (OY.out.next HX.out) HYN.out)
              go_wp2_with fail
              refine HV2.out.mono ?_; rintro e wv ⟨rfl, bv⟩
              have HY := Lib.hid (bel_tr HX.out bv (Nat.le_refl _))
              have d0 := coc bv hg' c0
              have d1 := coc bv hg' c1
              clear bv c0 c1
              go_wp2_with fail
              go_roundw
              case rel => exact ⟨k + 1, by omega, by go_num, HY.out⟩
              case measure => simp [intV]; omega
          · obtain rfl : k = rn := by omega
            obtain ⟨ws, hws⟩ : ∃ x, x = wr := ⟨_, rfl⟩
            subst hws
            rcases sb_cases q nm v with ⟨hq1, hq2⟩ | ⟨hq1, hq2⟩ | ⟨hq1, hq2, hq3⟩
            · obtain ⟨rfl, rfl⟩ := Prod.mk.inj (hq2.symm.trans HSB.out)
              obtain rfl : xn = 0 := OX.out.len.symm
              have HQ1 := Lib.hid hq1; clear hq1 hq2
              go_wp2_with fail
              refine (specBins2_is HQ1.out ws qa qc qn OQ.out.len (OQ.out.next HX.out).vw (smI_mod HQ.out.2.1) (by have := HQ.out.1; omega)).mono ?_; rintro e wt ⟨rfl, bt⟩
              have BT := Lib.hid (bel_tr (bel_tr B.out HX.out (Nat.le_refl _)) bt (Nat.le_refl _)); clear bt
              go_wp2_with fail
              go_ret
              exact ⟨rfl, BT.out⟩
            · obtain ⟨rfl, rfl⟩ := Prod.mk.inj (hq2.symm.trans HSB.out)
              have HQ1 := Lib.hid hq1; clear hq1 hq2
              go_wp2_with fail
              refine (specBins2_is HQ1.out ws qa qc qn OQ.out.len (OQ.out.next HX.out).vw (smI_mod HQ.out.2.1) (by have := HQ.out.1; omega)).mono ?_; rintro e wt ⟨rfl, bt⟩
              have BT := Lib.hid (bel_tr (bel_tr B.out HX.out (Nat.le_refl _)) bt (Nat.le_refl _))
              have LT := Lib.hid (likeI_own wt ((OX.out.next HX.out).next bt) ((OQ.out.next HX.out).next bt) (by have := OQ.out.len; have := HQ.out.1; omega)); clear bt
              go_wp2_with fail
              refine LT.out.mono ?_; rintro e wu ⟨rfl, bu⟩
              have BU := Lib.hid (bel_tr BT.out bu (Nat.le_refl _)); clear bu
              go_wp2_with fail
              go_ret
              exact ⟨rfl, BU.out⟩
            · obtain ⟨rfl, rfl⟩ := Prod.mk.inj (hq2.symm.trans HSB.out)
              have HQ3 := Lib.hid (And.intro hq3 (okI_iff.1 hq1).2.1); clear hq1 hq2 hq3
              go_wp2_with fail
              go_loopw [23] (fun i wr => ∃ k : Nat, k ≤ qn ∧ i = .int .i64 k ∧ Below ws.heap.size ws wr) (fun i _ => qn - intV i)
              case atStart => exact ⟨0, Nat.zero_le _, rfl, Below.refl _ _⟩
              case round =>
                obtain ⟨k, hk, rfl, hbel⟩ := hrel
                have HX := Lib.hid (bel_tr HX.out hbel (Nat.le_refl _))
                have HXW := Lib.hid hbel; clear hbel
                by_cases hlt : k < qn
                · obtain ⟨c, hcq⟩ : ∃ c, q[k]? = some c := ⟨q[k]'(by have := OQ.out.len; omega), List.getElem?_eq_getElem _⟩
                  have HV := Lib.hid (set_val HQ3.out.2 (List.mem_of_getElem? hcq) nm v)
                  obtain ⟨g, o, rfl, hg, h2⟩ := OQ.out.vw.2.2.2 k c hcq
                  obtain ⟨c0, c1⟩ : At2 wr g (o + k * 2) c := h2.same (HX.out.block g hg)
                  have hg' : g < wr.heap.size := Nat.lt_of_lt_of_le hg HX.out.size
                  clear hcq h2 hg
                  have v1 : (c.v != c.v) = false := by simp
                  have i1 : (k : Int) < (qn : Int) := by omega
                  have i3 : qn ≤ 20 := HQ.out.1
                  cases he : (c.n.toList == nm.toList)
                  · have HV2 := Lib.hid (vaI (HV.out.trans (by rw [he])) wr (OX.out.next HX.out) HXN.out)
                    go_wp2_with fail
                    refine HV2.out.mono ?_; rintro e wv ⟨rfl, bv⟩
                    have HY := Lib.hid (bel_tr HXW.out bv (Nat.le_refl _))
                    have d0 := coc bv hg' c0
                    have d1 := coc bv hg' c1
                    clear bv c0 c1
                    go_wp2_with fail
                    go_roundw
                    case rel => exact ⟨k + 1, by omega, by go_num, HY.out⟩
                    case measure => simp [intV]; omega
                  · have HV2 := Lib.hid (vaI (HV.out.trans (by rw [he])) wr (OX.out.next HX.out) HXN.out)
                    go_wp2_with fail
                    refine HV2.out.mono ?_; rintro e wv ⟨rfl, bv⟩
                    have HY := Lib.hid (bel_tr HXW.out bv (Nat.le_refl _))
                    have d0 := coc bv hg' c0
                    have d1 := coc bv hg' c1
                    clear bv c0 c1
                    go_wp2_with fail
                    go_roundw
                    case rel => exact ⟨k + 1, by omega, by go_num, HY.out⟩
                    case measure => simp [intV]; omega
                · obtain rfl : k = qn := by omega
                  have v2 : (v == v) = true := by simp
                  have HV2 := Lib.hid (vaI (set_self HQ3.out.2 nm v) wr (OX.out.next HX.out) HXN.out)
                  go_wp2_with fail
                  refine HV2.out.mono ?_; rintro e wv ⟨rfl, bv⟩
                  have HY := Lib.hid (bel_tr HX.out bv (Nat.le_refl _)); clear bv
                  have HO := Lib.hid (implBins_is HQ3.out.1 wv xa xc xn OX.out.len (OX.out.next HY.out).vw (by have := HXN.out; omega))
                  go_wp2_with fail
                  refine HO.out.mono ?_; rintro e wu ⟨rfl, bu⟩
                  have BU := Lib.hid (bel_tr (bel_tr B.out HY.out (Nat.le_refl _)) bu (Nat.le_refl _)); clear bu
                  go_wp2_with fail
                  go_ret
                  exact ⟨rfl, BU.out⟩
end Go.Proofs.YtcloejmakjdgcaaGreat.Cl
namespace Go.Proofs.YtcloejmakjdgcaaGreat.Fr
open Go.ChangeShapes Go.WideShapes Go.ChangeAt Go.RowKit Go.Joins
set_option maxRecDepth 100000 in
theorem openBytes {H : Type} {enc : TypeId × Value → H} {W : World} {base : Nat} {v : Value} {d : DataW H} {p : List MemPlace} (hv : Value.okWide Tryz.prog W .any base 22 v)
    (h : DataW.Trod enc Tryz.prog W 0 (fun _ => true) true 22 v d p) :
    ∃ (a : Option Addr) (len cap : Nat), v = .slice a len cap ∧ (len ≤ 4096 → Cu.IsBytes W a len) := by
  obtain ⟨a0, len0, cap0, rfl⟩ := okWide_slice Tryz.underlying22 hv
  refine ⟨a0, len0, cap0, rfl, fun hl => ?_⟩
  obtain ⟨fuel, hf⟩ := h
  rcases open_ints Tryz.underlying22 Tryz.underlying5 (by kernel_rfl) hf with ⟨hcs, _⟩ | ⟨x, l, c, zs, hcs, _, hle, hm, hz, _, hcell, hwz⟩
  · simp [Value.cells] at hcs
    obtain ⟨rfl, rfl, rfl⟩ := hcs
    exact Cu.isBytes_of_row (cap := 0) (zs := []) hl (.inl ⟨rfl, rfl, rfl, rfl⟩)
  · simp [Value.cells] at hcs
    obtain ⟨rfl, rfl, rfl⟩ := hcs
    exact Cu.isBytes_of_row (cap := cap0) (zs := zs) hl (.inr ⟨_, rfl, hle, hm, by simpa using hz, hcell, hwz⟩)
end Go.Proofs.YtcloejmakjdgcaaGreat.Fr
