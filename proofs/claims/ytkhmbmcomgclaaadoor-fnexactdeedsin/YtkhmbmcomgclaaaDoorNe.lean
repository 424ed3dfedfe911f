/-
  Statements read one after the other, blocks: contracts of the reader's deeds and block, at every depth. (Made by gen_ne.py.)
-/
import Derived.Test.YtkhmbmcomgclaaaDoorNd
import Derived.Deep.LoopGhost
namespace Go.Proofs.YtkhmbmcomgclaaaDoor.Cl
open Go.RowKit Wd Rp Cu Kp
set_option linter.unusedVariables false
/-- The contract of the reader's deeds. -/
def DdsC (w0 : World) (p : Nat) (l : List Tk) (D : Nat) (o : Int) (f : Int → Int) (R : Int → List Rc) : Prop := ∀ (x : Int) (z : World), Sx w0 p l o x z →
  Calls Tryd.prog 42 #[.pointer (some ⟨p, 0, none⟩)] z fun e z' => ∃ a n c, e = .returned (.slice a n c) ∧ But p z z' ∧ Sx w0 p l o (dlE l f (l.length + 1) x) z' ∧ (dlE l f (l.length + 1) x ≠ -1 → DM w0 (z.heap.size ≤ ·) z' (D + 1) (.slice a n c) (dlR l f R (l.length + 1) x))
/-- The blocks of what is read so far: of this call's own, and not the row's. -/
def Kv (b : Nat) (v : Value) (g : Nat) : Prop := b ≤ g ∧ v.ownBlock ≠ some g
/-- Statements read so far. -/
def DsI (w0 : World) (p : Nat) (l : List Tk) (D : Nat) (o : Int) (f : Int → Int) (R : Int → List Rc) (z : World) (j : Int) (F : List Rc) (k : Nat) (v : Value) (wr : World) : Prop :=
  ∃ (x : Int) (ds : List Dv) (fs : List (List Rc)), Sx w0 p l o x wr ∧ But p z wr ∧ OwD z.heap.size wr v ds ∧ (x = -1 ∨ (l.length : Int) - x < k) ∧ j = dlE l f k x ∧ (x ≠ -1 → (ds.length : Int) ≤ x ∧ ds.length = fs.length ∧ F = fs.flatten ++ dlR l f R k x ∧
    ∀ (i : Nat) (d : Dv) (g : List Rc), ds[i]? = some d → fs[i]? = some g → DdM w0 (Kv z.heap.size v) wr (DM w0 (Kv z.heap.size v) wr D) d g)
theorem DsI.done {w0 : World} {p : Nat} {l : List Tk} {D : Nat} {o : Int} {f : Int → Int} {R : Int → List Rc} {z : World} {j : Int} {F : List Rc} {k : Nat} {v : Value} {wr : World} {x : Int} {ds : List Dv} {fs : List (List Rc)}
    (ho : OwD z.heap.size wr v ds) (hx : x ≠ -1) (hk : (l.length : Int) - x < k) (hl : x ≤ l.length) (hc : tkA l x = none ∨ tkA l x = some [93])
    (h : (ds.length : Int) ≤ x ∧ ds.length = fs.length ∧ F = fs.flatten ++ dlR l f R k x ∧ ∀ (i : Nat) (d : Dv) (g : List Rc), ds[i]? = some d → fs[i]? = some g → DdM w0 (Kv z.heap.size v) wr (DM w0 (Kv z.heap.size v) wr D) d g) :
    dlE l f k x = x ∧ DM w0 (z.heap.size ≤ ·) wr (D + 1) v F := by
  obtain ⟨k, rfl⟩ : ∃ k', k = k' + 1 := ⟨k - 1, by omega⟩
  obtain ⟨-, h2, h3, h4⟩ := h
  have e1 : dlE l f (k + 1) x = x := by
    rw [dlE]
    rcases hc with hc | hc
    · rw [hc]
    · rw [hc]; exact if_pos rfl
  have e2 : dlR l f R (k + 1) x = [] := by
    rw [dlR]
    rcases hc with hc | hc
    · rw [hc]
    · rw [hc]; exact if_pos rfl
  rw [e2, List.append_nil] at h3
  refine ⟨e1, ds, fs, ho.mono fun _ _ => Nat.zero_le _, ho.lt, h2, fun i d g hd hg => ?_, h3⟩
  exact (h4 i d g hd hg).keep (Nat.le_refl _) (fun _ _ _ => rfl) (fun g h _ => h.1) (fun v f h => DM.keep (Nat.le_refl _) (fun _ _ _ => rfl) (fun g h _ => h.1) D v f h)
theorem DsI.step {w0 : World} {p : Nat} {l : List Tk} {D : Nat} {o : Int} {f : Int → Int} {R : Int → List Rc} {z : World} {j : Int} {F : List Rc} {k : Nat} {v v3 : Value} {wr w1 w2 w3 : World} {x : Int} {ds : List Dv} {fs : List (List Rc)} {d : Dv} {s : Tk}
    (hA : ∀ i, Ahd l i (f i)) (hp : p < z.heap.size) (hb : But p z wr) (ho : OwD z.heap.size wr v ds) (hx : x ≠ -1) (hk : (l.length : Int) - x < (k + 1 : Nat)) (hj : j = dlE l f (k + 1) x) (hs : tkA l x = some s) (hne : s ≠ [93])
    (h : (ds.length : Int) ≤ x ∧ ds.length = fs.length ∧ F = fs.flatten ++ dlR l f R (k + 1) x ∧ ∀ (i : Nat) (d : Dv) (g : List Rc), ds[i]? = some d → fs[i]? = some g → DdM w0 (Kv z.heap.size v) wr (DM w0 (Kv z.heap.size v) wr D) d g)
    (b1 : But p wr w1) (hd : f x ≠ -1 → DdM w0 (wr.heap.size ≤ ·) w1 (DM w0 (wr.heap.size ≤ ·) w1 D) d (R x)) (b2 : Below w1.heap.size w1 w2) (hlt : w1.heap.size ≤ w2.heap.size) (g3 : w2.grownBy w3 v.ownBlock) (n3 : v3.ownBlock = v.ownBlock ∨ v3.ownBlock = some w2.heap.size) (o3 : OwD z.heap.size w3 v3 (ds ++ [d])) (hsx : Sx w0 p l o (f x) w3) :
    DsI w0 p l D o f R z j F k v3 w3 := by
  have e1 : dlE l f (k + 1) x = dlE l f k (f x) := by rw [dlE, hs]; exact if_neg hne
  have e2 : dlR l f R (k + 1) x = R x ++ dlR l f R k (f x) := by rw [dlR, hs]; exact if_neg hne
  obtain ⟨h1, h2, h3, h4⟩ := h
  have ha := hA x
  unfold Ahd at ha
  have hz := hb.size
  have hz1 := b1.size
  have hz3 := g3.size
  have hvlo : ∀ g, v.ownBlock = some g → z.heap.size ≤ g := ho.lt
  have hvhi : ∀ g, v.ownBlock = some g → g < wr.heap.size := ho.low
  refine ⟨f x, ds ++ [d], fs ++ [R x], hsx, ?_, o3, ?_, hj.trans e1, fun hn => ?_⟩
  · refine ⟨(g3.os.trans (b2.os.trans b1.os)).trans hb.os, (g3.tape.trans (b2.tape.trans b1.tape)).trans hb.tape, (g3.output.trans (b2.output.trans b1.output)).trans hb.output, by omega, fun g hg hne => ?_⟩
    exact ((g3.block g (by omega) (fun e => by have := hvlo g e.symm; omega)).trans (b2.block g (by omega))).trans ((b1.block g (by omega) hne).trans (hb.block g hg hne))
  · by_cases e : f x = -1
    · exact Or.inl e
    · right; omega
  · refine ⟨by rw [List.length_append]; simp; omega, by rw [List.length_append, List.length_append, h2]; rfl, by rw [h3, e2]; simp, fun i d' g hd' hg' => ?_⟩
    have hv3 : ∀ g, g < w1.heap.size → v.ownBlock ≠ some g → v3.ownBlock ≠ some g := fun g hg hne e => by
      rcases n3 with n3 | n3
      · exact hne (n3.symm.trans e)
      · rw [n3] at e; cases e; omega
    rcases Nat.lt_or_ge i ds.length with hi | hi
    · rw [List.getElem?_append_left hi] at hd'
      rw [List.getElem?_append_left (by omega)] at hg'
      have hk1 : ∀ g, Kv z.heap.size v g → g < wr.heap.size → w3.heap[g]? = wr.heap[g]? := fun g hK hg =>
        ((g3.block g (by omega) (fun e => hK.2 e.symm)).trans (b2.block g (by omega))).trans (b1.block g hg (by have := hK.1; omega))
      have hk2 : ∀ g, Kv z.heap.size v g → g < wr.heap.size → Kv z.heap.size v3 g := fun g hK hg => ⟨hK.1, hv3 g (by omega) hK.2⟩
      exact (h4 i d' g hd' hg').keep (by omega) hk1 hk2 (fun v f h => DM.keep (by omega) hk1 hk2 D v f h)
    · rw [List.getElem?_append_right hi] at hd'
      rw [List.getElem?_append_right (by omega)] at hg'
      have hi0 : i - ds.length = 0 := by
        have := (List.getElem?_eq_some_iff.1 hd').1
        simp at this; omega
      rw [hi0] at hd'
      rw [← h2, hi0] at hg'
      simp at hd' hg'
      subst hd'; subst hg'
      have hne : ∀ g, wr.heap.size ≤ g → v.ownBlock ≠ some g := fun g hg e => by have := hvhi g e; omega
      have hk1 : ∀ g, wr.heap.size ≤ g → g < w1.heap.size → w3.heap[g]? = w1.heap[g]? := fun g hK hg => (g3.block g (by omega) (fun e => hne g hK e.symm)).trans (b2.block g hg)
      have hk2 : ∀ g, wr.heap.size ≤ g → g < w1.heap.size → Kv z.heap.size v3 g := fun g hK hg => ⟨by omega, hv3 g hg (hne g hK)⟩
      exact (hd hn).keep (by omega) hk1 hk2 (fun v f h => DM.keep (by omega) hk1 hk2 D v f h)
theorem Sx.grown {w0 w w' : World} {p : Nat} {l : List Tk} {o x : Int} {row : Option Nat} (h : Sx w0 p l o x w) (hg : w.grownBy w' row) (hr : ∀ g, row = some g → w0.heap.size ≤ g ∧ g ≠ p) : Sx w0 p l o x w' := by
  have hlt := h.lo.2
  have hw : w0.heap.size ≤ w.heap.size := by have := h.lo; omega
  have hb : Below w0.heap.size w w' := (Below.refl _ w).grown hg hw (fun g e => (hr g e).1)
  have e : w'.heap[p]? = w.heap[p]? := hg.block p hlt (fun e => (hr p e.symm).2 rfl)
  rcases h with ⟨e', lf, h⟩ | ⟨e', h0, h1, h⟩
  · exact Or.inl ⟨e', lf, h.same hb e⟩
  · exact Or.inr ⟨e', h0, h1, h.same hb e⟩
set_option maxHeartbeats 8000000 in
set_option maxRecDepth 100000 in
theorem deeds_of {w0 : World} {p : Nat} {l : List Tk} {D : Nat} {o : Int} {f : Int → Int} {R : Int → List Rc} (hll : l.length ≤ 4194304) (hA : ∀ i, Ahd l i (f i)) (hC : DeedC w0 p l D o f R) : DdsC w0 p l D o f R := by
  intro x0 z hs
  have HC := Lib.hid hC
  have HA := Lib.hid hA
  have hp := hs.lo.2
  have hplo := hs.lo.1
  have HS := Lib.hid hs
  have HX0 := Lib.hid (show x0 = -1 ∨ (0 ≤ x0 ∧ x0 ≤ l.length) from by
    rcases hs with ⟨e, -⟩ | ⟨-, h0, h1, -⟩
    · exact Or.inl e
    · exact Or.inr ⟨h0, h1⟩)
  clear hs hC hA
  have HJ := Lib.hid (show dlE l f (l.length + 1) x0 = dlE l f (l.length + 1) x0 from rfl)
  have HF := Lib.hid (show dlR l f R (l.length + 1) x0 = dlR l f R (l.length + 1) x0 from rfl)
  have HN1 := Lib.hid (show x0 = -1 → dlE l f (l.length + 1) x0 = -1 from fun e => by rw [e]; exact dlE_neg _ _ _ (by omega))
  obtain ⟨j, hj⟩ : ∃ j, dlE l f (l.length + 1) x0 = j := ⟨_, rfl⟩
  obtain ⟨F, hF⟩ : ∃ F, dlR l f R (l.length + 1) x0 = F := ⟨_, rfl⟩
  rw [hj, hF]
  have H0 := Lib.hid (show DsI w0 p l D o f R z j F (l.length + 1) (.slice none 0 0) z from
    ⟨x0, [], [], HS.out, But.refl _ _, OwD.nothing _ _, (by have := HX0.out; omega), hj.symm, fun hn => ⟨by have := HX0.out; simp; omega, rfl, hF.symm, fun i d g hd => by simp at hd⟩⟩)
  clear hj hF HJ HF HN1 HX0 HS
  go_enter Tryd.func42, Tryd.ntmps42
  go_wp2_with fail
  go_loopg [3] (l.length + 1) (fun k v wr => DsI w0 p l D o f R z j F k v wr)
  case atStart => exact H0.out
  case round =>
    clear H0
    obtain ⟨x, ds, fs, hsx, hb, ho, hk, hj, hm⟩ := hrel
    obtain ⟨va, vc, rfl, -, -⟩ := ho.form
    have HO := Lib.hid ho
    have HB := Lib.hid hb
    have HJ := Lib.hid hj
    have HM := Lib.hid hm
    have HSX := Lib.hid hsx
    clear hb hj hm ho
    generalize hdl : ds.length = dl at *
    rcases hsx with ⟨e, lf, r⟩ | ⟨e, h0, h1, r⟩
    · have c2 := r.c2
      clear r
      go_wp2_with fail
      go_ret
      subst e
      have hjj : j = -1 := HJ.out.trans (dlE_neg _ _ _ (by omega))
      exact ⟨_, _, _, rfl, HB.out, by rw [hjj]; exact HSX.out, fun hn => absurd hjj hn⟩
    · have c2 := r.c2
      have hkk : (l.length : Int) - x < (gk : Nat) := by omega
      obtain ⟨a, cap, c0, hv⟩ := r.vw
      have hvl := hv.below r.bel
      clear r hv
      have HM' := Lib.hid (HM.out e)
      cases hs : tkA l x with
      | none =>
        rw [drop_no h0 hs] at c0
        replace c0 : wr.cell? ⟨p, 0, none⟩ = some (.slice a 0 cap) := c0
        clear hvl
        go_wp2_with fail
        go_ret
        obtain ⟨e1, e2⟩ := DsI.done (R := R) (o := o) (p := p) (j := j) HO.out e hkk h1 (Or.inl hs) (by rw [hdl]; exact HM'.out)
        have hjj : j = x := HJ.out.trans e1
        exact ⟨_, _, _, rfl, HB.out, by rw [hjj]; exact HSX.out, fun _ => e2⟩
      | some s =>
        rw [drop_tk hs] at c0 hvl
        obtain ⟨n, hn⟩ : ∃ n, (l.drop (x + 1).toNat).length = n := ⟨_, rfl⟩
        rw [List.length_cons, hn] at c0
        obtain ⟨g, q, rfl, hg, x0'⟩ := hvl.tx (l := s :: l.drop (x + 1).toNat) (k := 0) rfl
        rw [Nat.add_zero] at x0'
        clear hvl hn
        have t0 : decide ((0 : Int) < ((n + 1 : Nat) : Int)) = true := by simp
        have t1 : (0 : Int) < ((n + 1 : Nat) : Int) := by omega
        by_cases hb : s = [93]
        · subst hb
          have qe : ((tx [93]).toList == [93]) = true := tx_eqL _
          go_wp2_with fail
          go_ret
          obtain ⟨e1, e2⟩ := DsI.done (R := R) (o := o) (p := p) (j := j) HO.out e hkk h1 (Or.inr hs) (by rw [hdl]; exact HM'.out)
          have hjj : j = x := HJ.out.trans e1
          exact ⟨_, _, _, rfl, HB.out, by rw [hjj]; exact HSX.out, fun _ => e2⟩
        · have qe : ((tx s).toList == [93]) = false := by rw [Lib.toList_data, tx_data, beq_eq_false_iff_ne]; exact hb
          have HD := Lib.hid (HC.out x wr HSX.out)
          have HTS := Lib.hid hs
          obtain ⟨k, rfl⟩ : ∃ k', gk = k' + 1 := ⟨gk - 1, by omega⟩
          clear hg hs
          go_wp2_with fail
          refine HD.out.mono ?_; rintro e w1 ⟨d, rfl, b1, r1, m1⟩
          have B1 := Lib.hid b1
          have M1 := Lib.hid m1
          have R1 := Lib.hid r1
          have BO := Lib.hid (HB.out.trans b1)
          have O1 := Lib.hid (HO.out.same (fun g hg => b1.block g (HO.out.low g hg) (by have := HO.out.lt g hg; omega)))
          clear b1 m1 r1
          have VL := Lib.hid (litD w1 d)
          have hbl := bel1 w1 (.cells #[.string (tx d.h), .string (tx d.n), .slice d.sa d.sn d.sc, .slice d.ba d.bn d.bc] 39)
          have O2 := Lib.hid (O1.out.same (fun g hg => hbl.block g (O1.out.low g hg)))
          have R2 := Lib.hid (R1.out.next hbl)
          have BL2 := Lib.hid hbl
          have hz2 := hbl.size
          have hzz : z.heap.size ≤ (w1.alloc (.cells #[.string (tx d.h), .string (tx d.n), .slice d.sa d.sn d.sc, .slice d.ba d.bn d.bc] 39)).heap.size := by have := BO.out.size; omega
          have hdm : ds.length ≤ 4194304 := by have := HM'.out.1; omega
          clear hbl
          unfold Dv.v
          go_wp2_with (first
            | (at_builtin; refine append_deeds rfl (.tmp 26) (.tmp 29) rfl (base := z.heap.size) (l := ds) (m := [d]) rfl rfl rfl O2.out VL.out (by simp; omega) hzz ?_; intro v3 w3 o3 g3 n3; have G3 := Lib.hid (And.intro o3 (And.intro g3 n3)); clear o3 g3 n3)
            | fail)
          go_roundg k
          case measure => omega
          case rel =>
            obtain ⟨o3, g3, n3⟩ := G3.out
            exact DsI.step HA.out hp HB.out HO.out e hkk HJ.out HTS.out hb (by rw [hdl]; exact HM'.out) B1.out M1.out BL2.out hz2 g3 n3 o3 (R2.out.grown g3 (fun g hg => ⟨by have := O2.out.lt g hg; omega, by have := O2.out.lt g hg; omega⟩))
end Go.Proofs.YtkhmbmcomgclaaaDoor.Cl
