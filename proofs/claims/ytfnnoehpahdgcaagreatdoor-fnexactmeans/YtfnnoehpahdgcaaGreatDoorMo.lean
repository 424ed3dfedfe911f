/-
  The specification's run of a block: contract of spec.l10Block, its statements' contracts given ('DeedR').
-/
import Derived.Test.YtfnnoehpahdgcaaGreatDoorMe
namespace Go.Proofs.YtfnnoehpahdgcaaGreatDoor.Cl
open Go.RowKit Wd Rp Kp
set_option linter.unusedVariables false
/-- A call that gives this number and leaves the run so. -/
def RunP (w0 : World) (p : Nat) (x : Int) (st : St0) (e : Ending) (w' : World) : Prop := e = .returned (.int .i64 x) ∧ Rn w0 p st w'
mutual
/-- Of each statement, those in brackets not. -/
def Sl.each (P : Sm → Prop) : Sl → Prop
  | .nil => True
  | .cons s r => P s ∧ Sl.each P r
end
def Sl.count : Sl → Nat
  | .nil => 0
  | .cons _ r => r.count + 1
theorem Sl.count_le : ∀ t : Sl, t.count ≤ t.fl.length
  | .nil => Nat.zero_le _
  | .cons s r => by
    have h1 := s.pos
    have h2 := Sl.count_le r
    rw [Sl.count, Sl.fl, List.length_append]; omega
def DeedR (w0 : World) (p : Nat) (a : Option Addr) (n cap : Nat) (l : List Tk) (ga : Option Addr) (gc : Nat) (gs : List Int) (s : Sm) : Prop := ∀ (k : Nat) (r : List Tk) (st : St0) (w : World), l.drop k = s.fl ++ r → st.c = 0 → Rn w0 p st w →
    Calls Tryz.prog 83 #[.pointer (some ⟨p, 0, none⟩), .slice a n cap, .int .i64 (k : Int), .slice ga (3 : Nat) gc] w (RunP w0 p ((k + s.fl.length : Nat) : Int) (s.run gs st))
set_option maxHeartbeats 8000000 in
set_option maxRecDepth 100000 in
theorem l10Block_any (w0 : World) (p : Nat) (a : Option Addr) (cap : Nat) (l : List Tk) (n : Nat) (hn : l.length = n) (hl : n ≤ 4194304) (hm : ∀ s ∈ l, s.length ≤ 4194304) (hv : V1 w0 a cap (txL l)) (ga : Option Addr) (gc : Nat) (gs : List Int)
    (b : Sl) (hw : b.wf 4) (ih : b.each (DeedR w0 p a n cap l ga gc gs)) (k : Nat) (r : List Tk) (st : St0) (w : World) (does : Bool) (hd : l.drop k = [91] :: (b.fl ++ ([93] :: r))) (hR : Rn w0 p st w) :
    Calls Tryz.prog 99 #[.pointer (some ⟨p, 0, none⟩), .slice a n cap, .int .i64 (k : Int), .slice ga (3 : Nat) gc, .bool does] w (RunP w0 p ((k + b.fl.length + 2 : Nat) : Int) (if does = true ∧ st.c = 0 then b.run gs st else st)) := by
  have HB := Lib.hid (blok1 a cap l n hn hl 5 (by decide) (by decide) _ (ddE_ahd l 4) (deedS_all a cap l n hn hl hm 4 (by decide)) w (k : Int) ⟨by omega, by have := (drop_head hd).2.1; omega⟩ (hv.below hR.bw))
  rw [blk_det hw hd] at HB
  obtain ⟨hk1, hk2, hd1⟩ := drop_head hd
  have hkn : k < n := by omega
  have hc0 := hR.c
  have HV := Lib.hid hv; clear hv
  have HR := Lib.hid hR; clear hR
  generalize ((k + b.fl.length + 2 : Nat) : Int) = y at *
  have i1 : IntKind.i64.wrap ((k : Int) + 1) = ((k + 1 : Nat) : Int) := by rw [IntKind.wrap_i64]; omega
  cases does
  · have HE : (if false = true ∧ st.c = 0 then b.run gs st else st) = st := by simp
    rw [HE]; clear HE
    go_enter Tryz.func99, Tryz.ntmps99
    go_wp2_with fail
    refine HB.out.mono ?_; rintro e w1 ⟨rfl, b1⟩
    have HR1 := Lib.hid (HR.out.next b1); clear b1
    go_wp2_with fail
    go_loopg [2] 1 (fun j q wr => q = .int .i64 ((k + 1 : Nat) : Int) ∧ Rn w0 p st wr)
    case atStart => exact ⟨by go_num, HR1.out⟩
    case round =>
      obtain ⟨rfl, h1⟩ := hrel
      have H1 := Lib.hid h1; clear h1
      go_wp2_with fail
      go_ret
      exact ⟨rfl, H1.out⟩
  · have HE : (if true = true ∧ st.c = 0 then b.run gs st else st) = (if st.c = 0 then b.run gs st else st) := by simp
    rw [HE]; clear HE
    generalize hfin : (if st.c = 0 then b.run gs st else st) = fin
    have HFIN := Lib.hid hfin; clear hfin
    go_enter Tryz.func99, Tryz.ntmps99
    go_wp2_with fail
    refine HB.out.mono ?_; rintro e w1 ⟨rfl, b1⟩
    have HR1 := Lib.hid (HR.out.next b1); clear b1
    go_wp2_with fail
    go_loopg [2] (b.count + 1) (fun j q wr => ∃ (t : Sl) (z : Nat) (s1 : St0), q = .int .i64 (z : Int) ∧ l.drop z = t.fl ++ ([93] :: r) ∧ t.each (DeedR w0 p a n cap l ga gc gs) ∧ Rn w0 p s1 wr ∧ t.count + 1 ≤ j ∧ (if s1.c = 0 then t.run gs s1 else s1) = fin)
    case atStart => exact ⟨b, k + 1, st, by go_num, hd1, ih, HR1.out, Nat.le_refl _, HFIN.out⟩
    case round =>
      clear HFIN ih
      obtain ⟨t, z, s1, rfl, hd2, ih2, hR2, hj, hfin⟩ := hrel
      have HFIN := Lib.hid hfin
      have HR2 := Lib.hid hR2
      have HV2 := Lib.hid (HV.out.below hR2.bw)
      have c2 := hR2.c
      clear hfin hR2
      by_cases hc : s1.c = 0
      · cases t with
        | nil =>
          have hz := drop_head (show l.drop z = [93] :: r from hd2)
          obtain ⟨g', o', rfl, hg, c0⟩ := HV2.out.tx hz.1
          replace c0 : wr.cell? ⟨g', o' + z, none⟩ = some (.string ⟨#[93]⟩) := c0
          have hzn : z < n := by omega
          have HX := Lib.hid (show s1 = fin by have := HFIN.out; rw [if_pos hc] at this; exact this)
          clear hg hd2 hz
          rw [hc] at c2
          go_wp2_with fail
          go_ret
          exact ⟨rfl, by rw [← HX.out]; exact HR2.out⟩
        | cons s t =>
          obtain ⟨j, rfl⟩ : ∃ j', gk = j' + 1 := ⟨gk - 1, by omega⟩
          have hd3 : l.drop z = s.fl ++ (t.fl ++ ([93] :: r)) := by rw [hd2, Sl.fl, List.append_assoc]
          obtain ⟨c, q, hq, hc93⟩ := s.head
          have hz := drop_head (show l.drop z = c :: (q ++ (t.fl ++ ([93] :: r))) by rw [hd3, hq]; rfl)
          obtain ⟨g', o', rfl, hg, c0⟩ := HV2.out.tx hz.1
          have hzn : z < n := by omega
          have q1 := tx_neL hc93
          rw [Sl.each] at ih2
          have HD := Lib.hid (ih2.1 z _ s1 wr hd3 hc HR2.out)
          have HI2 := Lib.hid ih2.2
          have HD4 := Lib.hid (drop_more hd3)
          have hjj : t.count + 1 ≤ j := by rw [Sl.count] at hj; omega
          have hlz : z + s.fl.length ≤ n := by have := congrArg List.length hd3; rw [List.length_drop, List.length_append] at this; omega
          have HX := Lib.hid (show (if (s.run gs s1).c = 0 then t.run gs (s.run gs s1) else s.run gs s1) = fin by have := HFIN.out; rw [if_pos hc, Sl.run] at this; exact this)
          clear hg hd2 hd3 hz ih2 hq HFIN hj
          generalize s.run gs s1 = s2 at *
          generalize z + s.fl.length = z2 at *
          rw [hc] at c2
          go_wp2_with fail
          refine HD.out.mono ?_; rintro e w2 ⟨rfl, hR3⟩
          have HR3 := Lib.hid hR3; clear hR3
          go_wp2_with fail
          go_roundg j
          case measure => omega
          case rel => exact ⟨t, z2, s2, rfl, HD4.out, HI2.out, HR3.out, hjj, HX.out⟩
      · have HX := Lib.hid (show s1 = fin by have := HFIN.out; rw [if_neg hc] at this; exact this)
        have t0 : (s1.c == 0) = false := beq_eq_false_iff_ne.2 hc
        clear hd2 ih2
        go_wp2_with fail
        go_ret
        exact ⟨rfl, by rw [← HX.out]; exact HR2.out⟩
end Go.Proofs.YtfnnoehpahdgcaaGreatDoor.Cl
