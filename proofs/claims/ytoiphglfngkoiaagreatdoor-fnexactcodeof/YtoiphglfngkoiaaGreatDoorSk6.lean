/-
  Texts of mine, joined (part 6 of 7): what the law at hand reaches of them; each text's own words stand in the verifier's repo.
-/
import Derived.Test.YtoiphglfngkoiaaGreatDoorSk5
import Derived.Test.YtoiphglfngkoiaaGreatDoorRows
import Derived.WalkKit
import Derived.IntWalk
import Derived.Laws.Bits128
import Derived.Lib.Hide
import Derived.Lib.ParseIntBTie
import Derived.Lib.ParseIntBCases
import Derived.Lib.ItoaMem
import Derived.Lib.IndexMore
import Derived.Lib.Repeat
import Derived.WalkSpells
import Derived.Below
import Derived.Carry
import Derived.WalkSmall
import Derived.Laws.Closers25b
import Derived.Lib.Strings
import Derived.Lib.SmallJoins
import Derived.Lib.AppendIntMem
import Derived.Maps.AppendAt
import Derived.OwnWalk
import Derived.WalkLawsBesides
import Derived.Deep.QuietTactic
import Derived.BigQuiet
import Derived.Deep.RegionHeld3
import Derived.Laws.OwnMore
import Derived.Laws.StructEq
import Derived.BigFrame
import Derived.Deep.Upon
import Derived.Laws.CopyRow
import Derived.Laws.BytesArg
import Derived.RowKit3
import Derived.Shelf.Strconv.Itoa4
import Derived.Shelf.Strconv.ParseIntPublic10
import Derived.Shelf.Strconv.ErrVarParseInt
import Derived.Test.YtoiphglfngkoiaaGreatDoorProg
import Derived.LaidMore
import Derived.Stop.LaidErr
import Derived.Lib.LaidTab
import Derived.Deep.LoopGhost
import Derived.RangeFuncWrites
import Derived.RangeFuncCalls
import Derived.RangeFuncBox
import Derived.RangeFuncNested
import Derived.RangeFuncLeaves
import Derived.Shelf.Abstract
import Derived.Shelf.RegionOpen
import Derived.OwnWalkIn
import Derived.TacticsInMore
import Derived.LoopNIn
import Derived.LoopIn
import Derived.Lib.AtoiErrMem
import Derived.OpenShut
import Derived.Lib.ConvBytes
import Derived.Deep.RegionLaw
import Derived.Deep.AppendLies
import Derived.Lib.AppendZeros
import Derived.ProofKit
import Derived.Handed
import Derived.SizedLaws
import Derived.ShutString
import Derived.Deep.Slices
import Derived.Deep.Fields
import Derived.ChangeSame
namespace Go.Proofs.YtoiphglfngkoiaaGreatDoor.Cl
set_option linter.unusedVariables false
open Go.RowKit Wd Rp Kp
structure Rcc (w0 : World) (a : Option Addr) (n cap : Nat) (l : List Tk) : Prop where
  hn : l.length = n
  hl : n ≤ 4194304
  hm : ∀ s ∈ l, s.length ≤ 4194304
  hv : V1 w0 a cap (txL l)
def CdP (w0 : World) (c : List Ov) (y : Int) (e : Ending) (w : World) : Prop := ∃ v, e = .returned (.tuple #[v, .int .i64 y]) ∧ OwO w0.heap.size w v c ∧ Below w0.heap.size w0 w
theorem OwO.lap {w0 w w' : World} {v : Value} {c : List Ov} (hb : Below w0.heap.size w0 w) (ho : OwO w0.heap.size w v c) {O : Obj} (g : (w.alloc O).grownBy w' v.ownBlock) : Below w0.heap.size w0 w' :=
  (hb.trans ((bel1 w O).mono hb.size)).grown g (by rw [World.size_alloc]; have := hb.size; omega) (fun k hk => OwO.lt ho k hk)
set_option maxHeartbeats 4000000 in
set_option maxRecDepth 100000 in
theorem l11Sum_any (w0 : World) (a : Option Addr) (cap : Nat) (l : List Tk) (n : Nat) (C : Rcc w0 a n cap l) : ∀ (u : Su), u.ok → ∀ (k : Nat) (r : List Tk) (c : List Ov) (v : Value) (w : World), l.drop k = u.fl ++ r → c.length ≤ k → OwO w0.heap.size w v c → Below w0.heap.size w0 w →
    Calls Tryz.prog 21 #[v, .slice a n cap, .int .i64 (k : Int)] w (CdP w0 (c ++ u.fo cdF cdG) ((k + u.fl.length : Nat) : Int)) := by
  intro u
  induction u with
  | one s =>
    intro hu k r c v w hd hc ho hb
    have h0 := isL_0 hu
    obtain ⟨hs, hlt, -⟩ := drop_head (show l.drop k = s :: r from hd)
    obtain ⟨g, o, rfl, hg, c0⟩ := (C.hv.below hb).tx hs
    have HO := Lib.hid (fun w => l8Op_any w s)
    have hsl : s.length ≤ 4194304 := C.hm s (List.mem_of_getElem? hs)
    have hlk : k < n := by have := C.hn; omega
    have hl4 := C.hl
    have OW := Lib.hid ho
    have B0 := Lib.hid hb
    have HC := Lib.hid hc
    clear hs hg hd ho hb hc
    rw [h0] at HO
    have HG := Lib.hid (fun w => l8Given_any w s)
    have HR := Lib.hid (fun w => rdS_any s w (by omega))
    have i1 : (k : Int) + 1 ≤ 9223372036854775807 := by omega
    have HF := Lib.hid (show Su.fo cdF cdG (.one s) = cdF s from rfl)
    have HLN := Lib.hid (show ((k + (Su.one s).fl.length : Nat) : Int) = (k : Int) + 1 by simp [Su.fl])
    generalize Su.fo cdF cdG (.one s) = cd at *
    generalize ((k + (Su.one s).fl.length : Nat) : Int) = y at *
    by_cases hgv : gvN s = 0
    · rw [hgv] at HG
      cases hrd : rdB s
      · rw [hrd] at HR
        have hnm := isL_nm hu hgv hrd
        have HE := Lib.hid (show cd = [⟨3, 0, s⟩] from HF.out.trans (by unfold cdF; rw [if_neg (by omega), if_pos hnm])); clear HF hu hgv hrd hnm
        go_enter Tryz.func21, Tryz.ntmps21
        go_wp2_with fail
        refine (HO.out _).mono ?_; rintro e w1 ⟨rfl, b1⟩
        have B1 := Lib.hid (bel_tr B0.out b1 (Nat.le_refl _))
        have O1 := Lib.hid (OW.out.next b1); clear b1
        go_wp2_with fail
        refine (HG.out _).mono ?_; rintro e w2 ⟨rfl, b2⟩
        have B2 := Lib.hid (bel_tr B1.out b2 (Nat.le_refl _))
        have O2 := Lib.hid (O1.out.next b2); clear b2
        go_wp2_with fail
        refine (HR.out _).mono ?_; rintro e w3 ⟨rfl, rfl⟩
        go_wp2_with (first | (at_builtin; refine append_ops rfl (.tmp 70) (.tmp 73) rfl (base := w0.heap.size) (l := c) (m := [⟨3, 0, s⟩]) rfl rfl rfl (O2.out.next (bel1 _ _)) (VwO.lit _ ⟨3, 0, s⟩) (by have := HC.out; simp only [List.length_singleton]; omega) (by rw [World.size_alloc]; have := B2.out.size; omega) ?_; intro v4 w4 o4 g4 n4; have O4 := Lib.hid o4; have B4 := Lib.hid (OwO.lap B2.out O2.out g4); clear o4 g4 n4))
        refine bodyPost_ret (v := .tuple #[v4, .int .i64 ((k : Int) + 1)]) (by simp [results, Tryz.results21, go_sem]) rfl ⟨v4, by rw [HLN.out], by rw [HE.out]; exact O4.out, B4.out⟩
      · rw [hrd] at HR
        have hnm : nmB s = false := by
          cases e : nmB s with
          | false => rfl
          | true => unfold rdB at hrd; rw [nm_rd e] at hrd; cases hrd
        have HE := Lib.hid (show cd = [⟨1, rdV s, noN⟩] from HF.out.trans (by unfold cdF; rw [if_neg (by omega), hnm]; rfl)); clear HF hu hgv hrd hnm
        generalize rdV s = rv at *
        go_enter Tryz.func21, Tryz.ntmps21
        go_wp2_with fail
        refine (HO.out _).mono ?_; rintro e w1 ⟨rfl, b1⟩
        have B1 := Lib.hid (bel_tr B0.out b1 (Nat.le_refl _))
        have O1 := Lib.hid (OW.out.next b1); clear b1
        go_wp2_with fail
        refine (HG.out _).mono ?_; rintro e w2 ⟨rfl, b2⟩
        have B2 := Lib.hid (bel_tr B1.out b2 (Nat.le_refl _))
        have O2 := Lib.hid (O1.out.next b2); clear b2
        go_wp2_with fail
        refine (HR.out _).mono ?_; rintro e w3 ⟨rfl, rfl⟩
        go_wp2_with (first | (at_builtin; refine append_ops rfl (.tmp 63) (.tmp 66) rfl (base := w0.heap.size) (l := c) (m := [⟨1, rv, noN⟩]) rfl rfl rfl (O2.out.next (bel1 _ _)) (VwO.lit _ ⟨1, rv, noN⟩) (by have := HC.out; simp only [List.length_singleton]; omega) (by rw [World.size_alloc]; have := B2.out.size; omega) ?_; intro v4 w4 o4 g4 n4; have O4 := Lib.hid o4; have B4 := Lib.hid (OwO.lap B2.out O2.out g4); clear o4 g4 n4))
        refine bodyPost_ret (v := .tuple #[v4, .int .i64 ((k : Int) + 1)]) (by simp [results, Tryz.results21, go_sem]) rfl ⟨v4, by rw [HLN.out], by rw [HE.out]; exact O4.out, B4.out⟩
    · have HE := Lib.hid (show cd = [⟨2, (gvN s : Int) - 1, noN⟩] from HF.out.trans (by unfold cdF; rw [if_pos hgv])); clear HF hu HR
      have p0 : (0 : Int) ≤ (gvN s : Int) - 1 := by omega
      have p0d : decide ((0 : Int) ≤ (gvN s : Int) - 1) = true := by simpa using p0
      clear hgv
      generalize (gvN s : Int) - 1 = gv at *
      go_enter Tryz.func21, Tryz.ntmps21
      go_wp2_with fail
      refine (HO.out _).mono ?_; rintro e w1 ⟨rfl, b1⟩
      have B1 := Lib.hid (bel_tr B0.out b1 (Nat.le_refl _))
      have O1 := Lib.hid (OW.out.next b1); clear b1
      go_wp2_with fail
      refine (HG.out _).mono ?_; rintro e w2 ⟨rfl, b2⟩
      have B2 := Lib.hid (bel_tr B1.out b2 (Nat.le_refl _))
      have O2 := Lib.hid (O1.out.next b2); clear b2
      go_wp2_with (first | (at_builtin; refine append_ops rfl (.tmp 50) (.tmp 53) rfl (base := w0.heap.size) (l := c) (m := [⟨2, gv, noN⟩]) rfl rfl rfl (O2.out.next (bel1 _ _)) (VwO.lit _ ⟨2, gv, noN⟩) (by have := HC.out; simp only [List.length_singleton]; omega) (by rw [World.size_alloc]; have := B2.out.size; omega) ?_; intro v4 w4 o4 g4 n4; have O4 := Lib.hid o4; have B4 := Lib.hid (OwO.lap B2.out O2.out g4); clear o4 g4 n4))
      refine bodyPost_ret (v := .tuple #[v4, .int .i64 ((k : Int) + 1)]) (by simp [results, Tryz.results21, go_sem]) rfl ⟨v4, by rw [HLN.out], by rw [HE.out]; exact O4.out, B4.out⟩
  | two s x y ihx ihy =>
    intro hu k r c v w hd hc ho hb
    rw [Su.fl, List.cons_append, List.append_assoc] at hd
    obtain ⟨hs, hlt, hd2⟩ := drop_head hd
    have hd3 := drop_more hd2
    have hlen2 := congrArg List.length hd3
    rw [List.length_drop, List.length_append] at hlen2
    have hn := C.hn
    have hl4 := C.hl
    have hlk : k < n := by omega
    have hlx : k + 1 + x.fl.length ≤ n := by
      have := congrArg List.length hd2
      rw [List.length_drop, List.length_append] at this; omega
    have hly : k + 1 + x.fl.length + y.fl.length ≤ n := by
      have : y.fl.length ≤ l.length - (k + 1 + x.fl.length) := by omega
      omega
    have HX := Lib.hid (fun c v w h1 h2 h3 => ihx hu.2.1 (k + 1) (y.fl ++ r) c v w hd2 h1 h2 h3)
    have HY := Lib.hid (fun c v w h1 h2 h3 => ihy hu.2.2 (k + 1 + x.fl.length) r c v w hd3 h1 h2 h3)
    have hon := isO_ne hu.1
    have ho7 := opN_le s
    have HLN := Lib.hid (show ((k + (Su.two s x y).fl.length : Nat) : Int) = ((k + 1 + x.fl.length + y.fl.length : Nat) : Int) by simp [Su.fl]; omega)
    have HLX := Lib.hid (cdS_len x)
    have HLY := Lib.hid (cdS_len y)
    clear ihx ihy hd hd2 hd3 hlen2 hu
    obtain ⟨g, q, rfl, hg, c0⟩ := (C.hv.below hb).tx hs
    have HO := Lib.hid (fun w => l8Op_any w s)
    have HF := Lib.hid (show Su.fo cdF cdG (.two s x y) = (x.fo cdF cdG ++ y.fo cdF cdG) ++ [⟨4, (opN s : Int), noN⟩] from rfl)
    have hp : (0 : Int) < (opN s : Int) := by omega
    have OW := Lib.hid ho
    have B0 := Lib.hid hb
    have HC := Lib.hid hc
    clear hs hg ho hb hc hon
    generalize x.fl.length = lx at *
    generalize y.fl.length = ly at *
    generalize Su.fo cdF cdG (.two s x y) = kr at *
    generalize x.fo cdF cdG = kx at *
    generalize y.fo cdF cdG = ky at *
    generalize opN s = op at *
    generalize tx s = xs at *
    generalize ((k + (Su.two s x y).fl.length : Nat) : Int) = z at *
    go_enter Tryz.func21, Tryz.ntmps21
    go_wp2_with fail
    refine (HO.out _).mono ?_; rintro e w1 ⟨rfl, b1⟩
    have B1 := Lib.hid (bel_tr B0.out b1 (Nat.le_refl _))
    have O1 := Lib.hid (OW.out.next b1); clear b1
    have HX1 := Lib.hid (HX.out c v w1 (by have := HC.out; omega) O1.out B1.out)
    rw [show ((k + 1 : Nat) : Int) = (k : Int) + 1 by omega] at HX1
    go_wp2_with fail
    refine HX1.out.mono ?_; rintro e w2 ⟨v2, rfl, o2, b2⟩
    have B2 := Lib.hid b2
    have O2 := Lib.hid o2; clear b2 o2
    have HY2 := Lib.hid (HY.out (c ++ kx) v2 w2 (by have := HC.out; have := HLX.out; rw [List.length_append]; omega) O2.out B2.out)
    go_wp2_with fail
    refine HY2.out.mono ?_; rintro e w3 ⟨v3, rfl, o3, b3⟩
    have B3 := Lib.hid b3
    have O3 := Lib.hid o3; clear b3 o3
    go_wp2_with (first | (at_builtin; refine append_ops rfl (.tmp 40) (.tmp 43) rfl (base := w0.heap.size) (l := (c ++ kx) ++ ky) (m := [⟨4, (op : Int), noN⟩]) rfl rfl rfl (O3.out.next (bel1 _ _)) (VwO.lit _ ⟨4, (op : Int), noN⟩) (by have := HC.out; have := HLX.out; have := HLY.out; simp only [List.length_singleton, List.length_append]; omega) (by rw [World.size_alloc]; have := B3.out.size; omega) ?_; intro v4 w4 o4 g4 n4; have O4 := Lib.hid o4; have B4 := Lib.hid (OwO.lap B3.out O3.out g4); clear o4 g4 n4))
    refine bodyPost_ret (v := .tuple #[v4, .int .i64 ((k + 1 + lx + ly : Nat) : Int)]) (by simp [results, Tryz.results21, go_sem]) rfl ⟨v4, by rw [HLN.out], by rw [HF.out, ← List.append_assoc, ← List.append_assoc]; exact O4.out, B4.out⟩
end Go.Proofs.YtoiphglfngkoiaaGreatDoor.Cl
namespace Go.Proofs.YtoiphglfngkoiaaGreatDoor.Cl
set_option linter.unusedVariables false
open Go.RowKit Wd Rp Kp
theorem pt_get (l r : List Ov) (x : Ov) : (l ++ [x] ++ r)[l.length]? = some x := by simp
theorem pt_set (l r : List Ov) (x y : Ov) : (l ++ [x] ++ r).set l.length y = l ++ [y] ++ r := by
  rw [List.append_assoc, List.set_append_right _ _ (Nat.le_refl _), Nat.sub_self, List.append_assoc]; rfl
def if4 (c E A : List Ov) : List Ov := (((c ++ E) ++ [(⟨8, 0, noN⟩ : Ov)]) ++ A) ++ [(⟨7, 0, noN⟩ : Ov)]
def if5 (c E A : List Ov) : List Ov := (((c ++ E) ++ [⟨8, ((if4 c E A).length : Int), noN⟩]) ++ A) ++ [(⟨7, 0, noN⟩ : Ov)]
theorem if4_get (c E A : List Ov) : (if4 c E A)[(c ++ E).length]? = some ⟨8, 0, noN⟩ := by
  unfold if4
  rw [List.append_assoc _ A]
  exact pt_get _ _ _
theorem if4_set (c E A : List Ov) : (if4 c E A).set (c ++ E).length ⟨8, ((if4 c E A).length : Int), noN⟩ = if5 c E A := by
  unfold if5
  generalize ((if4 c E A).length : Int) = z
  unfold if4
  rw [List.append_assoc _ A, pt_set, List.append_assoc _ A]
theorem if5_len (c E A : List Ov) : (if5 c E A).length = (if4 c E A).length := by unfold if5 if4; simp
theorem if4_len (c E A : List Ov) : (if4 c E A).length = c.length + E.length + 1 + A.length + 1 := by unfold if4; simp; omega
theorem if5_get (c E A B : List Ov) : (if5 c E A ++ B)[(((c ++ E) ++ [(⟨8, 0, noN⟩ : Ov)]) ++ A).length]? = some ⟨7, 0, noN⟩ := by
  unfold if5
  generalize ((if4 c E A).length : Int) = z
  rw [show (((c ++ E) ++ [(⟨8, 0, noN⟩ : Ov)]) ++ A).length = (((c ++ E) ++ [(⟨8, z, noN⟩ : Ov)]) ++ A).length by simp]
  exact pt_get _ _ _
theorem if5_set (c E A B : List Ov) (x : Int) : (if5 c E A ++ B).set (((c ++ E) ++ [(⟨8, 0, noN⟩ : Ov)]) ++ A).length ⟨7, x, noN⟩ = ((((c ++ E) ++ [⟨8, ((if4 c E A).length : Int), noN⟩]) ++ A) ++ [(⟨7, x, noN⟩ : Ov)]) ++ B := by
  unfold if5
  generalize ((if4 c E A).length : Int) = z
  rw [show (((c ++ E) ++ [(⟨8, 0, noN⟩ : Ov)]) ++ A).length = (((c ++ E) ++ [(⟨8, z, noN⟩ : Ov)]) ++ A).length by simp]
  exact pt_set _ _ _ _
theorem code_if (c : List Ov) (ex : List Tk) (a b : Sl) (h : eOk ex) :
    (if5 c (cdE ex) (a.code (c ++ cdE ex ++ [(⟨8, 0, noN⟩ : Ov)]).length) ++ b.code (if5 c (cdE ex) (a.code (c ++ cdE ex ++ [(⟨8, 0, noN⟩ : Ov)]).length)).length).set (((c ++ cdE ex) ++ [(⟨8, 0, noN⟩ : Ov)]) ++ a.code (c ++ cdE ex ++ [(⟨8, 0, noN⟩ : Ov)]).length).length
      ⟨7, ((if5 c (cdE ex) (a.code (c ++ cdE ex ++ [(⟨8, 0, noN⟩ : Ov)]).length) ++ b.code (if5 c (cdE ex) (a.code (c ++ cdE ex ++ [(⟨8, 0, noN⟩ : Ov)]).length)).length).length : Int), noN⟩ = c ++ (Sm.ifs ex a b).code c.length := by
  rw [if5_set, if5_len, Sm.code]
  have e1 : (c ++ cdE ex ++ [(⟨8, 0, noN⟩ : Ov)]).length = c.length + (cdE ex).length + 1 := by simp; omega
  rw [e1, List.length_append, if5_len, if4_len, Sl.code_len, Sl.code_len]
  simp only [List.append_assoc]
def wh4 (c E A : List Ov) (x : Int) : List Ov := ((((c ++ [(⟨9, 0, noN⟩ : Ov)]) ++ E) ++ [(⟨8, 0, noN⟩ : Ov)]) ++ A) ++ [(⟨7, x, noN⟩ : Ov)]
theorem wh4_get (c E A : List Ov) (x : Int) : (wh4 c E A x)[((c ++ [(⟨9, 0, noN⟩ : Ov)]) ++ E).length]? = some ⟨8, 0, noN⟩ := by
  unfold wh4
  rw [List.append_assoc _ A]
  exact pt_get _ _ _
theorem wh4_len (c E A : List Ov) (x : Int) : (wh4 c E A x).length = c.length + 1 + E.length + 1 + A.length + 1 := by unfold wh4; simp; omega
theorem wh4_set (c E A : List Ov) (x : Int) : (wh4 c E A x).set ((c ++ [(⟨9, 0, noN⟩ : Ov)]) ++ E).length ⟨8, ((wh4 c E A x).length : Int), noN⟩ = ((((c ++ [(⟨9, 0, noN⟩ : Ov)]) ++ E) ++ [⟨8, ((wh4 c E A x).length : Int), noN⟩]) ++ A) ++ [(⟨7, x, noN⟩ : Ov)] := by
  generalize ((wh4 c E A x).length : Int) = z
  unfold wh4
  rw [List.append_assoc _ A, pt_set, List.append_assoc _ A]
theorem code_whl (c : List Ov) (ex : List Tk) (a : Sl) (h : eOk ex) :
    (wh4 c (cdE ex) (a.code ((c ++ [(⟨9, 0, noN⟩ : Ov)]) ++ cdE ex ++ [(⟨8, 0, noN⟩ : Ov)]).length) (c.length : Int)).set ((c ++ [(⟨9, 0, noN⟩ : Ov)]) ++ cdE ex).length
      ⟨8, ((wh4 c (cdE ex) (a.code ((c ++ [(⟨9, 0, noN⟩ : Ov)]) ++ cdE ex ++ [(⟨8, 0, noN⟩ : Ov)]).length) (c.length : Int)).length : Int), noN⟩ = c ++ (Sm.whl ex a).code c.length := by
  rw [wh4_set, Sm.code]
  have e1 : ((c ++ [(⟨9, 0, noN⟩ : Ov)]) ++ cdE ex ++ [(⟨8, 0, noN⟩ : Ov)]).length = c.length + 1 + (cdE ex).length + 1 := by simp; omega
  rw [e1, wh4_len, Sl.code_len]
  simp only [List.append_assoc]
theorem wh_back (c E A : List Ov) (x z : Int) : ((((((c ++ [(⟨9, 0, noN⟩ : Ov)]) ++ E) ++ [(⟨8, z, noN⟩ : Ov)]) ++ A) ++ [(⟨7, 0, noN⟩ : Ov)]).set ((((c ++ [(⟨9, 0, noN⟩ : Ov)]) ++ E) ++ [(⟨8, 0, noN⟩ : Ov)]) ++ A).length ⟨7, x, noN⟩) = ((((c ++ [(⟨9, 0, noN⟩ : Ov)]) ++ E) ++ [(⟨8, z, noN⟩ : Ov)]) ++ A) ++ [(⟨7, x, noN⟩ : Ov)] := by
  rw [show ((((c ++ [(⟨9, 0, noN⟩ : Ov)]) ++ E) ++ [(⟨8, 0, noN⟩ : Ov)]) ++ A).length = ((((c ++ [(⟨9, 0, noN⟩ : Ov)]) ++ E) ++ [(⟨8, z, noN⟩ : Ov)]) ++ A).length by simp]
  have := pt_set ((((c ++ [(⟨9, 0, noN⟩ : Ov)]) ++ E) ++ [(⟨8, z, noN⟩ : Ov)]) ++ A) [] ⟨7, 0, noN⟩ ⟨7, x, noN⟩
  rw [List.append_nil, List.append_nil] at this; exact this
theorem if_key (c : List Ov) (ex : List Tk) (b1 b2 : Sl) (h : eOk ex) : ∃ c1 c2 c3 c4 c5 c6 c7 : List Ov, c ++ cdE ex = c1 ∧ c1 ++ [(⟨8, 0, noN⟩ : Ov)] = c2 ∧ c2 ++ b1.code c2.length = c3 ∧ c3 ++ [(⟨7, 0, noN⟩ : Ov)] = c4 ∧ c4[c1.length]? = some ⟨8, 0, noN⟩ ∧ c4.set c1.length ⟨8, (c4.length : Int), noN⟩ = c5 ∧
    c5 ++ b2.code c5.length = c6 ∧ c6[c3.length]? = some ⟨7, 0, noN⟩ ∧ c6.set c3.length ⟨7, (c6.length : Int), noN⟩ = c7 ∧ c ++ (Sm.ifs ex b1 b2).code c.length = c7 ∧
    c1.length = c.length + ex.length ∧ c2.length = c1.length + 1 ∧ c3.length = c2.length + b1.cl ∧ c4.length = c3.length + 1 ∧ c5.length = c4.length ∧ c6.length = c5.length + b2.cl := by
  have e4 : (c ++ cdE ex ++ [(⟨8, 0, noN⟩ : Ov)] ++ b1.code (c ++ cdE ex ++ [(⟨8, 0, noN⟩ : Ov)]).length) ++ [(⟨7, 0, noN⟩ : Ov)] = if4 c (cdE ex) (b1.code (c ++ cdE ex ++ [(⟨8, 0, noN⟩ : Ov)]).length) := rfl
  refine ⟨_, _, _, _, _, _, _, rfl, rfl, rfl, rfl, ?_, rfl, rfl, ?_, rfl, ?_, ?_, ?_, ?_, ?_, ?_, ?_⟩
  · rw [e4]; exact if4_get _ _ _
  · rw [e4, if4_set]; exact if5_get _ _ _ _
  · rw [e4, if4_set]; exact (code_if c ex b1 b2 h).symm
  · rw [List.length_append, cdE_len h]
  · rw [List.length_append]; rfl
  · rw [List.length_append, Sl.code_len]
  · rw [List.length_append]; rfl
  · rw [List.length_set]
  · rw [List.length_append, Sl.code_len]
theorem wh_key (c : List Ov) (ex : List Tk) (b1 : Sl) (h : eOk ex) : ∃ c0 c1 c2 c3 c4 c5 : List Ov, c ++ [(⟨9, 0, noN⟩ : Ov)] = c0 ∧ c0 ++ cdE ex = c1 ∧ c1 ++ [(⟨8, 0, noN⟩ : Ov)] = c2 ∧ c2 ++ b1.code c2.length = c3 ∧ c3 ++ [(⟨7, (c.length : Int), noN⟩ : Ov)] = c4 ∧ c4[c1.length]? = some ⟨8, 0, noN⟩ ∧ c4.set c1.length ⟨8, (c4.length : Int), noN⟩ = c5 ∧ c ++ (Sm.whl ex b1).code c.length = c5 ∧
    c0.length = c.length + 1 ∧ c1.length = c0.length + ex.length ∧ c2.length = c1.length + 1 ∧ c3.length = c2.length + b1.cl ∧ c4.length = c3.length + 1 := by
  have e4 : (((c ++ [(⟨9, 0, noN⟩ : Ov)]) ++ cdE ex ++ [(⟨8, 0, noN⟩ : Ov)]) ++ b1.code ((c ++ [(⟨9, 0, noN⟩ : Ov)]) ++ cdE ex ++ [(⟨8, 0, noN⟩ : Ov)]).length) ++ [(⟨7, (c.length : Int), noN⟩ : Ov)] = wh4 c (cdE ex) (b1.code ((c ++ [(⟨9, 0, noN⟩ : Ov)]) ++ cdE ex ++ [(⟨8, 0, noN⟩ : Ov)]).length) (c.length : Int) := rfl
  refine ⟨_, _, _, _, _, _, rfl, rfl, rfl, rfl, rfl, ?_, rfl, ?_, ?_, ?_, ?_, ?_, ?_⟩
  · rw [e4]; exact wh4_get _ _ _ _
  · rw [e4]; exact (code_whl c ex b1 h).symm
  · rw [List.length_append]; rfl
  · rw [List.length_append, cdE_len h]
  · rw [List.length_append]; rfl
  · rw [List.length_append, Sl.code_len]
  · rw [List.length_append]; rfl
theorem wh_keyI (c : List Ov) (ex : List Tk) (b1 : Sl) (h : eOk ex) : ∃ c0 c1 c2 c3 c4 c5 c6 : List Ov, c ++ [(⟨9, 0, noN⟩ : Ov)] = c0 ∧ c0 ++ cdE ex = c1 ∧ c1 ++ [(⟨8, 0, noN⟩ : Ov)] = c2 ∧ c2 ++ b1.code c2.length = c3 ∧ c3 ++ [(⟨7, 0, noN⟩ : Ov)] = c4 ∧ c4[c1.length]? = some ⟨8, 0, noN⟩ ∧ c4.set c1.length ⟨8, (c4.length : Int), noN⟩ = c5 ∧ c5[c3.length]? = some ⟨7, 0, noN⟩ ∧ c5.set c3.length ⟨7, (c.length : Int), noN⟩ = c6 ∧ c ++ (Sm.whl ex b1).code c.length = c6 ∧
    c0.length = c.length + 1 ∧ c1.length = c0.length + ex.length ∧ c2.length = c1.length + 1 ∧ c3.length = c2.length + b1.cl ∧ c4.length = c3.length + 1 ∧ c5.length = c4.length := by
  have e4 : (((c ++ [(⟨9, 0, noN⟩ : Ov)]) ++ cdE ex ++ [(⟨8, 0, noN⟩ : Ov)]) ++ b1.code ((c ++ [(⟨9, 0, noN⟩ : Ov)]) ++ cdE ex ++ [(⟨8, 0, noN⟩ : Ov)]).length) ++ [(⟨7, 0, noN⟩ : Ov)] = wh4 c (cdE ex) (b1.code ((c ++ [(⟨9, 0, noN⟩ : Ov)]) ++ cdE ex ++ [(⟨8, 0, noN⟩ : Ov)]).length) 0 := rfl
  refine ⟨_, _, _, _, _, _, _, rfl, rfl, rfl, rfl, rfl, ?_, rfl, ?_, rfl, ?_, ?_, ?_, ?_, ?_, ?_, ?_⟩
  · rw [e4]; exact wh4_get _ _ _ _
  · rw [e4, wh4_set]
    generalize ((wh4 c (cdE ex) (b1.code ((c ++ [(⟨9, 0, noN⟩ : Ov)]) ++ cdE ex ++ [(⟨8, 0, noN⟩ : Ov)]).length) 0).length : Int) = z
    generalize hA : b1.code ((c ++ [(⟨9, 0, noN⟩ : Ov)]) ++ cdE ex ++ [(⟨8, 0, noN⟩ : Ov)]).length = A
    rw [show ((c ++ [(⟨9, 0, noN⟩ : Ov)]) ++ cdE ex ++ [(⟨8, 0, noN⟩ : Ov)] ++ A).length = ((c ++ [(⟨9, 0, noN⟩ : Ov)]) ++ cdE ex ++ [(⟨8, z, noN⟩ : Ov)] ++ A).length by simp]
    have := pt_get ((c ++ [(⟨9, 0, noN⟩ : Ov)]) ++ cdE ex ++ [(⟨8, z, noN⟩ : Ov)] ++ A) [] ⟨7, 0, noN⟩
    rw [List.append_nil] at this; exact this
  · rw [e4, wh4_set]
    have e := code_whl c ex b1 h
    rw [wh4_set, wh4_len] at e
    rw [wh4_len, wh_back]
    exact e.symm
  · rw [List.length_append]; rfl
  · rw [List.length_append, cdE_len h]
  · rw [List.length_append]; rfl
  · rw [List.length_append, Sl.code_len]
  · rw [List.length_append]; rfl
  · rw [List.length_set]
end Go.Proofs.YtoiphglfngkoiaaGreatDoor.Cl
namespace Go.Proofs.YtoiphglfngkoiaaGreatDoor.Cl
set_option linter.unusedVariables false
open Go.RowKit Wd Rp Kp
structure KpI (w w' : World) (v v' : Value) : Prop where
  size : w.heap.size ≤ w'.heap.size
  blk : ∀ g, g < w.heap.size → v.ownBlock ≠ some g → w'.heap[g]? = w.heap[g]?
  own : ∀ g, v'.ownBlock = some g → v.ownBlock = some g ∨ w.heap.size ≤ g
theorem KpI.below {w w' : World} (h : Below w.heap.size w w') (v : Value) : KpI w w' v v := ⟨h.size, fun g hg _ => h.block g hg, fun g hg => Or.inl hg⟩
theorem KpI.put {w w1 : World} {v : Value} {a : Addr} {u : Value} (h : Below w.heap.size w w1) (hv : v.ownBlock = some a.block) : KpI w (w1.setCell a u) v v :=
  ⟨by have := h.size; simpa [World.setCell] using this, fun g hg hn => (Below.heap_setCell w1 a u g (fun e => hn (by rw [hv, e]))).trans (h.block g hg), fun g hg => Or.inl hg⟩
theorem KpI.trans {w w1 w2 : World} {v v1 v2 : Value} (h : KpI w w1 v v1) (k : KpI w1 w2 v1 v2) : KpI w w2 v v2 :=
  ⟨Nat.le_trans h.size k.size, fun g hg hn => (k.blk g (Nat.lt_of_lt_of_le hg h.size) (fun e => (h.own g e).elim hn (fun e2 => by omega))).trans (h.blk g hg hn), fun g hg => by
    rcases k.own g hg with e | e
    · exact h.own g e
    · right; have := h.size; omega⟩
end Go.Proofs.YtoiphglfngkoiaaGreatDoor.Cl
namespace Go.Proofs.YtoiphglfngkoiaaGreatDoor.Cl
set_option linter.unusedVariables false
open Go.RowKit Wd Rp Kp
def Tri (q : Nat) (x y z : Value) (w : World) : Prop := (w.cell? ⟨q, 0, none⟩ = some x ∧ w.cell? ⟨q, 1, none⟩ = some y ∧ w.cell? ⟨q, 2, none⟩ = some z) ∧ (w.frozen? ⟨q, 0, none⟩ = false ∧ w.frozen? ⟨q, 1, none⟩ = false ∧ w.frozen? ⟨q, 2, none⟩ = false) ∧ q < w.heap.size
theorem Tri.of {q T : Nat} {x y z : Value} {w : World} (e : w.heap[q]? = some (.cells #[x, y, z] T (0, 0))) : Tri q x y z w :=
  ⟨⟨by simp only [World.cell?, e]; rfl, by simp only [World.cell?, e]; rfl, by simp only [World.cell?, e]; rfl⟩, ⟨by simp only [World.frozen?, e]; rfl, by simp only [World.frozen?, e]; rfl, by simp only [World.frozen?, e]; rfl⟩, (Array.getElem?_eq_some_iff.1 e).1⟩
theorem Tri.made (x y z : Value) (w : World) (T : Nat) : Tri w.heap.size x y z (w.alloc (.cells #[x, y, z] T)) := Tri.of (T := T) (show (w.heap.push _)[w.heap.size]? = _ by simp)
theorem Tri.below {q B : Nat} {x y z : Value} {w w' : World} (h : Tri q x y z w) (hb : Below B w w') (hq : q < B) : Tri q x y z w' := by
  have e := hb.block q hq
  obtain ⟨⟨h0, h1, h2⟩, ⟨f0, f1, f2⟩, hl⟩ := h
  exact ⟨⟨(World.cell?_of_block (w := w) e).trans h0, (World.cell?_of_block (w := w) e).trans h1, (World.cell?_of_block (w := w) e).trans h2⟩, ⟨(World.frozen?_of_block (w := w) e).trans f0, (World.frozen?_of_block (w := w) e).trans f1, (World.frozen?_of_block (w := w) e).trans f2⟩, Nat.lt_of_lt_of_le hl hb.size⟩
end Go.Proofs.YtoiphglfngkoiaaGreatDoor.Cl
namespace Go.Proofs.YtoiphglfngkoiaaGreatDoor.Cl
set_option linter.unusedVariables false
open Go.RowKit Wd Rp Kp
mutual
/-- Of each statement, those in brackets not. -/
def Sl.each (P : Sm → Prop) : Sl → Prop
  | .nil => True
  | .cons s r => P s ∧ Sl.each P r
end
def Sl.count : Sl → Nat
  | .nil => 0
  | .cons _ r => r.count + 1
end Go.Proofs.YtoiphglfngkoiaaGreatDoor.Cl
namespace Go.Proofs.YtoiphglfngkoiaaGreatDoor.Cl
set_option linter.unusedVariables false
open Go.RowKit Wd Rp Kp
def DeedO (w0 : World) (a : Option Addr) (n cap : Nat) (l : List Tk) (s : Sm) : Prop := ∀ (k : Nat) (r : List Tk) (c : List Ov) (v : Value) (w : World), l.drop k = s.fl ++ r → c.length ≤ k → OwO w0.heap.size w v c → Below w0.heap.size w0 w →
    Calls Tryz.prog 14 #[v, .slice a n cap, .int .i64 (k : Int)] w (CdP w0 (c ++ s.code c.length) ((k + s.fl.length : Nat) : Int))
set_option maxHeartbeats 4000000 in
set_option maxRecDepth 100000 in
theorem l11Block_any (w0 : World) (a : Option Addr) (cap : Nat) (l : List Tk) (n : Nat) (C : Rcc w0 a n cap l) (b : Sl) {d : Nat} (hw : b.wf d) (ih : b.each (DeedO w0 a n cap l)) (k : Nat) (r : List Tk) (c : List Ov) (v : Value) (w : World) (hd : l.drop k = [91] :: (b.fl ++ ([93] :: r))) (hc : c.length ≤ k + 1) (ho : OwO w0.heap.size w v c) (hb : Below w0.heap.size w0 w) :
    Calls Tryz.prog 22 #[v, .slice a n cap, .int .i64 (k : Int)] w (CdP w0 (c ++ b.code c.length) ((k + b.fl.length + 2 : Nat) : Int)) := by
  obtain ⟨hk1, hk2, hd1⟩ := drop_head hd
  have hn := C.hn
  have hl4 := C.hl
  have hkn : k < n := by omega
  have i1 : IntKind.i64.wrap ((k : Int) + 1) = ((k + 1 : Nat) : Int) := by rw [IntKind.wrap_i64]; omega
  obtain ⟨fin, hfin⟩ : ∃ z, c ++ b.code c.length = z := ⟨_, rfl⟩
  obtain ⟨kf, hkf⟩ : ∃ z, k + b.fl.length + 2 = z := ⟨_, rfl⟩
  rw [hfin, hkf]
  have HFIN := Lib.hid hfin
  have HO := Lib.hid ho
  have HB := Lib.hid hb
  have HW := Lib.hid hw
  clear hfin ho hb hd hk1 hw
  go_enter Tryz.func22, Tryz.ntmps22
  go_wp2_with fail
  go_loopg [0, 2] (b.count + 1) (fun j q i wr => ∃ (t : Sl) (z : Nat) (c1 : List Ov), i = .int .i64 (z : Int) ∧ l.drop z = t.fl ++ ([93] :: r) ∧ t.each (DeedO w0 a n cap l) ∧ t.wf d ∧ c1.length ≤ z ∧ OwO w0.heap.size wr q c1 ∧ Below w0.heap.size w0 wr ∧ t.count + 1 ≤ j ∧ c1 ++ t.code c1.length = fin ∧ z + t.fl.length + 1 = kf)
  case atStart => exact ⟨b, k + 1, c, by go_num, hd1, ih, HW.out, by omega, HO.out, HB.out, Nat.le_refl _, HFIN.out, by omega⟩
  case round =>
    clear HFIN ih HO HB HW
    obtain ⟨t, z, c1, rfl, hd2, ih2, hw2, hc1, ho1, hb1, hj, hfin, hz2⟩ := hrel
    have HFIN := Lib.hid hfin
    have HO1 := Lib.hid ho1
    have HB1 := Lib.hid hb1
    have HV2 := Lib.hid (C.hv.below hb1)
    obtain ⟨qa, qc, eq0, -⟩ := ho1.view
    subst eq0
    clear hfin ho1 hb1
    cases t with
    | nil =>
      have hz := drop_head (show l.drop z = [93] :: r from hd2)
      obtain ⟨g', o', rfl, hg, c0⟩ := HV2.out.tx hz.1
      replace c0 : wr.cell? ⟨g', o' + z, none⟩ = some (.string ⟨#[93]⟩) := c0
      have hzn : z < n := by omega
      have HX := Lib.hid (show c1 = fin by have := HFIN.out; rw [Sl.code, List.append_nil] at this; exact this)
      have hkz : (kf : Int) = (z : Int) + 1 := by rw [Sl.fl] at hz2; simp only [List.length_nil] at hz2; omega
      have i2 : (z : Int) + 1 ≤ 9223372036854775807 := by omega
      clear hg hd2 hz ih2
      go_wp2_with fail
      refine bodyPost_ret (v := .tuple #[.slice qa c1.length qc, .int .i64 ((z : Int) + 1)]) (by simp [results, Tryz.results22, go_sem]) rfl ⟨_, by rw [hkz], by rw [← HX.out]; exact HO1.out, HB1.out⟩
    | cons s t =>
      obtain ⟨j, rfl⟩ : ∃ j', gk = j' + 1 := ⟨gk - 1, by omega⟩
      have hd3 : l.drop z = s.fl ++ (t.fl ++ ([93] :: r)) := by rw [hd2, Sl.fl, List.append_assoc]
      obtain ⟨c2, q, hq, hc93⟩ := s.head
      have hz := drop_head (show l.drop z = c2 :: (q ++ (t.fl ++ ([93] :: r))) by rw [hd3, hq]; rfl)
      obtain ⟨g', o', rfl, hg, c0⟩ := HV2.out.tx hz.1
      have hzn : z < n := by omega
      have q1 := tx_neL hc93
      rw [Sl.each] at ih2
      rw [Sl.wf] at hw2
      have HD := Lib.hid (ih2.1 z _ c1 _ wr hd3 hc1 HO1.out HB1.out)
      have HI2 := Lib.hid ih2.2
      have HW2 := Lib.hid hw2.2
      have HD4 := Lib.hid (drop_more hd3)
      have hjj : t.count + 1 ≤ j := by rw [Sl.count] at hj; omega
      have hlz : z + s.fl.length ≤ n := by have := congrArg List.length hd3; rw [List.length_drop, List.length_append] at this; omega
      have hcl := Sm.cl_fl s hw2.1
      have hln := Sm.code_len s c1.length
      have HX := Lib.hid (show (c1 ++ s.code c1.length) ++ t.code (c1 ++ s.code c1.length).length = fin by have := HFIN.out; rw [Sl.code] at this; rw [List.append_assoc, List.length_append, hln]; exact this)
      have hc3 : (c1 ++ s.code c1.length).length ≤ z + s.fl.length := by rw [List.length_append]; omega
      have hz3 : z + s.fl.length + t.fl.length + 1 = kf := by rw [Sl.fl, List.length_append] at hz2; omega
      clear hg hd2 hd3 hz ih2 hq HFIN hj hw2 hcl hln hc1 hz2
      generalize c1 ++ s.code c1.length = c3 at *
      generalize z + s.fl.length = z2 at *
      go_wp2_with fail
      refine HD.out.mono ?_; rintro e w2 ⟨v2, rfl, o2, b2⟩
      have O2 := Lib.hid o2
      have B2 := Lib.hid b2
      clear o2 b2
      go_wp2_with fail
      go_roundg j
      case measure => omega
      case rel => exact ⟨t, z2, c3, rfl, HD4.out, HI2.out, HW2.out, hc3, O2.out, B2.out, hjj, HX.out, hz3⟩
set_option maxHeartbeats 8000000 in
set_option maxRecDepth 100000 in
theorem deedO_stop (w0 : World) (a : Option Addr) (cap : Nat) (l : List Tk) (n : Nat) (C : Rcc w0 a n cap l) : DeedO w0 a n cap l (.stop) := by
  intro k r c v w hd hc ho hb
  obtain ⟨hk1, hk2, hd1⟩ := drop_head (show l.drop k = stopT :: r from hd)
  have hn := C.hn
  have hl4 := C.hl
  have hkn : k < n := by omega
  obtain ⟨g', o', rfl, hg, c0⟩ := (C.hv.below hb).tx hk1
  replace c0 : w.cell? ⟨g', o' + k, none⟩ = some (.string ⟨#[115, 116, 111, 112]⟩) := c0
  have HO := Lib.hid ho
  have HB := Lib.hid hb
  have HC := Lib.hid hc
  have HE := Lib.hid (show c ++ Sm.code .stop c.length = c ++ [⟨10, 0, noN⟩] by rw [Sm.code])
  have hy : ((k + (Sm.fl .stop).length : Nat) : Int) = (k : Int) + 1 := by simp [Sm.fl]
  have i1 : (k : Int) + 1 ≤ 9223372036854775807 := by omega
  rw [hy, HE.out]
  clear ho hb hc hd hd1 hk1 hg hy
  go_enter Tryz.func14, Tryz.ntmps14
  go_wp2_with (first | (at_builtin; refine append_ops rfl (.tmp 146) (.tmp 148) rfl (base := w0.heap.size) (l := c) (m := [⟨10, 0, noN⟩]) rfl rfl rfl (HO.out.next (bel1 _ _)) (VwO.lit _ ⟨10, 0, noN⟩) (by have := HC.out; simp only [List.length_singleton]; omega) (by rw [World.size_alloc]; have := HB.out.size; omega) ?_; intro v4 w4 o4 g4 n4; have O4 := Lib.hid o4; have B4 := Lib.hid (OwO.lap HB.out HO.out g4); clear o4 g4 n4))
  refine bodyPost_ret (v := .tuple #[v4, .int .i64 ((k : Int) + 1)]) (by simp [results, Tryz.results14, go_sem]) rfl ⟨v4, rfl, O4.out, B4.out⟩
set_option maxHeartbeats 8000000 in
set_option maxRecDepth 100000 in
theorem deedO_cut (w0 : World) (a : Option Addr) (cap : Nat) (l : List Tk) (n : Nat) (C : Rcc w0 a n cap l) (m : Tk) : DeedO w0 a n cap l (.cut m) := by
  intro k r c v w hd hc ho hb
  obtain ⟨hk1, hk2, hd1⟩ := drop_head (show l.drop k = cutT :: (m :: r) by rw [hd]; rfl)
  obtain ⟨hk3, hk4, -⟩ := drop_head hd1
  have hn := C.hn
  have hl4 := C.hl
  have hkn : k + 1 < n := by omega
  obtain ⟨g', o', rfl, hg, c0⟩ := (C.hv.below hb).tx hk1
  obtain ⟨g2, o2, e2, hg2, c1⟩ := (C.hv.below hb).tx hk3
  cases e2
  replace c0 : w.cell? ⟨g', o' + k, none⟩ = some (.string ⟨#[99, 117, 116]⟩) := c0
  have HO := Lib.hid ho
  have HB := Lib.hid hb
  have HC := Lib.hid hc
  have HE := Lib.hid (show c ++ Sm.code (.cut m) c.length = c ++ [⟨6, 0, m⟩] by rw [Sm.code])
  have hy : ((k + (Sm.fl (.cut m)).length : Nat) : Int) = (k : Int) + 2 := by simp [Sm.fl]
  have i1 : (k : Int) + 1 ≤ 9223372036854775807 := by omega
  have i2 : (k : Int) + 2 ≤ 9223372036854775807 := by omega
  have i8 : (0 : Int) ≤ (k : Int) + 1 := by omega
  have i9 : (k : Int) + 1 < (n : Int) := by omega
  have i7 : ((k : Int) + 1).toNat = k + 1 := by omega
  rw [hy, HE.out]
  clear ho hb hc hd hd1 hk1 hk3 hg hg2 hy
  go_enter Tryz.func14, Tryz.ntmps14
  go_wp2_with (first | (at_builtin; refine append_ops rfl (.tmp 44) (.tmp 51) rfl (base := w0.heap.size) (l := c) (m := [⟨6, 0, m⟩]) rfl rfl rfl (HO.out.next (bel1 _ _)) (VwO.lit _ ⟨6, 0, m⟩) (by have := HC.out; simp only [List.length_singleton]; omega) (by rw [World.size_alloc]; have := HB.out.size; omega) ?_; intro v4 w4 o4 g4 n4; have O4 := Lib.hid o4; have B4 := Lib.hid (OwO.lap HB.out HO.out g4); clear o4 g4 n4))
  refine bodyPost_ret (v := .tuple #[v4, .int .i64 ((k : Int) + 2)]) (by simp [results, Tryz.results14, go_sem]) rfl ⟨v4, rfl, O4.out, B4.out⟩
set_option maxHeartbeats 8000000 in
set_option maxRecDepth 100000 in
theorem deedO_set (w0 : World) (a : Option Addr) (cap : Nat) (l : List Tk) (n : Nat) (C : Rcc w0 a n cap l) (m : Tk) (ex : List Tk) (he : eOk ex) : DeedO w0 a n cap l (.set m ex) := by
  intro k r c v w hd hc ho hb
  obtain ⟨u, hu, rfl⟩ := he
  obtain ⟨hk1, hk2, hd1⟩ := drop_head (show l.drop k = setT :: (m :: (u.fl ++ r)) by rw [hd]; rfl)
  obtain ⟨hk3, hk4, hd2⟩ := drop_head hd1
  have hn := C.hn
  have hl4 := C.hl
  have hkn : k + 1 < n := by omega
  have HS := Lib.hid (l11Sum_any w0 a cap l n C u hu (k + 1 + 1) r c v w hd2 (by omega) ho hb)
  rw [show ((k + 1 + 1 : Nat) : Int) = (k : Int) + 2 by omega] at HS
  have TOK := Lib.hid (fun z (hz : Below w0.heap.size w0 z) => (C.hv.below hz).tx hk3)
  obtain ⟨g', o', rfl, hg, c0⟩ := (C.hv.below hb).tx hk1
  replace c0 : w.cell? ⟨g', o' + k, none⟩ = some (.string ⟨#[115, 101, 116]⟩) := c0
  have HC := Lib.hid hc
  have HE := Lib.hid (show c ++ Sm.code (.set m u.fl) c.length = (c ++ u.fo cdF cdG) ++ [⟨5, 0, m⟩] by rw [Sm.code, cdE_fl hu, List.append_assoc])
  have HLE := Lib.hid (cdS_len u)
  have hlu : k + 1 + 1 + u.fl.length ≤ n := by have := congrArg List.length hd2; rw [List.length_drop, List.length_append] at this; omega
  have hy : ((k + (Sm.fl (.set m u.fl)).length : Nat) : Int) = ((k + 1 + 1 + u.fl.length : Nat) : Int) := by simp [Sm.fl]; omega
  have i1 : (k : Int) + 1 ≤ 9223372036854775807 := by omega
  have i2 : (k : Int) + 2 ≤ 9223372036854775807 := by omega
  have i8 : (0 : Int) ≤ (k : Int) + 1 := by omega
  have i9 : (k : Int) + 1 < (n : Int) := by omega
  have i7 : ((k : Int) + 1).toNat = k + 1 := by omega
  rw [hy, HE.out]
  generalize u.fo cdF cdG = ce at *
  generalize u.fl.length = lu at *
  generalize ((k + 1 + 1 + lu : Nat) : Int) = y at *
  clear ho hb hc hd hd1 hd2 hk1 hk3 hg hy HE hu
  go_enter Tryz.func14, Tryz.ntmps14
  go_wp2_with fail
  refine HS.out.mono ?_; rintro e w2 ⟨v2, rfl, o2, b2⟩
  have O2 := Lib.hid o2
  have B2 := Lib.hid b2
  obtain ⟨g2, p2, e2, hg2, c1⟩ := TOK.out w2 b2
  cases e2
  clear o2 b2 hg2
  go_wp2_with (first | (at_builtin; refine append_ops rfl (.tmp 32) (.tmp 39) rfl (base := w0.heap.size) (l := c ++ ce) (m := [⟨5, 0, m⟩]) rfl rfl rfl (O2.out.next (bel1 _ _)) (VwO.lit _ ⟨5, 0, m⟩) (by have := HC.out; have := HLE.out; simp only [List.length_singleton, List.length_append]; omega) (by rw [World.size_alloc]; have := B2.out.size; omega) ?_; intro v4 w4 o4 g4 n4; have O4 := Lib.hid o4; have B4 := Lib.hid (OwO.lap B2.out O2.out g4); clear o4 g4 n4))
  refine bodyPost_ret (v := .tuple #[v4, .int .i64 y]) (by simp [results, Tryz.results14, go_sem]) rfl ⟨v4, rfl, O4.out, B4.out⟩
theorem OwO.slot {B : Nat} {w : World} {v : Value} {l : List Ov} (h : OwO B w v l) {k : Nat} {d : Ov} (hd : l[k]? = some d) : ∃ g cap, v = .slice (some ⟨g, 0, none⟩) l.length cap ∧ At3o w g (k * 3) d ∧ (∀ j, w.frozen? ⟨g, j, none⟩ = false) ∧ B ≤ g ∧ g < w.heap.size := by
  obtain ⟨a, cap, e, hv, hf⟩ := h.own
  obtain ⟨g, e2, -, -⟩ := hf k (List.getElem?_eq_some_iff.1 hd).1
  subst e e2
  obtain ⟨h1, h2, h3, h4⟩ := h.at hd
  exact ⟨g, cap, rfl, h1, h2, h3, h4⟩
theorem OwO.patch {B : Nat} {w : World} {g n cap : Nat} {l m : List Ov} {k : Nat} {d : Ov} {x : Int} (h : OwO B w (.slice (some ⟨g, 0, none⟩) n cap) l) (hd : l[k]? = some d) (hm : l.set k ⟨d.k, x, d.m⟩ = m) : OwO B (w.setCell ⟨g, k * 3 + 1, none⟩ (.int .i64 x)) (.slice (some ⟨g, 0, none⟩) n cap) m := by
  rw [← hm]
  exact OwO.setN h h.len.symm k d hd x
set_option maxHeartbeats 8000000 in
set_option maxRecDepth 100000 in
theorem deedO_if (w0 : World) (a : Option Addr) (cap : Nat) (l : List Tk) (n : Nat) (C : Rcc w0 a n cap l) (ex : List Tk) (b1 b2 : Sl) {d1 d2 : Nat} (he : eOk ex) (hw1 : b1.wf d1) (hw2 : b2.wf d2) (ih1 : b1.each (DeedO w0 a n cap l)) (ih2 : b2.each (DeedO w0 a n cap l)) : DeedO w0 a n cap l (.ifs ex b1 b2) := by
  intro k r c v w hd hc ho hb
  obtain ⟨c1, c2, c3, c4, c5, c6, c7, h1, h2, h3, h4, g4, h5, h6, g6, h7, hfin, n1, n2, n3, n4, n5, n6⟩ := if_key c ex b1 b2 he
  obtain ⟨u, hu, rfl⟩ := he
  rw [cdE_fl hu] at h1
  have hd0 : l.drop k = ifT :: (u.fl ++ ([91] :: (b1.fl ++ ([93] :: ([91] :: (b2.fl ++ ([93] :: r))))))) := by rw [hd]; simp [Sm.fl]
  obtain ⟨hk1, hk2, hd1⟩ := drop_head hd0
  have hd3 := drop_more hd1
  have hd4 : l.drop (k + 1 + u.fl.length + b1.fl.length + 2) = [91] :: (b2.fl ++ ([93] :: r)) := by
    have := (drop_head (drop_more (drop_head hd3).2.2)).2.2
    rw [show k + 1 + u.fl.length + b1.fl.length + 2 = k + 1 + u.fl.length + 1 + b1.fl.length + 1 by omega]; exact this
  have hn := C.hn
  have hl4 := C.hl
  have hkn : k < n := by omega
  have hlen : k + 1 + u.fl.length + b1.fl.length + 2 + b2.fl.length < n := by
    have := congrArg List.length hd4
    rw [List.length_drop, List.length_cons, List.length_append, List.length_cons] at this; omega
  have m1 := Sl.cl_fl b1 hw1
  have m2 := Sl.cl_fl b2 hw2
  have HS := Lib.hid (l11Sum_any w0 a cap l n C u hu (k + 1) _ c v w hd1 (by omega) ho hb)
  have K1 := Lib.hid (fun v2 w2 x1 x2 => l11Block_any w0 a cap l n C b1 hw1 ih1 _ _ c2 v2 w2 hd3 (by omega) x1 x2)
  have K2 := Lib.hid (fun v2 w2 x1 x2 => l11Block_any w0 a cap l n C b2 hw2 ih2 _ _ c5 v2 w2 hd4 (by omega) x1 x2)
  rw [h1] at HS
  rw [h3] at K1
  rw [h6] at K2
  rw [hfin, show ((k + (Sm.fl (.ifs u.fl b1 b2)).length : Nat) : Int) = ((k + 1 + u.fl.length + b1.fl.length + 2 + b2.fl.length + 2 : Nat) : Int) by simp [Sm.fl]; omega]
  obtain ⟨g', o', rfl, hg, c0⟩ := (C.hv.below hb).tx hk1
  replace c0 : w.cell? ⟨g', o' + k, none⟩ = some (.string ⟨#[105, 102]⟩) := c0
  rw [show ((k + 1 : Nat) : Int) = (k : Int) + 1 by omega] at HS
  have G4 := Lib.hid g4
  have G6 := Lib.hid g6
  have H5 := Lib.hid h5
  have H7 := Lib.hid h7
  have j1 : c1.length ≤ 4194304 := by omega
  have j3 : c3.length ≤ 8388608 := by omega
  have j6 : c6.length ≤ 8388608 := by omega
  generalize ((k + 1 + u.fl.length + b1.fl.length + 2 + b2.fl.length + 2 : Nat) : Int) = y5 at *
  generalize ((k + 1 + u.fl.length + b1.fl.length + 2 : Nat) : Int) = y3 at *
  generalize ((k + 1 + u.fl.length : Nat) : Int) = y2 at *
  clear ho hb hc hd hd0 hd1 hd3 hd4 hk1 hg g4 g6 h1 h3 h5 h6 h7 hfin hlen m1 m2 hn hw1 hw2 ih1 ih2 hu
  have N := Lib.hid (And.intro n2 (And.intro n3 (And.intro n4 (And.intro n5 n6))))
  generalize hU : c1.length = U at *
  generalize hV : c3.length = V at *
  have HU := Lib.hid hU
  have HV := Lib.hid hV
  clear n1 n2 n3 n4 n5 n6 hU hV
  have H2 := Lib.hid h2
  have H4 := Lib.hid h4
  clear h2 h4
  go_enter Tryz.func14, Tryz.ntmps14
  go_wp2_with fail
  refine HS.out.mono ?_; rintro e w2 ⟨v2, rfl, o2, b2'⟩
  obtain ⟨a2, p2, e2, -⟩ := o2.view
  subst e2
  rw [HU.out] at o2
  have O2 := Lib.hid o2
  have B2 := Lib.hid b2'
  clear o2 b2'
  rw [HU.out]
  go_wp2_with (first | (at_builtin; refine append_ops rfl (.tmp 67) (.tmp 69) rfl (base := w0.heap.size) (l := c1) (m := [⟨8, 0, noN⟩]) rfl rfl rfl (O2.out.next (bel1 _ _)) (VwO.lit _ ⟨8, 0, noN⟩) (by have := HU.out; simp only [List.length_singleton]; omega) (by rw [World.size_alloc]; have := B2.out.size; omega) ?_; intro v3 w3 o4 g4 n4; rw [H2.out] at o4; obtain ⟨a3, p3, e4, -⟩ := o4.view; subst e4; have O3 := Lib.hid o4; have B3 := Lib.hid (OwO.lap B2.out O2.out g4); clear o4 g4 n4))
  refine (K1.out _ _ O3.out B3.out).mono ?_; rintro e w4 ⟨v4, rfl, o4, b4⟩
  obtain ⟨a4, p4, e4, -⟩ := o4.view
  subst e4
  rw [HV.out] at o4
  have O4 := Lib.hid o4
  have B4 := Lib.hid b4
  clear o4 b4
  rw [HV.out]
  go_wp2_with (first | (at_builtin; refine append_ops rfl (.tmp 80) (.tmp 82) rfl (base := w0.heap.size) (l := c3) (m := [⟨7, 0, noN⟩]) rfl rfl rfl (O4.out.next (bel1 _ _)) (VwO.lit _ ⟨7, 0, noN⟩) (by have := HV.out; simp only [List.length_singleton]; omega) (by rw [World.size_alloc]; have := B4.out.size; omega) ?_; intro v5 w5 o4 g4 n4; rw [H4.out] at o4; have iu := (List.getElem?_eq_some_iff.1 G4.out).1; have iui : (U : Int) < (c4.length : Int) := (by omega); obtain ⟨q5, p5, e4, t4, f4, hq5, l4⟩ := o4.slot G4.out; subst e4; have cu := t4.2.1; have fu := f4 (U * 3 + 1); have O5 := Lib.hid o4; have B5 := Lib.hid (OwO.lap B4.out O4.out g4); clear o4 g4 n4 t4 f4))
  clear cu fu l4
  have O6 := Lib.hid (OwO.patch O5.out G4.out H5.out)
  have B6 := Lib.hid (B5.out.setCell (p := ⟨q5, U * 3 + 1, none⟩) hq5 (.int .i64 (c4.length : Int)))
  refine (K2.out _ _ O6.out B6.out).mono ?_; rintro e w7 ⟨v7, rfl, o7, b7⟩
  have iv := (List.getElem?_eq_some_iff.1 G6.out).1
  have ivi : (V : Int) < (c6.length : Int) := by omega
  obtain ⟨q7, p7, e7, t7, f7, hq7, l7⟩ := o7.slot G6.out
  subst e7
  have cv := t7.2.1
  have fv := f7 (V * 3 + 1)
  have O7 := Lib.hid o7
  have B7 := Lib.hid b7
  clear o7 b7 t7 f7
  go_wp2_with fail
  have O8 := Lib.hid (OwO.patch O7.out G6.out H7.out)
  have B8 := Lib.hid (B7.out.setCell (p := ⟨q7, V * 3 + 1, none⟩) hq7 (.int .i64 (c6.length : Int)))
  refine bodyPost_ret (v := .tuple #[.slice (some ⟨q7, 0, none⟩) c6.length p7, .int .i64 y5]) (by simp [results, Tryz.results14, go_sem]) rfl ⟨_, rfl, O8.out, B8.out⟩
set_option maxHeartbeats 8000000 in
set_option maxRecDepth 100000 in
theorem deedO_whl (w0 : World) (a : Option Addr) (cap : Nat) (l : List Tk) (n : Nat) (C : Rcc w0 a n cap l) (ex : List Tk) (b1 : Sl) {d1 : Nat} (he : eOk ex) (hw1 : b1.wf d1) (ih1 : b1.each (DeedO w0 a n cap l)) : DeedO w0 a n cap l (.whl ex b1) := by
  intro k r c v w hd hc ho hb
  obtain ⟨c0', c1, c2, c3, c4, c5, h0, h1, h2, h3, h4, g4, h5, hfin, n0, n1, n2, n3, n4⟩ := wh_key c ex b1 he
  obtain ⟨u, hu, rfl⟩ := he
  rw [cdE_fl hu] at h1
  have hd0 : l.drop k = whT :: (u.fl ++ ([91] :: (b1.fl ++ ([93] :: r)))) := by rw [hd]; simp [Sm.fl]
  obtain ⟨hk1, hk2, hd1⟩ := drop_head hd0
  have hd3 := drop_more hd1
  have hn := C.hn
  have hl4 := C.hl
  have hkn : k < n := by omega
  have hlen : k + 1 + u.fl.length + b1.fl.length + 1 < n := by
    have := congrArg List.length hd3
    rw [List.length_drop, List.length_cons, List.length_append, List.length_cons] at this; omega
  have m1 := Sl.cl_fl b1 hw1
  have HS := Lib.hid (fun v2 w2 x1 x2 => l11Sum_any w0 a cap l n C u hu (k + 1) _ c0' v2 w2 hd1 (by omega) x1 x2)
  have K1 := Lib.hid (fun v2 w2 x1 x2 => l11Block_any w0 a cap l n C b1 hw1 ih1 _ _ c2 v2 w2 hd3 (by omega) x1 x2)
  rw [h1] at HS
  rw [h3] at K1
  rw [hfin, show ((k + (Sm.fl (.whl u.fl b1)).length : Nat) : Int) = ((k + 1 + u.fl.length + b1.fl.length + 2 : Nat) : Int) by simp [Sm.fl]; omega]
  obtain ⟨g', o', rfl, hg, c0⟩ := (C.hv.below hb).tx hk1
  replace c0 : w.cell? ⟨g', o' + k, none⟩ = some (.string ⟨#[119, 104, 105, 108, 101]⟩) := c0
  rw [show ((k + 1 : Nat) : Int) = (k : Int) + 1 by omega] at HS
  have G4 := Lib.hid g4
  have H5 := Lib.hid h5
  have jc : c.length ≤ 4194304 := by omega
  have j1 : c1.length ≤ 4194304 := by omega
  have j3 : c3.length ≤ 8388608 := by omega
  generalize ((k + 1 + u.fl.length + b1.fl.length + 2 : Nat) : Int) = y3 at *
  generalize ((k + 1 + u.fl.length : Nat) : Int) = y2 at *
  obtain ⟨va, pa, ev, -⟩ := ho.view
  subst ev
  have HO := Lib.hid ho
  have HB := Lib.hid hb
  clear ho hb hc hd hd0 hd1 hd3 hk1 hg g4 h1 h3 h5 hfin hlen m1 hn hw1 ih1 hu
  have N := Lib.hid (And.intro n0 (And.intro n2 (And.intro n3 n4)))
  generalize hU : c1.length = U at *
  generalize hV : c3.length = V at *
  generalize hX : c.length = X at *
  have HU := Lib.hid hU
  have HV := Lib.hid hV
  have HX := Lib.hid hX
  clear n0 n1 n2 n3 n4 hU hV hX
  have H0 := Lib.hid h0
  have H2 := Lib.hid h2
  have H4 := Lib.hid h4
  clear h0 h2 h4
  go_enter Tryz.func14, Tryz.ntmps14
  go_wp2_with (first | (at_builtin; refine append_ops rfl (.tmp 110) (.tmp 112) rfl (base := w0.heap.size) (l := c) (m := [⟨9, 0, noN⟩]) rfl rfl rfl (HO.out.next (bel1 _ _)) (VwO.lit _ ⟨9, 0, noN⟩) (by have := HX.out; simp only [List.length_singleton]; omega) (by rw [World.size_alloc]; have := HB.out.size; omega) ?_; intro v2 w2 o4 g4 n4; rw [H0.out] at o4; obtain ⟨a2, p2, e4, -⟩ := o4.view; subst e4; have O2 := Lib.hid o4; have B2 := Lib.hid (OwO.lap HB.out HO.out g4); clear o4 g4 n4))
  refine (HS.out _ _ O2.out B2.out).mono ?_; rintro e w3 ⟨v3, rfl, o3, b3⟩
  obtain ⟨a3, p3, e3, -⟩ := o3.view
  subst e3
  rw [HU.out] at o3
  have O3 := Lib.hid o3
  have B3 := Lib.hid b3
  clear o3 b3
  rw [HU.out]
  go_wp2_with (first | (at_builtin; refine append_ops rfl (.tmp 122) (.tmp 124) rfl (base := w0.heap.size) (l := c1) (m := [⟨8, 0, noN⟩]) rfl rfl rfl (O3.out.next (bel1 _ _)) (VwO.lit _ ⟨8, 0, noN⟩) (by have := HU.out; simp only [List.length_singleton]; omega) (by rw [World.size_alloc]; have := B3.out.size; omega) ?_; intro v5 w5 o4 g4 n4; rw [H2.out] at o4; obtain ⟨a5, p5, e4, -⟩ := o4.view; subst e4; have O5 := Lib.hid o4; have B5 := Lib.hid (OwO.lap B3.out O3.out g4); clear o4 g4 n4))
  refine (K1.out _ _ O5.out B5.out).mono ?_; rintro e w6 ⟨v6, rfl, o6, b6⟩
  obtain ⟨a6, p6, e6, -⟩ := o6.view
  subst e6
  rw [HV.out] at o6
  have O6 := Lib.hid o6
  have B6 := Lib.hid b6
  clear o6 b6
  rw [HV.out]
  go_wp2_with (first | (at_builtin; refine append_ops rfl (.tmp 133) (.tmp 136) rfl (base := w0.heap.size) (l := c3) (m := [⟨7, (X : Int), noN⟩]) rfl rfl rfl (O6.out.next (bel1 _ _)) (VwO.lit _ ⟨7, (X : Int), noN⟩) (by have := HV.out; simp only [List.length_singleton]; omega) (by rw [World.size_alloc]; have := B6.out.size; omega) ?_; intro v7 w7 o4 g4 n4; rw [H4.out] at o4; have iu := (List.getElem?_eq_some_iff.1 G4.out).1; have iui : (U : Int) < (c4.length : Int) := (by omega); obtain ⟨q7, p7, e4, t4, f4, hq7, l4⟩ := o4.slot G4.out; subst e4; have cu := t4.2.1; have fu := f4 (U * 3 + 1); have O7 := Lib.hid o4; have B7 := Lib.hid (OwO.lap B6.out O6.out g4); clear o4 g4 n4 t4 f4))
  clear cu fu l4
  have O8 := Lib.hid (OwO.patch O7.out G4.out H5.out)
  have B8 := Lib.hid (B7.out.setCell (p := ⟨q7, U * 3 + 1, none⟩) hq7 (.int .i64 (c4.length : Int)))
  refine bodyPost_ret (v := .tuple #[.slice (some ⟨q7, 0, none⟩) c4.length p7, .int .i64 y3]) (by simp [results, Tryz.results14, go_sem]) rfl ⟨_, rfl, O8.out, B8.out⟩
mutual
theorem Sm.codeC (w0 : World) (a : Option Addr) (cap : Nat) (l : List Tk) (n : Nat) (C : Rcc w0 a n cap l) : ∀ (s : Sm) (d : Nat), s.wf d → DeedO w0 a n cap l s
  | .set m e, d, h => deedO_set w0 a cap l n C m e (by rw [Sm.wf] at h; exact h.2.ok)
  | .cut m, d, h => deedO_cut w0 a cap l n C m
  | .stop, d, h => deedO_stop w0 a cap l n C
  | .ifs e b1 b2, 0, h => by rw [Sm.wf] at h; exact h.elim
  | .ifs e b1 b2, d + 1, h => by
    rw [Sm.wf] at h
    exact deedO_if w0 a cap l n C e b1 b2 h.1.ok h.2.1 h.2.2 (Sl.codeC w0 a cap l n C b1 d h.2.1) (Sl.codeC w0 a cap l n C b2 d h.2.2)
  | .whl e b1, 0, h => by rw [Sm.wf] at h; exact h.elim
  | .whl e b1, d + 1, h => by
    rw [Sm.wf] at h
    exact deedO_whl w0 a cap l n C e b1 h.1.ok h.2 (Sl.codeC w0 a cap l n C b1 d h.2)
theorem Sl.codeC (w0 : World) (a : Option Addr) (cap : Nat) (l : List Tk) (n : Nat) (C : Rcc w0 a n cap l) : ∀ (s : Sl) (d : Nat), s.wf d → s.each (DeedO w0 a n cap l)
  | .nil, d, h => by rw [Sl.each]; trivial
  | .cons s r, d, h => by
    rw [Sl.wf] at h
    rw [Sl.each]
    exact ⟨Sm.codeC w0 a cap l n C s d h.1, Sl.codeC w0 a cap l n C r d h.2⟩
end
set_option maxHeartbeats 8000000 in
set_option maxRecDepth 100000 in
theorem specCode_any (w : World) (a : Option Addr) (cap : Nat) (l : List Tk) (n : Nat) (C : Rcc w a n cap l) :
    Calls Tryz.prog 5 #[.slice a n cap] w fun e w' => ∃ v, e = .returned v ∧ OwO w.heap.size w' v (cdR l) ∧ Below w.heap.size w w' := by
  have hst := OwO.start (Nat.le_refl w.heap.size)
  have hbl := bel1 w (.cells #[] 34)
  have HR := Lib.hid (specRecipeOk_any (w.alloc (.cells #[] 34)) a cap l n C.hn (C.hv.below hbl) C.hl C.hm)
  have HO := Lib.hid hst
  have HB := Lib.hid hbl
  clear hst hbl
  cases hrc : rcB l
  · rw [hrc] at HR
    have HE := Lib.hid (cdR_no hrc)
    clear hrc
    go_enter Tryz.func5, Tryz.ntmps5
    go_wp2_with fail
    refine HR.out.mono ?_; rintro e w1 ⟨rfl, b1⟩
    have B1 := Lib.hid (bel_tr HB.out b1 (Nat.le_refl _))
    have O1 := Lib.hid (HO.out.next b1)
    clear b1
    go_wp2_with fail
    go_ret
    exact ⟨_, rfl, by rw [HE.out]; exact O1.out, B1.out⟩
  · rw [hrc] at HR
    obtain ⟨t, hw, ht, hcd⟩ := cdR_tree hrc
    have HE := Lib.hid hcd
    have HT := Lib.hid (Sl.codeC w a cap l n C t 5 hw)
    have HW := Lib.hid hw
    have hn := C.hn
    have hl4 := C.hl
    have D0 := Lib.hid (show l.drop 0 = t.fl from ht)
    have htl : t.fl.length = n := by rw [← ht]; exact hn
    obtain ⟨fin, hfin⟩ : ∃ z, t.code 0 = z := ⟨_, rfl⟩
    rw [hfin] at HE
    have HFIN := Lib.hid hfin
    have hfl : fin.length ≤ n := by rw [← hfin, Sl.code_len]; have := Sl.cl_fl t hw; omega
    have HFL := Lib.hid hfl
    clear hrc hcd hw ht hfin hfl
    go_enter Tryz.func5, Tryz.ntmps5
    go_wp2_with fail
    refine HR.out.mono ?_; rintro e w1 ⟨rfl, b1⟩
    have B1 := Lib.hid (bel_tr HB.out b1 (Nat.le_refl _))
    have O1 := Lib.hid (HO.out.next b1)
    clear b1
    go_wp2_with fail
    go_loopg [3, 4] (t.count + 1) (fun j q i wr => ∃ (t' : Sl) (z : Nat) (c1 : List Ov), i = .int .i64 (z : Int) ∧ l.drop z = t'.fl ∧ t'.each (DeedO w a n cap l) ∧ t'.wf 5 ∧ c1.length ≤ z ∧ OwO w.heap.size wr q c1 ∧ Below w.heap.size w wr ∧ t'.count + 1 ≤ j ∧ z ≤ n ∧ c1 ++ t'.code c1.length = fin)
    case atStart => exact ⟨t, 0, [], by go_num, D0.out, HT.out, HW.out, Nat.le_refl _, O1.out, B1.out, Nat.le_refl _, Nat.zero_le _, by rw [List.nil_append]; exact HFIN.out⟩
    case round =>
      clear HFIN HT D0 HO HB HR O1 B1 HW
      obtain ⟨t', z, c1, rfl, hd2, ih2, hw2, hc1, ho1, hb1, hj, hzn, hfin⟩ := hrel
      have HFIN := Lib.hid hfin
      have HO1 := Lib.hid ho1
      have HB1 := Lib.hid hb1
      obtain ⟨qa, qc, eq0, -⟩ := ho1.view
      subst eq0
      clear hfin ho1 hb1
      cases t' with
      | nil =>
        have hz : n ≤ z := by have := List.drop_eq_nil_iff.1 (show l.drop z = [] from hd2); omega
        obtain rfl : z = n := by omega
        have t5 : decide ((z : Int) < (z : Int)) = false := by simp
        have HX := Lib.hid (show c1 = fin by have := HFIN.out; rw [Sl.code, List.append_nil] at this; exact this)
        clear hd2 ih2
        go_wp2_with (first | (at_builtin; refine append_ops rfl (.tmp 21) (.tmp 23) rfl (base := w.heap.size) (l := c1) (m := [⟨11, 0, noN⟩]) rfl rfl rfl (HO1.out.next (bel1 _ _)) (VwO.lit _ ⟨11, 0, noN⟩) (by have := HFL.out; have := HX.out; simp only [List.length_singleton]; omega) (by rw [World.size_alloc]; have := HB1.out.size; omega) ?_; intro v4 w4 o4 g4 n4; have O4 := Lib.hid o4; have B4 := Lib.hid (OwO.lap HB1.out HO1.out g4); clear o4 g4 n4))
        refine bodyPost_ret (v := v4) (by simp [results, Tryz.results5, go_sem]) rfl ⟨v4, rfl, by rw [HE.out, ← HX.out]; exact O4.out, B4.out⟩
      | cons s t' =>
        obtain ⟨j, rfl⟩ : ∃ j', gk = j' + 1 := ⟨gk - 1, by omega⟩
        have hd3 : l.drop z = s.fl ++ t'.fl := by rw [hd2, Sl.fl]
        rw [Sl.each] at ih2
        rw [Sl.wf] at hw2
        have HD := Lib.hid (ih2.1 z _ c1 _ wr hd3 hc1 HO1.out HB1.out)
        have HI2 := Lib.hid ih2.2
        have HW2 := Lib.hid hw2.2
        have HD4 := Lib.hid (drop_more hd3)
        have hjj : t'.count + 1 ≤ j := by rw [Sl.count] at hj; omega
        have hsp := s.pos
        have hlz : z + s.fl.length ≤ n ∧ z < n := by have := congrArg List.length hd3; rw [List.length_drop, List.length_append] at this; omega
        have hcl := Sm.cl_fl s hw2.1
        have hln := Sm.code_len s c1.length
        have HX := Lib.hid (show (c1 ++ s.code c1.length) ++ t'.code (c1 ++ s.code c1.length).length = fin by have := HFIN.out; rw [Sl.code] at this; rw [List.append_assoc, List.length_append, hln]; exact this)
        have hc3 : (c1 ++ s.code c1.length).length ≤ z + s.fl.length := by rw [List.length_append]; omega
        have t5 : (z : Int) < (n : Int) := by omega
        have t6 : decide (z < n) = true := by simpa using hlz.2
        have hl2 := hlz.1
        clear hd2 hd3 ih2 HFIN hj hsp hlz hw2 hcl hln
        generalize c1 ++ s.code c1.length = c3 at *
        generalize z + s.fl.length = z2 at *
        go_wp2_with fail
        refine HD.out.mono ?_; rintro e w2 ⟨v2, rfl, o2, b2⟩
        have O2 := Lib.hid o2
        have B2 := Lib.hid b2
        clear o2 b2
        go_wp2_with fail
        go_roundg j
        case measure => omega
        case rel => exact ⟨t', z2, c3, rfl, HD4.out, HI2.out, HW2.out, hc3, O2.out, B2.out, hjj, hl2, HX.out⟩
end Go.Proofs.YtoiphglfngkoiaaGreatDoor.Cl
namespace Go.Proofs.YtoiphglfngkoiaaGreatDoor.Cl
set_option linter.unusedVariables false
open Go.RowKit Wd Rp Kp
structure Q3 (q : Nat) (k n : Int) (m : Tk) (w : World) : Prop where
  c0 : w.cell? ⟨q, 0, none⟩ = some (.int .i64 k)
  c1 : w.cell? ⟨q, 1, none⟩ = some (.int .i64 n)
  c2 : w.cell? ⟨q, 2, none⟩ = some (.string (tx m))
  f0 : w.frozen? ⟨q, 0, none⟩ = false
  f1 : w.frozen? ⟨q, 1, none⟩ = false
  f2 : w.frozen? ⟨q, 2, none⟩ = false
  lt : q < w.heap.size
theorem Q3.of {q T : Nat} {k n : Int} {m : Tk} {w : World} (e : w.heap[q]? = some (.cells #[.int .i64 k, .int .i64 n, .string (tx m)] T (0, 0))) : Q3 q k n m w :=
  ⟨by simp only [World.cell?, e]; rfl, by simp only [World.cell?, e]; rfl, by simp only [World.cell?, e]; rfl, by simp only [World.frozen?, e]; rfl, by simp only [World.frozen?, e]; rfl, by simp only [World.frozen?, e]; rfl, (Array.getElem?_eq_some_iff.1 e).1⟩
theorem Q3.made (k n : Int) (m : Tk) (w : World) (T : Nat) : Q3 w.heap.size k n m (w.alloc (.cells #[.int .i64 k, .int .i64 n, .string (tx m)] T)) := Q3.of (T := T) (show (w.heap.push _)[w.heap.size]? = _ by simp)
theorem Q3.same {q : Nat} {k n : Int} {m : Tk} {w w' : World} (h : Q3 q k n m w) (e : w'.heap[q]? = w.heap[q]?) (hl : w.heap.size ≤ w'.heap.size) : Q3 q k n m w' :=
  ⟨(World.cell?_of_block (w := w) e).trans h.c0, (World.cell?_of_block (w := w) e).trans h.c1, (World.cell?_of_block (w := w) e).trans h.c2, (World.frozen?_of_block (w := w) e).trans h.f0, (World.frozen?_of_block (w := w) e).trans h.f1, (World.frozen?_of_block (w := w) e).trans h.f2, Nat.lt_of_lt_of_le h.lt hl⟩
theorem Q3.next {q : Nat} {k n : Int} {m : Tk} {w w' : World} (h : Q3 q k n m w) (hb : Below w.heap.size w w') : Q3 q k n m w' := h.same (hb.block q h.lt) hb.size
set_option maxHeartbeats 1000000 in
theorem eqOp_self (o : Ov) (w : World) : Calls Tryz.prog 18 #[.agg #[.int .i64 o.k, .int .i64 o.n, .string (tx o.m)], .agg #[.int .i64 o.k, .int .i64 o.n, .string (tx o.m)]] w fun e w' => e = .returned (.bool true) ∧ Below w.heap.size w w' := by
  have HB := Lib.hid (bel2 w)
  have h1 : (o.k != o.k) = false := by simp
  have h2 : (o.n != o.n) = false := by simp
  go_enter Tryz.func18, Tryz.ntmps18
  go_wp2_with fail
  go_ret
  exact ⟨rfl, HB.out _ _⟩
end Go.Proofs.YtoiphglfngkoiaaGreatDoor.Cl
namespace Go.Proofs.YtoiphglfngkoiaaGreatDoor.Cl
set_option linter.unusedVariables false
open Go.RowKit Wd Rp Kp Ra Go.Shelf
structure Cd (w1 : World) (p : Nat) (c : List Ov) (w : World) : Prop where
  hp : w1.heap.size ≤ p
  lt : p < w.heap.size
  fz : w.frozen? ⟨p, 0, none⟩ = false
  cc : ∃ v, w.cell? ⟨p, 0, none⟩ = some v ∧ OwO w1.heap.size w v c ∧ v.ownBlock ≠ some p
  bw : Below w1.heap.size w1 w
theorem Cd.next {w1 w w' : World} {p : Nat} {c : List Ov} (h : Cd w1 p c w) (hb : Below w.heap.size w w') : Cd w1 p c w' := by
  obtain ⟨h1, h2, h3, ⟨v, h4, h5, h6⟩, h7⟩ := h
  have e := hb.block p h2
  exact ⟨h1, Nat.lt_of_lt_of_le h2 hb.size, (World.frozen?_of_block (w := w) e).trans h3, ⟨v, (World.cell?_of_block (w := w) e).trans h4, h5.next hb, h6⟩, h7.trans (hb.mono h7.size)⟩
theorem Cd.grown {w1 w w' : World} {p : Nat} {c m : List Ov} {v v' : Value} (h : Cd w1 p c w) (hv : w.cell? ⟨p, 0, none⟩ = some v) (ho : OwO w1.heap.size w' v' m) (hg : w.grownBy w' v.ownBlock) (hn : v'.ownBlock = v.ownBlock ∨ v'.ownBlock = some w.heap.size) :
    w'.cell? ⟨p, 0, none⟩ = some v ∧ w'.frozen? ⟨p, 0, none⟩ = false ∧ p < w'.heap.size ∧ Cd w1 p m (w'.setCell ⟨p, 0, none⟩ v') := by
  obtain ⟨h1, h2, h3, ⟨v0, h4, h5, h6⟩, h7⟩ := h
  rw [hv] at h4
  cases h4
  have e := hg.block p h2 (fun e => h6 e.symm)
  have c0 := (World.cell?_of_block (w := w) (a := ⟨p, 0, none⟩) e).trans hv
  have hlt : ∀ k, v.ownBlock = some k → w1.heap.size ≤ k := fun k hk => OwO.lt h5 k hk
  have hne : v'.ownBlock ≠ some p := by
    rcases hn with e2 | e2
    · rw [e2]; exact h6
    · rw [e2]; intro e3; cases e3; omega
  refine ⟨c0, (World.frozen?_of_block (w := w) e).trans h3, Nat.lt_of_lt_of_le h2 hg.size, ⟨h1, by rw [World.size_setCell]; exact Nat.lt_of_lt_of_le h2 hg.size, by rw [World.frozen?_setCell]; exact (World.frozen?_of_block (w := w) e).trans h3, ⟨v', World.cell?_setCell_same' _ _ _ (by rw [c0]; rfl), ?_, hne⟩, ?_⟩⟩
  · exact row_next ho fun g hgb _ => Below.heap_setCell _ _ _ _ (fun e => hne (by have e' : g = p := e; rw [← e']; exact hgb))
  · exact (h7.grown hg h7.size (fun k hk => hlt k hk)).setCell (p := ⟨p, 0, none⟩) h1 _
theorem Cd.patch {w1 w : World} {p g n cap : Nat} {c m : List Ov} {k : Nat} {d : Ov} {x : Int} (h : Cd w1 p c w) (hv : w.cell? ⟨p, 0, none⟩ = some (.slice (some ⟨g, 0, none⟩) n cap)) (hd : c[k]? = some d) (hm : c.set k ⟨d.k, x, d.m⟩ = m) : Cd w1 p m (w.setCell ⟨g, k * 3 + 1, none⟩ (.int .i64 x)) := by
  obtain ⟨h1, h2, h3, ⟨v0, h4, h5, h6⟩, h7⟩ := h
  rw [hv] at h4
  cases h4
  have hgp : g ≠ p := fun e => h6 (by rw [e]; rfl)
  have hB := OwO.lt h5 g rfl
  have e : (w.setCell ⟨g, k * 3 + 1, none⟩ (.int .i64 x)).heap[p]? = w.heap[p]? := Below.heap_setCell _ _ _ _ (fun e => hgp (by have e' : p = g := e; exact e'.symm))
  exact ⟨h1, by rw [World.size_setCell]; exact h2, by rw [World.frozen?_setCell]; exact h3, ⟨_, (World.cell?_of_block (w := w) e).trans hv, OwO.patch h5 hd hm, h6⟩, h7.setCell (p := ⟨g, k * 3 + 1, none⟩) hB _⟩
def Ob (p : Nat) (w : World) (g : Nat) : Prop := ∃ v, w.cell? ⟨p, 0, none⟩ = some v ∧ v.ownBlock = some g
structure Cf (p : Nat) (w w' : World) : Prop where
  sz : w.heap.size ≤ w'.heap.size
  blk : ∀ g, g < w.heap.size → g ≠ p → ¬ Ob p w g → w'.heap[g]? = w.heap[g]?
  own : ∀ g, g < w.heap.size → Ob p w' g → Ob p w g
theorem Cf.trans {p : Nat} {a b c : World} (h : Cf p a b) (k : Cf p b c) : Cf p a c :=
  ⟨Nat.le_trans h.sz k.sz, fun g h1 h2 h3 => (k.blk g (Nat.lt_of_lt_of_le h1 h.sz) h2 (fun e => h3 (h.own g h1 e))).trans (h.blk g h1 h2 h3), fun g h1 h2 => h.own g h1 (k.own g (Nat.lt_of_lt_of_le h1 h.sz) h2)⟩
theorem Cf.of_below {p N : Nat} {w w' : World} (hp : p < w.heap.size) (hN : w.heap.size = N) (hb : Below N w w') : Cf p w w' := by
  subst hN
  refine ⟨hb.size, fun g h1 _ _ => hb.block g h1, fun g _ h => ?_⟩
  obtain ⟨v, h1, h2⟩ := h
  exact ⟨v, (World.cell?_of_block (w := w) (a := ⟨p, 0, none⟩) (hb.block p hp)).symm.trans h1, h2⟩
theorem Cf.grown {w1 w w' : World} {p : Nat} {c : List Ov} {v v' : Value} (h : Cd w1 p c w) (hv : w.cell? ⟨p, 0, none⟩ = some v) (hg : w.grownBy w' v.ownBlock) (hn : v'.ownBlock = v.ownBlock ∨ v'.ownBlock = some w.heap.size) : Cf p w (w'.setCell ⟨p, 0, none⟩ v') := by
  obtain ⟨h1, h2, h3, ⟨v0, h4, h5, h6⟩, h7⟩ := h
  rw [hv] at h4
  cases h4
  have c0 := (World.cell?_of_block (w := w) (a := ⟨p, 0, none⟩) (hg.block p h2 (fun e => h6 e.symm))).trans hv
  refine ⟨by rw [World.size_setCell]; exact hg.size, fun g k1 k2 k3 => (Below.heap_setCell _ _ _ _ k2).trans (hg.block g k1 (fun e => k3 ⟨v, hv, e.symm⟩)), fun g k1 k2 => ?_⟩
  obtain ⟨x, x1, x2⟩ := k2
  rw [World.cell?_setCell_same' _ _ _ (by rw [c0]; rfl)] at x1
  cases x1
  rcases hn with e | e
  · exact ⟨v, hv, by rw [← e]; exact x2⟩
  · rw [e] at x2; cases x2; omega
theorem Cf.patch {w1 w : World} {p g n cap o : Nat} {c : List Ov} {x : Value} (h : Cd w1 p c w) (hv : w.cell? ⟨p, 0, none⟩ = some (.slice (some ⟨g, 0, none⟩) n cap)) : Cf p w (w.setCell ⟨g, o, none⟩ x) := by
  obtain ⟨h1, h2, h3, ⟨v0, h4, h5, h6⟩, h7⟩ := h
  rw [hv] at h4
  cases h4
  have hgp : g ≠ p := fun e => h6 (by rw [e]; rfl)
  have e : (w.setCell ⟨g, o, none⟩ x).heap[p]? = w.heap[p]? := Below.heap_setCell _ _ _ _ (fun e => hgp (by have e' : p = g := e; exact e'.symm))
  refine ⟨by rw [World.size_setCell]; exact Nat.le_refl _, fun k k1 k2 k3 => Below.heap_setCell _ _ _ _ (fun e => k3 ⟨_, hv, by have e' : k = g := e; rw [e']; rfl⟩), fun k k1 k2 => ?_⟩
  obtain ⟨y, y1, y2⟩ := k2
  exact ⟨y, (World.cell?_of_block (w := w) (a := ⟨p, 0, none⟩) e).symm.trans y1, y2⟩
theorem Cd.free {w1 w : World} {p : Nat} {c : List Ov} (h : Cd w1 p c w) : ¬ Ob p w w.heap.size := by
  rintro ⟨v, h1, h2⟩
  obtain ⟨v', h3, h4, -⟩ := h.cc
  rw [h1] at h3
  cases h3
  exact absurd (OwO.low h4 _ h2) (Nat.lt_irrefl _)
def CdR (w1 : World) (p : Nat) (c : List Ov) (w : World) (e : Ending) (w' : World) : Prop := e = .returned (.tuple #[]) ∧ Cd w1 p c w' ∧ Cf p w w'
set_option maxHeartbeats 4000000 in
set_option maxRecDepth 100000 in
theorem next_any {w1 w : World} {p : Nat} {c : List Ov} (h : Cd w1 p c w) : Calls Tryz.prog 32 #[.pointer (some ⟨p, 0, none⟩)] w fun e w' => e = .returned (.int .i64 (c.length : Int)) ∧ w = w' := by
  obtain ⟨v, hc, ho, -⟩ := h.cc
  obtain ⟨va, vc, rfl, -⟩ := ho.view
  clear ho h
  generalize c.length = n at *
  go_enter Tryz.func32, Tryz.ntmps32
  go_wp2_with fail
  go_ret
  exact ⟨rfl, rfl⟩
set_option maxHeartbeats 4000000 in
set_option maxRecDepth 100000 in
theorem add_any {w1 w : World} {p : Nat} {c : List Ov} (h : Cd w1 p c w) (k n : Int) (m : Tk) (hl : c.length ≤ 4194304) :
    Calls Tryz.prog 17 #[.pointer (some ⟨p, 0, none⟩), .agg #[.int .i64 k, .int .i64 n, .string (tx m)]] w (CdR w1 p (c ++ [⟨k, n, m⟩]) w) := by
  obtain ⟨c2, h2⟩ : ∃ z, c ++ [(⟨k, n, m⟩ : Ov)] = z := ⟨_, rfl⟩
  rw [h2]
  have H2 := Lib.hid h2
  clear h2
  have hbl := bel1 w (.cells #[.int .i64 k, .int .i64 n, .string (tx m)] 34)
  have X1 := Lib.hid (h.next hbl)
  have Q1 := Lib.hid (Q3.made k n m w 34)
  have HL := Lib.hid hl
  have H1 := Lib.hid hbl
  have hr := h.lt
  have hr1 := h.hp
  have HLOW0 := Lib.hid (show ∀ v, w.cell? ⟨p, 0, none⟩ = some v → ∀ k, v.ownBlock = some k → k < w.heap.size from fun v hv k hk => by
    obtain ⟨v', h1, h2, -⟩ := h.cc
    rw [hv] at h1
    cases h1
    exact OwO.low h2 k hk)
  have HP := Lib.hid (show (w.alloc (.cells #[.int .i64 k, .int .i64 n, .string (tx m)] 34)).cell? ⟨p, 0, none⟩ = w.cell? ⟨p, 0, none⟩ from World.cell?_of_block (w := w) (hbl.block p h.lt))
  clear hbl h hl
  go_enter Tryz.func17, Tryz.ntmps17
  go_wp2_with fail
  generalize w.alloc (.cells #[.int .i64 k, .int .i64 n, .string (tx m)] 34) = wa at *
  generalize hq : w.heap.size = r at *
  have X2 := Lib.hid (X1.out.next (Below.refl _ _).drew)
  have Q2 := Lib.hid (Q1.out.next (Below.refl _ _).drew)
  have b3 := bel1 wa (.cells #[.int .i64 k, .int .i64 n, .string (tx m)] 34)
  have b4 := (b3.drew : Below wa.heap.size wa _)
  have X3 := Lib.hid (X1.out.next b4)
  have F3 := Lib.hid (Cf.of_below (p := p) (by omega) hq (bel_tr H1.out b4 (Nat.le_of_eq hq.symm)))
  have Q3' := Lib.hid (Q1.out.next b4)
  have L3 := Lib.hid ((VwO.lit wa ⟨k, n, m⟩).below (Below.refl _ _).drew)
  obtain ⟨v, hc, ho, hne⟩ := X1.out.cc
  obtain ⟨va, vc, rfl, -⟩ := ho.view
  have CV2 := Lib.hid (show wa.drew.cell? ⟨p, 0, none⟩ = some (.slice va c.length vc) from hc)
  have CV3 := Lib.hid ((World.cell?_of_block (w := wa) (a := ⟨p, 0, none⟩) (b4.block p X1.out.lt)).trans hc)
  have O3 := Lib.hid (ho.next b4)
  have hz : w1.heap.size ≤ (wa.alloc (.cells #[.int .i64 k, .int .i64 n, .string (tx m)] 34)).drew.heap.size := X3.out.bw.size
  have HLOW := Lib.hid (HLOW0.out _ (HP.out.symm.trans (show wa.cell? ⟨p, 0, none⟩ = some (.slice va c.length vc) from hc)))
  have HRR := Lib.hid (show (Value.slice va c.length vc).ownBlock ≠ some r from fun e => by have h9 := HLOW.out r e; omega)
  have hrp : r ≠ p := by omega
  clear hc ho hne b3 b4
  refine wp_region_held_drew (S := fun z => z.cell? ⟨r, 0, none⟩ = some (.int .i64 k) ∧ z.cell? ⟨r, 1, none⟩ = some (.int .i64 n) ∧ z.cell? ⟨r, 2, none⟩ = some (.string (tx m))) (by kernel_rfl) ⟨Q2.out.c0, Q2.out.c1, Q2.out.c2⟩ (fun hHeld => ?_)
  refine wpAnyH_take (i := 0) (v := ?v0a) rfl (by kernel_rfl) (by kernel_rfl) (by kernel_rfl) (fun _ _ _ h => h) (Or.inl ⟨by rfl, ?hy0a⟩) (by assumption) ?rest0a
  case hy0a => (intro zz hSw; (try dsimp only at hSw); go_simp; (try with_reducible rfl))
  change wpAnyH _ _ _ _ _ _ _ (Act.put _ (some 4) _) _
  simp only [Act.put, List.setIfInBounds_toArray, List.set_cons_zero, List.set_cons_succ]
  refine wpAnyH_take (i := 1) (v := ?v1a) rfl (by kernel_rfl) (by kernel_rfl) (by kernel_rfl) (fun _ _ _ h => h) (Or.inl ⟨by rfl, ?hy1a⟩) (by assumption) ?rest1a
  case hy1a => (intro zz hSw; (try dsimp only at hSw); go_simp; (try with_reducible rfl))
  change wpAnyH _ _ _ _ _ _ _ (Act.put _ (some 5) _) _
  simp only [Act.put, List.setIfInBounds_toArray, List.set_cons_zero, List.set_cons_succ]
  refine wpAnyH_take (i := 2) (v := ?v2a) rfl (by kernel_rfl) (by kernel_rfl) (by kernel_rfl) (fun _ _ _ h => h) (Or.inl ⟨by rfl, ?hy2a⟩) (by assumption) ?rest2a
  case hy2a => (intro zz hSw; (try dsimp only at hSw); go_simp; (try with_reducible rfl))
  change wpAnyH _ _ _ _ _ _ _ (Act.put _ (some 6) _) _
  simp only [Act.put, List.setIfInBounds_toArray, List.set_cons_zero, List.set_cons_succ]
  refine wpAnyH_take (i := 3) (v := ?v3a) rfl (by kernel_rfl) (by kernel_rfl) (by kernel_rfl) (fun _ _ _ h => h) (Or.inl ⟨by rfl, ?hy3a⟩) (by assumption) ?rest3a
  case hy3a => (intro zz hSw; (try dsimp only at hSw); go_simp; (try with_reducible rfl))
  change wpAnyH _ _ _ _ _ _ _ (Act.put _ (some 7) _) _
  simp only [Act.put, List.setIfInBounds_toArray, List.set_cons_zero, List.set_cons_succ]
  refine wpAnyH_take (i := 5) (v := ?v5a) rfl (by kernel_rfl) (by kernel_rfl) (by kernel_rfl) (fun _ _ _ h => h) (Or.inl ⟨by rfl, ?hy5a⟩) (by assumption) ?rest5a
  case hy5a => (intro zz hSw; (try dsimp only at hSw); go_simp; (try with_reducible rfl))
  change wpAnyH _ _ _ _ _ _ _ (Act.put _ (some 9) _) _
  simp only [Act.put, List.setIfInBounds_toArray, List.set_cons_zero, List.set_cons_succ]
  refine wpAnyH_ready (rs := [4, 6]) (by kernel_rfl) (by simp) (AllReadyH.cons rfl (fun K hK => ?_) (AllReadyH.cons rfl (fun K hK => ?_) (AllReadyH.nil)))
  · skip
    have cv := CV2.out
    go_simp
    refine hK.out _ _ hHeld (fun hHeld => ?_)
    clear hK K cv
    refine wpAnyH_ready (rs := [6]) (by kernel_rfl) (by simp) (AllReadyH.cons rfl (fun K hK => ?_) (AllReadyH.nil))
    go_simp
    refine hK.out _ _ ⟨Q3'.out.c0, Q3'.out.c1, Q3'.out.c2⟩ (fun hHeld => ?_)
    clear hK K
    refine wpAnyH_ready (rs := [7]) (by kernel_rfl) (by simp) (AllReadyH.cons rfl (fun K hK => ?_) (AllReadyH.nil))
    refine step_append_ops rfl (.tmp 8) (.tmp 10) rfl (base := w1.heap.size) (l := c) (m := [⟨k, n, m⟩]) rfl rfl rfl O3.out L3.out (by have := HL.out; simp only [List.length_singleton]; omega) hz ?_
    intro v5 w5 o5 g5 n5
    rw [H2.out] at o5
    obtain ⟨v5a, v5c, e5, -⟩ := o5.view
    subst e5
    obtain ⟨cv5, fz5, lt5, x5⟩ := Cd.grown X3.out CV3.out o5 g5 n5
    have X5 := Lib.hid x5
    have F5 := Lib.hid (F3.out.trans (Cf.grown X3.out CV3.out g5 n5))
    have CV5 := Lib.hid (And.intro cv5 (And.intro fz5 lt5))
    have Q5 := Lib.hid (Q3'.out.same (g5.block r Q3'.out.lt (fun e => HRR.out e.symm)) g5.size)
    clear g5
    clear o5 n5 x5 cv5 fz5 lt5
    refine hK.out _ _ ⟨Q5.out.c0, Q5.out.c1, Q5.out.c2⟩ (fun hHeld => ?_)
    clear hK K
    change wpAnyH _ _ _ _ _ _ _ (Act.put _ (some 11) _) _
    simp only [Act.put, List.setIfInBounds_toArray, List.set_cons_zero, List.set_cons_succ]
    refine wpAnyH_take (i := 8) (v := ?v8ax) rfl (by kernel_rfl) (by kernel_rfl) (by kernel_rfl) (fun _ _ _ h => h) (Or.inl ⟨by rfl, ?hy8ax⟩) (by assumption) ?rest8ax
    case hy8ax => (intro zz hSw; (try dsimp only at hSw); go_simp; (try with_reducible rfl))
    change wpAnyH _ _ _ _ _ _ _ (Act.put _ (some 12) _) _
    simp only [Act.put, List.setIfInBounds_toArray, List.set_cons_zero, List.set_cons_succ]
    refine wpAnyH_take (i := 9) (v := ?v9ax) rfl (by kernel_rfl) (by kernel_rfl) (by kernel_rfl) (fun _ _ _ h => h) (Or.inl ⟨by rfl, ?hy9ax⟩) (by assumption) ?rest9ax
    case hy9ax => (intro zz hSw; (try dsimp only at hSw); go_simp; (try with_reducible rfl))
    change wpAnyH _ _ _ _ _ _ _ (Act.put _ (some 13) _) _
    simp only [Act.put, List.setIfInBounds_toArray, List.set_cons_zero, List.set_cons_succ]
    refine wpAnyH_ready (rs := [10]) (by kernel_rfl) (by simp) (AllReadyH.cons rfl (fun K hK => ?_) (AllReadyH.nil))
    obtain ⟨cv5, fz5, lt5⟩ := CV5.out
    go_simp
    refine hK.out _ _ ⟨(World.cell?_of_block (w := w5) (Below.heap_setCell _ _ _ r hrp)).trans Q5.out.c0, (World.cell?_of_block (w := w5) (Below.heap_setCell _ _ _ r hrp)).trans Q5.out.c1, (World.cell?_of_block (w := w5) (Below.heap_setCell _ _ _ r hrp)).trans Q5.out.c2⟩ (fun hHeld => ?_)
    clear hK K cv5 fz5 lt5
    refine wpAnyH_done (by kernel_rfl) ?_ _
    clear hHeld
    exact bodyPost_end (v := .tuple #[]) (by simp [results, Tryz.results17, go_sem]) rfl ⟨rfl, X5.out, F5.out⟩
  · skip
    go_simp
    refine hK.out _ _ ⟨Q3'.out.c0, Q3'.out.c1, Q3'.out.c2⟩ (fun hHeld => ?_)
    clear hK K
    refine wpAnyH_ready (rs := [4]) (by kernel_rfl) (by simp) (AllReadyH.cons rfl (fun K hK => ?_) (AllReadyH.nil))
    have cv := CV3.out
    go_simp
    refine hK.out _ _ hHeld (fun hHeld => ?_)
    clear hK K cv
    refine wpAnyH_ready (rs := [7]) (by kernel_rfl) (by simp) (AllReadyH.cons rfl (fun K hK => ?_) (AllReadyH.nil))
    refine step_append_ops rfl (.tmp 8) (.tmp 10) rfl (base := w1.heap.size) (l := c) (m := [⟨k, n, m⟩]) rfl rfl rfl O3.out L3.out (by have := HL.out; simp only [List.length_singleton]; omega) hz ?_
    intro v5 w5 o5 g5 n5
    rw [H2.out] at o5
    obtain ⟨v5a, v5c, e5, -⟩ := o5.view
    subst e5
    obtain ⟨cv5, fz5, lt5, x5⟩ := Cd.grown X3.out CV3.out o5 g5 n5
    have X5 := Lib.hid x5
    have F5 := Lib.hid (F3.out.trans (Cf.grown X3.out CV3.out g5 n5))
    have CV5 := Lib.hid (And.intro cv5 (And.intro fz5 lt5))
    have Q5 := Lib.hid (Q3'.out.same (g5.block r Q3'.out.lt (fun e => HRR.out e.symm)) g5.size)
    clear g5
    clear o5 n5 x5 cv5 fz5 lt5
    refine hK.out _ _ ⟨Q5.out.c0, Q5.out.c1, Q5.out.c2⟩ (fun hHeld => ?_)
    clear hK K
    change wpAnyH _ _ _ _ _ _ _ (Act.put _ (some 11) _) _
    simp only [Act.put, List.setIfInBounds_toArray, List.set_cons_zero, List.set_cons_succ]
    refine wpAnyH_take (i := 8) (v := ?v8ay) rfl (by kernel_rfl) (by kernel_rfl) (by kernel_rfl) (fun _ _ _ h => h) (Or.inl ⟨by rfl, ?hy8ay⟩) (by assumption) ?rest8ay
    case hy8ay => (intro zz hSw; (try dsimp only at hSw); go_simp; (try with_reducible rfl))
    change wpAnyH _ _ _ _ _ _ _ (Act.put _ (some 12) _) _
    simp only [Act.put, List.setIfInBounds_toArray, List.set_cons_zero, List.set_cons_succ]
    refine wpAnyH_take (i := 9) (v := ?v9ay) rfl (by kernel_rfl) (by kernel_rfl) (by kernel_rfl) (fun _ _ _ h => h) (Or.inl ⟨by rfl, ?hy9ay⟩) (by assumption) ?rest9ay
    case hy9ay => (intro zz hSw; (try dsimp only at hSw); go_simp; (try with_reducible rfl))
    change wpAnyH _ _ _ _ _ _ _ (Act.put _ (some 13) _) _
    simp only [Act.put, List.setIfInBounds_toArray, List.set_cons_zero, List.set_cons_succ]
    refine wpAnyH_ready (rs := [10]) (by kernel_rfl) (by simp) (AllReadyH.cons rfl (fun K hK => ?_) (AllReadyH.nil))
    obtain ⟨cv5, fz5, lt5⟩ := CV5.out
    go_simp
    refine hK.out _ _ ⟨(World.cell?_of_block (w := w5) (Below.heap_setCell _ _ _ r hrp)).trans Q5.out.c0, (World.cell?_of_block (w := w5) (Below.heap_setCell _ _ _ r hrp)).trans Q5.out.c1, (World.cell?_of_block (w := w5) (Below.heap_setCell _ _ _ r hrp)).trans Q5.out.c2⟩ (fun hHeld => ?_)
    clear hK K cv5 fz5 lt5
    refine wpAnyH_done (by kernel_rfl) ?_ _
    clear hHeld
    exact bodyPost_end (v := .tuple #[]) (by simp [results, Tryz.results17, go_sem]) rfl ⟨rfl, X5.out, F5.out⟩
def tot (l : List (List Ov)) : Nat := (l.map List.length).sum
theorem tot_cons (a : List Ov) (l : List (List Ov)) : tot (a :: l) = a.length + tot l := by unfold tot; rw [List.map_cons, List.sum_cons]
theorem stk_tot : ∀ l : List Tk, tot (stk cdF cdG l) ≤ l.length
  | [] => Nat.le_refl _
  | s :: l => by
    have ih := stk_tot l
    unfold stk
    split
    · split
      · rename_i a b r e
        rw [e, tot_cons, tot_cons] at ih
        rw [tot_cons]
        have : (cdG (opN s) a b).length = a.length + b.length + 1 := by unfold cdG; simp; omega
        rw [this, List.length_cons]; omega
      · rw [List.length_cons]; omega
    · rw [tot_cons, cdF_len, List.length_cons]; omega
theorem cd_bd {t : List Tk} (h : t.length ≤ 120) (j : Nat) (x y : List Ov) (z : List (List Ov)) (e : plP cdF cdG t j = z ++ [y, x]) : x.length + y.length + 1 ≤ 4000 := by
  have h1 := stk_tot (t.drop (t.length - j))
  unfold plP at e
  have e2 : stk cdF cdG (t.drop (t.length - j)) = x :: y :: z.reverse := by rw [← List.reverse_reverse (stk cdF cdG (t.drop (t.length - j))), e]; simp
  rw [e2, tot_cons, tot_cons, List.length_drop] at h1
  omega
set_option maxHeartbeats 4000000 in
set_option maxRecDepth 100000 in
theorem sum_any {w1 w : World} {p : Nat} {c : List Ov} (h : Cd w1 p c w) (hL : Lib3 w1) (sa : Option Addr) (sc sn : Nat) (e' : List Tk) (hsn : sn = e'.length) (hv : V1 w1 sa sc (txL e')) (he : eOk e') (hb : e'.length ≤ 120 ∧ ∀ s ∈ e', s.length ≤ 4194304) (hl : c.length ≤ 4194304) :
    Calls Tryz.prog 33 #[.pointer (some ⟨p, 0, none⟩), .slice sa sn sc] w (CdR w1 p (c ++ cdE e') w) := by
  obtain ⟨c2, h2⟩ : ∃ z, c ++ cdE e' = z := ⟨_, rfl⟩
  rw [h2]
  have H2 := Lib.hid h2
  have hcl := cdE_len he
  have HL := Lib.hid (show c.length + (cdE e').length ≤ 10000000 by omega)
  have b2 := ((Below.refl w.heap.size w).drew : Below w.heap.size w w.drew)
  have HDR := Lib.hid b2
  have HP := Lib.hid h.lt
  have X2 := Lib.hid (h.next b2)
  have HE := Lib.hid (show (stk cdF cdG e').headD [] = cdE e' by
    obtain ⟨u, hu, rfl⟩ := he
    have := stk_fl cdF cdG u hu []
    rw [List.append_nil] at this
    rw [cdE_fl hu, this]; rfl)
  have HF := Lib.hid (foldedOps_any cdF cdG w.drew sa sc sn e' hsn.symm (hv.below X2.out.bw) (by omega) hb.2 (lib3_below hL X2.out.bw) (by
      obtain ⟨u, hu, rfl⟩ := he
      have := en_fl u hu 0 []
      rw [List.append_nil, en_zero] at this
      rw [this]; simp)
    48 49 #[] (enters_of Tryz.func48 (by kernel_rfl) rfl) (enters_of Tryz.func49 (by kernel_rfl) rfl)
    (fun s W _ hs _ => by rw [Array.append_empty]; exact oneCode_any s hs W) (fun j x y z hz => cd_bd hb.1 j x y z hz) (fun o x y ax ay cx cy W _ _ hx hy hlen => code_any o x y ax ay cx cy W hx hy hlen))
  obtain ⟨v, hc, ho, hne⟩ := X2.out.cc
  obtain ⟨va, vc, rfl, -⟩ := ho.view
  have CV2 := Lib.hid hc
  have O2 := Lib.hid ho
  clear h2 h hL hv he hb hl hcl b2 hc ho hne hsn
  go_enter Tryz.func33, Tryz.ntmps33
  go_wp2_with fail
  refine wp_region_held_drew (S := fun _ => True) (by kernel_rfl) trivial (fun hHeld => ?_)
  refine wpAnyH_take (i := 0) (v := ?v0b) rfl (by kernel_rfl) (by kernel_rfl) (by kernel_rfl) (fun _ _ _ h => h) (Or.inl ⟨by rfl, ?hy0b⟩) (by assumption) ?rest0b
  case hy0b => (intro zz hSw; (try dsimp only at hSw); go_simp; (try with_reducible rfl))
  change wpAnyH _ _ _ _ _ _ _ (Act.put _ (some 4) _) _
  simp only [Act.put, List.setIfInBounds_toArray, List.set_cons_zero, List.set_cons_succ]
  refine wpAnyH_take (i := 1) (v := ?v1b) rfl (by kernel_rfl) (by kernel_rfl) (by kernel_rfl) (fun _ _ _ h => h) (Or.inl ⟨by rfl, ?hy1b⟩) (by assumption) ?rest1b
  case hy1b => (intro zz hSw; (try dsimp only at hSw); go_simp; (try with_reducible rfl))
  change wpAnyH _ _ _ _ _ _ _ (Act.put _ (some 5) _) _
  simp only [Act.put, List.setIfInBounds_toArray, List.set_cons_zero, List.set_cons_succ]
  refine wpAnyH_take (i := 2) (v := ?v2b) rfl (by kernel_rfl) (by kernel_rfl) (by kernel_rfl) (fun _ _ _ h => h) (Or.inl ⟨by rfl, ?hy2b⟩) (by assumption) ?rest2b
  case hy2b => (intro zz hSw; (try dsimp only at hSw); go_simp; (try with_reducible rfl))
  change wpAnyH _ _ _ _ _ _ _ (Act.put _ (some 6) _) _
  simp only [Act.put, List.setIfInBounds_toArray, List.set_cons_zero, List.set_cons_succ]
  refine wpAnyH_take (i := 3) (v := ?v3b) rfl (by kernel_rfl) (by kernel_rfl) (by kernel_rfl) (fun _ _ _ h => h) (Or.inl ⟨by rfl, ?hy3b⟩) (by assumption) ?rest3b
  case hy3b => (intro zz hSw; (try dsimp only at hSw); go_simp; (try with_reducible rfl))
  change wpAnyH _ _ _ _ _ _ _ (Act.put _ (some 7) _) _
  simp only [Act.put, List.setIfInBounds_toArray, List.set_cons_zero, List.set_cons_succ]
  refine wpAnyH_take (i := 5) (v := ?v5b) rfl (by kernel_rfl) (by kernel_rfl) (by kernel_rfl) (fun _ _ _ h => h) (Or.inl ⟨by rfl, ?hy5b⟩) (by assumption) ?rest5b
  case hy5b => (intro zz hSw; (try dsimp only at hSw); go_simp; (try with_reducible rfl))
  change wpAnyH _ _ _ _ _ _ _ (Act.put _ (some 9) _) _
  simp only [Act.put, List.setIfInBounds_toArray, List.set_cons_zero, List.set_cons_succ]
  refine wpAnyH_ready (rs := [4, 6]) (by kernel_rfl) (by simp) (AllReadyH.cons rfl (fun K hK => ?_) (AllReadyH.cons rfl (fun K hK => ?_) (AllReadyH.nil)))
  · skip
    have cv := CV2.out
    go_simp
    refine hK.out _ _ trivial (fun hHeld => ?_)
    clear hK K cv
    refine wpAnyH_ready (rs := [6]) (by kernel_rfl) (by simp) (AllReadyH.cons rfl (fun K hK => ?_) (AllReadyH.nil))
    go_simp
    refine HF.out.mono ?_; rintro e w3 ⟨r3, u3, hst, rfl, o3, b3⟩
    have er : r3 = cdE e' := by have := HE.out; rw [hst] at this; exact this
    subst er
    obtain ⟨ua, uc, eu, -⟩ := o3.view
    subst eu
    have X3 := Lib.hid (X2.out.next b3)
    have F3 := Lib.hid (Cf.of_below (p := p) HP.out rfl (bel_tr HDR.out b3 (Nat.le_refl _)))
    have CV3 := Lib.hid ((World.cell?_of_block (w := w.drew) (a := ⟨p, 0, none⟩) (b3.block p X2.out.lt)).trans CV2.out)
    have O3 := Lib.hid (O2.out.next b3)
    have U3 := Lib.hid o3.vw
    clear o3 b3 hst
    refine hK.out _ _ trivial (fun hHeld => ?_)
    clear hK K
    refine wpAnyH_ready (rs := [7]) (by kernel_rfl) (by simp) (AllReadyH.cons rfl (fun K hK => ?_) (AllReadyH.nil))
    refine step_append_ops rfl (.tmp 8) (.tmp 10) rfl (base := w1.heap.size) (l := c) (m := cdE e') rfl rfl rfl O3.out U3.out (by have := HL.out; omega) X3.out.bw.size ?_
    intro v5 w5 o5 g5 n5
    rw [H2.out] at o5
    obtain ⟨v5a, v5c, e5, -⟩ := o5.view
    subst e5
    obtain ⟨cv5, fz5, lt5, x5⟩ := Cd.grown X3.out CV3.out o5 g5 n5
    have X5 := Lib.hid x5
    have F5 := Lib.hid (F3.out.trans (Cf.grown X3.out CV3.out g5 n5))
    have CV5 := Lib.hid (And.intro cv5 (And.intro fz5 lt5))
    clear g5
    clear o5 n5 x5 cv5 fz5 lt5
    refine hK.out _ _ trivial (fun hHeld => ?_)
    clear hK K
    change wpAnyH _ _ _ _ _ _ _ (Act.put _ (some 11) _) _
    simp only [Act.put, List.setIfInBounds_toArray, List.set_cons_zero, List.set_cons_succ]
    refine wpAnyH_take (i := 8) (v := ?v8bx) rfl (by kernel_rfl) (by kernel_rfl) (by kernel_rfl) (fun _ _ _ h => h) (Or.inl ⟨by rfl, ?hy8bx⟩) (by assumption) ?rest8bx
    case hy8bx => (intro zz hSw; (try dsimp only at hSw); go_simp; (try with_reducible rfl))
    change wpAnyH _ _ _ _ _ _ _ (Act.put _ (some 12) _) _
    simp only [Act.put, List.setIfInBounds_toArray, List.set_cons_zero, List.set_cons_succ]
    refine wpAnyH_take (i := 9) (v := ?v9bx) rfl (by kernel_rfl) (by kernel_rfl) (by kernel_rfl) (fun _ _ _ h => h) (Or.inl ⟨by rfl, ?hy9bx⟩) (by assumption) ?rest9bx
    case hy9bx => (intro zz hSw; (try dsimp only at hSw); go_simp; (try with_reducible rfl))
    change wpAnyH _ _ _ _ _ _ _ (Act.put _ (some 13) _) _
    simp only [Act.put, List.setIfInBounds_toArray, List.set_cons_zero, List.set_cons_succ]
    refine wpAnyH_ready (rs := [10]) (by kernel_rfl) (by simp) (AllReadyH.cons rfl (fun K hK => ?_) (AllReadyH.nil))
    obtain ⟨cv5, fz5, lt5⟩ := CV5.out
    go_simp
    refine hK.out _ _ trivial (fun hHeld => ?_)
    clear hK K cv5 fz5 lt5
    refine wpAnyH_done (by kernel_rfl) ?_ _
    clear hHeld
    exact bodyPost_end (v := .tuple #[]) (by simp [results, Tryz.results33, go_sem]) rfl ⟨rfl, X5.out, F5.out⟩
  · skip
    go_simp
    refine HF.out.mono ?_; rintro e w3 ⟨r3, u3, hst, rfl, o3, b3⟩
    have er : r3 = cdE e' := by have := HE.out; rw [hst] at this; exact this
    subst er
    obtain ⟨ua, uc, eu, -⟩ := o3.view
    subst eu
    have X3 := Lib.hid (X2.out.next b3)
    have F3 := Lib.hid (Cf.of_below (p := p) HP.out rfl (bel_tr HDR.out b3 (Nat.le_refl _)))
    have CV3 := Lib.hid ((World.cell?_of_block (w := w.drew) (a := ⟨p, 0, none⟩) (b3.block p X2.out.lt)).trans CV2.out)
    have O3 := Lib.hid (O2.out.next b3)
    have U3 := Lib.hid o3.vw
    clear o3 b3 hst
    refine hK.out _ _ trivial (fun hHeld => ?_)
    clear hK K
    refine wpAnyH_ready (rs := [4]) (by kernel_rfl) (by simp) (AllReadyH.cons rfl (fun K hK => ?_) (AllReadyH.nil))
    have cv := CV3.out
    go_simp
    refine hK.out _ _ trivial (fun hHeld => ?_)
    clear hK K cv
    refine wpAnyH_ready (rs := [7]) (by kernel_rfl) (by simp) (AllReadyH.cons rfl (fun K hK => ?_) (AllReadyH.nil))
    refine step_append_ops rfl (.tmp 8) (.tmp 10) rfl (base := w1.heap.size) (l := c) (m := cdE e') rfl rfl rfl O3.out U3.out (by have := HL.out; omega) X3.out.bw.size ?_
    intro v5 w5 o5 g5 n5
    rw [H2.out] at o5
    obtain ⟨v5a, v5c, e5, -⟩ := o5.view
    subst e5
    obtain ⟨cv5, fz5, lt5, x5⟩ := Cd.grown X3.out CV3.out o5 g5 n5
    have X5 := Lib.hid x5
    have F5 := Lib.hid (F3.out.trans (Cf.grown X3.out CV3.out g5 n5))
    have CV5 := Lib.hid (And.intro cv5 (And.intro fz5 lt5))
    clear g5
    clear o5 n5 x5 cv5 fz5 lt5
    refine hK.out _ _ trivial (fun hHeld => ?_)
    clear hK K
    change wpAnyH _ _ _ _ _ _ _ (Act.put _ (some 11) _) _
    simp only [Act.put, List.setIfInBounds_toArray, List.set_cons_zero, List.set_cons_succ]
    refine wpAnyH_take (i := 8) (v := ?v8by) rfl (by kernel_rfl) (by kernel_rfl) (by kernel_rfl) (fun _ _ _ h => h) (Or.inl ⟨by rfl, ?hy8by⟩) (by assumption) ?rest8by
    case hy8by => (intro zz hSw; (try dsimp only at hSw); go_simp; (try with_reducible rfl))
    change wpAnyH _ _ _ _ _ _ _ (Act.put _ (some 12) _) _
    simp only [Act.put, List.setIfInBounds_toArray, List.set_cons_zero, List.set_cons_succ]
    refine wpAnyH_take (i := 9) (v := ?v9by) rfl (by kernel_rfl) (by kernel_rfl) (by kernel_rfl) (fun _ _ _ h => h) (Or.inl ⟨by rfl, ?hy9by⟩) (by assumption) ?rest9by
    case hy9by => (intro zz hSw; (try dsimp only at hSw); go_simp; (try with_reducible rfl))
    change wpAnyH _ _ _ _ _ _ _ (Act.put _ (some 13) _) _
    simp only [Act.put, List.setIfInBounds_toArray, List.set_cons_zero, List.set_cons_succ]
    refine wpAnyH_ready (rs := [10]) (by kernel_rfl) (by simp) (AllReadyH.cons rfl (fun K hK => ?_) (AllReadyH.nil))
    obtain ⟨cv5, fz5, lt5⟩ := CV5.out
    go_simp
    refine hK.out _ _ trivial (fun hHeld => ?_)
    clear hK K cv5 fz5 lt5
    refine wpAnyH_done (by kernel_rfl) ?_ _
    clear hHeld
    exact bodyPost_end (v := .tuple #[]) (by simp [results, Tryz.results33, go_sem]) rfl ⟨rfl, X5.out, F5.out⟩
set_option maxHeartbeats 4000000 in
set_option maxRecDepth 100000 in
theorem jump_any {w1 w : World} {p : Nat} {c : List Ov} (h : Cd w1 p c w) (k : Int) (hl : c.length ≤ 4194304) :
    Calls Tryz.prog 50 #[.pointer (some ⟨p, 0, none⟩), .int .i64 k] w fun e w' => e = .returned (.int .i64 (c.length : Int)) ∧ Cd w1 p (c ++ [⟨k, 0, noN⟩]) w' ∧ Cf p w w' := by
  have HN := Lib.hid (next_any h)
  have HA := Lib.hid (add_any h k 0 noN hl)
  generalize c ++ [⟨k, 0, noN⟩] = c2 at *
  clear h
  generalize c.length = n at *
  go_enter Tryz.func50, Tryz.ntmps50
  go_wp2_with fail
  refine HN.out.mono ?_; rintro e w2 ⟨rfl, rfl⟩
  go_wp2_with fail
  refine HA.out.mono ?_; rintro e w3 ⟨rfl, x3⟩
  have X3 := Lib.hid x3; clear x3
  go_wp2_with fail
  go_ret
  exact ⟨rfl, X3.out⟩
set_option maxHeartbeats 4000000 in
set_option maxRecDepth 100000 in
theorem land_any {w1 w : World} {p : Nat} {c m : List Ov} (h : Cd w1 p c w) {k : Nat} {d : Ov} {x : Int} (hd : c[k]? = some d) (hm : c.set k ⟨d.k, x, d.m⟩ = m) (hl : c.length ≤ 4194304) :
    Calls Tryz.prog 51 #[.pointer (some ⟨p, 0, none⟩), .int .i64 (k : Int), .int .i64 x] w (CdR w1 p m w) := by
  have hk := (List.getElem?_eq_some_iff.1 hd).1
  obtain ⟨v, hc, ho, hne⟩ := h.cc
  obtain ⟨g, cap, rfl, hat, hfz, hB, hlt⟩ := ho.slot hd
  have HX := Lib.hid (And.intro (Cd.patch h hc hd hm) (Cf.patch (o := k * 3 + 1) (x := .int .i64 x) h hc))
  have cu := hat.2.1
  have fu := hfz (k * 3 + 1)
  have hki : (k : Int) < (c.length : Int) := by omega
  clear h ho hne hat hfz hB hd hm
  generalize c.length = n at *
  go_enter Tryz.func51, Tryz.ntmps51
  go_wp2_with fail
  exact bodyPost_end (v := .tuple #[]) (by simp [results, Tryz.results51, go_sem]) rfl ⟨rfl, HX.out⟩
end Go.Proofs.YtoiphglfngkoiaaGreatDoor.Cl
namespace Go.Proofs.YtoiphglfngkoiaaGreatDoor.Cl
set_option linter.unusedVariables false
open Go.RowKit Wd Rp Cu Kp
def VwX (p : Nat) (w : World) (a : Option Addr) (cap : Nat) (l : List Bi) : Prop := VwI w a cap l ∧ ∀ (k : Nat) (c : Bi), l[k]? = some c → ∀ g o, a = some ⟨g, o, none⟩ → g ≠ p
theorem VwX.but {p : Nat} {w w' : World} {a : Option Addr} {cap : Nat} {l : List Bi} (h : VwX p w a cap l) (hb : But p w w') : VwX p w' a cap l := by
  obtain ⟨⟨h1, h2, h3, h4⟩, h5⟩ := h
  refine ⟨⟨h1, h2, h3, fun k c hk => ?_⟩, h5⟩
  obtain ⟨g, o, e, hg, hat⟩ := h4 k c hk
  exact ⟨g, o, e, Nat.lt_of_lt_of_le hg hb.size, hat.same (hb.block g hg (h5 k c hk g o e))⟩
structure Xm (w0 : World) (p : Nat) (ga : Option Addr) (gc : Nat) (gs : List Int) (st : St0) (w : World) : Prop where
  hB : w0.heap.size ≤ p
  hp : p < w.heap.size
  fz : w.frozen? ⟨p, 0, none⟩ = false ∧ w.frozen? ⟨p, 1, none⟩ = false ∧ w.frozen? ⟨p, 2, none⟩ = false
  b : ∃ a n c, w.cell? ⟨p, 0, none⟩ = some (.slice a n c) ∧ st.b.length = n ∧ VwX p w a c st.b
  g : w.cell? ⟨p, 1, none⟩ = some (.slice ga (3 : Nat) gc)
  f : w.cell? ⟨p, 2, none⟩ = some (.int .i64 st.f)
  bw : Below w0.heap.size w0 w
  hg : V1 w0 ga gc (inL gs)
  g3 : gs.length = 3
  L : Lib3 w0
  ok : okI st.b = true
  th : thB gs = true
  f0 : 0 ≤ st.f ∧ st.f ≤ 400
theorem Xm.len {w0 w : World} {p : Nat} {ga : Option Addr} {gc : Nat} {gs : List Int} {st : St0} (h : Xm w0 p ga gc gs st w) : st.b.length ≤ 12 := (okI_iff.1 h.ok).1
theorem Xm.next {w0 w w' : World} {p : Nat} {ga : Option Addr} {gc : Nat} {gs : List Int} {st : St0} (h : Xm w0 p ga gc gs st w) (hb : Below w.heap.size w w') : Xm w0 p ga gc gs st w' := by
  have e := hb.block p h.hp
  obtain ⟨a, n, c, h1, h2, h3⟩ := h.b
  exact ⟨h.hB, Nat.lt_of_lt_of_le h.hp hb.size, ⟨(World.frozen?_of_block (w := w) e).trans h.fz.1, (World.frozen?_of_block (w := w) e).trans h.fz.2.1, (World.frozen?_of_block (w := w) e).trans h.fz.2.2⟩,
    ⟨a, n, c, (World.cell?_of_block (w := w) e).trans h1, h2, h3.1.below hb, h3.2⟩, (World.cell?_of_block (w := w) e).trans h.g, (World.cell?_of_block (w := w) e).trans h.f, bel_tr h.bw hb (Nat.le_refl _), h.hg, h.g3, h.L, h.ok, h.th, h.f0⟩
theorem Xm.code {w0 w : World} {p : Nat} {ga : Option Addr} {gc : Nat} {gs : List Int} {st : St0} (h : Xm w0 p ga gc gs st w) (x : Int) : Xm w0 p ga gc gs ⟨x, st.b, st.f⟩ w :=
  ⟨h.hB, h.hp, h.fz, h.b, h.g, h.f, h.bw, h.hg, h.g3, h.L, h.ok, h.th, h.f0⟩
end Go.Proofs.YtoiphglfngkoiaaGreatDoor.Cl
namespace Go.Proofs.YtoiphglfngkoiaaGreatDoor.Cl
set_option linter.unusedVariables false
open Go.RowKit Wd Rp Cu Kp
theorem B4.kept {q : Nat} {a b c d : Value} {w w' : World} (h : B4 q a b c d w) {p : Nat} (hb : But p w w') (hq : q ≠ p) : B4 q a b c d w' := h.but hb hq
end Go.Proofs.YtoiphglfngkoiaaGreatDoor.Cl
namespace Go.Proofs.YtoiphglfngkoiaaGreatDoor.Cl
set_option linter.unusedVariables false
open Go.RowKit Wd Rp Cu Kp
theorem each_preS {P : Sm → Prop} {t : Sl} : ∀ {fs : List Sm}, (T.preS fs t).each P → ∀ f ∈ fs, P f
  | [], h, f, hf => by cases hf
  | g :: fs, h, f, hf => by
    rw [T.preS, Sl.each] at h
    rcases List.mem_cons.1 hf with rfl | hf
    · exact h.1
    · exact each_preS h.2 f hf
theorem T.DM.form {w0 w : World} {K : Nat → Prop} {D : Nat} {v : Value} {F : Sl} (h : T.DM w0 K w D v F) : ∃ a n c, v = .slice a n c := by
  cases D with
  | zero => cases h
  | succ D =>
    obtain ⟨ds, fs, h1, -⟩ := h
    obtain ⟨a, c, e, -⟩ := h1.form
    exact ⟨a, _, c, e⟩
theorem T.DM.but {w0 w w' : World} {p q : Nat} (hpq : p < q) (hb : But p w w') {D : Nat} {v : Value} {F : Sl} (h : T.DM w0 (q ≤ ·) w D v F) : T.DM w0 (q ≤ ·) w' D v F :=
  T.DM.keep hb.size (fun g h1 h2 => hb.block g h2 (by omega)) (fun g h _ => h) D v F h
theorem T.DdM.but {w0 w w' : World} {p q : Nat} (hpq : p < q) (hb : But p w w') {D : Nat} {d : Dv} {F : Sm} (h : T.DdM w0 (q ≤ ·) w (T.DM w0 (q ≤ ·) w D) d F) : T.DdM w0 (q ≤ ·) w' (T.DM w0 (q ≤ ·) w' D) d F :=
  h.keep hb.size (fun g h1 h2 => hb.block g h2 (by omega)) (fun g h _ => h) (fun v f h => h.but hpq hb)
end Go.Proofs.YtoiphglfngkoiaaGreatDoor.Cl
namespace Go.Proofs.YtoiphglfngkoiaaGreatDoor.Cl
set_option linter.unusedVariables false
open Go.RowKit Wd Rp Cu Kp
def BdO (l : List Tk) : Prop := l.length ≤ 120 ∧ ∀ s ∈ l, s.length ≤ 4194304
theorem BdO.sub {l m : List Tk} (h : BdO l) (hs : ∀ x ∈ m, x ∈ l) (hl : m.length ≤ l.length) : BdO m := ⟨Nat.le_trans hl h.1, fun s hs' => h.2 s (hs s hs')⟩
theorem Cf.refl (p : Nat) (w : World) : Cf p w w := ⟨Nat.le_refl _, fun _ _ _ _ => rfl, fun _ _ h => h⟩
theorem Cd.free2 {w1 w w' : World} {p : Nat} {c : List Ov} (h : Cd w1 p c w) (hb : Below w.heap.size w w') : ¬ Ob p w' w.heap.size := by
  rintro ⟨v, h1, h2⟩
  exact h.free ⟨v, (World.cell?_of_block (w := w) (a := ⟨p, 0, none⟩) (hb.block p h.lt)).symm.trans h1, h2⟩
def DeedI (w0 w1 : World) (p : Nat) (K : Nat → Prop) (s : Sm) : Prop := ∀ (D : Nat) (d : Dv) (c : List Ov) (w : World), Cd w1 p c w → c.length + s.cl ≤ 4000 → T.DdM w0 K w1 (T.DM w0 K w1 D) d s →
  Calls Tryz.prog 24 #[.pointer (some ⟨p, 0, none⟩), d.v] w (CdR w1 p (c ++ s.code c.length) w)
def DeedsI (w0 w1 : World) (p : Nat) (K : Nat → Prop) (b : Sl) : Prop := ∀ (D : Nat) (v : Value) (c : List Ov) (w : World), Cd w1 p c w → c.length + b.cl ≤ 4000 → T.DM w0 K w1 D v b →
  Calls Tryz.prog 16 #[.pointer (some ⟨p, 0, none⟩), v] w (CdR w1 p (c ++ b.code c.length) w)
set_option maxHeartbeats 8000000 in
set_option maxRecDepth 100000 in
theorem deedsI_of (w0 w1 : World) (p : Nat) (K : Nat → Prop) (b : Sl) (ih : b.each (DeedI w0 w1 p K)) : DeedsI w0 w1 p K b := by
  intro D v c w hX hcl hD
  cases D with
  | zero => cases hD
  | succ D =>
  obtain ⟨ds, fs, how, hK, hlen, hel, rfl⟩ := hD
  obtain ⟨a, cap, rfl, hlc, hcm⟩ := how.form
  unfold maxLen at hcm
  have IH := Lib.hid (each_preS ih)
  have HOW := Lib.hid how
  have HEL := Lib.hid hel
  have HLEN := Lib.hid hlen
  have HX := Lib.hid hX
  clear ih how hel hlen hK hX
  obtain ⟨n, hn⟩ : ∃ n, ds.length = n := ⟨_, rfl⟩
  rw [hn] at hlc HOW HLEN ⊢
  have HN := Lib.hid hn
  obtain ⟨fin, hfin⟩ : ∃ r, c ++ (T.preS fs .nil).code c.length = r := ⟨_, rfl⟩
  rw [hfin]
  have HFIN := Lib.hid hfin
  have HCL := Lib.hid hcl
  clear hn hfin hcl
  go_enter Tryz.func16, Tryz.ntmps16
  go_wp2_with fail
  go_loopw [5, 8] (fun _ i wr => ∃ (k : Nat) (c1 : List Ov), k ≤ n ∧ i = .int .i64 (k : Int) ∧ Cd w1 p c1 wr ∧ Cf p w wr ∧ c1.length + (T.preS (fs.drop k) .nil).cl ≤ 4000 ∧ c1 ++ (T.preS (fs.drop k) .nil).code c1.length = fin) (fun _ i _ => n - intV i)
  case atStart => exact ⟨0, c, Nat.zero_le _, rfl, HX.out, Cf.refl _ _, HCL.out, HFIN.out⟩
  case round =>
    obtain ⟨k, c1, hk, rfl, hx1, hc1, hl1, hf1⟩ := hrel
    have C1 := Lib.hid hc1
    have X1 := Lib.hid hx1
    have F1 := Lib.hid hf1
    have L1 := Lib.hid hl1
    clear hx1 hf1 HFIN HX HCL hl1 hc1
    by_cases hlt : k < n
    · obtain ⟨d, hd⟩ : ∃ d, ds[k]? = some d := ⟨ds[k]'(by have := HN.out; omega), List.getElem?_eq_getElem _⟩
      obtain ⟨f, hf⟩ : ∃ f, fs[k]? = some f := ⟨fs[k]'(by have := HLEN.out; omega), List.getElem?_eq_getElem _⟩
      obtain ⟨aa, ca, e, hvd⟩ := HOW.out.view
      rw [HN.out] at e
      cases e
      have hcell : ∃ g o, a = some ⟨g, o, none⟩ ∧ g < w1.heap.size ∧ ∀ j x, d.cells[j]? = some x → wr.cell? ⟨g, o + k * 4 + j, none⟩ = some x := by
        obtain ⟨g, o, e, hg, -⟩ := hvd.2.2.2 _ _ (flatD_get hd (j := 0) (x := .string (tx d.h)) rfl)
        refine ⟨g, o, e, hg, fun j x hj => ?_⟩
        obtain ⟨g', o', e', hg', hc'⟩ := hvd.2.2.2 _ _ (flatD_get hd hj)
        rw [e] at e'; cases e'
        rw [show o + k * 4 + j = o + (k * 4 + j) by omega]
        exact (World.cell?_of_block (w := w1) (X1.out.bw.block g hg)).trans hc'
      obtain ⟨g, o, rfl, hg, hcw⟩ := hcell
      have d0 : wr.cell? ⟨g, o + k * 4, none⟩ = some (.string (tx d.h)) := hcw 0 _ rfl
      have d1 : wr.cell? ⟨g, o + k * 4 + 1, none⟩ = some (.string (tx d.n)) := hcw 1 _ rfl
      have d2 : wr.cell? ⟨g, o + k * 4 + 2, none⟩ = some (.slice d.sa d.sn d.sc) := hcw 2 _ rfl
      have d3 : wr.cell? ⟨g, o + k * 4 + 3, none⟩ = some (.slice d.ba d.bn d.bc) := hcw 3 _ rfl
      have hbl := bel1 wr (.cells #[.string (tx d.h), .string (tx d.n), .slice d.sa d.sn d.sc, .slice d.ba d.bn d.bc] 51)
      have C2 := Lib.hid (C1.out.trans (Cf.of_below X1.out.lt rfl hbl))
      have e2 : fs[k]'(by have := HLEN.out; omega) = f := by have := (List.getElem?_eq_some_iff.1 hf).2; exact this
      have hdrop : fs.drop k = f :: fs.drop (k + 1) := by rw [List.drop_eq_getElem_cons (by have := HLEN.out; omega), e2]
      have hl1 : c1.length + (f.cl + (T.preS (fs.drop (k + 1)) .nil).cl) ≤ 4000 := by have := L1.out; rw [hdrop, T.preS, Sl.cl] at this; exact this
      have hlf := Sm.code_len f c1.length
      have HC := Lib.hid (IH.out f (List.mem_of_getElem? hf) D d c1 _ (X1.out.next hbl) (by omega) (HEL.out k d f hd hf))
      have HF2 := Lib.hid (show (c1 ++ f.code c1.length) ++ (T.preS (fs.drop (k + 1)) .nil).code (c1 ++ f.code c1.length).length = fin from by
        have e := F1.out
        rw [hdrop, T.preS, Sl.code] at e
        rw [List.append_assoc, List.length_append, hlf]; exact e)
      have L2 := Lib.hid (show (c1 ++ f.code c1.length).length + (T.preS (fs.drop (k + 1)) .nil).cl ≤ 4000 by rw [List.length_append, hlf]; omega)
      have t1 : (k : Int) < (n : Int) := by omega
      have t1d : decide ((k : Int) < (n : Int)) = true := by simpa using hlt
      have i1 : (k : Int) + 1 ≤ 9223372036854775807 := by omega
      clear hcw hd hf hg hvd hlc hcm hbl e2 hdrop hl1 hlf
      generalize c1 ++ f.code c1.length = c2 at *
      go_wp2_with fail
      refine HC.out.mono ?_; rintro e w3 ⟨rfl, x3, f3⟩
      have X3 := Lib.hid x3
      have C3 := Lib.hid (C2.out.trans f3)
      clear x3 f3
      go_wp2_with fail
      go_roundw
      case measure => simp [intV]; omega
      case rel => exact ⟨k + 1, c2, by omega, by go_num, X3.out, C3.out, L2.out, HF2.out⟩
    · have t1 : ¬ (k : Int) < (n : Int) := by omega
      have t1d : decide ((k : Int) < (n : Int)) = false := by simpa using hlt
      have e2 : c1 = fin := by
        have := F1.out
        rw [List.drop_eq_nil_of_le (by have := HLEN.out; omega), T.preS, Sl.code, List.append_nil] at this
        exact this
      subst e2
      go_wp2_with fail
      exact bodyPost_end (v := .tuple #[]) (by simp [results, Tryz.results16, go_sem]) rfl ⟨rfl, X1.out, C1.out⟩
set_option maxHeartbeats 8000000 in
set_option maxRecDepth 100000 in
theorem choiceI_if (w0 w1 : World) (hb01 : Below w0.heap.size w0 w1) (hL : Lib3 w1) (p : Nat) (K : Nat → Prop) (D : Nat) (n : Tk) (sa : Option Addr) (sn sc : Nat) (ba : Option Addr) (bn bc : Nat) (ex : List Tk) (b1 b2 : Sl) (x : Int) (he : eOk ex) (hbd : BdO ex) (c : List Ov) (w : World) (hX : Cd w1 p c w) (hcl : c.length + (Sm.ifs ex b1 b2).cl ≤ 4000)
    (hD : T.DdM w0 K w1 (T.DM w0 K w1 D) ⟨ifT, n, sa, sn, sc, ba, bn, bc⟩ (.ifs ex b1 b2)) (h1 : DeedsI w0 w1 p K b1) (h2 : DeedsI w0 w1 p K b2) :
    Calls Tryz.prog 34 #[.pointer (some ⟨p, 0, none⟩), .agg #[.string (tx ifT), .string (tx n), .slice sa sn sc, .slice ba bn bc], .int .i64 x] w (CdR w1 p (c ++ (Sm.ifs ex b1 b2).code c.length) w) := by
  obtain ⟨-, e3, e4, va, vb, e5, e6, e7, e8, e9⟩ := hD
  obtain ⟨a1, m1, q1, rfl⟩ := e8.form
  obtain ⟨a2, m2, q2, rfl⟩ := e9.form
  obtain rfl : bn = 2 := e5
  have hsn : sn = ex.length := e3
  rw [Sm.cl, cdE_len he] at hcl
  obtain ⟨c1, c2, c3, c4, c5, c6, c7, k1, k2, k3, k4, g4, k5, k6, g6, k7, hfin, n1, n2, n3, n4, n5, n6⟩ := if_key c ex b1 b2 he
  rw [hfin]
  have hbl := bel1 w (.cells #[.string (tx ifT), .string (tx n), .slice sa sn sc, .slice ba 2 bc] 51)
  have X1 := Lib.hid (hX.next hbl)
  have Q1 := Lib.hid (B4.of (new_of w (.cells #[.string (tx ifT), .string (tx n), .slice sa sn sc, .slice ba 2 bc] 51)))
  have SUM := Lib.hid (sum_any X1.out hL sa sc sn ex hsn ((show V1 w0 sa sc (txL ex) from e4).below hb01) he hbd (by omega))
  rw [k1] at SUM
  obtain ⟨g, o, eg, hg, c1'⟩ := e6.2.2.2 0 _ rfl
  rw [Nat.add_zero] at c1'
  obtain ⟨g', o', eg', -, c2'⟩ := e6.2.2.2 1 _ rfl
  obtain rfl : ba = some ⟨g, o, none⟩ := eg
  cases eg'
  have RD := Lib.hid (show ∀ z, Below w1.heap.size w1 z → z.cell? ⟨g, o, none⟩ = some (.slice a1 m1 q1) ∧ z.cell? ⟨g, o + 1, none⟩ = some (.slice a2 m2 q2) from fun z hz => ⟨(World.cell?_of_block (w := w1) (hz.block g hg)).trans c1', (World.cell?_of_block (w := w1) (hz.block g hg)).trans c2'⟩)
  have HE1 := Lib.hid (fun z hz => h1 D _ c2 z hz (by omega) e8)
  have HE2 := Lib.hid (fun z hz => h2 D _ c5 z hz (by omega) e9)
  rw [k3] at HE1
  rw [k6] at HE2
  have J1 := Lib.hid (fun z (hz : Cd w1 p c1 z) => jump_any hz 8 (by omega))
  rw [k2] at J1
  have J2 := Lib.hid (fun z (hz : Cd w1 p c3 z) => jump_any hz 7 (by omega))
  rw [k4] at J2
  have A1 := Lib.hid (fun z (hz : Cd w1 p c4 z) => land_any hz g4 k5 (by omega))
  have A2 := Lib.hid (fun z (hz : Cd w1 p c6 z) => land_any hz g6 k7 (by omega))
  have hrl := Q1.out.lt
  have hrw : w1.heap.size ≤ w.heap.size := hX.bw.size
  have qe : ((tx ifT).toList == [119, 104, 105, 108, 101]) = false := by rw [Lib.toList_data, tx_data]; decide
  have FA := Lib.hid (Cf.of_below hX.lt rfl hbl)
  have hrp : w.heap.size ≠ p := by have := hX.lt; omega
  have RB := Lib.hid (show ∀ z, Cf p (w.alloc (.cells #[.string (tx ifT), .string (tx n), .slice sa sn sc, .slice (some ⟨g, o, none⟩) 2 bc] 51)) z → z.cell? ⟨w.heap.size, 0, none⟩ = some (.string (tx ifT)) ∧ z.cell? ⟨w.heap.size, 3, none⟩ = some (.slice (some ⟨g, o, none⟩) 2 bc) from fun z hz => by
    have e := hz.blk w.heap.size Q1.out.lt hrp (hX.free2 hbl)
    exact ⟨(World.cell?_of_block (w := w.alloc _) e).trans Q1.out.c0, (World.cell?_of_block (w := w.alloc _) e).trans Q1.out.c3⟩)
  clear hbl e3 e4 e6 e7 e8 e9 c1' c2' h1 h2 g4 g6 k1 k2 k3 k4 k5 k6 k7 n1 n2 n3 n4 n5 n6 hcl hX hfin hbd he hb01 hL hg hsn hrw
  have d2 := Q1.out.c2
  go_enter Tryz.func34, Tryz.ntmps34
  go_wp2_with fail
  refine SUM.out.mono ?_; rintro e w2 ⟨rfl, x2, f2⟩
  have X2 := Lib.hid x2
  have F2 := Lib.hid f2
  clear x2 f2 d2
  go_wp2_with fail
  refine (J1.out _ X2.out).mono ?_; rintro e w3 ⟨rfl, x3, f3⟩
  have X3 := Lib.hid x3
  have F3 := Lib.hid (F2.out.trans f3)
  obtain ⟨-, d3⟩ := RB.out _ F3.out
  obtain ⟨s1, s2⟩ := RD.out _ x3.bw
  clear x3 f3
  go_wp2_with fail
  clear d3 s1 s2
  refine (HE1.out _ X3.out).mono ?_; rintro e w4 ⟨rfl, x4, f4⟩
  have X4 := Lib.hid x4
  have F4 := Lib.hid (F3.out.trans f4)
  clear x4 f4
  go_wp2_with fail
  refine (J2.out _ X4.out).mono ?_; rintro e w5 ⟨rfl, x5, f5⟩
  have X5 := Lib.hid x5
  have F5 := Lib.hid (F4.out.trans f5)
  clear x5 f5
  go_wp2_with fail
  refine (next_any X5.out).mono ?_; rintro e w6 ⟨rfl, rfl⟩
  go_wp2_with fail
  refine (A1.out _ X5.out).mono ?_; rintro e w6 ⟨rfl, x6, f6⟩
  have X6 := Lib.hid x6
  have F6 := Lib.hid (F5.out.trans f6)
  obtain ⟨d0, d3⟩ := RB.out _ F6.out
  obtain ⟨s1, s2⟩ := RD.out _ x6.bw
  clear x6 f6
  go_wp2_with fail
  clear d0 d3 s1 s2
  refine (HE2.out _ X6.out).mono ?_; rintro e w7 ⟨rfl, x7, f7⟩
  have X7 := Lib.hid x7
  have F7 := Lib.hid (F6.out.trans f7)
  clear x7 f7
  go_wp2_with fail
  refine (next_any X7.out).mono ?_; rintro e w8 ⟨rfl, rfl⟩
  go_wp2_with fail
  refine (A2.out _ X7.out).mono ?_; rintro e w8 ⟨rfl, x8, f8⟩
  have X8 := Lib.hid x8
  have F8 := Lib.hid (FA.out.trans (F7.out.trans f8))
  clear x8 f8
  go_wp2_with fail
  exact bodyPost_end (v := .tuple #[]) (by simp [results, Tryz.results34, go_sem]) rfl ⟨rfl, X8.out, F8.out⟩
set_option maxHeartbeats 8000000 in
set_option maxRecDepth 100000 in
theorem choiceI_whl (w0 w1 : World) (hb01 : Below w0.heap.size w0 w1) (hL : Lib3 w1) (p : Nat) (K : Nat → Prop) (D : Nat) (n : Tk) (sa : Option Addr) (sn sc : Nat) (ba : Option Addr) (bn bc : Nat) (ex : List Tk) (b1 : Sl) (he : eOk ex) (hbd : BdO ex) (c : List Ov) (w : World) (hX : Cd w1 p (c ++ [(⟨9, 0, noN⟩ : Ov)]) w) (hcl : c.length + (Sm.whl ex b1).cl ≤ 4000)
    (hD : T.DdM w0 K w1 (T.DM w0 K w1 D) ⟨whT, n, sa, sn, sc, ba, bn, bc⟩ (.whl ex b1)) (h1 : DeedsI w0 w1 p K b1) :
    Calls Tryz.prog 34 #[.pointer (some ⟨p, 0, none⟩), .agg #[.string (tx whT), .string (tx n), .slice sa sn sc, .slice ba bn bc], .int .i64 (c.length : Int)] w (CdR w1 p (c ++ (Sm.whl ex b1).code c.length) w) := by
  obtain ⟨-, e3, e4, va, e5, e6, e7, e8⟩ := hD
  obtain ⟨a1, m1, q1, rfl⟩ := e8.form
  obtain rfl : bn = 1 := e5
  have hsn : sn = ex.length := e3
  rw [Sm.cl, cdE_len he] at hcl
  obtain ⟨c0, c1, c2, c3, c4, c5, c6, k0, k1, k2, k3, k4, g4, k5, g5, k6, hfin, n0, n1, n2, n3, n4, n5⟩ := wh_keyI c ex b1 he
  rw [hfin]
  rw [k0] at hX
  have hbl := bel1 w (.cells #[.string (tx whT), .string (tx n), .slice sa sn sc, .slice ba 1 bc] 51)
  have X1 := Lib.hid (hX.next hbl)
  have Q1 := Lib.hid (B4.of (new_of w (.cells #[.string (tx whT), .string (tx n), .slice sa sn sc, .slice ba 1 bc] 51)))
  have SUM := Lib.hid (sum_any X1.out hL sa sc sn ex hsn ((show V1 w0 sa sc (txL ex) from e4).below hb01) he hbd (by omega))
  rw [k1] at SUM
  obtain ⟨g, o, eg, hg, c1'⟩ := e6.2.2.2 0 _ rfl
  rw [Nat.add_zero] at c1'
  obtain rfl : ba = some ⟨g, o, none⟩ := eg
  have RD := Lib.hid (show ∀ z, Below w1.heap.size w1 z → z.cell? ⟨g, o, none⟩ = some (.slice a1 m1 q1) from fun z hz => (World.cell?_of_block (w := w1) (hz.block g hg)).trans c1')
  have HE1 := Lib.hid (fun z hz => h1 D _ c2 z hz (by omega) e8)
  rw [k3] at HE1
  have J1 := Lib.hid (fun z (hz : Cd w1 p c1 z) => jump_any hz 8 (by omega))
  rw [k2] at J1
  have J2 := Lib.hid (fun z (hz : Cd w1 p c3 z) => jump_any hz 7 (by omega))
  rw [k4] at J2
  have A1 := Lib.hid (fun z (hz : Cd w1 p c4 z) => land_any hz g4 k5 (by omega))
  have A2 := Lib.hid (fun z (hz : Cd w1 p c5 z) => land_any hz g5 k6 (by omega))
  have hrl := Q1.out.lt
  have qe : ((tx whT).toList == [119, 104, 105, 108, 101]) = true := tx_eqL _
  have FA := Lib.hid (Cf.of_below hX.lt rfl hbl)
  have hrp : w.heap.size ≠ p := by have := hX.lt; omega
  have RB := Lib.hid (show ∀ z, Cf p (w.alloc (.cells #[.string (tx whT), .string (tx n), .slice sa sn sc, .slice (some ⟨g, o, none⟩) 1 bc] 51)) z → z.cell? ⟨w.heap.size, 0, none⟩ = some (.string (tx whT)) ∧ z.cell? ⟨w.heap.size, 3, none⟩ = some (.slice (some ⟨g, o, none⟩) 1 bc) from fun z hz => by
    have e := hz.blk w.heap.size Q1.out.lt hrp (hX.free2 hbl)
    exact ⟨(World.cell?_of_block (w := w.alloc _) e).trans Q1.out.c0, (World.cell?_of_block (w := w.alloc _) e).trans Q1.out.c3⟩)
  clear hbl e3 e4 e6 e7 e8 c1' h1 g4 g5 k0 k1 k2 k3 k4 k5 k6 n0 n1 n2 n3 n4 n5 hcl hX hfin hbd he hb01 hL hg hsn
  have d2 := Q1.out.c2
  generalize c.length = X at *
  go_enter Tryz.func34, Tryz.ntmps34
  go_wp2_with fail
  refine SUM.out.mono ?_; rintro e w2 ⟨rfl, x2, f2⟩
  have X2 := Lib.hid x2
  have F2 := Lib.hid f2
  clear x2 f2 d2
  go_wp2_with fail
  refine (J1.out _ X2.out).mono ?_; rintro e w3 ⟨rfl, x3, f3⟩
  have X3 := Lib.hid x3
  have F3 := Lib.hid (F2.out.trans f3)
  obtain ⟨-, d3⟩ := RB.out _ F3.out
  have s1 := RD.out _ x3.bw
  clear x3 f3
  go_wp2_with fail
  clear d3 s1
  refine (HE1.out _ X3.out).mono ?_; rintro e w4 ⟨rfl, x4, f4⟩
  have X4 := Lib.hid x4
  have F4 := Lib.hid (F3.out.trans f4)
  clear x4 f4
  go_wp2_with fail
  refine (J2.out _ X4.out).mono ?_; rintro e w5 ⟨rfl, x5, f5⟩
  have X5 := Lib.hid x5
  have F5 := Lib.hid (F4.out.trans f5)
  clear x5 f5
  go_wp2_with fail
  refine (next_any X5.out).mono ?_; rintro e w6 ⟨rfl, rfl⟩
  go_wp2_with fail
  refine (A1.out _ X5.out).mono ?_; rintro e w6 ⟨rfl, x6, f6⟩
  have X6 := Lib.hid x6
  have F6 := Lib.hid (F5.out.trans f6)
  obtain ⟨d0, d3⟩ := RB.out _ F6.out
  have s1 := RD.out _ x6.bw
  clear x6 f6
  go_wp2_with fail
  clear d0 d3 s1
  refine (A2.out _ X6.out).mono ?_; rintro e w8 ⟨rfl, x8, f8⟩
  have X8 := Lib.hid x8
  have F8 := Lib.hid (FA.out.trans (F6.out.trans f8))
  clear x8 f8
  go_wp2_with fail
  exact bodyPost_end (v := .tuple #[]) (by simp [results, Tryz.results34, go_sem]) rfl ⟨rfl, X8.out, F8.out⟩
set_option maxHeartbeats 8000000 in
set_option maxRecDepth 100000 in
theorem deedI_stop (w0 w1 : World) (hb01 : Below w0.heap.size w0 w1) (hL : Lib3 w1) (p : Nat) (K : Nat → Prop) : DeedI w0 w1 p K (.stop) := by
  intro D d c w hX hcl hD
  obtain ⟨h, n, sa, sn, sc, ba, bn, bc⟩ := d
  obtain rfl : h = stopT := hD
  have hbl := bel1 w (.cells #[.string (tx stopT), .string (tx n), .slice sa sn sc, .slice ba bn bc] 51)
  have X1 := Lib.hid (hX.next hbl)
  have Q1 := Lib.hid (B4.of (new_of w (.cells #[.string (tx stopT), .string (tx n), .slice sa sn sc, .slice ba bn bc] 51)))
  have FA := Lib.hid (Cf.of_below hX.lt rfl hbl)
  have NX := Lib.hid (next_any X1.out)
  have AD := Lib.hid (add_any X1.out 10 0 noN (by omega))
  rw [show c ++ Sm.code .stop c.length = c ++ [(⟨10, 0, noN⟩ : Ov)] by rw [Sm.code]]
  generalize c ++ [(⟨10, 0, noN⟩ : Ov)] = c2 at *
  clear hbl hX hcl
  generalize c.length = X at *
  unfold Dv.v
  have qe : ((tx stopT).toList == [115, 116, 111, 112]) = true := tx_eqL _
  have q0 : ((tx stopT).toList == [115, 101, 116]) = false := by rw [Lib.toList_data, tx_data]; decide
  have q1 : ((tx stopT).toList == [99, 117, 116]) = false := by rw [Lib.toList_data, tx_data]; decide
  have d0 := Q1.out.c0; have d1 := Q1.out.c1; have d2 := Q1.out.c2; have d3 := Q1.out.c3
  go_enter Tryz.func24, Tryz.ntmps24
  go_wp2_with fail
  refine NX.out.mono ?_; rintro e w2 ⟨rfl, rfl⟩
  go_wp2_with fail
  refine AD.out.mono ?_; rintro e w3 ⟨rfl, x3, f3⟩
  have X3 := Lib.hid x3
  have F3 := Lib.hid (FA.out.trans f3)
  clear x3 f3 d0 d1 d2 d3
  go_wp2_with fail
  exact bodyPost_end (v := .tuple #[]) (by simp [results, Tryz.results24, go_sem]) rfl ⟨rfl, X3.out, F3.out⟩
set_option maxHeartbeats 8000000 in
set_option maxRecDepth 100000 in
theorem deedI_cut (w0 w1 : World) (hb01 : Below w0.heap.size w0 w1) (hL : Lib3 w1) (p : Nat) (K : Nat → Prop) (m : Tk) : DeedI w0 w1 p K (.cut m) := by
  intro D d c w hX hcl hD
  obtain ⟨h, n, sa, sn, sc, ba, bn, bc⟩ := d
  obtain ⟨y1, y2⟩ := hD
  obtain rfl : h = cutT := y1
  obtain rfl : n = m := y2
  have hbl := bel1 w (.cells #[.string (tx cutT), .string (tx n), .slice sa sn sc, .slice ba bn bc] 51)
  have X1 := Lib.hid (hX.next hbl)
  have Q1 := Lib.hid (B4.of (new_of w (.cells #[.string (tx cutT), .string (tx n), .slice sa sn sc, .slice ba bn bc] 51)))
  have FA := Lib.hid (Cf.of_below hX.lt rfl hbl)
  have NX := Lib.hid (next_any X1.out)
  have AD := Lib.hid (add_any X1.out 6 0 n (by omega))
  rw [show c ++ Sm.code (.cut n) c.length = c ++ [(⟨6, 0, n⟩ : Ov)] by rw [Sm.code]]
  generalize c ++ [(⟨6, 0, n⟩ : Ov)] = c2 at *
  clear hbl hX hcl
  generalize c.length = X at *
  unfold Dv.v
  have qe : ((tx cutT).toList == [99, 117, 116]) = true := tx_eqL _
  have q0 : ((tx cutT).toList == [115, 101, 116]) = false := by rw [Lib.toList_data, tx_data]; decide
  have d0 := Q1.out.c0; have d1 := Q1.out.c1; have d2 := Q1.out.c2; have d3 := Q1.out.c3
  go_enter Tryz.func24, Tryz.ntmps24
  go_wp2_with fail
  refine NX.out.mono ?_; rintro e w2 ⟨rfl, rfl⟩
  go_wp2_with fail
  refine AD.out.mono ?_; rintro e w3 ⟨rfl, x3, f3⟩
  have X3 := Lib.hid x3
  have F3 := Lib.hid (FA.out.trans f3)
  clear x3 f3 d0 d1 d2 d3
  go_wp2_with fail
  exact bodyPost_end (v := .tuple #[]) (by simp [results, Tryz.results24, go_sem]) rfl ⟨rfl, X3.out, F3.out⟩
set_option maxHeartbeats 8000000 in
set_option maxRecDepth 100000 in
theorem deedI_set (w0 w1 : World) (hb01 : Below w0.heap.size w0 w1) (hL : Lib3 w1) (p : Nat) (K : Nat → Prop) (m : Tk) (ex : List Tk) (he : eOk ex) (hbd : BdO ex) : DeedI w0 w1 p K (.set m ex) := by
  intro D d c w hX hcl hD
  obtain ⟨h, n, sa, sn, sc, ba, bn, bc⟩ := d
  obtain ⟨y1, y2, y3, y4⟩ := hD
  obtain rfl : h = setT := y1
  obtain rfl : n = m := y2
  have hsn : sn = ex.length := y3
  have hbl := bel1 w (.cells #[.string (tx setT), .string (tx n), .slice sa sn sc, .slice ba bn bc] 51)
  have X1 := Lib.hid (hX.next hbl)
  have Q1 := Lib.hid (B4.of (new_of w (.cells #[.string (tx setT), .string (tx n), .slice sa sn sc, .slice ba bn bc] 51)))
  have FA := Lib.hid (Cf.of_below hX.lt rfl hbl)
  have NX := Lib.hid (next_any X1.out)
  have hcl2 := cdE_len he
  rw [Sm.cl] at hcl
  have SUM := Lib.hid (sum_any X1.out hL sa sc sn ex hsn ((show V1 w0 sa sc (txL ex) from y4).below hb01) he hbd (by omega))
  have AD := Lib.hid (fun z (hz : Cd w1 p (c ++ cdE ex) z) => add_any hz 5 0 n (by rw [List.length_append]; omega))
  rw [show c ++ Sm.code (.set n ex) c.length = (c ++ cdE ex) ++ [(⟨5, 0, n⟩ : Ov)] by rw [Sm.code, List.append_assoc]]
  generalize (c ++ cdE ex) ++ [(⟨5, 0, n⟩ : Ov)] = c3 at *
  generalize c ++ cdE ex = c2 at *
  have hrp : w.heap.size ≠ p := by have := hX.lt; omega
  have RB := Lib.hid (show ∀ z, Cf p (w.alloc (.cells #[.string (tx setT), .string (tx n), .slice sa sn sc, .slice ba bn bc] 51)) z → z.cell? ⟨w.heap.size, 1, none⟩ = some (.string (tx n)) from fun z hz => by
    have e := hz.blk w.heap.size Q1.out.lt hrp (hX.free2 hbl)
    exact (World.cell?_of_block (w := w.alloc _) e).trans Q1.out.c1)
  clear hbl hX hcl y3 y4 hcl2 he hbd hL hb01 hsn
  generalize c.length = X at *
  unfold Dv.v
  have qe : ((tx setT).toList == [115, 101, 116]) = true := tx_eqL _
  have d0 := Q1.out.c0; have d1 := Q1.out.c1; have d2 := Q1.out.c2; have d3 := Q1.out.c3
  go_enter Tryz.func24, Tryz.ntmps24
  go_wp2_with fail
  refine NX.out.mono ?_; rintro e w2 ⟨rfl, rfl⟩
  go_wp2_with fail
  refine SUM.out.mono ?_; rintro e w2 ⟨rfl, x2, f2⟩
  have X2 := Lib.hid x2
  have F2 := Lib.hid (FA.out.trans f2)
  clear d0 d1 d2 d3
  have d1 := RB.out _ f2
  clear x2 f2
  go_wp2_with fail
  refine (AD.out _ X2.out).mono ?_; rintro e w3 ⟨rfl, x3, f3⟩
  have X3 := Lib.hid x3
  have F3 := Lib.hid (F2.out.trans f3)
  clear x3 f3 d1
  go_wp2_with fail
  exact bodyPost_end (v := .tuple #[]) (by simp [results, Tryz.results24, go_sem]) rfl ⟨rfl, X3.out, F3.out⟩
set_option maxHeartbeats 8000000 in
set_option maxRecDepth 100000 in
theorem deedI_if (w0 w1 : World) (hb01 : Below w0.heap.size w0 w1) (hL : Lib3 w1) (p : Nat) (K : Nat → Prop) (ex : List Tk) (b1 b2 : Sl) (he : eOk ex) (hbd : BdO ex) (h1 : DeedsI w0 w1 p K b1) (h2 : DeedsI w0 w1 p K b2) : DeedI w0 w1 p K (.ifs ex b1 b2) := by
  intro D d c w hX hcl hD
  obtain ⟨h, n, sa, sn, sc, ba, bn, bc⟩ := d
  obtain rfl : h = ifT := hD.1
  have hbl := bel1 w (.cells #[.string (tx ifT), .string (tx n), .slice sa sn sc, .slice ba bn bc] 51)
  have X1 := Lib.hid (hX.next hbl)
  have Q1 := Lib.hid (B4.of (new_of w (.cells #[.string (tx ifT), .string (tx n), .slice sa sn sc, .slice ba bn bc] 51)))
  have FA := Lib.hid (Cf.of_below hX.lt rfl hbl)
  have NX := Lib.hid (next_any X1.out)
  have AD := Lib.hid (choiceI_if w0 w1 hb01 hL p K D n sa sn sc ba bn bc ex b1 b2 (c.length : Int) he hbd c _ X1.out hcl hD h1 h2)
  generalize c ++ Sm.code (.ifs ex b1 b2) c.length = c2 at *
  clear hbl hX hcl hD
  generalize c.length = X at *
  unfold Dv.v
  have qe : ((tx ifT).toList == [105, 102]) = true := tx_eqL _
  have q0 : ((tx ifT).toList == [115, 101, 116]) = false := by rw [Lib.toList_data, tx_data]; decide
  have q1 : ((tx ifT).toList == [99, 117, 116]) = false := by rw [Lib.toList_data, tx_data]; decide
  have q2 : ((tx ifT).toList == [115, 116, 111, 112]) = false := by rw [Lib.toList_data, tx_data]; decide
  have q3 : ((tx ifT).toList == [119, 104, 105, 108, 101]) = false := by rw [Lib.toList_data, tx_data]; decide
  have d0 := Q1.out.c0; have d1 := Q1.out.c1; have d2 := Q1.out.c2; have d3 := Q1.out.c3
  go_enter Tryz.func24, Tryz.ntmps24
  go_wp2_with fail
  refine NX.out.mono ?_; rintro e w2 ⟨rfl, rfl⟩
  go_wp2_with fail
  refine AD.out.mono ?_; rintro e w3 ⟨rfl, x3, f3⟩
  have X3 := Lib.hid x3
  have F3 := Lib.hid (FA.out.trans f3)
  clear x3 f3 d0 d1 d2 d3
  go_wp2_with fail
  exact bodyPost_end (v := .tuple #[]) (by simp [results, Tryz.results24, go_sem]) rfl ⟨rfl, X3.out, F3.out⟩
set_option maxHeartbeats 8000000 in
set_option maxRecDepth 100000 in
theorem deedI_whl (w0 w1 : World) (hb01 : Below w0.heap.size w0 w1) (hL : Lib3 w1) (p : Nat) (K : Nat → Prop) (ex : List Tk) (b1 : Sl) (he : eOk ex) (hbd : BdO ex) (h1 : DeedsI w0 w1 p K b1) : DeedI w0 w1 p K (.whl ex b1) := by
  intro D d c w hX hcl hD
  obtain ⟨h, n, sa, sn, sc, ba, bn, bc⟩ := d
  obtain rfl : h = whT := hD.1
  have hbl := bel1 w (.cells #[.string (tx whT), .string (tx n), .slice sa sn sc, .slice ba bn bc] 51)
  have X1 := Lib.hid (hX.next hbl)
  have Q1 := Lib.hid (B4.of (new_of w (.cells #[.string (tx whT), .string (tx n), .slice sa sn sc, .slice ba bn bc] 51)))
  have FA := Lib.hid (Cf.of_below hX.lt rfl hbl)
  have NX := Lib.hid (next_any X1.out)
  have AT := Lib.hid (add_any X1.out 9 0 noN (by omega))
  have AD := Lib.hid (fun z hz => choiceI_whl w0 w1 hb01 hL p K D n sa sn sc ba bn bc ex b1 he hbd c z hz hcl hD h1)
  generalize c ++ Sm.code (.whl ex b1) c.length = c3 at *
  generalize c ++ [(⟨9, 0, noN⟩ : Ov)] = c2 at *
  have hrp : w.heap.size ≠ p := by have := hX.lt; omega
  have RB := Lib.hid (show ∀ z, Cf p (w.alloc (.cells #[.string (tx whT), .string (tx n), .slice sa sn sc, .slice ba bn bc] 51)) z → z.cell? ⟨w.heap.size, 0, none⟩ = some (.string (tx whT)) ∧ z.cell? ⟨w.heap.size, 1, none⟩ = some (.string (tx n)) ∧ z.cell? ⟨w.heap.size, 2, none⟩ = some (.slice sa sn sc) ∧ z.cell? ⟨w.heap.size, 3, none⟩ = some (.slice ba bn bc) from fun z hz => by
    have e := hz.blk w.heap.size Q1.out.lt hrp (hX.free2 hbl)
    exact ⟨(World.cell?_of_block (w := w.alloc _) e).trans Q1.out.c0, (World.cell?_of_block (w := w.alloc _) e).trans Q1.out.c1, (World.cell?_of_block (w := w.alloc _) e).trans Q1.out.c2, (World.cell?_of_block (w := w.alloc _) e).trans Q1.out.c3⟩)
  clear hbl hX hcl hD
  generalize c.length = X at *
  unfold Dv.v
  have qe : ((tx whT).toList == [119, 104, 105, 108, 101]) = true := tx_eqL _
  have q0 : ((tx whT).toList == [115, 101, 116]) = false := by rw [Lib.toList_data, tx_data]; decide
  have q1 : ((tx whT).toList == [99, 117, 116]) = false := by rw [Lib.toList_data, tx_data]; decide
  have q2 : ((tx whT).toList == [115, 116, 111, 112]) = false := by rw [Lib.toList_data, tx_data]; decide
  have d0 := Q1.out.c0; have d1 := Q1.out.c1; have d2 := Q1.out.c2; have d3 := Q1.out.c3
  go_enter Tryz.func24, Tryz.ntmps24
  go_wp2_with fail
  refine NX.out.mono ?_; rintro e w2 ⟨rfl, rfl⟩
  go_wp2_with fail
  refine AT.out.mono ?_; rintro e w2 ⟨rfl, x2, f2⟩
  have X2 := Lib.hid x2
  have F2 := Lib.hid (FA.out.trans f2)
  clear d0 d1 d2 d3
  obtain ⟨d0, d1, d2, d3⟩ := RB.out _ f2
  clear x2 f2
  go_wp2_with fail
  refine (AD.out _ X2.out).mono ?_; rintro e w3 ⟨rfl, x3, f3⟩
  have X3 := Lib.hid x3
  have F3 := Lib.hid (F2.out.trans f3)
  clear x3 f3 d0 d1 d2 d3
  go_wp2_with fail
  exact bodyPost_end (v := .tuple #[]) (by simp [results, Tryz.results24, go_sem]) rfl ⟨rfl, X3.out, F3.out⟩
mutual
theorem Sm.codeI (w0 w1 : World) (hb01 : Below w0.heap.size w0 w1) (hL : Lib3 w1) (p : Nat) (K : Nat → Prop) : ∀ (s : Sm) (d : Nat), s.wf d → BdO s.fl → DeedI w0 w1 p K s
  | .set m e, d, h, hb => deedI_set w0 w1 hb01 hL p K m e (by rw [Sm.wf] at h; exact h.2.ok) (hb.sub (fun x hx => by rw [Sm.fl]; simp [hx]) (by rw [Sm.fl]; simp; omega))
  | .cut m, d, h, hb => deedI_cut w0 w1 hb01 hL p K m
  | .stop, d, h, hb => deedI_stop w0 w1 hb01 hL p K
  | .ifs e b1 b2, 0, h, hb => by rw [Sm.wf] at h; exact h.elim
  | .ifs e b1 b2, d + 1, h, hb => by
    rw [Sm.wf] at h
    exact deedI_if w0 w1 hb01 hL p K e b1 b2 h.1.ok (hb.sub (fun x hx => by rw [Sm.fl]; simp [hx]) (by rw [Sm.fl]; simp; omega))
      (deedsI_of w0 w1 p K b1 (Sl.codeI w0 w1 hb01 hL p K b1 d h.2.1 (hb.sub (fun x hx => by rw [Sm.fl]; simp [hx]) (by rw [Sm.fl]; simp; omega))))
      (deedsI_of w0 w1 p K b2 (Sl.codeI w0 w1 hb01 hL p K b2 d h.2.2 (hb.sub (fun x hx => by rw [Sm.fl]; simp [hx]) (by rw [Sm.fl]; simp; omega))))
  | .whl e b1, 0, h, hb => by rw [Sm.wf] at h; exact h.elim
  | .whl e b1, d + 1, h, hb => by
    rw [Sm.wf] at h
    exact deedI_whl w0 w1 hb01 hL p K e b1 h.1.ok (hb.sub (fun x hx => by rw [Sm.fl]; simp [hx]) (by rw [Sm.fl]; simp; omega))
      (deedsI_of w0 w1 p K b1 (Sl.codeI w0 w1 hb01 hL p K b1 d h.2 (hb.sub (fun x hx => by rw [Sm.fl]; simp [hx]) (by rw [Sm.fl]; simp; omega))))
theorem Sl.codeI (w0 w1 : World) (hb01 : Below w0.heap.size w0 w1) (hL : Lib3 w1) (p : Nat) (K : Nat → Prop) : ∀ (s : Sl) (d : Nat), s.wf d → BdO s.fl → s.each (DeedI w0 w1 p K)
  | .nil, d, h, hb => by rw [Sl.each]; trivial
  | .cons s r, d, h, hb => by
    rw [Sl.wf] at h
    rw [Sl.each]
    exact ⟨Sm.codeI w0 w1 hb01 hL p K s d h.1 (hb.sub (fun x hx => by rw [Sl.fl]; simp [hx]) (by rw [Sl.fl]; simp)), Sl.codeI w0 w1 hb01 hL p K r d h.2 (hb.sub (fun x hx => by rw [Sl.fl]; simp [hx]) (by rw [Sl.fl]; simp))⟩
end
set_option maxHeartbeats 8000000 in
set_option maxRecDepth 100000 in
theorem implCode_any (w : World) (a : Option Addr) (cap : Nat) (l : List Tk) (n : Nat) (C : Rcc w a n cap l) (hL : Lib3 w) :
    Calls Tryz.prog 7 #[.slice a n cap] w fun e w' => ∃ v, e = .returned v ∧ OwO w.heap.size w' v (cdR l) ∧ Below w.heap.size w w' := by
  have HDO := Lib.hid (T.deedsOf_any w w (Below.refl _ _) a cap l n C.hn C.hv C.hl C.hm hL)
  cases hrc : rcB l
  · rw [hrc] at HDO
    have HE := Lib.hid (cdR_no hrc)
    clear hrc
    go_enter Tryz.func7, Tryz.ntmps7
    go_wp2_with fail
    refine HDO.out.mono ?_; rintro e w1 ⟨b, m, c, rfl, b1, -⟩
    have B1 := Lib.hid b1
    clear b1
    go_wp2_with fail
    go_ret
    exact ⟨_, rfl, by rw [HE.out]; exact OwO.nothing _ _, B1.out⟩
  · rw [hrc] at HDO
    obtain ⟨t, hw, ht, hcd⟩ := cdR_tree hrc
    have h120 : l.length ≤ 120 := by
      unfold rcB at hrc
      split at hrc
      · assumption
      · cases hrc
    have hbd : BdO t.fl := by rw [← ht]; exact ⟨h120, C.hm⟩
    have hrt : T.rcR l = t := by rw [ht]; exact T.rc_det hw
    rw [hrt] at HDO
    have hcl := Sl.cl_fl t hw
    have hfl : t.fl.length = n := by rw [← ht]; exact C.hn
    have hn120 : n ≤ 120 := by have := C.hn; omega
    have HDS := Lib.hid (fun w1 (hb : Below w.heap.size w w1) p K => deedsI_of w w1 p K t (Sl.codeI w w1 hb (lib3_below hL hb) p K t 5 hw hbd))
    have HE := Lib.hid hcd
    have hcl2 := Sl.code_len t 0
    clear hrc ht hcd hbd hrt hw hL
    obtain ⟨fin, hfin⟩ : ∃ z, t.code 0 = z := ⟨_, rfl⟩
    rw [hfin] at HE hcl2
    have HFIN := Lib.hid hfin
    clear hfin
    go_enter Tryz.func7, Tryz.ntmps7
    go_wp2_with fail
    refine HDO.out.mono ?_; rintro e w1 ⟨b, m, c, rfl, b1, hdm⟩
    have DM1 := Lib.hid (hdm (by first | exact trivial | rfl))
    have B1 := Lib.hid b1
    have hbl := bel1 w1 (.cells #[.slice none 0 0] 39)
    have X2 := Lib.hid (show Cd w1 w1.heap.size [] (w1.alloc (.cells #[.slice none 0 0] 39)) from by
      have q := Bq.of (new_of w1 (.cells #[.slice none 0 0] 39))
      exact ⟨Nat.le_refl _, q.2.2, q.2.1, ⟨_, q.1, OwO.nothing _ _, fun e => by cases e⟩, hbl⟩)
    have HD2 := Lib.hid (HDS.out w1 b1 w1.heap.size _ 6 _ [] _ X2.out (by simp; omega) DM1.out)
    rw [List.nil_append, show ([] : List Ov).length = 0 from rfl, HFIN.out] at HD2
    clear b1 hdm hbl
    go_wp2_with fail
    generalize w1.heap.size = p at *
    refine HD2.out.mono ?_; rintro e w3 ⟨rfl, x3, -⟩
    have X3 := Lib.hid x3
    have HA := Lib.hid (add_any x3 11 0 noN (by omega))
    rw [← HE.out] at HA
    clear x3
    go_wp2_with fail
    refine HA.out.mono ?_; rintro e w4 ⟨rfl, x4, -⟩
    obtain ⟨v, cv, ho, -⟩ := x4.cc
    obtain ⟨va, vc, rfl, -⟩ := ho.view
    have O4 := Lib.hid ho
    have B4 := Lib.hid (B1.out.trans (x4.bw.mono B1.out.size))
    clear ho x4
    go_wp2_with fail
    refine bodyPost_ret (v := .slice va (cdR l).length vc) (by simp [results, Tryz.results7, go_sem]) rfl ⟨_, rfl, O4.out.mono B1.out.size, B4.out⟩
end Go.Proofs.YtoiphglfngkoiaaGreatDoor.Cl
namespace Go.Proofs.YtoiphglfngkoiaaGreatDoor.Cl
set_option linter.unusedVariables false
open Go.RowKit Wd Rp Kp
set_option maxHeartbeats 4000000 in
set_option maxRecDepth 100000 in
theorem eqOpS_same (w : World) (a b : Option Addr) (ca cb : Nat) (l : List Ov) (n : Nat) (hn : l.length = n) (hv : VwO w a ca l) (hu : VwO w b cb l) (hl : n ≤ 4194304) :
    Calls Tryz.prog 8 #[.slice a n ca, .slice b n cb] w fun e w' => e = .returned (.bool true) ∧ Below w.heap.size w w' := by
  have HV := Lib.hid hv; clear hv
  have HU := Lib.hid hu; clear hu
  have q0 : ((n : Int) != (n : Int)) = false := by simp
  go_enter Tryz.func8, Tryz.ntmps8
  go_wp2
  go_loopw [5] (fun i wr => ∃ k : Nat, k ≤ n ∧ i = .int .i64 k ∧ Below w.heap.size w wr) (fun i _ => n - intV i)
  case atStart => exact ⟨0, Nat.zero_le _, rfl, Below.refl _ _⟩
  case round =>
    obtain ⟨k, hk, rfl, hbel⟩ := hrel
    have HB := Lib.hid hbel; clear hbel
    by_cases hlt : k < n
    · obtain ⟨c, hc⟩ : ∃ c, l[k]? = some c := ⟨l[k], List.getElem?_eq_getElem (by omega)⟩
      obtain ⟨g, o, rfl, hg, h5⟩ := HV.out.2.2.2 k c hc
      obtain ⟨h, p, rfl, hh, h6⟩ := HU.out.2.2.2 k c hc
      obtain ⟨c0, c1, c2⟩ : At3o wr g (o + k * 3) c := h5.same (HB.out.block g hg)
      obtain ⟨d0, d1, d2⟩ : At3o wr h (p + k * 3) c := h6.same (HB.out.block h hh)
      have hg' : g < wr.heap.size := Nat.lt_of_lt_of_le hg HB.out.size
      have hh' : h < wr.heap.size := Nat.lt_of_lt_of_le hh HB.out.size
      have SOF := Lib.hid (show ∀ z, Below wr.heap.size wr z → (z.cell? ⟨g, o + k * 3, none⟩ = some (.int .i64 c.k) ∧ z.cell? ⟨g, o + k * 3 + 1, none⟩ = some (.int .i64 c.n) ∧ z.cell? ⟨g, o + k * 3 + 2, none⟩ = some (.string (tx c.m)) ∧ z.cell? ⟨h, p + k * 3, none⟩ = some (.int .i64 c.k) ∧ z.cell? ⟨h, p + k * 3 + 1, none⟩ = some (.int .i64 c.n) ∧ z.cell? ⟨h, p + k * 3 + 2, none⟩ = some (.string (tx c.m)) ∧ Below wr.heap.size wr z) from fun z hz => ⟨coc hz hg' c0, coc hz hg' c1, coc hz hg' c2, coc hz hh' d0, coc hz hh' d1, coc hz hh' d2, hz⟩)
      have HC := Lib.hid (eqOp_self c)
      clear h5 h6 hg hh hc c0 c1 c2 d0 d1 d2
      go_wp2_with fail
      refine wp_region_held_drew (S := fun z => z.cell? ⟨g, o + k * 3, none⟩ = some (.int .i64 c.k) ∧ z.cell? ⟨g, o + k * 3 + 1, none⟩ = some (.int .i64 c.n) ∧ z.cell? ⟨g, o + k * 3 + 2, none⟩ = some (.string (tx c.m)) ∧ z.cell? ⟨h, p + k * 3, none⟩ = some (.int .i64 c.k) ∧ z.cell? ⟨h, p + k * 3 + 1, none⟩ = some (.int .i64 c.n) ∧ z.cell? ⟨h, p + k * 3 + 2, none⟩ = some (.string (tx c.m)) ∧ Below wr.heap.size wr z) (by kernel_rfl) (SOF.out _ (Below.refl _ _).drew) (fun hHeld => ?_)
      refine wpAnyH_take (i := 0) (v := ?v0a) rfl (by kernel_rfl) (by kernel_rfl) (by kernel_rfl) (fun _ _ _ h => h) (Or.inl ⟨by rfl, ?hy0a⟩) (by assumption) ?rest0a
      case hy0a => (intro zz hSw; (try dsimp only at hSw); go_simp; (try with_reducible rfl))
      change wpAnyH _ _ _ _ _ _ _ (Act.put _ (some 17) _) _
      simp only [Act.put, List.setIfInBounds_toArray, List.set_cons_zero, List.set_cons_succ]
      refine wpAnyH_take (i := 1) (v := ?v1a) rfl (by kernel_rfl) (by kernel_rfl) (by kernel_rfl) (fun _ _ _ h => h) (Or.inl ⟨by rfl, ?hy1a⟩) (by assumption) ?rest1a
      case hy1a => (intro zz hSw; (try dsimp only at hSw); go_simp; (try with_reducible rfl))
      change wpAnyH _ _ _ _ _ _ _ (Act.put _ (some 18) _) _
      simp only [Act.put, List.setIfInBounds_toArray, List.set_cons_zero, List.set_cons_succ]
      refine wpAnyH_take (i := 2) (v := ?v2a) rfl (by kernel_rfl) (by kernel_rfl) (by kernel_rfl) (fun _ _ _ h => h) (Or.inl ⟨by rfl, ?hy2a⟩) (by assumption) ?rest2a
      case hy2a => (intro zz hSw; (try dsimp only at hSw); go_simp; (try with_reducible rfl))
      change wpAnyH _ _ _ _ _ _ _ (Act.put _ (some 19) _) _
      simp only [Act.put, List.setIfInBounds_toArray, List.set_cons_zero, List.set_cons_succ]
      refine wpAnyH_take (i := 3) (v := ?v3a) rfl (by kernel_rfl) (by kernel_rfl) (by kernel_rfl) (fun _ _ _ h => h) (Or.inl ⟨by rfl, ?hy3a⟩) (by assumption) ?rest3a
      case hy3a => (intro zz hSw; (try dsimp only at hSw); go_simp; (try with_reducible rfl))
      change wpAnyH _ _ _ _ _ _ _ (Act.put _ (some 20) _) _
      simp only [Act.put, List.setIfInBounds_toArray, List.set_cons_zero, List.set_cons_succ]
      refine wpAnyH_take (i := 4) (v := ?v4a) rfl (by kernel_rfl) (by kernel_rfl) (by kernel_rfl) (fun _ _ _ h => h) (Or.inl ⟨by rfl, ?hy4a⟩) (by assumption) ?rest4a
      case hy4a => (intro zz hSw; (try dsimp only at hSw); go_simp; (try with_reducible rfl))
      change wpAnyH _ _ _ _ _ _ _ (Act.put _ (some 21) _) _
      simp only [Act.put, List.setIfInBounds_toArray, List.set_cons_zero, List.set_cons_succ]
      refine wpAnyH_take (i := 5) (v := ?v5a) rfl (by kernel_rfl) (by kernel_rfl) (by kernel_rfl) (fun _ _ _ h => h) (Or.inl ⟨by rfl, ?hy5a⟩) (by assumption) ?rest5a
      case hy5a => (intro zz hSw; (try dsimp only at hSw); go_simp; (try with_reducible rfl))
      change wpAnyH _ _ _ _ _ _ _ (Act.put _ (some 22) _) _
      simp only [Act.put, List.setIfInBounds_toArray, List.set_cons_zero, List.set_cons_succ]
      refine wpAnyH_take (i := 6) (v := ?v6a) rfl (by kernel_rfl) (by kernel_rfl) (by kernel_rfl) (fun _ _ _ h => h) (Or.inl ⟨by rfl, ?hy6a⟩) (by assumption) ?rest6a
      case hy6a => (intro zz hSw; (try dsimp only at hSw); go_simp; (try with_reducible rfl))
      change wpAnyH _ _ _ _ _ _ _ (Act.put _ (some 23) _) _
      simp only [Act.put, List.setIfInBounds_toArray, List.set_cons_zero, List.set_cons_succ]
      refine wpAnyH_take (i := 7) (v := ?v7a) rfl (by kernel_rfl) (by kernel_rfl) (by kernel_rfl) (fun _ _ _ h => h) (Or.inl ⟨by rfl, ?hy7a⟩) (by assumption) ?rest7a
      case hy7a => (intro zz hSw; (try dsimp only at hSw); go_simp; (try with_reducible rfl))
      change wpAnyH _ _ _ _ _ _ _ (Act.put _ (some 24) _) _
      simp only [Act.put, List.setIfInBounds_toArray, List.set_cons_zero, List.set_cons_succ]
      refine wpAnyH_ready (rs := [8]) (by kernel_rfl) (by simp) (AllReadyH.cons rfl (fun K hK => ?_) AllReadyH.nil)
      go_simp
      refine (HC.out _).mono ?_; rintro e w' ⟨rfl, bel⟩
      refine hK.out _ _ (SOF.out _ (bel_tr hHeld.2.2.2.2.2.2 bel (Nat.le_refl _))) (fun hHeld => ?_)
      clear hK K bel
      refine wpAnyH_take (i := 9) (v := ?v9a) rfl (by kernel_rfl) (by kernel_rfl) (by kernel_rfl) (fun _ _ _ h => h) (Or.inl ⟨by rfl, ?hy9a⟩) (by assumption) ?rest9a
      case hy9a => (intro zz hSw; (try dsimp only at hSw); go_simp; (try with_reducible rfl))
      change wpAnyH _ _ _ _ _ _ _ (Act.put _ (some 26) _) _
      simp only [Act.put, List.setIfInBounds_toArray, List.set_cons_zero, List.set_cons_succ]
      refine wpAnyH_done (by kernel_rfl) ?_ _
      have HG := Lib.hid (bel_tr HB.out hHeld.2.2.2.2.2.2 (Nat.le_refl _)); clear hHeld SOF
      go_wp2_with fail
      go_roundw
      case rel => exact ⟨k + 1, by omega, by go_num, HG.out⟩
      case measure => simp [intV]; omega
    · obtain rfl : k = n := by omega
      go_wp2_with fail
      go_ret
      exact ⟨rfl, HB.out⟩
theorem eqO_own {B C : Nat} {v u : Value} {l : List Ov} (w : World) (hv : OwO B w v l) (hu : OwO C w u l) (hl : l.length ≤ 4194304) :
    Calls Tryz.prog 8 #[v, u] w fun e w' => e = .returned (.bool true) ∧ Below w.heap.size w w' := by
  obtain ⟨a, ca, rfl, h1⟩ := hv.view
  obtain ⟨b, cb, rfl, h2⟩ := hu.view
  exact eqOpS_same w a b ca cb l _ rfl h1 h2 hl
theorem flatO_setK : ∀ (l : List Ov) (k : Nat) (d : Ov) (x : Int), l[k]? = some d → (flatO l).set (k * 3) (.int .i64 x) = flatO (l.set k ⟨x, d.n, d.m⟩)
  | [], k, d, x, h => by simp at h
  | c :: l, 0, d, x, h => by
    obtain rfl : c = d := by simpa using h
    rfl
  | c :: l, k + 1, d, x, h => by
    have ih := flatO_setK l k d x (by simpa using h)
    rw [flatO_cons, List.set_cons_succ, flatO_cons, ← ih, List.set_append_right _ _ (by rw [valsO_len]; omega), valsO_len, show (k + 1) * 3 - 3 = k * 3 by omega]
theorem flatO_setM : ∀ (l : List Ov) (k : Nat) (d : Ov) (x : Tk), l[k]? = some d → (flatO l).set (k * 3 + 2) (.string (tx x)) = flatO (l.set k ⟨d.k, d.n, x⟩)
  | [], k, d, x, h => by simp at h
  | c :: l, 0, d, x, h => by
    obtain rfl : c = d := by simpa using h
    rfl
  | c :: l, k + 1, d, x, h => by
    have ih := flatO_setM l k d x (by simpa using h)
    rw [flatO_cons, List.set_cons_succ, flatO_cons, ← ih, List.set_append_right _ _ (by rw [valsO_len]; omega), valsO_len, show (k + 1) * 3 + 2 - 3 = k * 3 + 2 by omega]
theorem OwO.setK {B : Nat} {w : World} {g n cap : Nat} {l : List Ov} (h : OwO B w (.slice (some ⟨g, 0, none⟩) n cap) l) (hn : n = l.length) (k : Nat) (d : Ov) (hd : l[k]? = some d) (x : Int) :
    OwO B (w.setCell ⟨g, k * 3, none⟩ (.int .i64 x)) (.slice (some ⟨g, 0, none⟩) n cap) (l.set k ⟨x, d.n, d.m⟩) := by
  subst hn
  unfold OwO
  rw [List.length_set, ← flatO_setK l k d x hd]
  exact (World.ownsRow.stored h (k * 3) (.int .i64 x)).1
theorem OwO.setM {B : Nat} {w : World} {g n cap : Nat} {l : List Ov} (h : OwO B w (.slice (some ⟨g, 0, none⟩) n cap) l) (hn : n = l.length) (k : Nat) (d : Ov) (hd : l[k]? = some d) (x : Tk) :
    OwO B (w.setCell ⟨g, k * 3 + 2, none⟩ (.string (tx x))) (.slice (some ⟨g, 0, none⟩) n cap) (l.set k ⟨d.k, d.n, x⟩) := by
  subst hn
  unfold OwO
  rw [List.length_set, ← flatO_setM l k d x hd]
  exact (World.ownsRow.stored h (k * 3 + 2) (.string (tx x))).1
theorem set_get {l : List Ov} {k : Nat} {c d : Ov} (h : l[k]? = some d) : (l.set k c)[k]? = some c := by
  rw [List.getElem?_set_self (List.getElem?_eq_some_iff.1 h).1]
def mkO (s k : Nat) : Ov := ⟨((s + 3 * k : Nat) : Int), ((s + 3 * k : Nat) : Int) + 1, mtx (s + 3 * k + 2)⟩
def MkdO (s : Nat) (m : List Ov) : Prop := ∀ j, j < m.length → m[j]? = some (mkO s j)
set_option maxRecDepth 100000 in
set_option maxHeartbeats 4000000 in
theorem markO_from {B : Nat} {v : Value} {l : List Ov} {n s : Nat} (w : World) (hv : OwO B w v l) (hn : l.length = n) (hl : n ≤ 4194304) (hs1 : 1 ≤ s) (hs2 : s ≤ 9000000) :
    Calls Tryz.prog 11 #[v, .int .i64 (s : Int)] w fun e w' => e = .returned (.int .i64 ((s + 3 * n : Nat) : Int)) ∧ w.grownBy w' v.ownBlock ∧ ∃ m, m.length = n ∧ MkdO s m ∧ OwO B w' v m := by
  obtain ⟨a, ca, rfl, -, ha⟩ := hv.own
  have HA := Lib.hid ha; clear ha
  have HO := Lib.hid hv; clear hv
  rw [hn] at HO HA ⊢
  go_enter Tryz.func11, Tryz.ntmps11
  go_wp2
  go_loopw [1, 5] (fun q i wr => ∃ (k : Nat) (m : List Ov), k ≤ n ∧ i = .int .i64 k ∧ q = .int .i64 ((s + 3 * k : Nat) : Int) ∧ w.grownBy wr (Value.slice a n ca).ownBlock ∧ m.length = n ∧ (∀ j, j < k → m[j]? = some (mkO s j)) ∧ OwO B wr (.slice a n ca) m) (fun _ i _ => n - intV i)
  case atStart => exact ⟨0, l, Nat.zero_le _, rfl, rfl, World.grownBy.refl _ _, hn, fun j hj => by omega, HO.out⟩
  case round =>
    obtain ⟨k, m, hk, rfl, rfl, hgr, hm, hmk, hown⟩ := hrel
    have HG := Lib.hid hgr; clear hgr
    have HM := Lib.hid hmk; clear hmk
    have HW := Lib.hid hown; clear hown HO
    by_cases hlt : k < n
    · obtain ⟨g, rfl, -, -⟩ := HA.out k (by omega)
      obtain ⟨d, hd⟩ : ∃ d, m[k]? = some d := ⟨m[k], List.getElem?_eq_getElem (by omega)⟩
      have HT := Lib.hid (fun w => markText_any (s + 3 * k + 2) w (by omega) (by omega))
      have HC := Lib.hid (show mkO s k = ⟨((s + 3 * k : Nat) : Int), ((s + 3 * k : Nat) : Int) + 1, mtx (s + 3 * k + 2)⟩ from rfl)
      have HQ3 := Lib.hid (show s + 3 * (k + 1) = s + 3 * k + 3 by omega)
      generalize hq : s + 3 * k = q at *
      rw [show ((q + 2 : Nat) : Int) = (q : Int) + 1 + 1 by omega] at HT
      generalize mtx (q + 2) = s0 at HT HC
      have hm' := hm.symm
      have k1 := HW.out.setK hm' k d hd (q : Int)
      have d1 : (m.set k ⟨(q : Int), d.n, d.m⟩)[k]? = some ⟨(q : Int), d.n, d.m⟩ := set_get hd
      have k2 := k1.setN (by rw [List.length_set]; exact hm') k _ d1 ((q : Int) + 1)
      rw [List.set_set] at k2
      have d2 : (m.set k ⟨(q : Int), (q : Int) + 1, d.m⟩)[k]? = some ⟨(q : Int), (q : Int) + 1, d.m⟩ := set_get hd
      have K2 := Lib.hid k2
      have D2 := Lib.hid d2
      obtain ⟨⟨c0, c1, c2⟩, hfz, -, -⟩ := HW.out.at hd
      obtain ⟨⟨e0, e1, e2⟩, -, -, -⟩ := k1.at d1
      have f0 := hfz (k * 3)
      have f1 := hfz (k * 3 + 1)
      have HG2 := Lib.hid (((HG.out.trans (grown_set (g := g) (o := k * 3) (v := .int .i64 (q : Int)))).trans (grown_set (g := g) (o := k * 3 + 1) (v := .int .i64 ((q : Int) + 1)))))
      have hq2 : (q : Int) ≤ 30000000 := by omega
      have hq3 : (0 : Int) ≤ (q : Int) := by omega
      clear k1 k2 d1 d2 hfz hd hm' c2 e0 e2
      go_wp2_with fail
      clear c0 c1 e1 f0 f1
      generalize (wr.setCell ⟨g, k * 3, none⟩ (.int .i64 (q : Int))).setCell ⟨g, k * 3 + 1, none⟩ (.int .i64 ((q : Int) + 1)) = w0 at *
      refine (HT.out _).mono ?_; rintro e w1 ⟨rfl, b1⟩
      have HG3 := Lib.hid (HG2.out.trans (grown_of b1))
      have HW3 := Lib.hid (K2.out.next b1); clear b1
      obtain ⟨⟨-, -, c2⟩, hfz, -, -⟩ := HW3.out.at D2.out
      have f2 := hfz (k * 3 + 2)
      clear hfz
      go_wp2_with fail
      go_roundw
      case rel =>
        refine ⟨k + 1, m.set k (mkO s k), by omega, by go_num, ?_, (HG3.out.trans grown_set), by rw [List.length_set, hm], fun j hj => ?_, ?_⟩
        · rw [HQ3.out]; congr 1
        · by_cases hjk : j = k
          · subst hjk; rw [List.getElem?_set_self (by omega)]
          · rw [List.getElem?_set_ne (by omega)]; exact HM.out j (by omega)
        · have := HW3.out.setM (by rw [List.length_set, hm]) k _ D2.out s0
          rw [List.set_set] at this
          rw [HC.out]; exact this
      case measure => simp [intV]; omega
    · obtain rfl : k = n := by omega
      go_wp2_with fail
      go_ret
      exact ⟨rfl, HG.out, m, hm, fun j hj => HM.out j (by omega), HW.out⟩
set_option maxHeartbeats 4000000 in
set_option maxRecDepth 100000 in
theorem heldO_any (s : Nat) (w : World) (a : Option Addr) (cap : Nat) (l : List Ov) (n : Nat) (hn : l.length = n) (hv : VwO w a cap l) (hm : MkdO s l) (hl : n ≤ 4194304) (hs1 : 1 ≤ s) (hs2 : s ≤ 9000000) :
    Calls Tryz.prog 12 #[.slice a n cap, .int .i64 (s : Int)] w fun e w' => e = .returned (.int .i64 ((s + 3 * n : Nat) : Int)) ∧ Below w.heap.size w w' := by
  have HV := Lib.hid hv; clear hv
  have HM := Lib.hid hm; clear hm
  go_enter Tryz.func12, Tryz.ntmps12
  go_wp2
  go_loopw [1, 5] (fun q i wr => ∃ (k : Nat), k ≤ n ∧ i = .int .i64 k ∧ q = .int .i64 ((s + 3 * k : Nat) : Int) ∧ Below w.heap.size w wr) (fun _ i _ => n - intV i)
  case atStart => exact ⟨0, Nat.zero_le _, rfl, rfl, Below.refl _ _⟩
  case round =>
    obtain ⟨k, hk, rfl, rfl, hbel⟩ := hrel
    have HB := Lib.hid hbel; clear hbel
    by_cases hlt : k < n
    · have hc := HM.out k (by omega)
      obtain ⟨g, o, rfl, hg, h5⟩ := HV.out.2.2.2 k _ hc
      obtain ⟨c0, c1, c2⟩ : At3o wr g (o + k * 3) (mkO s k) := h5.same (HB.out.block g hg)
      have hg' : g < wr.heap.size := Nat.lt_of_lt_of_le hg HB.out.size
      have HT := Lib.hid (fun w => markText_any (s + 3 * k + 2) w (by omega) (by omega))
      have HQ3 := Lib.hid (show s + 3 * (k + 1) = s + 3 * k + 3 by omega)
      have e0 : (mkO s k).k = ((s + 3 * k : Nat) : Int) := rfl
      have e1 : (mkO s k).n = ((s + 3 * k : Nat) : Int) + 1 := rfl
      have e2 : tx (mkO s k).m = tx (mtx (s + 3 * k + 2)) := rfl
      rw [e0] at c0
      rw [e1] at c1
      rw [e2] at c2
      clear e0 e1 e2
      generalize tx (mtx (s + 3 * k + 2)) = x at *
      clear hc h5 hg
      generalize hq : s + 3 * k = q at *
      rw [show ((q + 2 : Nat) : Int) = (q : Int) + 1 + 1 by omega] at HT
      have hq2 : (q : Int) ≤ 30000000 := by omega
      have hq3 : (0 : Int) ≤ (q : Int) := by omega
      have i1 : (k : Int) < (n : Int) := by omega
      have i2 : (0 : Int) ≤ (k : Int) := by omega
      have s0 : (x.toList == x.toList) = true := by simp
      have t0 : ((q : Int) != (q : Int)) = false := by simp
      have t1 : (((q : Int) + 1) != ((q : Int) + 1)) = false := by simp
      have SOF := Lib.hid (show ∀ z, Below wr.heap.size wr z → (z.cell? ⟨g, o + k * 3 + 2, none⟩ = some (.string x) ∧ Below wr.heap.size wr z) from fun z hz => ⟨coc hz hg' c2, hz⟩)
      go_wp2_with fail
      clear c0 c1 c2
      refine wp_region_held_drew (S := fun z => z.cell? ⟨g, o + k * 3 + 2, none⟩ = some (.string x) ∧ Below wr.heap.size wr z) (by kernel_rfl) (SOF.out _ (Below.refl _ _).drew) (fun hHeld => ?_)
      refine wpAnyH_take (i := 0) (v := ?v0b) rfl (by kernel_rfl) (by kernel_rfl) (by kernel_rfl) (fun _ _ _ h => h) (Or.inl ⟨by rfl, ?hy0b⟩) (by assumption) ?rest0b
      case hy0b => (intro zz hSw; (try dsimp only at hSw); go_simp; (try with_reducible rfl))
      change wpAnyH _ _ _ _ _ _ _ (Act.put _ (some 30) _) _
      simp only [Act.put, List.setIfInBounds_toArray, List.set_cons_zero, List.set_cons_succ]
      refine wpAnyH_take (i := 1) (v := ?v1b) rfl (by kernel_rfl) (by kernel_rfl) (by kernel_rfl) (fun _ _ _ h => h) (Or.inl ⟨by rfl, ?hy1b⟩) (by assumption) ?rest1b
      case hy1b => (intro zz hSw; (try dsimp only at hSw); go_simp; (try with_reducible rfl))
      change wpAnyH _ _ _ _ _ _ _ (Act.put _ (some 31) _) _
      simp only [Act.put, List.setIfInBounds_toArray, List.set_cons_zero, List.set_cons_succ]
      refine wpAnyH_take (i := 2) (v := ?v2b) rfl (by kernel_rfl) (by kernel_rfl) (by kernel_rfl) (fun _ _ _ h => h) (Or.inl ⟨by rfl, ?hy2b⟩) (by assumption) ?rest2b
      case hy2b => (intro zz hSw; (try dsimp only at hSw); go_simp; (try with_reducible rfl))
      change wpAnyH _ _ _ _ _ _ _ (Act.put _ (some 32) _) _
      simp only [Act.put, List.setIfInBounds_toArray, List.set_cons_zero, List.set_cons_succ]
      refine wpAnyH_take (i := 3) (v := ?v3b) rfl (by kernel_rfl) (by kernel_rfl) (by kernel_rfl) (fun _ _ _ h => h) (Or.inl ⟨by rfl, ?hy3b⟩) (by assumption) ?rest3b
      case hy3b => (intro zz hSw; (try dsimp only at hSw); go_simp; (try with_reducible rfl))
      change wpAnyH _ _ _ _ _ _ _ (Act.put _ (some 33) _) _
      simp only [Act.put, List.setIfInBounds_toArray, List.set_cons_zero, List.set_cons_succ]
      refine wpAnyH_take (i := 4) (v := ?v4b) rfl (by kernel_rfl) (by kernel_rfl) (by kernel_rfl) (fun _ _ _ h => h) (Or.inl ⟨by rfl, ?hy4b⟩) (by assumption) ?rest4b
      case hy4b => (intro zz hSw; (try dsimp only at hSw); go_simp; (try with_reducible rfl))
      change wpAnyH _ _ _ _ _ _ _ (Act.put _ (some 34) _) _
      simp only [Act.put, List.setIfInBounds_toArray, List.set_cons_zero, List.set_cons_succ]
      refine wpAnyH_take (i := 5) (v := ?v5b) rfl (by kernel_rfl) (by kernel_rfl) (by kernel_rfl) (fun _ _ _ h => h) (Or.inl ⟨by rfl, ?hy5b⟩) (by assumption) ?rest5b
      case hy5b => (intro zz hSw; (try dsimp only at hSw); go_simp; (try with_reducible rfl))
      change wpAnyH _ _ _ _ _ _ _ (Act.put _ (some 35) _) _
      simp only [Act.put, List.setIfInBounds_toArray, List.set_cons_zero, List.set_cons_succ]
      refine wpAnyH_ready (rs := [6]) (by kernel_rfl) (by simp) (AllReadyH.cons rfl (fun K hK => ?_) AllReadyH.nil)
      go_simp
      refine (HT.out _).mono ?_; rintro e w' ⟨rfl, bel⟩
      refine hK.out _ _ (SOF.out _ (bel_tr hHeld.2 bel (Nat.le_refl _))) (fun hHeld => ?_)
      clear hK K bel
      refine wpAnyH_take (i := 7) (v := ?v7b) rfl (by kernel_rfl) (by kernel_rfl) (by kernel_rfl) (fun _ _ _ h => h) (Or.inl ⟨by rfl, ?hy7b⟩) (by assumption) ?rest7b
      case hy7b => (intro zz hSw; (try dsimp only at hSw); go_simp; (try with_reducible rfl))
      change wpAnyH _ _ _ _ _ _ _ (Act.put _ (some 37) _) _
      simp only [Act.put, List.setIfInBounds_toArray, List.set_cons_zero, List.set_cons_succ]
      refine wpAnyH_done (by kernel_rfl) ?_ _
      have BX := Lib.hid (bel_tr HB.out hHeld.2 (Nat.le_refl _)); clear hHeld SOF
      go_wp2_with fail
      go_roundw
      case rel => exact ⟨k + 1, by omega, by go_num, by rw [HQ3.out]; congr 1, BX.out⟩
      case measure => simp [intV]; omega
    · obtain rfl : k = n := by omega
      go_wp2_with fail
      go_ret
      exact ⟨rfl, HB.out⟩
theorem heldO_from {B : Nat} {v : Value} {l : List Ov} {n s : Nat} (w : World) (hv : OwO B w v l) (hn : l.length = n) (hm : MkdO s l) (hl : n ≤ 4194304) (hs1 : 1 ≤ s) (hs2 : s ≤ 9000000) :
    Calls Tryz.prog 12 #[v, .int .i64 (s : Int)] w fun e w' => e = .returned (.int .i64 ((s + 3 * n : Nat) : Int)) ∧ Below w.heap.size w w' := by
  subst hn
  obtain ⟨a, ca, rfl, h1⟩ := hv.view
  exact heldO_any s w a ca l _ rfl h1 hm hl hs1 hs2
end Go.Proofs.YtoiphglfngkoiaaGreatDoor.Cl
namespace Go.Proofs.YtoiphglfngkoiaaGreatDoor.Nx
set_option linter.unusedVariables false
open Go.RowKit Wd Rp Kp
def OwT (B : Nat) (w : World) (v : Value) (l : List (List UInt8)) : Prop := w.ownsRow B 9 1 v l.length (l.map fun p => .string (tx p))
theorem row_below {B : Nat} {e : TypeId} {k : Nat} {v : Value} {n : Nat} {xs : List Value} {w w' : World} (h : w.ownsRow B e k v n xs) (hb : Below w.heap.size w w') : w'.ownsRow B e k v n xs := by
  obtain ⟨h1, h2⟩ := h
  refine ⟨h1, ?_⟩
  rcases h2 with h2 | ⟨g, cap, cur, hv, hB, hg, h3⟩
  · exact .inl h2
  · exact .inr ⟨g, cap, cur, hv, hB, (hb.block g (Array.getElem?_eq_some_iff.1 hg).1).trans hg, h3⟩
theorem OwT.snoc {B : Nat} {w : World} {v : Value} {l : List (List UInt8)} {p : List UInt8} (h : w.ownsRow B 9 1 v (l.length + 1) ((l.map fun p => .string (tx p)) ++ [.string (tx p)])) : OwT B w v (l ++ [p]) := by
  unfold OwT; rw [List.length_append, List.length_singleton, List.map_append]; exact h
theorem OwT.next {B : Nat} {w w' : World} {v : Value} {l : List (List UInt8)} (h : OwT B w v l) (hb : Below w.heap.size w w') : OwT B w' v l := row_below h hb
theorem OwT.mono {B C : Nat} {w : World} {v : Value} {l : List (List UInt8)} (h : OwT B w v l) (hC : C ≤ B) : OwT C w v l := by
  obtain ⟨h1, h2⟩ := h
  refine ⟨h1, ?_⟩
  rcases h2 with h2 | ⟨g, cap, cur, hv, hB, h3⟩
  · exact .inl h2
  · exact .inr ⟨g, cap, cur, hv, Nat.le_trans hC hB, h3⟩
theorem OwT.form {B : Nat} {w : World} {v : Value} {l : List (List UInt8)} (h : OwT B w v l) : ∃ a cap, v = .slice a l.length cap ∧
    ∀ k, k < l.length → ∃ g x, a = some ⟨g, 0, none⟩ ∧ B ≤ g ∧ g < w.heap.size ∧ l[k]? = some x ∧ w.cell? ⟨g, k, none⟩ = some (.string (tx x)) ∧ w.frozen? ⟨g, k, none⟩ = false := by
  obtain ⟨h1, h2⟩ := h
  rcases h2 with ⟨rfl, hn⟩ | ⟨g, cap, cur, rfl, hB, hg, hn, hc, hsz, hxs⟩
  · exact ⟨none, 0, by rw [hn], fun k hk => by omega⟩
  · refine ⟨_, cap, rfl, fun k hk => ⟨g, l[k], rfl, hB, (Array.getElem?_eq_some_iff.1 hg).1, List.getElem?_eq_getElem hk, ?_, by simp [World.frozen?, hg]⟩⟩
    have e1 : (l.map fun p => Value.string (tx p))[k]? = some (.string (tx l[k])) := by rw [List.getElem?_map, List.getElem?_eq_getElem hk]; rfl
    rw [← hxs, List.getElem?_take_of_lt (by omega)] at e1
    simpa [World.cell?, hg] using e1
def mtx (k : Nat) : List UInt8 := 109 :: Lib.decDigits k
theorem mtx_app (t : ByteArray) (k : Nat) (h : t = ⟨(Lib.decDigits k).toArray⟩) : ((⟨#[109]⟩ : ByteArray) ++ t) = tx (mtx k) := by
  subst h
  apply ByteArray.ext
  apply Array.toList_inj.1
  rw [Joins.data_append]; rfl
theorem dgr_end {n : Nat} {t : ByteArray} (h : DgR n 0 t) (hn : 1 ≤ n) : t = ⟨(Lib.decDigits n).toArray⟩ :=
  h.done (fun e => by rcases h with ⟨_, h2⟩ | ⟨h1, _⟩; omega; exact h1 e)
set_option maxHeartbeats 1000000 in
theorem markText_any (n : Nat) (w : World) (hn1 : 1 ≤ n) (hn : n ≤ 9223372036854775807) :
    Calls Tryz.prog 19 #[.int .i64 n] w fun e w' => e = .returned (.string (tx (mtx n))) ∧ Below w.heap.size w w' := by
  have KC := conv_one
  have q0 : ¬ (n : Int) ≤ 0 := by omega
  go_enter Tryz.func19, Tryz.ntmps19
  go_wp2
  go_loopw [0, 3] (fun i s wr => ∃ (m : Nat) (t : ByteArray), i = .int .i64 m ∧ s = .string t ∧ m ≤ n ∧ DgR n m t ∧ Below w.heap.size w wr) (fun i _ _ => (intOf i).toNat)
  case atStart => exact ⟨n, ⟨#[]⟩, rfl, rfl, Nat.le_refl _, DgR.start n, Below.refl _ _⟩
  case round =>
    obtain ⟨m, t, rfl, rfl, hm, hd, hb⟩ := hrel
    have hsz := hd.size (by omega)
    have hsum : ¬ 9223372036854775807 < (one (48 + (m : Int) % 10)).size + t.size := by rw [one_size]; omega
    have HB := Lib.hid hb; clear hb
    have HD := Lib.hid hd; clear hd
    have hB : w.heap.size ≤ wr.heap.size := HB.out.size
    by_cases hp : 0 < m
    · go_wp2
      go_roundw
      case rel => exact ⟨m / 10, _, by go_num, rfl, by omega, HD.out.step (Or.inr hp), HB.out.alloc hB _⟩
      case measure => simp only [intOf]; omega
    · obtain rfl : m = 0 := by omega
      have HE := Lib.hid (mtx_app t n (dgr_end HD.out hn1))
      have hs2 : ¬ 9223372036854775807 < (⟨#[109]⟩ : ByteArray).size + t.size := by show ¬ _ < 1 + t.size; omega
      go_wp2
      go_ret
      exact ⟨by rw [← HE.out]; rfl, HB.out⟩
def Mkd (k : Nat) (m : List (List UInt8)) : Prop := ∀ j, j < m.length → m[j]? = some (mtx (k + j))
theorem OwT.set {B : Nat} {w : World} {g n cap : Nat} {m : List (List UInt8)} (h : OwT B w (.slice (some ⟨g, 0, none⟩) n cap) m) (hn : n = m.length) (j : Nat) (x : List UInt8) : OwT B (w.setCell ⟨g, j, none⟩ (.string (tx x))) (.slice (some ⟨g, 0, none⟩) n cap) (m.set j x) := by
  subst hn
  have := World.ownsRow.stored h j (.string (tx x))
  unfold OwT
  rw [List.length_set, List.map_set]; exact this.1
theorem owt_of {B : Nat} {w : World} {v : Value} {l : List Cl.Tk} (h : Cl.OT B w v l) : OwT B w v l := by
  unfold Cl.OT Cl.O1 at h
  rw [Cl.txL_len] at h
  exact h
end Go.Proofs.YtoiphglfngkoiaaGreatDoor.Nx
namespace Go.Proofs.YtoiphglfngkoiaaGreatDoor.Nx
set_option linter.unusedVariables false
open Go.RowKit Wd Rp Kp
end Go.Proofs.YtoiphglfngkoiaaGreatDoor.Nx
