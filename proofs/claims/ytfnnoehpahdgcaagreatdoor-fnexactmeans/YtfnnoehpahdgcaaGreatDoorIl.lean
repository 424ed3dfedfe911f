/-
  Ends compared: contracts of laws.likeBins, likeEnd, slices.Equal at bins, spec.Same, impl.Same: all the same truth value ('sameL', 'sameE'). (Made by gen_il.py.)
-/
import Derived.Test.YtfnnoehpahdgcaaGreatDoorJa
namespace Go.Proofs.YtfnnoehpahdgcaaGreatDoor.Cl
open Go.RowKit Wd Rp Kp
set_option linter.unusedVariables false
theorem ofst {p i j : Nat} (h : i ≠ j) : (⟨p, i, none⟩ : Addr) ≠ ⟨p, j, none⟩ := fun e => h (congrArg Addr.off e)
/-- Three cells of a block. -/
def Tri (q : Nat) (x y z : Value) (w : World) : Prop := (w.cell? ⟨q, 0, none⟩ = some x ∧ w.cell? ⟨q, 1, none⟩ = some y ∧ w.cell? ⟨q, 2, none⟩ = some z) ∧ (w.frozen? ⟨q, 0, none⟩ = false ∧ w.frozen? ⟨q, 1, none⟩ = false ∧ w.frozen? ⟨q, 2, none⟩ = false) ∧ q < w.heap.size
theorem Tri.of {q T : Nat} {x y z : Value} {w : World} (e : w.heap[q]? = some (.cells #[x, y, z] T (0, 0))) : Tri q x y z w :=
  ⟨⟨by simp only [World.cell?, e]; rfl, by simp only [World.cell?, e]; rfl, by simp only [World.cell?, e]; rfl⟩, ⟨by simp only [World.frozen?, e]; rfl, by simp only [World.frozen?, e]; rfl, by simp only [World.frozen?, e]; rfl⟩, (Array.getElem?_eq_some_iff.1 e).1⟩
theorem Tri.made (x y z : Value) (w : World) (T : Nat) : Tri w.heap.size x y z (w.alloc (.cells #[x, y, z] T)) := Tri.of (T := T) (show (w.heap.push _)[w.heap.size]? = _ by simp)
theorem Tri.below {q B : Nat} {x y z : Value} {w w' : World} (h : Tri q x y z w) (hb : Below B w w') (hq : q < B) : Tri q x y z w' := by
  have e := hb.block q hq
  obtain ⟨⟨h0, h1, h2⟩, ⟨f0, f1, f2⟩, hl⟩ := h
  exact ⟨⟨(World.cell?_of_block (w := w) e).trans h0, (World.cell?_of_block (w := w) e).trans h1, (World.cell?_of_block (w := w) e).trans h2⟩, ⟨(World.frozen?_of_block (w := w) e).trans f0, (World.frozen?_of_block (w := w) e).trans f1, (World.frozen?_of_block (w := w) e).trans f2⟩, Nat.lt_of_lt_of_le hl hb.size⟩
def put3 (w : World) (q : Nat) (x y z : Value) : World := ((w.setCell ⟨q, 0, none⟩ x).setCell ⟨q, 1, none⟩ y).setCell ⟨q, 2, none⟩ z
theorem Tri.put3 {q : Nat} {x y z x' y' z' : Value} {w : World} (h : Tri q x y z w) : Tri q x' y' z' (put3 w q x' y' z') := by
  obtain ⟨⟨h0, h1, h2⟩, ⟨f0, f1, f2⟩, hl⟩ := h
  unfold Cl.put3
  refine ⟨⟨?_, ?_, ?_⟩, by simp only [World.frozen?_setCell]; exact ⟨f0, f1, f2⟩, by rw [World.size_setCell, World.size_setCell, World.size_setCell]; exact hl⟩
  · rw [World.cell?_setCell_other _ _ _ _ (ofst (by decide)), World.cell?_setCell_other _ _ _ _ (ofst (by decide))]
    exact World.cell?_setCell_same' _ _ _ (by rw [h0]; rfl)
  · rw [World.cell?_setCell_other _ _ _ _ (ofst (by decide))]
    exact World.cell?_setCell_same' _ _ _ (by rw [World.cell?_setCell_other _ _ _ _ (ofst (by decide)), h1]; rfl)
  · exact World.cell?_setCell_same' _ _ _ (by rw [World.cell?_setCell_other _ _ _ _ (ofst (by decide)), World.cell?_setCell_other _ _ _ _ (ofst (by decide)), h2]; rfl)
theorem put3_block (w : World) (q k : Nat) (x y z : Value) (h : k ≠ q) : (put3 w q x y z).heap[k]? = w.heap[k]? := by
  unfold put3
  exact ((Below.heap_setCell _ _ _ k h).trans (Below.heap_setCell _ _ _ k h)).trans (Below.heap_setCell _ _ _ k h)
theorem put3_cell {w : World} {q k o : Nat} {x y z v : Value} (h : k ≠ q) (hc : w.cell? ⟨k, o, none⟩ = some v) : (put3 w q x y z).cell? ⟨k, o, none⟩ = some v := (World.cell?_of_block (w := w) (a := ⟨k, o, none⟩) (put3_block w q k x y z h)).trans hc
theorem put3_below {B q : Nat} {a w : World} {x y z : Value} (h : Below B a w) (hq : B ≤ q) : Below B a (put3 w q x y z) := by
  unfold put3
  exact ((h.setCell (p := ⟨q, 0, none⟩) hq _).setCell (p := ⟨q, 1, none⟩) hq _).setCell (p := ⟨q, 2, none⟩) hq _
theorem OwI.put3 {B q : Nat} {w : World} {v : Value} {l : List Bi} {x y z : Value} (h : OwI B w v l) (hq : q < B) : OwI B (put3 w q x y z) v l :=
  row_next h fun g hg _ => put3_block w q g x y z (fun e => by have := OwI.lt h g hg; omega)
def sameL : List Bi → List Bi → Bool
  | [], [] => true
  | c :: l, d :: m => (c.n.toList == d.n.toList && c.v == d.v) && sameL l m
  | [], _ :: _ => false
  | _ :: _, [] => false
theorem sameL_self : ∀ l : List Bi, sameL l l = true
  | [] => rfl
  | c :: l => by rw [sameL, sameL_self l]; simp
theorem sameL_len : ∀ {l m : List Bi}, l.length ≠ m.length → sameL l m = false
  | [], [], h => absurd rfl h
  | [], _ :: _, h => rfl
  | _ :: _, [], h => rfl
  | c :: l, d :: m, h => by
    rw [sameL, sameL_len (l := l) (m := m) (fun e => h (by simp [e])), Bool.and_false]
theorem sameL_at {l m : List Bi} {k : Nat} {c d : Bi} (h : l[k]? = some c) (h2 : m[k]? = some d) : sameL (l.drop k) (m.drop k) = ((c.n.toList == d.n.toList && c.v == d.v) && sameL (l.drop (k + 1)) (m.drop (k + 1))) := by
  obtain ⟨hk, rfl⟩ := List.getElem?_eq_some_iff.1 h
  obtain ⟨hk2, rfl⟩ := List.getElem?_eq_some_iff.1 h2
  rw [List.drop_eq_getElem_cons hk, List.drop_eq_getElem_cons hk2, sameL]
theorem sameL_end {l m : List Bi} {k : Nat} (h : l.length ≤ k) (h2 : m.length ≤ k) : sameL (l.drop k) (m.drop k) = true := by
  rw [List.drop_eq_nil_of_le h, List.drop_eq_nil_of_le h2]; rfl
def sameE (c1 : Int) (l : List Bi) (f1 : Int) (c2 : Int) (m : List Bi) (f2 : Int) : Bool := (c1 == c2) && ((f1 == f2) && sameL l m)
theorem sameE_self (c : Int) (l : List Bi) (f : Int) : sameE c l f c l f = true := by unfold sameE; rw [sameL_self]; simp
theorem strI_eq (d : Nat) (a b : ByteArray) (w : World) : (Op.equalIn (d + 1) 9 (.string a) (.string b)).run Tryz.prog w = .ok (a.toList == b.toList) w := run_equalIn_string w d 9 a b Tryz.underlying9
theorem bin_eq (n m : ByteArray) (v u : Int) (w : World) : (Op.equalIn 10000 44 (.agg #[.string n, .int .i64 v]) (.agg #[.string m, .int .i64 u])).run Tryz.prog w = .ok (n.toList == m.toList && v == u) w := by
  have u2 := Tryz.underlying2
  have a2 := Tryz.isAgg2
  have z2 := Tryz.sizeOf2
  have a9 := Tryz.isAgg9
  have z9 := Tryz.sizeOf9
  have s9 := fun a b w => strI_eq 9998 a b w
  have hS : Tryz.prog.underlying 44 = some (.struct (Tryz.prog.fieldsOf 44)) := by kernel_rfl
  rw [show (10000 : Nat) = 9999 + 1 from rfl, run_equalIn_struct w 9999 44 _ _ hS (by kernel_rfl)]
  simp only [Program.fieldsOf, Tryz.underlying44]
  cases hn : (n.toList == m.toList)
  · go_simp
  · go_simp
    by_cases hv : v = u
    · simp [hv]
    · simp [hv]
set_option maxRecDepth 100000 in
set_option maxHeartbeats 4000000 in
theorem likeBins_val (w : World) (a b : Option Addr) (ca cb : Nat) (l m : List Bi) (n n2 : Nat) (hn : l.length = n) (hn2 : m.length = n2) (hv : VwI w a ca l) (hu : VwI w b cb m) (hl : n ≤ 4194304) :
    Calls Tryz.prog 17 #[.slice a n ca, .slice b n2 cb] w fun e w' => e = .returned (.bool (sameL l m)) ∧ Below w.heap.size w w' := by
  obtain ⟨xx, hxx⟩ : ∃ xx, sameL l m = xx := ⟨_, rfl⟩
  rw [hxx]
  by_cases hne : n = n2
  · subst hne
    have HXX := Lib.hid (show xx = sameL (l.drop 0) (m.drop 0) from hxx.symm); clear hxx
    have HNL := Lib.hid hn
    have HNM := Lib.hid hn2
    have HV := Lib.hid hv; clear hv
    have HU := Lib.hid hu; clear hu
    have BB := Lib.hid (Below.refl w.heap.size w)
    have q0 : ((n : Int) != (n : Int)) = false := by simp
    clear hn hn2
    go_enter Tryz.func17, Tryz.ntmps17
    go_wp2_with fail
    go_loopw [5] (fun i wr => ∃ k : Nat, k ≤ n ∧ i = .int .i64 (k : Int) ∧ xx = sameL (l.drop k) (m.drop k) ∧ Below w.heap.size w wr) (fun i _ => n - intV i)
    case atStart => exact ⟨0, Nat.zero_le _, by first | rfl | go_num, HXX.out, Below.refl _ _⟩
    case round =>
      obtain ⟨k, hk, rfl, hxx, hbel⟩ := hrel
      have HB := Lib.hid hbel; clear hbel
      have HXK := Lib.hid hxx; clear hxx
      by_cases hlt : k < n
      · obtain ⟨c, hc⟩ : ∃ c, l[k]? = some c := ⟨l[k]'(by have := HNL.out; omega), List.getElem?_eq_getElem _⟩
        obtain ⟨d, hd⟩ : ∃ d, m[k]? = some d := ⟨m[k]'(by have := HNM.out; omega), List.getElem?_eq_getElem _⟩
        have HX2 := Lib.hid (HXK.out.trans (sameL_at hc hd))
        obtain ⟨g, o, eg, hg, h5⟩ := HV.out.2.2.2 k c hc
        obtain ⟨h, p, eh, hh, h6⟩ := HU.out.2.2.2 k d hd
        subst eg
        subst eh
        have h5' : At2 wr g (o + k * 2) c := h5.same (HB.out.block g hg)
        have h6' : At2 wr h (p + k * 2) d := h6.same (HB.out.block h hh)
        have hg' : g < wr.heap.size := Nat.lt_of_lt_of_le hg HB.out.size
        have hh' : h < wr.heap.size := Nat.lt_of_lt_of_le hh HB.out.size
        have HS := Lib.hid (show wr.drew.cell? ⟨g, o + k * 2, none⟩ = some (.string c.n) ∧ wr.drew.cell? ⟨g, o + k * 2 + 1, none⟩ = some (.int .i64 c.v) ∧ wr.drew.cell? ⟨h, p + k * 2, none⟩ = some (.string d.n) ∧ wr.drew.cell? ⟨h, p + k * 2 + 1, none⟩ = some (.int .i64 d.v) ∧ Below wr.heap.size wr wr.drew from ⟨h5'.1, h5'.2, h6'.1, h6'.2, (Below.refl _ _).drew⟩)
        have hCE := bin_eq c.n d.n c.v d.v
        clear h5 h6 hg hh hc hd h5' h6'
        obtain ⟨x, hx⟩ : ∃ x, (c.n.toList == d.n.toList && c.v == d.v) = x := ⟨_, rfl⟩
        rw [hx] at HX2 hCE
        clear hx
        cases x
        · have e0 : xx = false := HX2.out.trans (Bool.false_and _)
          go_wp2_with fail
          refine wp_region_held_drew (S := fun z => z.cell? ⟨g, o + k * 2, none⟩ = some (.string c.n) ∧ z.cell? ⟨g, o + k * 2 + 1, none⟩ = some (.int .i64 c.v) ∧ z.cell? ⟨h, p + k * 2, none⟩ = some (.string d.n) ∧ z.cell? ⟨h, p + k * 2 + 1, none⟩ = some (.int .i64 d.v) ∧ Below wr.heap.size wr z) (by kernel_rfl) HS.out (fun hHeld => ?_)
          refine wpAnyH_take (i := 0) (v := ?v0a) rfl (by kernel_rfl) (by kernel_rfl) (by kernel_rfl) (fun _ _ _ h => h) (Or.inl ⟨by rfl, ?hy0a⟩) (by assumption) ?rest0a
          case hy0a => (intro zz hSw; (try dsimp only at hSw); go_simp; (try with_reducible rfl))
          change wpAnyH _ _ _ _ _ _ _ (Act.put _ (some 17) _) _
          simp only [Act.put, List.setIfInBounds_toArray, List.set_cons_zero, List.set_cons_succ]
          refine wpAnyH_take (i := 1) (v := ?v1a) rfl (by kernel_rfl) (by kernel_rfl) (by kernel_rfl) (fun _ _ _ h => h) (Or.inl ⟨by rfl, ?hy1a⟩) (by assumption) ?rest1a
          case hy1a => (intro zz hSw; (try dsimp only at hSw); go_simp; (try with_reducible rfl))
          change wpAnyH _ _ _ _ _ _ _ (Act.put _ (some 18) _) _
          simp only [Act.put, List.setIfInBounds_toArray, List.set_cons_zero, List.set_cons_succ]
          refine wpAnyH_take (i := 2) (v := ?v2a) rfl (by kernel_rfl) (by kernel_rfl) (by kernel_rfl) (fun _ _ _ h => h) (Or.inl ⟨by rfl, ?hy2a⟩) (by assumption) ?rest2a
          case hy2a => (intro zz hSw; (try dsimp only at hSw); go_simp; (try with_reducible rfl))
          change wpAnyH _ _ _ _ _ _ _ (Act.put _ (some 19) _) _
          simp only [Act.put, List.setIfInBounds_toArray, List.set_cons_zero, List.set_cons_succ]
          refine wpAnyH_take (i := 3) (v := ?v3a) rfl (by kernel_rfl) (by kernel_rfl) (by kernel_rfl) (fun _ _ _ h => h) (Or.inl ⟨by rfl, ?hy3a⟩) (by assumption) ?rest3a
          case hy3a => (intro zz hSw; (try dsimp only at hSw); go_simp; (try with_reducible rfl))
          change wpAnyH _ _ _ _ _ _ _ (Act.put _ (some 20) _) _
          simp only [Act.put, List.setIfInBounds_toArray, List.set_cons_zero, List.set_cons_succ]
          refine wpAnyH_take (i := 4) (v := ?v4a) rfl (by kernel_rfl) (by kernel_rfl) (by kernel_rfl) (fun _ _ _ h => h) (Or.inl ⟨by rfl, ?hy4a⟩) (by assumption) ?rest4a
          case hy4a => (intro zz hSw; (try dsimp only at hSw); go_simp; (try with_reducible rfl))
          change wpAnyH _ _ _ _ _ _ _ (Act.put _ (some 21) _) _
          simp only [Act.put, List.setIfInBounds_toArray, List.set_cons_zero, List.set_cons_succ]
          refine wpAnyH_take (i := 5) (v := ?v5a) rfl (by kernel_rfl) (by kernel_rfl) (by kernel_rfl) (fun _ _ _ h => h) (Or.inl ⟨by rfl, ?hy5a⟩) (by assumption) ?rest5a
          case hy5a => (intro zz hSw; (try dsimp only at hSw); go_simp; (try with_reducible rfl))
          change wpAnyH _ _ _ _ _ _ _ (Act.put _ (some 22) _) _
          simp only [Act.put, List.setIfInBounds_toArray, List.set_cons_zero, List.set_cons_succ]
          refine wpAnyH_take (i := 6) (v := ?v6a) rfl (by kernel_rfl) (by kernel_rfl) (by kernel_rfl) (fun _ _ _ h => h) (Or.inl ⟨by rfl, ?hy6a⟩) (by assumption) ?rest6a
          case hy6a => (intro zz hSw; (try dsimp only at hSw); go_simp; (try with_reducible rfl))
          change wpAnyH _ _ _ _ _ _ _ (Act.put _ (some 23) _) _
          simp only [Act.put, List.setIfInBounds_toArray, List.set_cons_zero, List.set_cons_succ]
          refine wpAnyH_take (i := 7) (v := ?v7a) rfl (by kernel_rfl) (by kernel_rfl) (by kernel_rfl) (fun _ _ _ h => h) (Or.inl ⟨by rfl, ?hy7a⟩) (by assumption) ?rest7a
          case hy7a => (intro zz hSw; (try dsimp only at hSw); go_simp; (try with_reducible rfl))
          change wpAnyH _ _ _ _ _ _ _ (Act.put _ (some 24) _) _
          simp only [Act.put, List.setIfInBounds_toArray, List.set_cons_zero, List.set_cons_succ]
          refine wpAnyH_take (i := 8) (v := ?v8a) rfl (by kernel_rfl) (by kernel_rfl) (by kernel_rfl) (fun _ _ _ h => h) (Or.inl ⟨by rfl, ?hy8a⟩) (by assumption) ?rest8a
          case hy8a => (intro zz hSw; (try dsimp only at hSw); go_simp; (try with_reducible rfl))
          change wpAnyH _ _ _ _ _ _ _ (Act.put _ (some 25) _) _
          simp only [Act.put, List.setIfInBounds_toArray, List.set_cons_zero, List.set_cons_succ]
          refine wpAnyH_done (by kernel_rfl) ?_ _
          have HG := Lib.hid (bel_tr HB.out hHeld.2.2.2.2 (Nat.le_refl _)); clear hHeld HS
          go_wp2_with fail
          go_ret
          exact ⟨by first | (rw [e0]; done) | (rw [e0]; rfl), HG.out⟩
        · have HX3 := Lib.hid (show xx = sameL (l.drop (k + 1)) (m.drop (k + 1)) from HX2.out.trans (Bool.true_and _))
          go_wp2_with fail
          refine wp_region_held_drew (S := fun z => z.cell? ⟨g, o + k * 2, none⟩ = some (.string c.n) ∧ z.cell? ⟨g, o + k * 2 + 1, none⟩ = some (.int .i64 c.v) ∧ z.cell? ⟨h, p + k * 2, none⟩ = some (.string d.n) ∧ z.cell? ⟨h, p + k * 2 + 1, none⟩ = some (.int .i64 d.v) ∧ Below wr.heap.size wr z) (by kernel_rfl) HS.out (fun hHeld => ?_)
          refine wpAnyH_take (i := 0) (v := ?v0b) rfl (by kernel_rfl) (by kernel_rfl) (by kernel_rfl) (fun _ _ _ h => h) (Or.inl ⟨by rfl, ?hy0b⟩) (by assumption) ?rest0b
          case hy0b => (intro zz hSw; (try dsimp only at hSw); go_simp; (try with_reducible rfl))
          change wpAnyH _ _ _ _ _ _ _ (Act.put _ (some 17) _) _
          simp only [Act.put, List.setIfInBounds_toArray, List.set_cons_zero, List.set_cons_succ]
          refine wpAnyH_take (i := 1) (v := ?v1b) rfl (by kernel_rfl) (by kernel_rfl) (by kernel_rfl) (fun _ _ _ h => h) (Or.inl ⟨by rfl, ?hy1b⟩) (by assumption) ?rest1b
          case hy1b => (intro zz hSw; (try dsimp only at hSw); go_simp; (try with_reducible rfl))
          change wpAnyH _ _ _ _ _ _ _ (Act.put _ (some 18) _) _
          simp only [Act.put, List.setIfInBounds_toArray, List.set_cons_zero, List.set_cons_succ]
          refine wpAnyH_take (i := 2) (v := ?v2b) rfl (by kernel_rfl) (by kernel_rfl) (by kernel_rfl) (fun _ _ _ h => h) (Or.inl ⟨by rfl, ?hy2b⟩) (by assumption) ?rest2b
          case hy2b => (intro zz hSw; (try dsimp only at hSw); go_simp; (try with_reducible rfl))
          change wpAnyH _ _ _ _ _ _ _ (Act.put _ (some 19) _) _
          simp only [Act.put, List.setIfInBounds_toArray, List.set_cons_zero, List.set_cons_succ]
          refine wpAnyH_take (i := 3) (v := ?v3b) rfl (by kernel_rfl) (by kernel_rfl) (by kernel_rfl) (fun _ _ _ h => h) (Or.inl ⟨by rfl, ?hy3b⟩) (by assumption) ?rest3b
          case hy3b => (intro zz hSw; (try dsimp only at hSw); go_simp; (try with_reducible rfl))
          change wpAnyH _ _ _ _ _ _ _ (Act.put _ (some 20) _) _
          simp only [Act.put, List.setIfInBounds_toArray, List.set_cons_zero, List.set_cons_succ]
          refine wpAnyH_take (i := 4) (v := ?v4b) rfl (by kernel_rfl) (by kernel_rfl) (by kernel_rfl) (fun _ _ _ h => h) (Or.inl ⟨by rfl, ?hy4b⟩) (by assumption) ?rest4b
          case hy4b => (intro zz hSw; (try dsimp only at hSw); go_simp; (try with_reducible rfl))
          change wpAnyH _ _ _ _ _ _ _ (Act.put _ (some 21) _) _
          simp only [Act.put, List.setIfInBounds_toArray, List.set_cons_zero, List.set_cons_succ]
          refine wpAnyH_take (i := 5) (v := ?v5b) rfl (by kernel_rfl) (by kernel_rfl) (by kernel_rfl) (fun _ _ _ h => h) (Or.inl ⟨by rfl, ?hy5b⟩) (by assumption) ?rest5b
          case hy5b => (intro zz hSw; (try dsimp only at hSw); go_simp; (try with_reducible rfl))
          change wpAnyH _ _ _ _ _ _ _ (Act.put _ (some 22) _) _
          simp only [Act.put, List.setIfInBounds_toArray, List.set_cons_zero, List.set_cons_succ]
          refine wpAnyH_take (i := 6) (v := ?v6b) rfl (by kernel_rfl) (by kernel_rfl) (by kernel_rfl) (fun _ _ _ h => h) (Or.inl ⟨by rfl, ?hy6b⟩) (by assumption) ?rest6b
          case hy6b => (intro zz hSw; (try dsimp only at hSw); go_simp; (try with_reducible rfl))
          change wpAnyH _ _ _ _ _ _ _ (Act.put _ (some 23) _) _
          simp only [Act.put, List.setIfInBounds_toArray, List.set_cons_zero, List.set_cons_succ]
          refine wpAnyH_take (i := 7) (v := ?v7b) rfl (by kernel_rfl) (by kernel_rfl) (by kernel_rfl) (fun _ _ _ h => h) (Or.inl ⟨by rfl, ?hy7b⟩) (by assumption) ?rest7b
          case hy7b => (intro zz hSw; (try dsimp only at hSw); go_simp; (try with_reducible rfl))
          change wpAnyH _ _ _ _ _ _ _ (Act.put _ (some 24) _) _
          simp only [Act.put, List.setIfInBounds_toArray, List.set_cons_zero, List.set_cons_succ]
          refine wpAnyH_take (i := 8) (v := ?v8b) rfl (by kernel_rfl) (by kernel_rfl) (by kernel_rfl) (fun _ _ _ h => h) (Or.inl ⟨by rfl, ?hy8b⟩) (by assumption) ?rest8b
          case hy8b => (intro zz hSw; (try dsimp only at hSw); go_simp; (try with_reducible rfl))
          change wpAnyH _ _ _ _ _ _ _ (Act.put _ (some 25) _) _
          simp only [Act.put, List.setIfInBounds_toArray, List.set_cons_zero, List.set_cons_succ]
          refine wpAnyH_done (by kernel_rfl) ?_ _
          have HG := Lib.hid (bel_tr HB.out hHeld.2.2.2.2 (Nat.le_refl _)); clear hHeld HS
          go_wp2_with fail
          go_roundw
          case rel => exact ⟨k + 1, by omega, by go_num, HX3.out, HG.out⟩
          case measure => simp [intV]; omega
      · obtain rfl : k = n := by omega
        have e1 : xx = true := HXK.out.trans (sameL_end (by rw [HNL.out]; omega) (by rw [HNM.out]; omega))
        go_wp2_with fail
        go_ret
        exact ⟨by first | (rw [e1]; done) | (rw [e1]; rfl), HB.out⟩
  · have hx := sameL_len (l := l) (m := m) (by omega)
    rw [hx] at hxx
    subst hxx
    have q0 : ((n : Int) != (n2 : Int)) = true := by simp; omega
    clear hv hu
    go_enter Tryz.func17, Tryz.ntmps17
    go_wp2_with fail
    go_ret
    exact ⟨rfl, Below.refl _ _⟩
set_option maxRecDepth 100000 in
set_option maxHeartbeats 4000000 in
theorem equalB_val (w : World) (a b : Option Addr) (ca cb : Nat) (l m : List Bi) (n n2 : Nat) (hn : l.length = n) (hn2 : m.length = n2) (hv : VwI w a ca l) (hu : VwI w b cb m) (hl : n ≤ 4194304) :
    Calls Tryz.prog 54 #[.slice a n ca, .slice b n2 cb] w fun e w' => e = .returned (.bool (sameL l m)) ∧ Below w.heap.size w w' := by
  obtain ⟨xx, hxx⟩ : ∃ xx, sameL l m = xx := ⟨_, rfl⟩
  rw [hxx]
  by_cases hne : n = n2
  · subst hne
    have HXX := Lib.hid (show xx = sameL (l.drop 0) (m.drop 0) from hxx.symm); clear hxx
    have HNL := Lib.hid hn
    have HNM := Lib.hid hn2
    have HV := Lib.hid hv; clear hv
    have HU := Lib.hid hu; clear hu
    have BB := Lib.hid (Below.refl w.heap.size w)
    have q0 : ((n : Int) != (n : Int)) = false := by simp
    clear hn hn2
    go_enter Tryz.func54, Tryz.ntmps54
    go_wp2_with fail
    go_loopw [5, 13] (fun _ i wr => ∃ k : Nat, k ≤ n ∧ i = .int .i64 (k : Int) ∧ xx = sameL (l.drop k) (m.drop k) ∧ Below w.heap.size w wr) (fun _ i _ => n - intV i)
    case atStart => exact ⟨0, Nat.zero_le _, by first | rfl | go_num, HXX.out, Below.refl _ _⟩
    case round =>
      obtain ⟨k, hk, rfl, hxx, hbel⟩ := hrel
      have HB := Lib.hid hbel; clear hbel
      have HXK := Lib.hid hxx; clear hxx
      by_cases hlt : k < n
      · obtain ⟨c, hc⟩ : ∃ c, l[k]? = some c := ⟨l[k]'(by have := HNL.out; omega), List.getElem?_eq_getElem _⟩
        obtain ⟨d, hd⟩ : ∃ d, m[k]? = some d := ⟨m[k]'(by have := HNM.out; omega), List.getElem?_eq_getElem _⟩
        have HX2 := Lib.hid (HXK.out.trans (sameL_at hc hd))
        obtain ⟨g, o, eg, hg, h5⟩ := HV.out.2.2.2 k c hc
        obtain ⟨h, p, eh, hh, h6⟩ := HU.out.2.2.2 k d hd
        subst eg
        subst eh
        have h5' : At2 wr g (o + k * 2) c := h5.same (HB.out.block g hg)
        have h6' : At2 wr h (p + k * 2) d := h6.same (HB.out.block h hh)
        have hg' : g < wr.heap.size := Nat.lt_of_lt_of_le hg HB.out.size
        have hh' : h < wr.heap.size := Nat.lt_of_lt_of_le hh HB.out.size
        have HS := Lib.hid (show wr.drew.cell? ⟨g, o + k * 2, none⟩ = some (.string c.n) ∧ wr.drew.cell? ⟨g, o + k * 2 + 1, none⟩ = some (.int .i64 c.v) ∧ wr.drew.cell? ⟨h, p + k * 2, none⟩ = some (.string d.n) ∧ wr.drew.cell? ⟨h, p + k * 2 + 1, none⟩ = some (.int .i64 d.v) ∧ Below wr.heap.size wr wr.drew from ⟨h5'.1, h5'.2, h6'.1, h6'.2, (Below.refl _ _).drew⟩)
        have hCE := bin_eq c.n d.n c.v d.v
        clear h5 h6 hg hh hc hd h5' h6'
        obtain ⟨x, hx⟩ : ∃ x, (c.n.toList == d.n.toList && c.v == d.v) = x := ⟨_, rfl⟩
        rw [hx] at HX2 hCE
        clear hx
        cases x
        · have e0 : xx = false := HX2.out.trans (Bool.false_and _)
          go_wp2_with fail
          refine wp_region_held_drew (S := fun z => z.cell? ⟨g, o + k * 2, none⟩ = some (.string c.n) ∧ z.cell? ⟨g, o + k * 2 + 1, none⟩ = some (.int .i64 c.v) ∧ z.cell? ⟨h, p + k * 2, none⟩ = some (.string d.n) ∧ z.cell? ⟨h, p + k * 2 + 1, none⟩ = some (.int .i64 d.v) ∧ Below wr.heap.size wr z) (by kernel_rfl) HS.out (fun hHeld => ?_)
          refine wpAnyH_take (i := 0) (v := ?v0a) rfl (by kernel_rfl) (by kernel_rfl) (by kernel_rfl) (fun _ _ _ h => h) (Or.inl ⟨by rfl, ?hy0a⟩) (by assumption) ?rest0a
          case hy0a => (intro zz hSw; (try dsimp only at hSw); go_simp; (try with_reducible rfl))
          change wpAnyH _ _ _ _ _ _ _ (Act.put _ (some 16) _) _
          simp only [Act.put, List.setIfInBounds_toArray, List.set_cons_zero, List.set_cons_succ]
          refine wpAnyH_take (i := 1) (v := ?v1a) rfl (by kernel_rfl) (by kernel_rfl) (by kernel_rfl) (fun _ _ _ h => h) (Or.inl ⟨by rfl, ?hy1a⟩) (by assumption) ?rest1a
          case hy1a => (intro zz hSw; (try dsimp only at hSw); go_simp; (try with_reducible rfl))
          change wpAnyH _ _ _ _ _ _ _ (Act.put _ (some 17) _) _
          simp only [Act.put, List.setIfInBounds_toArray, List.set_cons_zero, List.set_cons_succ]
          refine wpAnyH_take (i := 2) (v := ?v2a) rfl (by kernel_rfl) (by kernel_rfl) (by kernel_rfl) (fun _ _ _ h => h) (Or.inl ⟨by rfl, ?hy2a⟩) (by assumption) ?rest2a
          case hy2a => (intro zz hSw; (try dsimp only at hSw); go_simp; (try with_reducible rfl))
          change wpAnyH _ _ _ _ _ _ _ (Act.put _ (some 18) _) _
          simp only [Act.put, List.setIfInBounds_toArray, List.set_cons_zero, List.set_cons_succ]
          refine wpAnyH_take (i := 3) (v := ?v3a) rfl (by kernel_rfl) (by kernel_rfl) (by kernel_rfl) (fun _ _ _ h => h) (Or.inl ⟨by rfl, ?hy3a⟩) (by assumption) ?rest3a
          case hy3a => (intro zz hSw; (try dsimp only at hSw); go_simp; (try with_reducible rfl))
          change wpAnyH _ _ _ _ _ _ _ (Act.put _ (some 19) _) _
          simp only [Act.put, List.setIfInBounds_toArray, List.set_cons_zero, List.set_cons_succ]
          refine wpAnyH_take (i := 4) (v := ?v4a) rfl (by kernel_rfl) (by kernel_rfl) (by kernel_rfl) (fun _ _ _ h => h) (Or.inl ⟨by rfl, ?hy4a⟩) (by assumption) ?rest4a
          case hy4a => (intro zz hSw; (try dsimp only at hSw); go_simp; (try with_reducible rfl))
          change wpAnyH _ _ _ _ _ _ _ (Act.put _ (some 20) _) _
          simp only [Act.put, List.setIfInBounds_toArray, List.set_cons_zero, List.set_cons_succ]
          refine wpAnyH_take (i := 5) (v := ?v5a) rfl (by kernel_rfl) (by kernel_rfl) (by kernel_rfl) (fun _ _ _ h => h) (Or.inl ⟨by rfl, ?hy5a⟩) (by assumption) ?rest5a
          case hy5a => (intro zz hSw; (try dsimp only at hSw); go_simp; (try with_reducible rfl))
          change wpAnyH _ _ _ _ _ _ _ (Act.put _ (some 21) _) _
          simp only [Act.put, List.setIfInBounds_toArray, List.set_cons_zero, List.set_cons_succ]
          refine wpAnyH_take (i := 6) (v := ?v6a) rfl (by kernel_rfl) (by kernel_rfl) (by kernel_rfl) (fun _ _ _ h => h) (Or.inl ⟨by rfl, ?hy6a⟩) (by assumption) ?rest6a
          case hy6a => (intro zz hSw; (try dsimp only at hSw); go_simp; (try with_reducible rfl))
          change wpAnyH _ _ _ _ _ _ _ (Act.put _ (some 22) _) _
          simp only [Act.put, List.setIfInBounds_toArray, List.set_cons_zero, List.set_cons_succ]
          refine wpAnyH_take (i := 7) (v := ?v7a) rfl (by kernel_rfl) (by kernel_rfl) (by kernel_rfl) (fun _ _ _ h => h) (Or.inl ⟨by rfl, ?hy7a⟩) (by assumption) ?rest7a
          case hy7a => (intro zz hSw; (try dsimp only at hSw); go_simp; (try with_reducible rfl))
          change wpAnyH _ _ _ _ _ _ _ (Act.put _ (some 23) _) _
          simp only [Act.put, List.setIfInBounds_toArray, List.set_cons_zero, List.set_cons_succ]
          refine wpAnyH_take (i := 8) (v := ?v8a) rfl (by kernel_rfl) (by kernel_rfl) (by kernel_rfl) (fun _ _ _ h => h) (Or.inl ⟨by rfl, ?hy8a⟩) (by assumption) ?rest8a
          case hy8a => (intro zz hSw; (try dsimp only at hSw); go_simp; (try with_reducible rfl))
          change wpAnyH _ _ _ _ _ _ _ (Act.put _ (some 24) _) _
          simp only [Act.put, List.setIfInBounds_toArray, List.set_cons_zero, List.set_cons_succ]
          refine wpAnyH_done (by kernel_rfl) ?_ _
          have HG := Lib.hid (bel_tr HB.out hHeld.2.2.2.2 (Nat.le_refl _)); clear hHeld HS
          go_wp2_with fail
          go_ret
          exact ⟨by first | (rw [e0]; done) | (rw [e0]; rfl), HG.out⟩
        · have HX3 := Lib.hid (show xx = sameL (l.drop (k + 1)) (m.drop (k + 1)) from HX2.out.trans (Bool.true_and _))
          go_wp2_with fail
          refine wp_region_held_drew (S := fun z => z.cell? ⟨g, o + k * 2, none⟩ = some (.string c.n) ∧ z.cell? ⟨g, o + k * 2 + 1, none⟩ = some (.int .i64 c.v) ∧ z.cell? ⟨h, p + k * 2, none⟩ = some (.string d.n) ∧ z.cell? ⟨h, p + k * 2 + 1, none⟩ = some (.int .i64 d.v) ∧ Below wr.heap.size wr z) (by kernel_rfl) HS.out (fun hHeld => ?_)
          refine wpAnyH_take (i := 0) (v := ?v0b) rfl (by kernel_rfl) (by kernel_rfl) (by kernel_rfl) (fun _ _ _ h => h) (Or.inl ⟨by rfl, ?hy0b⟩) (by assumption) ?rest0b
          case hy0b => (intro zz hSw; (try dsimp only at hSw); go_simp; (try with_reducible rfl))
          change wpAnyH _ _ _ _ _ _ _ (Act.put _ (some 16) _) _
          simp only [Act.put, List.setIfInBounds_toArray, List.set_cons_zero, List.set_cons_succ]
          refine wpAnyH_take (i := 1) (v := ?v1b) rfl (by kernel_rfl) (by kernel_rfl) (by kernel_rfl) (fun _ _ _ h => h) (Or.inl ⟨by rfl, ?hy1b⟩) (by assumption) ?rest1b
          case hy1b => (intro zz hSw; (try dsimp only at hSw); go_simp; (try with_reducible rfl))
          change wpAnyH _ _ _ _ _ _ _ (Act.put _ (some 17) _) _
          simp only [Act.put, List.setIfInBounds_toArray, List.set_cons_zero, List.set_cons_succ]
          refine wpAnyH_take (i := 2) (v := ?v2b) rfl (by kernel_rfl) (by kernel_rfl) (by kernel_rfl) (fun _ _ _ h => h) (Or.inl ⟨by rfl, ?hy2b⟩) (by assumption) ?rest2b
          case hy2b => (intro zz hSw; (try dsimp only at hSw); go_simp; (try with_reducible rfl))
          change wpAnyH _ _ _ _ _ _ _ (Act.put _ (some 18) _) _
          simp only [Act.put, List.setIfInBounds_toArray, List.set_cons_zero, List.set_cons_succ]
          refine wpAnyH_take (i := 3) (v := ?v3b) rfl (by kernel_rfl) (by kernel_rfl) (by kernel_rfl) (fun _ _ _ h => h) (Or.inl ⟨by rfl, ?hy3b⟩) (by assumption) ?rest3b
          case hy3b => (intro zz hSw; (try dsimp only at hSw); go_simp; (try with_reducible rfl))
          change wpAnyH _ _ _ _ _ _ _ (Act.put _ (some 19) _) _
          simp only [Act.put, List.setIfInBounds_toArray, List.set_cons_zero, List.set_cons_succ]
          refine wpAnyH_take (i := 4) (v := ?v4b) rfl (by kernel_rfl) (by kernel_rfl) (by kernel_rfl) (fun _ _ _ h => h) (Or.inl ⟨by rfl, ?hy4b⟩) (by assumption) ?rest4b
          case hy4b => (intro zz hSw; (try dsimp only at hSw); go_simp; (try with_reducible rfl))
          change wpAnyH _ _ _ _ _ _ _ (Act.put _ (some 20) _) _
          simp only [Act.put, List.setIfInBounds_toArray, List.set_cons_zero, List.set_cons_succ]
          refine wpAnyH_take (i := 5) (v := ?v5b) rfl (by kernel_rfl) (by kernel_rfl) (by kernel_rfl) (fun _ _ _ h => h) (Or.inl ⟨by rfl, ?hy5b⟩) (by assumption) ?rest5b
          case hy5b => (intro zz hSw; (try dsimp only at hSw); go_simp; (try with_reducible rfl))
          change wpAnyH _ _ _ _ _ _ _ (Act.put _ (some 21) _) _
          simp only [Act.put, List.setIfInBounds_toArray, List.set_cons_zero, List.set_cons_succ]
          refine wpAnyH_take (i := 6) (v := ?v6b) rfl (by kernel_rfl) (by kernel_rfl) (by kernel_rfl) (fun _ _ _ h => h) (Or.inl ⟨by rfl, ?hy6b⟩) (by assumption) ?rest6b
          case hy6b => (intro zz hSw; (try dsimp only at hSw); go_simp; (try with_reducible rfl))
          change wpAnyH _ _ _ _ _ _ _ (Act.put _ (some 22) _) _
          simp only [Act.put, List.setIfInBounds_toArray, List.set_cons_zero, List.set_cons_succ]
          refine wpAnyH_take (i := 7) (v := ?v7b) rfl (by kernel_rfl) (by kernel_rfl) (by kernel_rfl) (fun _ _ _ h => h) (Or.inl ⟨by rfl, ?hy7b⟩) (by assumption) ?rest7b
          case hy7b => (intro zz hSw; (try dsimp only at hSw); go_simp; (try with_reducible rfl))
          change wpAnyH _ _ _ _ _ _ _ (Act.put _ (some 23) _) _
          simp only [Act.put, List.setIfInBounds_toArray, List.set_cons_zero, List.set_cons_succ]
          refine wpAnyH_take (i := 8) (v := ?v8b) rfl (by kernel_rfl) (by kernel_rfl) (by kernel_rfl) (fun _ _ _ h => h) (Or.inl ⟨by rfl, ?hy8b⟩) (by assumption) ?rest8b
          case hy8b => (intro zz hSw; (try dsimp only at hSw); go_simp; (try with_reducible rfl))
          change wpAnyH _ _ _ _ _ _ _ (Act.put _ (some 24) _) _
          simp only [Act.put, List.setIfInBounds_toArray, List.set_cons_zero, List.set_cons_succ]
          refine wpAnyH_done (by kernel_rfl) ?_ _
          have HG := Lib.hid (bel_tr HB.out hHeld.2.2.2.2 (Nat.le_refl _)); clear hHeld HS
          go_wp2_with fail
          go_roundw
          case rel => exact ⟨k + 1, by omega, by go_num, HX3.out, HG.out⟩
          case measure => simp [intV]; omega
      · obtain rfl : k = n := by omega
        have e1 : xx = true := HXK.out.trans (sameL_end (by rw [HNL.out]; omega) (by rw [HNM.out]; omega))
        go_wp2_with fail
        go_ret
        exact ⟨by first | (rw [e1]; done) | (rw [e1]; rfl), HB.out⟩
  · have hx := sameL_len (l := l) (m := m) (by omega)
    rw [hx] at hxx
    subst hxx
    have q0 : ((n : Int) != (n2 : Int)) = true := by simp; omega
    clear hv hu
    go_enter Tryz.func54, Tryz.ntmps54
    go_wp2_with fail
    go_ret
    exact ⟨rfl, Below.refl _ _⟩
set_option maxRecDepth 100000 in
set_option maxHeartbeats 4000000 in
theorem specSame_any (w : World) (c1 f1 c2 f2 : Int) (a b : Option Addr) (ca cb : Nat) (l m : List Bi) (n n2 : Nat) (hn : l.length = n) (hn2 : m.length = n2) (hv : VwI w a ca l) (hu : VwI w b cb m) (hl : n ≤ 4194304) :
    Calls Tryz.prog 16 #[.agg #[.int .i64 c1, .slice a n ca, .int .i64 f1], .agg #[.int .i64 c2, .slice b n2 cb, .int .i64 f2]] w fun e w' => e = .returned (.bool (sameE c1 l f1 c2 m f2)) ∧ Below w.heap.size w w' := by
  have hbl := bel2 w (.cells #[.int .i64 c1, .slice a n ca, .int .i64 f1] 30) (.cells #[.int .i64 c2, .slice b n2 cb, .int .i64 f2] 30)
  have N1 := Tri.made (.int .i64 c1) (.slice a n ca) (.int .i64 f1) w 30
  have N2 := Tri.made (.int .i64 c2) (.slice b n2 cb) (.int .i64 f2) (w.alloc (.cells #[.int .i64 c1, .slice a n ca, .int .i64 f1] 30)) 30
  have HQ := Lib.hid (N1.below (bel1 _ (.cells #[.int .i64 c2, .slice b n2 cb, .int .i64 f2] 30)) N1.2.2)
  rw [World.size_alloc] at N2
  have HQ1 := Lib.hid N2
  have BB := Lib.hid hbl
  have HV := Lib.hid (hv.below hbl)
  have HU := Lib.hid (hu.below hbl)
  have HBF := Lib.hid (fun z (hz : Below ((w.alloc (.cells #[.int .i64 c1, .slice a n ca, .int .i64 f1] 30)).alloc (.cells #[.int .i64 c2, .slice b n2 cb, .int .i64 f2] 30)).heap.size ((w.alloc (.cells #[.int .i64 c1, .slice a n ca, .int .i64 f1] 30)).alloc (.cells #[.int .i64 c2, .slice b n2 cb, .int .i64 f2] 30)) z) => (show Below w.heap.size w z from hbl.trans (hz.mono hbl.size)))
  have HBG := Lib.hid HBF.out
  have hz1 : (w.alloc (.cells #[.int .i64 c1, .slice a n ca, .int .i64 f1] 30)).heap.size = w.heap.size + 1 := World.size_alloc _ _
  clear N1 N2 hbl hv hu
  unfold sameE
  cases hc : (c1 == c2)
  · have t1 : (c1 != c2) = true := by simpa using hc
    go_enter Tryz.func16, Tryz.ntmps16
    go_wp2_with fail
    go_ret
    exact ⟨rfl, BB.out⟩
  have t1 : (c1 != c2) = false := by simpa using hc
  cases hf : (f1 == f2)
  · have t2 : (f1 != f2) = true := by simpa using hf
    go_enter Tryz.func16, Tryz.ntmps16
    go_wp2_with fail
    go_ret
    exact ⟨rfl, BB.out⟩
  have t2 : (f1 != f2) = false := by simpa using hf
  rw [Bool.true_and, Bool.true_and]
  clear hc hf
  obtain ⟨xx, hxx⟩ : ∃ xx, sameL l m = xx := ⟨_, rfl⟩
  rw [hxx]
  by_cases hne : n = n2
  · subst hne
    have HXX := Lib.hid (show xx = sameL (l.drop 0) (m.drop 0) from hxx.symm); clear hxx
    have HNL := Lib.hid hn
    have HNM := Lib.hid hn2
    have q0 : ((n : Int) != (n : Int)) = false := by simp
    clear hn hn2
    have l1 := HQ.out.1.2.1
    have l2 := HQ1.out.1.2.1
    go_enter Tryz.func16, Tryz.ntmps16
    go_wp2_with fail
    clear l1 l2
    try rw [hz1]
    clear hz1
    generalize w.heap.size = q at HQ HQ1 HBG ⊢
    generalize (w.alloc (.cells #[.int .i64 c1, .slice a n ca, .int .i64 f1] 30)).alloc (.cells #[.int .i64 c2, .slice b n cb, .int .i64 f2] 30) = w1 at *
    go_loopw [5] (fun i wr => ∃ k : Nat, k ≤ n ∧ i = .int .i64 (k : Int) ∧ xx = sameL (l.drop k) (m.drop k) ∧ Below w1.heap.size w1 wr) (fun i _ => n - intV i)
    case atStart => exact ⟨0, Nat.zero_le _, by first | rfl | go_num, HXX.out, Below.refl _ _⟩
    case round =>
      obtain ⟨k, hk, rfl, hxx, hbel⟩ := hrel
      have HB := Lib.hid hbel; clear hbel
      have HXK := Lib.hid hxx; clear hxx
      have bb1 := (World.cell?_of_block (w := w1) (a := ⟨q, 1, none⟩) (HB.out.block q HQ.out.2.2)).trans HQ.out.1.2.1
      by_cases hlt : k < n
      · obtain ⟨c, hc⟩ : ∃ c, l[k]? = some c := ⟨l[k]'(by have := HNL.out; omega), List.getElem?_eq_getElem _⟩
        obtain ⟨d, hd⟩ : ∃ d, m[k]? = some d := ⟨m[k]'(by have := HNM.out; omega), List.getElem?_eq_getElem _⟩
        have HX2 := Lib.hid (HXK.out.trans (sameL_at hc hd))
        obtain ⟨g, o, eg, hg, h5⟩ := HV.out.2.2.2 k c hc
        obtain ⟨h, p, eh, hh, h6⟩ := HU.out.2.2.2 k d hd
        subst eg
        subst eh
        have h5' : At2 wr g (o + k * 2) c := h5.same (HB.out.block g hg)
        have h6' : At2 wr h (p + k * 2) d := h6.same (HB.out.block h hh)
        have hg' : g < wr.heap.size := Nat.lt_of_lt_of_le hg HB.out.size
        have hh' : h < wr.heap.size := Nat.lt_of_lt_of_le hh HB.out.size
        have hq' : q < wr.heap.size := Nat.lt_of_lt_of_le HQ.out.2.2 HB.out.size
        have hq1' : q + 1 < wr.heap.size := Nat.lt_of_lt_of_le HQ1.out.2.2 HB.out.size
        have b1 := (World.cell?_of_block (w := w1) (a := ⟨q, 1, none⟩) (HB.out.block q HQ.out.2.2)).trans HQ.out.1.2.1
        have b2 := (World.cell?_of_block (w := w1) (a := ⟨q + 1, 1, none⟩) (HB.out.block (q + 1) HQ1.out.2.2)).trans HQ1.out.1.2.1
        have HS := Lib.hid (show wr.drew.cell? ⟨g, o + k * 2, none⟩ = some (.string c.n) ∧ wr.drew.cell? ⟨g, o + k * 2 + 1, none⟩ = some (.int .i64 c.v) ∧ wr.drew.cell? ⟨h, p + k * 2, none⟩ = some (.string d.n) ∧ wr.drew.cell? ⟨h, p + k * 2 + 1, none⟩ = some (.int .i64 d.v) ∧ wr.drew.cell? ⟨q, 1, none⟩ = some (.slice (some ⟨g, o, none⟩) n ca) ∧ wr.drew.cell? ⟨q + 1, 1, none⟩ = some (.slice (some ⟨h, p, none⟩) n cb) ∧ Below wr.heap.size wr wr.drew from ⟨h5'.1, h5'.2, h6'.1, h6'.2, b1, b2, (Below.refl _ _).drew⟩)
        have hCE := bin_eq c.n d.n c.v d.v
        clear h5 h6 hg hh hc hd h5' h6' b1 b2
        obtain ⟨x, hx⟩ : ∃ x, (c.n.toList == d.n.toList && c.v == d.v) = x := ⟨_, rfl⟩
        rw [hx] at HX2 hCE
        clear hx
        cases x
        · have e0 : xx = false := HX2.out.trans (Bool.false_and _)
          go_wp2_with fail
          refine wp_region_held_drew (S := fun z => z.cell? ⟨g, o + k * 2, none⟩ = some (.string c.n) ∧ z.cell? ⟨g, o + k * 2 + 1, none⟩ = some (.int .i64 c.v) ∧ z.cell? ⟨h, p + k * 2, none⟩ = some (.string d.n) ∧ z.cell? ⟨h, p + k * 2 + 1, none⟩ = some (.int .i64 d.v) ∧ z.cell? ⟨q, 1, none⟩ = some (.slice (some ⟨g, o, none⟩) n ca) ∧ z.cell? ⟨q + 1, 1, none⟩ = some (.slice (some ⟨h, p, none⟩) n cb) ∧ Below wr.heap.size wr z) (by kernel_rfl) HS.out (fun hHeld => ?_)
          refine wpAnyH_take (i := 0) (v := ?v0a) rfl (by kernel_rfl) (by kernel_rfl) (by kernel_rfl) (fun _ _ _ h => h) (Or.inl ⟨by rfl, ?hy0a⟩) (by assumption) ?rest0a
          case hy0a => (intro zz hSw; (try dsimp only at hSw); go_simp; (try with_reducible rfl))
          change wpAnyH _ _ _ _ _ _ _ (Act.put _ (some 34) _) _
          simp only [Act.put, List.setIfInBounds_toArray, List.set_cons_zero, List.set_cons_succ]
          refine wpAnyH_take (i := 1) (v := ?v1a) rfl (by kernel_rfl) (by kernel_rfl) (by kernel_rfl) (fun _ _ _ h => h) (Or.inl ⟨by rfl, ?hy1a⟩) (by assumption) ?rest1a
          case hy1a => (intro zz hSw; (try dsimp only at hSw); go_simp; (try with_reducible rfl))
          change wpAnyH _ _ _ _ _ _ _ (Act.put _ (some 35) _) _
          simp only [Act.put, List.setIfInBounds_toArray, List.set_cons_zero, List.set_cons_succ]
          refine wpAnyH_take (i := 2) (v := ?v2a) rfl (by kernel_rfl) (by kernel_rfl) (by kernel_rfl) (fun _ _ _ h => h) (Or.inl ⟨by rfl, ?hy2a⟩) (by assumption) ?rest2a
          case hy2a => (intro zz hSw; (try dsimp only at hSw); go_simp; (try with_reducible rfl))
          change wpAnyH _ _ _ _ _ _ _ (Act.put _ (some 36) _) _
          simp only [Act.put, List.setIfInBounds_toArray, List.set_cons_zero, List.set_cons_succ]
          refine wpAnyH_take (i := 3) (v := ?v3a) rfl (by kernel_rfl) (by kernel_rfl) (by kernel_rfl) (fun _ _ _ h => h) (Or.inl ⟨by rfl, ?hy3a⟩) (by assumption) ?rest3a
          case hy3a => (intro zz hSw; (try dsimp only at hSw); go_simp; (try with_reducible rfl))
          change wpAnyH _ _ _ _ _ _ _ (Act.put _ (some 37) _) _
          simp only [Act.put, List.setIfInBounds_toArray, List.set_cons_zero, List.set_cons_succ]
          refine wpAnyH_take (i := 4) (v := ?v4a) rfl (by kernel_rfl) (by kernel_rfl) (by kernel_rfl) (fun _ _ _ h => h) (Or.inl ⟨by rfl, ?hy4a⟩) (by assumption) ?rest4a
          case hy4a => (intro zz hSw; (try dsimp only at hSw); go_simp; (try with_reducible rfl))
          change wpAnyH _ _ _ _ _ _ _ (Act.put _ (some 38) _) _
          simp only [Act.put, List.setIfInBounds_toArray, List.set_cons_zero, List.set_cons_succ]
          refine wpAnyH_take (i := 5) (v := ?v5a) rfl (by kernel_rfl) (by kernel_rfl) (by kernel_rfl) (fun _ _ _ h => h) (Or.inl ⟨by rfl, ?hy5a⟩) (by assumption) ?rest5a
          case hy5a => (intro zz hSw; (try dsimp only at hSw); go_simp; (try with_reducible rfl))
          change wpAnyH _ _ _ _ _ _ _ (Act.put _ (some 39) _) _
          simp only [Act.put, List.setIfInBounds_toArray, List.set_cons_zero, List.set_cons_succ]
          refine wpAnyH_take (i := 6) (v := ?v6a) rfl (by kernel_rfl) (by kernel_rfl) (by kernel_rfl) (fun _ _ _ h => h) (Or.inl ⟨by rfl, ?hy6a⟩) (by assumption) ?rest6a
          case hy6a => (intro zz hSw; (try dsimp only at hSw); go_simp; (try with_reducible rfl))
          change wpAnyH _ _ _ _ _ _ _ (Act.put _ (some 40) _) _
          simp only [Act.put, List.setIfInBounds_toArray, List.set_cons_zero, List.set_cons_succ]
          refine wpAnyH_take (i := 7) (v := ?v7a) rfl (by kernel_rfl) (by kernel_rfl) (by kernel_rfl) (fun _ _ _ h => h) (Or.inl ⟨by rfl, ?hy7a⟩) (by assumption) ?rest7a
          case hy7a => (intro zz hSw; (try dsimp only at hSw); go_simp; (try with_reducible rfl))
          change wpAnyH _ _ _ _ _ _ _ (Act.put _ (some 41) _) _
          simp only [Act.put, List.setIfInBounds_toArray, List.set_cons_zero, List.set_cons_succ]
          refine wpAnyH_take (i := 8) (v := ?v8a) rfl (by kernel_rfl) (by kernel_rfl) (by kernel_rfl) (fun _ _ _ h => h) (Or.inl ⟨by rfl, ?hy8a⟩) (by assumption) ?rest8a
          case hy8a => (intro zz hSw; (try dsimp only at hSw); go_simp; (try with_reducible rfl))
          change wpAnyH _ _ _ _ _ _ _ (Act.put _ (some 42) _) _
          simp only [Act.put, List.setIfInBounds_toArray, List.set_cons_zero, List.set_cons_succ]
          refine wpAnyH_take (i := 9) (v := ?v9a) rfl (by kernel_rfl) (by kernel_rfl) (by kernel_rfl) (fun _ _ _ h => h) (Or.inl ⟨by rfl, ?hy9a⟩) (by assumption) ?rest9a
          case hy9a => (intro zz hSw; (try dsimp only at hSw); go_simp; (try with_reducible rfl))
          change wpAnyH _ _ _ _ _ _ _ (Act.put _ (some 43) _) _
          simp only [Act.put, List.setIfInBounds_toArray, List.set_cons_zero, List.set_cons_succ]
          refine wpAnyH_take (i := 10) (v := ?v10a) rfl (by kernel_rfl) (by kernel_rfl) (by kernel_rfl) (fun _ _ _ h => h) (Or.inl ⟨by rfl, ?hy10a⟩) (by assumption) ?rest10a
          case hy10a => (intro zz hSw; (try dsimp only at hSw); go_simp; (try with_reducible rfl))
          change wpAnyH _ _ _ _ _ _ _ (Act.put _ (some 44) _) _
          simp only [Act.put, List.setIfInBounds_toArray, List.set_cons_zero, List.set_cons_succ]
          refine wpAnyH_done (by kernel_rfl) ?_ _
          have HG := Lib.hid (bel_tr HB.out hHeld.2.2.2.2.2.2 (Nat.le_refl _)); clear hHeld HS
          go_wp2_with fail
          go_ret
          exact ⟨by first | (rw [e0]; done) | (rw [e0]; rfl), by first | exact HBF.out _ HG.out | exact HBG.out _ HG.out⟩
        · have HX3 := Lib.hid (show xx = sameL (l.drop (k + 1)) (m.drop (k + 1)) from HX2.out.trans (Bool.true_and _))
          go_wp2_with fail
          refine wp_region_held_drew (S := fun z => z.cell? ⟨g, o + k * 2, none⟩ = some (.string c.n) ∧ z.cell? ⟨g, o + k * 2 + 1, none⟩ = some (.int .i64 c.v) ∧ z.cell? ⟨h, p + k * 2, none⟩ = some (.string d.n) ∧ z.cell? ⟨h, p + k * 2 + 1, none⟩ = some (.int .i64 d.v) ∧ z.cell? ⟨q, 1, none⟩ = some (.slice (some ⟨g, o, none⟩) n ca) ∧ z.cell? ⟨q + 1, 1, none⟩ = some (.slice (some ⟨h, p, none⟩) n cb) ∧ Below wr.heap.size wr z) (by kernel_rfl) HS.out (fun hHeld => ?_)
          refine wpAnyH_take (i := 0) (v := ?v0b) rfl (by kernel_rfl) (by kernel_rfl) (by kernel_rfl) (fun _ _ _ h => h) (Or.inl ⟨by rfl, ?hy0b⟩) (by assumption) ?rest0b
          case hy0b => (intro zz hSw; (try dsimp only at hSw); go_simp; (try with_reducible rfl))
          change wpAnyH _ _ _ _ _ _ _ (Act.put _ (some 34) _) _
          simp only [Act.put, List.setIfInBounds_toArray, List.set_cons_zero, List.set_cons_succ]
          refine wpAnyH_take (i := 1) (v := ?v1b) rfl (by kernel_rfl) (by kernel_rfl) (by kernel_rfl) (fun _ _ _ h => h) (Or.inl ⟨by rfl, ?hy1b⟩) (by assumption) ?rest1b
          case hy1b => (intro zz hSw; (try dsimp only at hSw); go_simp; (try with_reducible rfl))
          change wpAnyH _ _ _ _ _ _ _ (Act.put _ (some 35) _) _
          simp only [Act.put, List.setIfInBounds_toArray, List.set_cons_zero, List.set_cons_succ]
          refine wpAnyH_take (i := 2) (v := ?v2b) rfl (by kernel_rfl) (by kernel_rfl) (by kernel_rfl) (fun _ _ _ h => h) (Or.inl ⟨by rfl, ?hy2b⟩) (by assumption) ?rest2b
          case hy2b => (intro zz hSw; (try dsimp only at hSw); go_simp; (try with_reducible rfl))
          change wpAnyH _ _ _ _ _ _ _ (Act.put _ (some 36) _) _
          simp only [Act.put, List.setIfInBounds_toArray, List.set_cons_zero, List.set_cons_succ]
          refine wpAnyH_take (i := 3) (v := ?v3b) rfl (by kernel_rfl) (by kernel_rfl) (by kernel_rfl) (fun _ _ _ h => h) (Or.inl ⟨by rfl, ?hy3b⟩) (by assumption) ?rest3b
          case hy3b => (intro zz hSw; (try dsimp only at hSw); go_simp; (try with_reducible rfl))
          change wpAnyH _ _ _ _ _ _ _ (Act.put _ (some 37) _) _
          simp only [Act.put, List.setIfInBounds_toArray, List.set_cons_zero, List.set_cons_succ]
          refine wpAnyH_take (i := 4) (v := ?v4b) rfl (by kernel_rfl) (by kernel_rfl) (by kernel_rfl) (fun _ _ _ h => h) (Or.inl ⟨by rfl, ?hy4b⟩) (by assumption) ?rest4b
          case hy4b => (intro zz hSw; (try dsimp only at hSw); go_simp; (try with_reducible rfl))
          change wpAnyH _ _ _ _ _ _ _ (Act.put _ (some 38) _) _
          simp only [Act.put, List.setIfInBounds_toArray, List.set_cons_zero, List.set_cons_succ]
          refine wpAnyH_take (i := 5) (v := ?v5b) rfl (by kernel_rfl) (by kernel_rfl) (by kernel_rfl) (fun _ _ _ h => h) (Or.inl ⟨by rfl, ?hy5b⟩) (by assumption) ?rest5b
          case hy5b => (intro zz hSw; (try dsimp only at hSw); go_simp; (try with_reducible rfl))
          change wpAnyH _ _ _ _ _ _ _ (Act.put _ (some 39) _) _
          simp only [Act.put, List.setIfInBounds_toArray, List.set_cons_zero, List.set_cons_succ]
          refine wpAnyH_take (i := 6) (v := ?v6b) rfl (by kernel_rfl) (by kernel_rfl) (by kernel_rfl) (fun _ _ _ h => h) (Or.inl ⟨by rfl, ?hy6b⟩) (by assumption) ?rest6b
          case hy6b => (intro zz hSw; (try dsimp only at hSw); go_simp; (try with_reducible rfl))
          change wpAnyH _ _ _ _ _ _ _ (Act.put _ (some 40) _) _
          simp only [Act.put, List.setIfInBounds_toArray, List.set_cons_zero, List.set_cons_succ]
          refine wpAnyH_take (i := 7) (v := ?v7b) rfl (by kernel_rfl) (by kernel_rfl) (by kernel_rfl) (fun _ _ _ h => h) (Or.inl ⟨by rfl, ?hy7b⟩) (by assumption) ?rest7b
          case hy7b => (intro zz hSw; (try dsimp only at hSw); go_simp; (try with_reducible rfl))
          change wpAnyH _ _ _ _ _ _ _ (Act.put _ (some 41) _) _
          simp only [Act.put, List.setIfInBounds_toArray, List.set_cons_zero, List.set_cons_succ]
          refine wpAnyH_take (i := 8) (v := ?v8b) rfl (by kernel_rfl) (by kernel_rfl) (by kernel_rfl) (fun _ _ _ h => h) (Or.inl ⟨by rfl, ?hy8b⟩) (by assumption) ?rest8b
          case hy8b => (intro zz hSw; (try dsimp only at hSw); go_simp; (try with_reducible rfl))
          change wpAnyH _ _ _ _ _ _ _ (Act.put _ (some 42) _) _
          simp only [Act.put, List.setIfInBounds_toArray, List.set_cons_zero, List.set_cons_succ]
          refine wpAnyH_take (i := 9) (v := ?v9b) rfl (by kernel_rfl) (by kernel_rfl) (by kernel_rfl) (fun _ _ _ h => h) (Or.inl ⟨by rfl, ?hy9b⟩) (by assumption) ?rest9b
          case hy9b => (intro zz hSw; (try dsimp only at hSw); go_simp; (try with_reducible rfl))
          change wpAnyH _ _ _ _ _ _ _ (Act.put _ (some 43) _) _
          simp only [Act.put, List.setIfInBounds_toArray, List.set_cons_zero, List.set_cons_succ]
          refine wpAnyH_take (i := 10) (v := ?v10b) rfl (by kernel_rfl) (by kernel_rfl) (by kernel_rfl) (fun _ _ _ h => h) (Or.inl ⟨by rfl, ?hy10b⟩) (by assumption) ?rest10b
          case hy10b => (intro zz hSw; (try dsimp only at hSw); go_simp; (try with_reducible rfl))
          change wpAnyH _ _ _ _ _ _ _ (Act.put _ (some 44) _) _
          simp only [Act.put, List.setIfInBounds_toArray, List.set_cons_zero, List.set_cons_succ]
          refine wpAnyH_done (by kernel_rfl) ?_ _
          have HG := Lib.hid (bel_tr HB.out hHeld.2.2.2.2.2.2 (Nat.le_refl _)); clear hHeld HS
          go_wp2_with fail
          go_roundw
          case rel => exact ⟨k + 1, by omega, by go_num, HX3.out, HG.out⟩
          case measure => simp [intV]; omega
      · obtain rfl : k = n := by omega
        have e1 : xx = true := HXK.out.trans (sameL_end (by rw [HNL.out]; omega) (by rw [HNM.out]; omega))
        go_wp2_with fail
        go_ret
        exact ⟨by first | (rw [e1]; done) | (rw [e1]; rfl), by first | exact HBF.out _ HB.out | exact HBG.out _ HB.out⟩
  · have hx := sameL_len (l := l) (m := m) (by omega)
    rw [hx] at hxx
    subst hxx
    have q0 : ((n : Int) != (n2 : Int)) = true := by simp; omega
    go_enter Tryz.func16, Tryz.ntmps16
    go_wp2_with fail
    go_ret
    exact ⟨rfl, BB.out⟩
set_option maxRecDepth 100000 in
set_option maxHeartbeats 4000000 in
theorem implSame_any (w : World) (c1 f1 c2 f2 : Int) (a b : Option Addr) (ca cb : Nat) (l m : List Bi) (n n2 : Nat) (hn : l.length = n) (hn2 : m.length = n2) (hv : VwI w a ca l) (hu : VwI w b cb m) (hl : n ≤ 4194304) :
    Calls Tryz.prog 15 #[.agg #[.int .i64 c1, .slice a n ca, .int .i64 f1], .agg #[.int .i64 c2, .slice b n2 cb, .int .i64 f2]] w fun e w' => e = .returned (.bool (sameE c1 l f1 c2 m f2)) ∧ Below w.heap.size w w' := by
  have hbl := bel2 w (.cells #[.int .i64 c1, .slice a n ca, .int .i64 f1] 30) (.cells #[.int .i64 c2, .slice b n2 cb, .int .i64 f2] 30)
  have N1 := Tri.made (.int .i64 c1) (.slice a n ca) (.int .i64 f1) w 30
  have N2 := Tri.made (.int .i64 c2) (.slice b n2 cb) (.int .i64 f2) (w.alloc (.cells #[.int .i64 c1, .slice a n ca, .int .i64 f1] 30)) 30
  have HQ := Lib.hid (N1.below (bel1 _ (.cells #[.int .i64 c2, .slice b n2 cb, .int .i64 f2] 30)) N1.2.2)
  have hz1 : (w.alloc (.cells #[.int .i64 c1, .slice a n ca, .int .i64 f1] 30)).heap.size = w.heap.size + 1 := World.size_alloc _ _
  rw [hz1] at N2
  have HQ1 := Lib.hid N2
  have BB := Lib.hid hbl
  have HE := Lib.hid (equalB_val _ a b ca cb l m n n2 hn hn2 (hv.below hbl) (hu.below hbl) hl)
  clear N1 N2 hbl hv hu
  unfold sameE
  generalize sameL l m = xx at *
  cases hc : (c1 == c2)
  · go_enter Tryz.func15, Tryz.ntmps15
    go_wp2_with fail
    go_ret
    exact ⟨rfl, BB.out⟩
  obtain ⟨yy, hy⟩ : ∃ yy, (true && (f1 == f2 && xx)) = yy := ⟨_, rfl⟩
  rw [hy]
  have HY := Lib.hid hy
  clear hy
  go_enter Tryz.func15, Tryz.ntmps15
  go_wp2_with fail
  refine HE.out.mono ?_; rintro e w3 ⟨rfl, b3⟩
  have B3 := Lib.hid (bel_tr BB.out b3 (Nat.le_refl _))
  have T1 := HQ.out.below b3 HQ.out.2.2
  have T2 := HQ1.out.below b3 HQ1.out.2.2
  have l1 := T1.1.2.2
  have l2 := T2.1.2.2
  clear b3 T1 T2
  cases xx
  · have e0 : yy = false := by rw [← HY.out, Bool.and_false, Bool.and_false]
    go_wp2_with fail
    go_ret
    exact ⟨by first | (rw [e0]; done) | (rw [e0]; rfl), B3.out⟩
  · cases hf : (f1 == f2)
    · have e0 : yy = false := by rw [← HY.out, hf]; rfl
      go_wp2_with fail
      go_ret
      exact ⟨by first | (rw [e0]; done) | (rw [e0]; rfl), B3.out⟩
    · have e0 : yy = true := by rw [← HY.out, hf]; rfl
      go_wp2_with fail
      go_ret
      exact ⟨by first | (rw [e0]; done) | (rw [e0]; rfl), B3.out⟩
set_option maxRecDepth 100000 in
set_option maxHeartbeats 4000000 in
theorem likeEnd_any (w : World) (c1 f1 c2 f2 : Int) (a b : Option Addr) (ca cb : Nat) (l m : List Bi) (n n2 : Nat) (hn : l.length = n) (hn2 : m.length = n2) (hv : VwI w a ca l) (hu : VwI w b cb m) (hl : n ≤ 4194304) :
    Calls Tryz.prog 12 #[.agg #[.int .i64 c1, .slice a n ca, .int .i64 f1], .agg #[.int .i64 c2, .slice b n2 cb, .int .i64 f2]] w fun e w' => e = .returned (.bool (sameE c1 l f1 c2 m f2)) ∧ Below w.heap.size w w' := by
  have hbl := bel2 w (.cells #[.int .i64 c1, .slice a n ca, .int .i64 f1] 30) (.cells #[.int .i64 c2, .slice b n2 cb, .int .i64 f2] 30)
  have N1 := Tri.made (.int .i64 c1) (.slice a n ca) (.int .i64 f1) w 30
  have N2 := Tri.made (.int .i64 c2) (.slice b n2 cb) (.int .i64 f2) (w.alloc (.cells #[.int .i64 c1, .slice a n ca, .int .i64 f1] 30)) 30
  have HQ := Lib.hid (N1.below (bel1 _ (.cells #[.int .i64 c2, .slice b n2 cb, .int .i64 f2] 30)) N1.2.2)
  have hz1 : (w.alloc (.cells #[.int .i64 c1, .slice a n ca, .int .i64 f1] 30)).heap.size = w.heap.size + 1 := World.size_alloc _ _
  rw [hz1] at N2
  have HQ1 := Lib.hid N2
  have BB := Lib.hid hbl
  have HE := Lib.hid (likeBins_val _ a b ca cb l m n n2 hn hn2 (hv.below hbl) (hu.below hbl) hl)
  clear N1 N2 hbl hv hu
  unfold sameE
  generalize sameL l m = xx at *
  cases hc : (c1 == c2)
  · go_enter Tryz.func12, Tryz.ntmps12
    go_wp2_with fail
    go_ret
    exact ⟨rfl, BB.out⟩
  cases hf : (f1 == f2)
  · go_enter Tryz.func12, Tryz.ntmps12
    go_wp2_with fail
    go_ret
    exact ⟨rfl, BB.out⟩
  go_enter Tryz.func12, Tryz.ntmps12
  go_wp2_with fail
  refine HE.out.mono ?_; rintro e w3 ⟨rfl, b3⟩
  have B3 := Lib.hid (bel_tr BB.out b3 (Nat.le_refl _)); clear b3
  cases xx
  · go_wp2_with fail
    go_ret
    exact ⟨rfl, B3.out⟩
  · go_wp2_with fail
    go_ret
    exact ⟨rfl, B3.out⟩
end Go.Proofs.YtfnnoehpahdgcaaGreatDoor.Cl
