/-
  Draws of stores: spec.l6DrawAny. (Made by gen_dr.py.)
-/
import Derived.Test.YtkkpokfekbdigaaDq
import Derived.Deep.LoopGhost
import Derived.Deep.DeepCutAuto
namespace Go.Proofs.Ytkkpokfekbdigaa.Cl
open Go.RowKit Wd Rp Cu Kp Ra
set_option linter.unusedVariables false
/-- A store of the call's own, none of it in the block O. -/
def OwN (C O : Nat) (w : World) (hv sv : Value) (h : List Cel) (ss : List (List Cel)) : Prop := ∃ us, RowS C w sv us ∧ OwL C w (hv :: us) (h :: ss) ∧ ∀ x ∈ sv :: hv :: us, x.ownBlock ≠ some O
theorem OwN.own {C O : Nat} {w : World} {hv sv : Value} {h : List Cel} {ss : List (List Cel)} (o : OwN C O w hv sv h ss) : OwB C w hv sv h ss := by obtain ⟨us, h1, h2, -⟩ := o; exact ⟨us, h1, h2⟩
theorem OwN.of {B C O T : Nat} {w : World} {hv sv : Value} {h : List Cel} {ss : List (List Cel)} (o : OwT B T w hv sv h ss) (hC : C ≤ B) (hO : O < B ∨ T ≤ O) : OwN C O w hv sv h ss := by
  obtain ⟨us, h1, h2, h3⟩ := o
  refine ⟨us, h1.mono hC, h2.mono hC, fun x hx e => ?_⟩
  have a1 := h3 x hx O e
  rcases List.mem_cons.1 hx with rfl | hx
  · have := RowS.lt h1 O e; omega
  · have := (h2.low x hx O e).1; omega
theorem OwN.parts {C O : Nat} {w w' : World} {hv sv : Value} {us : List Value} {h : List Cel} {ss : List (List Cel)} (h1 : RowS C w sv us) (h2 : OwL C w (hv :: us) (h :: ss)) (h3 : ∀ x ∈ sv :: hv :: us, x.ownBlock ≠ some O) (hb : ∀ k, k < w.heap.size → C ≤ k → k ≠ O → w'.heap[k]? = w.heap[k]?) : RowS C w' sv us ∧ OwL C w' (hv :: us) (h :: ss) :=
  ⟨row_next h1 fun g hg hlt => hb g hlt (RowS.lt h1 g hg) (fun e => h3 sv (by simp) (by rw [hg, e])), ⟨h2.1, fun j u l k1 k2 => row_next (h2.2.1 j u l k1 k2) fun g hg hlt => hb g hlt (h2.low u (List.mem_of_getElem? k1) g hg).1 (fun e => h3 u (List.mem_cons_of_mem _ (List.mem_of_getElem? k1)) (by rw [hg, e])), h2.2.2⟩⟩
theorem OwN.turn {C O : Nat} {w w' : World} {hv sv : Value} {h : List Cel} {ss : List (List Cel)} (o : OwN C O w hv sv h ss) (hb : ∀ k, k < w.heap.size → C ≤ k → k ≠ O → w'.heap[k]? = w.heap[k]?) : OwN C O w' hv sv h ss := by
  obtain ⟨us, h1, h2, h3⟩ := o
  exact ⟨us, (OwN.parts h1 h2 h3 hb).1, (OwN.parts h1 h2 h3 hb).2, h3⟩
theorem OwN.next {C O : Nat} {w w' : World} {hv sv : Value} {h : List Cel} {ss : List (List Cel)} (o : OwN C O w hv sv h ss) (hb : Below w.heap.size w w') : OwN C O w' hv sv h ss := o.turn fun k hk _ _ => hb.block k hk
theorem OwN.set {C O : Nat} {w : World} {hv sv : Value} {h : List Cel} {ss : List (List Cel)} (o : OwN C O w hv sv h ss) (j : Nat) (x : Value) : OwN C O (w.setCell ⟨O, j, none⟩ x) hv sv h ss := o.turn fun k _ _ hne => Below.heap_setCell _ _ _ k hne
theorem OwN.low {C O q : Nat} {w : World} {hv sv : Value} {h : List Cel} {ss : List (List Cel)} (o : OwN C O w hv sv h ss) (hq : q < C) (j : Nat) (x : Value) : OwN C O (w.setCell ⟨q, j, none⟩ x) hv sv h ss := o.turn fun k _ hC _ => Below.heap_setCell _ _ _ k (by show k ≠ q; omega)
theorem OwN.but {C O b : Nat} {w w' : World} {hv sv : Value} {h : List Cel} {ss : List (List Cel)} (o : OwN C O w hv sv h ss) (hb : But b w w') (hC : b < C) : OwN C O w' hv sv h ss := o.turn fun k hk hCk _ => hb.block k hk (by omega)
/-- One list more. -/
theorem OwN.app {C O : Nat} {w W w6 : World} {hv sv v6 u : Value} {us : List Value} {h l : List Cel} {ss : List (List Cel)} (hr : RowS C w sv us) (hl : OwL C w (hv :: us) (h :: ss)) (hO : ∀ x ∈ sv :: hv :: us, x.ownBlock ≠ some O) (hb : Below w.heap.size w W) (ou : OwC w.heap.size W u l) (r6 : RowS C w6 v6 (us ++ [u])) (g6 : W.grownBy w6 sv.ownBlock) (n6 : v6.ownBlock = sv.ownBlock ∨ v6.ownBlock = some W.heap.size) (hOw : O < w.heap.size) (hC : C ≤ w.heap.size) :
    OwN C O (w6.setCell ⟨O, 1, none⟩ v6) hv v6 h (ss ++ [l]) := by
  have hws := hb.size
  have l1 : OwL C W (hv :: us ++ [u]) (h :: ss ++ [l]) := (hl.next hb).snoc ou hC (fun x hx k hk e => by have a1 := (hl.low x hx k hk).2; have a2 := OwC.lt ou k e; omega)
  have l2 := l1.grown g6 (fun x hx k hk e => (hr.next hb).apart l1 x hx k hk e)
  have o6 : OwN C O w6 hv v6 h (ss ++ [l]) := by
    refine ⟨us ++ [u], r6, l2, fun x hx e => ?_⟩
    rcases List.mem_cons.1 hx with rfl | hx
    · rcases n6 with n6 | n6
      · exact hO sv (by simp) (by rw [← n6]; exact e)
      · rw [n6] at e; cases e; omega
    · have hx' : x ∈ hv :: us ∨ x = u := by
        rcases List.mem_cons.1 hx with hx | hx
        · exact .inl (by rw [hx]; simp)
        · rcases List.mem_append.1 hx with hx | hx
          · exact .inl (List.mem_cons_of_mem _ hx)
          · exact .inr (List.mem_singleton.1 hx)
      rcases hx' with hx | rfl
      · exact hO x (List.mem_cons_of_mem _ hx) e
      · have := OwC.lt ou O e; omega
  exact o6.set 1 v6
/-- Under way: the store lies in the block O. -/
def Dny (w0 : World) (B b O n : Nat) (w : World) : Prop := ∃ hv sv h ss, Bb O hv sv w ∧ OwN (w0.heap.size + 1) O w hv sv h ss ∧ Stor h ss ∧ ss.length = n ∧ Bb w0.heap.size (.slice none 0 0) (.slice none 0 0) w ∧ St w0 B b w ∧ w0.heap.size < O
theorem Dny.but {w0 w w' : World} {B b O n : Nat} (d : Dny w0 B b O n w) (hb : But b w w') (hc : Cur B b w') : Dny w0 B b O n w' := by
  obtain ⟨hv, sv, h, ss, h1, h2, h3, h4, h5, h6, h7⟩ := d
  have := h6.lt
  exact ⟨hv, sv, h, ss, h1.but hb (by omega), h2.but hb (by omega), h3, h4, h5.but hb (by omega), h6.draws hb hc, h7⟩
theorem Dny.drew {w0 w : World} {B b O n : Nat} (d : Dny w0 B b O n w) : Dny w0 B b O n w.drew := by
  obtain ⟨hv, sv, h, ss, h1, h2, h3, h4, h5, h6, h7⟩ := d
  exact ⟨hv, sv, h, ss, h1.same' rfl, h2.turn fun _ _ _ _ => rfl, h3, h4, h5.same' rfl, h6.drew, h7⟩
theorem Dny.cur {w0 w : World} {B b O n : Nat} (d : Dny w0 B b O n w) : Cur B b w := by obtain ⟨_, _, _, _, _, _, _, _, _, h6, _⟩ := d; exact h6.cur
theorem Dny.made {w0 w1 w2 : World} {B b : Nat} {hv sv : Value} {h : List Cel} {ss : List (List Cel)} (f : Bb w0.heap.size (.slice none 0 0) (.slice none 0 0) w2) (o : OwB w1.heap.size w2 hv sv h ss) (hs : Stor h ss) (st : St w0 B b w2) (hw : w0.heap.size < w1.heap.size) (hw2 : w1.heap.size ≤ w2.heap.size) :
    Dny w0 B b w2.heap.size ss.length (w2.alloc (.cells #[hv, sv] 45)) :=
  ⟨hv, sv, h, ss, Bb.made _ _ _ _, OwN.of (o.top.next (bel1 _ _)) (by omega) (.inr (Nat.le_refl _)), hs, rfl, f.next (bel1 _ _), st.alloc _, by omega⟩
theorem Dny.over {w0 w w' : World} {B b O : Nat} {hv sv u v : Value} {h : List Cel} {ss : List (List Cel)} (k : Bb O u v w') (f : Bb w0.heap.size (.slice none 0 0) (.slice none 0 0) w') (o : OwB w.heap.size w' hv sv h ss) (hs : Stor h ss) (st : St w0 B b w') (hO : w0.heap.size < O) (hw : O < w.heap.size) :
    Dny w0 B b O ss.length ((w'.setCell ⟨O, 0, none⟩ hv).setCell ⟨O, 1, none⟩ sv) :=
  ⟨hv, sv, h, ss, (k.set0 hv).set1 sv, ((OwN.of o.top (by omega) (.inl hw)).set 0 hv).set 1 sv, hs, rfl, (f.put (p := ⟨O, 0, none⟩) (by show O ≠ _; omega) _).put (p := ⟨O, 1, none⟩) (by show O ≠ _; omega) _, (st.setNew (p := ⟨O, 0, none⟩) (by show w0.heap.size ≤ O; omega) _).setNew (p := ⟨O, 1, none⟩) (by show w0.heap.size ≤ O; omega) _, hO⟩
theorem Dny.newhand {w0 w w' : World} {B b O : Nat} {hv sv v : Value} {h l : List Cel} {ss : List (List Cel)} {n : Nat} (h1 : Bb O hv sv w) (h2 : OwN (w0.heap.size + 1) O w hv sv h ss) (h3 : Stor h ss) (h4 : ss.length = n) (h5 : Bb w0.heap.size (.slice none 0 0) (.slice none 0 0) w) (h6 : St w0 B b w) (h7 : w0.heap.size < O)
    (hb : But b w w') (hc : Cur B b w') (o : OwC w.heap.size w' v l) (hl : l.length ≤ 260) (hm : Smalls l) : Dny w0 B b O n (w'.setCell ⟨O, 0, none⟩ v) := by
  have hlt := h6.lt
  have hOw := h1.2.2.2.2
  have hsz := h6.size
  have hbs := hb.size
  obtain ⟨us2, r, lw, q3⟩ := id h2
  have o3 : OwN (w0.heap.size + 1) O w' v sv l ss := by
    obtain ⟨q1, q2⟩ := OwN.parts r lw q3 (w' := w') (fun k hk hC _ => hb.block k hk (by omega))
    refine ⟨us2, q1, ⟨by have := q2.1; simpa using this, fun j u t k1 k2 => ?_, List.pairwise_cons.2 ⟨fun x hx k hk e => ?_, (List.pairwise_cons.1 q2.2.2).2⟩⟩, fun x hx e => ?_⟩
    · cases j with
      | zero =>
        obtain rfl : v = u := by simpa using k1
        obtain rfl : l = t := by simpa using k2
        exact o.mono (by omega)
      | succ j => exact q2.2.1 (j + 1) u t (by simpa using k1) (by simpa using k2)
    · have a1 := OwC.lt o k hk
      have a2 := (lw.low x (List.mem_cons_of_mem _ hx) k e).2
      omega
    · rcases List.mem_cons.1 hx with rfl | hx
      · exact q3 x (by simp) e
      · rcases List.mem_cons.1 hx with rfl | hx
        · have := OwC.lt o O e; omega
        · exact q3 x (by simp [hx]) e
  exact ⟨v, sv, l, ss, (h1.but hb (by omega)).set0 v, o3.set 0 v, ⟨hl, h3.2.1, hm, h3.2.2.2⟩, h4, ((h5.but hb (by omega)).put (p := ⟨O, 0, none⟩) (by show O ≠ _; omega) _), (h6.draws hb hc).setNew (p := ⟨O, 0, none⟩) (by show w0.heap.size ≤ O; omega) _, h7⟩
theorem dny_end {w0 w : World} {B b O : Nat} {hv sv : Value} {h : List Cel} {ss : List (List Cel)} (h2 : OwN (w0.heap.size + 1) O w hv sv h ss) (h5 : Bb w0.heap.size (.slice none 0 0) (.slice none 0 0) w) (h6 : St w0 B b w) :
    Bb w0.heap.size hv sv ((w.setCell ⟨w0.heap.size, 0, none⟩ hv).setCell ⟨w0.heap.size, 1, none⟩ sv) ∧ OwB w0.heap.size ((w.setCell ⟨w0.heap.size, 0, none⟩ hv).setCell ⟨w0.heap.size, 1, none⟩ sv) hv sv h ss ∧ St w0 B b ((w.setCell ⟨w0.heap.size, 0, none⟩ hv).setCell ⟨w0.heap.size, 1, none⟩ sv) :=
  ⟨(h5.set0 hv).set1 sv, ((h2.low (Nat.lt_succ_self _) 0 hv).low (Nat.lt_succ_self _) 1 sv).own.mono (Nat.le_succ _), (h6.setNew (p := ⟨w0.heap.size, 0, none⟩) (Nat.le_refl _) _).setNew (p := ⟨w0.heap.size, 1, none⟩) (Nat.le_refl _) _⟩
def celA : Cel := ⟨⟨#[97]⟩, ⟨#[98]⟩, 3, 5, false⟩
/-- A list more in the store's block. -/
theorem Dny.app {w0 w W w6 : World} {B b O n : Nat} {hv sv v6 u : Value} {us : List Value} {h l : List Cel} {ss : List (List Cel)} (hr : RowS (w0.heap.size + 1) w sv us) (hl : OwL (w0.heap.size + 1) w (hv :: us) (h :: ss)) (hO : ∀ x ∈ sv :: hv :: us, x.ownBlock ≠ some O)
    (h1 : Bb O hv sv w) (h3 : Stor h ss) (h4 : ss.length = n) (hn : n ≤ 8) (h5 : Bb w0.heap.size (.slice none 0 0) (.slice none 0 0) w) (h6 : St w0 B b w) (h7 : w0.heap.size < O)
    (hb : Below w.heap.size w W) (ou : OwC w.heap.size W u l) (r6 : RowS (w0.heap.size + 1) w6 v6 (us ++ [u])) (g6 : W.grownBy w6 sv.ownBlock) (n6 : v6.ownBlock = sv.ownBlock ∨ v6.ownBlock = some W.heap.size) (hll : l.length ≤ 260) (hlm : Smalls l) :
    Bb O hv sv w6 ∧ Dny w0 B b O (n + 1) (w6.setCell ⟨O, 1, none⟩ v6) := by
  have hlt := h6.lt
  have hOw := h1.2.2.2.2
  have hws := hb.size
  have key : ∀ q u v, Bb q u v w → (q < w0.heap.size + 1 ∨ q = O) → Bb q u v w6 := fun q u v k hq => (k.next hb).same' (g6.block q (Nat.lt_of_lt_of_le k.2.2.2.2 hws) (fun e => by
    rcases hq with hq | hq
    · have := RowS.lt hr q e.symm; omega
    · exact hO sv (by simp) (by rw [← e, hq])))
  have d6 := key O _ _ h1 (.inr rfl)
  refine ⟨d6, hv, v6, h, ss ++ [l], d6.set1 v6, OwN.app hr hl hO hb ou r6 g6 n6 hOw (by omega), ⟨h3.1, by simp; omega, h3.2.2.1, fun t ht => ?_⟩, by simp; omega, (key _ _ _ h5 (.inl (by omega))).put (p := ⟨O, 1, none⟩) (by show O ≠ _; omega) _, ?_, h7⟩
  · rcases List.mem_append.1 ht with ht | ht
    · exact h3.2.2.2 t ht
    · rw [List.mem_singleton.1 ht]; exact ⟨hll, hlm⟩
  · exact ((st_next h6 hb).grown g6 (fun k hk => by have := RowS.lt hr k hk; omega)).setNew (p := ⟨O, 1, none⟩) (by show w0.heap.size ≤ O; omega) _
theorem Dny.lt {w0 w : World} {B b O n : Nat} (d : Dny w0 B b O n w) : O < w.heap.size ∧ w0.heap.size < O ∧ b < w0.heap.size := by obtain ⟨_, _, _, _, h1, _, _, _, _, h6, h7⟩ := d; exact ⟨h1.2.2.2.2, h7, h6.lt⟩
theorem celA_small : Smalls [celA] := fun c hc => by rw [List.mem_singleton.1 hc]; exact ⟨by decide, by decide, by decide, by decide⟩
set_option maxRecDepth 100000 in
set_option maxHeartbeats 16000000 in
theorem drawAnyS_any (B b : Nat) (w : World) (hc : Cur B b w) : Calls Try.prog 74 #[.pointer (some ⟨b, 0, none⟩)] w (DrawsS 10 B b w) := by
  have hlt := hc.lt
  have HS := Lib.hid (St.alloc ⟨But.refl b w, hc, hlt⟩ (.cells #[.slice none 0 0, .slice none 0 0] 45)); clear hc
  have HF := Lib.hid (Bb.made (.slice none 0 0) (.slice none 0 0) w 45)
  go_enter Try.func74, Try.ntmps74
  go_wp2_with fail
  refine (drawS_any B b _ HS.out.cur).mono ?_; rintro e w1 ⟨hv, sv, h, ss, rfl, o1, s1, s5, hc1, hw1⟩
  have HD := Lib.hid (show ∃ n, n ≤ 5 ∧ Dny w B b w1.heap.size n (w1.alloc (.cells #[hv, sv] 45)) from ⟨_, s5, Dny.made (HF.out.but hw1 (by omega)) o1 s1 (HS.out.draws hw1 hc1) (by simp) hw1.size⟩)
  obtain ⟨ha, hcp, sa, sc, hs, rfl, rfl, -, -⟩ := o1.view
  have hOb : w1.heap.size ≠ b := by have := hw1.size; simp at this; omega
  clear o1 s1 hc1 hw1 HS HF s5
  generalize h.length = hl at *
  generalize ss.length = n5 at *
  go_wp2_with fail
  generalize hw2 : w1.alloc (Obj.cells #[Value.slice ha hl hcp, Value.slice sa n5 sc] 45) = w2 at *
  generalize w1.heap.size = O at *
  clear hw2
  obtain ⟨n3, hn3, hd3⟩ := HD.out
  refine (once_any B b _ _ hd3.cur (by decide) (by decide)).mono ?_; rintro e w3 ⟨t3, rfl, hc3, hw3⟩
  have HD3 := Lib.hid (hd3.but hw3 hc3)
  clear hw3 hc3 HD hd3
  go_upto_if 7 with fail
  go_cut [3] (fun s3 wx => s3 = .pointer (some ⟨O, 0, none⟩) ∧ ∃ n, n ≤ 5 ∧ Dny w B b O n wx)
  case first =>
    cases t3
    · go_wp2_with fail
      go_meet
      exact ⟨rfl, _, hn3, HD3.out⟩
    · go_wp2_with fail
      refine (drawG_any B b _ HD3.out.cur).mono ?_; rintro e w4 ⟨hv, sv, h, ss, rfl, o4, s4, s45, hc4, hw4⟩
      have hO3 := HD3.out.lt
      obtain ⟨hv0, sv0, h0, ss0, k1, k2, k3, k4, k5, k6, k7⟩ := id HD3.out
      have HD4 := Lib.hid (Dny.over (k1.but hw4 (by omega)) (k5.but hw4 (by omega)) o4 s4 (k6.draws hw4 hc4) k7 hO3.1)
      obtain ⟨ha4, hc4', sa4, sc4, hs4, rfl, rfl, -, -⟩ := o4.view
      obtain ⟨x0, x1, x2, x3, x4⟩ := k1.but hw4 (by omega)
      clear k1 k2 k3 k4 k5 k6 k7 o4 s4 hw4 hc4 HD3
      generalize h.length = hl4 at *
      generalize ss.length = n5' at *
      go_wp2_with fail
      go_meet
      exact ⟨rfl, _, s45, HD4.out⟩
  case rest =>
    obtain ⟨rfl, n4, hn4, hd4⟩ := hcut
    have HD4 := Lib.hid hd4; clear hd4 HD3
    go_wp2_with fail
    refine (once_any B b _ _ HD4.out.cur (by decide) (by decide)).mono ?_; rintro e w5 ⟨t5, rfl, hc5, hw5⟩
    have HD5 := Lib.hid (HD4.out.but hw5 hc5); clear hw5 hc5 HD4
    go_upto_if 11 with fail
    go_cut [3] (fun s3 wx => s3 = .pointer (some ⟨O, 0, none⟩) ∧ ∃ n, Dny w B b O n wx)
    case first =>
      cases t5
      · go_wp2_with fail
        go_meet
        exact ⟨rfl, _, HD5.out⟩
      go_wp2_with fail
      refine (below_any B b _ _ HD5.out.cur (by decide) (by decide)).mono ?_; rintro e w6 ⟨y6, rfl, y60, y61, hc6, hw6⟩
      have HD6 := Lib.hid (HD5.out.but hw6 hc6); clear hw6 hc6 HD5
      rcases (show y6 = 0 ∨ y6 = 1 ∨ y6 = 2 by omega) with rfl | rfl | rfl
      · go_wp2_with fail
        refine (drawCells_any B b _ HD6.out.cur).mono ?_; rintro e w7 ⟨v7, l7, rfl, o7, hl7, hs7, hc7, hw7⟩
        obtain ⟨hv, sv, h, ss, h1, h2, h3, h4, h5, h6, h7⟩ := id HD6.out
        have E7 := Lib.hid (Dny.newhand h1 h2 h3 h4 h5 h6 h7 hw7 hc7 o7 (by omega) hs7)
        obtain ⟨va, vc, rfl, -, -⟩ := o7.view
        obtain ⟨x0, x1, x2, x3, x4⟩ := h1.but hw7 (by have := h6.lt; omega)
        clear h1 h2 h3 h4 h5 h6 hw7 hc7 o7 HD6
        generalize l7.length = ll7 at *
        go_wp2_with fail
        go_meet
        exact ⟨rfl, _, E7.out⟩
      · skip
        obtain ⟨hv, sv, h, ss, h1, h2, h3, h4, h5, h6, h7⟩ := id HD6.out
        subst h4
        obtain ⟨us, hr, hlw, hne⟩ := id h2
        have hul : us.length = ss.length := by have := hlw.1; simpa using this
        have hsz2 : (w6.alloc (.cells #[] 28)).heap.size = w6.heap.size + 1 := by simp
        have bW := bel2 w6 (.cells #[] 28) (.cells #[.slice (some ⟨w6.heap.size, 0, none⟩) 0 0] 24)
        obtain ⟨v6, z6, hr6, r6, g6, n6⟩ := run_append_row (w := (w6.alloc (.cells #[] 28)).alloc (.cells #[.slice (some ⟨w6.heap.size, 0, none⟩) 0 0] 24)) 43 (hr.next bW) ⟨_, _, _, rfl⟩ (by have := h3.2.1; omega) (by have := bW.size; have := h6.size; have := h1.2.2.2.2; omega) ⟨w6.heap.size + 1, 0, none⟩ (by have := cell_lit (w6.alloc (.cells #[] 28)) (.slice (some ⟨w6.heap.size, 0, none⟩) 0 0) 24; rwa [hsz2] at this)
        have E6 := Lib.hid (Dny.app hr hlw hne h1 h3 rfl (by omega) h5 h6 h7 bW ((OwC.start (B := w6.heap.size) (w := w6) (Nat.le_refl _)).next (bel1 _ _)) r6 g6 n6 (by decide) (fun c hc => by cases hc))
        obtain ⟨v6a, v6c, e6, -, -, -, -⟩ := r6.form
        subst e6
        obtain ⟨ha, hcp, sa, sc, hs, rfl, rfl, -, -⟩ := h2.own.view
        obtain ⟨x0, x1, x2, x3, x4⟩ := h1
        obtain ⟨f0, f1, f2, f3, f4⟩ := id E6.out.1
        clear h2 h3 h5 h6 hr hlw hne r6 g6 n6 HD6
        generalize (us ++ [Value.slice (some ⟨w6.heap.size, 0, none⟩) 0 0]).length = v6n at *
        generalize h.length = hl at *
        generalize ss.length = sl at *
        go_wp2_with (at_builtin; refine Lib.wpList_append_run _ rfl _ _ _ _ rfl _ _ rfl rfl _ _ hr6 ?_)
        go_meet
        exact ⟨rfl, _, E6.out.2⟩
      · skip
        go_wp2_with fail
        go_loopg [] 6 (fun k wr => ∃ m, m ≤ 6 ∧ 6 - m ≤ k ∧ Dny w B b O m wr)
        case atStart => exact ⟨_, by omega, by omega, HD6.out⟩
        case round =>
          clear HD6
          obtain ⟨m, hm, hmk, hd⟩ := hrel
          have HD := Lib.hid hd.drew
          have hOw : O < wr.heap.size := hd.lt.1
          obtain ⟨hv, sv, h, ss, h1, h2, h3, h4, h5, h6, h7⟩ := id hd
          have HST := Lib.hid h6
          obtain ⟨ha, hcp, sa, sc, hs, rfl, rfl, -, -⟩ := h2.own.view
          have x1 : wr.drew.cell? ⟨O, 1, none⟩ = some (.slice sa m sc) := by rw [← h4]; exact h1.2.1
          clear h1 h2 h3 h4 h5 h6 h7 hd
          go_wp2_with fail
          refine wp_region_held_drew (S := fun z => z.cell? ⟨O, 1, none⟩ = some (.slice sa m sc)) (by kernel_rfl) x1 (fun hHeld => ?_)
          refine wpAnyH_take (i := 0) (v := ?v0d) rfl (by kernel_rfl) (by kernel_rfl) (by kernel_rfl) (fun _ _ _ h => h) (Or.inl ⟨by rfl, ?hy0d⟩) (by assumption) ?rest0d
          case hy0d => (intro zz hSw; (try dsimp only at hSw); go_simp; (try with_reducible rfl))
          change wpAnyH _ _ _ _ _ _ _ (Act.put _ (some 29) _) _
          simp only [Act.put, List.setIfInBounds_toArray, List.set_cons_zero, List.set_cons_succ]
          refine wpAnyH_take (i := 1) (v := ?v1d) rfl (by kernel_rfl) (by kernel_rfl) (by kernel_rfl) (fun _ _ _ h => h) (Or.inl ⟨by rfl, ?hy1d⟩) (by assumption) ?rest1d
          case hy1d => (intro zz hSw; (try dsimp only at hSw); go_simp; (try with_reducible rfl))
          change wpAnyH _ _ _ _ _ _ _ (Act.put _ (some 30) _) _
          simp only [Act.put, List.setIfInBounds_toArray, List.set_cons_zero, List.set_cons_succ]
          refine wpAnyH_take (i := 2) (v := ?v2d) rfl (by kernel_rfl) (by kernel_rfl) (by kernel_rfl) (fun _ _ _ h => h) (Or.inl ⟨by rfl, ?hy2d⟩) (by assumption) ?rest2d
          case hy2d => (intro zz hSw; (try dsimp only at hSw); go_simp; (try with_reducible rfl))
          change wpAnyH _ _ _ _ _ _ _ (Act.put _ (some 31) _) _
          simp only [Act.put, List.setIfInBounds_toArray, List.set_cons_zero, List.set_cons_succ]
          refine wpAnyH_take (i := 3) (v := ?v3d) rfl (by kernel_rfl) (by kernel_rfl) (by kernel_rfl) (fun _ _ _ h => h) (Or.inl ⟨by rfl, ?hy3d⟩) (by assumption) ?rest3d
          case hy3d => (intro zz hSw; (try dsimp only at hSw); go_simp; (try with_reducible rfl))
          change wpAnyH _ _ _ _ _ _ _ (Act.put _ (some 32) _) _
          simp only [Act.put, List.setIfInBounds_toArray, List.set_cons_zero, List.set_cons_succ]
          refine wpAnyH_ready (rs := [4]) (by kernel_rfl) (by simp) (AllReadyH.cons rfl (fun K hK => ?_) (AllReadyH.nil))
          go_simp
          refine (below_any B b _ _ HST.out.drew.cur (by decide) (by decide)).mono ?_; rintro e w8 ⟨y8, rfl, y80, y81, hc8, hw8⟩
          have HD8 := Lib.hid (HD.out.but hw8 hc8)
          have i3 : IntKind.i64.wrap (5 + y8) = 5 + y8 := by rw [IntKind.wrap_i64]; omega
          refine hK.out _ _ ((hw8.cell (p := ⟨O, 1, none⟩) hOw hOb).trans hHeld) (fun hHeld => ?_)
          clear hK K hc8 hw8 HD
          refine wpAnyH_take (i := 5) (v := ?v5d) rfl (by kernel_rfl) (by kernel_rfl) (by kernel_rfl) (fun _ _ _ h => h) (Or.inl ⟨by rfl, ?hy5d⟩) (by assumption) ?rest5d
          case hy5d => (intro zz hSw; (try dsimp only at hSw); go_simp; (try with_reducible rfl))
          change wpAnyH _ _ _ _ _ _ _ (Act.put _ (some 34) _) _
          simp only [Act.put, List.setIfInBounds_toArray, List.set_cons_zero, List.set_cons_succ]
          refine wpAnyH_take (i := 6) (v := ?v6d) rfl (by kernel_rfl) (by kernel_rfl) (by kernel_rfl) (fun _ _ _ h => h) (Or.inl ⟨by rfl, ?hy6d⟩) (by assumption) ?rest6d
          case hy6d => (intro zz hSw; (try dsimp only at hSw); go_simp; (try with_reducible rfl))
          change wpAnyH _ _ _ _ _ _ _ (Act.put _ (some 35) _) _
          simp only [Act.put, List.setIfInBounds_toArray, List.set_cons_zero, List.set_cons_succ]
          refine wpAnyH_done (by kernel_rfl) ?_ _
          by_cases hlt8 : (m : Int) < 5 + y8
          · have hm5 : m ≤ 5 := by omega
            clear hHeld
            obtain ⟨hv, sv, h, ss, h1, h2, h3, h4, h5, h6, h7⟩ := id HD8.out
            subst h4
            obtain ⟨us, hr, hlw, hne⟩ := id h2
            have hul : us.length = ss.length := by have := hlw.1; simpa using this
            have hsz2 : (w8.alloc (.cells #[.string ⟨#[97]⟩, .string ⟨#[98]⟩, .int .i64 3, .int .i64 5, .bool false] 28)).heap.size = w8.heap.size + 1 := by simp
            have bW := bel2 w8 (.cells #[.string ⟨#[97]⟩, .string ⟨#[98]⟩, .int .i64 3, .int .i64 5, .bool false] 28) (.cells #[.slice (some ⟨w8.heap.size, 0, none⟩) 1 1] 24)
            obtain ⟨v6, z6, hr6, r6, g6, n6⟩ := run_append_row (w := (w8.alloc (.cells #[.string ⟨#[97]⟩, .string ⟨#[98]⟩, .int .i64 3, .int .i64 5, .bool false] 28)).alloc (.cells #[.slice (some ⟨w8.heap.size, 0, none⟩) 1 1] 24)) 43 (hr.next bW) ⟨_, _, _, rfl⟩ (by have := h3.2.1; omega) (by have := bW.size; have := h6.size; have := h1.2.2.2.2; omega) ⟨w8.heap.size + 1, 0, none⟩ (by have := cell_lit (w8.alloc (.cells #[.string ⟨#[97]⟩, .string ⟨#[98]⟩, .int .i64 3, .int .i64 5, .bool false] 28)) (.slice (some ⟨w8.heap.size, 0, none⟩) 1 1) 24; rwa [hsz2] at this)
            have E6 := Lib.hid (Dny.app hr hlw hne h1 h3 rfl (by omega) h5 h6 h7 bW ((OwC.lit (B := w8.heap.size) (w := w8) (Nat.le_refl _) celA).next (bel1 _ _)) r6 g6 n6 (by decide) celA_small)
            obtain ⟨v6a, v6c, e6, -, -, -, -⟩ := r6.form
            subst e6
            obtain ⟨ha, hcp, sa, sc, hs, rfl, rfl, -, -⟩ := h2.own.view
            obtain ⟨x0, x1, x2, x3, x4⟩ := h1
            obtain ⟨f0, f1, f2, f3, f4⟩ := id E6.out.1
            clear h2 h3 h5 h6 hr hlw hne r6 g6 n6 HD8
            generalize (us ++ [Value.slice (some ⟨w8.heap.size, 0, none⟩) 1 1]).length = v6n at *
            generalize h.length = hl at *
            generalize ss.length = sl at *
            go_wp2_with (at_builtin; refine Lib.wpList_append_run _ rfl _ _ _ _ rfl _ _ rfl rfl _ _ hr6 ?_)
            have E8 := Lib.hid E6.out.2
            go_roundg (gk - 1)
            case rel => exact ⟨sl + 1, by omega, by omega, E8.out⟩
            case measure => omega
          · skip
            go_wp2_with fail
            go_meet
            exact ⟨rfl, _, HD8.out⟩
    case rest =>
      obtain ⟨rfl, n9, hd9⟩ := hcut
      clear HD5
      obtain ⟨hv, sv, h, ss, h1, h2, h3, h4, h5, h6, h7⟩ := hd9
      have EE := Lib.hid (dny_end h2 h5 h6)
      have HSS := Lib.hid (And.intro h3 h3.2.1)
      obtain ⟨ha, hcp, sa, sc, hs, rfl, rfl, -, -⟩ := h2.own.view
      obtain ⟨x0, x1, x2, x3, x4⟩ := h1
      obtain ⟨r0, r1, r2, r3, r4⟩ := h5
      clear h2 h3 h4 h6
      generalize h.length = hl at *
      generalize hsl : ss.length = sl at *
      go_wp2_with fail
      generalize World.setCell (World.setCell _ _ _) _ _ = Z at *
      clear x0 x1 x2 x3 x4 r0 r1 r2 r3 r4
      obtain ⟨e1, e2, -⟩ := id EE.out.1
      refine bodyPost_ret (v := .agg #[.slice ha hl hcp, .slice sa sl sc]) (by simp [results, Try.results74, go_sem, e1, e2]) rfl ⟨_, _, h, ss, rfl, EE.out.2.1, HSS.out.1, by rw [hsl]; exact HSS.out.2, EE.out.2.2.cur, EE.out.2.2.but⟩
end Go.Proofs.Ytkkpokfekbdigaa.Cl
