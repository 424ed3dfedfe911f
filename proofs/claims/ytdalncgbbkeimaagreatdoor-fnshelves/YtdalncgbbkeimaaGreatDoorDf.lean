/-
  Draws of lists of cells (spec.l4Draw, l4DrawCells, DrawPutCell): a short list of small cells, in memory of the call's own.
  Slices of the same cells are alike (laws.likeCells). (Made by gen_di.py.)
-/
import Derived.Test.YtdalncgbbkeimaaGreatDoorKs
import Derived.Test.YtdalncgbbkeimaaGreatDoorCk
import Derived.Test.YtdalncgbbkeimaaGreatDoorCu
import Derived.Test.YtdalncgbbkeimaaGreatDoorCe
import Derived.Test.YtdalncgbbkeimaaGreatDoorCc
namespace Go.Proofs.YtdalncgbbkeimaaGreatDoor.Cl
open Go.RowKit Wd Rp Cu Kp
set_option linter.unusedVariables false
/-- Small cells. -/
def Cel.small (c : Cel) : Prop := c.r.size ≤ 9 ∧ c.b.size ≤ 9 ∧ -1 ≤ c.t ∧ c.t ≤ 1000001
def Smalls (l : List Cel) : Prop := ∀ c ∈ l, c.small
theorem Cel.small.mod {c : Cel} (h : c.small) : c.mod := ⟨by have := h.1; omega, by have := h.2.1; omega⟩
theorem near_small {r s : ByteArray} {t v : Int} {g : Bool} (h : Near r s t v) : (⟨r, s, t, v, g⟩ : Cel).small := ⟨h.1, h.2.1, h.2.2.1, h.2.2.2.1⟩
theorem Smalls.put {l : List Cel} {c : Cel} (h : Smalls l) (hc : c.small) : Smalls (putL l c) := fun d hd => by
  unfold putL at hd
  rcases List.mem_append.1 hd with h1 | h1
  · exact h d (List.mem_of_mem_take h1)
  · rcases List.mem_cons.1 h1 with rfl | h1
    · exact hc
    · exact h d (List.mem_of_mem_drop h1)
theorem Smalls.snoc {l : List Cel} {c : Cel} (h : Smalls l) (hc : c.small) : Smalls (l ++ [c]) := fun d hd => by
  rcases List.mem_append.1 hd with h1 | h1
  · exact h d h1
  · rw [List.mem_singleton] at h1; subst h1; exact hc
theorem putL_le (l : List Cel) (c : Cel) : (putL l c).length ≤ l.length + 1 := by rw [putL_len]; omega
theorem OwC.but {B b : Nat} {w w' : World} {v : Value} {l : List Cel} (h : OwC B w v l) (hb : But b w w') (hB : b < B) : OwC B w' v l :=
  row_next h fun g hg hlt => hb.block g hlt (by have := OwC.lt h g hg; omega)
theorem l4Put_own (w : World) {B : Nat} {v : Value} {l : List Cel} {c : Cel} (ho : OwC B w v l) (hl : l.length ≤ 4194304) :
    Calls Tryz.prog 41 #[v, .agg #[.string c.r, .string c.b, .int .i64 c.t, .int .i64 c.v, .bool c.g]] w fun e w' => ∃ v, e = .returned v ∧ OwC w.heap.size w' v (putL l c) ∧ Below w.heap.size w w' := by
  obtain ⟨a, ca, rfl, h1, -⟩ := ho.view
  exact l4Put_any w a ca l c h1 hl
theorem cur_next {B b : Nat} {w w' : World} (h : Cur B b w) (hb : Below w.heap.size w w') : Cur B b w' :=
  h.carry (fun k hk => hb.block k (by have := h.le; have := h.lt; omega)) (hb.block b h.lt)
theorem st_next {w0 w w' : World} {B b : Nat} (h : St w0 B b w) (hb : Below w.heap.size w w') : St w0 B b w' := ⟨h.but.below' hb, cur_next h.cur hb, h.lt⟩
/-- A list drawn, of at most n cells. -/
def DrawsL (n : Nat) (B b : Nat) (w : World) (e : Ending) (w' : World) : Prop := ∃ (v : Value) (l : List Cel), e = .returned v ∧ OwC w.heap.size w' v l ∧ l.length ≤ n ∧ Smalls l ∧ Cur B b w' ∧ But b w w'
set_option maxRecDepth 100000 in
set_option maxHeartbeats 4000000 in
theorem drawL_any (B b : Nat) (w : World) (hc : Cur B b w) : Calls Tryz.prog 20 #[.pointer (some ⟨b, 0, none⟩)] w (DrawsL 8 B b w) := by
  have hlt := hc.lt
  have HS := Lib.hid (St.alloc ⟨But.refl b w, hc, hlt⟩ : ∀ o, St w B b (w.alloc o)); clear hc
  have HO := Lib.hid (OwC.start (B := w.heap.size) (w := w) (Nat.le_refl _))
  go_enter Tryz.func20, Tryz.ntmps20
  go_wp2_with fail
  refine (below_any B b _ _ (HS.out _).cur (by decide) (by decide)).mono ?_; rintro e w1 ⟨y, rfl, y0, y1, hc1, hw1⟩
  have HO1 := Lib.hid (HO.out.but hw1 hlt)
  have HS1 := Lib.hid ((HS.out _).draws hw1 hc1); clear hw1 hc1 HO HS
  obtain ⟨m, rfl⟩ := Int.eq_ofNat_of_zero_le y0
  go_wp2_with fail
  go_loopw [3, 4] (fun x i wr => ∃ (k : Nat) (l : List Cel), i = .int .i64 (k : Int) ∧ l.length + k ≤ 8 ∧ OwC w.heap.size wr x l ∧ Smalls l ∧ St w B b wr) (fun _ i _ => intV i)
  case atStart => exact ⟨m, [], rfl, by simp; omega, HO1.out, (fun c hc => by cases hc), HS1.out⟩
  case round =>
    clear HO1 HS1
    obtain ⟨k, l, rfl, hk, ho, hs, hst⟩ := hrel
    have HO := Lib.hid ho; clear ho
    have HM := Lib.hid hs; clear hs
    have HS := Lib.hid hst; clear hst
    by_cases hp : 0 < k
    · have i1 : (0 : Int) < (k : Int) := by omega
      go_wp2_with fail
      refine (drawCell_any B b _ HS.out.cur).mono ?_; rintro e w2 ⟨r, s, t, v, g, rfl, hn, hc2, hw2⟩
      have HO2 := Lib.hid (HO.out.but hw2 hlt)
      have HS2 := Lib.hid (HS.out.draws hw2 hc2); clear hw2 hc2
      have HN := Lib.hid (near_small (g := g) hn); clear hn
      go_wp2_with fail
      refine (l4Put_own w2 (c := ⟨r, s, t, v, g⟩) HO2.out (by omega)).mono ?_; rintro e w3 ⟨v3, rfl, o3, b3⟩
      have HO3 := Lib.hid (o3.mono HS2.out.size)
      have HS3 := Lib.hid (st_next HS2.out b3); clear o3 b3
      have i2 : (k : Int) - 1 = ((k - 1 : Nat) : Int) := by omega
      go_wp2_with fail
      go_roundw
      case rel => exact ⟨k - 1, _, by go_num, by have := putL_le l ⟨r, s, t, v, g⟩; omega, HO3.out, HM.out.put HN.out, HS3.out⟩
      case measure => simp [intV]; omega
    · obtain rfl : k = 0 := by omega
      go_wp2_with fail
      go_ret
      exact ⟨_, l, rfl, HO.out, by omega, HM.out, HS.out.cur, HS.out.but⟩
set_option maxRecDepth 100000 in
set_option maxHeartbeats 8000000 in
theorem drawCells_any (B b : Nat) (w : World) (hc : Cur B b w) : Calls Tryz.prog 33 #[.pointer (some ⟨b, 0, none⟩)] w (DrawsL 250 B b w) := by
  have hlt := hc.lt
  have HS := Lib.hid (⟨But.refl b w, hc, hlt⟩ : St w B b w); clear hc
  go_enter Tryz.func33, Tryz.ntmps33
  go_wp2_with fail
  refine (drawL_any B b _ HS.out.cur).mono ?_; rintro e w1 ⟨v1, l1, rfl, o1, n1, s1, hc1, hw1⟩
  have HO1 := Lib.hid o1
  have HM1 := Lib.hid s1
  have HS1 := Lib.hid (HS.out.draws hw1 hc1); clear o1 s1 hc1 hw1 HS
  go_wp2_with fail
  refine (once_any B b _ _ HS1.out.cur (by decide) (by decide)).mono ?_; rintro e w2 ⟨q, rfl, hc2, hw2⟩
  have HO2 := Lib.hid (HO1.out.but hw2 hlt)
  have HS2 := Lib.hid (HS1.out.draws hw2 hc2); clear hc2 hw2 HO1 HS1
  cases q
  · go_wp2_with fail
    refine (once_any B b _ _ HS2.out.cur (by decide) (by decide)).mono ?_; rintro e w4 ⟨q4, rfl, hc4, hw4⟩
    have HO4 := Lib.hid (HO2.out.but hw4 hlt)
    have HS4 := Lib.hid (HS2.out.draws hw4 hc4); clear hc4 hw4 HO2 HS2
    cases q4
    · go_wp2_with fail
      go_ret
      exact ⟨_, l1, rfl, HO4.out, by omega, HM1.out, HS4.out.cur, HS4.out.but⟩
    · clear HO4 HM1
      go_wp2_with fail
      go_loopw [3, 4] (fun x i wr => ∃ (k : Nat) (l : List Cel), i = .int .i64 (k : Int) ∧ k ≤ 201 ∧ l.length = k ∧ OwC w.heap.size wr x l ∧ Smalls l ∧ St w B b wr) (fun _ i _ => 201 - intV i)
      case atStart => exact ⟨0, [], rfl, by decide, rfl, OwC.start HS4.out.size, (fun c hc => by cases hc), HS4.out.alloc _⟩
      case round =>
        clear HS4
        obtain ⟨k, l, rfl, hk, hlk, ho, hs, hst⟩ := hrel
        have HO := Lib.hid ho; clear ho
        have HM := Lib.hid hs; clear hs
        have HS := Lib.hid hst; clear hst
        go_wp2_with fail
        refine (below_any B b _ _ HS.out.cur (by decide) (by decide)).mono ?_; rintro e w6 ⟨x, rfl, x0, x1, hc6, hw6⟩
        have HO6 := Lib.hid (HO.out.but hw6 hlt)
        have HS6 := Lib.hid (HS.out.draws hw6 hc6); clear hc6 hw6 HO HS
        have hsz := HS6.out.size
        by_cases hlt2 : (k : Int) < 200 + x
        · go_wp2_with (first
            | (at_builtin; refine append_cells rfl (.tmp 24) (.tmp 29) rfl (base := w.heap.size) (l := l) (m := [⟨⟨#[97]⟩, ⟨#[98]⟩, 1000 - (k : Int), 0, false⟩]) rfl rfl rfl (HO6.out.next (bel1 _ _)) (Vw.lit w6 ⟨⟨#[97]⟩, ⟨#[98]⟩, 1000 - (k : Int), 0, false⟩) (by rw [hlk]; show k + 1 ≤ _; omega) (by simp; omega) ?_; intro v7 w7 o7 g7))
          go_roundw
          case rel =>
            refine ⟨k + 1, _, by go_num, by omega, by rw [List.length_append, hlk]; rfl, o7, HM.out.snoc ⟨(show (⟨#[97]⟩ : ByteArray).size ≤ 9 by decide), (show (⟨#[98]⟩ : ByteArray).size ≤ 9 by decide), by show -1 ≤ 1000 - (k : Int); omega, by show 1000 - (k : Int) ≤ _; omega⟩, (HS6.out.alloc _).grown g7 (fun j hj => OwC.lt HO6.out j hj)⟩
          case measure => simp [intV]; omega
        · go_wp2_with fail
          go_ret
          exact ⟨_, l, rfl, HO6.out, by omega, HM.out, HS6.out.cur, HS6.out.but⟩
  · go_wp2_with fail
    refine (drawAnyC_any B b _ HS2.out.cur).mono ?_; rintro e w3 ⟨r, s, t, v, g, rfl, hn, hc3, hw3⟩
    have HO3 := Lib.hid (HO2.out.but hw3 hlt)
    have HS3 := Lib.hid (HS2.out.draws hw3 hc3); clear hc3 hw3 HO2 HS2
    have HN := Lib.hid (near_small (g := g) hn); clear hn
    have hsz := HS3.out.size
    go_wp2_with (first
      | (at_builtin; refine append_cells rfl (.tmp 9) (.tmp 12) rfl (base := w.heap.size) (l := l1) (m := [⟨r, s, t, v, g⟩]) rfl rfl rfl (HO3.out.next (bel1 _ _)) (Vw.lit w3 ⟨r, s, t, v, g⟩) (by show l1.length + 1 ≤ _; omega) (by simp; omega) ?_; intro v9 w9 o9 g9))
    have HO9 := Lib.hid o9
    have HS9 := Lib.hid ((HS3.out.alloc _).grown g9 (fun j hj => OwC.lt HO3.out j hj)); clear o9 g9
    have HM9 := Lib.hid (HM1.out.snoc HN.out); clear HM1 HN HO3 HS3
    have hl9 : (l1 ++ [(⟨r, s, t, v, g⟩ : Cel)]).length ≤ 9 := by rw [List.length_append]; show l1.length + 1 ≤ 9; omega
    generalize l1 ++ [(⟨r, s, t, v, g⟩ : Cel)] = l9 at HO9 HM9 hl9
    go_wp2_with fail
    refine (once_any B b _ _ HS9.out.cur (by decide) (by decide)).mono ?_; rintro e w4 ⟨q4, rfl, hc4, hw4⟩
    have HO4 := Lib.hid (HO9.out.but hw4 hlt)
    have HS4 := Lib.hid (HS9.out.draws hw4 hc4); clear hc4 hw4 HO9 HS9
    cases q4
    · go_wp2_with fail
      go_ret
      exact ⟨_, l9, rfl, HO4.out, by omega, HM9.out, HS4.out.cur, HS4.out.but⟩
    · clear HO4 HM9
      go_wp2_with fail
      go_loopw [3, 4] (fun x i wr => ∃ (k : Nat) (l : List Cel), i = .int .i64 (k : Int) ∧ k ≤ 201 ∧ l.length = k ∧ OwC w.heap.size wr x l ∧ Smalls l ∧ St w B b wr) (fun _ i _ => 201 - intV i)
      case atStart => exact ⟨0, [], rfl, by decide, rfl, OwC.start HS4.out.size, (fun c hc => by cases hc), HS4.out.alloc _⟩
      case round =>
        clear HS4
        obtain ⟨k, l, rfl, hk, hlk, ho, hs, hst⟩ := hrel
        have HO := Lib.hid ho; clear ho
        have HM := Lib.hid hs; clear hs
        have HS := Lib.hid hst; clear hst
        go_wp2_with fail
        refine (below_any B b _ _ HS.out.cur (by decide) (by decide)).mono ?_; rintro e w6 ⟨x, rfl, x0, x1, hc6, hw6⟩
        have HO6 := Lib.hid (HO.out.but hw6 hlt)
        have HS6 := Lib.hid (HS.out.draws hw6 hc6); clear hc6 hw6 HO HS
        have hsz := HS6.out.size
        by_cases hlt2 : (k : Int) < 200 + x
        · go_wp2_with (first
            | (at_builtin; refine append_cells rfl (.tmp 24) (.tmp 29) rfl (base := w.heap.size) (l := l) (m := [⟨⟨#[97]⟩, ⟨#[98]⟩, 1000 - (k : Int), 0, false⟩]) rfl rfl rfl (HO6.out.next (bel1 _ _)) (Vw.lit w6 ⟨⟨#[97]⟩, ⟨#[98]⟩, 1000 - (k : Int), 0, false⟩) (by rw [hlk]; show k + 1 ≤ _; omega) (by simp; omega) ?_; intro v7 w7 o7 g7))
          go_roundw
          case rel =>
            refine ⟨k + 1, _, by go_num, by omega, by rw [List.length_append, hlk]; rfl, o7, HM.out.snoc ⟨(show (⟨#[97]⟩ : ByteArray).size ≤ 9 by decide), (show (⟨#[98]⟩ : ByteArray).size ≤ 9 by decide), by show -1 ≤ 1000 - (k : Int); omega, by show 1000 - (k : Int) ≤ _; omega⟩, (HS6.out.alloc _).grown g7 (fun j hj => OwC.lt HO6.out j hj)⟩
          case measure => simp [intV]; omega
        · go_wp2_with fail
          go_ret
          exact ⟨_, l, rfl, HO6.out, by omega, HM.out, HS6.out.cur, HS6.out.but⟩

end Go.Proofs.YtdalncgbbkeimaaGreatDoor.Cl
namespace Go.Proofs.YtdalncgbbkeimaaGreatDoor.Cl
open Go.RowKit Wd Rp Kp
set_option linter.unusedVariables false
set_option maxRecDepth 100000 in
set_option maxHeartbeats 4000000 in
theorem like_same (w : World) (a b : Option Addr) (ca cb : Nat) (l : List Cel) (n : Nat) (hn : l.length = n) (hv : Vw w a ca l) (hu : Vw w b cb l) (hl : n ≤ 4194304) :
    Calls Tryz.prog 10 #[.slice a n ca, .slice b n cb] w fun e w' => e = .returned (.bool true) ∧ Below w.heap.size w w' := by
  have HV := Lib.hid hv; clear hv
  have HU := Lib.hid hu; clear hu
  have q0 : ((n : Int) != (n : Int)) = false := by simp
  go_enter Tryz.func10, Tryz.ntmps10
  go_wp2
  go_loopw [5] (fun i wr => ∃ k : Nat, k ≤ n ∧ i = .int .i64 k ∧ Below w.heap.size w wr) (fun i _ => n - intV i)
  case atStart => exact ⟨0, Nat.zero_le _, rfl, Below.refl _ _⟩
  case round =>
    obtain ⟨k, hk, rfl, hbel⟩ := hrel
    have HB := Lib.hid hbel; clear hbel
    by_cases hlt : k < n
    · obtain ⟨c, hc⟩ : ∃ c, l[k]? = some c := ⟨l[k], List.getElem?_eq_getElem (by omega)⟩
      obtain ⟨g, o, rfl, hg, h5⟩ := HV.out.2.2.2 k c hc
      obtain ⟨h, p, rfl, hh, h6⟩ := HU.out.2.2.2 k c hc
      have h5' : At5 wr g (o + k * 5) c := h5.same (HB.out.block g hg)
      have h6' : At5 wr h (p + k * 5) c := h6.same (HB.out.block h hh)
      have hg' : g < wr.heap.size := Nat.lt_of_lt_of_le hg HB.out.size
      have hh' : h < wr.heap.size := Nat.lt_of_lt_of_le hh HB.out.size
      have HS := Lib.hid (show wr.drew.cell? ⟨g, o + k * 5, none⟩ = some (.string c.r) ∧ wr.drew.cell? ⟨g, o + k * 5 + 1, none⟩ = some (.string c.b) ∧ wr.drew.cell? ⟨g, o + k * 5 + 2, none⟩ = some (.int .i64 c.t) ∧ wr.drew.cell? ⟨g, o + k * 5 + 3, none⟩ = some (.int .i64 c.v) ∧ wr.drew.cell? ⟨g, o + k * 5 + 4, none⟩ = some (.bool c.g) ∧ wr.drew.cell? ⟨h, p + k * 5, none⟩ = some (.string c.r) ∧ wr.drew.cell? ⟨h, p + k * 5 + 1, none⟩ = some (.string c.b) ∧ wr.drew.cell? ⟨h, p + k * 5 + 2, none⟩ = some (.int .i64 c.t) ∧ wr.drew.cell? ⟨h, p + k * 5 + 3, none⟩ = some (.int .i64 c.v) ∧ wr.drew.cell? ⟨h, p + k * 5 + 4, none⟩ = some (.bool c.g) ∧ Below wr.heap.size wr wr.drew from ⟨h5'.1, h5'.2.1, h5'.2.2.1, h5'.2.2.2.1, h5'.2.2.2.2, h6'.1, h6'.2.1, h6'.2.2.1, h6'.2.2.2.1, h6'.2.2.2.2, (Below.refl _ _).drew⟩)
      have hCE := cell_self c.r c.b c.t c.v c.g
      clear h5 h6 hg hh hc h5' h6'
      go_wp2_with fail
      refine wp_region_held_drew (S := fun z => z.cell? ⟨g, o + k * 5, none⟩ = some (.string c.r) ∧ z.cell? ⟨g, o + k * 5 + 1, none⟩ = some (.string c.b) ∧ z.cell? ⟨g, o + k * 5 + 2, none⟩ = some (.int .i64 c.t) ∧ z.cell? ⟨g, o + k * 5 + 3, none⟩ = some (.int .i64 c.v) ∧ z.cell? ⟨g, o + k * 5 + 4, none⟩ = some (.bool c.g) ∧ z.cell? ⟨h, p + k * 5, none⟩ = some (.string c.r) ∧ z.cell? ⟨h, p + k * 5 + 1, none⟩ = some (.string c.b) ∧ z.cell? ⟨h, p + k * 5 + 2, none⟩ = some (.int .i64 c.t) ∧ z.cell? ⟨h, p + k * 5 + 3, none⟩ = some (.int .i64 c.v) ∧ z.cell? ⟨h, p + k * 5 + 4, none⟩ = some (.bool c.g) ∧ Below wr.heap.size wr z) (by kernel_rfl) HS.out (fun hHeld => ?_)
      refine wpAnyH_take (i := 0) (v := ?v0a) rfl (by kernel_rfl) (by kernel_rfl) (by kernel_rfl) (fun _ _ _ h => h) (Or.inl ⟨by rfl, ?hy0a⟩) (by assumption) ?rest0a
      case hy0a => (intro zz hSw; (try dsimp only at hSw); go_simp; (try with_reducible rfl))
      change wpAnyH _ _ _ _ _ _ _ (Act.put _ (some 17) _) _
      simp only [Act.put, List.setIfInBounds_toArray, List.set_cons_zero, List.set_cons_succ]
      refine wpAnyH_take (i := 1) (v := ?v1a) rfl (by kernel_rfl) (by kernel_rfl) (by kernel_rfl) (fun _ _ _ h => h) (Or.inl ⟨by rfl, ?hy1a⟩) (by assumption) ?rest1a
      case hy1a => (intro zz hSw; (try dsimp only at hSw); go_simp; (try with_reducible rfl))
      change wpAnyH _ _ _ _ _ _ _ (Act.put _ (some 18) _) _
      simp only [Act.put, List.setIfInBounds_toArray, List.set_cons_zero, List.set_cons_succ]
      refine wpAnyH_take (i := 2) (v := ?v2a) rfl (by kernel_rfl) (by kernel_rfl) (by kernel_rfl) (fun _ _ _ h => h) (Or.inl ⟨by rfl, ?hy2a⟩) (by assumption) ?rest2a
      case hy2a => (intro zz hSw; (try dsimp only at hSw); go_simp; (try with_reducible rfl))
      change wpAnyH _ _ _ _ _ _ _ (Act.put _ (some 19) _) _
      simp only [Act.put, List.setIfInBounds_toArray, List.set_cons_zero, List.set_cons_succ]
      refine wpAnyH_take (i := 3) (v := ?v3a) rfl (by kernel_rfl) (by kernel_rfl) (by kernel_rfl) (fun _ _ _ h => h) (Or.inl ⟨by rfl, ?hy3a⟩) (by assumption) ?rest3a
      case hy3a => (intro zz hSw; (try dsimp only at hSw); go_simp; (try with_reducible rfl))
      change wpAnyH _ _ _ _ _ _ _ (Act.put _ (some 20) _) _
      simp only [Act.put, List.setIfInBounds_toArray, List.set_cons_zero, List.set_cons_succ]
      refine wpAnyH_take (i := 4) (v := ?v4a) rfl (by kernel_rfl) (by kernel_rfl) (by kernel_rfl) (fun _ _ _ h => h) (Or.inl ⟨by rfl, ?hy4a⟩) (by assumption) ?rest4a
      case hy4a => (intro zz hSw; (try dsimp only at hSw); go_simp; (try with_reducible rfl))
      change wpAnyH _ _ _ _ _ _ _ (Act.put _ (some 21) _) _
      simp only [Act.put, List.setIfInBounds_toArray, List.set_cons_zero, List.set_cons_succ]
      refine wpAnyH_take (i := 5) (v := ?v5a) rfl (by kernel_rfl) (by kernel_rfl) (by kernel_rfl) (fun _ _ _ h => h) (Or.inl ⟨by rfl, ?hy5a⟩) (by assumption) ?rest5a
      case hy5a => (intro zz hSw; (try dsimp only at hSw); go_simp; (try with_reducible rfl))
      change wpAnyH _ _ _ _ _ _ _ (Act.put _ (some 22) _) _
      simp only [Act.put, List.setIfInBounds_toArray, List.set_cons_zero, List.set_cons_succ]
      refine wpAnyH_take (i := 6) (v := ?v6a) rfl (by kernel_rfl) (by kernel_rfl) (by kernel_rfl) (fun _ _ _ h => h) (Or.inl ⟨by rfl, ?hy6a⟩) (by assumption) ?rest6a
      case hy6a => (intro zz hSw; (try dsimp only at hSw); go_simp; (try with_reducible rfl))
      change wpAnyH _ _ _ _ _ _ _ (Act.put _ (some 23) _) _
      simp only [Act.put, List.setIfInBounds_toArray, List.set_cons_zero, List.set_cons_succ]
      refine wpAnyH_take (i := 7) (v := ?v7a) rfl (by kernel_rfl) (by kernel_rfl) (by kernel_rfl) (fun _ _ _ h => h) (Or.inl ⟨by rfl, ?hy7a⟩) (by assumption) ?rest7a
      case hy7a => (intro zz hSw; (try dsimp only at hSw); go_simp; (try with_reducible rfl))
      change wpAnyH _ _ _ _ _ _ _ (Act.put _ (some 24) _) _
      simp only [Act.put, List.setIfInBounds_toArray, List.set_cons_zero, List.set_cons_succ]
      refine wpAnyH_take (i := 8) (v := ?v8a) rfl (by kernel_rfl) (by kernel_rfl) (by kernel_rfl) (fun _ _ _ h => h) (Or.inl ⟨by rfl, ?hy8a⟩) (by assumption) ?rest8a
      case hy8a => (intro zz hSw; (try dsimp only at hSw); go_simp; (try with_reducible rfl))
      change wpAnyH _ _ _ _ _ _ _ (Act.put _ (some 25) _) _
      simp only [Act.put, List.setIfInBounds_toArray, List.set_cons_zero, List.set_cons_succ]
      refine wpAnyH_done (by kernel_rfl) ?_ _
      have HG := Lib.hid (bel_tr HB.out hHeld.2.2.2.2.2.2.2.2.2.2 (Nat.le_refl _)); clear hHeld HS
      go_wp2_with fail
      go_roundw
      case rel => exact ⟨k + 1, by omega, by go_num, HG.out⟩
      case measure => simp [intV]; omega
    · obtain rfl : k = n := by omega
      go_wp2_with fail
      go_ret
      exact ⟨rfl, HB.out⟩
end Go.Proofs.YtdalncgbbkeimaaGreatDoor.Cl
