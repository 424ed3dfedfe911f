/-
  slices.Insert(s, 0, x) at slices of slices of cells, s a row of the call's own: the row with x ahead, in place or anew.
-/
import Derived.Test.YtkkpokfekbdigaaBa
import Derived.Shelf.RegionOpenPlain
import Derived.Lib.Walk
import Derived.Lib.SliceRun
import Derived.Lib.JoinLaws
import Derived.Lib.AppendZeros
import Derived.Lib.AppendZerosOnto
import Derived.Lib.Overlaps
import Derived.Laws.Externs
import Derived.Laws.IdiomCopy
import Derived.Laws.NewBlocks
namespace Go.Proofs.Ytkkpokfekbdigaa.Cl
open Go.RowKit Wd Rp Kp Ra Go.Shelf Go.Lib
set_option linter.unusedVariables false
set_option linter.unusedSimpArgs false
/-- A copy whose run is known: one operation of the walk. -/
theorem wp_copied (w : World) {o : Oper} {a : Act} {K : Act → World → Prop} {Q : Exit → Act → World → Prop} (d s : Operand) (t t' : TypeId)
    (ho : o.op = .call { callee := .builtin .copy, args := #[d, s], argTypes := #[t, t'] }) (v u : Value) (hd : a.eval d = v) (hs : a.eval s = u) {v' : Value} {w' : World}
    (hr : (Builtin.copy_ #[t, t'] o.type #[v, u]).run Try.prog w = .ok v' w') (h : K (a.put o.dst v') w') : o.wp Try.prog a w K Q := by
  unfold Oper.wp execOp
  simp only [ho, resolve, invoke, builtin, Sem.run_bind, Sem.run_pure, Result.andThen_ok, List.map_toArray, List.map_cons, List.map_nil, hd, hs, hr]
  exact h
theorem wpList_copied (w : World) {ops : Array Oper} {rest : List Oper} {o : Oper} {a : Act} {Q : Exit → Act → World → Prop} (hgd : o.guard = none) (d s : Operand) (t t' : TypeId)
    (ho : o.op = .call { callee := .builtin .copy, args := #[d, s], argTypes := #[t, t'] }) (v u : Value) (hd : a.eval d = v) (hs : a.eval s = u) {v' : Value} {w' : World}
    (hr : (Builtin.copy_ #[t, t'] o.type #[v, u]).run Try.prog w = .ok v' w') (h : wpList Try.prog ops Q rest (a.put o.dst v') w') : wpList Try.prog ops Q (o :: rest) a w :=
  wpList_plain hgd fun _ hK => wp_copied w d s t t' ho v u hd hs hr (hK _ _ h)
theorem step_copied {ops : Array Oper} {o : Oper} {a : Act} {w : World} {K : Act → World → Prop} {Q : Exit → Act → World → Prop} {E : Prop}
    (hg : o.guard = none) (d x : Operand) (dT sT : TypeId) (hop : o.op = Op.call { callee := Callee.builtin Builtin.copy, args := #[d, x], argTypes := #[dT, sT] })
    (v u : Value) (hd : a.eval d = v) (hx : a.eval x = u) {v' : Value} {w' : World} (hr : (Builtin.copy_ #[dT, sT] o.type #[v, u]).run Try.prog w = .ok v' w') (hK : K (a.put o.dst v') w') :
    if Region.wanted o (yielded ops a.tmps) = true then Oper.wp Try.prog o a w K Q else E := by
  have hw : Region.wanted o (yielded ops a.tmps) = true := by simp [Region.wanted, hg]
  rw [if_pos hw]
  unfold Oper.wp
  simp [execOp, hop, resolve, invoke, builtin, hd, hx, hr, Result.andThen]
  exact hK
theorem some_setCells (b : Nat) (vs : List Value) (o : Nat) (w : World) (h : ∀ j, j < vs.length → (w.cell? ⟨b, o + j, none⟩).isSome = true) (k : Nat) (hk : (w.cell? ⟨b, k, none⟩).isSome = true) : ((w.setCells b o vs).cell? ⟨b, k, none⟩).isSome = true := by
  by_cases hin : o ≤ k ∧ k < o + vs.length
  · have := World.cell?_setCells_in b vs o w h (k - o) (by omega)
    rw [show o + (k - o) = k by omega] at this
    rw [this]; rfl
  · rw [World.cell?_setCells_out b vs o w ⟨b, k, none⟩ (fun _ _ => by show k < o ∨ o + vs.length ≤ k; omega)]
    exact hk
/-- Several stores into a row of the call's own. -/
def setL : List Value → Nat → List Value → List Value
  | xs, _, [] => xs
  | xs, o, v :: r => setL (xs.set o v) (o + 1) r
theorem setL_len : ∀ (vs : List Value) (xs : List Value) (o : Nat), (setL xs o vs).length = xs.length
  | [], _, _ => rfl
  | v :: r, xs, o => by rw [setL, setL_len r]; simp
theorem setL_is : ∀ (vs : List Value) (xs : List Value) (o : Nat), o + vs.length ≤ xs.length → setL xs o vs = xs.take o ++ vs ++ xs.drop (o + vs.length)
  | [], xs, o, h => by simp [setL]
  | v :: r, xs, o, h => by
    rw [List.length_cons] at h
    rw [setL, setL_is r (xs.set o v) (o + 1) (by rw [List.length_set]; omega), take_set (by omega)]
    rw [List.drop_set_of_lt (by omega)]
    simp [Nat.add_assoc, Nat.add_comm 1]
theorem RowS.sets {B : Nat} {g n cap : Nat} : ∀ (vs us : List Value) (o : Nat) (w : World), RowS B w (.slice (some ⟨g, 0, none⟩) n cap) us → n = us.length → RowS B (w.setCells g o vs) (.slice (some ⟨g, 0, none⟩) n cap) (setL us o vs) ∧ w.grownBy (w.setCells g o vs) (some g)
  | [], us, o, w, h, hn => ⟨h, World.grownBy.refl _ _⟩
  | v :: r, us, o, w, h, hn => by
    obtain ⟨h1, g1⟩ := RowS.set h hn o v
    obtain ⟨h2, g2⟩ := RowS.sets r (us.set o v) (o + 1) _ h1 (by rw [List.length_set]; exact hn)
    exact ⟨h2, g1.trans g2⟩
theorem RowS.more {B : Nat} {w : World} {g n cap : Nat} {us : List Value} (h : RowS B w (.slice (some ⟨g, 0, none⟩) n cap) us) (hn : n = us.length) (hc : n < cap) : ∃ x, RowS B w (.slice (some ⟨g, 0, none⟩) (n + 1) cap) (us ++ [x]) ∧ (∀ j, j < n + 1 → (w.cell? ⟨g, j, none⟩).isSome = true) ∧ (∀ j, w.frozen? ⟨g, j, none⟩ = false) ∧ w.shape? g = some (24, cap) := by
  subst hn
  obtain ⟨h1, h2⟩ := h
  rcases h2 with ⟨e, -⟩ | ⟨g', cap', cur, e, hB, hg, hnc, hcm, hsz, hxs⟩
  · cases e
  · cases e
    have hs2 : cur.size = cap := by rw [hsz, Nat.mul_one]
    have hlt : us.length < cur.toList.length := by rw [show cur.toList.length = cur.size from Array.length_toList]; omega
    refine ⟨cur.toList[us.length], ⟨by simp, .inr ⟨g, cap, cur, by simp, hB, hg, by simp; omega, hcm, hsz, ?_⟩⟩, fun j hj => ?_, fun j => by simp [World.frozen?, hg], by simp [World.shape?, hg, hs2]⟩
    · rw [Nat.mul_one] at hxs ⊢
      rw [List.length_append, List.length_singleton, take_at (List.getElem?_eq_getElem hlt), hxs]
    · simp only [World.cell?, hg]
      rw [Array.getElem?_eq_getElem (by omega)]; rfl
set_option maxHeartbeats 4000000 in
set_option maxRecDepth 100000 in
/-- There is room: in place. -/
theorem insert_room (b off n c i vb m vc : Nat) (cs vs : List Value) (w : World) (hi : i < n) (hm : 0 < m) (hroom : n + m ≤ c) (hc63 : c ≤ 9223372036854775807) (hvb : vb ≠ b)
    (hcl : cs.length = n) (hvl : vs.length = m)
    (hcs : ∀ j v, cs[j]? = some v → w.cell? ⟨b, off + j, none⟩ = some v) (hsp : ∀ j, j < n + m → (w.cell? ⟨b, off + j, none⟩).isSome = true) (hfz : ∀ j, j < n + m → w.frozen? ⟨b, off + j, none⟩ = false)
    (hvs : ∀ j v, vs[j]? = some v → w.cell? ⟨vb, 0 + j, none⟩ = some v) (h1c : ∀ v ∈ cs, v.oneCell' = true) (h1v : ∀ v ∈ vs, v.oneCell' = true)
    (tA tB : TypeId) (kA kB : Nat) (hsa : w.shape? vb = some (tA, kA)) (hsb : w.shape? b = some (tB, kB)) (hkB : kB ≠ 0) (hfa : w.frozen? ⟨vb, 0, none⟩ = false) (hfe : w.frozen? ⟨vb, kA, none⟩ = false) :
    Calls Try.prog 94 #[.slice (some ⟨b, off, none⟩) n c, .int .i64 i, .slice (some ⟨vb, 0, none⟩) m vc] w fun e w' =>
      e = .returned (.slice (some ⟨b, off, none⟩) (n + m) c) ∧ w' = (w.drew.setCells b (off + (i + m)) (cs.drop i)).setCells b (off + i) vs := by
  have mixed : Try.prog.follows Departure.mixedOrders = true := by kernel_rfl
  obtain ⟨i0, hi0, hz0, hzs, hzb⟩ := info_parts infoS
  have hz1 : ¬ ((m : Int) = 0) := by omega
  have hz2 : ¬ ((i : Int) = (n : Int)) := by omega
  have hsz : (Try.prog.info? 24).map (·.size) = some 1 := by rw [hi0]; simp [hzs]
  have hov : ∀ lb cb, (callFunc 115 #[.slice (some ⟨vb, 0, none⟩) m vc, .slice (some ⟨b, off + (i + m), none⟩) lb cb]).run Try.prog w = .ok (.value (.bool false)) w := fun lb cb => by
    rw [run_callFunc_extern Try.func115 (by kernel_rfl) (by kernel_rfl) (by kernel_rfl) (e := Extern.SlicesOverlaps.overlaps #[43, 43] #[4]) (by kernel_rfl),
      Lib.run_overlaps_apart w 43 4 24 Try.underlying43 1 (fun w => by simp [sizeOf, typeInfo, hi0, hzs]) ⟨vb, 0, none⟩ ⟨b, off + (i + m), none⟩ m vc lb cb hvb tA tB kA kB hsa hsb hkB hfa hfe]
    rfl
  have hdl : (cs.drop i).length = n - i := by rw [List.length_drop, hcl]
  have hw1 : IntKind.i64.wrap ((i : Int) + (m : Int)) = (i : Int) + (m : Int) := by rw [IntKind.wrap_i64]; omega
  have hb1 : (0 : Int) ≤ (i : Int) + (m : Int) := by omega
  have hin : i ≤ n := by omega
  have htn : ((i : Int) + (m : Int)).toNat = i + m := by omega
  have hb2 : ¬ (c = i + m) := by omega
  have hb3 : (i : Int) ≤ (n : Int) + (m : Int) := by omega
  have hb4 : ¬ (c = i) := by omega
  have hcp1 : ∀ ty dc sc, (Builtin.copy_ #[43, 43] ty #[.slice (some ⟨b, off + (i + m), none⟩) (n + m - (i + m)) dc, .slice (some ⟨b, off + i, none⟩) (n + m - i) sc]).run Try.prog w.drew = .ok (goInt (cs.drop i).length) (w.drew.setCells b (off + (i + m)) (cs.drop i)) := fun ty dc sc =>
    _root_.Go.run_copy_cells w.drew _ _ ty 24 b (off + (i + m)) (n + m - (i + m)) dc ⟨b, off + i, none⟩ (n + m - i) sc (cs.drop i) Try.underlying43 hsz (by rw [hdl]; simp only [Nat.min_def]; split <;> omega)
      (fun j v hj => by rw [Addr.add_lit, Nat.add_assoc]; exact hcs (i + j) v (by rwa [List.getElem?_drop] at hj))
      (fun j hj => by rw [Nat.add_assoc]; exact hsp _ (by omega)) (fun j hj => by rw [Nat.add_assoc]; exact hfz _ (by omega)) (fun v hv => h1c v (List.mem_of_mem_drop hv))
  obtain ⟨W1, hW1⟩ : ∃ W1, W1 = w.drew.setCells b (off + (i + m)) (cs.drop i) := ⟨_, rfl⟩
  have hsp1 : ∀ k, k < n + m → (W1.cell? ⟨b, off + k, none⟩).isSome = true := fun k hk => by
    rw [hW1]
    exact some_setCells b _ _ _ (fun j hj => by rw [Nat.add_assoc]; exact hsp _ (by omega)) _ (hsp k hk)
  have hcp2 : ∀ (W : World), (∀ x, W.cell? x = W1.cell? x) → (∀ x, W.frozen? x = W1.frozen? x) → ∀ ty dc, (Builtin.copy_ #[43, 43] ty #[.slice (some ⟨b, off + i, none⟩) (n + m - i) dc, .slice (some ⟨vb, 0, none⟩) m vc]).run Try.prog W = .ok (goInt vs.length) (W.setCells b (off + i) vs) := fun W hWc hWf ty dc =>
    _root_.Go.run_copy_cells W _ _ ty 24 b (off + i) (n + m - i) dc ⟨vb, 0, none⟩ m vc vs Try.underlying43 hsz (by rw [hvl]; simp only [Nat.min_def]; split <;> omega)
      (fun j v hj => by
        rw [Addr.add_lit, hWc, hW1, World.cell?_setCells_out b _ _ _ _ (fun h _ => absurd h hvb)]
        exact hvs j v hj)
      (fun j hj => by rw [hWc, Nat.add_assoc]; exact hsp1 _ (by omega)) (fun j hj => by rw [hWf, hW1, World.frozen?_setCells, Nat.add_assoc]; exact hfz _ (by omega)) h1v
  rw [← hW1] at hcp1
  clear hi0
  go_enter Try.func94, Try.ntmps94
  go_wp2_with (simp only [hov])
  go_region_law_o (refine step_copied rfl _ _ 43 43 rfl _ _ (by simp [Act.eval, Act.put]) (by simp [Act.eval, Act.put]) (hcp1 _ _ _) ?_)
  go_wp2_with (at_builtin; refine wpList_copied _ rfl _ _ 43 43 rfl _ _ rfl rfl (hcp2 _ (fun _ => rfl) (fun _ => rfl) _ _) ?_)
  go_ret
  first | exact ⟨rfl, rfl⟩ | exact ⟨rfl, by rw [hW1]⟩
set_option maxHeartbeats 4000000 in
set_option maxRecDepth 100000 in
/-- There is no room: a new row. -/
theorem insert_grow (b off n c i vb m vc : Nat) (cs vs : List Value) (w : World) (hi : i < n) (hm : 0 < m) (hnc : n ≤ c) (hroom : c < n + m) (hbig : (n + m) * 24 ≤ 140737488355328)
    (hcl : cs.length = n) (hvl : vs.length = m)
    (hcs : ∀ j v, cs[j]? = some v → w.cell? ⟨b, off + j, none⟩ = some v)
    (hvs : ∀ j v, vs[j]? = some v → w.cell? ⟨vb, 0 + j, none⟩ = some v) (h1c : ∀ v ∈ cs, v.oneCell' = true) (h1v : ∀ v ∈ vs, v.oneCell' = true) :
    Calls Try.prog 94 #[.slice (some ⟨b, off, none⟩) n c, .int .i64 i, .slice (some ⟨vb, 0, none⟩) m vc] w fun e w' => ∃ G ROW,
      e = .returned (.slice (some ⟨w.heap.size, 0, none⟩) (n + m) G) ∧ n + m ≤ G ∧ G ≤ maxLen ∧ ROW.size = G ∧
      w' = (((w.alloc (.cells ROW 24)).drew.setCells w.heap.size i vs).drew).setCells w.heap.size (i + m) (cs.drop i) := by
  have mixed : Try.prog.follows Departure.mixedOrders = true := by kernel_rfl
  obtain ⟨i0, hi0, hz0, hzs, hzb⟩ := info_parts infoS
  have hz1 : ¬ ((m : Int) = 0) := by omega
  have hz2 : ¬ ((i : Int) = (n : Int)) := by omega
  have hz3 : (c : Int) < (n : Int) + (m : Int) := by omega
  have hsz : (Try.prog.info? 24).map (·.size) = some 1 := by rw [hi0]; simp [hzs]
  have hbw : b < w.heap.size := block_lt_of_cell (hcs 0 _ (List.getElem?_eq_getElem (by omega)))
  have hvw : vb < w.heap.size := block_lt_of_cell (hvs 0 _ (List.getElem?_eq_getElem (by omega)))
  have hkk : (n : Int) + (m : Int) - (i : Int) = ((n + m - i : Nat) : Int) := by omega
  have hik : i + (n + m - i) = n + m := by omega
  have hold : (Builtin.firstCells i0.size i (.slice (some ⟨b, off, none⟩) i c)).run Try.prog w.drew = .ok (cs.take i).toArray w.drew := by
    rw [hzs]
    exact run_firstCells_some w.drew 1 i ⟨b, off, none⟩ i c (cs.take i) (by rw [List.length_take]; omega) (fun j v hj => by
      rw [Addr.add_lit]
      rw [List.getElem?_take] at hj
      split at hj
      · exact hcs j v hj
      · cases hj)
  have hrz : ∀ ty, (Builtin.append_ #[43, 3] ty #[.slice (some ⟨b, off, none⟩) i c, .int .i64 ((n : Int) + (m : Int) - (i : Int))]).run Try.prog w =
      .ok (.slice (some ⟨w.heap.size, 0, none⟩) (n + m) (grownCap w (n + m) c 24)) (w.drew.alloc (.cells ((cs.take i).toArray ++ Builtin.zeroCells (Value.slice none 0 0).cells (n + m - i) ++ Builtin.zeroCells (Value.slice none 0 0).cells (grownCap w (n + m) c 24 - (n + m))) 24)) := fun ty => by
    have h := Lib.run_append_grow_zeros w 43 3 ty 24 i0 _ .i64 .i64 Try.underlying43 Try.underlying3 hi0 hz0 (some ⟨b, off, none⟩) i c (cs.take i) hold (n + m - i) (by omega) (by omega) (by omega) (by omega) (by rw [hzb]; omega) (by rw [hzb, hik]; exact growslice_fits hroom hbig)
    rw [hik] at h
    rw [hkk]
    exact h
  obtain ⟨G, hG⟩ : ∃ G, G = grownCap w (n + m) c 24 := ⟨_, rfl⟩
  obtain ⟨ROW, hROW⟩ : ∃ ROW : Array Value, ROW = (cs.take i).toArray ++ Builtin.zeroCells (Value.slice none 0 0).cells (n + m - i) ++ Builtin.zeroCells (Value.slice none 0 0).cells (G - (n + m)) := ⟨_, rfl⟩
  rw [← hG] at hrz
  rw [← hROW] at hrz
  have hGn : n + m ≤ G := by rw [hG]; exact grownCap_ge w _ _ _
  have hRs : ROW.size = G := by
    rw [hROW]
    simp [Builtin.zeroCells, Value.cells]
    omega
  have hRl : n + m ≤ ROW.size := by omega
  obtain ⟨W1, hW1⟩ : ∃ W1, W1 = w.drew.alloc (.cells ROW 24) := ⟨_, rfl⟩
  rw [← hW1] at hrz
  have hN : ∀ j, j < n + m → (W1.cell? ⟨w.heap.size, j, none⟩).isSome = true := fun j hj => by
    rw [hW1, World.cell?_alloc_at (w := w.drew) ROW _ w.heap.size j rfl, Array.getElem?_eq_getElem (by omega)]; rfl
  have hNf : ∀ j, W1.frozen? ⟨w.heap.size, j, none⟩ = false := fun j => by rw [hW1]; exact World.frozen?_alloc_at (w := w.drew) ROW _ w.heap.size j rfl
  have hOb : ∀ j v, w.cell? ⟨b, j, none⟩ = some v → W1.cell? ⟨b, j, none⟩ = some v := fun j v h => by rw [hW1, World.cell?_alloc_past (w := w.drew) _ b j hbw]; exact h
  have hOv : ∀ j v, w.cell? ⟨vb, j, none⟩ = some v → W1.cell? ⟨vb, j, none⟩ = some v := fun j v h => by rw [hW1, World.cell?_alloc_past (w := w.drew) _ vb j hvw]; exact h
  have hcpA : ∀ (W : World), (∀ x, W.cell? x = W1.cell? x) → (∀ x, W.frozen? x = W1.frozen? x) → ∀ ty dc, (Builtin.copy_ #[43, 43] ty #[.slice (some ⟨w.heap.size, i, none⟩) (n + m - i) dc, .slice (some ⟨vb, 0, none⟩) m vc]).run Try.prog W = .ok (goInt vs.length) (W.setCells w.heap.size i vs) := fun W hWc hWf ty dc =>
    _root_.Go.run_copy_cells W _ _ ty 24 w.heap.size i (n + m - i) dc ⟨vb, 0, none⟩ m vc vs Try.underlying43 hsz (by rw [hvl]; simp only [Nat.min_def]; split <;> omega)
      (fun j v hj => by rw [Addr.add_lit, hWc]; exact hOv _ v (hvs j v hj))
      (fun j hj => by rw [hWc]; exact hN _ (by omega)) (fun j hj => by rw [hWf]; exact hNf _) h1v
  have hGm : G ≤ maxLen := by rw [hG]; exact grownCap_le_maxLen w (n + m) c _ (by unfold maxLen; omega)
  have hG63 : G ≤ 9223372036854775807 := by
    have := hGm
    unfold maxLen at this
    omega
  have hGi : ¬ (G = i) := by omega
  have hGim : ¬ (G = i + m) := by omega
  have hci : ¬ (c = i) := by omega
  have hbN : b ≠ w.heap.size := by omega
  have hdl : (cs.drop i).length = n - i := by rw [List.length_drop, hcl]
  have hcpB : ∀ (W : World), (∀ x, W.cell? x = (W1.setCells w.heap.size i vs).cell? x) → (∀ x, W.frozen? x = (W1.setCells w.heap.size i vs).frozen? x) → ∀ ty dc sc, (Builtin.copy_ #[43, 43] ty #[.slice (some ⟨w.heap.size, i + m, none⟩) (n + m - (i + m)) dc, .slice (some ⟨b, off + i, none⟩) (n - i) sc]).run Try.prog W = .ok (goInt (cs.drop i).length) (W.setCells w.heap.size (i + m) (cs.drop i)) := fun W hWc hWf ty dc sc =>
    _root_.Go.run_copy_cells W _ _ ty 24 w.heap.size (i + m) (n + m - (i + m)) dc ⟨b, off + i, none⟩ (n - i) sc (cs.drop i) Try.underlying43 hsz (by rw [hdl]; simp only [Nat.min_def]; split <;> omega)
      (fun j v hj => by
        rw [Addr.add_lit, hWc, World.cell?_setCells_out _ _ _ _ _ (fun h _ => absurd h hbN), Nat.add_assoc]
        exact hOb _ v (hcs (i + j) v (by rwa [List.getElem?_drop] at hj)))
      (fun j hj => by rw [hWc]; exact some_setCells _ _ _ _ (fun t ht => hN _ (by omega)) _ (hN _ (by omega)))
      (fun j hj => by rw [hWf, World.frozen?_setCells]; exact hNf _) (fun v hv => h1c v (List.mem_of_mem_drop hv))
  subst hW1
  have hE1 : ∀ x, ((w.alloc (.cells ROW 24)).drew).cell? x = (w.drew.alloc (.cells ROW 24)).cell? x := fun x => rfl
  have hE2 : ∀ x, ((w.alloc (.cells ROW 24)).drew).frozen? x = (w.drew.alloc (.cells ROW 24)).frozen? x := fun x => rfl
  have hF1 : ∀ x, (((w.alloc (.cells ROW 24)).drew.setCells w.heap.size i vs).drew).cell? x = ((w.drew.alloc (.cells ROW 24)).setCells w.heap.size i vs).cell? x := fun x => rfl
  have hF2 : ∀ x, (((w.alloc (.cells ROW 24)).drew.setCells w.heap.size i vs).drew).frozen? x = ((w.drew.alloc (.cells ROW 24)).setCells w.heap.size i vs).frozen? x := fun x => rfl
  have hw1 : IntKind.i64.wrap ((i : Int) + (m : Int)) = (i : Int) + (m : Int) := by rw [IntKind.wrap_i64]; omega
  have hb1 : (0 : Int) ≤ (i : Int) + (m : Int) := by omega
  have hin : i ≤ n := by omega
  have htn : ((i : Int) + (m : Int)).toNat = i + m := by omega
  have hb3 : (i : Int) ≤ (n : Int) := by omega
  have HE := Lib.hid (And.intro hGn (And.intro hGm hRs))
  clear hkk hik hold hROW hG hRl hi0 hRs hGm
  go_enter Try.func94, Try.ntmps94
  go_wp2_with (first
    | (at_builtin; refine Lib.wpList_append_run _ rfl _ _ _ _ rfl _ _ rfl rfl _ _ (hrz _) ?_)
    | (at_builtin; refine wpList_copied _ rfl _ _ 43 43 rfl _ _ rfl rfl (hcpA _ hE1 hE2 _ _) ?_)
    | (at_builtin; refine wpList_copied _ rfl _ _ 43 43 rfl _ _ rfl rfl (hcpB _ (fun _ => rfl) (fun _ => rfl) _ _ _) ?_))
  go_region_law_o (refine step_copied rfl _ _ 43 43 rfl (.slice (some ⟨w.heap.size, i + m, none⟩) (n + m - (i + m)) (G - (i + m))) (.slice (some ⟨b, off + i, none⟩) (n - i) (c - i)) (by simp [Act.eval, Act.put]) (by simp [Act.eval, Act.put]) (hcpB _ hF1 hF2 3 (G - (i + m)) (c - i)) ?_)
  go_wp2
  go_ret
  exact ⟨G, ROW, rfl, HE.out.1, HE.out.2.1, HE.out.2.2, rfl⟩
def InPost (B : Nat) (sv u : Value) (us : List Value) (w : World) (e : Ending) (w' : World) : Prop := ∃ sv', e = .returned sv' ∧ RowS B w' sv' (u :: us) ∧ w.grownBy w' sv.ownBlock ∧ (sv'.ownBlock = sv.ownBlock ∨ sv'.ownBlock = some w.heap.size)
theorem setL_ins {us : List Value} {x u : Value} : setL (setL (us ++ [x]) 1 us) 0 [u] = u :: us := by
  rw [setL_is us (us ++ [x]) 1 (by rw [List.length_append, List.length_singleton]; omega), setL_is [u] _ 0 (by simp)]
  cases us with
  | nil => simp
  | cons y r => simp [Nat.add_comm 1]
set_option maxRecDepth 100000 in
set_option maxHeartbeats 4000000 in
theorem insert_end (w : World) {B vb : Nat} {a : Option Addr} {cap : Nat} {u : Value} (hr : RowS B w (.slice a 0 cap) []) (hu : ∃ a n c, u = .slice a n c) (hc : w.cell? ⟨vb, 0, none⟩ = some u) (hB : B ≤ w.heap.size) :
    Calls Try.prog 94 #[.slice a 0 cap, .int .i64 0, .slice (some ⟨vb, 0, none⟩) 1 1] w (InPost B (.slice a 0 cap) u [] w) := by
  have HA : ∀ ty, ∃ v' w', (Builtin.append_ #[43, 43] ty #[.slice a 0 cap, .slice (some ⟨vb, 0, none⟩) 1 1]).run Try.prog w = .ok v' w' ∧ RowS B w' v' [u] ∧ w.grownBy w' (Value.slice a 0 cap).ownBlock ∧ (v'.ownBlock = (Value.slice a 0 cap).ownBlock ∨ v'.ownBlock = some w.heap.size) := fun ty => run_append_row ty hr hu (by simp) hB _ hc
  obtain ⟨v', w', e1, r1, g1, d1⟩ := HA 43
  have HE := Lib.hid (And.intro r1 (And.intro g1 d1))
  have hcap : cap ≤ 9223372036854775807 := by
    obtain ⟨a', cap', e, -, h2, -⟩ := hr.form
    cases e; unfold maxLen at h2; omega
  clear HA r1 g1 d1 hr hu
  go_enter Try.func94, Try.ntmps94
  cases a with
  | none =>
    go_wp2_with (at_builtin; refine Lib.wpList_append_run _ rfl _ _ _ _ rfl _ _ rfl rfl _ _ e1 ?_)
    all_goals (go_ret; exact ⟨_, rfl, HE.out.1, HE.out.2.1, HE.out.2.2⟩)
  | some a =>
    obtain ⟨ab, ao, asp⟩ := a
    go_wp2_with (at_builtin; refine Lib.wpList_append_run _ rfl _ _ _ _ rfl _ _ rfl rfl _ _ e1 ?_)
    all_goals (go_ret; exact ⟨_, rfl, HE.out.1, HE.out.2.1, HE.out.2.2⟩)
theorem one_of_heads {us : List Value} {hs : List Hd} (e : us = hs.map Hd.val) : ∀ v ∈ us, v.oneCell' = true := fun v hv => by
  rw [e] at hv
  obtain ⟨x, -, rfl⟩ := List.mem_map.1 hv
  rfl
theorem drew_grown (w : World) (row : Option Nat) : w.grownBy w.drew row := ⟨rfl, rfl, rfl, Nat.le_refl _, fun _ _ _ => rfl⟩
/-- All roads. -/
theorem insert_own (w : World) {B vb : Nat} {sv u : Value} {us : List Value} (hr : RowS B w sv us) (hu : ∃ a n c, u = .slice a n c) (h1 : ∀ v ∈ us, v.oneCell' = true) (hvb : w.heap[vb]? = some (.cells #[u] 24 (0, 0))) (hne : sv.ownBlock ≠ some vb) (hlen : us.length ≤ 1000) (hB : B ≤ w.heap.size) :
    Calls Try.prog 94 #[sv, .int .i64 0, .slice (some ⟨vb, 0, none⟩) 1 1] w (InPost B sv u us w) := by
  have hc : w.cell? ⟨vb, 0, none⟩ = some u := by simp [World.cell?, hvb]
  have hvs : ∀ j v, [u][j]? = some v → w.cell? ⟨vb, 0 + j, none⟩ = some v := fun j v hj => by
    cases j with
    | zero =>
      obtain rfl : u = v := by simpa using hj
      exact hc
    | succ j => simp at hj
  have h1u : ∀ v ∈ [u], v.oneCell' = true := fun v hv => by
    obtain ⟨a, n, c, e⟩ := hu
    rw [List.mem_singleton.1 hv, e]; rfl
  cases hus : us with
  | nil =>
    subst hus
    obtain ⟨a, cap, rfl, -⟩ := hr.form
    exact insert_end w hr hu hc hB
  | cons y r =>
    obtain ⟨hr1, hr2⟩ := id hr
    rcases hr2 with ⟨-, h0⟩ | ⟨g, cap, cur, rfl, hg0, hg, hnc, hcm, hsz, hxs⟩
    · rw [hus] at h0; simp at h0
    · have hn0 : 0 < us.length := by rw [hus]; simp
      have hgv : vb ≠ g := fun e => hne (by rw [e]; rfl)
      have hcs : ∀ j v, us[j]? = some v → w.cell? ⟨g, 0 + j, none⟩ = some v := fun j v hj => by
        obtain ⟨a, cap', e, -, -, -, h4⟩ := hr.form
        cases e
        obtain ⟨g', e', -, -, hcc, -⟩ := h4 j v hj
        cases e'
        rw [Nat.zero_add]; exact hcc
      rw [← hus]
      by_cases hroom : us.length < cap
      · obtain ⟨x, hm, hsp, hfz, hshape⟩ := RowS.more hr rfl hroom
        have key := insert_room g 0 us.length cap 0 vb 1 1 us [u] w hn0 (by decide) (by omega) (by unfold maxLen at hcm; omega) hgv rfl rfl hcs (fun j hj => by rw [Nat.zero_add]; exact hsp j hj) (fun j hj => hfz _) hvs h1 h1u 24 24 1 cap (by simp [World.shape?, hvb]) hshape (by omega) (by simp [World.frozen?, hvb]) (by simp [World.frozen?, hvb])
        refine key.mono ?_
        rintro e w' ⟨rfl, rfl⟩
        have hm2 : RowS B w.drew (.slice (some ⟨g, 0, none⟩) (us.length + 1) cap) (us ++ [x]) := row_next hm fun _ _ _ => rfl
        obtain ⟨s1, g1⟩ := RowS.sets (us.drop 0) (us ++ [x]) (0 + (0 + 1)) w.drew hm2 (by simp)
        obtain ⟨s2, g2⟩ := RowS.sets [u] _ (0 + 0) _ s1 (by rw [setL_len]; simp)
        refine ⟨_, rfl, ?_, ((drew_grown w _).trans g1).trans g2, .inl rfl⟩
        have e3 := setL_ins (us := us) (x := x) (u := u)
        rw [List.drop_zero] at s2
        rw [show (0 + (0 + 1)) = 1 from rfl, show (0 + 0) = 0 from rfl, e3] at s2
        exact s2
      · have key := insert_grow g 0 us.length cap 0 vb 1 1 us [u] w hn0 (by decide) hnc (by omega) (by omega) rfl rfl hcs hvs h1 h1u
        refine key.mono ?_
        rintro e w' ⟨G, ROW, rfl, hG, hGm, hRs, rfl⟩
        have hm : RowS B (w.alloc (.cells ROW 24)) (.slice (some ⟨w.heap.size, 0, none⟩) (us.length + 1) G) (ROW.toList.take (us.length + 1)) := by
          have hl : (ROW.toList.take (us.length + 1)).length = us.length + 1 := by rw [List.length_take, show ROW.toList.length = ROW.size from Array.length_toList]; omega
          refine ⟨by rw [Nat.mul_one], .inr ⟨w.heap.size, G, ROW, by rw [hl], hB, World.alloc_heap_new w _, by rw [hl]; exact hG, hGm, by omega, by rw [hl, Nat.mul_one]⟩⟩
        have hl : (ROW.toList.take (us.length + 1)).length = us.length + 1 := by rw [List.length_take, show ROW.toList.length = ROW.size from Array.length_toList]; omega
        have hm2 : RowS B (w.alloc (.cells ROW 24)).drew (.slice (some ⟨w.heap.size, 0, none⟩) (us.length + 1) G) (ROW.toList.take (us.length + 1)) := row_next hm fun _ _ _ => rfl
        obtain ⟨s1, g1⟩ := RowS.sets [u] _ 0 _ hm2 (by rw [hl])
        have s1' : RowS B (((w.alloc (.cells ROW 24)).drew).setCells w.heap.size 0 [u]).drew (.slice (some ⟨w.heap.size, 0, none⟩) (us.length + 1) G) (setL (ROW.toList.take (us.length + 1)) 0 [u]) := row_next s1 fun _ _ _ => rfl
        obtain ⟨s2, g2⟩ := RowS.sets us _ 1 _ s1' (by rw [setL_len, hl])
        have e3 : setL (setL (ROW.toList.take (us.length + 1)) 0 [u]) 1 us = u :: us := by
          rw [setL_is us _ 1 (by rw [setL_len, hl]; omega), setL_is [u] _ 0 (by rw [hl]; simp)]
          simp
          omega
        rw [e3] at s2
        refine ⟨_, rfl, s2, ?_, .inr rfl⟩
        have ga := World.grownBy_alloc w (.cells ROW 24) none
        have z1 := ga.size
        have z2 := g1.size
        refine ⟨g2.os.trans (g1.os.trans ga.os), g2.tape.trans (g1.tape.trans ga.tape), g2.output.trans (g1.output.trans ga.output), Nat.le_trans (Nat.le_trans z1 z2) g2.size, fun k hk _ => ?_⟩
        exact (g2.block k (Nat.lt_of_lt_of_le hk (Nat.le_trans z1 z2)) (fun e => by cases e; omega)).trans ((g1.block k (Nat.lt_of_lt_of_le hk z1) (fun e => by cases e; omega)).trans (ga.block k hk (by simp)))
end Go.Proofs.Ytkkpokfekbdigaa.Cl
