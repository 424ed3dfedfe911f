/-
  Texts of recipes: contracts of impl.ShowRecipe, ReadRecipe.
  From the row's list of the library's variables and the world's shape to what impl.ReadRecipe asks ('Lib3', 'LibX').
-/
import Derived.Test.YtkhmbmcomgclaaaGreatDoorZb
import Derived.Test.YtkhmbmcomgclaaaGreatDoorZf
import Derived.Test.YtkhmbmcomgclaaaGreatDoorSj
import Derived.Lib.Split
import Derived.Lib.IndexMore
import Derived.Test.YtkhmbmcomgclaaaGreatDoorRows
import Derived.LaidMore
import Derived.Stop.LaidErr
import Derived.Lib.LaidTab
import Derived.Shelf.Vars
namespace Go.Proofs.YtkhmbmcomgclaaaGreatDoor.Cl
open Go.RowKit Wd Rp Cu Kp
set_option linter.unusedVariables false
theorem join_joined (d : UInt8) : ∀ l : List Tk, Lib.join l [d] = joined d l
  | [] => rfl
  | [a] => Lib.join_one a [d]
  | a :: b :: r => by
    have ih := join_joined d (b :: r)
    rw [joined_cons d a (by simp), ← ih]
    simp [Lib.join, List.intercalate]
set_option maxHeartbeats 2000000 in
set_option maxRecDepth 100000 in
theorem join_any (w : World) (a : Option Addr) (cap : Nat) (l : List Tk) (n : Nat) (hn : l.length = n) (hv : V1 w a cap (txL l)) (hl : n ≤ 120) (hm : ∀ s ∈ l, s.length ≤ 4194304) :
    Calls Tryz.prog 31 #[.slice a n cap, .string ⟨#[32]⟩] w fun e w' => e = .returned (.string (tx (joined 32 l))) ∧ Below w.heap.size w w' := by
  by_cases h0 : n = 0
  · subst h0
    have hl0 : l = [] := List.length_eq_zero_iff.1 hn
    subst hl0
    refine (Tryz.strings_Join_none a cap _ w).mono ?_; rintro e w' ⟨rfl, rfl⟩
    exact ⟨rfl, Below.refl _ _⟩
  · obtain ⟨c, hc⟩ : ∃ c, l[0]? = some c := ⟨l[0]'(by omega), List.getElem?_eq_getElem _⟩
    obtain ⟨g, o, rfl, hg, -⟩ := hv.tx hc
    have hmap : (l.map tx).map (·.data.toList) = l := by
      rw [List.map_map]
      have : ((fun x : ByteArray => x.data.toList) ∘ tx) = id := funext fun x => tx_data x
      rw [this, List.map_id]
    have hjl := joined_len 32 4194304 l hm
    have hcap : l.length ≤ cap := by have := hv.1; rwa [txL_len] at this
    have hjj : Lib.join ((l.map tx).map (·.data.toList)) (⟨#[32]⟩ : ByteArray).data.toList = joined 32 l := by rw [hmap]; exact join_joined 32 l
    have key := Tryz.strings_Join g o cap (l.map tx) (⟨#[32]⟩ : ByteArray) w (fun j x hj => by
      rw [List.getElem?_map] at hj
      cases e : l[j]? with
      | none => rw [e] at hj; cases hj
      | some s =>
        rw [e] at hj; cases hj
        obtain ⟨g', o', e', -, hc'⟩ := hv.tx e
        cases e'
        exact hc') hg (by rw [List.length_map]; omega) (by rw [List.length_map]; exact hcap) (by rw [hjj]; exact Nat.le_trans hjl (by rw [hn]; omega))
    rw [List.length_map, hn] at key
    rw [hjj] at key
    exact key
set_option maxHeartbeats 1000000 in
set_option maxRecDepth 100000 in
theorem implShow_any (w : World) (a : Option Addr) (cap : Nat) (l : List Tk) (n : Nat) (hn : l.length = n) (hv : V1 w a cap (txL l)) (hl : n ≤ 4194304) (hm : ∀ s ∈ l, s.length ≤ 4194304) (hL : Lib3 w) :
    Calls Tryz.prog 8 #[.slice a n cap] w fun e w' => e = .returned (.string (tx (shR l))) ∧ Below w.heap.size w w' := by
  have HR := Lib.hid (implRecipeOk_any w a cap l n hn hv hl hm hL)
  have HJ := Lib.hid (fun (w1 : World) (hb : Below w.heap.size w w1) (h : rcB l = true) => join_any w1 a cap l n hn (hv.below hb) (by have := ((Bool.and_eq_true _ _).mp ((rcB_dl l).symm.trans h)).1; have := of_decide_eq_true this; omega) hm)
  have HS := Lib.hid (show shR l = if rcB l then joined 32 l else [] from rfl)
  clear hv hm hL
  generalize shR l = r at *
  generalize rcB l = q at *
  generalize joined 32 l = j at *
  go_enter Tryz.func8, Tryz.ntmps8
  go_wp2_with fail
  refine HR.out.mono ?_; rintro e w1 ⟨rfl, b1⟩
  have B1 := Lib.hid b1
  clear b1
  cases q
  · go_wp2_with fail
    go_ret
    exact ⟨by rw [HS.out]; rfl, B1.out⟩
  · have HJ1 := Lib.hid (HJ.out w1 B1.out rfl)
    go_wp2_with fail
    refine HJ1.out.mono ?_; rintro e w2 ⟨rfl, b2⟩
    have B2 := Lib.hid (bel_tr B1.out b2 (Nat.le_refl _)); clear b2
    go_wp2_with fail
    go_ret
    exact ⟨by rw [HS.out]; rfl, B2.out⟩
theorem mem_cut {d : UInt8} : ∀ {l : List UInt8}, d ∈ l → ∃ a r, l = a ++ d :: r ∧ d ∉ a
  | [], h => by simp at h
  | c :: l, h => by
    by_cases e : c = d
    · exact ⟨[], l, by rw [e]; rfl, by simp⟩
    · obtain ⟨a, r, h1, h2⟩ := mem_cut (l := l) (by simpa [Ne.symm e] using h)
      exact ⟨c :: a, r, by rw [h1]; rfl, by simp [Ne.symm e, h2]⟩
theorem cutK_none {d : UInt8} {l : List UInt8} (h : d ∉ l) (k : Nat) : Lib.splitK [d] 0 k l = [l] := by
  cases k with
  | zero => rfl
  | succ k => rw [Lib.splitK, Lib.index_one, index_not l d h]; rfl
theorem cutK_app {d : UInt8} {a r : List UInt8} (h : d ∉ a) (k : Nat) : Lib.splitK [d] 0 (k + 1) (a ++ d :: r) = a :: Lib.splitK [d] 0 k r := by
  rw [Lib.splitK, Lib.index_one, index_app a d r h, if_neg (by rw [beq_iff_eq]; omega)]
  congr 1
  · simp
  · congr 1
    simp
/-- With k pieces to cut off, the pieces of the text if they are no more, else k and a rest. -/
theorem cutK_spl (d : UInt8) : ∀ (k : Nat) (l : List UInt8), ((spl d l).length ≤ k + 1 → Lib.splitK [d] 0 k l = spl d l) ∧ (k + 1 < (spl d l).length → (Lib.splitK [d] 0 k l).length = k + 1)
  | 0, l => by
    refine ⟨fun h => ?_, fun h => rfl⟩
    by_cases hd : d ∈ l
    · obtain ⟨a, r, rfl, ha⟩ := mem_cut hd
      rw [spl_app ha] at h
      have h3 : 0 < (spl d r).length := List.length_pos_iff.2 (splAt_ne d r [])
      rw [List.length_cons] at h; omega
    · rw [spl_none hd]; rfl
  | k + 1, l => by
    by_cases hd : d ∈ l
    · obtain ⟨a, r, rfl, ha⟩ := mem_cut hd
      obtain ⟨h1, h2⟩ := cutK_spl d k r
      rw [spl_app ha, cutK_app ha, List.length_cons, List.length_cons]
      exact ⟨fun h => by rw [h1 (by omega)], fun h => by rw [h2 (by omega)]⟩
    · rw [spl_none hd, cutK_none hd]
      exact ⟨fun _ => rfl, fun h => by simp at h⟩
theorem cutK_sub (d : UInt8) : ∀ (k : Nat) (l : List UInt8), ∀ s ∈ Lib.splitK [d] 0 k l, s.length ≤ l.length
  | 0, l, s, h => by
    have : s = l := by simpa [Lib.splitK] using h
    rw [this]; exact Nat.le_refl _
  | k + 1, l, s, h => by
    by_cases hd : d ∈ l
    · obtain ⟨a, r, rfl, ha⟩ := mem_cut hd
      rw [cutK_app ha] at h
      rcases List.mem_cons.1 h with e | e
      · subst e; simp
      · have := cutK_sub d k r s e; simp; omega
    · rw [cutK_none hd] at h
      have : s = l := by simpa using h
      rw [this]; exact Nat.le_refl _
theorem cutK_len (d : UInt8) : ∀ (k : Nat) (l : List UInt8), (Lib.splitK [d] 0 k l).length ≤ k + 1
  | 0, l => Nat.le_refl _
  | k + 1, l => by
    by_cases hd : d ∈ l
    · obtain ⟨a, r, rfl, ha⟩ := mem_cut hd
      rw [cutK_app ha, List.length_cons]
      have := cutK_len d k r
      omega
    · rw [cutK_none hd]; simp
def LibX (w : World) : Prop := (∃ m : Int, w.cell? ⟨0, 0, none⟩ = some (.int .i64 m)) ∧ 0 < w.heap.size
theorem LibX.next {w w' : World} (h : LibX w) (hb : Below w.heap.size w w') : LibX w' := by
  obtain ⟨⟨m, hm⟩, hl⟩ := h
  exact ⟨⟨m, (World.cell?_of_block (w := w) (hb.block _ hl)).trans hm⟩, Nat.lt_of_lt_of_le hl hb.size⟩
/-- What SplitN leaves: so many texts, in a row of the call's own. -/
theorem splitN_any (s : Tk) (w : World) (hs : s.length ≤ 4000000) (hM : LibX w) : Calls Tryz.prog 37 #[.string (tx s), .string ⟨#[32]⟩, .int .i64 121] w fun e w' => ∃ v, e = .returned v ∧ OT w.heap.size w' v (Lib.splitK [32] 0 (min 121 (s.length + 1) - 1) s) ∧ Below w.heap.size w w' := by
  obtain ⟨⟨m, hm⟩, -⟩ := hM
  refine (Tryz.strings_SplitN (tx s) ⟨#[32]⟩ 121 m w (by rw [tx_size]; omega) hm (by decide) (by decide) (by decide)).mono ?_
  rintro e w' ⟨rfl, rfl⟩
  have hd := Lib.splitB_data (⟨#[32]⟩ : ByteArray) 0 (min 121 ((tx s).size + 1) - 1) (tx s)
  rw [show (⟨#[32]⟩ : ByteArray).data.toList = [32] from rfl, tx_data, tx_size] at hd
  rw [tx_size]
  have hl := cutK_len 32 (min 121 (s.length + 1) - 1) s
  rw [← hd, List.length_map] at hl
  rw [← hd]
  generalize Lib.splitB (⟨#[32]⟩ : ByteArray) 0 (min 121 (s.length + 1) - 1) (tx s) = L at *
  refine ⟨_, rfl, ?_, bel1 _ _⟩
  have hmin : L.length ≤ min 121 (s.length + 1) := by omega
  have hx : txL (L.map (·.data.toList)) = L.map Value.string := by
    unfold txL
    rw [List.map_map]
    refine List.map_congr_left fun x _ => ?_
    show Value.string (tx x.data.toList) = _
    rw [tx_of]
  unfold OT O1
  rw [hx, List.length_map]
  exact ⟨by rw [List.length_map, Nat.mul_one], .inr ⟨w.heap.size, _, _, rfl, Nat.le_refl _, new_of w _, hmin, by unfold maxLen; omega, by rw [Lib.cellsOf_size hmin, Nat.mul_one], by
    rw [Nat.mul_one]
    unfold Lib.cellsOf
    rw [← List.length_map (f := Value.string), List.take_left]⟩⟩
/-- What the two splitters give are the same recipes. -/
theorem cut_rc (s : Tk) : (rcB (Lib.splitK [32] 0 (min 121 (s.length + 1) - 1) s) = rcB (spl 32 s)) ∧ (rcB (spl 32 s) = true → Lib.splitK [32] 0 (min 121 (s.length + 1) - 1) s = spl 32 s) := by
  obtain ⟨h1, h2⟩ := cutK_spl 32 (min 121 (s.length + 1) - 1) s
  have hl := (spl_lens 32 s).1
  by_cases hle : (spl 32 s).length ≤ min 121 (s.length + 1) - 1 + 1
  · have := h1 hle
    exact ⟨by rw [this], fun _ => this⟩
  · have h3 := h2 (by omega)
    have no : ∀ l : List Tk, 120 < l.length → rcB l = false := fun l h => by unfold rcB; rw [if_neg (by omega)]
    have e1 := no (spl 32 s) (by omega)
    rw [e1]
    exact ⟨no _ (by omega), fun e => by cases e⟩
set_option maxHeartbeats 2000000 in
set_option maxRecDepth 100000 in
theorem implRead_any (w : World) (s : Tk) (hs : s.length ≤ 4000000) (hL : Lib3 w) (hM : LibX w) : Calls Tryz.prog 10 #[.string (tx s)] w (ReadsR s w) := by
  by_cases h0 : s = []
  · subst h0
    have q0 : (tx ([] : Tk)).toList.isEmpty = true := by rw [Lib.toList_data, tx_data]; rfl
    go_enter Tryz.func10, Tryz.ntmps10
    go_wp2_with fail
    refine bodyPost_ret (v := .tuple #[.slice none 0 0, .bool true]) (by simp [results, Tryz.results10, go_sem]) rfl ⟨_, rfl, O1.nothing _ _ _, Below.refl _ _⟩
  · have q0 : (tx s).toList.isEmpty = false := by rw [Lib.toList_data, tx_data]; cases s with | nil => exact absurd rfl h0 | cons a b => rfl
    have HE := Lib.hid (show rdR s = (if rcB (spl 32 s) then (spl 32 s, true) else ([], false)) by unfold rdR; rw [if_neg h0])
    have HP := Lib.hid (splitN_any s w hs hM)
    have HC := Lib.hid (cut_rc s)
    have HSUB := Lib.hid (cutK_sub 32 (min 121 (s.length + 1) - 1) s)
    have HLEN := Lib.hid (cutK_len 32 (min 121 (s.length + 1) - 1) s)
    have HL := Lib.hid hL
    clear hL hM
    unfold ReadsR
    generalize rdR s = r at *
    generalize spl 32 s = l at *
    generalize hk : min 121 (s.length + 1) - 1 = kk at *
    have hkk : kk ≤ 120 := by omega
    generalize Lib.splitK [32] 0 kk s = m at *
    clear hk
    go_enter Tryz.func10, Tryz.ntmps10
    go_wp2_with fail
    refine HP.out.mono ?_; rintro e w1 ⟨v, rfl, o1, b1⟩
    have HO1 := Lib.hid o1; clear o1
    have B1 := Lib.hid b1; clear b1
    obtain ⟨a, cap, ev, hv⟩ := O1.view HO1.out
    rw [txL_len] at ev
    subst ev
    have HR := Lib.hid (implRecipeOk_any w1 a cap m m.length rfl hv (by have := HLEN.out; omega) (fun t ht => by have := HSUB.out t ht; omega) (lib3_below HL.out B1.out)); clear hv
    rw [HC.out.1] at HR
    have HC2 := Lib.hid HC.out.2
    clear HC
    generalize hn : m.length = n at *
    generalize rcB l = q at *
    go_wp2_with fail
    refine HR.out.mono ?_; rintro e w2 ⟨rfl, b2⟩
    have HO2 := Lib.hid (HO1.out.next b2)
    have B2 := Lib.hid (bel_tr B1.out b2 (Nat.le_refl _)); clear b2
    cases q
    · go_wp2_with fail
      refine bodyPost_ret (v := .tuple #[.slice none 0 0, .bool false]) (by simp [results, Tryz.results10, go_sem]) rfl ⟨_, by rw [HE.out]; rfl, by rw [HE.out]; exact O1.nothing _ _ _, B2.out⟩
    · go_wp2_with fail
      refine bodyPost_ret (v := .tuple #[.slice a n cap, .bool true]) (by simp [results, Tryz.results10, go_sem]) rfl ⟨_, by rw [HE.out]; rfl, by rw [HE.out]; have := HO2.out; rw [HC2.out trivial] at this; exact this, B2.out⟩
end Go.Proofs.YtkhmbmcomgclaaaGreatDoor.Cl
namespace Go.Proofs.YtkhmbmcomgclaaaGreatDoor.Cl
open Go.RowKit Go.ChangeShapes Rp
theorem starX : "*" ++ "errors.errorString" = "*errors.errorString" := by decide
theorem rowOfX (u : TypeId) (h : Tryz.prog.typeName? 3 u = some "*errors.errorString") : u = 180 :=
  typeName_ptr_named (nm := "errors.errorString") (by rw [starX]; kernel_rfl) (by kernel_rfl) (by decide) u (by rw [starX]; exact h)
theorem ltX_of_var {w : World} {n : String} {g : Nat} {cs : Array Value} {v : Value} (hg : Tryz.prog.globalNamed n = some g) (h : w.var? Tryz.prog n = some cs) (hv : cs[0]? = some v) : g < w.heap.size := by
  have := World.var?_cell hg h 0
  rw [hv] at this
  exact Lib.lt_of_cell this
/-- The tail of the list, from the table on. -/
theorem lib3X_of {W : World} {x : DataW Unit} {r : List (String × DataW Unit)} (h : laidMet Tryz.prog (("internal/strconv.uint64pow10", Rows.laid_internal_strconv_uint64pow10) :: ("unicode/utf8.acceptRanges", x) :: ("strconv.ErrRange", Rows.laid_strconv_ErrRange) :: ("strconv.ErrSyntax", Rows.laid_strconv_ErrSyntax) :: r) W) : Lib3 W := by
  have e : (Rows.laid_internal_strconv_uint64pow10 : DataW Unit) = Lib.tabData .u64 Lib.pow10Tab := by kernel_rfl
  have h1 := h
  rw [e] at h1
  have ht := Lib.tabIs_of_head (g := 5) gT (by kernel_rfl : (Tryz.prog.globals[5]?).map (·.type) = some 177) Tryz.underlying177 Tryz.underlying116 (by kernel_rfl) (by kernel_rfl) h1
  obtain ⟨a0, s0, hv0, -, -, -⟩ := laid_sentinel h.tail.tail gR (by kernel_rfl : (Tryz.prog.globals[4]?).map (·.type) = some 69) Tryz.underlying69 rowOfX Tryz.underlying180 Tryz.underlying182 rfl rfl Tryz.underlying9 (by kernel_rfl) (by kernel_rfl)
  obtain ⟨a1, s1, hv1, -, -, -⟩ := laid_sentinel h.tail.tail.tail gS (by kernel_rfl : (Tryz.prog.globals[3]?).map (·.type) = some 69) Tryz.underlying69 rowOfX Tryz.underlying180 Tryz.underlying182 rfl rfl Tryz.underlying9 (by kernel_rfl) (by kernel_rfl)
  refine ⟨⟨_, _, hv1⟩, ⟨_, _, hv0⟩, ht, ltX_of_var gS hv1 rfl, ltX_of_var gR hv0 rfl, ?_⟩
  exact Lib.lt_of_cell (ht.cell gT 0 (by decide))
theorem libX_of {W : World} (hsh : W.ShapedOpen Tryz.prog) : LibX W := by
  obtain ⟨m, hm⟩ := cell_of_shapedOpen_int (k := .i64) (g := 0) (t := 3) (zero := #[.int .i64 0]) hsh (by decide +kernel) (by kernel_rfl) rfl (by kernel_rfl) (by kernel_rfl) Tryz.underlying3
  exact ⟨⟨m, hm⟩, Lib.lt_of_cell hm⟩
end Go.Proofs.YtkhmbmcomgclaaaGreatDoor.Cl
