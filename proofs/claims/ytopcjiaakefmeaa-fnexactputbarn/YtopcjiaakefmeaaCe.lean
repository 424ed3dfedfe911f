/-
  Slices of cells that a call has made ('OwC'); contracts of laws.szCellS, laws.toCellS, laws.eqCell.
-/
import Derived.Test.YtopcjiaakefmeaaCb
import Derived.OwnWalk
import Derived.Maps.AppendAt
namespace Go.Proofs.Ytopcjiaakefmeaa.Cl
open Go.RowKit Wd Rp Kp
set_option linter.unusedVariables false
def OwC (B : Nat) (w : World) (v : Value) (l : List Cel) : Prop := w.ownsRow B 33 5 v l.length (flat l)
theorem infoC : (Try.prog.info? 33).map (fun i => (i.zero, i.size, i.bytes)) = some (some (.agg #[.string ⟨#[]⟩, .string ⟨#[]⟩, .int .i64 0, .int .i64 0, .bool false]), 5, 56) := by kernel_rfl
theorem row_next {B : Nat} {e : TypeId} {k : Nat} {v : Value} {n : Nat} {xs : List Value} {w w' : World} (h : w.ownsRow B e k v n xs) (hb : ∀ g, v.ownBlock = some g → g < w.heap.size → w'.heap[g]? = w.heap[g]?) : w'.ownsRow B e k v n xs := by
  obtain ⟨h1, h2⟩ := h
  refine ⟨h1, ?_⟩
  rcases h2 with h2 | ⟨g, cap, cur, hv, hB, hg, h3⟩
  · exact .inl h2
  · subst hv
    exact .inr ⟨g, cap, cur, rfl, hB, (hb g rfl (Array.getElem?_eq_some_iff.1 hg).1).trans hg, h3⟩
theorem OwC.next {B : Nat} {w w' : World} {v : Value} {l : List Cel} (h : OwC B w v l) (hb : Below w.heap.size w w') : OwC B w' v l := row_next h fun g _ hg => hb.block g hg
theorem OwC.mono {B C : Nat} {w : World} {v : Value} {l : List Cel} (h : OwC B w v l) (hC : C ≤ B) : OwC C w v l := by
  obtain ⟨h1, h2⟩ := h
  refine ⟨h1, ?_⟩
  rcases h2 with h2 | ⟨g, cap, cur, hv, hB, h3⟩
  · exact .inl h2
  · exact .inr ⟨g, cap, cur, hv, Nat.le_trans hC hB, h3⟩
theorem OwC.view {B : Nat} {w : World} {v : Value} {l : List Cel} (h : OwC B w v l) : ∃ a cap, v = .slice a l.length cap ∧ Vw w a cap l ∧
    ∀ k, k < l.length → ∃ g, a = some ⟨g, 0, none⟩ ∧ B ≤ g ∧ ∀ j, w.frozen? ⟨g, j, none⟩ = false := by
  obtain ⟨h1, h2⟩ := h
  rcases h2 with ⟨rfl, hn⟩ | ⟨g, cap, cur, rfl, hB, hg, hn, hc, hsz, hxs⟩
  · refine ⟨none, 0, by rw [hn], ⟨by omega, by decide, fun _ => rfl, fun k c hk => ?_⟩, fun k hk => by omega⟩
    have := (List.getElem?_eq_some_iff.1 hk).1; omega
  · refine ⟨_, cap, rfl, ⟨hn, hc, (fun e => by cases e), fun k c hk => ?_⟩, fun k hk => ⟨g, rfl, hB, fun j => by simp [World.frozen?, hg]⟩⟩
    have hkl := (List.getElem?_eq_some_iff.1 hk).1
    refine ⟨g, 0, rfl, (Array.getElem?_eq_some_iff.1 hg).1, ?_⟩
    have key : ∀ j, j < 5 → w.cell? ⟨g, 0 + k * 5 + j, none⟩ = c.vals[j]? := fun j hj => by
      have e1 := flat_get l k j c hk hj
      rw [← hxs, List.getElem?_take_of_lt (by omega)] at e1
      rw [← e1, Nat.zero_add]
      simp [World.cell?, hg]
    exact ⟨key 0 (by decide), key 1 (by decide), key 2 (by decide), key 3 (by decide), key 4 (by decide)⟩
theorem set_right {a b : List Value} {n : Nat} (h : a.length = 5) (x : Value) (j : Nat) : (a ++ b).set (5 + n + j) x = a ++ b.set (n + j) x := by
  rw [List.set_append_right _ _ (by omega), h, show 5 + n + j - 5 = n + j by omega]
theorem flat_set : ∀ (l : List Cel) (k : Nat) (c : Cel), k < l.length →
    (((((flat l).set (k * 5) (.string c.r)).set (k * 5 + 1) (.string c.b)).set (k * 5 + 2) (.int .i64 c.t)).set (k * 5 + 3) (.int .i64 c.v)).set (k * 5 + 4) (.bool c.g) = flat (l.set k c)
  | [], k, c, h => by simp at h
  | d :: l, 0, c, h => by rfl
  | d :: l, k + 1, c, h => by
    have ih := flat_set l k c (by simpa using h)
    have e0 : (k + 1) * 5 = 5 + k * 5 + 0 := by omega
    rw [flat_cons, List.set_cons_succ, flat_cons, ← ih]
    rw [show (k + 1) * 5 + 1 = 5 + k * 5 + 1 by omega, show (k + 1) * 5 + 2 = 5 + k * 5 + 2 by omega, show (k + 1) * 5 + 3 = 5 + k * 5 + 3 by omega, show (k + 1) * 5 + 4 = 5 + k * 5 + 4 by omega, e0]
    rw [set_right (vals_len d), set_right (vals_len d), set_right (vals_len d), set_right (vals_len d), set_right (vals_len d)]; rfl
theorem OwC.set {B : Nat} {w : World} {g n cap : Nat} {l : List Cel} (h : OwC B w (.slice (some ⟨g, 0, none⟩) n cap) l) (hn : n = l.length) (k : Nat) (hk : k < l.length) (c : Cel) :
    OwC B (((((w.setCell ⟨g, k * 5, none⟩ (.string c.r)).setCell ⟨g, k * 5 + 1, none⟩ (.string c.b)).setCell ⟨g, k * 5 + 2, none⟩ (.int .i64 c.t)).setCell ⟨g, k * 5 + 3, none⟩ (.int .i64 c.v)).setCell ⟨g, k * 5 + 4, none⟩ (.bool c.g)) (.slice (some ⟨g, 0, none⟩) n cap) (l.set k c) := by
  subst hn
  have h0 := (World.ownsRow.stored h (k * 5) (.string c.r)).1
  have h1 := (World.ownsRow.stored h0 (k * 5 + 1) (.string c.b)).1
  have h2 := (World.ownsRow.stored h1 (k * 5 + 2) (.int .i64 c.t)).1
  have h3 := (World.ownsRow.stored h2 (k * 5 + 3) (.int .i64 c.v)).1
  have h4 := (World.ownsRow.stored h3 (k * 5 + 4) (.bool c.g)).1
  unfold OwC
  rw [List.length_set, ← flat_set l k c hk]; exact h4
theorem bel_set5o {B : Nat} {a w : World} (h : Below B a w) {n o : Nat} (hn : B ≤ n) (x0 x1 x2 x3 x4 : Value) : Below B a (((((w.setCell ⟨n, o, none⟩ x0).setCell ⟨n, o + 1, none⟩ x1).setCell ⟨n, o + 2, none⟩ x2).setCell ⟨n, o + 3, none⟩ x3).setCell ⟨n, o + 4, none⟩ x4) :=
  ((((h.setCell (p := ⟨n, o, none⟩) hn _).setCell (p := ⟨n, o + 1, none⟩) hn _).setCell (p := ⟨n, o + 2, none⟩) hn _).setCell (p := ⟨n, o + 3, none⟩) hn _).setCell (p := ⟨n, o + 4, none⟩) hn _
def zc : Cel := ⟨⟨#[]⟩, ⟨#[]⟩, 0, 0, false⟩
theorem made_flat : ∀ n, (madeCells (Value.agg #[.string ⟨#[]⟩, .string ⟨#[]⟩, .int .i64 0, .int .i64 0, .bool false]).cells (n * 5)).toList = flat (List.replicate n zc) := by
  intro n
  rw [madeCells, Array.toList_map, Array.toList_range]
  induction n with
  | zero => rfl
  | succ n ih =>
    rw [List.replicate_succ', flat_app, ← ih, show (n + 1) * 5 = n * 5 + 1 + 1 + 1 + 1 + 1 by omega, List.range_succ, List.range_succ, List.range_succ, List.range_succ, List.range_succ]
    simp only [List.map_append, List.map_cons, List.map_nil, List.append_assoc]
    congr 1
    have e : ∀ j, j < 5 → (n * 5 + j) % 5 = j := fun j hj => by omega
    have hs : (Value.agg #[.string ⟨#[]⟩, .string ⟨#[]⟩, .int .i64 0, .int .i64 0, .bool false]).cells.size = 5 := rfl
    simp only [hs, show n * 5 % 5 = 0 by omega, show (n * 5 + 1) % 5 = 1 by omega, show (n * 5 + 1 + 1) % 5 = 2 by omega, show (n * 5 + 1 + 1 + 1) % 5 = 3 by omega, show (n * 5 + 1 + 1 + 1 + 1) % 5 = 4 by omega]
    rfl
theorem szL_le {r b : ByteArray} {n : Int} (h : 0 ≤ szL r b n) : (r.size : Int) ≤ n ∧ (b.size : Int) ≤ n ∧ szL r b n ≤ n := by
  unfold szL at h ⊢
  split at h
  · omega
  · split at h
    · omega
    · rename_i h1 h2
      rw [if_neg h1, if_neg h2]; omega
/-- What szCellS leaves. -/
def SzPost (l : List Cel) (n : Int) (w : World) (e : Ending) (w' : World) : Prop := ∃ z : Int, e = .returned (.int .i64 z) ∧ Below w.heap.size w w' ∧ (z < 0 ∨ 0 ≤ z ∧ z ≤ n ∧ (l.length : Int) ≤ n ∧ ∀ c ∈ l, (c.r.size : Int) ≤ n ∧ (c.b.size : Int) ≤ n)
set_option maxHeartbeats 4000000 in
theorem szCellS_any (w : World) (a : Option Addr) (cap : Nat) (l : List Cel) (n : Int) (hv : Vw w a cap l) (hm : ∀ c ∈ l, c.r.size ≤ 9223372036854775807 ∧ c.b.size ≤ 9223372036854775807) (h0 : 0 ≤ n) (hn : n ≤ 1048576) :
    Calls Try.prog 43 #[.slice a l.length cap, .int .i64 n] w (SzPost l n w) := by
  have hlm : l.length ≤ 9223372036854775807 := by have := hv.1; have h2 := hv.2.1; unfold maxLen at h2; omega
  have HV := Lib.hid hv; clear hv
  have HM := Lib.hid hm; clear hm
  generalize hL : l.length = L at *
  by_cases hlt : n - (L : Int) < 0
  · go_enter Try.func43, Try.ntmps43
    go_wp2
    go_ret
    exact ⟨-1, rfl, Below.refl _ _, Or.inl (by decide)⟩
  · go_enter Try.func43, Try.ntmps43
    go_wp2
    go_loopw [1, 5] (fun q i wr => ∃ (k : Nat) (z : Int), k ≤ L ∧ i = .int .i64 k ∧ q = .int .i64 z ∧ 0 ≤ z ∧ z ≤ n ∧ (∀ j c, j < k → l[j]? = some c → (c.r.size : Int) ≤ n ∧ (c.b.size : Int) ≤ n) ∧ Below w.heap.size w wr) (fun _ i _ => L - intV i)
    case atStart => exact ⟨0, n - L, Nat.zero_le _, rfl, rfl, by omega, by omega, fun j c hj => by omega, Below.refl _ _⟩
    case round =>
      obtain ⟨k, z, hk, rfl, rfl, z0, z1, hok, hbel⟩ := hrel
      have HB := Lib.hid hbel; clear hbel
      have HO := Lib.hid hok; clear hok
      by_cases hlk : k < L
      · obtain ⟨c, hc⟩ : ∃ c, l[k]? = some c := ⟨l[k], List.getElem?_eq_getElem (by omega)⟩
        obtain ⟨g, o, rfl, hg, h5⟩ := HV.out.2.2.2 k c hc
        obtain ⟨c0, c1, c2, c3, c4⟩ : At5 wr g (o + k * 5) c := h5.same (HB.out.block g hg)
        have hmc := HM.out c (List.mem_of_getElem? hc)
        have HZ := Lib.hid (fun w => szCell_any c.r c.b c.t c.v z c.g w hmc.1 hmc.2 z0 (by omega))
        have hle : 0 ≤ szL c.r c.b z → _ := szL_le
        have HC := Lib.hid hc; clear hc
        have HL := Lib.hid hle; clear hle hmc
        generalize szL c.r c.b z = y at *
        clear h5 hg
        by_cases hy : y < 0
        · go_wp2_with fail
          refine (HZ.out _).mono ?_; rintro e w1 ⟨rfl, b1⟩
          have B1 := Lib.hid (bel_tr HB.out b1 (Nat.le_refl _)); clear b1
          go_wp2_with fail
          go_ret
          exact ⟨-1, rfl, B1.out, Or.inl (by decide)⟩
        · go_wp2_with fail
          refine (HZ.out _).mono ?_; rintro e w1 ⟨rfl, b1⟩
          have B1 := Lib.hid (bel_tr HB.out b1 (Nat.le_refl _)); clear b1
          go_wp2_with fail
          go_roundw
          case rel =>
            obtain ⟨l1, l2, l3⟩ := HL.out (by omega)
            refine ⟨k + 1, y, by omega, by go_num, rfl, by omega, by omega, fun j d hj hd => ?_, B1.out⟩
            by_cases he : j = k
            · subst he
              obtain rfl : c = d := Option.some.inj (HC.out.symm.trans hd)
              exact ⟨by omega, by omega⟩
            · exact HO.out j d (by omega) hd
          case measure => simp [intV]; omega
      · obtain rfl : k = L := by omega
        go_wp2_with fail
        go_ret
        refine ⟨z, rfl, HB.out, Or.inr ⟨z0, z1, by omega, fun c hc => ?_⟩⟩
        obtain ⟨j, hj⟩ := List.mem_iff_getElem?.1 hc
        exact HO.out j c (by have := (List.getElem?_eq_some_iff.1 hj).1; omega) hj
set_option maxHeartbeats 4000000 in
theorem toCellS_any (w : World) (a : Option Addr) (cap : Nat) (l : List Cel) (hv : Vw w a cap l) (hl : l.length ≤ 1048576) :
    Calls Try.prog 44 #[.slice a l.length cap] w fun e w' => ∃ g, e = .returned (.slice (some ⟨g, 0, none⟩) l.length l.length) ∧ OwC w.heap.size w' (.slice (some ⟨g, 0, none⟩) l.length l.length) l ∧ Below w.heap.size w w' := by
  obtain ⟨i0, hi, hz0, hz1, hz2⟩ := info_parts infoC
  have HV := Lib.hid hv; clear hv
  generalize hL : l.length = L at *
  go_enter Try.func44, Try.ntmps44
  go_wp2_with (first
    | (at_make; refine wpList_make_full _ rfl (.tmp 6) (.tmp 6) 24 rfl w.heap.size 33 i0 _ 5 Try.underlying24 hi hz0 hz1 .i64 .i64 _ _ L rfl rfl rfl rfl (by rw [hz2]; omega) (by unfold maxLen; omega) (Nat.le_refl _) ?_; intro w1 hown1 hgrow1))
  have hst : OwC w.heap.size w1 (.slice (some ⟨w.heap.size, 0, none⟩) L L) (List.replicate L zc) := by
    unfold OwC; rw [List.length_replicate, ← made_flat]; exact hown1
  have hb1 : Below w.heap.size w w1 := (Below.refl _ _).grown hgrow1 (Nat.le_refl _) (fun _ h => by cases h)
  have H1 := Lib.hid (And.intro hst hb1); clear hst hb1 hown1 hgrow1
  go_loopw [4] (fun i wr => ∃ (k : Nat) (m : List Cel), k ≤ L ∧ i = .int .i64 k ∧ m.length = L ∧ (∀ j, j < k → m[j]? = l[j]?) ∧ OwC w.heap.size wr (.slice (some ⟨w.heap.size, 0, none⟩) L L) m ∧ Below w.heap.size w wr) (fun i _ => L - intV i)
  case atStart => exact ⟨0, _, Nat.zero_le _, rfl, List.length_replicate, fun j hj => by omega, H1.out.1, H1.out.2⟩
  case round =>
    clear H1
    obtain ⟨k, m, hk, rfl, hm, hmk, hown, hbel⟩ := hrel
    have HB := Lib.hid hbel; clear hbel
    have HM := Lib.hid hmk; clear hmk
    by_cases hlk : k < L
    · obtain ⟨c, hc⟩ : ∃ c, l[k]? = some c := ⟨l[k], List.getElem?_eq_getElem (by omega)⟩
      obtain ⟨g, o, rfl, hg, h5⟩ := HV.out.2.2.2 k c hc
      obtain ⟨c0, c1, c2, c3, c4⟩ : At5 wr g (o + k * 5) c := h5.same (HB.out.block g hg)
      have HC := Lib.hid hc; clear hc h5 hg
      have HO := Lib.hid hown; clear hown
      go_wp2_with fail
      refine (toCell_any c.r c.b c.t c.v c.g _).mono ?_; rintro e w2 ⟨rfl, b2⟩
      have B2 := Lib.hid (bel_tr HB.out b2 (Nat.le_refl _))
      have HO2 := Lib.hid (HO.out.next b2); clear b2 c0 c1 c2 c3 c4
      obtain ⟨a2, cap2, e2, hv2, hf2⟩ := HO2.out.view
      obtain ⟨d, hd⟩ : ∃ d, m[k]? = some d := ⟨m[k], List.getElem?_eq_getElem (by omega)⟩
      obtain ⟨g2, e3, -, hf3⟩ := hf2 k (by omega)
      obtain ⟨g4, o4, e4, -, h4⟩ := hv2.2.2.2 k d hd
      rw [hm] at e2
      cases e2
      cases e4
      rw [Nat.zero_add] at h4
      obtain ⟨d0, d1, d2, d3, d4⟩ := h4
      have f0 := hf3 (k * 5)
      have f1 := hf3 (k * 5 + 1)
      have f2 := hf3 (k * 5 + 2)
      have f3 := hf3 (k * 5 + 3)
      have f4 := hf3 (k * 5 + 4)
      cases e3
      clear hf2 hf3 hv2 hd
      have HS := Lib.hid (HO2.out.set (by rw [hm]) k (by omega) c)
      have HB2 := Lib.hid (bel_set5o B2.out (Nat.le_refl w.heap.size) (o := k * 5) (.string c.r) (.string c.b) (.int .i64 c.t) (.int .i64 c.v) (.bool c.g))
      clear HO HO2 B2
      generalize hG : w.heap.size = G at *
      go_wp2_with fail
      subst hG
      go_roundw
      case rel =>
        refine ⟨k + 1, m.set k c, by omega, by go_num, by rw [List.length_set]; exact hm, fun j hj => ?_, HS.out, HB2.out⟩
        by_cases he : j = k
        · subst he; rw [List.getElem?_set_self (by omega), HC.out]
        · rw [List.getElem?_set_ne (by omega)]; exact HM.out j (by omega)
      case measure => simp [intV]; omega
    · obtain rfl : k = L := by omega
      have hml : m = l := by
        apply List.ext_getElem? 
        intro i
        by_cases hi : i < k
        · exact HM.out i hi
        · rw [List.getElem?_eq_none (by omega), List.getElem?_eq_none (by omega)]
      subst hml
      have HO := Lib.hid hown; clear hown
      go_wp2_with fail
      go_ret
      exact ⟨_, rfl, HO.out, HB.out⟩
set_option maxHeartbeats 1000000 in
theorem eqKey_same (r b : ByteArray) (t : Int) (w : World) :
    Calls Try.prog 103 #[.agg #[.string r, .string b, .int .i64 t], .agg #[.string r, .string b, .int .i64 t]] w fun e w' => e = .returned (.bool true) ∧ Below w.heap.size w w' := by
  have HB := Lib.hid (bel2 w)
  have q1 : (r.toList == r.toList) = true := by simp
  have q2 : (b.toList == b.toList) = true := by simp
  have q3 : (t == t) = true := by simp
  go_enter Try.func103, Try.ntmps103
  go_wp2
  go_ret
  exact ⟨rfl, HB.out _ _⟩
theorem Bc.two (r b : ByteArray) (t v : Int) (g : Bool) (r' b' : ByteArray) (t' v' : Int) (g' : Bool) (w : World) (T : Nat) :
    Bc w.heap.size r b t v g ((w.alloc (.cells #[.string r, .string b, .int .i64 t, .int .i64 v, .bool g] T)).alloc (.cells #[.string r', .string b', .int .i64 t', .int .i64 v', .bool g'] T)) ∧ Bc (w.heap.size + 1) r' b' t' v' g' ((w.alloc (.cells #[.string r, .string b, .int .i64 t, .int .i64 v, .bool g] T)).alloc (.cells #[.string r', .string b', .int .i64 t', .int .i64 v', .bool g'] T)) := by
  refine ⟨(Bc.made r b t v g w T).next (bel1 _ _), ?_⟩
  have := Bc.made r' b' t' v' g' (w.alloc (.cells #[.string r, .string b, .int .i64 t, .int .i64 v, .bool g] T)) T
  rwa [show (w.alloc (.cells #[.string r, .string b, .int .i64 t, .int .i64 v, .bool g] T)).heap.size = w.heap.size + 1 by simp] at this
set_option maxHeartbeats 1000000 in
theorem eqCell_same (r b : ByteArray) (t v : Int) (g : Bool) (w : World) :
    Calls Try.prog 55 #[.agg #[.string r, .string b, .int .i64 t, .int .i64 v, .bool g], .agg #[.string r, .string b, .int .i64 t, .int .i64 v, .bool g]] w fun e w' => e = .returned (.bool true) ∧ Below w.heap.size w w' := by
  have HB := Lib.hid (bel2 w)
  have HX := Lib.hid (Bc.two r b t v g r b t v g w)
  have q1 : (v == v) = true := by simp
  have q2 : (g == g) = true := by simp
  go_enter Try.func55, Try.ntmps55
  go_wp2_with fail
  refine (eqKey_same r b t _).mono ?_; rintro e w1 ⟨rfl, b1⟩
  have B1 := Lib.hid (bel_tr (HB.out _ _) b1 (Nat.le_refl _))
  obtain ⟨-, -, -, x3, x4, -⟩ := (HX.out _).1.next b1
  obtain ⟨-, -, -, y3, y4, -⟩ := (HX.out _).2.next b1
  clear b1
  go_wp2_with fail
  go_ret
  exact ⟨rfl, B1.out⟩
end Go.Proofs.Ytopcjiaakefmeaa.Cl
