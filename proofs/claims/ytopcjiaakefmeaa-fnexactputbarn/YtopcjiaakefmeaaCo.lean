/-
  laws.markCellS marks each place of a slice of cells of a call's own, and turns nothing else.
-/
import Derived.Test.YtopcjiaakefmeaaCi
import Derived.Test.YtopcjiaakefmeaaMt
namespace Go.Proofs.Ytopcjiaakefmeaa.Cl
open Go.RowKit Wd Rp Kp
set_option linter.unusedVariables false
theorem set_same {l : List Value} {i : Nat} {v : Value} (h : l[i]? = some v) : l.set i v = l := by
  apply List.ext_getElem?
  intro j
  by_cases e : i = j
  · subst e; rw [List.getElem?_set_self (List.getElem?_eq_some_iff.1 h).1, h]
  · rw [List.getElem?_set_ne e]
theorem flat_set0 (l : List Cel) (k : Nat) (d : Cel) (hd : l[k]? = some d) (x : ByteArray) : (flat l).set (k * 5) (.string x) = flat (l.set k ⟨x, d.b, d.t, d.v, d.g⟩) := by
  rw [← flat_set l k ⟨x, d.b, d.t, d.v, d.g⟩ (List.getElem?_eq_some_iff.1 hd).1]
  have h1 : ((flat l).set (k * 5) (.string x))[k * 5 + 1]? = some (.string d.b) := by rw [List.getElem?_set_ne (by omega)]; exact flat_get l k 1 d hd (by decide)
  have h2 : ((flat l).set (k * 5) (.string x))[k * 5 + 2]? = some (.int .i64 d.t) := by rw [List.getElem?_set_ne (by omega)]; exact flat_get l k 2 d hd (by decide)
  have h3 : ((flat l).set (k * 5) (.string x))[k * 5 + 3]? = some (.int .i64 d.v) := by rw [List.getElem?_set_ne (by omega)]; exact flat_get l k 3 d hd (by decide)
  have h4 : ((flat l).set (k * 5) (.string x))[k * 5 + 4]? = some (.bool d.g) := by rw [List.getElem?_set_ne (by omega)]; exact flat_get l k 4 d hd (by decide)
  rw [set_same h1, set_same h2, set_same h3, set_same h4]
theorem OwC.set0 {B : Nat} {w : World} {g n cap : Nat} {l : List Cel} (h : OwC B w (.slice (some ⟨g, 0, none⟩) n cap) l) (hn : n = l.length) (k : Nat) (d : Cel) (hd : l[k]? = some d) (x : ByteArray) :
    OwC B (w.setCell ⟨g, k * 5, none⟩ (.string x)) (.slice (some ⟨g, 0, none⟩) n cap) (l.set k ⟨x, d.b, d.t, d.v, d.g⟩) := by
  subst hn
  unfold OwC
  rw [List.length_set, ← flat_set0 l k d hd]
  exact (World.ownsRow.stored h (k * 5) (.string x)).1
theorem OwC.set4 {B : Nat} {w : World} {g n cap : Nat} {l : List Cel} (h : OwC B w (.slice (some ⟨g, 0, none⟩) n cap) l) (hn : n = l.length) (k : Nat) (c : Cel) (d : Cel) (hd : l[k]? = some d) (hc : c.r = d.r) :
    OwC B ((((w.setCell ⟨g, k * 5 + 1, none⟩ (.string c.b)).setCell ⟨g, k * 5 + 2, none⟩ (.int .i64 c.t)).setCell ⟨g, k * 5 + 3, none⟩ (.int .i64 c.v)).setCell ⟨g, k * 5 + 4, none⟩ (.bool c.g)) (.slice (some ⟨g, 0, none⟩) n cap) (l.set k c) := by
  subst hn
  have h1 := (World.ownsRow.stored h (k * 5 + 1) (.string c.b)).1
  have h2 := (World.ownsRow.stored h1 (k * 5 + 2) (.int .i64 c.t)).1
  have h3 := (World.ownsRow.stored h2 (k * 5 + 3) (.int .i64 c.v)).1
  have h4 := (World.ownsRow.stored h3 (k * 5 + 4) (.bool c.g)).1
  unfold OwC
  have e0 : (flat l).set (k * 5) (.string c.r) = flat l := set_same (by rw [hc]; exact flat_get l k 0 d hd (by decide))
  rw [List.length_set, ← flat_set l k c (List.getElem?_eq_some_iff.1 hd).1, e0]; exact h4
theorem grown_of {w w' : World} {row : Option Nat} (h : Below w.heap.size w w') : w.grownBy w' row := ⟨h.os, h.tape, h.output, h.size, fun k hk _ => h.block k hk⟩
theorem grown_set {w : World} {g o : Nat} {v : Value} : w.grownBy (w.setCell ⟨g, o, none⟩ v) (some g) := ⟨rfl, rfl, rfl, by simp [World.setCell], fun k _ hk => Below.heap_setCell _ _ _ _ (fun e => hk (by rw [e]))⟩
/-- The mark of the k-th cell. -/
def mkC (s k : Nat) : Cel := ⟨tx (mtx (s + 5 * k)), tx (mtx (s + 5 * k + 1)), ((s + 5 * k : Nat) : Int) + 1 + 1, ((s + 5 * k : Nat) : Int) + 1 + 1 + 1, (((s + 5 * k : Nat) : Int) + 1 + 1 + 1 + 1) % 3 == 0⟩
def MkdC (s : Nat) (m : List Cel) : Prop := ∀ j, j < m.length → m[j]? = some (mkC s j)
theorem five_frozen {w : World} {g : Nat} (h : ∀ j, w.frozen? ⟨g, j, none⟩ = false) (k : Nat) : w.frozen? ⟨g, k * 5, none⟩ = false ∧ w.frozen? ⟨g, k * 5 + 1, none⟩ = false ∧ w.frozen? ⟨g, k * 5 + 2, none⟩ = false ∧ w.frozen? ⟨g, k * 5 + 3, none⟩ = false ∧ w.frozen? ⟨g, k * 5 + 4, none⟩ = false := ⟨h _, h _, h _, h _, h _⟩
theorem OwC.at {B : Nat} {w : World} {g n cap : Nat} {l : List Cel} (h : OwC B w (.slice (some ⟨g, 0, none⟩) n cap) l) {k : Nat} {d : Cel} (hd : l[k]? = some d) :
    At5 w g (k * 5) d ∧ (w.frozen? ⟨g, k * 5, none⟩ = false ∧ w.frozen? ⟨g, k * 5 + 1, none⟩ = false ∧ w.frozen? ⟨g, k * 5 + 2, none⟩ = false ∧ w.frozen? ⟨g, k * 5 + 3, none⟩ = false ∧ w.frozen? ⟨g, k * 5 + 4, none⟩ = false) ∧ B ≤ g ∧ g < w.heap.size := by
  obtain ⟨a, cap', e, hv, hf⟩ := h.view
  obtain ⟨g2, e2, hB, hfr⟩ := hf k (List.getElem?_eq_some_iff.1 hd).1
  obtain ⟨g3, o3, e3, hlt, h5⟩ := hv.2.2.2 k d hd
  cases e
  cases e2
  cases e3
  rw [Nat.zero_add] at h5
  exact ⟨h5, five_frozen hfr k, hB, hlt⟩
theorem markText_next (n : Nat) (w : World) (hn : n ≤ 9223372036854775806) : Calls Try.prog 95 #[.int .i64 ((n : Int) + 1)] w fun e w' => e = .returned (.string (tx (mtx (n + 1)))) ∧ Below w.heap.size w w' := by
  have := markText_any (n + 1) w (by omega) (by omega)
  rwa [show ((n + 1 : Nat) : Int) = (n : Int) + 1 by omega] at this
set_option maxRecDepth 100000 in
set_option maxHeartbeats 4000000 in
theorem markC_any {B : Nat} {v : Value} {l : List Cel} (w : World) (hv : OwC B w v l) (hl : l.length ≤ 4194304) (s : Nat) (hs1 : 1 ≤ s) (hs2 : s ≤ 9000000) :
    Calls Try.prog 46 #[v, .int .i64 (s : Int)] w fun e w' => e = .returned (.int .i64 ((s + 5 * l.length : Nat) : Int)) ∧ w.grownBy w' v.ownBlock ∧ ∃ m, m.length = l.length ∧ MkdC s m ∧ OwC B w' v m := by
  obtain ⟨a, ca, rfl, -, ha⟩ := hv.view
  have HA := Lib.hid ha; clear ha
  have HO := Lib.hid hv; clear hv
  generalize hn : l.length = n at *
  go_enter Try.func46, Try.ntmps46
  go_wp2
  go_loopw [1, 5] (fun q i wr => ∃ (k : Nat) (m : List Cel), k ≤ n ∧ i = .int .i64 k ∧ q = .int .i64 ((s + 5 * k : Nat) : Int) ∧ w.grownBy wr (Value.slice a n ca).ownBlock ∧ m.length = n ∧ (∀ j, j < k → m[j]? = some (mkC s j)) ∧ OwC B wr (.slice a n ca) m) (fun _ i _ => n - intV i)
  case atStart => exact ⟨0, l, Nat.zero_le _, rfl, rfl, World.grownBy.refl _ _, hn, fun j hj => by omega, HO.out⟩
  case round =>
    obtain ⟨k, m, hk, rfl, rfl, hgr, hm, hmk, hown⟩ := hrel
    have HG := Lib.hid hgr; clear hgr
    have HM := Lib.hid hmk; clear hmk
    have HW := Lib.hid hown; clear hown HO
    by_cases hlt : k < n
    · obtain ⟨g, rfl, -, -⟩ := HA.out k (by omega)
      obtain ⟨d, hd⟩ : ∃ d, m[k]? = some d := ⟨m[k], List.getElem?_eq_getElem (by omega)⟩
      have HD := Lib.hid hd; clear hd
      have HT := Lib.hid (fun w => markText_any (s + 5 * k) w (by omega) (by omega))
      have HT2 := Lib.hid (fun w => markText_next (s + 5 * k) w (by omega))
      have HC := Lib.hid (show mkC s k = ⟨tx (mtx (s + 5 * k)), tx (mtx (s + 5 * k + 1)), ((s + 5 * k : Nat) : Int) + 1 + 1, ((s + 5 * k : Nat) : Int) + 1 + 1 + 1, (((s + 5 * k : Nat) : Int) + 1 + 1 + 1 + 1) % 3 == 0⟩ from rfl)
      generalize hq : s + 5 * k = q at *
      generalize tx (mtx q) = s0 at HT HC
      generalize tx (mtx (q + 1)) = s1 at HT2 HC
      go_wp2_with fail
      refine (HT.out _).mono ?_; rintro e w1 ⟨rfl, b1⟩
      have HG1 := Lib.hid (HG.out.trans (grown_of b1))
      have HW1 := Lib.hid (HW.out.next b1); clear b1
      obtain ⟨⟨c0, c1, c2, c3, c4⟩, ⟨f0, f1, f2, f3, f4⟩, -, -⟩ := HW1.out.at HD.out
      have hq2 : (q : Int) ≤ 30000000 := by omega
      have hq3 : (0 : Int) ≤ (q : Int) := by omega
      go_wp2_with fail
      refine (HT2.out _).mono ?_; rintro e w2 ⟨rfl, b2⟩
      have HG2 := Lib.hid ((HG1.out.trans grown_set).trans (grown_of b2))
      have hd1 : (m.set k ⟨s0, d.b, d.t, d.v, d.g⟩)[k]? = some ⟨s0, d.b, d.t, d.v, d.g⟩ := List.getElem?_set_self (by omega)
      have HW2 := Lib.hid ((HW1.out.set0 (by rw [hm]) k d HD.out s0).next b2); clear b2 c0 c1 c2 c3 c4 f0 f1 f2 f3 f4
      obtain ⟨⟨c0, c1, c2, c3, c4⟩, ⟨f0, f1, f2, f3, f4⟩, -, -⟩ := HW2.out.at hd1
      have HD1 := Lib.hid hd1; clear hd1
      go_wp2_with fail
      go_roundw
      case rel =>
        refine ⟨k + 1, (m.set k ⟨s0, d.b, d.t, d.v, d.g⟩).set k (mkC s k), by omega, by go_num, ?_, ((((HG2.out.trans grown_set).trans grown_set).trans grown_set).trans grown_set), by rw [List.length_set, List.length_set, hm], fun j hj => ?_, ?_⟩
        · congr 1; omega
        · by_cases hjk : j = k
          · subst hjk; rw [List.getElem?_set_self (by rw [List.length_set]; omega)]
          · rw [List.getElem?_set_ne (by omega), List.getElem?_set_ne (by omega)]; exact HM.out j (by omega)
        · rw [HC.out]
          exact HW2.out.set4 (by rw [List.length_set, hm]) k ⟨s0, s1, (q : Int) + 1 + 1, (q : Int) + 1 + 1 + 1, ((q : Int) + 1 + 1 + 1 + 1) % 3 == 0⟩ _ HD1.out rfl
      case measure => simp [intV]; omega
    · obtain rfl : k = n := by omega
      go_wp2_with fail
      go_ret
      exact ⟨rfl, HG.out, m, hm, fun j hj => HM.out j (by omega), HW.out⟩
end Go.Proofs.Ytopcjiaakefmeaa.Cl
