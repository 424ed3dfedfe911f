/-
  Contracts of impl.cellAt: the closure that sort.Search asks, sort.Search over it, and cellAt: the number of cells ahead of the key, and whether it is there. (Made by gen_ch.py.)
-/
import Derived.Test.YtkkpokfekbdigaaCe
import Derived.Deep.QuietTactic
import Derived.BigQuiet
namespace Go.Proofs.Ytkkpokfekbdigaa.Cl
open Go.RowKit Wd Rp Kp
set_option linter.unusedVariables false
/-- Block bl holds the slice, block bk the key. -/
def Two (bl bk : Nat) (a : Option Addr) (n cap : Nat) (K : Cel) (w : World) : Prop := w.cell? ⟨bl, 0, none⟩ = some (.slice a n cap) ∧ w.cell? ⟨bk, 0, none⟩ = some (.string K.r) ∧ w.cell? ⟨bk, 1, none⟩ = some (.string K.b) ∧ w.cell? ⟨bk, 2, none⟩ = some (.int .i64 K.t) ∧ bl < w.heap.size ∧ bk < w.heap.size
theorem Two.next {bl bk : Nat} {a : Option Addr} {n cap : Nat} {K : Cel} {w w' : World} (h : Two bl bk a n cap K w) (hb : Below w.heap.size w w') : Two bl bk a n cap K w' := by
  obtain ⟨h0, h1, h2, h3, h4, h5⟩ := h
  exact ⟨cob hb (Below.refl _ _) h4 h0, cob hb (Below.refl _ _) h5 h1, cob hb (Below.refl _ _) h5 h2, cob hb (Below.refl _ _) h5 h3, Nat.lt_of_lt_of_le h4 hb.size, Nat.lt_of_lt_of_le h5 hb.size⟩
theorem Two.made (w : World) (a : Option Addr) (n cap : Nat) (K : Cel) (S T : Nat) : Two w.heap.size (w.heap.size + 1) a n cap K ((w.alloc (.cells #[.slice a n cap] S)).alloc (.cells #[.string K.r, .string K.b, .int .i64 K.t] T)) := by
  have h1 : ((w.alloc (.cells #[.slice a n cap] S)).alloc (.cells #[.string K.r, .string K.b, .int .i64 K.t] T)).heap[w.heap.size]? = some (.cells #[.slice a n cap] S) := by
    show ((w.heap.push _).push _)[w.heap.size]? = _
    rw [Array.getElem?_push, if_neg (by simp), Array.getElem?_push, if_pos rfl]
  have h2 : ((w.alloc (.cells #[.slice a n cap] S)).alloc (.cells #[.string K.r, .string K.b, .int .i64 K.t] T)).heap[w.heap.size + 1]? = some (.cells #[.string K.r, .string K.b, .int .i64 K.t] T) := by
    show ((w.heap.push _).push _)[w.heap.size + 1]? = _
    rw [Array.getElem?_push, if_pos (by simp)]
  refine ⟨?_, ?_, ?_, ?_, by simp; omega, by simp⟩ <;> (first | (simp only [World.cell?, h1]; rfl) | (simp only [World.cell?, h2]; rfl))
set_option maxHeartbeats 2000000 in
theorem closure_any (w : World) (bl bk : Nat) (a : Option Addr) (cap : Nat) (l : List Cel) (K c : Cel) (k : Nat) (n : Nat) (hn : l.length = n) (h2 : Two bl bk a n cap K w) (hv : Vw w a cap l) (hl : n ≤ 4194304) (hc : l[k]? = some c) :
    Calls Try.prog 102 #[.int .i64 (k : Int), .pointer (some ⟨bl, 0, none⟩), .pointer (some ⟨bk, 0, none⟩)] w fun e w' => e = .returned (.bool (!c.le K)) ∧ Below w.heap.size w w' := by
  obtain ⟨g, o, rfl, hg, h5⟩ := hv.2.2.2 k c hc
  have hkl := (List.getElem?_eq_some_iff.1 hc).1
  obtain ⟨t0, t1, t2, t3, hbl, hbk⟩ := h2
  obtain ⟨c0, c1, c2, c3, c4⟩ := h5
  have i1 : (k : Int) < (n : Int) := by omega
  have i2 : (0 : Int) ≤ (k : Int) := by omega
  have HL := Lib.hid (fun w => keyLess_is (c := c) (d := K) rfl w)
  have HS := Lib.hid (show w.drew.cell? ⟨bl, 0, none⟩ = some (.slice (some ⟨g, o, none⟩) n cap) ∧ w.drew.cell? ⟨g, o + k * 5, none⟩ = some (.string c.r) ∧ w.drew.cell? ⟨g, o + k * 5 + 1, none⟩ = some (.string c.b) ∧ w.drew.cell? ⟨g, o + k * 5 + 2, none⟩ = some (.int .i64 c.t) ∧ w.drew.cell? ⟨bk, 0, none⟩ = some (.string K.r) ∧ w.drew.cell? ⟨bk, 1, none⟩ = some (.string K.b) ∧ w.drew.cell? ⟨bk, 2, none⟩ = some (.int .i64 K.t) ∧ Below w.heap.size w w.drew from ⟨t0, c0, c1, c2, t1, t2, t3, (Below.refl _ _).drew⟩)
  clear t0 t1 t2 t3 c0 c1 c2 c3 c4 hv hc
  go_enter Try.func102, Try.ntmps102
  go_wp2_with fail
  refine wp_region_held_drew (S := fun z => z.cell? ⟨bl, 0, none⟩ = some (.slice (some ⟨g, o, none⟩) n cap) ∧ z.cell? ⟨g, o + k * 5, none⟩ = some (.string c.r) ∧ z.cell? ⟨g, o + k * 5 + 1, none⟩ = some (.string c.b) ∧ z.cell? ⟨g, o + k * 5 + 2, none⟩ = some (.int .i64 c.t) ∧ z.cell? ⟨bk, 0, none⟩ = some (.string K.r) ∧ z.cell? ⟨bk, 1, none⟩ = some (.string K.b) ∧ z.cell? ⟨bk, 2, none⟩ = some (.int .i64 K.t) ∧ Below w.heap.size w z) (by kernel_rfl) HS.out (fun hHeld => ?_)
  refine wpAnyH_take (i := 0) (v := ?v0a) rfl (by kernel_rfl) (by kernel_rfl) (by kernel_rfl) (fun _ _ _ h => h) (Or.inl ⟨by rfl, ?hy0a⟩) (by assumption) ?rest0a
  case hy0a => (intro zz hSw; (try dsimp only at hSw); go_simp; (try with_reducible rfl))
  change wpAnyH _ _ _ _ _ _ _ (Act.put _ (some 5) _) _
  simp only [Act.put, List.setIfInBounds_toArray, List.set_cons_zero, List.set_cons_succ]
  refine wpAnyH_take (i := 1) (v := ?v1a) rfl (by kernel_rfl) (by kernel_rfl) (by kernel_rfl) (fun _ _ _ h => h) (Or.inl ⟨by rfl, ?hy1a⟩) (by assumption) ?rest1a
  case hy1a => (intro zz hSw; (try dsimp only at hSw); go_simp; (try with_reducible rfl))
  change wpAnyH _ _ _ _ _ _ _ (Act.put _ (some 6) _) _
  simp only [Act.put, List.setIfInBounds_toArray, List.set_cons_zero, List.set_cons_succ]
  refine wpAnyH_take (i := 2) (v := ?v2a) rfl (by kernel_rfl) (by kernel_rfl) (by kernel_rfl) (fun _ _ _ h => h) (Or.inl ⟨by rfl, ?hy2a⟩) (by assumption) ?rest2a
  case hy2a => (intro zz hSw; (try dsimp only at hSw); go_simp; (try with_reducible rfl))
  change wpAnyH _ _ _ _ _ _ _ (Act.put _ (some 7) _) _
  simp only [Act.put, List.setIfInBounds_toArray, List.set_cons_zero, List.set_cons_succ]
  refine wpAnyH_take (i := 3) (v := ?v3a) rfl (by kernel_rfl) (by kernel_rfl) (by kernel_rfl) (fun _ _ _ h => h) (Or.inl ⟨by rfl, ?hy3a⟩) (by assumption) ?rest3a
  case hy3a => (intro zz hSw; (try dsimp only at hSw); go_simp; (try with_reducible rfl))
  change wpAnyH _ _ _ _ _ _ _ (Act.put _ (some 8) _) _
  simp only [Act.put, List.setIfInBounds_toArray, List.set_cons_zero, List.set_cons_succ]
  refine wpAnyH_take (i := 4) (v := ?v4a) rfl (by kernel_rfl) (by kernel_rfl) (by kernel_rfl) (fun _ _ _ h => h) (Or.inl ⟨by rfl, ?hy4a⟩) (by assumption) ?rest4a
  case hy4a => (intro zz hSw; (try dsimp only at hSw); go_simp; (try with_reducible rfl))
  change wpAnyH _ _ _ _ _ _ _ (Act.put _ (some 9) _) _
  simp only [Act.put, List.setIfInBounds_toArray, List.set_cons_zero, List.set_cons_succ]
  refine wpAnyH_take (i := 5) (v := ?v5a) rfl (by kernel_rfl) (by kernel_rfl) (by kernel_rfl) (fun _ _ _ h => h) (Or.inl ⟨by rfl, ?hy5a⟩) (by assumption) ?rest5a
  case hy5a => (intro zz hSw; (try dsimp only at hSw); go_simp; (try with_reducible rfl))
  change wpAnyH _ _ _ _ _ _ _ (Act.put _ (some 10) _) _
  simp only [Act.put, List.setIfInBounds_toArray, List.set_cons_zero, List.set_cons_succ]
  refine wpAnyH_ready (rs := [6]) (by kernel_rfl) (by simp) (AllReadyH.cons rfl (fun K hK => ?_) AllReadyH.nil)
  go_simp
  refine (HL.out _).mono ?_; rintro e w' ⟨rfl, bel⟩
  refine hK.out _ _ (⟨cob bel hHeld.2.2.2.2.2.2.2 hbl hHeld.1, cob bel hHeld.2.2.2.2.2.2.2 hg hHeld.2.1, cob bel hHeld.2.2.2.2.2.2.2 hg hHeld.2.2.1, cob bel hHeld.2.2.2.2.2.2.2 hg hHeld.2.2.2.1, cob bel hHeld.2.2.2.2.2.2.2 hbk hHeld.2.2.2.2.1, cob bel hHeld.2.2.2.2.2.2.2 hbk hHeld.2.2.2.2.2.1, cob bel hHeld.2.2.2.2.2.2.2 hbk hHeld.2.2.2.2.2.2.1, bel_tr hHeld.2.2.2.2.2.2.2 bel (Nat.le_refl _)⟩) (fun hHeld => ?_)
  clear hK K bel
  refine wpAnyH_take (i := 7) (v := ?v7a) rfl (by kernel_rfl) (by kernel_rfl) (by kernel_rfl) (fun _ _ _ h => h) (Or.inl ⟨by rfl, ?hy7a⟩) (by assumption) ?rest7a
  case hy7a => (intro zz hSw; (try dsimp only at hSw); go_simp; (try with_reducible rfl))
  change wpAnyH _ _ _ _ _ _ _ (Act.put _ (some 12) _) _
  simp only [Act.put, List.setIfInBounds_toArray, List.set_cons_zero, List.set_cons_succ]
  refine wpAnyH_take (i := 8) (v := ?v8a) rfl (by kernel_rfl) (by kernel_rfl) (by kernel_rfl) (fun _ _ _ h => h) (Or.inl ⟨by rfl, ?hy8a⟩) (by assumption) ?rest8a
  case hy8a => (intro zz hSw; (try dsimp only at hSw); go_simp; (try with_reducible rfl))
  change wpAnyH _ _ _ _ _ _ _ (Act.put _ (some 4) _) _
  simp only [Act.put, List.setIfInBounds_toArray, List.set_cons_zero, List.set_cons_succ]
  refine wpAnyH_done (by kernel_rfl) ?_ _
  have HG := Lib.hid hHeld.2.2.2.2.2.2.2; clear hHeld HS
  go_wp2_with fail
  go_ret
  exact ⟨rfl, HG.out⟩
set_option maxHeartbeats 4000000 in
theorem search_any (w : World) (bl bk : Nat) (a : Option Addr) (cap : Nat) (l : List Cel) (K : Cel) (n : Nat) (hn : l.length = n) (h2 : Two bl bk a n cap K w) (hv : Vw w a cap l) (hl : n ≤ 4194304) (hok : okL l = true) :
    Calls Try.prog 101 #[.int .i64 (n : Int), .func (.func 102) #[] #[.pointer (some ⟨bl, 0, none⟩), .pointer (some ⟨bk, 0, none⟩)]] w fun e w' => e = .returned (.int .i64 (cnt l K : Nat)) ∧ Below w.heap.size w w' := by
  have HT := Lib.hid h2; clear h2
  have HV := Lib.hid hv; clear hv
  have HK := Lib.hid hok; clear hok
  go_enter Try.func101, Try.ntmps101
  go_wp2_with fail
  go_loopw [5, 6, 7] (fun x y _ wr => ∃ i j : Nat, x = .int .i64 i ∧ y = .int .i64 j ∧ i ≤ j ∧ j ≤ n ∧ (∀ m c, m < i → l[m]? = some c → c.le K = true) ∧ (∀ m c, j ≤ m → l[m]? = some c → c.le K = false) ∧ Below w.heap.size w wr) (fun x y _ _ => intV y - intV x)
  case atStart => exact ⟨0, n, rfl, rfl, Nat.zero_le _, Nat.le_refl _, (fun m c hm => by omega), (fun m c hm hc => by have := (List.getElem?_eq_some_iff.1 hc).1; omega), Below.refl _ _⟩
  case round =>
    obtain ⟨i, j, rfl, rfl, hij, hjn, hlo, hhi, hbel⟩ := hrel
    have HB := Lib.hid hbel; clear hbel
    have HLO := Lib.hid hlo; clear hlo
    have HHI := Lib.hid hhi; clear hhi
    by_cases hlt : i < j
    · have hh : (i + j) / 2 < n := by omega
      obtain ⟨c, hc⟩ : ∃ c, l[(i + j) / 2]? = some c := ⟨l[(i + j) / 2], List.getElem?_eq_getElem (by omega)⟩
      have hcl := closure_any wr bl bk a cap l K c ((i + j) / 2) n hn (HT.out.next HB.out) (HV.out.below HB.out) hl hc
      rw [show (((i + j) / 2 : Nat) : Int) = ((i : Int) + (j : Int)) / 2 by omega] at hcl
      cases hle : c.le K
      · rw [hle] at hcl
        have HC := Lib.hid hcl; clear hcl
        have HHI2 := Lib.hid (show ∀ m d, (i + j) / 2 ≤ m → l[m]? = some d → d.le K = false from fun m d hm hd => by
          cases hx : d.le K with
          | false => rfl
          | true =>
            by_cases em : (i + j) / 2 = m
            · subst em; rw [hc] at hd; cases hd; rw [hle] at hx; cases hx
            · rw [le_mono HK.out (by omega) hc hd hx] at hle; cases hle)
        clear hc hle
        go_wp2_with fail
        refine HC.out.mono ?_; rintro e w1 ⟨rfl, b1⟩
        have B1 := Lib.hid (bel_tr HB.out b1 (Nat.le_refl _)); clear b1 HC
        go_wp2_with fail
        go_roundw
        case rel => exact ⟨i, (i + j) / 2, rfl, by go_num, by omega, by omega, HLO.out, HHI2.out, B1.out⟩
        case measure => simp [intV]; omega
      · rw [hle] at hcl
        have HC := Lib.hid hcl; clear hcl
        have HLO2 := Lib.hid (show ∀ m d, m < (i + j) / 2 + 1 → l[m]? = some d → d.le K = true from fun m d hm hd => by
          by_cases em : m = (i + j) / 2
          · subst em; rw [hc] at hd; cases hd; exact hle
          · exact le_mono HK.out (by omega) hd hc hle)
        clear hc hle
        go_wp2_with fail
        refine HC.out.mono ?_; rintro e w1 ⟨rfl, b1⟩
        have B1 := Lib.hid (bel_tr HB.out b1 (Nat.le_refl _)); clear b1 HC
        go_wp2_with fail
        go_roundw
        case rel => exact ⟨(i + j) / 2 + 1, j, by go_num, rfl, by omega, by omega, HLO2.out, HHI.out, B1.out⟩
        case measure => simp [intV]; omega
    · obtain rfl : i = j := by omega
      have HE := Lib.hid (show cnt l K = i from cntP_eq (by omega) HLO.out (fun c hc => HHI.out i c (Nat.le_refl _) hc))
      go_wp2_with fail
      go_ret
      exact ⟨by rw [HE.out]; rfl, HB.out⟩
theorem keyEq_of {c K : Cel} {x : Bool} (h : c.ke K = x) (w : World) : (Op.equalIn 10000 26 (.agg #[.string c.r, .string c.b, .int .i64 c.t]) (.agg #[.string K.r, .string K.b, .int .i64 K.t])).run Try.prog w = .ok x w := by
  rw [keyEq]; exact congrArg (fun y => Result.ok y w) h
set_option maxHeartbeats 4000000 in
theorem cellAt_any (w : World) (a : Option Addr) (cap : Nat) (l : List Cel) (K : Cel) (hv : Vw w a cap l) (hl : l.length ≤ 4194304) (hok : okL l = true) :
    Calls Try.prog 61 #[.slice a l.length cap, .agg #[.string K.r, .string K.b, .int .i64 K.t]] w fun e w' => e = .returned (.tuple #[.int .i64 (cnt l K : Nat), .bool (there l (cnt l K) K)]) ∧ Below w.heap.size w w' := by
  have hmf : ∀ (fn : Fn) (first cap : Array Value) (w : World), (Instr.makeFunc fn first cap).run Try.prog w = .ok (.func fn first cap) w := fun _ _ _ _ => rfl
  have HV := Lib.hid hv; clear hv
  have HK := Lib.hid hok; clear hok
  generalize hn : l.length = n at *
  have hcn : cnt l K ≤ n := by rw [← hn]; exact (cntP_spec _ l).1
  have HTW := Lib.hid (Two.made w a n cap K)
  have HB2 := Lib.hid (bel2 w (.cells #[.slice a n cap] 24) (.cells #[.string K.r, .string K.b, .int .i64 K.t] 26))
  go_enter Try.func61, Try.ntmps61
  go_wp2_with fail
  refine (search_any _ _ _ a cap l K n hn (HTW.out _ _) (HV.out.below HB2.out) hl HK.out).mono ?_; rintro e w1 ⟨rfl, b1⟩
  obtain ⟨t0, t1, t2, t3, -, -⟩ := (HTW.out _ _).next b1
  have hv1 := (HV.out.below HB2.out).below b1
  have B1 := Lib.hid (bel_tr HB2.out b1 (Nat.le_refl _)); clear b1 HV
  generalize hm : cnt l K = m at *
  by_cases hlt : m < n
  · obtain ⟨c, hc⟩ : ∃ c, l[m]? = some c := ⟨l[m], List.getElem?_eq_getElem (by omega)⟩
    obtain ⟨g, o, rfl, hg, c0, c1, c2, -, -⟩ := hv1.2.2.2 m c hc
    have hth : there l m K = c.ke K := by unfold there; rw [hc]
    have HTH := Lib.hid hth; clear hth hc hv1
    have hlt1 : (m : Int) < (n : Int) := by omega
    have hdec : decide ((m : Int) < (n : Int)) = true := decide_eq_true hlt1
    have heq := keyEq_of (c := c) (K := K) rfl
    go_wp2_with fail
    go_quiet (fail)
    go_wp2_with fail
    refine bodyPost_ret (v := .tuple #[.int .i64 (m : Int), .bool (c.ke K)]) (by simp [results, Try.results61, go_sem]) rfl ⟨by rw [hm, HTH.out], bel_drewN B1.out _⟩
  · have hth : there l m K = false := by unfold there; rw [List.getElem?_eq_none (by omega)]
    have HTH := Lib.hid hth; clear hth hv1
    have hdec : decide ((m : Int) < (n : Int)) = false := decide_eq_false (by omega)
    go_wp2_with fail
    go_quiet (fail)
    go_wp2_with fail
    refine bodyPost_ret (v := .tuple #[.int .i64 (m : Int), .bool false]) (by simp [results, Try.results61, go_sem]) rfl ⟨by rw [hm, HTH.out], bel_drewN B1.out _⟩
end Go.Proofs.Ytkkpokfekbdigaa.Cl
