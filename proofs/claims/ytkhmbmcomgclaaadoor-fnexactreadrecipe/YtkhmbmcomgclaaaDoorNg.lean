/-
  What is read of a list: contracts of impl.deedsOf, DeedEnd, RecipeOk.
-/
import Derived.Test.YtkhmbmcomgclaaaDoorNf
namespace Go.Proofs.YtkhmbmcomgclaaaDoor.Cl
open Go.RowKit Wd Rp Cu Kp
set_option linter.unusedVariables false
theorem Rd.new {w : World} {a : Option Addr} {cap n : Nat} {l : List Tk} {T : TypeId} (hn : l.length = n) (hb : Bd l) (hv : V1 w a cap (txL l)) : Rd w w.heap.size l 0 false (w.alloc (.cells #[.slice a n cap, .int .i64 0, .bool false] T)) := by
  have e := new_of w (.cells #[.slice a n cap, .int .i64 0, .bool false] T)
  exact ⟨bel1 _ _, Nat.le_refl _, by rw [World.size_alloc]; omega, hb, ⟨a, cap, by rw [hn]; simp only [World.cell?, e]; rfl, hv⟩, by simp only [World.cell?, e]; rfl, by simp only [World.cell?, e]; rfl,
    by simp only [World.frozen?, e]; rfl, by simp only [World.frozen?, e]; rfl, by simp only [World.frozen?, e]; rfl⟩
/-- What reading leaves of the reader's block. -/
theorem Sx.cases {w0 z : World} {p : Nat} {l : List Tk} {o x : Int} (h : Sx w0 p l o x z) : (x = -1 ∧ z.cell? ⟨p, 2, none⟩ = some (.bool true)) ∨ (0 ≤ x ∧ x ≤ l.length ∧ z.cell? ⟨p, 2, none⟩ = some (.bool false) ∧ ∃ a cap, z.cell? ⟨p, 0, none⟩ = some (.slice a (l.length - x.toNat) cap)) := by
  rcases h with ⟨e, lf, r⟩ | ⟨e, h0, h1, r⟩
  · exact Or.inl ⟨e, r.c2⟩
  · obtain ⟨a, cap, c0, -⟩ := r.vw
    rw [List.length_drop] at c0
    exact Or.inr ⟨h0, h1, r.c2, a, cap, c0⟩
set_option maxHeartbeats 4000000 in
set_option maxRecDepth 100000 in
theorem deedsOf_any (w : World) (a : Option Addr) (cap : Nat) (l : List Tk) (n : Nat) (hn : l.length = n) (hv : V1 w a cap (txL l)) (hl : n ≤ 4194304) (hm : ∀ s ∈ l, s.length ≤ 4194304) (hL : Lib3 w) :
    Calls Tryd.prog 25 #[.slice a n cap] w fun e w' => ∃ b m c, e = .returned (.tuple #[.slice b m c, .bool (rcB l)]) ∧ Below w.heap.size w w' ∧ (rcB l = true → DM w (w.heap.size ≤ ·) w' 6 (.slice b m c) (rcR l)) := by
  have HR := Lib.hid (rcB_dl l)
  by_cases h120 : l.length ≤ 120
  · rw [decide_eq_true h120, Bool.true_and] at HR
    have y0 : decide ((120 : Int) < (n : Int)) = false := by simp; omega
    have y1 : ¬ (120 : Int) < (n : Int) := by omega
    have y2 : decide (120 < n) = false := by simp; omega
    have hrd := Rd.new (T := 36) hn ⟨by omega, hm⟩ hv
    have HBL := Lib.hid (bel1 w (.cells #[.slice a n cap, .int .i64 0, .bool false] 36))
    have hz : (w.alloc (.cells #[.slice a n cap, .int .i64 0, .bool false] 36)).heap.size = w.heap.size + 1 := World.size_alloc _ _
    have HD := Lib.hid (deeds_top (p := w.heap.size) hL (by omega) 0 _ (Or.inr ⟨by decide, by decide, by omega, hrd⟩))
    have HF := Lib.hid (show rcR l = dlR l (ddE l 5) (ddR l 5) (l.length + 1) 0 from rfl)
    clear hrd hv hm
    generalize hq : w.heap.size = q at *
    obtain ⟨J, hJ⟩ : ∃ J, dlE l (ddE l 5) (l.length + 1) 0 = J := ⟨_, rfl⟩
    obtain ⟨G, hG⟩ : ∃ G, dlR l (ddE l 5) (ddR l 5) (l.length + 1) 0 = G := ⟨_, rfl⟩
    obtain ⟨rb, hrb⟩ : ∃ rb, rcB l = rb := ⟨_, rfl⟩
    rw [hJ] at HR HD
    rw [hG] at HF HD
    rw [hrb] at HR ⊢
    rw [HF.out]
    clear hJ hG hrb HF
    go_enter Tryd.func25, Tryd.ntmps25
    go_wp2_with fail
    generalize w.alloc (.cells #[.slice a n cap, .int .i64 0, .bool false] 36) = w1 at *
    refine HD.out.mono ?_; rintro e w2 ⟨b, m, c, rfl, b2, r2, m2⟩
    have B2 := Lib.hid (HBL.out.trans (b2.below (Nat.le_refl _) (by omega)))
    have M2 := Lib.hid m2
    have hk : ∀ g, w1.heap.size ≤ g → q ≤ g := fun g hg => by omega
    have HK := Lib.hid (fun (hn : J ≠ -1) => DM.keep (w' := w2) (K' := (q ≤ ·)) (Nat.le_refl _) (fun _ _ _ => rfl) (fun g h _ => hk g h) 6 _ _ (m2 hn))
    have hc := r2.cases
    clear b2 r2 m2 M2 hk HD
    rcases hc with ⟨hx, c2⟩ | ⟨h0, h1, c2, a3, cap3, c0⟩
    · go_wp2_with fail
      have hf : rb = false := by rw [HR.out, hx]; simp
      refine bodyPost_ret (v := .tuple #[.slice none 0 0, .bool false]) (by simp [results, Tryd.results25, go_sem]) rfl ⟨none, 0, 0, by rw [hf], B2.out, fun e => by rw [hf] at e; cases e⟩
    · obtain ⟨k, hkk⟩ : ∃ k, l.length - J.toNat = k := ⟨_, rfl⟩
      rw [hkk] at c0
      by_cases hk0 : k = 0
      · have t0 : decide ((0 : Int) < (k : Int)) = false := by simp; omega
        have t1 : decide (0 < k) = false := by simp; omega
        have t2 : ¬ (0 : Int) < (k : Int) := by omega
        have hrb : rb = true := by rw [HR.out]; simp; omega
        have hj : J ≠ -1 := by omega
        clear hkk
        subst hk0
        go_wp2_with fail
        refine bodyPost_ret (v := .tuple #[.slice b m c, .bool true]) (by simp [results, Tryd.results25, go_sem]) rfl ⟨b, m, c, by rw [hrb], B2.out, fun _ => HK.out hj⟩
      · have t0 : decide ((0 : Int) < (k : Int)) = true := by simp; omega
        have t1 : decide (0 < k) = true := by simp; omega
        have t2 : (0 : Int) < (k : Int) := by omega
        have hrb : rb = false := by rw [HR.out]; simp; omega
        clear hkk hk0
        go_wp2_with fail
        refine bodyPost_ret (v := .tuple #[.slice none 0 0, .bool false]) (by simp [results, Tryd.results25, go_sem]) rfl ⟨none, 0, 0, by rw [hrb], B2.out, fun e => by rw [hrb] at e; cases e⟩
  · rw [decide_eq_false h120, Bool.false_and] at HR
    have y0 : decide ((120 : Int) < (n : Int)) = true := by simp; omega
    have y1 : (120 : Int) < (n : Int) := by omega
    have y2 : decide (120 < n) = true := by simp; omega
    rw [HR.out]
    clear hv hm
    go_enter Tryd.func25, Tryd.ntmps25
    go_wp2_with fail
    refine bodyPost_ret (v := .tuple #[.slice none 0 0, .bool false]) (by simp [results, Tryd.results25, go_sem]) rfl ⟨none, 0, 0, rfl, Below.refl _ _, fun e => by cases e⟩
set_option maxHeartbeats 1000000 in
set_option maxRecDepth 100000 in
theorem implRecipeOk_any (w : World) (a : Option Addr) (cap : Nat) (l : List Tk) (n : Nat) (hn : l.length = n) (hv : V1 w a cap (txL l)) (hl : n ≤ 4194304) (hm : ∀ s ∈ l, s.length ≤ 4194304) (hL : Lib3 w) :
    Calls Tryd.prog 14 #[.slice a n cap] w (GivesB (rcB l) w) := by
  have HD := Lib.hid (deedsOf_any w a cap l n hn hv hl hm hL)
  clear hv hm hL
  generalize rcB l = r at *
  go_enter Tryd.func14, Tryd.ntmps14
  go_wp2_with fail
  refine HD.out.mono ?_; rintro e w1 ⟨b, m, c, rfl, b1, -⟩
  have B1 := Lib.hid b1
  clear b1
  go_wp2_with fail
  go_ret
  exact ⟨rfl, B1.out⟩
set_option maxHeartbeats 4000000 in
set_option maxRecDepth 100000 in
theorem implDeedEnd_any (w : World) (a : Option Addr) (cap : Nat) (l : List Tk) (n : Nat) (i : Int) (hi : I64 i) (hn : l.length = n) (hv : V1 w a cap (txL l)) (hl : n ≤ 4194304) (hm : ∀ s ∈ l, s.length ≤ 4194304) (hL : Lib3 w) :
    Calls Tryd.prog 11 #[.slice a n cap, .int .i64 i] w (GivesI (ddE l 5 i) w) := by
  by_cases h0 : i < 0
  · have hr : ddE l 5 i = -1 := by have := ddE_ahd l 5 i; unfold Ahd at this; omega
    rw [hr]
    have p0 : decide (i < 0) = true := by simpa using h0
    clear hv hm hr
    go_enter Tryd.func11, Tryd.ntmps11
    go_wp2_with fail
    go_ret
    exact ⟨rfl, Below.refl _ _⟩
  by_cases h1 : (n : Int) < i
  · have hr : ddE l 5 i = -1 := by have := ddE_ahd l 5 i; unfold Ahd at this; omega
    rw [hr]
    have p0 : decide (i < 0) = false := by simpa using h0
    have p1 : decide ((n : Int) < i) = true := by simpa using h1
    clear hv hm hr
    go_enter Tryd.func11, Tryd.ntmps11
    go_wp2_with fail
    go_ret
    exact ⟨rfl, Below.refl _ _⟩
  obtain ⟨k, rfl⟩ : ∃ k : Nat, i = k := ⟨i.toNat, by omega⟩
  have hk : k ≤ n := by omega
  have p0 : decide ((k : Int) < 0) = false := by simp
  have p1 : decide ((n : Int) < (k : Int)) = false := by simp; omega
  have p2 : decide (n < k) = false := by simp; omega
  have p3 : ¬ (n : Int) < (k : Int) := by omega
  obtain ⟨b, cb, hrun, hvv⟩ := cut1_low 22 (by kernel_rfl) (fun w => by exact Tryd.sizeOf9 w) a n cap k hk
  have hv1 : V1 w b cb (txL (l.drop k)) := by
    have := hvv w (txL l) hv (by rw [txL_len]; exact hn)
    unfold txL at this ⊢
    rw [List.map_drop]; exact this
  have hbd : Bd l := ⟨by omega, hm⟩
  have hrd := Rd.new (T := 36) (n := n - k) (by rw [List.length_drop]; omega) (hbd.drop k) hv1
  have HBL := Lib.hid (bel1 w (.cells #[.slice b (n - k) cb, .int .i64 0, .bool false] 36))
  have hz : (w.alloc (.cells #[.slice b (n - k) cb, .int .i64 0, .bool false] 36)).heap.size = w.heap.size + 1 := World.size_alloc _ _
  have HD := Lib.hid (deed_all (l := l) (p := w.heap.size) hL (by omega) 5 (by omega) (k : Int) _ (Or.inr ⟨by omega, by omega, by omega, by rw [Int.toNat_natCast]; exact hrd⟩))
  have HA := Lib.hid (ddE_ahd l 5 (k : Int))
  clear hrd hv hm hv1 hvv hbd
  generalize hq : w.heap.size = q at *
  generalize ddE l 5 (k : Int) = J at *
  go_enter Tryd.func11, Tryd.ntmps11
  go_wp2_with fail
  generalize w.alloc (.cells #[.slice b (n - k) cb, .int .i64 0, .bool false] 36) = w1 at *
  refine HD.out.mono ?_; rintro e w2 ⟨d, rfl, b2, r2, -⟩
  have B2 := Lib.hid (HBL.out.trans (b2.below (Nat.le_refl _) (by omega)))
  have hc := r2.cases
  clear b2 r2 HD
  rcases hc with ⟨hx, c2⟩ | ⟨h0', h1', c2, a3, cap3, c0⟩
  · go_wp2_with fail
    go_ret
    exact ⟨by rw [hx]; rfl, by rw [hq]; exact B2.out⟩
  · rw [hn] at c0 h1'
    have i1 : IntKind.i64.wrap ((n : Int) - ((n - J.toNat : Nat) : Int)) = J := by rw [IntKind.wrap_i64]; omega
    go_wp2_with fail
    go_ret
    exact ⟨rfl, by rw [hq]; exact B2.out⟩
end Go.Proofs.YtkhmbmcomgclaaaDoor.Cl
