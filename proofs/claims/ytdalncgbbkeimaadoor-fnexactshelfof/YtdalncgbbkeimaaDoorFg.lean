/-
  The contract of impl.frameShape: where the text of the first line begins and where the line ends, if it is digits, a blank, digits, a blank, a text and a newline; else there is no frame. The world is untouched.
-/
import Derived.Test.YtdalncgbbkeimaaDoorFf
import Derived.WalkMore
import Derived.ScopeJumps
namespace Go.Proofs.YtdalncgbbkeimaaDoor.Fq
/-- As Q; by a goto to label l: J l. -/
def jumpsTo (J : Nat → Act → World → Prop) (Q : Exit → Act → World → Prop) : Exit → Act → World → Prop
  | .goto l, a, w => J l a w
  | e, a, w => Q e a w
section
variable {P : Program} {a : Act} {w : World} {Q : Exit → Act → World → Prop}
/-- A scope with jumps to several labels: what holds at each of them, and a measure that each way from one to the next lowers. -/
theorem wp_scope_all {c : Code} (J : Nat → Act → World → Prop) (μ : Nat → Act → World → Nat)
    (first : c.wp P (jumpsTo J Q) a w)
    (pass : ∀ l a w, J l a w → ∃ rest, findLabel c l = some rest ∧ rest.wp P (jumpsTo (fun l' a' w' => J l' a' w' ∧ μ l' a' w' < μ l a w) Q) a w) : (Code.scope c).wp P Q a w := by
  intro b k cs
  have key : ∀ n l a w, μ l a w = n → J l a w → ∃ rest, findLabel c l = some rest ∧ ∃ e a' w', Q e a' w' ∧ Arrives P (lone (b.at a (.code rest :: .inScope c :: k)) cs w) b k cs e a' w' := by
    intro n
    induction n using Nat.strongRecOn with
    | _ n ih =>
      intro l a w hn hJ
      obtain ⟨rest, hf, hpass⟩ := pass l a w hJ
      refine ⟨rest, hf, ?_⟩
      obtain ⟨e, a₁, w₁, hq, harr⟩ := hpass b (.inScope c :: k) cs
      cases e with
      | normal => exact ⟨.normal, a₁, w₁, hq, Steps.trans harr (.one step_inScope)⟩
      | exit id => exact ⟨.exit id, a₁, w₁, hq, fun k' hk => harr k' (by simp [exitTo, hk])⟩
      | goto l' =>
        obtain ⟨hJ', hlt⟩ := hq
        obtain ⟨rest', hf', e₂, a₂, w₂, hq₂, harr₂⟩ := ih _ (by omega) l' a₁ w₁ rfl hJ'
        have hg : gotoIn l' (.inScope c :: k) = some (.code rest' :: .inScope c :: k) := by simp [gotoIn, hf']
        exact ⟨e₂, a₂, w₂, hq₂, .of_steps (harr _ hg) harr₂⟩
      | ret => exact ⟨_, a₁, w₁, hq, harr⟩
      | panic ch => exact ⟨_, a₁, w₁, hq, harr⟩
      | outgrown => exact ⟨_, a₁, w₁, hq, harr⟩
  obtain ⟨e, a₁, w₁, hq, harr⟩ := first b (.inScope c :: k) cs
  cases e with
  | normal => exact ⟨.normal, a₁, w₁, hq, .head step_scope (Steps.trans harr (.one step_inScope))⟩
  | exit id => exact ⟨.exit id, a₁, w₁, hq, fun k' hk => .head step_scope (harr k' (by simp [exitTo, hk]))⟩
  | goto l' =>
    obtain ⟨rest', hf', e₂, a₂, w₂, hq₂, harr₂⟩ := key _ l' a₁ w₁ rfl hq
    have hg : gotoIn l' (.inScope c :: k) = some (.code rest' :: .inScope c :: k) := by simp [gotoIn, hf']
    exact ⟨e₂, a₂, w₂, hq₂, .of_steps (.head step_scope (harr _ hg)) harr₂⟩
  | ret => exact ⟨_, a₁, w₁, hq, .of_steps (.one step_scope) harr⟩
  | panic ch => exact ⟨_, a₁, w₁, hq, .of_steps (.one step_scope) harr⟩
  | outgrown => exact ⟨_, a₁, w₁, hq, .of_steps (.one step_scope) harr⟩
end
open Go.RowKit Wd Rp Kp
set_option linter.unusedVariables false
set_option maxHeartbeats 400000 in
theorem byteAt_in (s : ByteArray) (k : Nat) (w : World) (h : k < s.size) : Calls Tryd.prog 150 #[.string s, .int .i64 k] w fun e w' => e = .returned (.int .i64 (s[k].toNat : Int)) ∧ w = w' := by
  have q : ¬ (s.size : Int) ≤ (k : Int) := by omega
  have hb : ((s[k]).toNat : Int) ≤ 255 := by have := (s[k]).toNat_lt; omega
  have hb0 : 0 ≤ ((s[k]).toNat : Int) := by omega
  go_enter Tryd.func150, Tryd.ntmps150
  go_wp2
  go_ret
  exact ⟨rfl, rfl⟩
set_option maxHeartbeats 400000 in
theorem byteAt_end (s : ByteArray) (w : World) : Calls Tryd.prog 150 #[.string s, .int .i64 s.size] w fun e w' => e = .returned (.int .i64 (-1)) ∧ w = w' := by
  have q : (s.size : Int) ≤ (s.size : Int) := by omega
  go_enter Tryd.func150, Tryd.ntmps150
  go_wp2
  go_ret
  exact ⟨rfl, rfl⟩
set_option maxHeartbeats 400000 in
theorem digit_any (b : Int) (w : World) : Calls Tryd.prog 151 #[.int .i64 b] w fun e w' => e = .returned (.bool (inB b 48 57)) ∧ w = w' := by
  by_cases h : 48 ≤ b
  · have q : decide (48 ≤ b) = true := by simpa using h
    have e : inB b 48 57 = decide (b ≤ 57) := by simp [inB, h]
    rw [e]
    go_enter Tryd.func151, Tryd.ntmps151
    go_wp2
    go_ret
    exact ⟨rfl, rfl⟩
  · have q : decide (48 ≤ b) = false := by simpa using h
    have e : inB b 48 57 = false := by simp [inB, h]
    rw [e]
    go_enter Tryd.func151, Tryd.ntmps151
    go_wp2
    go_ret
    exact ⟨rfl, rfl⟩
theorem digit_is {c : UInt8} {v : Bool} (h : isDig c = v) (w : World) : Calls Tryd.prog 151 #[.int .i64 (c.toNat : Int)] w fun e w' => e = .returned (.bool v) ∧ w = w' :=
  (digit_any _ w).mono fun _ _ ⟨he, hw⟩ => ⟨by rw [he, ← h]; congr 2; unfold inB isDig; congr 1 <;> (rw [decide_eq_decide]; omega), hw⟩
/-- The frame in each state. -/
def Fr4 (s : ByteArray) (k f : Nat) (a : Act) : Prop := ∃ u6 u7 u8 u9 u10 u11 u12 u13 u14 u15 u16 u17 u18 u19 u20 u21 u22 u23 u24 u25 u26 u27 u28 u29 u30 u31 u32 u33 u34 u35 u36 u37 u38 u39 u40 u41 u42 u43 u44 u45 u46 : Value, a = { tmps := #[.string s, undef, .int .i64 0, .int .i64 0, .int .i64 k, .int .i64 f, u6, u7, u8, u9, u10, u11, u12, u13, u14, u15, u16, u17, u18, u19, u20, u21, u22, u23, u24, u25, u26, u27, u28, u29, u30, u31, u32, u33, u34, u35, u36, u37, u38, u39, u40, u41, u42, u43, u44, u45, u46], defers := [] }
/-- What holds at each label. -/
def Sta (s : ByteArray) : Nat → Nat → Nat → Prop
  | 0, k, f => k ≤ s.size ∧ f = 0 ∧ (sub s 0 k).all isDig = true
  | 1, k, f => k ≤ s.size ∧ f = 0 ∧ ∃ a c, sub s 0 k = a ++ 32 :: c ∧ a.all isDig = true ∧ c.all isDig = true
  | 3, k, f => k ≤ s.size ∧ ∃ a c t, sub s 0 k = a ++ 32 :: (c ++ 32 :: t) ∧ f = a.length + c.length + 2 ∧ a.all isDig = true ∧ c.all isDig = true ∧ t.all nn = true
  | 2, k, f => k ≤ s.size ∧ fst? s.data.toList = none
  | _, _, _ => False
def rank : Nat → Nat | 0 => 3 | 1 => 2 | 3 => 1 | _ => 0
/-- What frameShape gives. -/
def ShPost (s : ByteArray) (w : World) (e : Ending) (w' : World) : Prop := w = w' ∧ ((e = .returned (.tuple #[.int .i64 0, .int .i64 0]) ∧ fst? s.data.toList = none) ∨
  ∃ k a c t, k < s.size ∧ s[k]? = some 10 ∧ sub s 0 k = a ++ 32 :: (c ++ 32 :: t) ∧ a.all isDig = true ∧ c.all isDig = true ∧ t.all nn = true ∧ e = .returned (.tuple #[.int .i64 ((a.length + c.length + 2 : Nat) : Int), .int .i64 ((k : Int) + 1)]))
theorem sub_zero (s : ByteArray) (k : Nat) : sub s 0 k = s.data.toList.take k := by unfold sub; rw [List.drop_zero]
theorem all_sub (s : ByteArray) (k : Nat) (hk : k < s.size) : s.data.toList = sub s 0 k ++ s[k] :: s.data.toList.drop (k + 1) := by
  have := drop_sub s 0 k (Nat.zero_le _) (by omega)
  rw [List.drop_zero, drop_cons s k hk] at this; exact this
theorem all_end (s : ByteArray) : s.data.toList = sub s 0 s.size := by rw [sub_zero, mtake_all]
theorem st_dig {s : ByteArray} {k : Nat} (hk : k < s.size) (h : (sub s 0 k).all isDig = true) (hd : isDig s[k] = true) : Sta s 0 (k + 1) 0 := by
  refine ⟨hk, rfl, ?_⟩
  rw [sub_snoc s 0 k (Nat.zero_le _) hk, List.all_append, h]; simp [hd]
theorem st_sp {s : ByteArray} {k : Nat} (hk : k < s.size) (h : (sub s 0 k).all isDig = true) (hc : s[k] = 32) : Sta s 1 (k + 1) 0 :=
  ⟨hk, rfl, sub s 0 k, [], by rw [sub_snoc s 0 k (Nat.zero_le _) hk, hc], h, rfl⟩
theorem st_bad {s : ByteArray} {k : Nat} (hk : k < s.size) (h : (sub s 0 k).all isDig = true) (hd : isDig s[k] = false) (hc : ¬ s[k] = 32) : Sta s 2 k 0 :=
  ⟨by omega, fst_bad1 (all_sub s k hk) h hd (sp_nb hc)⟩
theorem st_end {s : ByteArray} (h : (sub s 0 s.size).all isDig = true) : Sta s 2 s.size 0 := ⟨Nat.le_refl _, fst_end1 (by rw [all_end]; exact h)⟩
theorem mk_dig {s : ByteArray} {k : Nat} (hk : k < s.size) {a c : List UInt8} (h : sub s 0 k = a ++ 32 :: c) (ha : a.all isDig = true) (hc : c.all isDig = true) (hd : isDig s[k] = true) : Sta s 1 (k + 1) 0 :=
  ⟨hk, rfl, a, c ++ [s[k]], by rw [sub_snoc s 0 k (Nat.zero_le _) hk, h]; simp, ha, by rw [List.all_append, hc]; simp [hd]⟩
theorem mk_sp {s : ByteArray} {k : Nat} (hk : k < s.size) {a c : List UInt8} (h : sub s 0 k = a ++ 32 :: c) (ha : a.all isDig = true) (hc : c.all isDig = true) (hd : s[k] = 32) : Sta s 3 (k + 1) (k + 1) := by
  refine ⟨hk, a, c, [], by rw [sub_snoc s 0 k (Nat.zero_le _) hk, h, hd]; simp, ?_, ha, hc, rfl⟩
  have := congrArg List.length h
  rw [sub_len s 0 k (by omega), List.length_append, List.length_cons] at this; omega
theorem mk_bad {s : ByteArray} {k : Nat} (hk : k < s.size) {a c : List UInt8} (h : sub s 0 k = a ++ 32 :: c) (ha : a.all isDig = true) (hc : c.all isDig = true) (hd : isDig s[k] = false) (hn : ¬ s[k] = 32) : Sta s 2 k 0 :=
  ⟨by omega, fst_bad2 (x := s[k]) (r := s.data.toList.drop (k + 1)) (by rw [← List.cons_append, ← List.append_assoc, ← h]; exact all_sub s k hk) ha hc hd (sp_nb hn)⟩
theorem mk_end {s : ByteArray} {a c : List UInt8} (h : sub s 0 s.size = a ++ 32 :: c) (ha : a.all isDig = true) (hc : c.all isDig = true) : Sta s 2 s.size 0 := ⟨Nat.le_refl _, fst_end2 (by rw [all_end]; exact h) ha hc⟩
theorem tx_step {s : ByteArray} {k f : Nat} (hk : k < s.size) (h : Sta s 3 k f) (hn : ¬ s[k] = 10) : Sta s 3 (k + 1) f := by
  obtain ⟨_, a, c, t, h1, h2, h3, h4, h5⟩ := h
  exact ⟨hk, a, c, t ++ [s[k]], by rw [sub_snoc s 0 k (Nat.zero_le _) hk, h1]; simp, h2, h3, h4, by rw [List.all_append, h5]; simp [ten_nn hn]⟩
theorem tx_end {s : ByteArray} {f : Nat} (h : Sta s 3 s.size f) : Sta s 2 s.size f := by
  obtain ⟨_, a, c, t, h1, h2, h3, h4, h5⟩ := h
  refine ⟨Nat.le_refl _, fst_noline ?_⟩
  rw [all_end, h1]; exact two_nn h3 h4 h5
theorem tx_done {s : ByteArray} {w : World} {k f : Nat} (hk : k < s.size) (h : Sta s 3 k f) (hn : s[k] = 10) : ShPost s w (.returned (.tuple #[.int .i64 (f : Int), .int .i64 ((k : Int) + 1)])) w := by
  obtain ⟨_, a, c, t, h1, h2, h3, h4, h5⟩ := h
  exact ⟨rfl, Or.inr ⟨k, a, c, t, hk, by rw [getElem?_pos s k hk, hn], h1, h3, h4, h5, by rw [h2]⟩⟩
set_option maxRecDepth 100000 in
set_option maxHeartbeats 4000000 in
theorem shape_any (s : ByteArray) (w : World) (hs : s.size ≤ 4194304) : Calls Tryd.prog 128 #[.string s] w (ShPost s w) := by
  go_enter Tryd.func128, Tryd.ntmps128
  go_wp2
  refine wp_scope_all (fun l a' w' => w' = w ∧ ∃ k f, Fr4 s k f a' ∧ Sta s l k f) (fun l a' _ => 4 * (s.size + 1 - intV (a'.tmps.getD 4 undef)) + rank l) ?_ ?_
  · have HA : Hid ((sub s 0 0).all isDig = true) := Lib.hid rfl
    go_wp2_with fail
    go_step3
    by_cases hlt : 0 < s.size
    · cases hd : isDig s[0]
      · have HC := Lib.hid (fun w => digit_is hd w)
        by_cases hc : s[0] = 32
        · have HJ := Lib.hid (st_sp hlt HA.out hc)
          have q4 := sp_eq hc
          clear hd hc
          go_wp2_with fail
          refine (byteAt_in s 0 _ hlt).mono ?_; rintro e w1 ⟨rfl, rfl⟩
          go_wp2_with fail
          refine (HC.out _).mono ?_; rintro e w1 ⟨rfl, rfl⟩
          go_wp2_with fail
          go_step3
          exact ⟨rfl, (0 + 1), 0, ⟨_, _, _, _, _, _, _, _, _, _, _, _, _, _, _, _, _, _, _, _, _, _, _, _, _, _, _, _, _, _, _, _, _, _, _, _, _, _, _, _, _, rfl⟩, HJ.out⟩
        · have HJ := Lib.hid (st_bad hlt HA.out hd hc)
          have q4 := sp_ne hc
          clear hd hc
          go_wp2_with fail
          refine (byteAt_in s 0 _ hlt).mono ?_; rintro e w1 ⟨rfl, rfl⟩
          go_wp2_with fail
          refine (HC.out _).mono ?_; rintro e w1 ⟨rfl, rfl⟩
          go_wp2_with fail
          go_step3
          exact ⟨rfl, 0, 0, ⟨_, _, _, _, _, _, _, _, _, _, _, _, _, _, _, _, _, _, _, _, _, _, _, _, _, _, _, _, _, _, _, _, _, _, _, _, _, _, _, _, _, rfl⟩, HJ.out⟩
      · have HC := Lib.hid (fun w => digit_is hd w)
        have HJ := Lib.hid (st_dig hlt HA.out hd)
        clear hd
        go_wp2_with fail
        refine (byteAt_in s 0 _ hlt).mono ?_; rintro e w1 ⟨rfl, rfl⟩
        go_wp2_with fail
        refine (HC.out _).mono ?_; rintro e w1 ⟨rfl, rfl⟩
        go_wp2_with fail
        go_step3
        exact ⟨rfl, (0 + 1), 0, ⟨_, _, _, _, _, _, _, _, _, _, _, _, _, _, _, _, _, _, _, _, _, _, _, _, _, _, _, _, _, _, _, _, _, _, _, _, _, _, _, _, _, rfl⟩, HJ.out⟩
    · have hz : s.size = 0 := by omega
      have hE : fst? s.data.toList = none := by rw [all_end, hz]; exact fst_end1 rfl
      have HE := Lib.hid hE; clear hE
      have HX := Lib.hid (byteAt_end s)
      rw [hz] at HX
      go_wp2_with fail
      refine (HX.out _).mono ?_; rintro e w1 ⟨rfl, rfl⟩
      go_wp2_with fail
      refine (digit_any _ _).mono ?_; rintro e w1 ⟨rfl, rfl⟩
      go_wp2_with fail
      go_step3
      exact ⟨rfl, 0, 0, ⟨_, _, _, _, _, _, _, _, _, _, _, _, _, _, _, _, _, _, _, _, _, _, _, _, _, _, _, _, _, _, _, _, _, _, _, _, _, _, _, _, _, rfl⟩, ⟨Nat.zero_le _, HE.out⟩⟩
  · rintro l a' w' ⟨rfl, k, f, ⟨u6, u7, u8, u9, u10, u11, u12, u13, u14, u15, u16, u17, u18, u19, u20, u21, u22, u23, u24, u25, u26, u27, u28, u29, u30, u31, u32, u33, u34, u35, u36, u37, u38, u39, u40, u41, u42, u43, u44, u45, u46, rfl⟩, hst⟩
    match l, hst with
    | 0, hst =>
      obtain ⟨hk, rfl, hall⟩ := hst
      have HA := Lib.hid hall; clear hall
      refine ⟨_, rfl, ?_⟩
      by_cases hlt : k < s.size
      · cases hd : isDig s[k]
        · have HC := Lib.hid (fun w => digit_is hd w)
          by_cases hc : s[k] = 32
          · have HJ := Lib.hid (st_sp hlt HA.out hc)
            have q4 := sp_eq hc
            clear hd hc
            go_wp2_with fail
            refine (byteAt_in s k _ hlt).mono ?_; rintro e w1 ⟨rfl, rfl⟩
            go_wp2_with fail
            refine (HC.out _).mono ?_; rintro e w1 ⟨rfl, rfl⟩
            go_wp2_with fail
            go_step3
            refine ⟨⟨rfl, (k + 1), 0, ⟨_, _, _, _, _, _, _, _, _, _, _, _, _, _, _, _, _, _, _, _, _, _, _, _, _, _, _, _, _, _, _, _, _, _, _, _, _, _, _, _, _, rfl⟩, HJ.out⟩, ?_⟩
            simp [intV, rank] <;> omega
          · have HJ := Lib.hid (st_bad hlt HA.out hd hc)
            have q4 := sp_ne hc
            clear hd hc
            go_wp2_with fail
            refine (byteAt_in s k _ hlt).mono ?_; rintro e w1 ⟨rfl, rfl⟩
            go_wp2_with fail
            refine (HC.out _).mono ?_; rintro e w1 ⟨rfl, rfl⟩
            go_wp2_with fail
            go_step3
            refine ⟨⟨rfl, k, 0, ⟨_, _, _, _, _, _, _, _, _, _, _, _, _, _, _, _, _, _, _, _, _, _, _, _, _, _, _, _, _, _, _, _, _, _, _, _, _, _, _, _, _, rfl⟩, HJ.out⟩, ?_⟩
            simp [intV, rank] <;> omega
        · have HC := Lib.hid (fun w => digit_is hd w)
          have HJ := Lib.hid (st_dig hlt HA.out hd)
          clear hd
          go_wp2_with fail
          refine (byteAt_in s k _ hlt).mono ?_; rintro e w1 ⟨rfl, rfl⟩
          go_wp2_with fail
          refine (HC.out _).mono ?_; rintro e w1 ⟨rfl, rfl⟩
          go_wp2_with fail
          go_step3
          refine ⟨⟨rfl, (k + 1), 0, ⟨_, _, _, _, _, _, _, _, _, _, _, _, _, _, _, _, _, _, _, _, _, _, _, _, _, _, _, _, _, _, _, _, _, _, _, _, _, _, _, _, _, rfl⟩, HJ.out⟩, ?_⟩
          simp [intV, rank] <;> omega
      · obtain rfl : k = s.size := by omega
        have HJ := Lib.hid (st_end HA.out)
        go_wp2_with fail
        refine (byteAt_end s _).mono ?_; rintro e w1 ⟨rfl, rfl⟩
        go_wp2_with fail
        refine (digit_any _ _).mono ?_; rintro e w1 ⟨rfl, rfl⟩
        go_wp2_with fail
        go_step3
        refine ⟨⟨rfl, s.size, 0, ⟨_, _, _, _, _, _, _, _, _, _, _, _, _, _, _, _, _, _, _, _, _, _, _, _, _, _, _, _, _, _, _, _, _, _, _, _, _, _, _, _, _, rfl⟩, HJ.out⟩, ?_⟩
        simp [intV, rank] <;> omega
    | 1, hst =>
      obtain ⟨hk, rfl, a, c, hsub, ha, hc0⟩ := hst
      have HA := Lib.hid hsub; clear hsub
      refine ⟨_, rfl, ?_⟩
      by_cases hlt : k < s.size
      · cases hd : isDig s[k]
        · have HC := Lib.hid (fun w => digit_is hd w)
          by_cases hc : s[k] = 32
          · have HJ := Lib.hid (mk_sp hlt HA.out ha hc0 hc)
            have q4 := sp_eq hc
            clear hd hc
            go_wp2_with fail
            refine (byteAt_in s k _ hlt).mono ?_; rintro e w1 ⟨rfl, rfl⟩
            go_wp2_with fail
            refine (HC.out _).mono ?_; rintro e w1 ⟨rfl, rfl⟩
            go_wp2_with fail
            go_step3
            refine ⟨⟨rfl, (k + 1), (k + 1), ⟨_, _, _, _, _, _, _, _, _, _, _, _, _, _, _, _, _, _, _, _, _, _, _, _, _, _, _, _, _, _, _, _, _, _, _, _, _, _, _, _, _, rfl⟩, HJ.out⟩, ?_⟩
            simp [intV, rank] <;> omega
          · have HJ := Lib.hid (mk_bad hlt HA.out ha hc0 hd hc)
            have q4 := sp_ne hc
            clear hd hc
            go_wp2_with fail
            refine (byteAt_in s k _ hlt).mono ?_; rintro e w1 ⟨rfl, rfl⟩
            go_wp2_with fail
            refine (HC.out _).mono ?_; rintro e w1 ⟨rfl, rfl⟩
            go_wp2_with fail
            go_step3
            refine ⟨⟨rfl, k, 0, ⟨_, _, _, _, _, _, _, _, _, _, _, _, _, _, _, _, _, _, _, _, _, _, _, _, _, _, _, _, _, _, _, _, _, _, _, _, _, _, _, _, _, rfl⟩, HJ.out⟩, ?_⟩
            simp [intV, rank] <;> omega
        · have HC := Lib.hid (fun w => digit_is hd w)
          have HJ := Lib.hid (mk_dig hlt HA.out ha hc0 hd)
          clear hd
          go_wp2_with fail
          refine (byteAt_in s k _ hlt).mono ?_; rintro e w1 ⟨rfl, rfl⟩
          go_wp2_with fail
          refine (HC.out _).mono ?_; rintro e w1 ⟨rfl, rfl⟩
          go_wp2_with fail
          go_step3
          refine ⟨⟨rfl, (k + 1), 0, ⟨_, _, _, _, _, _, _, _, _, _, _, _, _, _, _, _, _, _, _, _, _, _, _, _, _, _, _, _, _, _, _, _, _, _, _, _, _, _, _, _, _, rfl⟩, HJ.out⟩, ?_⟩
          simp [intV, rank] <;> omega
      · obtain rfl : k = s.size := by omega
        have HJ := Lib.hid (mk_end HA.out ha hc0)
        go_wp2_with fail
        refine (byteAt_end s _).mono ?_; rintro e w1 ⟨rfl, rfl⟩
        go_wp2_with fail
        refine (digit_any _ _).mono ?_; rintro e w1 ⟨rfl, rfl⟩
        go_wp2_with fail
        go_step3
        refine ⟨⟨rfl, s.size, 0, ⟨_, _, _, _, _, _, _, _, _, _, _, _, _, _, _, _, _, _, _, _, _, _, _, _, _, _, _, _, _, _, _, _, _, _, _, _, _, _, _, _, _, rfl⟩, HJ.out⟩, ?_⟩
        simp [intV, rank] <;> omega
    | 2, hst =>
      obtain ⟨hk, hn⟩ := hst
      have HN := Lib.hid hn; clear hn
      refine ⟨_, rfl, ?_⟩
      go_wp2_with fail
      refine bodyPost_ret (v := .tuple #[.int .i64 0, .int .i64 0]) (by simp [results, Tryd.results128, go_sem]) rfl ⟨rfl, Or.inl ⟨rfl, HN.out⟩⟩
    | 3, hst =>
      have HA := Lib.hid hst
      have hk : k ≤ s.size := hst.1
      clear hst
      refine ⟨_, rfl, ?_⟩
      by_cases hlt : k < s.size
      · by_cases ht : s[k] = 10
        · have HD := Lib.hid (tx_done (w := w') hlt HA.out ht)
          have q1 : ((s[k].toNat : Int) == 10) = true := by rw [ht]; rfl
          clear ht
          go_wp2_with fail
          refine (byteAt_in s k _ hlt).mono ?_; rintro e w1 ⟨rfl, rfl⟩
          go_wp2_with fail
          refine bodyPost_ret (v := .tuple #[.int .i64 (f : Int), .int .i64 ((k : Int) + 1)]) (by simp [results, Tryd.results128, go_sem]) rfl HD.out
        · have HJ := Lib.hid (tx_step hlt HA.out ht)
          have q1 : ((s[k].toNat : Int) == 10) = false := by have := ten_ne ht; simpa [bne] using this
          have q2 : ((s[k].toNat : Int) == -1) = false := by rw [beq_eq_false_iff_ne]; omega
          clear ht
          go_wp2_with fail
          refine (byteAt_in s k _ hlt).mono ?_; rintro e w1 ⟨rfl, rfl⟩
          go_wp2_with fail
          go_step3
          refine ⟨⟨rfl, (k + 1), f, ⟨_, _, _, _, _, _, _, _, _, _, _, _, _, _, _, _, _, _, _, _, _, _, _, _, _, _, _, _, _, _, _, _, _, _, _, _, _, _, _, _, _, rfl⟩, HJ.out⟩, ?_⟩
          simp [intV, rank] <;> omega
      · obtain rfl : k = s.size := by omega
        have HJ := Lib.hid (tx_end HA.out)
        go_wp2_with fail
        refine (byteAt_end s _).mono ?_; rintro e w1 ⟨rfl, rfl⟩
        go_wp2_with fail
        go_step3
        refine ⟨⟨rfl, s.size, f, ⟨_, _, _, _, _, _, _, _, _, _, _, _, _, _, _, _, _, _, _, _, _, _, _, _, _, _, _, _, _, _, _, _, _, _, _, _, _, _, _, _, _, rfl⟩, HJ.out⟩, ?_⟩
        simp [intV, rank] <;> omega
    | n + 4, hst => exact hst.elim
end Go.Proofs.YtdalncgbbkeimaaDoor.Fq
