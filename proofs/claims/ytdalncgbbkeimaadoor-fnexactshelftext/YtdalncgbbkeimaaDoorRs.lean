/-
  The walk of spec.ReadWord: it gives 'rd' of the text's bytes, for every text, and the world is untouched.
-/
import Derived.Test.YtdalncgbbkeimaaDoorRp
import Derived.WalkSpells
import Derived.Below
import Derived.Laws.Closers25b
import Derived.Lib.Strings
namespace Go.Proofs.YtdalncgbbkeimaaDoor.Rp
open Go.RowKit Wd
set_option linter.unusedVariables false
/-- The bytes from i on, up to k. -/
def piece (s : ByteArray) (i k : Nat) : List UInt8 := (s.data.toList.take k).drop i
theorem take_snoc (s : ByteArray) (k : Nat) (h : k < s.size) : s.data.toList.take (k + 1) = s.data.toList.take k ++ [s[k]] := by
  rw [List.take_succ_eq_append_getElem (by simpa using h)]; rfl
theorem len_eq (s : ByteArray) : s.data.toList.length = s.size := (Lib.size_eq s).symm
theorem piece_snoc (s : ByteArray) (i k : Nat) (hi : i ≤ k) (h : k < s.size) : piece s i (k + 1) = piece s i k ++ [s[k]] := by
  unfold piece
  rw [take_snoc s k h, List.drop_append_of_le_length]
  rw [List.length_take, len_eq]; omega
theorem piece_len (s : ByteArray) (i k : Nat) (h : k ≤ s.size) : (piece s i k).length = k - i := by
  unfold piece; rw [List.length_drop, List.length_take, len_eq]; omega
theorem piece_all (s : ByteArray) (i : Nat) : piece s i s.size = s.data.toList.drop i := by
  unfold piece; rw [List.take_of_length_le (by rw [len_eq]; exact Nat.le_refl _)]
theorem piece_start (s : ByteArray) (i : Nat) : piece s i i = [] := by
  unfold piece; apply List.drop_eq_nil_of_le; rw [List.length_take]; omega
theorem get_head (s : ByteArray) (i : Nat) (h : i < s.size) : (s.data.toList.drop i).head? = some s[i] := by
  rw [List.head?_drop, List.getElem?_eq_getElem (by rw [len_eq]; exact h)]; rfl
theorem not_all (s : ByteArray) (i k : Nat) (hi : i ≤ k) (h : k < s.size) (hd : isDig s[k] = false) : ¬ (s.data.toList.drop i).all isDig = true := by
  intro ha
  rw [List.all_eq_true] at ha
  have hm : s[k] ∈ s.data.toList.drop i := by
    rw [List.mem_iff_getElem?]
    refine ⟨k - i, ?_⟩
    rw [List.getElem?_drop, show i + (k - i) = k by omega, List.getElem?_eq_getElem (by rw [len_eq]; exact h)]; rfl
  rw [ha _ hm] at hd
  cases hd
theorem not_nil (s : ByteArray) (h : 0 < s.size) : ¬ s.toList = [] := by
  rw [toList_nil_iff_emptyBytes]
  intro e
  rw [e] at h
  exact absurd h (by decide)
theorem not_nilB (s : ByteArray) (h : 0 < s.size) : (!s.toList.isEmpty) = true := by
  have := not_nil s h
  cases hl : s.toList with
  | nil => exact absurd hl this
  | cons _ _ => rfl
theorem dig_of {c : UInt8} (h : isDig c = true) : (48 : Int) ≤ (c.toNat : Int) ∧ (c.toNat : Int) ≤ 57 := by simp [isDig] at h; omega
theorem dig_not {c : UInt8} (h : isDig c = false) : (c.toNat : Int) < 48 ∨ (57 : Int) < (c.toNat : Int) := by
  have : ¬ (48 ≤ c.toNat ∧ c.toNat ≤ 57) := by intro g; have : isDig c = true := by simp [isDig, g.1, g.2]
                                               rw [this] at h; cases h
  omega
theorem byte_ne (c d : UInt8) (h : (c.toNat : Int) ≠ d.toNat) : c ≠ d := by intro e; subst e; exact h rfl
theorem byte_is (c d : UInt8) (h : (c.toNat : Int) = d.toNat) : c = d := UInt8.toNat_inj.1 (by omega)
theorem val_bd (s : ByteArray) (i k : Nat) (h : (piece s i k).all isDig = true) (hk : k ≤ s.size) (hl : s.size - i ≤ 10) : (val (piece s i k) : Int) ≤ 10000000000 := by
  have h1 := val_lt _ h
  rw [piece_len s i k hk] at h1
  have h2 : 10 ^ (k - i) ≤ 10 ^ 10 := Nat.pow_le_pow_right (by decide) (by omega)
  omega

/-- What ReadWord gives. -/
def RdPost (s : ByteArray) (w : World) (e : Ending) (w' : World) : Prop := e = .returned (.tuple #[.int .i64 (rdV s.data.toList), .bool (rdB s.data.toList)]) ∧ w = w'
theorem rd_none {s : ByteArray} {w : World} (h : rd s.data.toList = none) : RdPost s w (.returned (.tuple #[.int .i64 0, .bool false])) w := by
  refine ⟨?_, rfl⟩; simp [rdV, rdB, h]
theorem rd_some {s : ByteArray} {w : World} {v : Int} (h : rd s.data.toList = some v) : RdPost s w (.returned (.tuple #[.int .i64 v, .bool true])) w := by
  refine ⟨?_, rfl⟩; simp [rdV, rdB, h]

theorem empty_calls (w : World) : Calls Tryd.prog 69 #[.string ⟨#[]⟩] w fun e w' => e = .returned (.tuple #[.int .i64 0, .bool false]) ∧ w = w' := by
  go_enter Tryd.func69, Tryd.ntmps69
  go_wp2
  go_ret2
  exact ⟨rfl, rfl⟩

set_option maxHeartbeats 1000000 in
theorem long_plain (s : ByteArray) (w : World) (hs : s.size ≤ 9223372036854775807) (h0 : 0 < s.size) (g1 : (((s[0]'h0).toNat : Int) == 45) = false) (hl : 10 < s.size) :
    Calls Tryd.prog 69 #[.string s] w fun e w' => e = .returned (.tuple #[.int .i64 0, .bool false]) ∧ w = w' := by
  have g2 : (0 : Int) < (s.size : Int) := by omega
  have g3 := not_nil s h0
  have g5 := not_nilB s h0
  go_enter Tryd.func69, Tryd.ntmps69
  go_wp2
  go_ret2
  exact ⟨rfl, rfl⟩
set_option maxHeartbeats 4000000 in
theorem short_plain (s : ByteArray) (w : World) (h0 : 0 < s.size) (g1 : (((s[0]'h0).toNat : Int) == 45) = false) (hlo : 1 ≤ s.size) (hl : s.size ≤ 10)
    (hrd : rd s.data.toList = if ¬ (s.data.toList.drop 0).all isDig = true then none else if ((s[0]'(by omega)).toNat = 48 ∧ 1 < s.size) then none else if isW (val (s.data.toList.drop 0) : Int) then some (val (s.data.toList.drop 0) : Int) else none) :
    Calls Tryd.prog 69 #[.string s] w (RdPost s w) := by
  have HR := Lib.hid hrd; clear hrd
  have g2 : (0 : Int) < (s.size : Int) := by omega
  have g3 := not_nil s h0
  have g5 := not_nilB s h0
  have g4 : (0 : Int) < (s.size : Int) := by omega
  go_enter Tryd.func69, Tryd.ntmps69
  go_wp2
  go_loop [6, 7] (fun n i => ∃ k : Nat, 0 ≤ k ∧ k ≤ s.size ∧ i = .int .i64 k ∧ n = .int .i64 (val (piece s 0 k)) ∧ (piece s 0 k).all isDig = true) (fun _ i => s.size - (intOf i).toNat)
  case atStart => exact ⟨0, Nat.le_refl _, by omega, rfl, by rw [piece_start]; rfl, by rw [piece_start]; rfl⟩
  case round =>
    obtain ⟨k, hk0, hk, rfl, rfl, hall⟩ := hrel
    have hv := val_bd s 0 k hall hk (by omega)
    have HA := Lib.hid hall; clear hall
    by_cases hlt : k < s.size
    · have hps := piece_snoc s 0 k hk0 hlt
      have HP := Lib.hid hps; clear hps
      cases hd : isDig s[k]
      · have hn := rd_none (s := s) (w := w) (by rw [HR.out, if_pos (not_all s 0 k hk0 hlt hd)])
        have HN := Lib.hid hn; clear hn
        have hx := dig_not hd
        clear hd
        rcases hx with hx | hx
        · go_wp2
          go_ret2
          exact HN.out
        · go_wp2
          go_ret2
          exact HN.out
      · obtain ⟨d0, d1⟩ := dig_of hd
        have HD := Lib.hid hd; clear hd
        go_wp2
        go_round
        case rel =>
          refine ⟨k + 1, by omega, by omega, by go_num, ?_, ?_⟩
          · rw [HP.out, val_snoc]; go_num
          · rw [HP.out, List.all_append, HA.out]; simp [HD.out]
        case measure => simp [intOf]; omega
    · obtain rfl : k = s.size := by omega
      have hall := HA.out
      rw [piece_all] at hall hv ⊢
      have HL := Lib.hid hall; clear hall HA
      have hr : rd s.data.toList = if ((s[0]'(by omega)).toNat = 48 ∧ 1 < s.size) then none else if isW (val (s.data.toList.drop 0) : Int) then some (val (s.data.toList.drop 0) : Int) else none := by
        rw [HR.out, if_neg (fun g => g HL.out)]
      have H2 := Lib.hid hr; clear hr HR
      generalize hg : (val (s.data.toList.drop 0) : Int) = v at hv H2 ⊢
      have HG := Lib.hid hg; clear hg
      have v0 : 0 ≤ v := by rw [← HG.out]; omega
      by_cases hz : (s[0]'(by omega)).toNat = 48 ∧ 1 < s.size
      · have hn := rd_none (s := s) (w := w) (by rw [H2.out, if_pos hz])
        have HN := Lib.hid hn; clear hn
        have z1 : (((s[0]'(by omega)).toNat : Int) == 48) = true := by rw [beq_iff_eq]; omega
        have z2 : (1 : Int) < (s.size : Int) := by omega
        have HZ := Lib.hid hz; clear hz
        go_wp2
        go_ret2
        exact HN.out
      · have hr : rd s.data.toList = if isW v then some v else none := by rw [H2.out, if_neg hz]
        have H3 := Lib.hid hr; clear hr H2
        have hz' : (((s[0]'(by omega)).toNat : Int) == 48) = false ∨ ((((s[0]'(by omega)).toNat : Int) == 48) = true ∧ ¬ (1 : Int) < (s.size : Int)) := by
          by_cases q : (s[0]'(by omega)).toNat = 48
          · exact Or.inr ⟨by rw [beq_iff_eq]; omega, by omega⟩
          · exact Or.inl (by rw [beq_eq_false_iff_ne]; omega)
        clear hz
        cases hw : isW v
        · have hn := rd_none (s := s) (w := w) (by rw [H3.out, hw]; rfl)
          have HN := Lib.hid hn; clear hn
          rcases hz' with z1 | ⟨z1, z2⟩
          all_goals
            go_wp2_with (go_at_call 96; refine (l1Word_any _ _).mono ?_; rintro e w' ⟨rfl, rfl⟩)
            go_ret2
            exact HN.out
        · have hn := rd_some (s := s) (w := w) (v := v) (by rw [H3.out, hw]; rfl)
          have HN := Lib.hid hn; clear hn
          rcases hz' with z1 | ⟨z1, z2⟩
          all_goals
            go_wp2_with (go_at_call 96; refine (l1Word_any _ _).mono ?_; rintro e w' ⟨rfl, rfl⟩)
            go_ret2
            exact HN.out

set_option maxHeartbeats 1000000 in
theorem long_minus (s : ByteArray) (w : World) (hs : s.size ≤ 9223372036854775807) (h0 : 0 < s.size) (g1 : (((s[0]'h0).toNat : Int) == 45) = true) (hl : 11 < s.size) :
    Calls Tryd.prog 69 #[.string s] w fun e w' => e = .returned (.tuple #[.int .i64 0, .bool false]) ∧ w = w' := by
  have g2 : (0 : Int) < (s.size : Int) := by omega
  have g3 := not_nil s h0
  have g5 := not_nilB s h0
  go_enter Tryd.func69, Tryd.ntmps69
  go_wp2
  go_ret2
  exact ⟨rfl, rfl⟩
set_option maxHeartbeats 4000000 in
theorem short_minus (s : ByteArray) (w : World) (h0 : 0 < s.size) (g1 : (((s[0]'h0).toNat : Int) == 45) = true) (hlo : 2 ≤ s.size) (hl : s.size ≤ 11)
    (hrd : rd s.data.toList = if ¬ (s.data.toList.drop 1).all isDig = true then none else if (s[1]'(by omega)).toNat = 48 then none else if isW (-(val (s.data.toList.drop 1) : Int)) then some (-(val (s.data.toList.drop 1) : Int)) else none) :
    Calls Tryd.prog 69 #[.string s] w (RdPost s w) := by
  have HR := Lib.hid hrd; clear hrd
  have g2 : (0 : Int) < (s.size : Int) := by omega
  have g3 := not_nil s h0
  have g5 := not_nilB s h0
  have g4 : (1 : Int) < (s.size : Int) := by omega
  go_enter Tryd.func69, Tryd.ntmps69
  go_wp2
  go_loop [6, 7] (fun n i => ∃ k : Nat, 1 ≤ k ∧ k ≤ s.size ∧ i = .int .i64 k ∧ n = .int .i64 (val (piece s 1 k)) ∧ (piece s 1 k).all isDig = true) (fun _ i => s.size - (intOf i).toNat)
  case atStart => exact ⟨1, Nat.le_refl _, by omega, rfl, by rw [piece_start]; rfl, by rw [piece_start]; rfl⟩
  case round =>
    obtain ⟨k, hk0, hk, rfl, rfl, hall⟩ := hrel
    have hv := val_bd s 1 k hall hk (by omega)
    have HA := Lib.hid hall; clear hall
    by_cases hlt : k < s.size
    · have hps := piece_snoc s 1 k hk0 hlt
      have HP := Lib.hid hps; clear hps
      cases hd : isDig s[k]
      · have hn := rd_none (s := s) (w := w) (by rw [HR.out, if_pos (not_all s 1 k hk0 hlt hd)])
        have HN := Lib.hid hn; clear hn
        have hx := dig_not hd
        clear hd
        rcases hx with hx | hx
        · go_wp2
          go_ret2
          exact HN.out
        · go_wp2
          go_ret2
          exact HN.out
      · obtain ⟨d0, d1⟩ := dig_of hd
        have HD := Lib.hid hd; clear hd
        go_wp2
        go_round
        case rel =>
          refine ⟨k + 1, by omega, by omega, by go_num, ?_, ?_⟩
          · rw [HP.out, val_snoc]; go_num
          · rw [HP.out, List.all_append, HA.out]; simp [HD.out]
        case measure => simp [intOf]; omega
    · obtain rfl : k = s.size := by omega
      have hall := HA.out
      rw [piece_all] at hall hv ⊢
      have HL := Lib.hid hall; clear hall HA
      have hr : rd s.data.toList = if (s[1]'(by omega)).toNat = 48 then none else if isW (-(val (s.data.toList.drop 1) : Int)) then some (-(val (s.data.toList.drop 1) : Int)) else none := by
        rw [HR.out, if_neg (fun g => g HL.out)]
      have H2 := Lib.hid hr; clear hr HR
      generalize hg : (val (s.data.toList.drop 1) : Int) = v at hv H2 ⊢
      have HG := Lib.hid hg; clear hg
      have v0 : 0 ≤ v := by rw [← HG.out]; omega
      by_cases hz : (s[1]'(by omega)).toNat = 48
      · have hn := rd_none (s := s) (w := w) (by rw [H2.out, if_pos hz])
        have HN := Lib.hid hn; clear hn
        have z1 : (((s[1]'(by omega)).toNat : Int) == 48) = true := by rw [beq_iff_eq]; omega
        have HZ := Lib.hid hz; clear hz
        go_wp2
        go_ret2
        exact HN.out
      · have z1 : (((s[1]'(by omega)).toNat : Int) == 48) = false := by rw [beq_eq_false_iff_ne]; omega
        have hr : rd s.data.toList = if isW (-v) then some (-v) else none := by rw [H2.out, if_neg hz]
        have H3 := Lib.hid hr; clear hr H2 hz
        cases hw : isW (-v)
        · have hn := rd_none (s := s) (w := w) (by rw [H3.out, hw]; rfl)
          have HN := Lib.hid hn; clear hn
          go_wp2_with (go_at_call 96; refine (l1Word_any _ _).mono ?_; rintro e w' ⟨rfl, rfl⟩)
          go_ret2
          exact HN.out
        · have hn := rd_some (s := s) (w := w) (v := -v) (by rw [H3.out, hw]; rfl)
          have HN := Lib.hid hn; clear hn
          go_wp2_with (go_at_call 96; refine (l1Word_any _ _).mono ?_; rintro e w' ⟨rfl, rfl⟩)
          go_ret2
          exact HN.out

set_option maxHeartbeats 1000000 in
theorem one_minus (s : ByteArray) (w : World) (h0 : 0 < s.size) (g1 : (((s[0]'h0).toNat : Int) == 45) = true) (hl : s.size = 1) :
    Calls Tryd.prog 69 #[.string s] w fun e w' => e = .returned (.tuple #[.int .i64 0, .bool false]) ∧ w = w' := by
  have g2 : (0 : Int) < (s.size : Int) := by omega
  have g3 := not_nil s h0
  have g5 := not_nilB s h0
  have g4 : (s.size : Int) ≤ 1 := by omega
  clear hl
  go_enter Tryd.func69, Tryd.ntmps69
  go_wp2
  go_ret2
  exact ⟨rfl, rfl⟩

theorem specRead_any (s : ByteArray) (w : World) (hs : s.size ≤ 9223372036854775807) : Calls Tryd.prog 69 #[.string s] w (RdPost s w) := by
  by_cases h0 : 0 < s.size
  · have hh := get_head s 0 h0
    rw [List.drop_zero] at hh
    by_cases hm : (s[0]'h0).toNat = 45
    · have hc : s[0]'h0 = 45 := byte_is _ _ (by rw [hm]; rfl)
      have hhead : s.data.toList.head? = some 45 := by rw [hh, hc]
      have htail : s.data.toList.tail = s.data.toList.drop 1 := by cases s.data.toList <;> rfl
      have hlen : (s.data.toList.drop 1).length = s.size - 1 := by rw [List.length_drop, len_eq]
      have g1 : (((s[0]'h0).toNat : Int) == 45) = true := by rw [beq_iff_eq]; omega
      have hrd : rd s.data.toList = if s.size - 1 < 1 ∨ 10 < s.size - 1 then none else if ¬ (s.data.toList.drop 1).all isDig = true then none else if (s.data.toList.drop 1).head? = some 48 then none else if isW (-(val (s.data.toList.drop 1) : Int)) then some (-(val (s.data.toList.drop 1) : Int)) else none := by
        unfold rd; rw [if_pos hhead, htail, hlen]
      by_cases hl : 11 < s.size
      · refine (long_minus s w hs h0 g1 hl).mono ?_
        rintro e w' ⟨rfl, rfl⟩
        exact rd_none (by rw [hrd, if_pos (by omega)])
      · by_cases h1 : 2 ≤ s.size
        · refine short_minus s w h0 g1 h1 (by omega) ?_
          rw [hrd, if_neg (by omega)]
          have h2 := get_head s 1 (by omega)
          rw [h2]
          have he : (some (s[1]'(by omega)) = some (48 : UInt8)) ↔ (s[1]'(by omega)).toNat = 48 := by
            rw [Option.some.injEq]
            exact ⟨fun e => by rw [e]; rfl, fun e => byte_is _ _ (by rw [e]; rfl)⟩
          by_cases hz : (s[1]'(by omega)).toNat = 48
          · rw [if_pos (he.2 hz), if_pos hz]
          · rw [if_neg (fun e => hz (he.1 e)), if_neg hz]
        · refine (one_minus s w h0 g1 (by omega)).mono ?_
          rintro e w' ⟨rfl, rfl⟩
          exact rd_none (by rw [hrd, if_pos (by omega)])
    · have hhead : ¬ s.data.toList.head? = some 45 := by
        rw [hh, Option.some.injEq]; intro e; apply hm; rw [e]; rfl
      have g1 : (((s[0]'h0).toNat : Int) == 45) = false := by rw [beq_eq_false_iff_ne]; omega
      have hrd : rd s.data.toList = if s.size < 1 ∨ 10 < s.size then none else if ¬ (s.data.toList.drop 0).all isDig = true then none else if (s.data.toList.drop 0).head? = some 48 ∧ 1 < s.size then none else if isW (val (s.data.toList.drop 0) : Int) then some (val (s.data.toList.drop 0) : Int) else none := by
        unfold rd; rw [if_neg hhead, len_eq, List.drop_zero]
      by_cases hl : 10 < s.size
      · refine (long_plain s w hs h0 g1 hl).mono ?_
        rintro e w' ⟨rfl, rfl⟩
        exact rd_none (by rw [hrd, if_pos (by omega)])
      · refine short_plain s w h0 g1 (by omega) (by omega) ?_
        rw [hrd, if_neg (by omega)]
        have h2 := get_head s 0 h0
        rw [h2]
        have he : (some (s[0]'h0) = some (48 : UInt8) ∧ 1 < s.size) ↔ ((s[0]'h0).toNat = 48 ∧ 1 < s.size) := by
          rw [Option.some.injEq]
          exact ⟨fun e => ⟨by rw [e.1]; rfl, e.2⟩, fun e => ⟨byte_is _ _ (by rw [e.1]; rfl), e.2⟩⟩
        by_cases hz : (s[0]'h0).toNat = 48 ∧ 1 < s.size
        · rw [if_pos (he.2 hz), if_pos hz]
        · rw [if_neg (fun e => hz (he.1 e)), if_neg hz]
  · obtain rfl : s = ⟨#[]⟩ := by
      obtain ⟨a⟩ := s
      have : a.size = 0 := by have : ¬ 0 < a.size := h0; omega
      rw [Array.size_eq_zero_iff] at this
      rw [this]
    refine (empty_calls w).mono ?_
    rintro e w' ⟨rfl, rfl⟩
    exact rd_none rfl
end Go.Proofs.YtdalncgbbkeimaaDoor.Rp
