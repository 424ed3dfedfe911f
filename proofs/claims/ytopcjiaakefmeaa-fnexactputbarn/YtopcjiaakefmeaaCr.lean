/-
  Contracts of spec.l4Find and spec.Find: 'findR', 'findP'.
-/
import Derived.Test.YtopcjiaakefmeaaCk
import Derived.Test.YtopcjiaakefmeaaZk
namespace Go.Proofs.Ytopcjiaakefmeaa.Cl
open Go.RowKit Wd Rp Kp
set_option linter.unusedVariables false
def zz : Cel := ⟨⟨#[]⟩, ⟨#[]⟩, 0, 0, false⟩
def findR (l : List Cel) (K : Cel) : Cel × Bool := match findL l K with | some c => (c, true) | none => (zz, false)
def Cel.agg (c : Cel) : Value := .agg #[.string c.r, .string c.b, .int .i64 c.t, .int .i64 c.v, .bool c.g]
theorem findP_no {l : List Cel} {K : Cel} (h : (okL l && keyB K.r.data.toList K.b.data.toList K.t) = false) : findP l K = (zz, false) := by unfold findP; rw [h]; rfl
theorem findP_yes {l : List Cel} {K : Cel} (h : okL l = true) (hK : keyB K.r.data.toList K.b.data.toList K.t = true) : findP l K = findR l K := by unfold findP findR; rw [h, hK]; rfl
theorem findR_hit {l : List Cel} {K c : Cel} {k : Nat} (hlo : ∀ m d, m < k → l[m]? = some d → hit K d = false) (hc : l[k]? = some c) (hh : hit K c = true) : findR l K = (c, true) := by
  unfold findR findL; rw [find_yes hc hlo hh]
theorem findR_end {l : List Cel} {K : Cel} (hlo : ∀ m d, m < l.length → l[m]? = some d → hit K d = false) : findR l K = (zz, false) := by
  unfold findR findL
  rw [find_no fun m d hd => hlo m d (List.getElem?_eq_some_iff.1 hd).1 hd]
def FindPost (x : Cel × Bool) (w : World) (e : Ending) (w' : World) : Prop := e = .returned (.tuple #[x.1.agg, .bool x.2]) ∧ Below w.heap.size w w'
set_option maxHeartbeats 8000000 in
theorem l4Find_any (w : World) (a : Option Addr) (cap : Nat) (l : List Cel) (K : Cel) (n : Nat) (hn : l.length = n) (hv : Vw w a cap l) (hl : n ≤ 4194304) :
    Calls Try.prog 70 #[.slice a n cap, .string K.r, .string K.b, .int .i64 K.t] w (FindPost (findR l K) w) := by
  go_enter Try.func70, Try.ntmps70
  go_wp2_with fail
  have Z0 := Zc.made w 33
  have b0 := bel1 w (.cells #[.string ⟨#[]⟩, .string ⟨#[]⟩, .int .i64 0, .int .i64 0, .bool false] 33)
  have hv0 := hv.below b0
  generalize w.alloc (Obj.cells #[Value.string { data := #[] }, Value.string { data := #[] }, Value.int IntKind.i64 0, Value.int IntKind.i64 0, Value.bool false] 33) = w0 at Z0 b0 hv0 ⊢
  have HB0 := Lib.hid b0; clear b0 hv
  have HZ := Lib.hid Z0; clear Z0
  have HV := Lib.hid hv0; clear hv0
  generalize hq0 : w.heap.size = q at HZ ⊢
  have hqB : w.heap.size ≤ q := by omega
  clear hq0
  go_loopw [10, 11] (fun i _ wr => ∃ k : Nat, k ≤ n ∧ i = .int .i64 k ∧ (∀ m d, m < k → l[m]? = some d → hit K d = false) ∧ Below w0.heap.size w0 wr) (fun i _ _ => n - intV i)
  case atStart => exact ⟨0, Nat.zero_le _, rfl, (fun m d hm => by omega), Below.refl _ _⟩
  case round =>
    obtain ⟨k, hk, rfl, hlo, hbel⟩ := hrel
    have HB := Lib.hid hbel; clear hbel
    have HLO := Lib.hid hlo; clear hlo
    have BW := Lib.hid (bel_tr HB0.out HB.out (Nat.le_refl _))
    by_cases hlt : k < n
    · obtain ⟨c, hc⟩ : ∃ c, l[k]? = some c := ⟨l[k], List.getElem?_eq_getElem (by omega)⟩
      obtain ⟨g, o, rfl, hg, h5⟩ := HV.out.2.2.2 k c hc
      obtain ⟨c0, c1, c2, c3, c4⟩ : At5 wr g (o + k * 5) c := h5.same (HB.out.block g hg)
      have hg' : g < wr.heap.size := Nat.lt_of_lt_of_le hg HB.out.size
      have HC := Lib.hid hc; clear hc h5 hg
      have HBA := Lib.hid (bel1 wr)
      have HS : ∀ x, hit K c = false → x = k + 1 → ∀ m d, m < x → l[m]? = some d → hit K d = false := fun x hx e m d hm hd => by
        by_cases em : m = k
        · subst em; rw [HC.out] at hd; cases hd; exact hx
        · exact HLO.out m d (by omega) hd
      have HSS := Lib.hid HS; clear HS
      cases h1 : (c.r.toList == K.r.toList)
      · have HS2 := Lib.hid (HSS.out _ (by unfold hit; rw [h1]; rfl) rfl)
        go_wp2_with fail
        go_roundw
        case rel => exact ⟨k + 1, by omega, by go_num, HS2.out, bel_tr HB.out (HBA.out _) (Nat.le_refl _)⟩
        case measure => simp [intV]; omega
      · cases h2 : (c.b.toList == K.b.toList)
        · have HS2 := Lib.hid (HSS.out _ (by unfold hit; rw [h1, h2]; rfl) rfl)
          go_wp2_with fail
          go_roundw
          case rel => exact ⟨k + 1, by omega, by go_num, HS2.out, bel_tr HB.out (HBA.out _) (Nat.le_refl _)⟩
          case measure => simp [intV]; omega
        · by_cases h3 : c.t ≤ K.t
          · have HH := Lib.hid (findR_hit HLO.out HC.out (by unfold hit; rw [h1, h2, decide_eq_true h3]; rfl))
            obtain ⟨⟨z0, z1, z2, z3, z4⟩, ⟨f0, f1, f2, f3, f4⟩, hl⟩ := (HZ.out.next HB.out).next (HBA.out (.cells #[.string c.r, .string c.b, .int .i64 c.t] 31))
            have BA := Lib.hid (bel_tr BW.out (HBA.out (.cells #[.string c.r, .string c.b, .int .i64 c.t] 31)) (Nat.le_refl _))
            go_wp2_with fail
            refine bodyPost_ret (v := .tuple #[c.agg, .bool true]) (by simp [results, Try.results70, go_sem, z0, z1, z2, z3, z4, Cel.agg]) rfl ⟨by rw [HH.out], ?_⟩
            exact bel_set5 BA.out hqB _ _ _ _ _
          · have HS2 := Lib.hid (HSS.out _ (by unfold hit; rw [h1, h2, decide_eq_false h3]; rfl) rfl)
            go_wp2_with fail
            go_roundw
            case rel => exact ⟨k + 1, by omega, by go_num, HS2.out, bel_tr HB.out (HBA.out _) (Nat.le_refl _)⟩
            case measure => simp [intV]; omega
    · obtain rfl : k = n := by omega
      have HE := Lib.hid (findR_end (K := K) (by rw [hn]; exact HLO.out))
      obtain ⟨⟨z0, z1, z2, z3, z4⟩, ⟨f0, f1, f2, f3, f4⟩, hl⟩ := HZ.out.next HB.out
      go_wp2_with fail
      refine bodyPost_ret (v := .tuple #[.agg #[.string ⟨#[]⟩, .string ⟨#[]⟩, .int .i64 0, .int .i64 0, .bool false], .bool false]) (by simp [results, Try.results70, go_sem, z0, z1, z2, z3, z4]) rfl ⟨by rw [HE.out]; rfl, ?_⟩
      exact bel_set5 BW.out hqB _ _ _ _ _
theorem findR_is {l : List Cel} {K : Cel} {x : Cel} {y : Bool} (h : findR l K = (x, y)) (w : World) (a : Option Addr) (cap : Nat) (n : Nat) (hn : l.length = n) (hv : Vw w a cap l) (hl : n ≤ 4194304) :
    Calls Try.prog 70 #[.slice a n cap, .string K.r, .string K.b, .int .i64 K.t] w fun e w' => e = .returned (.tuple #[.agg #[.string x.r, .string x.b, .int .i64 x.t, .int .i64 x.v, .bool x.g], .bool y]) ∧ Below w.heap.size w w' := by
  have := l4Find_any w a cap l K n hn hv hl
  rw [h] at this
  exact this
set_option maxHeartbeats 4000000 in
theorem specFind_any (w : World) (a : Option Addr) (cap : Nat) (l : List Cel) (K : Cel) (n : Nat) (hn : l.length = n) (hv : Vw w a cap l) (hm : ∀ c ∈ l, c.mod) (hK : K.mod) (hl : n ≤ 4194304) :
    Calls Try.prog 20 #[.slice a n cap, .string K.r, .string K.b, .int .i64 K.t] w (FindPost (findP l K) w) := by
  have HM := Lib.hid hm; clear hm
  have HK := Lib.hid hK; clear hK
  go_enter Try.func20, Try.ntmps20
  go_wp2_with fail
  have Z0 := Zc.made w 33
  have b0 := bel1 w (.cells #[.string ⟨#[]⟩, .string ⟨#[]⟩, .int .i64 0, .int .i64 0, .bool false] 33)
  have hv0 := hv.below b0
  generalize w.alloc (Obj.cells #[Value.string { data := #[] }, Value.string { data := #[] }, Value.int IntKind.i64 0, Value.int IntKind.i64 0, Value.bool false] 33) = w0 at Z0 b0 hv0 ⊢
  have HB0 := Lib.hid b0; clear b0 hv
  have HZ := Lib.hid Z0; clear Z0
  have HV := Lib.hid hv0; clear hv0
  generalize hq0 : w.heap.size = q at HZ ⊢
  have hqB : w.heap.size ≤ q := by omega
  clear hq0
  cases hok : okL l
  · have HP := Lib.hid (findP_no (l := l) (K := K) (by rw [hok]; rfl))
    refine (specCells_is hok w0 a cap n hn HV.out HM.out hl).mono ?_; rintro e w1 ⟨rfl, b1⟩
    obtain ⟨⟨z0, z1, z2, z3, z4⟩, ⟨f0, f1, f2, f3, f4⟩, -⟩ := HZ.out.next b1
    have B1 := Lib.hid (bel_tr HB0.out b1 (Nat.le_refl _)); clear b1 hok
    go_wp2_with fail
    refine bodyPost_ret (v := .tuple #[.agg #[.string ⟨#[]⟩, .string ⟨#[]⟩, .int .i64 0, .int .i64 0, .bool false], .bool false]) (by simp [results, Try.results20, go_sem, z0, z1, z2, z3, z4]) rfl ⟨by rw [HP.out]; rfl, ?_⟩
    exact bel_set5 B1.out hqB _ _ _ _ _
  · have HO := Lib.hid (specCells_is hok w0 a cap n hn HV.out HM.out hl)
    cases hkb : keyB K.r.data.toList K.b.data.toList K.t
    · have HP := Lib.hid (findP_no (l := l) (K := K) (by rw [hkb, Bool.and_false]))
      have HKB := Lib.hid (fun w => specKey_is hkb w HK.out.1 HK.out.2); clear hkb hok
      refine HO.out.mono ?_; rintro e w1 ⟨rfl, b1⟩
      have Z1 := Lib.hid (HZ.out.next b1)
      have B1 := Lib.hid (bel_tr HB0.out b1 (Nat.le_refl _)); clear b1
      go_wp2_with fail
      refine (HKB.out _).mono ?_; rintro e w2 ⟨rfl, b2⟩
      obtain ⟨⟨z0, z1, z2, z3, z4⟩, ⟨f0, f1, f2, f3, f4⟩, -⟩ := Z1.out.next b2
      have B2 := Lib.hid (bel_tr B1.out b2 (Nat.le_refl _)); clear b2
      go_wp2_with fail
      refine bodyPost_ret (v := .tuple #[.agg #[.string ⟨#[]⟩, .string ⟨#[]⟩, .int .i64 0, .int .i64 0, .bool false], .bool false]) (by simp [results, Try.results20, go_sem, z0, z1, z2, z3, z4]) rfl ⟨by rw [HP.out]; rfl, ?_⟩
      exact bel_set5 B2.out hqB _ _ _ _ _
    · obtain ⟨x, y, hxy⟩ : ∃ x y, findR l K = (x, y) := ⟨_, _, rfl⟩
      have HP := Lib.hid ((findP_yes hok hkb).trans hxy)
      have HKB := Lib.hid (fun w => specKey_is hkb w HK.out.1 HK.out.2); clear hkb hok
      have HF := Lib.hid (findR_is hxy); clear hxy
      refine HO.out.mono ?_; rintro e w1 ⟨rfl, b1⟩
      have Z1 := Lib.hid (HZ.out.next b1)
      have V1 := Lib.hid (HV.out.below b1)
      have B1 := Lib.hid (bel_tr HB0.out b1 (Nat.le_refl _)); clear b1
      go_wp2_with fail
      refine (HKB.out _).mono ?_; rintro e w2 ⟨rfl, b2⟩
      have Z2 := Lib.hid (Z1.out.next b2)
      have V2 := Lib.hid (V1.out.below b2)
      have B2 := Lib.hid (bel_tr B1.out b2 (Nat.le_refl _)); clear b2
      go_wp2_with fail
      refine (HF.out _ a cap n hn V2.out hl).mono ?_; rintro e w3 ⟨rfl, b3⟩
      obtain ⟨⟨z0, z1, z2, z3, z4⟩, ⟨f0, f1, f2, f3, f4⟩, -⟩ := Z2.out.next b3
      have B3 := Lib.hid (bel_tr B2.out b3 (Nat.le_refl _)); clear b3
      go_wp2_with fail
      refine bodyPost_ret (v := .tuple #[x.agg, .bool y]) (by simp [results, Try.results20, go_sem, z0, z1, z2, z3, z4, Cel.agg]) rfl ⟨by rw [HP.out], ?_⟩
      exact bel_set5 B3.out hqB _ _ _ _ _
end Go.Proofs.Ytopcjiaakefmeaa.Cl
