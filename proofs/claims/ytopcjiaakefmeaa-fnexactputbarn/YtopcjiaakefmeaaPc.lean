/-
  Contracts of container/heap's up and down over impl.piles: the piles in another order, a heap.
-/
import Derived.Test.YtopcjiaakefmeaaPb
namespace Go.Proofs.Ytopcjiaakefmeaa.Cl
open Go.RowKit Wd Rp Kp
set_option linter.unusedVariables false
/-- Block b holds the slice of piles, which lies behind it. -/
def Hs (B b : Nat) (w : World) (g cap : Nat) (l : List Pile) : Prop := w.cell? ⟨b, 0, none⟩ = some (.slice (some ⟨g, 0, none⟩) l.length cap) ∧ w.frozen? ⟨b, 0, none⟩ = false ∧ RowP (b + 1) w g cap l ∧ PilesOk B w l ∧ B ≤ b ∧ b < w.heap.size
theorem Hs.ne {B b : Nat} {w : World} {g cap : Nat} {l : List Pile} (h : Hs B b w g cap l) : b ≠ g ∧ B ≤ g ∧ g < w.heap.size := by
  obtain ⟨-, -, h3, -, h5, h6⟩ := h
  have := h3.base
  exact ⟨by omega, by omega, this.2.1⟩
theorem Hs.next {B b : Nat} {w w' : World} {g cap : Nat} {l : List Pile} (h : Hs B b w g cap l) (hb : Below w.heap.size w w') : Hs B b w' g cap l := by
  have hg := h.ne.2.2
  obtain ⟨h1, h2, h3, h4, h5, h6⟩ := h
  exact ⟨(hb.cell (p := ⟨b, 0, none⟩) h6).trans h1, (hb.frozen (p := ⟨b, 0, none⟩) h6).trans h2, h3.next (hb.block g hg), h4.low hb.size (fun k hk => hb.block k (by omega)), h5, Nat.lt_of_lt_of_le h6 hb.size⟩
/-- Another order of the same piles in block g. -/
theorem Hs.turn {B b : Nat} {w w' : World} {g cap : Nat} {l m : List Pile} (h : Hs B b w g cap l) (hr : RowP (b + 1) w' g cap m) (ho : Onl g g w w') (hp : List.Perm m l) : Hs B b w' g cap m := by
  have hg := h.ne
  obtain ⟨h1, h2, h3, h4, h5, h6⟩ := h
  have e : w'.heap[b]? = w.heap[b]? := ho.block b h6 hg.1 hg.1
  exact ⟨by rw [hp.length_eq]; exact (World.cell?_of_block (w := w) e).trans h1, (World.frozen?_of_block (w := w) e).trans h2, hr,
    (h4.perm hp).low ho.size (fun k hk => ho.block k (by omega) (by omega) (by omega)), h5, Nat.lt_of_lt_of_le h6 ho.size⟩
theorem Onl.wid {b g : Nat} {w w' : World} (h : Onl g g w w') : Onl b g w w' := ⟨h.os, h.tape, h.output, h.size, fun k hk _ hg => h.block k hk hg hg⟩
theorem PilesOk.widen {B C : Nat} {w : World} {l : List Pile} (h : PilesOk B w l) (hC : B ≤ C) : PilesOk (C + 1) w l := fun p hp => by
  obtain ⟨h1, h2, h3, h4, h5, h6⟩ := h p hp
  exact ⟨h1, h2, h3, h4, h5, fun q hq => by have := h6 q hq; omega⟩
/-- What up leaves. -/
def UpPost (B b g cap : Nat) (l : List Pile) (w : World) (e : Ending) (w' : World) : Prop := ∃ m, e = .returned (.tuple #[]) ∧ List.Perm m l ∧ Hp.Heap Pile.lt m m.length ∧ Hs B b w' g cap m ∧ Onl g g w w'
set_option maxHeartbeats 4000000 in
set_option maxRecDepth 100000 in
theorem up_any (w : World) (B b g cap : Nat) (l : List Pile) (j : Nat) (hj : j < l.length) (hl : l.length ≤ 4194304) (h : Hs B b w g cap l) (hr : Hp.Rise Pile.lt l l.length j) :
    Calls Try.prog 138 #[.iface 139 (.pointer (some ⟨b, 0, none⟩)), .int .i64 (j : Int)] w (UpPost B b g cap l w) := by
  have H := Lib.hid h; clear h
  have HR := Lib.hid hr; clear hr
  go_enter Try.func138, Try.ntmps138
  go_wp2_with fail
  go_loopw [1, 4] (fun x _ wr => ∃ (k : Nat) (m : List Pile), x = .int .i64 (k : Int) ∧ k < m.length ∧ List.Perm m l ∧ Hp.Rise Pile.lt m m.length k ∧ Hs B b wr g cap m ∧ Onl g g w wr) (fun x _ _ => intV x)
  case atStart => exact ⟨j, l, rfl, hj, List.Perm.refl _, HR.out, H.out, Onl.refl _ _ _⟩
  case round =>
    clear H HR
    obtain ⟨k, m, rfl, hk, hp, hr, hs, ho⟩ := hrel
    have HP := Lib.hid hp; clear hp
    have HR := Lib.hid hr; clear hr
    have HS := Lib.hid hs; clear hs
    have HO := Lib.hid ho; clear ho
    have hml : m.length ≤ 4194304 := by rw [HP.out.length_eq]; exact hl
    by_cases h0 : k = 0
    · subst h0
      have q1 : (0 : Int) ≤ 0 := by omega
      go_wp2_with fail
      go_end0
      exact ⟨m, rfl, HP.out, HR.out.top, HS.out, HO.out⟩
    · have hi : (k - 1) / 2 < m.length := by omega
      obtain ⟨p, hpp⟩ : ∃ p, m[(k - 1) / 2]? = some p := ⟨m[(k - 1) / 2], List.getElem?_eq_getElem hi⟩
      obtain ⟨q, hq⟩ : ∃ q, m[k]? = some q := ⟨m[k], List.getElem?_eq_getElem hk⟩
      have hle := lessP_any wr (b + 1) g cap m k ((k - 1) / 2) m.length q p rfl hml HS.out.2.2.1 (HS.out.2.2.2.1.widen HS.out.2.2.2.2.1) hq hpp
      have hsw := fun w1 (hb : Below wr.heap.size wr w1) => swapP_ne w1 g (b + 1) g cap m ((k - 1) / 2) k m.length p q rfl hml (HS.out.next hb).2.2.1 hpp hq (by omega)
      have hci : (((k - 1) / 2 : Nat) : Int) = ((k : Int) - 1) / 2 := by omega
      rw [hci] at hle hsw
      have HI := Lib.hid hci; clear hci
      have hkk : (((k : Int) - 1) / 2 == (k : Int)) = false := by rw [beq_eq_false_iff_ne]; omega
      have q1 : (1 : Int) ≤ (k : Int) := by omega
      have q2 : (k : Int) ≤ 4194304 := by omega
      have ml := m_less b _ wr HS.out.1
      have el := e_less
      cases hlt : q.lt p
      · rw [hlt] at hle
        have HL := Lib.hid hle; clear hle
        have HT := Lib.hid (HR.out.stop hq hpp hlt)
        clear hlt hsw hq hpp
        go_wp2_with fail
        refine HL.out.mono ?_; rintro e w1 ⟨rfl, b1⟩
        have S1 := Lib.hid (HS.out.next b1)
        have O1 := Lib.hid (HO.out.next b1); clear b1
        go_wp2_with fail
        go_end0
        exact ⟨m, rfl, HP.out, HT.out, S1.out, O1.out⟩
      · rw [hlt] at hle
        have HL := Lib.hid hle; clear hle
        have HW := Lib.hid hsw; clear hsw
        have HT := Lib.hid (HR.out.up lt_ord (Nat.le_refl _) (by omega) hk rfl hpp hq hlt)
        have HQ := Lib.hid ((Hp.swp_perm m _ _ p q hpp hq).trans HP.out)
        have HM := Lib.hid (Hp.swp_perm m _ _ p q hpp hq)
        clear hlt hq hpp
        go_wp2_with fail
        refine HL.out.mono ?_; rintro e w1 ⟨rfl, b1⟩
        have S1 := HS.out.next b1
        have O1 := Lib.hid (HO.out.next b1)
        have ms := m_swap b _ w1 S1.1
        have es := e_swap
        have HW1 := Lib.hid (HW.out w1 b1)
        have HS1 := Lib.hid S1
        clear b1 ml el S1
        go_wp2_with fail
        refine HW1.out.mono ?_; rintro e w2 ⟨rfl, r2, o2⟩
        have S2 := Lib.hid (HS1.out.turn r2 o2 HM.out)
        have O2 := Lib.hid (O1.out.trans o2)
        clear r2 o2 ms es
        have HN := Lib.hid (Hp.swp_len m ((k - 1) / 2) k p q)
        generalize Hp.swp m ((k - 1) / 2) k p q = m' at *
        go_wp2_with fail
        go_roundw
        case rel => exact ⟨(k - 1) / 2, m', by rw [HI.out], by rw [HN.out]; exact hi, HQ.out, by rw [HN.out]; exact HT.out, S2.out, O2.out⟩
        case measure => simp [intV]; omega
end Go.Proofs.Ytopcjiaakefmeaa.Cl
