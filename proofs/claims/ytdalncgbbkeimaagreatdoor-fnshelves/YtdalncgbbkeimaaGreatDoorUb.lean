/-
  Shelves' texts: 'stP' (the frames of the cells' texts, one behind the other); contracts of spec.ShelfText and impl.ShelfText.
-/
import Derived.Test.YtdalncgbbkeimaaGreatDoorCd
import Derived.Test.YtdalncgbbkeimaaGreatDoorCe
import Derived.Test.YtdalncgbbkeimaaGreatDoorSa
import Derived.Test.YtdalncgbbkeimaaGreatDoorSf
import Derived.Test.YtdalncgbbkeimaaGreatDoorFd
namespace Go.Proofs.YtdalncgbbkeimaaGreatDoor.Cl
open Go.RowKit Wd Rp Kp Fq
set_option linter.unusedVariables false
def Cel.txt (c : Cel) : List UInt8 := showB c.r.data.toList c.b.data.toList c.t c.v c.g
def stB (l : List Cel) : List UInt8 := tot (l.map Cel.txt)
def stP (l : List Cel) : List UInt8 := if okL l then stB l else []
theorem stP_no {l : List Cel} (h : okL l = false) : stP l = [] := by unfold stP; rw [h]; rfl
theorem stP_yes {l : List Cel} (h : okL l = true) : stP l = stB l := by unfold stP; rw [h]; rfl
theorem low_nn {c : UInt8} (h : isLow c = true) : nn c = true := by
  unfold isLow at h; unfold nn
  simp only [Bool.and_eq_true, decide_eq_true_eq] at h
  rw [bne_iff_ne]; intro e; subst e; revert h; decide
theorem itoa_nn (n : Int) : (Lib.itoa n).all nn = true := by
  unfold Lib.itoa
  split
  · rw [List.all_cons, all_mono dig_nn (dec_is _ n.natAbs (Nat.le_refl _)).1]; rfl
  · exact all_mono dig_nn (dec_is _ n.toNat (Nat.le_refl _)).1
/-- A cell's text is plain, and short. -/
theorem txt_plain {c : Cel} (h : c.ok = true) : plB c.txt = true ∧ c.txt.length ≤ 61 := by
  obtain ⟨hr, hb, t0, t1, v0, v1⟩ := cell_facts h
  have hk : keyB c.r.data.toList c.b.data.toList c.t = true := by
    unfold Cel.ok cellB at h; rw [Bool.and_eq_true] at h; exact h.1
  have hn := keyB_iff.1 hk
  have a1 : c.r.data.toList.all nn = true := by have := hn.1; unfold nmB at this; rw [Bool.and_eq_true] at this; exact all_mono low_nn this.1
  have a2 : c.b.data.toList.all nn = true := by have := hn.2.1; unfold nmB at this; rw [Bool.and_eq_true] at this; exact all_mono low_nn this.1
  have a4 : (valT c.v c.g).all nn = true := by unfold valT; split; decide; exact itoa_nn _
  have l3 := Lib.itoa_length_le c.t (by omega) (by omega)
  have l4 : (valT c.v c.g).length ≤ 21 := by
    unfold valT; split
    · decide
    · exact Lib.itoa_length_le c.v (by omega) (by omega)
  have l1 : c.r.data.toList.length ≤ 8 := by rw [llen]; exact hr
  have l2 : c.b.data.toList.length ≤ 8 := by rw [llen]; exact hb
  have hl : c.txt.length ≤ 61 := by unfold Cel.txt showB; simp only [List.length_append, List.length_cons]; omega
  refine ⟨plB_iff.2 ⟨?_, by omega⟩, hl⟩
  unfold Cel.txt showB
  simp only [List.all_append, List.all_cons, a1, a2, a4, itoa_nn, Bool.and_true, Bool.true_and]
  decide
theorem tot_app (a b : List (List UInt8)) : tot (a ++ b) = tot a ++ tot b := by unfold tot; rw [List.map_append, List.flatten_append]
theorem stB_snoc (l : List Cel) (c : Cel) : stB (l ++ [c]) = stB l ++ fr c.txt := by unfold stB; rw [List.map_append, tot_app]; simp [tot]
theorem fr_len61 {t : List UInt8} (h : t.length ≤ 61) : (fr t).length ≤ 110 := by
  have h1 := dec_len 1 t.length (by omega)
  have h2 := dec_len 4 (mkN t) (by have := mk_lt t; omega)
  unfold fr
  simp only [List.length_append, List.length_cons, List.length_nil]
  omega
theorem stB_len {l : List Cel} (h : ∀ c ∈ l, c.ok = true) : (stB l).length ≤ l.length * 110 := by
  induction l with
  | nil => simp [stB, tot]
  | cons c l ih =>
    have h1 := fr_len61 (txt_plain (h c List.mem_cons_self)).2
    have h2 := ih fun d hd => h d (List.mem_cons_of_mem _ hd)
    have e : stB (c :: l) = fr c.txt ++ stB l := by simp [stB, tot]
    rw [e, List.length_append, List.length_cons]; omega
theorem implC_is {l : List Cel} {x : Bool} (h : okL l = x) (w : World) (a : Option Addr) (cap : Nat) (n : Nat) (hn : l.length = n) (hv : Vw w a cap l) (hlen : n ≤ 4194304) :
    Calls Tryz.prog 12 #[.slice a n cap] w fun e w' => e = .returned (.bool x) ∧ Below w.heap.size w w' := by
  subst hn; rw [← h]; exact implCells_any w a cap l hv hlen
theorem specC_is {l : List Cel} {x : Bool} (h : okL l = x) (w : World) (a : Option Addr) (cap : Nat) (n : Nat) (hn : l.length = n) (hv : Vw w a cap l) (hm : ∀ c ∈ l, c.mod) (hlen : n ≤ 4194304) :
    Calls Tryz.prog 13 #[.slice a n cap] w fun e w' => e = .returned (.bool x) ∧ Below w.heap.size w w' := by
  subst hn; rw [← h]; exact specCells_any w a cap l hv hm hlen
theorem okm {l : List Cel} (h : okL l = true) : ∀ c ∈ l, c.ok = true := fun c hc => by
  obtain ⟨k, hk⟩ := List.mem_iff_getElem?.1 hc
  exact ok_get h hk
def StPost (l : List Cel) (w : World) (e : Ending) (w' : World) : Prop := e = .returned (.string (tx (stP l))) ∧ Below w.heap.size w w'
theorem take_snocC {l : List Cel} {i : Nat} {c : Cel} (h : l[i]? = some c) : l.take (i + 1) = l.take i ++ [c] := by
  rw [List.take_succ_eq_append_getElem (List.getElem?_eq_some_iff.1 h).1]
  congr 2
  rw [List.getElem?_eq_getElem (List.getElem?_eq_some_iff.1 h).1] at h
  exact Option.some.inj h
theorem tx_app (a b : List UInt8) : tx a ++ tx b = tx (a ++ b) := by
  apply ByteArray.ext
  simp [tx]
set_option maxHeartbeats 4000000 in
set_option maxRecDepth 100000 in
theorem specShelf_any (w : World) (a : Option Addr) (cap : Nat) (l : List Cel) (n : Nat) (hn : l.length = n) (hv : Vw w a cap l) (hm : ∀ c ∈ l, c.mod) (hl : n ≤ 4194304) :
    Calls Tryz.prog 11 #[.slice a n cap] w (StPost l w) := by
  have HV := Lib.hid hv; clear hv
  have HM := Lib.hid hm; clear hm
  have HN := Lib.hid hn; clear hn
  cases h1 : okL l
  · have HP := Lib.hid (stP_no h1)
    have hn1 : 0 < n := by
      rcases Nat.eq_zero_or_pos n with h0 | h0
      · have : l = [] := List.length_eq_zero_iff.1 (by rw [HN.out]; exact h0)
        subst this; cases h1
      · exact h0
    have H1 := Lib.hid h1; clear h1
    have i1 : (0 : Int) < (n : Int) := by omega
    go_enter Tryz.func11, Tryz.ntmps11
    go_wp2_with fail
    go_loopw [3, 4] (fun s i wr => s = .string ⟨#[]⟩ ∧ i = .int .i64 0 ∧ Below w.heap.size w wr) (fun _ _ _ => 0)
    case atStart => exact ⟨rfl, rfl, Below.refl _ _⟩
    case round =>
      obtain ⟨rfl, rfl, hb⟩ := hrel
      have HB := Lib.hid hb; clear hb
      go_wp2_with fail
      refine (specC_is H1.out _ a cap n HN.out (HV.out.below HB.out) HM.out hl).mono ?_; rintro e w1 ⟨rfl, b1⟩
      have B1 := Lib.hid (bel_tr HB.out b1 (Nat.le_refl _)); clear b1
      go_wp2_with fail
      go_ret
      exact ⟨by rw [HP.out]; rfl, B1.out⟩
  · have HP := Lib.hid (stP_yes h1)
    have hl2 : n ≤ 200 := by rw [← HN.out]; exact (okL_iff.1 h1).2
    have H1 := Lib.hid h1
    have HOK := Lib.hid (okm h1); clear h1
    go_enter Tryz.func11, Tryz.ntmps11
    go_wp2_with fail
    go_loopw [3, 4] (fun s x wr => ∃ i : Nat, s = .string (tx (stB (l.take i))) ∧ x = .int .i64 (i : Int) ∧ i ≤ n ∧ Below w.heap.size w wr) (fun _ x _ => n - intV x)
    case atStart => exact ⟨0, rfl, rfl, Nat.zero_le _, Below.refl _ _⟩
    case round =>
      obtain ⟨i, rfl, rfl, hi, hb⟩ := hrel
      have HB := Lib.hid hb; clear hb
      by_cases hlt : i < n
      · obtain ⟨c, hc⟩ : ∃ c, l[i]? = some c := ⟨l[i]'(by rw [HN.out]; exact hlt), List.getElem?_eq_getElem _⟩
        obtain ⟨g, o, e1, hg, h5⟩ := HV.out.2.2.2 i c hc
        cases e1
        have HC5 := Lib.hid h5; clear h5
        have hco := HOK.out c (List.mem_of_getElem? hc)
        have HSN := Lib.hid (show stB (l.take (i + 1)) = stB (l.take i) ++ fr c.txt by rw [take_snocC hc, stB_snoc])
        have hs1 : (stB (l.take i)).length ≤ 22000 := by
          have := stB_len (l := l.take i) (fun d hd => HOK.out d (List.mem_of_mem_take hd))
          rw [List.length_take] at this; omega
        have hs2 := fr_len61 (txt_plain hco).2
        have HSH := Lib.hid (fun z => l4Show_any c.r c.b c.t c.v c.g z hco)
        have HFR := Lib.hid (fun z => show Calls Tryz.prog 23 #[.string (tx c.txt)] z (FrPost (fr c.txt) z) from by
          have := l3Frame_any (tx c.txt) z (by have := (txt_plain hco).2; simp [tx, ByteArray.size]; omega)
          exact this)
        have z1 : (tx (stB (l.take i))).size ≤ 22000 := by simp [tx, ByteArray.size]; omega
        have z2 : (tx (fr c.txt)).size ≤ 110 := by simp [tx, ByteArray.size]; omega
        have HJ := Lib.hid (tx_app (stB (l.take i)) (fr c.txt))
        have hsum : ¬ 9223372036854775807 < (tx (stB (l.take i))).size + (tx (fr c.txt)).size := by omega
        have HCT := Lib.hid (show c.txt = showB c.r.data.toList c.b.data.toList c.t c.v c.g from rfl)
        clear hc hco hs1 hs2
        rw [← HCT.out] at HSH
        generalize tx (stB (l.take i)) = sa at *
        generalize hfb : tx (fr c.txt) = sb at *
        generalize tx c.txt = sc at *
        have i1 : (i : Int) < (n : Int) := by omega
        have i2 : (0 : Int) ≤ (i : Int) := by omega
        go_wp2_with fail
        refine (specC_is H1.out _ (some ⟨g, o, none⟩) cap n HN.out (HV.out.below HB.out) HM.out hl).mono ?_; rintro e w1 ⟨rfl, b1⟩
        have B1 := Lib.hid (bel_tr HB.out b1 (Nat.le_refl _)); clear b1
        obtain ⟨c0, c1, c2, c3, c4⟩ : At5 w1 g (o + i * 5) c := HC5.out.same (B1.out.block g hg)
        have HFB := Lib.hid hfb; clear hfb
        go_wp2_with fail
        refine (HSH.out _).mono ?_; rintro e w2 ⟨rfl, b2⟩
        have B2 := Lib.hid (bel_tr B1.out b2 (Nat.le_refl _)); clear b2 c0 c1 c2 c3 c4
        go_wp2_with fail
        refine (HFR.out _).mono ?_; rintro e w3 ⟨rfl, b3⟩
        have B3 := Lib.hid (bel_tr B2.out b3 (Nat.le_refl _)); clear b3
        rw [HFB.out]
        go_wp2_with fail
        go_roundw
        case rel => exact ⟨i + 1, by rw [HSN.out, ← HJ.out], by go_num, by omega, B3.out⟩
        case measure => simp [intV]; omega
      · have HE := Lib.hid (show l.take i = l from List.take_of_length_le (by rw [HN.out]; omega))
        have i1 : ¬ (i : Int) < (n : Int) := by omega
        go_wp2_with fail
        go_ret
        exact ⟨by rw [HP.out, HE.out]; rfl, HB.out⟩
end Go.Proofs.YtdalncgbbkeimaaGreatDoor.Cl
namespace Go.Proofs.YtdalncgbbkeimaaGreatDoor.Cl
open Go.RowKit Wd Rp Kp Fq
set_option linter.unusedVariables false
theorem bat_next {T e : TypeId} {B b : Nat} {p : Value} {bs : List Value} {w w' : World} (h : Lib.BuilderAt T e B b p bs w) (hb : Below w.heap.size w w') : Lib.BuilderAt T e B b p bs w' := by
  have hlt := h.lt
  obtain ⟨hB, v, h1, h2, h3⟩ := h
  exact ⟨hB, v, (hb.block b hlt).trans h1, row_next h2 (fun g _ hg => hb.block g hg), h3⟩
theorem isb_next {T e : TypeId} {B b : Nat} {bs : List Value} {w w' : World} (h : Lib.IsBuilder T e B b bs w) (hb : Below w.heap.size w w') : Lib.IsBuilder T e B b bs w' := h.imp (fun g => bat_next g hb) (fun g => bat_next g hb)
theorem write_any (B b : Nat) (bs : List Value) (s : ByteArray) (w : World) (h : Lib.IsBuilder 34 5 B b bs w) (hlen : bs.length + s.size ≤ 140737488355328) (hBw : B ≤ w.heap.size) :
    Calls Tryz.prog 15 #[.pointer (some ⟨b, 0, none⟩), .string s] w fun e w' => e = .returned (.tuple #[.int .i64 s.size, .nilIface]) ∧ (Lib.BuilderAt 34 5 B b (.pointer (some ⟨b, 0, none⟩)) (bs ++ Lib.strCells s) w' ∧ Below B w w') :=
  Any.Builder_WriteString { Tryz.lays156 with } Tryz.Builder_Extra_156 B b bs s w h hlen hBw
theorem cells_tx (l : List UInt8) : Lib.strCells (tx l) = Lib.byteCells l := by simp [Lib.strCells, Lib.byteCells, tx]
theorem bytes_app (a b : List UInt8) : Lib.byteCells (a ++ b) = Lib.byteCells a ++ Lib.byteCells b := by simp [Lib.byteCells]
theorem bytes_len (a : List UInt8) : (Lib.byteCells a).length = a.length := by simp [Lib.byteCells]
set_option maxHeartbeats 4000000 in
set_option maxRecDepth 100000 in
theorem implShelf_any (w : World) (a : Option Addr) (cap : Nat) (l : List Cel) (n : Nat) (hn : l.length = n) (hv : Vw w a cap l) (hl : n ≤ 4194304) (hL : LibT w) :
    Calls Tryz.prog 6 #[.slice a n cap] w (StPost l w) := by
  have HV := Lib.hid hv; clear hv
  have HN := Lib.hid hn; clear hn
  have HL := Lib.hid hL; clear hL
  cases h1 : okL l
  · have HP := Lib.hid (stP_no h1)
    have H1 := Lib.hid h1; clear h1
    go_enter Tryz.func6, Tryz.ntmps6
    go_wp2_with fail
    refine (implC_is H1.out _ a cap n HN.out HV.out hl).mono ?_; rintro e w1 ⟨rfl, b1⟩
    have B1 := Lib.hid b1; clear b1
    go_wp2_with fail
    go_ret
    exact ⟨by rw [HP.out]; rfl, B1.out⟩
  · have HP := Lib.hid (stP_yes h1)
    have hl2 : n ≤ 200 := by rw [← HN.out]; exact (okL_iff.1 h1).2
    have H1 := Lib.hid h1
    have HOK := Lib.hid (okm h1); clear h1
    go_enter Tryz.func6, Tryz.ntmps6
    go_wp2_with fail
    refine (implC_is H1.out _ a cap n HN.out HV.out hl).mono ?_; rintro e w1 ⟨rfl, b1⟩
    have B1 := Lib.hid b1; clear b1
    have HST := Lib.hid (Lib.fresh_isBuilder 34 5 w1)
    have BST := Lib.hid (bel1 w1 (.cells #[.pointer none, .slice none 0 0] 34))
    go_wp2_with fail
    generalize hq : w1.heap.size = Q at *
    have HQ := Lib.hid hq; clear hq
    go_loopw [11] (fun x wr => ∃ i : Nat, x = .int .i64 (i : Int) ∧ i ≤ n ∧ Lib.IsBuilder 34 5 Q Q (Lib.byteCells (stB (l.take i))) wr ∧ Below Q w1 wr) (fun x _ => n - intV x)
    case atStart => exact ⟨0, rfl, Nat.zero_le _, HST.out, BST.out⟩
    case round =>
      clear HST BST
      obtain ⟨i, rfl, hi, hbu, hb⟩ := hrel
      have HBU := Lib.hid hbu; clear hbu
      have HB := Lib.hid hb; clear hb
      have HBW := Lib.hid (show Below w.heap.size w wr from B1.out.trans (HB.out.mono (by rw [← HQ.out]; exact B1.out.size)))
      have hQr : Q ≤ wr.heap.size := by rw [← HQ.out]; exact HB.out.size
      by_cases hlt : i < n
      · obtain ⟨c, hc⟩ : ∃ c, l[i]? = some c := ⟨l[i]'(by rw [HN.out]; exact hlt), List.getElem?_eq_getElem _⟩
        obtain ⟨g, o, e1, hg, h5⟩ := HV.out.2.2.2 i c hc
        cases e1
        obtain ⟨c0, c1, c2, c3, c4⟩ : At5 wr g (o + i * 5) c := h5.same (HBW.out.block g hg)
        have hco := HOK.out c (List.mem_of_getElem? hc)
        have HSN := Lib.hid (show Lib.byteCells (stB (l.take (i + 1))) = Lib.byteCells (stB (l.take i)) ++ Lib.strCells (tx (fr c.txt)) by rw [take_snocC hc, stB_snoc, bytes_app, cells_tx])
        have hs1 : (stB (l.take i)).length ≤ 22000 := by
          have := stB_len (l := l.take i) (fun d hd => HOK.out d (List.mem_of_mem_take hd))
          rw [List.length_take] at this; omega
        have hs2 := fr_len61 (txt_plain hco).2
        have HSH := Lib.hid (fun z (hz : LibT z) => show Calls Tryz.prog 17 #[.agg #[.string c.r, .string c.b, .int .i64 c.t, .int .i64 c.v, .bool c.g]] z fun e w' => e = .returned (.string (tx c.txt)) ∧ Below z.heap.size z w' from by
          have := implShow_any c.r c.b c.t c.v c.g z hz
          unfold ShPost at this
          rw [shB_yes hco] at this
          exact this)
        have HFR := Lib.hid (fun z (hz : LibT z) => show Calls Tryz.prog 16 #[.string (tx c.txt)] z fun e w' => e = .returned (.string (tx (fr c.txt))) ∧ Below z.heap.size z w' from by
          have := implFramed_any (tx c.txt) z hz
          unfold FrPost at this
          rw [show (tx c.txt).data.toList = c.txt from rfl, frm_yes (txt_plain hco).1] at this
          exact this)
        have HLN := Lib.hid (show (Lib.byteCells (stB (l.take i))).length + (tx (fr c.txt)).size ≤ 140737488355328 by rw [bytes_len]; simp [tx, ByteArray.size]; omega)
        clear hc hco hs1 hs2 h5
        generalize tx (fr c.txt) = sb at *
        generalize tx c.txt = sc at *
        have i1 : (i : Int) < (n : Int) := by omega
        have i2 : (0 : Int) ≤ (i : Int) := by omega
        have BA := Lib.hid (bel1 wr (.cells #[.string c.r, .string c.b, .int .i64 c.t, .int .i64 c.v, .bool c.g] 38))
        have HLR := Lib.hid ((HL.out.next HBW.out).next BA.out)
        have HBA := Lib.hid (isb_next HBU.out BA.out)
        have BQ := Lib.hid (HB.out.trans (BA.out.mono hQr))
        go_wp2_with fail
        refine (HSH.out _ HLR.out).mono ?_; rintro e w2 ⟨rfl, b2⟩
        have HL2 := Lib.hid (HLR.out.next b2)
        have HB2 := Lib.hid (isb_next HBA.out b2)
        have hQ2 : Q ≤ w2.heap.size := by have := b2.size; have := BA.out.size; omega
        have BQ2 := Lib.hid (BQ.out.trans (b2.mono (by have := BA.out.size; omega))); clear b2 c0 c1 c2 c3 c4
        go_wp2_with fail
        refine (HFR.out _ HL2.out).mono ?_; rintro e w3 ⟨rfl, b3⟩
        have HB3 := Lib.hid (isb_next HB2.out b3)
        have hQ3 : Q ≤ w3.heap.size := by have := b3.size; omega
        have BQ3 := Lib.hid (BQ2.out.trans (b3.mono hQ2)); clear b3
        go_wp2_with fail
        refine (write_any Q Q _ sb w3 HB3.out HLN.out hQ3).mono ?_; rintro e w4 ⟨rfl, h4, b4⟩
        have HB4 := Lib.hid (show Lib.IsBuilder 34 5 Q Q (Lib.byteCells (stB (l.take (i + 1)))) w4 by rw [HSN.out]; exact Or.inr h4)
        have BQ4 := Lib.hid (BQ3.out.trans b4); clear h4 b4
        go_wp2_with fail
        go_roundw
        case rel => exact ⟨i + 1, by go_num, by omega, HB4.out, BQ4.out⟩
        case measure => simp [intV]; omega
      · have HE := Lib.hid (show l.take i = l from List.take_of_length_le (by rw [HN.out]; omega))
        have i1 : ¬ (i : Int) < (n : Int) := by omega
        go_wp2_with fail
        refine (Tryz.Builder_String_any Q Q (stB (l.take i)) wr HBU.out hQr).mono ?_; rintro e w5 ⟨rfl, b5⟩
        have B5 := Lib.hid (HBW.out.trans (b5.mono (by rw [← HQ.out]; exact B1.out.size))); clear b5
        rw [HE.out]
        go_wp2_with fail
        go_ret
        exact ⟨by rw [HP.out]; rfl, B5.out⟩
end Go.Proofs.YtdalncgbbkeimaaGreatDoor.Cl
