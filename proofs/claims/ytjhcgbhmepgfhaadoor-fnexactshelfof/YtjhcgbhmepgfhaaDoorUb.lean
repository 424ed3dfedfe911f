/-
  The contract of impl.ShelfText: 'stP'.
-/
import Derived.Test.YtjhcgbhmepgfhaaDoorUa
namespace Go.Proofs.YtjhcgbhmepgfhaaDoor.Cl
open Go.RowKit Wd Rp Kp Fq
set_option linter.unusedVariables false
theorem bat_next {T e : TypeId} {B b : Nat} {p : Value} {bs : List Value} {w w' : World} (h : Lib.BuilderAt T e B b p bs w) (hb : Below w.heap.size w w') : Lib.BuilderAt T e B b p bs w' := by
  have hlt := h.lt
  obtain ⟨hB, v, h1, h2, h3⟩ := h
  exact ⟨hB, v, (hb.block b hlt).trans h1, row_next h2 (fun g _ hg => hb.block g hg), h3⟩
theorem isb_next {T e : TypeId} {B b : Nat} {bs : List Value} {w w' : World} (h : Lib.IsBuilder T e B b bs w) (hb : Below w.heap.size w w') : Lib.IsBuilder T e B b bs w' := h.imp (fun g => bat_next g hb) (fun g => bat_next g hb)
theorem write_any (B b : Nat) (bs : List Value) (s : ByteArray) (w : World) (h : Lib.IsBuilder 48 5 B b bs w) (hlen : bs.length + s.size ≤ 140737488355328) (hBw : B ≤ w.heap.size) :
    Calls Tryd.prog 20 #[.pointer (some ⟨b, 0, none⟩), .string s] w fun e w' => e = .returned (.tuple #[.int .i64 s.size, .nilIface]) ∧ (Lib.BuilderAt 48 5 B b (.pointer (some ⟨b, 0, none⟩)) (bs ++ Lib.strCells s) w' ∧ Below B w w') :=
  Any.Builder_WriteString { Tryd.lays156 with } Tryd.Builder_Extra_156 B b bs s w h hlen hBw
theorem cells_tx (l : List UInt8) : Lib.strCells (tx l) = Lib.byteCells l := by simp [Lib.strCells, Lib.byteCells, tx]
theorem bytes_app (a b : List UInt8) : Lib.byteCells (a ++ b) = Lib.byteCells a ++ Lib.byteCells b := by simp [Lib.byteCells]
theorem bytes_len (a : List UInt8) : (Lib.byteCells a).length = a.length := by simp [Lib.byteCells]
set_option maxHeartbeats 4000000 in
set_option maxRecDepth 100000 in
theorem implShelf_any (w : World) (a : Option Addr) (cap : Nat) (l : List Cel) (n : Nat) (hn : l.length = n) (hv : Vw w a cap l) (hl : n ≤ 4194304) (hL : LibT w) :
    Calls Tryd.prog 8 #[.slice a n cap] w (StPost l w) := by
  have HV := Lib.hid hv; clear hv
  have HN := Lib.hid hn; clear hn
  have HL := Lib.hid hL; clear hL
  cases h1 : okL l
  · have HP := Lib.hid (stP_no h1)
    have H1 := Lib.hid h1; clear h1
    go_enter Tryd.func8, Tryd.ntmps8
    go_wp2_with fail
    refine (implC_is H1.out _ a cap n HN.out HV.out hl).mono ?_; rintro e w1 ⟨rfl, b1⟩
    have B1 := Lib.hid b1; clear b1
    go_wp2_with fail
    go_ret
    exact ⟨by rw [HP.out]; rfl, B1.out⟩
  · have HP := Lib.hid (stP_yes h1)
    have hl2 : n ≤ 200 := by rw [← HN.out]; exact (okL_iff.1 h1).2
    have H1 := Lib.hid h1
    have HOK := Lib.hid (okm h1); clear h1
    go_enter Tryd.func8, Tryd.ntmps8
    go_wp2_with fail
    refine (implC_is H1.out _ a cap n HN.out HV.out hl).mono ?_; rintro e w1 ⟨rfl, b1⟩
    have B1 := Lib.hid b1; clear b1
    have HST := Lib.hid (Lib.fresh_isBuilder 48 5 w1)
    have BST := Lib.hid (bel1 w1 (.cells #[.pointer none, .slice none 0 0] 48))
    go_wp2_with fail
    generalize hq : w1.heap.size = Q at *
    have HQ := Lib.hid hq; clear hq
    go_loopw [11] (fun x wr => ∃ i : Nat, x = .int .i64 (i : Int) ∧ i ≤ n ∧ Lib.IsBuilder 48 5 Q Q (Lib.byteCells (stB (l.take i))) wr ∧ Below Q w1 wr) (fun x _ => n - intV x)
    case atStart => exact ⟨0, rfl, Nat.zero_le _, HST.out, BST.out⟩
    case round =>
      clear HST BST
      obtain ⟨i, rfl, hi, hbu, hb⟩ := hrel
      have HBU := Lib.hid hbu; clear hbu
      have HB := Lib.hid hb; clear hb
      have HBW := Lib.hid (show Below w.heap.size w wr from B1.out.trans (HB.out.mono (by rw [← HQ.out]; exact B1.out.size)))
      have hQr : Q ≤ wr.heap.size := by rw [← HQ.out]; exact HB.out.size
      by_cases hlt : i < n
      · obtain ⟨c, hc⟩ : ∃ c, l[i]? = some c := ⟨l[i]'(by rw [HN.out]; exact hlt), List.getElem?_eq_getElem _⟩
        obtain ⟨g, o, e1, hg, h5⟩ := HV.out.2.2.2 i c hc
        cases e1
        obtain ⟨c0, c1, c2, c3, c4⟩ : At5 wr g (o + i * 5) c := h5.same (HBW.out.block g hg)
        have hco := HOK.out c (List.mem_of_getElem? hc)
        have HSN := Lib.hid (show Lib.byteCells (stB (l.take (i + 1))) = Lib.byteCells (stB (l.take i)) ++ Lib.strCells (tx (fr c.txt)) by rw [take_snocC hc, stB_snoc, bytes_app, cells_tx])
        have hs1 : (stB (l.take i)).length ≤ 22000 := by
          have := stB_len (l := l.take i) (fun d hd => HOK.out d (List.mem_of_mem_take hd))
          rw [List.length_take] at this; omega
        have hs2 := fr_len61 (txt_plain hco).2
        have HSH := Lib.hid (fun z (hz : LibT z) => show Calls Tryd.prog 22 #[.agg #[.string c.r, .string c.b, .int .i64 c.t, .int .i64 c.v, .bool c.g]] z fun e w' => e = .returned (.string (tx c.txt)) ∧ Below z.heap.size z w' from by
          have := implShow_any c.r c.b c.t c.v c.g z hz
          unfold ShPost at this
          rw [shB_yes hco] at this
          exact this)
        have HFR := Lib.hid (fun z (hz : LibT z) => show Calls Tryd.prog 21 #[.string (tx c.txt)] z fun e w' => e = .returned (.string (tx (fr c.txt))) ∧ Below z.heap.size z w' from by
          have := implFramed_any (tx c.txt) z hz
          unfold FrPost at this
          rw [show (tx c.txt).data.toList = c.txt from rfl, frm_yes (txt_plain hco).1] at this
          exact this)
        have HLN := Lib.hid (show (Lib.byteCells (stB (l.take i))).length + (tx (fr c.txt)).size ≤ 140737488355328 by rw [bytes_len]; simp [tx, ByteArray.size]; omega)
        clear hc hco hs1 hs2 h5
        generalize tx (fr c.txt) = sb at *
        generalize tx c.txt = sc at *
        have i1 : (i : Int) < (n : Int) := by omega
        have i2 : (0 : Int) ≤ (i : Int) := by omega
        have BA := Lib.hid (bel1 wr (.cells #[.string c.r, .string c.b, .int .i64 c.t, .int .i64 c.v, .bool c.g] 43))
        have HLR := Lib.hid ((HL.out.next HBW.out).next BA.out)
        have HBA := Lib.hid (isb_next HBU.out BA.out)
        have BQ := Lib.hid (HB.out.trans (BA.out.mono hQr))
        go_wp2_with fail
        refine (HSH.out _ HLR.out).mono ?_; rintro e w2 ⟨rfl, b2⟩
        have HL2 := Lib.hid (HLR.out.next b2)
        have HB2 := Lib.hid (isb_next HBA.out b2)
        have hQ2 : Q ≤ w2.heap.size := by have := b2.size; have := BA.out.size; omega
        have BQ2 := Lib.hid (BQ.out.trans (b2.mono (by have := BA.out.size; omega))); clear b2 c0 c1 c2 c3 c4
        go_wp2_with fail
        refine (HFR.out _ HL2.out).mono ?_; rintro e w3 ⟨rfl, b3⟩
        have HB3 := Lib.hid (isb_next HB2.out b3)
        have hQ3 : Q ≤ w3.heap.size := by have := b3.size; omega
        have BQ3 := Lib.hid (BQ2.out.trans (b3.mono hQ2)); clear b3
        go_wp2_with fail
        refine (write_any Q Q _ sb w3 HB3.out HLN.out hQ3).mono ?_; rintro e w4 ⟨rfl, h4, b4⟩
        have HB4 := Lib.hid (show Lib.IsBuilder 48 5 Q Q (Lib.byteCells (stB (l.take (i + 1)))) w4 by rw [HSN.out]; exact Or.inr h4)
        have BQ4 := Lib.hid (BQ3.out.trans b4); clear h4 b4
        go_wp2_with fail
        go_roundw
        case rel => exact ⟨i + 1, by go_num, by omega, HB4.out, BQ4.out⟩
        case measure => simp [intV]; omega
      · have HE := Lib.hid (show l.take i = l from List.take_of_length_le (by rw [HN.out]; omega))
        have i1 : ¬ (i : Int) < (n : Int) := by omega
        go_wp2_with fail
        refine (Tryd.Builder_String_any Q Q (stB (l.take i)) wr HBU.out hQr).mono ?_; rintro e w5 ⟨rfl, b5⟩
        have B5 := Lib.hid (HBW.out.trans (b5.mono (by rw [← HQ.out]; exact B1.out.size))); clear b5
        rw [HE.out]
        go_wp2_with fail
        go_ret
        exact ⟨by rw [HP.out]; rfl, B5.out⟩
end Go.Proofs.YtjhcgbhmepgfhaaDoor.Cl
