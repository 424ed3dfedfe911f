/-
  Texts of mine, joined (part 7 of 7): what the law at hand reaches of them; each text's own words stand in the verifier's repo.
-/
import Derived.Test.YtoiphglfngkoiaaGreatDoorSk6
import Derived.Test.YtoiphglfngkoiaaGreatDoorRows
import Derived.WalkKit
import Derived.IntWalk
import Derived.Laws.Bits128
import Derived.Lib.Hide
import Derived.Lib.ParseIntBTie
import Derived.Lib.ParseIntBCases
import Derived.Lib.ItoaMem
import Derived.Lib.IndexMore
import Derived.Lib.Repeat
import Derived.WalkSpells
import Derived.Below
import Derived.Carry
import Derived.WalkSmall
import Derived.Laws.Closers25b
import Derived.Lib.Strings
import Derived.Lib.SmallJoins
import Derived.Lib.AppendIntMem
import Derived.Maps.AppendAt
import Derived.OwnWalk
import Derived.WalkLawsBesides
import Derived.Deep.QuietTactic
import Derived.BigQuiet
import Derived.Deep.RegionHeld3
import Derived.Laws.OwnMore
import Derived.Laws.StructEq
import Derived.BigFrame
import Derived.Deep.Upon
import Derived.Laws.CopyRow
import Derived.Laws.BytesArg
import Derived.RowKit3
import Derived.Shelf.Strconv.Itoa4
import Derived.Shelf.Strconv.ParseIntPublic10
import Derived.Shelf.Strconv.ErrVarParseInt
import Derived.Test.YtoiphglfngkoiaaGreatDoorProg
import Derived.LaidMore
import Derived.Stop.LaidErr
import Derived.Lib.LaidTab
import Derived.Deep.LoopGhost
import Derived.RangeFuncWrites
import Derived.RangeFuncCalls
import Derived.RangeFuncBox
import Derived.RangeFuncNested
import Derived.RangeFuncLeaves
import Derived.Shelf.Abstract
import Derived.Shelf.RegionOpen
import Derived.OwnWalkIn
import Derived.TacticsInMore
import Derived.LoopNIn
import Derived.LoopIn
import Derived.Lib.AtoiErrMem
import Derived.OpenShut
import Derived.Lib.ConvBytes
import Derived.Deep.RegionLaw
import Derived.Deep.AppendLies
import Derived.Lib.AppendZeros
import Derived.ProofKit
import Derived.Handed
import Derived.SizedLaws
import Derived.ShutString
import Derived.Deep.Slices
import Derived.Deep.Fields
import Derived.ChangeSame
namespace Go.Proofs.YtoiphglfngkoiaaGreatDoor.Nx
set_option linter.unusedVariables false
open Go.RowKit Wd Rp Kp
set_option maxHeartbeats 2000000 in
theorem markS_own {B : Nat} {v : Value} {l : List (List UInt8)} (w : World) (hB : B ≤ w.heap.size) (hv : OwT B w v l) (hl : l.length ≤ 4194304) :
    Calls Tryz.prog 10 #[v, .int .i64 1] w fun e w' => e = .returned (.int .i64 ((l.length + 1 : Nat) : Int)) ∧ w.grownBy w' v.ownBlock ∧ ∃ m, m.length = l.length ∧ Mkd 1 m ∧ OwT B w' v m := by
  obtain ⟨a, ca, rfl, ha⟩ := hv.form
  have HV := Lib.hid ha; clear ha
  have HO := Lib.hid hv; clear hv
  generalize hn : l.length = n at *
  go_enter Tryz.func10, Tryz.ntmps10
  go_wp2
  go_loopw [1, 5] (fun q i wr => ∃ (k : Nat) (m : List (List UInt8)), k ≤ n ∧ i = .int .i64 k ∧ q = .int .i64 ((k + 1 : Nat) : Int) ∧ Below B w wr ∧ (∀ x, x < w.heap.size → (Value.slice a n ca).ownBlock ≠ some x → wr.heap[x]? = w.heap[x]?) ∧ m.length = n ∧ (∀ j, j < k → m[j]? = some (mtx (1 + j))) ∧ OwT B wr (.slice a n ca) m) (fun _ i _ => n - intV i)
  case atStart => exact ⟨0, l, Nat.zero_le _, rfl, rfl, Below.refl _ _, (fun _ _ _ => rfl), hn, fun j hj => by omega, HO.out⟩
  case round =>
    obtain ⟨k, m, hk, rfl, rfl, hbel, hfr, hm, hmk, hown⟩ := hrel
    have HFR := Lib.hid hfr; clear hfr
    have HB := Lib.hid hbel; clear hbel
    have HM := Lib.hid hmk; clear hmk
    have HW := Lib.hid hown; clear hown
    by_cases hlt : k < n
    · obtain ⟨g, -, rfl, hg, gl, -, -, -⟩ := HV.out k (by omega)
      have HT := Lib.hid (fun w => markText_any (k + 1) w (by omega) (by omega))
      have q1 : ((k + 1 : Nat) : Int) + 1 = ((k + 1 + 1 : Nat) : Int) := by omega
      clear gl
      go_wp2_with fail
      refine (HT.out _).mono ?_; rintro e w1 ⟨rfl, b1⟩
      have hsz : wr.heap.size ≤ w1.heap.size := b1.size
      have BB1 := Lib.hid b1
      have B1 := Lib.hid (bel_tr HB.out b1 hB)
      have HW1 := Lib.hid (HW.out.next b1); clear b1
      obtain ⟨a2, ca2, he, hcell⟩ := HW1.out.form
      obtain ⟨g2, x, rfl, hg2, gl2, -, gc, gf⟩ := hcell k (by omega)
      cases he
      clear hcell hg2
      generalize tx x = x at gc
      go_wp2_with fail
      go_roundw
      case rel =>
        refine ⟨k + 1, m.set k (mtx (k + 1)), by omega, by go_num, by go_num, B1.out.setCell (p := ⟨g, k, none⟩) hg _, (fun x hx hne => (Below.heap_setCell _ _ _ _ (fun e => hne (by rw [e]; rfl))).trans ((BB1.out.block x (by have := HB.out.size; omega)).trans (HFR.out x hx hne))), by rw [List.length_set], fun j hj => ?_, HW1.out.set rfl k _⟩
        by_cases hjk : j = k
        · subst hjk; rw [List.getElem?_set_self (by omega), Nat.add_comm]
        · rw [List.getElem?_set_ne (by omega)]; exact HM.out j (by omega)
      case measure => simp [intV]; omega
    · obtain rfl : k = n := by omega
      go_wp2_with fail
      go_ret
      exact ⟨rfl, ⟨HB.out.os, HB.out.tape, HB.out.output, HB.out.size, fun x hx hne => HFR.out x hx (fun e => hne e.symm)⟩, m, hm, fun j hj => HM.out j (by omega), HW.out⟩
end Go.Proofs.YtoiphglfngkoiaaGreatDoor.Nx
namespace Go.Proofs.YtoiphglfngkoiaaGreatDoor.Fr
set_option linter.unusedVariables false
open Go.ChangeShapes Go.WideShapes Go.ChangeAt Go.RowKit Go.Joins Go.Deep
open Go.ChangeMaps (open_string shut_string)
theorem cStrT : Tryz.prog.cellsOf 9 = 1 := by kernel_rfl
set_option maxRecDepth 100000 in
theorem openTexts {H : Type} {enc : TypeId × Value → H} {W : World} {base : Nat} {v : Value} {d : DataW H} {p : List MemPlace} (hv : Value.okWide Tryz.prog W .any base 22 v)
    (h : DataW.Trod enc Tryz.prog W 0 (fun _ => true) true 22 v d p) :
    ∃ (a : Option Addr) (cap : Nat) (l : List Cl.Tk), v = .slice a l.length cap ∧ Cl.V1 W a cap (Cl.txL l) ∧ ∀ s ∈ l, s.length ≤ maxLen := by
  obtain ⟨a0, len0, cap0, rfl⟩ := okWide_slice Tryz.underlying22 hv
  obtain ⟨fuel, hf⟩ := h
  rcases open_slice Tryz.underlying22 hf with ⟨hcs, _⟩ | ⟨x, len, cap, m, n, D, Pl, hcs, -, hle, hm, hmm, -, hi⟩
  · simp [Value.cells] at hcs
    obtain ⟨rfl, rfl, rfl⟩ := hcs
    exact ⟨none, 0, [], rfl, ⟨Nat.le_refl _, by decide, fun _ => rfl, fun k c hk => by simp [Cl.txL] at hk⟩, fun c hc => by cases hc⟩
  · simp [Value.cells] at hcs
    obtain ⟨rfl, rfl, rfl⟩ := hcs
    rw [if_pos rfl] at hmm
    subst hmm
    rw [cStrT] at hi
    have hone : ∀ i, i < len0 → ∃ c : Cl.Tk, (∃ g o, x = ⟨g, o, none⟩ ∧ g < W.heap.size ∧ W.cell? ⟨g, o + i, none⟩ = some (.string (Kp.tx c))) ∧ c.length ≤ maxLen := by
      intro i hil
      obtain ⟨cs, hc, ht⟩ := hi i (by omega)
      obtain ⟨s, rfl, -, h1⟩ := DataW.trod_string Tryz.underlying9 ht
      obtain ⟨_, hcl, hat⟩ := World.cells?_some hc
      obtain ⟨xb, xo, xs⟩ := x
      have hspot : xs = none := by
        obtain ⟨cs0, hc0, ht0⟩ := hi 0 (by omega)
        obtain ⟨s0, rfl, -⟩ := DataW.trod_string Tryz.underlying9 ht0
        have z0 := (World.cells?_some hc0).2.2 0 (by decide)
        simpa [Addr.add] using World.cell?_spot z0
      subst hspot
      have a0 := hat 0 (by decide)
      have hadd : (Addr.add ⟨xb, xo, none⟩ (i * 1)).add 0 = ⟨xb, xo + i, none⟩ := by cases i <;> simp [Addr.add]
      rw [hadd] at a0
      have hlt := Lib.lt_of_cell a0
      refine ⟨s.data.toList, ⟨xb, xo, rfl, hlt, ?_⟩, by rw [Kp.llen]; exact h1⟩
      rw [Kp.tx_of]; exact a0
    obtain ⟨F, hF⟩ := choose_lt hone
    refine ⟨some x, _, (List.range len0).map F, by rw [List.length_map, List.length_range], ⟨by rw [Cl.txL_len, List.length_map, List.length_range]; exact hle, hm, (fun e => by cases e), fun k c hk => ?_⟩, fun c hc => ?_⟩
    · unfold Cl.txL at hk
      have hkl : k < len0 := by have := (List.getElem?_eq_some_iff.1 hk).1; simpa using this
      rw [List.getElem?_map, List.getElem?_map, List.getElem?_range hkl] at hk
      obtain rfl : Cl.tv (F k) = c := by simpa using hk
      obtain ⟨⟨g, o, rfl, hg, h5⟩, -⟩ := hF k hkl
      exact ⟨g, o, rfl, hg, h5⟩
    · rw [List.mem_map] at hc
      obtain ⟨k, hk, rfl⟩ := hc
      exact (hF k (by simpa using hk)).2
end Go.Proofs.YtoiphglfngkoiaaGreatDoor.Fr
