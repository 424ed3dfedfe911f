/-
  Frames: a key that comes in, opened; the wrap of a row with listed variables that hands on the world's shape too.
  A cell that comes in, opened; a slice of cells that comes in, opened.
-/
import Derived.Test.YtdalncgbbkeimaaDoorWd
import Derived.Test.YtdalncgbbkeimaaDoorCa
import Derived.ProofKit
import Derived.Handed
import Derived.SizedLaws
import Derived.Lib.SmallJoins
import Derived.ShutString
import Derived.Deep.Slices
import Derived.Deep.Fields
import Derived.ChangeSame
import Derived.Lib.AtoiErrMem
namespace Go.Proofs.YtdalncgbbkeimaaDoor.Fr
open Go.ChangeShapes Go.WideShapes Go.ChangeAt Go.RowKit Go.Joins
open Go.ChangeMaps (open_string shut_string)
set_option maxRecDepth 100000 in
theorem openKey {H : Type} {enc : TypeId × Value → H} {W : World} {base : Nat} {v : Value} {d : DataW H} {p : List MemPlace} (hv : Value.okWide Tryd.prog W .any base 42 v)
    (h : DataW.Trod enc Tryd.prog W 0 (fun _ => true) true 42 v d p) :
    ∃ (r b : ByteArray) (t : Int), v = .agg #[.string r, .string b, .int .i64 t] ∧ r.size ≤ maxLen ∧ b.size ≤ maxLen ∧ Wd.I64 t := by
  obtain ⟨c0, c1, c2, y0, y1, y2, m, rfl, -, -, h0, h1, h2⟩ := open_agg3 Tryd.underlying42 (by kernel_rfl) (by kernel_rfl) hv h
  obtain ⟨r, e0, -, hr⟩ := DataW.trod_string Tryd.underlying9 h0
  obtain ⟨b, e1, -, hb⟩ := DataW.trod_string Tryd.underlying9 h1
  obtain ⟨t, e2, -, ht⟩ := DataW.trod_int Tryd.underlying2 h2
  simp at e0 e1 e2
  subst e0 e1 e2
  exact ⟨r, b, t, rfl, hr, hb, Wd.i64_of_wf ht⟩
/-- As the library's 'returnsInHanded_of_change_and', the world's shape handed on. -/
theorem handed_and_shaped {H : Type} {enc : TypeId × Value → H} {a : Assume} {C : Checked} {os : Os} {f : FuncId} {fn : Func} {s : ChangeSpec} {conds : List PathCond} {apart fresh handsOn again : Bool} {X : World → Array Value → Prop}
    (hX : ∀ (w w' : World) (args : Array Value), w.heap = w'.heap → X w args → X w' args)
    (own : ownKnob C.prog.godebug = none) (started : os.Started) (noInit : C.prog.inits.idxOf? f = none) (hfn : C.prog.funcs[f]? = some fn)
    (witness : ∃ (w : World) (tape : Tape) (i : Input), w.os = os ∧ (w.forCall tape i).Shaped C.prog ∧ i.vars = [] ∧ Input.okWide C.prog (w.forCall tape i) .any w.heap.size f i ∧
      ((s.pre enc C.prog fn conds apart (w.forCall tape i).memory i.args ∧ X (w.forCall tape i).memory i.args) ∧ sizedMet enc C.prog fn (OpenSpec.ofChange s) apart (w.forCall tape i).memory i.args) ∧ a.holds C.prog (lone (Frame.enter C.prog f i.args .normal) [] (w.forCall tape i)))
    (contract : ∀ (W : World) (base : Nat) (args : Array Value) (ds gs : List (DataW H)) (before : List MemPlace),
      (∀ (j : Nat) t v, fn.params[j]? = some t → args[j]? = some v → Value.okWide C.prog W .any base t v) →
      DataW.Whole enc C.prog fn.params.toList s.vars apart W args.toList ds gs before →
      conds.all (PathCond.test C.prog ⟨fn.params.toList, ds, s.plain.varTypes C.prog, gs⟩) = true →
      (DataW.weightsEach C.prog (fn.params.toList ++ s.plain.varTypes C.prog) (ds ++ gs)).all (· ≤ reachBytes) = true → X W args → W.ShapedOpen C.prog →
      a.holds C.prog (lone (Frame.enter C.prog f args .normal) [] W) →
      Calls C.prog f args W fun e W' => ∃ v, e = .returned v ∧ s.post enc C.prog fn apart fresh handsOn again W args v W') :
    ReturnsInHanded a C os f .any (fun w args => (s.pre enc C.prog fn conds apart w args ∧ X w args) ∧ sizedMet enc C.prog fn (OpenSpec.ofChange s) apart w args) (s.post enc C.prog fn apart fresh handsOn again) := by
  refine returnsInHanded_of_calls own started noInit witness ?_
  intro w tape i _ hsh _ hok hpre hholds
  obtain ⟨_, _, _, fn', hfn', _, _, _, _, hval⟩ := hok
  obtain rfl : fn' = fn := Option.some.inj (hfn'.symm.trans hfn)
  obtain ⟨⟨⟨ds, gs, before, hw, hc⟩, hx⟩, hz⟩ := hpre
  refine (contract (w.forCall tape i) w.heap.size i.args ds gs before hval (DataW.Whole.of_heap (w' := w.forCall tape i) (by rfl) hw) hc (hz.weights hw) (hX _ _ _ (by rfl) hx) hsh hholds).mono fun e W' ⟨v, he, hp⟩ => ?_
  subst he
  exact ChangeSpec.post_blind hp
end Go.Proofs.YtdalncgbbkeimaaDoor.Fr
namespace Go.Proofs.YtdalncgbbkeimaaDoor.Fr
open Go.ChangeShapes Go.WideShapes Go.ChangeAt Go.RowKit Go.Joins Go.Deep
open Go.ChangeMaps (open_string shut_string)
theorem cStr : Tryd.prog.cellsOf 9 = 1 := by kernel_rfl
theorem cInt : Tryd.prog.cellsOf 2 = 1 := by kernel_rfl
theorem cBool : Tryd.prog.cellsOf 4 = 1 := by kernel_rfl
theorem cKey : Tryd.prog.cellsOf 42 = 3 := by kernel_rfl
theorem cCell : Tryd.prog.cellsOf 47 = 5 := by kernel_rfl
set_option maxRecDepth 100000 in
theorem keyCells {H : Type} {enc : TypeId × Value → H} {W : World} {fuel : Nat} {cs : List Value} {x : DataW H × List MemPlace}
    (h : DataW.trod enc Tryd.prog W 0 (fun _ => true) true fuel 42 cs = some x) :
    ∃ (r b : ByteArray) (t : Int), cs = [.string r, .string b, .int .i64 t] ∧ r.size ≤ maxLen ∧ b.size ≤ maxLen ∧ Wd.I64 t := by
  obtain ⟨ys, n', hn', hy, hlen, hyl, hf⟩ := DataW.trod_struct Tryd.underlying42 h
  rw [cKey] at hlen
  match cs, hlen with
  | [c0, c1, c2], _ =>
    match ys, hyl with
    | [y0, y1, y2], _ =>
      have f0 : DataW.trod enc Tryd.prog W 0 (fun _ => true) true n' 9 (List.take (Tryd.prog.cellsOf 9) (List.drop 0 [c0, c1, c2])) = some y0 := hf 0 _ rfl
      have f1 : DataW.trod enc Tryd.prog W 0 (fun _ => true) true n' 9 (List.take (Tryd.prog.cellsOf 9) (List.drop 1 [c0, c1, c2])) = some y1 := hf 1 _ rfl
      have f2 : DataW.trod enc Tryd.prog W 0 (fun _ => true) true n' 2 (List.take (Tryd.prog.cellsOf 2) (List.drop 2 [c0, c1, c2])) = some y2 := hf 2 _ rfl
      rw [cStr] at f0 f1
      rw [cInt] at f2
      obtain ⟨r, e0, -, hr⟩ := DataW.trod_string Tryd.underlying9 (x := y0) f0
      obtain ⟨b, e1, -, hb⟩ := DataW.trod_string Tryd.underlying9 (x := y1) f1
      obtain ⟨t, e2, -, ht⟩ := DataW.trod_int Tryd.underlying2 (x := y2) f2
      simp at e0 e1 e2
      subst e0 e1 e2
      exact ⟨r, b, t, rfl, hr, hb, Wd.i64_of_wf ht⟩
set_option maxRecDepth 100000 in
theorem cellCells {H : Type} {enc : TypeId × Value → H} {W : World} {fuel : Nat} {cs : List Value} {x : DataW H × List MemPlace}
    (h : DataW.trod enc Tryd.prog W 0 (fun _ => true) true fuel 47 cs = some x) :
    ∃ (r b : ByteArray) (t v : Int) (g : Bool), cs = [.string r, .string b, .int .i64 t, .int .i64 v, .bool g] ∧ r.size ≤ maxLen ∧ b.size ≤ maxLen ∧ Wd.I64 t ∧ Wd.I64 v := by
  obtain ⟨ys, n', hn', hy, hlen, hyl, hf⟩ := DataW.trod_struct Tryd.underlying47 h
  rw [cCell] at hlen
  match cs, hlen with
  | [c0, c1, c2, c3, c4], _ =>
    match ys, hyl with
    | [y0, y1, y2], _ =>
      have f0 : DataW.trod enc Tryd.prog W 0 (fun _ => true) true n' 42 (List.take (Tryd.prog.cellsOf 42) (List.drop 0 [c0, c1, c2, c3, c4])) = some y0 := hf 0 _ rfl
      have f1 : DataW.trod enc Tryd.prog W 0 (fun _ => true) true n' 2 (List.take (Tryd.prog.cellsOf 2) (List.drop 3 [c0, c1, c2, c3, c4])) = some y1 := hf 1 _ rfl
      have f2 : DataW.trod enc Tryd.prog W 0 (fun _ => true) true n' 4 (List.take (Tryd.prog.cellsOf 4) (List.drop 4 [c0, c1, c2, c3, c4])) = some y2 := hf 2 _ rfl
      rw [cKey] at f0
      rw [cInt] at f1
      rw [cBool] at f2
      obtain ⟨r, b, t, e0, hr, hb, ht⟩ := keyCells (x := y0) f0
      obtain ⟨v, e1, -, hv⟩ := DataW.trod_int Tryd.underlying2 (x := y1) f1
      obtain ⟨g, e2, -⟩ := DataW.trod_bool Tryd.underlying4 (x := y2) f2
      simp at e0 e1 e2
      obtain ⟨e0, e3, e4⟩ := e0
      subst e0 e1 e2 e3 e4
      exact ⟨r, b, t, v, g, rfl, hr, hb, ht, Wd.i64_of_wf hv⟩
set_option maxRecDepth 100000 in
theorem openCell {H : Type} {enc : TypeId × Value → H} {W : World} {base : Nat} {v : Value} {d : DataW H} {p : List MemPlace} (hv : Value.okWide Tryd.prog W .any base 47 v)
    (h : DataW.Trod enc Tryd.prog W 0 (fun _ => true) true 47 v d p) :
    ∃ (r b : ByteArray) (t u : Int) (g : Bool), v = .agg #[.string r, .string b, .int .i64 t, .int .i64 u, .bool g] ∧ r.size ≤ maxLen ∧ b.size ≤ maxLen ∧ Wd.I64 t ∧ Wd.I64 u := by
  obtain ⟨cs, rfl, hsz⟩ := okWide_struct Tryd.underlying47 hv
  obtain ⟨fuel, hf⟩ := h
  obtain ⟨r, b, t, u, g, e, h1, h2, h3, h4⟩ := cellCells hf
  refine ⟨r, b, t, u, g, ?_, h1, h2, h3, h4⟩
  simp only [Value.cells] at e
  rw [← Array.toList_inj.1 (show cs.toList = #[Value.string r, .string b, .int .i64 t, .int .i64 u, .bool g].toList from e)]
set_option maxRecDepth 100000 in
theorem openCells {H : Type} {enc : TypeId × Value → H} {W : World} {base : Nat} {v : Value} {d : DataW H} {p : List MemPlace} (hv : Value.okWide Tryd.prog W .any base 52 v)
    (h : DataW.Trod enc Tryd.prog W 0 (fun _ => true) true 52 v d p) :
    ∃ (a : Option Addr) (cap : Nat) (l : List Cl.Cel), v = .slice a l.length cap ∧ Cl.Vw W a cap l ∧ ∀ c ∈ l, c.r.size ≤ maxLen ∧ c.b.size ≤ maxLen := by
  obtain ⟨a0, len0, cap0, rfl⟩ := okWide_slice Tryd.underlying52 hv
  obtain ⟨fuel, hf⟩ := h
  rcases open_slice Tryd.underlying52 hf with ⟨hcs, _⟩ | ⟨x, len, cap, m, n, D, Pl, hcs, -, hle, hm, hmm, -, hi⟩
  · simp [Value.cells] at hcs
    obtain ⟨rfl, rfl, rfl⟩ := hcs
    exact ⟨none, 0, [], rfl, ⟨Nat.le_refl _, by decide, fun _ => rfl, fun k c hk => by simp at hk⟩, fun c hc => by cases hc⟩
  · simp [Value.cells] at hcs
    obtain ⟨rfl, rfl, rfl⟩ := hcs
    rw [if_pos rfl] at hmm
    subst hmm
    rw [cCell] at hi
    have hone : ∀ i, i < len0 → ∃ c : Cl.Cel, (∃ g o, x = ⟨g, o, none⟩ ∧ g < W.heap.size ∧ Cl.At5 W g (o + i * 5) c) ∧ c.r.size ≤ maxLen ∧ c.b.size ≤ maxLen := by
      intro i hil
      obtain ⟨cs, hc, ht⟩ := hi i (by omega)
      obtain ⟨r, b, t, u, g, rfl, h1, h2, -, -⟩ := cellCells ht
      obtain ⟨_, hcl, hat⟩ := World.cells?_some hc
      obtain ⟨xb, xo, xs⟩ := x
      have hspot : xs = none := by
        obtain ⟨cs0, hc0, ht0⟩ := hi 0 (by omega)
        obtain ⟨r0, b0, t0, u0, g0, rfl, -⟩ := cellCells ht0
        have z0 := (World.cells?_some hc0).2.2 0 (by decide)
        simpa [Addr.add] using World.cell?_spot z0
      subst hspot
      have a0 := hat 0 (by decide)
      have hadd : ∀ k, (Addr.add ⟨xb, xo, none⟩ (i * 5)).add k = ⟨xb, xo + i * 5 + k, none⟩ := fun k => by rw [Go.Deep.add_add]; simp [Addr.add, Nat.add_assoc]
      have hlt := Lib.lt_of_cell a0
      refine ⟨⟨r, b, t, u, g⟩, ⟨xb, xo, rfl, by rw [hadd] at hlt; exact hlt, ?_⟩, h1, h2⟩
      have a1 := hat 1 (by decide)
      have a2 := hat 2 (by decide)
      have a3 := hat 3 (by decide)
      have a4 := hat 4 (by decide)
      rw [hadd] at a0 a1 a2 a3 a4
      exact ⟨a0, a1, a2, a3, a4⟩
    obtain ⟨F, hF⟩ := choose_lt hone
    refine ⟨some x, _, (List.range len0).map F, by rw [List.length_map, List.length_range], ⟨by simpa using hle, hm, (fun e => by cases e), fun k c hk => ?_⟩, fun c hc => ?_⟩
    · have hkl : k < len0 := by have := (List.getElem?_eq_some_iff.1 hk).1; simpa using this
      rw [List.getElem?_map, List.getElem?_range hkl] at hk
      obtain rfl : F k = c := by simpa using hk
      obtain ⟨⟨g, o, rfl, hg, h5⟩, -⟩ := hF k hkl
      exact ⟨g, o, rfl, hg, h5⟩
    · rw [List.mem_map] at hc
      obtain ⟨k, hk, rfl⟩ := hc
      exact (hF k (by simpa using hk)).2
end Go.Proofs.YtdalncgbbkeimaaDoor.Fr
