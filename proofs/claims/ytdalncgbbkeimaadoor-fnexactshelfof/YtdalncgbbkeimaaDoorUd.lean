/-
  Shelves read: a text is a shelf's where it is the text of valid cells ('SoIs'); contracts of impl.ShelfOf and spec.ShelfOf; FnShelves' draws and walk. (Made by gen_ud.py.)
-/
import Derived.Test.YtdalncgbbkeimaaDoorUb
import Derived.Test.YtdalncgbbkeimaaDoorSe
import Derived.Test.YtdalncgbbkeimaaDoorFj
namespace Go.Proofs.YtdalncgbbkeimaaDoor.Cl
open Go.RowKit Wd Rp Kp Fq
set_option linter.unusedVariables false
theorem txt_inj {c d : Cel} (h : c.ok = true) (k : d.ok = true) (e : c.txt = d.txt) : c = d := by
  have h1 := read_of_show h
  have h2 := read_of_show k
  have e' : showB c.r.data.toList c.b.data.toList c.t c.v c.g = showB d.r.data.toList d.b.data.toList d.t d.v d.g := e
  rw [e', h2] at h1
  simp at h1
  obtain ⟨e1, e2, e3, e4, e5⟩ := h1
  cases c; cases d; simp_all
theorem map_inj : ∀ {a b : List Cel}, (∀ c ∈ a, c.ok = true) → (∀ c ∈ b, c.ok = true) → a.map Cel.txt = b.map Cel.txt → a = b
  | [], [], _, _, _ => rfl
  | [], d :: b, _, _, h => by simp at h
  | c :: a, [], _, _, h => by simp at h
  | c :: a, d :: b, ha, hb, h => by
    rw [List.map_cons, List.map_cons] at h
    obtain ⟨h1, h2⟩ := List.cons.inj h
    rw [txt_inj (ha c List.mem_cons_self) (hb d List.mem_cons_self) h1, map_inj (fun x hx => ha x (List.mem_cons_of_mem _ hx)) (fun x hx => hb x (List.mem_cons_of_mem _ hx)) h2]
theorem fr_len71 {t : List UInt8} (h : t.length ≤ 61) : (fr t).length ≤ 71 := by
  have h1 := dec_len 1 t.length (by omega)
  have h2 := dec_len 4 (mkN t) (by have := mk_lt t; omega)
  unfold fr
  simp only [List.length_append, List.length_cons, List.length_nil]
  omega
theorem stB_len2 {l : List Cel} (h : ∀ c ∈ l, c.ok = true) : (stB l).length ≤ l.length * 71 := by
  induction l with
  | nil => simp [stB, tot]
  | cons c l ih =>
    have h1 := fr_len71 (txt_plain (h c List.mem_cons_self)).2
    have h2 := ih fun d hd => h d (List.mem_cons_of_mem _ hd)
    have e : stB (c :: l) = fr c.txt ++ stB l := by simp [stB, tot]
    rw [e, List.length_append, List.length_cons]; omega
/-- These cells have this text. -/
def SoIs (s : List UInt8) (cs : List Cel) : Prop := okL cs = true ∧ stB cs = s
/-- The frames of a shelf's text are its cells' texts. -/
theorem so_frames {s : List UInt8} {cs : List Cel} {l : List (List UInt8)} (h : SoIs s cs) (hf : Fi s l) : l = cs.map Cel.txt := by
  obtain ⟨h1, rfl⟩ := h
  have hlen : (stB cs).length ≤ 20000 := by
    have := stB_len2 (okm h1)
    have := (okL_iff.1 h1).2
    omega
  exact hf.uniq (Or.inl ⟨hlen, Fs.whole fun t ht => by
    obtain ⟨c, hc, rfl⟩ := List.mem_map.1 ht
    exact (txt_plain (okm h1 c hc)).1⟩)
theorem so_uniq {s : List UInt8} {a b : List Cel} (h : SoIs s a) (k : SoIs s b) : a = b := by
  have hlen : (stB b).length ≤ 20000 := by
    have := stB_len2 (okm k.1)
    have := (okL_iff.1 k.1).2
    omega
  have hf : Fi s (b.map Cel.txt) := by
    rw [← k.2]
    exact Or.inl ⟨hlen, Fs.whole fun t ht => by
      obtain ⟨c, hc, rfl⟩ := List.mem_map.1 ht
      exact (txt_plain (okm k.1 c hc)).1⟩
  exact (map_inj (okm k.1) (okm h.1) (so_frames h hf)).symm
/-- A text read. -/
theorem rc_two (t : List UInt8) : rcV (spl 32 t) = zeroV ∨ ∃ c : Cel, c.ok = true ∧ c.txt = t ∧ rcV (spl 32 t) = .tuple #[.agg #[.string c.r, .string c.b, .int .i64 c.t, .int .i64 c.v, .bool c.g], .bool true] := by
  rcases rc_cases t with h | ⟨r, b, u, v, g, h, h2, -, -⟩
  · exact Or.inl h
  · cases hc : cellB r b u v g with
    | true => exact Or.inr ⟨⟨r, b, u, v, g⟩, hc, by rw [shB_yes hc] at h2; exact h2, h⟩
    | false =>
      rw [shB_no hc] at h2
      subst h2
      have : rcV (spl 32 []) = zeroV := rcV_no (by decide)
      rw [this] at h
      unfold zeroV at h
      simp at h
/-- What ShelfOf gives. -/
def SoPost (s : List UInt8) (w : World) (e : Ending) (w' : World) : Prop := ∃ (v : Value) (cs : List Cel) (ok : Bool), e = .returned (.tuple #[v, .bool ok]) ∧ OwC w.heap.size w' v cs ∧ Below w.heap.size w w' ∧ ((ok = true ∧ SoIs s cs) ∨ (ok = false ∧ cs = [] ∧ ∀ d, ¬ SoIs s d))
theorem owT_at {B : Nat} {w : World} {v : Value} {l : List (List UInt8)} (h : OwT B w v l) : ∃ a cap, v = .slice a l.length cap ∧ ∀ i t, l[i]? = some t → ∃ g, a = some ⟨g, 0, none⟩ ∧ g < w.heap.size ∧ w.cell? ⟨g, i, none⟩ = some (.string (tx t)) := by
  obtain ⟨h1, h2⟩ := h
  rcases h2 with ⟨rfl, hn⟩ | ⟨g, cap, cur, rfl, hB, hg, hn, hc, hsz, hxs⟩
  · refine ⟨none, 0, by rw [hn], fun i t hi => ?_⟩
    have := (List.getElem?_eq_some_iff.1 hi).1; omega
  · refine ⟨_, cap, rfl, fun i t hi => ⟨g, rfl, (Array.getElem?_eq_some_iff.1 hg).1, ?_⟩⟩
    have hil := (List.getElem?_eq_some_iff.1 hi).1
    have e1 : (l.map fun p => Value.string (tx p))[i]? = some (.string (tx t)) := by rw [List.getElem?_map, hi]; rfl
    rw [← hxs, List.getElem?_take_of_lt (by omega)] at e1
    rw [Array.getElem?_toList] at e1
    simp [World.cell?, hg, e1]
theorem tot_ge : ∀ l : List (List UInt8), l.length ≤ (tot l).length
  | [] => Nat.zero_le _
  | t :: l => by
    have e : tot (t :: l) = fr t ++ tot l := by simp [tot]
    have := tot_ge l
    rw [e, List.length_append, List.length_cons]
    have : 0 < (fr t).length := by unfold fr; simp only [List.length_append, List.length_cons]; omega
    omega
theorem vw_two (w : World) (c : Cel) : Vw ((w.alloc (.cells #[.string c.r, .string c.b, .int .i64 c.t, .int .i64 c.v, .bool c.g] 36)).alloc (.cells #[.string c.r, .string c.b, .int .i64 c.t, .int .i64 c.v, .bool c.g] 36)) (some ⟨w.heap.size + 1, 0, none⟩) 1 [c] := by
  have h := Vw.lit (w.alloc (.cells #[.string c.r, .string c.b, .int .i64 c.t, .int .i64 c.v, .bool c.g] 36)) c
  rwa [show (w.alloc (.cells #[.string c.r, .string c.b, .int .i64 c.t, .int .i64 c.v, .bool c.g] 36)).heap.size = w.heap.size + 1 from by simp] at h
/-- In the midst of reading. -/
def Rding (w1 : World) (l : List (List UInt8)) (i : Nat) (s : Value) (wr : World) : Prop := ∃ cs : List Cel, OwC w1.heap.size wr s cs ∧ cs.map Cel.txt = l.take i ∧ (∀ c ∈ cs, c.ok = true) ∧ Below w1.heap.size w1 wr
theorem rd_len {l : List (List UInt8)} {i : Nat} {cs : List Cel} (h : cs.map Cel.txt = l.take i) : cs.length ≤ i := by
  have := congrArg List.length h
  rw [List.length_map, List.length_take] at this; omega
theorem rd_snoc {l : List (List UInt8)} {i : Nat} {cs : List Cel} {c : Cel} {t : List UInt8} (h : cs.map Cel.txt = l.take i) (ht : l[i]? = some t) (hc : c.txt = t) : (cs ++ [c]).map Cel.txt = l.take (i + 1) := by
  rw [List.map_append, h, List.take_succ_eq_append_getElem (List.getElem?_eq_some_iff.1 ht).1]
  congr 1
  rw [List.getElem?_eq_getElem (List.getElem?_eq_some_iff.1 ht).1] at ht
  rw [Option.some.inj ht]; simp [hc]
set_option maxHeartbeats 4000000 in
set_option maxRecDepth 100000 in
theorem implSo_any (s : ByteArray) (w : World) (hs : s.size ≤ 4194304) (hL : LibT w) (h3 : Lib3 w) (hM : LibM w) : Calls Tryd.prog 44 #[.string s] w (SoPost s.data.toList w) := by
  have HL := Lib.hid h3; clear h3
  have HM := Lib.hid hM; clear hM
  have HF := Lib.hid (implFrames_any s w hL); clear hL
  have hsz : s.data.toList.length = s.size := llen s
  go_enter Tryd.func44, Tryd.ntmps44
  go_wp2_with fail
  refine HF.out.mono ?_; rintro e w1 ⟨v, l, rfl, hfi, ho, b1⟩
  have hle := hfi.le
  have hge := tot_ge l
  have HFI := Lib.hid hfi; clear hfi
  have HO := Lib.hid ho; clear ho
  have B1 := Lib.hid b1; clear b1 HF
  by_cases heq : (tot l).length = s.size
  · have HS := Lib.hid (show s.data.toList = tot l by have := HFI.out.take; rw [heq, ← hsz, List.take_length] at this; exact this)
    have z0 : (((tot l).length : Int) != (s.size : Int)) = false := by rw [heq]; simp
    obtain ⟨ta, tcp, rfl, hat⟩ := owT_at HO.out
    have HAT := Lib.hid hat; clear hat
    generalize htl : (tot l).length = tl at *
    generalize hll : l.length = ll at *
    have HLL := Lib.hid hll; clear hll htl heq hsz
    have HST := Lib.hid (show Rding w1 l 0 (.slice none 0 0) w1 from ⟨[], OwC.nothing _ _, rfl, (fun c hc => by cases hc), Below.refl _ _⟩)
    go_wp2_with fail
    go_loopw [6, 8, 9, 10, 22] (fun s6 _ _ _ x wr => ∃ i : Nat, x = .int .i64 (i : Int) ∧ i ≤ ll ∧ Rding w1 l i s6 wr) (fun _ _ _ _ x _ => ll - intV x)
    case atStart => exact ⟨0, rfl, Nat.zero_le _, HST.out⟩
    case round =>
      clear HST
      obtain ⟨i, rfl, hi, cs, hoc, hcs, hok, hb⟩ := hrel
      have HOC := Lib.hid hoc; clear hoc
      have HCS := Lib.hid hcs
      have hcl : cs.length ≤ i := rd_len hcs
      clear hcs
      have HOK := Lib.hid hok; clear hok
      have HB := Lib.hid hb; clear hb
      have HW := Lib.hid (bel_tr B1.out HB.out (Nat.le_refl _))
      by_cases hlt : i < ll
      · obtain ⟨t, ht⟩ : ∃ t, l[i]? = some t := ⟨l[i]'(by rw [HLL.out]; exact hlt), List.getElem?_eq_getElem _⟩
        obtain ⟨gt, e1, hgt, tc⟩ := HAT.out i t ht
        cases e1
        have tc2 := (World.cell?_of_block (w := w1) (HB.out.block gt hgt)).trans tc
        have htl2 : t.length ≤ 300 := by
          have := HFI.out
          rcases this with ⟨-, h1, -⟩ | ⟨-, h1⟩
          · exact (plB_iff.1 (h1 t (List.mem_of_getElem? ht))).2
          · subst h1; simp at ht
        have HRD := implReadC_any (tx t) wr (by simp [tx, ByteArray.size]; omega) (lib3_next HL.out HW.out) (HM.out.next HW.out)
        have i1 : (i : Int) < (ll : Int) := by omega
        have i2 : (0 : Int) ≤ (i : Int) := by omega
        rcases rc_two t with hz | ⟨c, hco, hct, hz⟩
        · unfold RcPost at HRD
          rw [show (tx t).data.toList = t from rfl, hz] at HRD
          unfold zeroV at HRD
          have HR := Lib.hid HRD; clear HRD
          have HNO := Lib.hid (show ∀ d, ¬ SoIs s.data.toList d from fun d hd => by
            have e2 := so_frames hd HFI.out
            rw [e2, List.getElem?_map] at ht
            cases hdi : d[i]? with
            | none => rw [hdi] at ht; cases ht
            | some c =>
              rw [hdi] at ht
              have e3 : c.txt = t := Option.some.inj ht
              have e4 := read_of_show (okm hd.1 c (List.mem_of_getElem? hdi))
              have e5 : showB c.r.data.toList c.b.data.toList c.t c.v c.g = t := e3
              rw [e5, hz] at e4
              unfold zeroV at e4
              simp at e4)
          clear ht hz tc
          generalize tx t = st at *
          go_wp2_with fail
          refine HR.out.mono ?_; rintro e w2 ⟨rfl, b2⟩
          have B2 := Lib.hid (bel_tr HW.out b2 (Nat.le_refl _)); clear b2
          go_wp2_with fail
          go_ret2
          exact ⟨_, [], false, rfl, OwC.nothing _ _, (B2.out.alloc B2.out.size _), Or.inr ⟨rfl, rfl, HNO.out⟩⟩
        · unfold RcPost at HRD
          rw [show (tx t).data.toList = t from rfl, hz] at HRD
          have HR := Lib.hid HRD; clear HRD
          have HSN := Lib.hid (rd_snoc HCS.out ht hct)
          have HOK2 := Lib.hid (show ∀ d ∈ cs ++ [c], d.ok = true from fun d hd => by
            rcases List.mem_append.1 hd with hd | hd
            · exact HOK.out d hd
            · rw [List.mem_singleton] at hd; subst hd; exact hco)
          clear ht hz tc hct hco
          generalize tx t = st at *
          go_wp2_with fail
          refine HR.out.mono ?_; rintro e w2 ⟨rfl, b2⟩
          have B2 := Lib.hid (bel_tr HB.out b2 (Nat.le_refl _))
          have O2 := Lib.hid (HOC.out.next b2); clear b2 tc2
          have X3 := Lib.hid (Bc.made c.r c.b c.t c.v c.g w2 36)
          have BA := Lib.hid (bel1 w2 (.cells #[.string c.r, .string c.b, .int .i64 c.t, .int .i64 c.v, .bool c.g] 36))
          have O3 := Lib.hid (O2.out.next BA.out)
          have B3 := Lib.hid (bel_tr B2.out BA.out (Nat.le_refl _))
          have VL := Lib.hid (vw_two w2 c)
          have hcz : cs.length ≤ 20000 := by omega
          have hsz3 : w1.heap.size ≤ w2.heap.size := B2.out.size
          go_wp2_with (first
            | (at_builtin; refine append_cells rfl (.tmp 33) (.tmp 35) rfl (base := w1.heap.size) (l := cs) (m := [c]) rfl rfl rfl (O3.out.next (bel1 _ _)) VL.out (by simp; omega) (by simp; omega) ?_; intro v5 w5 o5 g5))
          have O5 := Lib.hid o5
          have B5 := Lib.hid ((bel_tr B3.out (bel1 _ _) (Nat.le_refl _)).grown g5 (by simp; omega) (fun j hj => OwC.lt O3.out j hj))
          clear o5 g5
          go_wp2_with fail
          go_roundw
          case rel => exact ⟨i + 1, by go_num, by omega, cs ++ [c], O5.out, HSN.out, HOK2.out, B5.out⟩
          case measure => simp [intV]; omega
      · have i1 : ¬ (i : Int) < (ll : Int) := by omega
        have HE := Lib.hid (show cs.map Cel.txt = l by rw [HCS.out]; exact List.take_of_length_le (by rw [HLL.out]; omega))
        have HLN := Lib.hid (show cs.length ≤ 20000 by omega)
        obtain ⟨ca, cc, rfl, hvc, -⟩ := HOC.out.view
        cases h1 : okL cs
        · have HNO := Lib.hid (show ∀ d, ¬ SoIs s.data.toList d from fun d hd => by
            have e2 := so_frames hd HFI.out
            rw [← HE.out] at e2
            rw [map_inj HOK.out (okm hd.1) e2, hd.1] at h1
            cases h1)
          have HC := Lib.hid (implC_is h1 wr ca cc _ rfl hvc (by have := HLN.out; omega)); clear h1 hvc
          generalize hcz : cs.length = cz at *
          clear hcz
          go_wp2_with fail
          refine HC.out.mono ?_; rintro e w2 ⟨rfl, b2⟩
          have B2 := Lib.hid (bel_tr HW.out b2 (Nat.le_refl _)); clear b2
          go_wp2_with fail
          go_ret2
          exact ⟨_, [], false, rfl, OwC.nothing _ _, B2.out, Or.inr ⟨rfl, rfl, HNO.out⟩⟩
        · have HIS := Lib.hid (show SoIs s.data.toList cs from ⟨h1, by unfold stB; rw [HE.out, HS.out]⟩)
          have HC := Lib.hid (implC_is h1 wr ca cc _ rfl hvc (by have := HLN.out; omega)); clear h1 hvc
          generalize hcz : cs.length = cz at *
          go_wp2_with fail
          refine HC.out.mono ?_; rintro e w2 ⟨rfl, b2⟩
          have B2 := Lib.hid (bel_tr HW.out b2 (Nat.le_refl _))
          have O2 := Lib.hid ((HOC.out.next b2).mono B1.out.size); clear b2
          go_wp2_with fail
          go_ret2
          exact ⟨_, cs, true, rfl, O2.out, B2.out, Or.inl ⟨rfl, HIS.out⟩⟩
  · have z0 : (((tot l).length : Int) != (s.size : Int)) = true := by
      rw [bne_iff_ne]; omega
    have HNO := Lib.hid (show ∀ d, ¬ SoIs s.data.toList d from fun d hd => by
      have e2 := so_frames hd HFI.out
      apply heq
      have e3 := hd.2
      unfold stB at e3
      rw [e2, e3, hsz])
    generalize (tot l).length = tl at *
    go_wp2_with fail
    go_ret2
    exact ⟨_, [], false, rfl, OwC.nothing _ _, B1.out, Or.inr ⟨rfl, rfl, HNO.out⟩⟩
end Go.Proofs.YtdalncgbbkeimaaDoor.Cl
namespace Go.Proofs.YtdalncgbbkeimaaDoor.Cl
open Go.RowKit Wd Rp Kp Fq
set_option linter.unusedVariables false
theorem ok_mod {c : Cel} (h : c.ok = true) : c.mod := by
  obtain ⟨hr, hb, -⟩ := cell_facts h
  exact ⟨by omega, by omega⟩
theorem show_is {c : Cel} {t : List UInt8} (h : c.ok = true) (e : c.txt = t) (w : World) : Calls Tryd.prog 71 #[.agg #[.string c.r, .string c.b, .int .i64 c.t, .int .i64 c.v, .bool c.g]] w fun e w' => e = .returned (.string (tx t)) ∧ Below w.heap.size w w' := by
  subst e; exact l4Show_any c.r c.b c.t c.v c.g w h
theorem append_to {ops : Array Oper} {rest : List Oper} {o : Oper} {a : Act} {Q : Exit → Act → World → Prop} {w : World} (hw : Region.wanted o (yielded ops a.tmps) = true) (s x : Operand)
    (ho : o.op = .call { callee := .builtin .append, args := #[s, x], argTypes := #[55, 55] })
    {base : Nat} {v : Value} {ad : Option Addr} {cap n : Nat} {l m : List Cel} (hs : a.eval s = v) (hx : a.eval x = .slice ad n cap) (hmn : m.length = n) (hown : OwC base w v l) (hy : Vw w ad cap m) (hlen : l.length + m.length ≤ 10000000) (hbase : base ≤ w.heap.size)
    (h : ∀ v' w', OwC base w' v' (l ++ m) → w.grownBy w' v.ownBlock → (v'.ownBlock = v.ownBlock ∨ v'.ownBlock = some w.heap.size) → wpList Tryd.prog ops Q rest (a.put o.dst v') w') : wpList Tryd.prog ops Q (o :: rest) a w := by
  refine BigFrame.wpList_want hw fun K hK => ?_
  subst hmn
  obtain ⟨v', w', hr, h2, h3, h4⟩ := run_append_cells o.type hown hy hlen hbase
  unfold Oper.wp execOp
  simp only [ho, resolve, invoke, builtin, Sem.run_bind, Sem.run_pure, Result.andThen_ok, List.map_toArray, List.map_cons, List.map_nil, hs, hx, hr]
  exact hK _ _ (h v' w' h2 h3 h4)
/-- The texts' row stays. -/
structure Kept (w w1 wr : World) : Prop where
  size : w1.heap.size ≤ wr.heap.size
  below : Below w.heap.size w wr
  row : ∀ g, w.heap.size < g → g < w1.heap.size → wr.heap[g]? = w1.heap[g]?
theorem Kept.next {w w1 wr z : World} (h : Kept w w1 wr) (k : Below wr.heap.size wr z) : Kept w w1 z :=
  ⟨Nat.le_trans h.size k.size, bel_tr h.below k (Nat.le_refl _), fun g h1 h2 => (k.block g (Nat.lt_of_lt_of_le h2 h.size)).trans (h.row g h1 h2)⟩
/-- In the midst of reading. -/
def Rdi (w w1 : World) (l : List (List UInt8)) (i : Nat) (s : Value) (wr : World) : Prop := ∃ cs : List Cel, OwC w.heap.size wr s cs ∧ (∀ k, s.ownBlock = some k → k = w.heap.size ∨ w1.heap.size ≤ k) ∧ cs.map Cel.txt = l.take i ∧ (∀ c ∈ cs, c.ok = true) ∧ Kept w w1 wr
theorem Kept.grown {w w1 wr z : World} {row : Option Nat} (h : Kept w w1 wr) (g : wr.grownBy z row) (hr : ∀ k, row = some k → k = w.heap.size ∨ w1.heap.size ≤ k) (hz : w.heap.size ≤ wr.heap.size) (hy : w.heap.size ≤ w1.heap.size) : Kept w w1 z :=
  ⟨Nat.le_trans h.size g.size, h.below.grown g hz (fun j hj => by rcases hr j hj with e | e <;> omega), fun k h1 h2 => (g.block k (Nat.lt_of_lt_of_le h2 h.size) (fun e => by rcases hr k e.symm with e | e <;> omega)).trans (h.row k h1 h2)⟩
set_option maxHeartbeats 4000000 in
set_option maxRecDepth 100000 in
theorem specSo_any (s : ByteArray) (w : World) (hs : s.size ≤ 4194304) : Calls Tryd.prog 43 #[.string s] w (SoPost s.data.toList w) := by
  have HF := Lib.hid (fun z => specFrames_any s z hs)
  have hsz : s.data.toList.length = s.size := llen s
  have O0 := Lib.hid (OwC.start (B := w.heap.size) (w := w) (Nat.le_refl _))
  have B0 := Lib.hid (bel1 w (.cells #[] 36))
  have q0 : w.heap.size < (w.alloc (.cells #[] 36)).heap.size := by simp
  go_enter Tryd.func43, Tryd.ntmps43
  go_wp2_with fail
  generalize w.alloc (.cells #[] 36) = w0 at *
  refine (HF.out w0).mono ?_; rintro e w1 ⟨v, l, rfl, hfi, ho, b1⟩
  have hle := hfi.le
  have hge := tot_ge l
  have HFI := Lib.hid hfi; clear hfi
  have HO := Lib.hid ho; clear ho
  have B1 := Lib.hid (bel_tr B0.out b1 (Nat.le_refl _))
  have O1 := Lib.hid (O0.out.next b1)
  have q1 : w0.heap.size ≤ w1.heap.size := b1.size
  clear b1 HF O0 B0
  by_cases heq : (tot l).length = s.size
  · have HS := Lib.hid (show s.data.toList = tot l by have := HFI.out.take; rw [heq, ← hsz, List.take_length] at this; exact this)
    have z0 : (((tot l).length : Int) != (s.size : Int)) = false := by rw [heq]; simp
    obtain ⟨ta, tcp, rfl, hat⟩ := owT_at HO.out
    have HAT := Lib.hid hat; clear hat
    have HGT := Lib.hid (show ∀ g, ta = some ⟨g, 0, none⟩ → w0.heap.size ≤ g from fun g e => by
      rcases HO.out.2 with ⟨h, -⟩ | ⟨g', _, _, h, hB, -⟩
      · rw [e] at h; simp at h
      · rw [e] at h; simp at h; omega)
    generalize htl : (tot l).length = tl at *
    generalize hll : l.length = ll at *
    have HLL := Lib.hid hll; clear hll htl heq hsz
    have HST := Lib.hid (show Rdi w w1 l 0 (.slice (some ⟨w.heap.size, 0, none⟩) 0 0) w1 from ⟨[], O1.out, fun k hk => Or.inl (by simp [Value.ownBlock] at hk; exact hk.symm), rfl, (fun c hc => by cases hc), ⟨Nat.le_refl _, B1.out, fun _ _ _ => rfl⟩⟩)
    clear O1
    go_wp2_with fail
    go_loopw [4, 7, 8, 9] (fun s4 x _ _ wr => ∃ i : Nat, x = .int .i64 (i : Int) ∧ i ≤ ll ∧ Rdi w w1 l i s4 wr) (fun _ x _ _ _ => ll - intV x)
    case atStart => exact ⟨0, rfl, Nat.zero_le _, HST.out⟩
    case round =>
      clear HST
      obtain ⟨i, rfl, hi, cs, hoc, hrw, hcs, hok, hb⟩ := hrel
      have HOC := Lib.hid hoc; clear hoc
      have HRW := Lib.hid hrw; clear hrw
      have HCS := Lib.hid hcs
      have hcl : cs.length ≤ i := rd_len hcs
      clear hcs
      have HOK := Lib.hid hok; clear hok
      have HB := Lib.hid hb; clear hb
      have hws : w.heap.size ≤ wr.heap.size := HB.out.below.size
      by_cases hlt : i < ll
      · obtain ⟨t, ht⟩ : ∃ t, l[i]? = some t := ⟨l[i]'(by rw [HLL.out]; exact hlt), List.getElem?_eq_getElem _⟩
        obtain ⟨gt, e1, hgt1, tc⟩ := HAT.out i t ht
        cases e1
        have tc2 := (World.cell?_of_block (w := w1) (HB.out.row gt (by have := HGT.out gt rfl; omega) hgt1)).trans tc
        have hgt0 : gt < wr.heap.size := Nat.lt_of_lt_of_le hgt1 HB.out.size
        have htl2 : t.length ≤ 300 := by
          have := HFI.out
          rcases this with ⟨-, h1, -⟩ | ⟨-, h1⟩
          · exact (plB_iff.1 (h1 t (List.mem_of_getElem? ht))).2
          · subst h1; simp at ht
        have HRD := specReadC_any (tx t) wr (by simp [tx, ByteArray.size]; omega)
        have i1 : (i : Int) < (ll : Int) := by omega
        have i2 : (0 : Int) ≤ (i : Int) := by omega
        rcases rc_two t with hz | ⟨c, hco, hct, hz⟩
        · unfold RcPost at HRD
          rw [show (tx t).data.toList = t from rfl, hz] at HRD
          unfold zeroV at HRD
          have HR := Lib.hid HRD; clear HRD
          have HNO := Lib.hid (show ∀ d, ¬ SoIs s.data.toList d from fun d hd => by
            have e2 := so_frames hd HFI.out
            rw [e2, List.getElem?_map] at ht
            cases hdi : d[i]? with
            | none => rw [hdi] at ht; cases ht
            | some c =>
              rw [hdi] at ht
              have e3 : c.txt = t := Option.some.inj ht
              have e4 := read_of_show (okm hd.1 c (List.mem_of_getElem? hdi))
              have e5 : showB c.r.data.toList c.b.data.toList c.t c.v c.g = t := e3
              rw [e5, hz] at e4
              unfold zeroV at e4
              simp at e4)
          clear ht hz tc
          generalize tx t = st at *
          go_wp2_with fail
          refine HR.out.mono ?_; rintro e w2 ⟨rfl, b2⟩
          have B2 := Lib.hid (bel_tr HB.out.below b2 (Nat.le_refl _)); clear b2
          go_wp2_with fail
          have B3 := Lib.hid (bel_tr B2.out (bel1 w2 (.cells #[.string ⟨#[]⟩, .string ⟨#[]⟩, .int .i64 0, .int .i64 0, .bool false] 36)) (Nat.le_refl _))
          generalize w2.alloc (Obj.cells #[Value.string ⟨#[]⟩, Value.string ⟨#[]⟩, Value.int IntKind.i64 0, Value.int IntKind.i64 0, Value.bool false] 36) = w3 at B3 ⊢
          refine wp_region_held_drew (S := fun z => Below w3.heap.size w3 z) (by kernel_rfl) (Below.refl _ _).drew (fun hHeld => ?_)
          refine wpAnyH_take (i := 0) (v := ?v0n) rfl (by kernel_rfl) (by kernel_rfl) (by kernel_rfl) (fun _ _ _ h => h) (Or.inl ⟨by rfl, ?hy0n⟩) (by assumption) ?rest0n
          case hy0n => (intro zz hSw; (try dsimp only at hSw); go_simp; (try with_reducible rfl))
          change wpAnyH _ _ _ _ _ _ _ (Act.put _ (some 35) _) _
          simp only [Act.put, List.setIfInBounds_toArray, List.set_cons_zero, List.set_cons_succ]
          refine wpAnyH_take (i := 1) (v := ?v1n) rfl (by kernel_rfl) (by kernel_rfl) (by kernel_rfl) (fun _ _ _ h => h) (Or.inl ⟨by rfl, ?hy1n⟩) (by assumption) ?rest1n
          case hy1n => (intro zz hSw; (try dsimp only at hSw); go_simp; (try with_reducible rfl))
          change wpAnyH _ _ _ _ _ _ _ (Act.put _ (some 36) _) _
          simp only [Act.put, List.setIfInBounds_toArray, List.set_cons_zero, List.set_cons_succ]
          refine wpAnyH_take (i := 2) (v := ?v2n) rfl (by kernel_rfl) (by kernel_rfl) (by kernel_rfl) (fun _ _ _ h => h) (Or.inl ⟨by rfl, ?hy2n⟩) (by assumption) ?rest2n
          case hy2n => (intro zz hSw; (try dsimp only at hSw); go_simp; (try with_reducible rfl))
          change wpAnyH _ _ _ _ _ _ _ (Act.put _ (some 37) _) _
          simp only [Act.put, List.setIfInBounds_toArray, List.set_cons_zero, List.set_cons_succ]
          refine wpAnyH_take (i := 3) (v := undef) rfl (by kernel_rfl) (by kernel_rfl) (by kernel_rfl) (fun _ _ _ h => h) (Or.inr ⟨by rfl, rfl⟩) (by assumption) ?_
          change wpAnyH _ _ _ _ _ _ _ (Act.put _ (some 38) _) _
          simp only [Act.put, List.setIfInBounds_toArray, List.set_cons_zero, List.set_cons_succ]
          refine wpAnyH_take (i := 4) (v := undef) rfl (by kernel_rfl) (by kernel_rfl) (by kernel_rfl) (fun _ _ _ h => h) (Or.inr ⟨by rfl, rfl⟩) (by assumption) ?_
          change wpAnyH _ _ _ _ _ _ _ (Act.put _ (some 39) _) _
          simp only [Act.put, List.setIfInBounds_toArray, List.set_cons_zero, List.set_cons_succ]
          refine wpAnyH_take (i := 5) (v := undef) rfl (by kernel_rfl) (by kernel_rfl) (by kernel_rfl) (fun _ _ _ h => h) (Or.inr ⟨by rfl, rfl⟩) (by assumption) ?_
          change wpAnyH _ _ _ _ _ _ _ (Act.put _ (some 40) _) _
          simp only [Act.put, List.setIfInBounds_toArray, List.set_cons_zero, List.set_cons_succ]
          refine wpAnyH_take (i := 6) (v := undef) rfl (by kernel_rfl) (by kernel_rfl) (by kernel_rfl) (fun _ _ _ h => h) (Or.inr ⟨by rfl, rfl⟩) (by assumption) ?_
          change wpAnyH _ _ _ _ _ _ _ (Act.put _ (some 41) _) _
          simp only [Act.put, List.setIfInBounds_toArray, List.set_cons_zero, List.set_cons_succ]
          refine wpAnyH_take (i := 7) (v := undef) rfl (by kernel_rfl) (by kernel_rfl) (by kernel_rfl) (fun _ _ _ h => h) (Or.inr ⟨by rfl, rfl⟩) (by assumption) ?_
          change wpAnyH _ _ _ _ _ _ _ (Act.put _ (some 42) _) _
          simp only [Act.put, List.setIfInBounds_toArray, List.set_cons_zero, List.set_cons_succ]
          refine wpAnyH_take (i := 8) (v := undef) rfl (by kernel_rfl) (by kernel_rfl) (by kernel_rfl) (fun _ _ _ h => h) (Or.inr ⟨by rfl, rfl⟩) (by assumption) ?_
          change wpAnyH _ _ _ _ _ _ _ (Act.put _ (some 43) _) _
          simp only [Act.put, List.setIfInBounds_toArray, List.set_cons_zero, List.set_cons_succ]
          refine wpAnyH_take (i := 9) (v := undef) rfl (by kernel_rfl) (by kernel_rfl) (by kernel_rfl) (fun _ _ _ h => h) (Or.inr ⟨by rfl, rfl⟩) (by assumption) ?_
          change wpAnyH _ _ _ _ _ _ _ (Act.put _ (some 44) _) _
          simp only [Act.put, List.setIfInBounds_toArray, List.set_cons_zero, List.set_cons_succ]
          refine wpAnyH_take (i := 10) (v := ?v10n) rfl (by kernel_rfl) (by kernel_rfl) (by kernel_rfl) (fun _ _ _ h => h) (Or.inl ⟨by rfl, ?hy10n⟩) (by assumption) ?rest10n
          case hy10n => (intro zz hSw; (try dsimp only at hSw); go_simp; (try with_reducible rfl))
          change wpAnyH _ _ _ _ _ _ _ (Act.put _ (some 45) _) _
          simp only [Act.put, List.setIfInBounds_toArray, List.set_cons_zero, List.set_cons_succ]
          refine wpAnyH_done (by kernel_rfl) ?_ _
          have B4 := Lib.hid (bel_tr B3.out hHeld (Nat.le_refl _)); clear hHeld
          rename_i w4
          go_wp2_with fail
          go_ret2
          exact ⟨_, [], false, rfl, OwC.start B4.out.size, bel_tr B4.out (bel1 _ _) (Nat.le_refl _), Or.inr ⟨rfl, rfl, HNO.out⟩⟩
        · unfold RcPost at HRD
          rw [show (tx t).data.toList = t from rfl, hz] at HRD
          have HR := Lib.hid HRD; clear HRD
          have HSN := Lib.hid (rd_snoc HCS.out ht hct)
          have HOK2 := Lib.hid (show ∀ d ∈ cs ++ [c], d.ok = true from fun d hd => by
            rcases List.mem_append.1 hd with hd | hd
            · exact HOK.out d hd
            · rw [List.mem_singleton] at hd; subst hd; exact hco)
          have HSW := Lib.hid (show_is hco hct)
          have hcz : cs.length ≤ 20000 := by omega
          clear ht hz tc hct hco
          generalize tx t = st at *
          go_wp2_with fail
          refine HR.out.mono ?_; rintro e w2 ⟨rfl, b2⟩
          have B2 := Lib.hid (HB.out.next b2)
          have O2 := Lib.hid (HOC.out.next b2)
          have tc3 := (World.cell?_of_block (w := wr) (b2.block gt hgt0)).trans tc2
          have hgt2 : gt < w2.heap.size := Nat.lt_of_lt_of_le hgt0 b2.size
          clear b2 tc2
          go_wp2_with fail
          have X3 := Bc.made c.r c.b c.t c.v c.g w2 36
          have BA := bel1 w2 (.cells #[.string c.r, .string c.b, .int .i64 c.t, .int .i64 c.v, .bool c.g] 36)
          generalize w2.alloc (Obj.cells #[Value.string c.r, Value.string c.b, Value.int IntKind.i64 c.t, Value.int IntKind.i64 c.v, Value.bool c.g] 36) = w3 at X3 BA ⊢
          have O3 := Lib.hid (O2.out.next BA)
          have B3 := Lib.hid (B2.out.next BA)
          have tc4 := (World.cell?_of_block (w := w2) (BA.block gt hgt2)).trans tc3
          have hgt : gt < w3.heap.size := Nat.lt_of_lt_of_le hgt2 BA.size
          obtain ⟨x0, x1, x2, x3, x4, hq⟩ := X3
          generalize w2.heap.size = q at *
          clear BA tc3
          have SOF := Lib.hid (show ∀ z, Below w3.heap.size w3 z → (z.cell? ⟨q, 0, none⟩ = some (.string c.r) ∧ z.cell? ⟨q, 1, none⟩ = some (.string c.b) ∧ z.cell? ⟨q, 2, none⟩ = some (.int .i64 c.t) ∧ z.cell? ⟨q, 3, none⟩ = some (.int .i64 c.v) ∧ z.cell? ⟨q, 4, none⟩ = some (.bool c.g) ∧ z.cell? ⟨gt, i, none⟩ = some (.string st) ∧ Below w3.heap.size w3 z) from fun z hz => ⟨coc hz hq x0, coc hz hq x1, coc hz hq x2, coc hz hq x3, coc hz hq x4, coc hz hgt tc4,  hz⟩)
          clear x0 x1 x2 x3 x4 tc4 O2 B2 HR
          refine wp_region_held_drew (S := fun z => z.cell? ⟨q, 0, none⟩ = some (.string c.r) ∧ z.cell? ⟨q, 1, none⟩ = some (.string c.b) ∧ z.cell? ⟨q, 2, none⟩ = some (.int .i64 c.t) ∧ z.cell? ⟨q, 3, none⟩ = some (.int .i64 c.v) ∧ z.cell? ⟨q, 4, none⟩ = some (.bool c.g) ∧ z.cell? ⟨gt, i, none⟩ = some (.string st) ∧ Below w3.heap.size w3 z) (by kernel_rfl) (SOF.out _ (Below.refl _ _).drew) (fun hHeld => ?_)
          refine wpAnyH_take (i := 0) (v := ?v0y) rfl (by kernel_rfl) (by kernel_rfl) (by kernel_rfl) (fun _ _ _ h => h) (Or.inl ⟨by rfl, ?hy0y⟩) (by assumption) ?rest0y
          case hy0y => (intro zz hSw; (try dsimp only at hSw); go_simp; (try with_reducible rfl))
          change wpAnyH _ _ _ _ _ _ _ (Act.put _ (some 35) _) _
          simp only [Act.put, List.setIfInBounds_toArray, List.set_cons_zero, List.set_cons_succ]
          refine wpAnyH_take (i := 1) (v := ?v1y) rfl (by kernel_rfl) (by kernel_rfl) (by kernel_rfl) (fun _ _ _ h => h) (Or.inl ⟨by rfl, ?hy1y⟩) (by assumption) ?rest1y
          case hy1y => (intro zz hSw; (try dsimp only at hSw); go_simp; (try with_reducible rfl))
          change wpAnyH _ _ _ _ _ _ _ (Act.put _ (some 36) _) _
          simp only [Act.put, List.setIfInBounds_toArray, List.set_cons_zero, List.set_cons_succ]
          refine wpAnyH_take (i := 2) (v := ?v2y) rfl (by kernel_rfl) (by kernel_rfl) (by kernel_rfl) (fun _ _ _ h => h) (Or.inl ⟨by rfl, ?hy2y⟩) (by assumption) ?rest2y
          case hy2y => (intro zz hSw; (try dsimp only at hSw); go_simp; (try with_reducible rfl))
          change wpAnyH _ _ _ _ _ _ _ (Act.put _ (some 37) _) _
          simp only [Act.put, List.setIfInBounds_toArray, List.set_cons_zero, List.set_cons_succ]
          refine wpAnyH_take (i := 3) (v := ?v3y) rfl (by kernel_rfl) (by kernel_rfl) (by kernel_rfl) (fun _ _ _ h => h) (Or.inl ⟨by rfl, ?hy3y⟩) (by assumption) ?rest3y
          case hy3y => (intro zz hSw; (try dsimp only at hSw); go_simp; (try with_reducible rfl))
          change wpAnyH _ _ _ _ _ _ _ (Act.put _ (some 38) _) _
          simp only [Act.put, List.setIfInBounds_toArray, List.set_cons_zero, List.set_cons_succ]
          refine wpAnyH_take (i := 5) (v := ?v5y) rfl (by kernel_rfl) (by kernel_rfl) (by kernel_rfl) (fun _ _ _ h => h) (Or.inl ⟨by rfl, ?hy5y⟩) (by assumption) ?rest5y
          case hy5y => (intro zz hSw; (try dsimp only at hSw); go_simp; (try with_reducible rfl))
          change wpAnyH _ _ _ _ _ _ _ (Act.put _ (some 40) _) _
          simp only [Act.put, List.setIfInBounds_toArray, List.set_cons_zero, List.set_cons_succ]
          refine wpAnyH_take (i := 6) (v := ?v6y) rfl (by kernel_rfl) (by kernel_rfl) (by kernel_rfl) (fun _ _ _ h => h) (Or.inl ⟨by rfl, ?hy6y⟩) (by assumption) ?rest6y
          case hy6y => (intro zz hSw; (try dsimp only at hSw); go_simp; (try with_reducible rfl))
          change wpAnyH _ _ _ _ _ _ _ (Act.put _ (some 41) _) _
          simp only [Act.put, List.setIfInBounds_toArray, List.set_cons_zero, List.set_cons_succ]
          refine wpAnyH_take (i := 7) (v := ?v7y) rfl (by kernel_rfl) (by kernel_rfl) (by kernel_rfl) (fun _ _ _ h => h) (Or.inl ⟨by rfl, ?hy7y⟩) (by assumption) ?rest7y
          case hy7y => (intro zz hSw; (try dsimp only at hSw); go_simp; (try with_reducible rfl))
          change wpAnyH _ _ _ _ _ _ _ (Act.put _ (some 42) _) _
          simp only [Act.put, List.setIfInBounds_toArray, List.set_cons_zero, List.set_cons_succ]
          refine wpAnyH_take (i := 8) (v := ?v8y) rfl (by kernel_rfl) (by kernel_rfl) (by kernel_rfl) (fun _ _ _ h => h) (Or.inl ⟨by rfl, ?hy8y⟩) (by assumption) ?rest8y
          case hy8y => (intro zz hSw; (try dsimp only at hSw); go_simp; (try with_reducible rfl))
          change wpAnyH _ _ _ _ _ _ _ (Act.put _ (some 43) _) _
          simp only [Act.put, List.setIfInBounds_toArray, List.set_cons_zero, List.set_cons_succ]
          refine wpAnyH_ready (rs := [4]) (by kernel_rfl) (by simp) (AllReadyH.cons rfl (fun K hK => ?_) AllReadyH.nil)
          go_simp
          refine (HSW.out _).mono ?_; rintro _ w7 ⟨rfl, bel⟩
          refine hK.out _ _ (SOF.out _ (bel_tr hHeld.2.2.2.2.2.2 bel (Nat.le_refl _))) (fun hHeld => ?_)
          clear hK K bel
          refine wpAnyH_take (i := 9) (v := ?v9y) rfl (by kernel_rfl) (by kernel_rfl) (by kernel_rfl) (fun _ _ _ h => h) (Or.inl ⟨by rfl, ?hy9y⟩) (by assumption) ?rest9y
          case hy9y => (intro zz hSw; (try dsimp only at hSw); go_simp; (try with_reducible rfl))
          change wpAnyH _ _ _ _ _ _ _ (Act.put _ (some 44) _) _
          simp only [Act.put, List.setIfInBounds_toArray, List.set_cons_zero, List.set_cons_succ]
          refine wpAnyH_take (i := 10) (v := ?v10y) rfl (by kernel_rfl) (by kernel_rfl) (by kernel_rfl) (fun _ _ _ h => h) (Or.inl ⟨by rfl, ?hy10y⟩) (by assumption) ?rest10y
          case hy10y => (intro zz hSw; (try dsimp only at hSw); go_simp; (try with_reducible rfl))
          change wpAnyH _ _ _ _ _ _ _ (Act.put _ (some 45) _) _
          simp only [Act.put, List.setIfInBounds_toArray, List.set_cons_zero, List.set_cons_succ]
          refine wpAnyH_done (by kernel_rfl) ?_ _
          have BX := Lib.hid hHeld.2.2.2.2.2.2
          obtain ⟨x0, x1, x2, x3, x4, -⟩ := hHeld
          clear SOF
          have O4 := Lib.hid ((O3.out.next BX.out).next (bel1 w7 (.cells #[.string c.r, .string c.b, .int .i64 c.t, .int .i64 c.v, .bool c.g] 36)))
          have B4 := Lib.hid ((B3.out.next BX.out).next (bel1 w7 (.cells #[.string c.r, .string c.b, .int .i64 c.t, .int .i64 c.v, .bool c.g] 36)))
          have VL := Lib.hid (Vw.lit w7 c)
          have hs7 : w.heap.size ≤ w7.heap.size := (B3.out.next BX.out).below.size
          have hs8 : w1.heap.size ≤ w7.heap.size := (B3.out.next BX.out).size
          go_wp2_with (first
            | (at_builtin; refine append_to rfl (.tmp 47) (.tmp 49) rfl (base := w.heap.size) (l := cs) (m := [c]) rfl rfl rfl O4.out VL.out (by simp; omega) (by simp; omega) ?_; intro v5 w5 o5 g5 p5))
          have O5 := Lib.hid o5
          have B5 := Lib.hid (B4.out.grown g5 HRW.out (by simp; omega) B1.out.size)
          have R5 := Lib.hid (show ∀ k, v5.ownBlock = some k → k = w.heap.size ∨ w1.heap.size ≤ k from fun k hk => by
            rcases p5 with p5 | p5
            · exact HRW.out k (p5.symm.trans hk)
            · rw [p5] at hk; simp at hk; omega)
          clear o5 g5 p5
          go_wp2_with fail
          go_roundw
          case rel => exact ⟨i + 1, by go_num, by omega, cs ++ [c], O5.out, R5.out, HSN.out, HOK2.out, B5.out⟩
          case measure => simp [intV]; omega
      · have i1 : ¬ (i : Int) < (ll : Int) := by omega
        have HE := Lib.hid (show cs.map Cel.txt = l by rw [HCS.out]; exact List.take_of_length_le (by rw [HLL.out]; omega))
        have HLN := Lib.hid (show cs.length ≤ 20000 by omega)
        obtain ⟨ca, cc, rfl, hvc, -⟩ := HOC.out.view
        cases h1 : okL cs
        · have HNO := Lib.hid (show ∀ d, ¬ SoIs s.data.toList d from fun d hd => by
            have e2 := so_frames hd HFI.out
            rw [← HE.out] at e2
            rw [map_inj HOK.out (okm hd.1) e2, hd.1] at h1
            cases h1)
          have HC := Lib.hid (specC_is h1 wr ca cc _ rfl hvc (fun c hc => ok_mod (HOK.out c hc)) (by have := HLN.out; omega)); clear h1 hvc
          generalize hcz : cs.length = cz at *
          clear hcz
          go_wp2_with fail
          refine HC.out.mono ?_; rintro e w2 ⟨rfl, b2⟩
          have B2 := Lib.hid (bel_tr HB.out.below b2 (Nat.le_refl _)); clear b2
          go_wp2_with fail
          go_ret2
          exact ⟨_, [], false, rfl, OwC.start B2.out.size, bel_tr B2.out (bel1 _ _) (Nat.le_refl _), Or.inr ⟨rfl, rfl, HNO.out⟩⟩
        · have HIS := Lib.hid (show SoIs s.data.toList cs from ⟨h1, by unfold stB; rw [HE.out, HS.out]⟩)
          have HC := Lib.hid (specC_is h1 wr ca cc _ rfl hvc (fun c hc => ok_mod (HOK.out c hc)) (by have := HLN.out; omega)); clear h1 hvc
          generalize hcz : cs.length = cz at *
          go_wp2_with fail
          refine HC.out.mono ?_; rintro e w2 ⟨rfl, b2⟩
          have B2 := Lib.hid (bel_tr HB.out.below b2 (Nat.le_refl _))
          have O2 := Lib.hid (HOC.out.next b2); clear b2
          go_wp2_with fail
          go_ret2
          exact ⟨_, cs, true, rfl, O2.out, B2.out, Or.inl ⟨rfl, HIS.out⟩⟩
  · have z0 : (((tot l).length : Int) != (s.size : Int)) = true := by
      rw [bne_iff_ne]; omega
    have HNO := Lib.hid (show ∀ d, ¬ SoIs s.data.toList d from fun d hd => by
      have e2 := so_frames hd HFI.out
      apply heq
      have e3 := hd.2
      unfold stB at e3
      rw [e2, e3, hsz])
    generalize (tot l).length = tl at *
    go_wp2_with fail
    go_ret2
    exact ⟨_, [], false, rfl, O1.out, B1.out, Or.inr ⟨rfl, rfl, HNO.out⟩⟩
end Go.Proofs.YtdalncgbbkeimaaDoor.Cl
