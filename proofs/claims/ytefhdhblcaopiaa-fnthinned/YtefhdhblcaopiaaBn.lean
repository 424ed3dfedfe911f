/-
  Slices of bytes that the call itself makes: appending, storing and reslicing keep them slices of bytes; the cursor and all that was there stay.
-/
import Derived.Test.YtefhdhblcaopiaaCx
import Derived.Laws.BytesArg
import Derived.Lib.ConvBytes
import Derived.Lib.AtoiErrMem
import Derived.Maps.AppendAt
import Derived.Deep.RegionLaw
import Derived.Deep.AppendLies
import Derived.OwnWalk
namespace Go.Proofs.Ytefhdhblcaopiaa.Cu
open Go.RowKit

theorem But.setNew {b : Nat} {x w : World} (h : But b x w) {p : Addr} (hp : x.heap.size ≤ p.block) (u : Value) : But b x (w.setCell p u) :=
  ⟨h.os, h.tape, h.output, by have := h.size; simpa [World.setCell] using this, fun k hk hb => (Below.heap_setCell _ _ _ _ (by omega)).trans (h.block k hk hb)⟩
theorem But.grown {b : Nat} {x w w' : World} {row : Option Nat} (h : But b x w) (hg : w.grownBy w' row) (hr : ∀ k, row = some k → x.heap.size ≤ k) : But b x w' :=
  ⟨hg.os.trans h.os, hg.tape.trans h.tape, hg.output.trans h.output, Nat.le_trans h.size hg.size, fun k hk hb => (hg.block k (Nat.lt_of_lt_of_le hk h.size) (fun e => by have := hr k e.symm; omega)).trans (h.block k hk hb)⟩
theorem But.below' {b : Nat} {x w w' : World} (h : But b x w) (hw : Below w.heap.size w w') : But b x w' :=
  ⟨hw.os.trans h.os, hw.tape.trans h.tape, hw.output.trans h.output, Nat.le_trans h.size hw.size, fun k hk hb => (hw.block k (Nat.lt_of_lt_of_le hk h.size)).trans (h.block k hk hb)⟩

/-- Where a call stands that began in w0 with the cursor b. -/
structure St (w0 : World) (B b : Nat) (w : World) : Prop where
  but : But b w0 w
  cur : Cur B b w
  lt : b < w0.heap.size
theorem St.alloc {w0 w : World} {B b : Nat} (h : St w0 B b w) (o : Obj) : St w0 B b (w.alloc o) := ⟨h.but.alloc o, h.cur.alloc o, h.lt⟩
theorem St.drew {w0 w : World} {B b : Nat} (h : St w0 B b w) : St w0 B b w.drew := ⟨h.but.drew, h.cur.drew, h.lt⟩
theorem St.drewN {w0 w : World} {B b : Nat} (h : St w0 B b w) (n : Nat) : St w0 B b (w.drewN n) := ⟨h.but.drewN n, h.cur.drewN n, h.lt⟩
theorem St.setNew {w0 w : World} {B b : Nat} (h : St w0 B b w) {p : Addr} (hp : w0.heap.size ≤ p.block) (u : Value) : St w0 B b (w.setCell p u) :=
  ⟨h.but.setNew hp u, h.cur.carry (fun k hk => Below.heap_setCell _ _ _ _ (by have := h.cur.le; have := h.lt; omega)) (Below.heap_setCell _ _ _ _ (by have := h.lt; omega)), h.lt⟩
theorem St.grown {w0 w w' : World} {B b : Nat} {row : Option Nat} (h : St w0 B b w) (hg : w.grownBy w' row) (hr : ∀ k, row = some k → w0.heap.size ≤ k) : St w0 B b w' :=
  ⟨h.but.grown hg hr, h.cur.carry (fun k hk => hg.block k (by have := h.cur.le; have := h.cur.lt; omega) (fun e => by have := hr k e.symm; have := h.cur.le; have := h.lt; omega)) (hg.block b h.cur.lt (fun e => by have := hr b e.symm; have := h.lt; omega)), h.lt⟩
theorem St.draws {w0 w w' : World} {B b : Nat} (h : St w0 B b w) (hb : But b w w') (hc : Cur B b w') : St w0 B b w' := ⟨h.but.trans hb, hc, h.lt⟩
theorem St.size {w0 w : World} {B b : Nat} (h : St w0 B b w) : w0.heap.size ≤ w.heap.size := h.but.size

/-- Each of m places from ad on holds a byte. -/
def Src (w : World) (ad : Addr) (m : Nat) : Prop := ∀ j, j < m → ∃ z : Int, w.cell? (ad.add j) = some (.int .u8 z) ∧ 0 ≤ z ∧ z ≤ 255
def IsB (u : Value) : Prop := ∃ z : Int, u = .int .u8 z ∧ 0 ≤ z ∧ z ≤ 255
theorem Src.list {w : World} {ad : Addr} : ∀ {m : Nat}, Src w ad m → ∃ news : List Value, news.length = m * 1 ∧ (∀ j u, news[j]? = some u → w.cell? (ad.add j) = some u) ∧ ∀ u ∈ news, IsB u
  | 0, _ => ⟨[], rfl, fun j u h => by simp at h, fun u h => by cases h⟩
  | m + 1, h => by
    obtain ⟨l, h1, h2, h3⟩ := Src.list (m := m) (fun j hj => h j (by omega))
    obtain ⟨z, hz, z0, z1⟩ := h m (by omega)
    refine ⟨l ++ [.int .u8 z], by simp [h1], fun j u hu => ?_, fun u hu => ?_⟩
    · by_cases hj : j < l.length
      · rw [List.getElem?_append_left hj] at hu; exact h2 j u hu
      · rw [List.getElem?_append_right (by omega)] at hu
        have hj' : j = m := by
          rcases Nat.lt_trichotomy (j - l.length) 0 with g | g | g
          · omega
          · omega
          · rw [List.getElem?_eq_none (by simp; omega)] at hu; cases hu
        subst hj'
        rw [show j - l.length = 0 by omega] at hu
        simp at hu
        rw [← hu]; exact hz
    · rcases List.mem_append.1 hu with g | g
      · exact h3 u g
      · rw [List.mem_singleton] at g; exact ⟨z, g, z0, z1⟩
theorem Src.carry {w w' : World} {ad : Addr} {m : Nat} (h : Src w ad m) (hb : w'.heap[ad.block]? = w.heap[ad.block]?) : Src w' ad m := fun j hj => by
  obtain ⟨z, hz, hr⟩ := h j hj
  have hbl : (ad.add j).block = ad.block := by unfold Addr.add; split <;> rfl
  exact ⟨z, (World.cell?_of_block (w := w) (by rw [hbl]; exact hb)).trans hz, hr⟩

/-- A slice of n bytes that the call has made itself. -/
def OwnB (w0 w : World) (v : Value) (n : Nat) : Prop := v ≠ .slice none 0 0 ∧ ∃ xs, w.ownsRow w0.heap.size 5 1 v n xs ∧ ∀ u ∈ xs, IsB u
theorem OwnB.carry {w0 w w' : World} {v : Value} {n : Nat} {row : Option Nat} (h : OwnB w0 w v n) (hg : w.grownBy w' row) (hne : v.ownBlock ≠ row) : OwnB w0 w' v n := by
  obtain ⟨h0, xs, h1, h2⟩ := h
  exact ⟨h0, xs, h1.kept hg (Or.inr hne), h2⟩
theorem But.grownBy {b : Nat} {w w' : World} (h : But b w w') : w.grownBy w' (some b) := ⟨h.os, h.tape, h.output, h.size, fun k hk hne => h.block k hk (fun e => hne (by rw [e]))⟩
theorem OwnB.draws {w0 w w' : World} {v : Value} {n b : Nat} (h : OwnB w0 w v n) (hb : But b w w') (hlt : b < w0.heap.size) : OwnB w0 w' v n := by
  refine h.carry hb.grownBy (fun e => ?_)
  obtain ⟨h0, xs, h1, h2⟩ := h
  have := (h1.lt b e).1
  omega
theorem OwnB.alloc {w0 w : World} {v : Value} {n : Nat} (h : OwnB w0 w v n) (o : Obj) : OwnB w0 (w.alloc o) v n := by
  obtain ⟨h0, xs, h1, h2⟩ := h
  exact ⟨h0, xs, h1.alloc o, h2⟩
theorem OwnB.drew {w0 w : World} {v : Value} {n : Nat} (h : OwnB w0 w v n) : OwnB w0 w.drew v n := h
theorem OwnB.drewN {w0 w : World} {v : Value} {n : Nat} (h : OwnB w0 w v n) (k : Nat) : OwnB w0 (w.drewN k) v n := h
theorem OwnB.start {w0 w : World} (h : w0.heap.size ≤ w.heap.size) : OwnB w0 (w.alloc (.cells #[] 5)) (.slice (some ⟨w.heap.size, 0, none⟩) 0 0) 0 :=
  ⟨(fun e => by cases e), [], World.ownsRow_made w #[] 0 h (by decide) rfl, fun u hu => by cases hu⟩
/-- Written out: where it lies, and its cells. -/
theorem OwnB.form {w0 w : World} {v : Value} {n : Nat} (h : OwnB w0 w v n) : ∃ g cap, v = .slice (some ⟨g, 0, none⟩) n cap ∧ w0.heap.size ≤ g ∧ g < w.heap.size ∧ n ≤ cap ∧ cap ≤ maxLen ∧ ∀ k, k < n → (∃ z : Int, w.cell? ⟨g, k, none⟩ = some (.int .u8 z) ∧ 0 ≤ z ∧ z ≤ 255) ∧ w.frozen? ⟨g, k, none⟩ = false := by
  obtain ⟨h0, xs, ⟨hl, h1⟩, h2⟩ := h
  rcases h1 with ⟨rfl, _⟩ | ⟨g, cap, cur, rfl, hb, hg, hn, hc, hsz, hxs⟩
  · exact absurd rfl h0
  · refine ⟨g, cap, rfl, hb, (Array.getElem?_eq_some_iff.1 hg).1, hn, hc, fun k hk => ⟨?_, by simp [World.frozen?, hg]⟩⟩
    have hk' : k < xs.length := by omega
    have hm := h2 _ (List.getElem_mem hk')
    obtain ⟨z, hz, z0, z1⟩ := hm
    refine ⟨z, ?_, z0, z1⟩
    have e1 : xs[k]? = some (.int .u8 z) := by rw [List.getElem?_eq_getElem hk', hz]
    rw [← hxs, List.getElem?_take_of_lt (by omega)] at e1
    simpa [World.cell?, hg] using e1

theorem info5 : (Try.prog.info? 5).map (fun i => (i.zero, i.size, i.bytes)) = some (some (.int .u8 0), 1, 1) := by kernel_rfl
/-- append of bytes onto a slice that the call has made, as one step of a region that draws its order. -/
theorem step_append_bytes {ops : Array Oper} {o : Oper} {a : Act} {w : World} {K : Act → World → Prop} {Q : Exit → Act → World → Prop} {E : Prop}
    (hg : o.guard = none) (s x : Operand) (hop : o.op = Op.call { callee := Callee.builtin Builtin.append, args := #[s, x], argTypes := #[22, 22] })
    (w0 : World) (v : Value) (n : Nat) (hs : a.eval s = v) (hown : OwnB w0 w v n) (ad : Addr) (m c : Nat) (hx : a.eval x = .slice (some ad) m c) (hsrc : Src w ad m) (hbd : n + m ≤ 1000000) (hbase : w0.heap.size ≤ w.heap.size)
    (hK : ∀ v' w', OwnB w0 w' v' (n + m) → w.grownBy w' v.ownBlock → (v'.ownBlock = v.ownBlock ∨ v'.ownBlock = some w.heap.size) → K (a.put o.dst v') w') :
    if Region.wanted o (yielded ops a.tmps) = true then Oper.wp Try.prog o a w K Q else E := by
  have hw : Region.wanted o (yielded ops a.tmps) = true := by simp [Region.wanted, hg]
  rw [if_pos hw]
  obtain ⟨i0, hi, hz0, hz1, hz2⟩ := info_parts info5
  obtain ⟨news, hl, hnews, hB⟩ := hsrc.list
  obtain ⟨h0, xs, h1, h2⟩ := hown
  obtain ⟨v', w', hr, hown', hgr, hnil, hblk⟩ := run_append_own_at (P := Try.prog) w w0.heap.size 22 o.type 5 i0 (.int .u8 0) 1 1 Try.underlying22 hi hz0 hz1 hz2 rfl (by decide) v n xs h1 ad m c news hl hnews
    (fun u hu => by obtain ⟨z, rfl, _⟩ := hB u hu; rfl) (by unfold maxLen; omega) (by omega) hbase
  unfold Oper.wp execOp
  simp only [hop, resolve, invoke, builtin, Sem.run_bind, Sem.run_pure, Result.andThen_ok, List.map_toArray, List.map_cons, List.map_nil, hs, hx, hr]
  refine hK v' w' ⟨fun e => h0 (hnil.1 e).1, xs ++ news, hown', fun u hu => ?_⟩ hgr hblk
  rcases List.mem_append.1 hu with g | g
  · exact h2 u g
  · exact hB u g
end Go.Proofs.Ytefhdhblcaopiaa.Cu
