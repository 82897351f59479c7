/-
  What is handed in to the statements of this seat, opened: an int; lists of nodes; a past (channels, rows of readings); a reading; bounds.
-/
import Derived.Test.YthgmjeljjladhaaFoA
import Derived.Test.YthgmjeljjladhaaFoM
import Derived.ProofKit
import Derived.OpenShut
import Derived.ChangeOld
import Derived.Below
import Derived.SizedLaws
import Derived.Deep.Strs
import Derived.Lib.SmallJoins
namespace Go.Proofs.Ythgmjeljjladhaa
open Go.ChangeShapes Go.WideShapes Go.ChangeAt Go.RowKit
set_option maxRecDepth 100000
theorem own : ownKnob Try.prog.godebug = none := by kernel_rfl
theorem cInt : Try.prog.cellsOf 3 = 1 := by kernel_rfl
theorem cNode : Try.prog.cellsOf 38 = 4 := by kernel_rfl
theorem cChannel : Try.prog.cellsOf 42 = 7 := by kernel_rfl
theorem cFilter : Try.prog.cellsOf 40 = 3 := by kernel_rfl
theorem cReading : Try.prog.cellsOf 48 = 2 := by kernel_rfl
theorem cRow : Try.prog.cellsOf 43 = 1 := by kernel_rfl
theorem bNode : Try.prog.bytesOf 38 = 32 := by kernel_rfl
theorem list_of {β : Type} {Q : Nat → β → Prop} : ∀ n : Nat, (∀ i, i < n → ∃ o, Q i o) → ∃ l : List β, l.length = n ∧ ∀ i o, l[i]? = some o → Q i o
  | 0, _ => ⟨[], rfl, fun i o h => by simp at h⟩
  | n + 1, h => by
    obtain ⟨l, hl, hq⟩ := list_of n (fun i hi => h i (by omega))
    obtain ⟨o, ho⟩ := h n (by omega)
    refine ⟨l ++ [o], by simp [hl], fun i x hx => ?_⟩
    by_cases hi : i < n
    · rw [List.getElem?_append_left (by omega)] at hx
      exact hq i x hx
    · rw [List.getElem?_append_right (by omega)] at hx
      have : i - l.length = 0 := by
        rcases Nat.eq_zero_or_pos (i - l.length) with h | h
        · exact h
        · rw [List.getElem?_eq_none (by simp; omega)] at hx; cases hx
      rw [this] at hx
      have e : i = n := by omega
      subst e
      cases hx
      exact ho
section
variable {H : Type} {enc : TypeId × Value → H} {W : World} {base : Nat} {sp : Nat → Bool} {held : Bool}
theorem trod_i64 {fuel : Nat} {v : Value} {y : DataW H × List MemPlace} (h : DataW.trod enc Try.prog W base sp held fuel 3 [v] = some y) : ∃ n, v = .int .i64 n ∧ y = (.lit (.int .i64 n), []) ∧ (Lit.int .i64 n).wf = true := by
  cases fuel with
  | zero => simp [DataW.trod] at h
  | succ f =>
    simp only [DataW.trod, Try.underlying3] at h
    cases v <;> simp at h
    rename_i k n
    obtain ⟨⟨rfl, hw⟩, rfl⟩ := h
    exact ⟨n, rfl, rfl, hw⟩
/-- A slice whose elements lie in cells, opened. -/
theorem open_grow {β : Type} (E : Enc β) {e T : TypeId} (hT : Try.prog.underlying T = some (.slice e)) (hk : Try.prog.cellsOf e = E.k) (P : β → Prop) (hel : ∀ {fuel : Nat} {cs : List Value} {y : DataW H × List MemPlace}, DataW.trod enc Try.prog W base sp held fuel e cs = some y → cs.length = E.k → ∃ x, cs = E.enc x ∧ P x)
    {fuel : Nat} {v : Value} {y : DataW H × List MemPlace} (h : DataW.trod enc Try.prog W base sp held fuel T [v] = some y) :
    ∃ a len cap xs, v = .slice a len cap ∧ GRow E W a len xs ∧ (a = none → len = 0 ∧ cap = 0) ∧ (∀ x ∈ xs, P x) ∧ (y.1 = .nil ∧ len = 0 ∨ ∃ es rest, y.1 = .slice es rest ∧ es.length = len) := by
  rcases DataW.trod_slice hT h with ⟨hcs, hy⟩ | ⟨a, l, c, elems, rest, n, _, hcs, hx, _, hl, _, hel', hat, _, _⟩
  · simp at hcs
    subst hcs
    exact ⟨none, 0, 0, [], rfl, GRow.nil E W none, fun _ => ⟨rfl, rfl⟩, (fun x hx => by cases hx), .inl ⟨by rw [hy], rfl⟩⟩
  · simp at hcs
    subst hcs
    have hpos := E.pos
    have each : ∀ i, i < l → ∃ o : β, P o ∧ ∃ b off, a = ⟨b, off, none⟩ ∧ b < W.heap.size ∧ ∀ j v, (E.enc o)[j]? = some v → W.cell? ⟨b, off + i * E.k + j, none⟩ = some v := by
      intro i hi
      have hi2 := hat i hi
      rw [hk] at hi2
      have hei : elems[i]? = some (elems[i]'(by omega)) := List.getElem?_eq_getElem (by omega)
      rw [hei, Option.bind_eq_some_iff] at hi2
      obtain ⟨cs, hcs, htr⟩ := hi2
      obtain ⟨_, hlen, hcell⟩ := World.cells?_some hcs
      obtain ⟨o, ho, hP⟩ := hel htr hlen
      obtain ⟨b, off, spot⟩ := a
      have hspot : spot = none := by
        have hi0 := hat 0 (by omega)
        rw [hk, List.getElem?_eq_getElem (show 0 < elems.length by omega), Option.bind_eq_some_iff] at hi0
        obtain ⟨cs0, hcs0, _⟩ := hi0
        obtain ⟨_, hl0, hc0⟩ := World.cells?_some hcs0
        have h0 := hc0 0 hpos
        rw [List.getElem?_eq_getElem (show 0 < cs0.length by omega)] at h0
        simpa [Addr.add] using World.cell?_spot h0
      subst hspot
      have hce : ∀ j v, (E.enc o)[j]? = some v → W.cell? ⟨b, off + i * E.k + j, none⟩ = some v := by
        intro j v hj
        have hjk : j < E.k := by
          rcases Nat.lt_or_ge j E.k with h' | h'
          · exact h'
          · rw [List.getElem?_eq_none (by rw [E.len]; exact h')] at hj; cases hj
        have := hcell j hjk
        rw [add_off, add_off, ho, hj] at this
        exact this
      have h1 : (E.enc o)[0]? = some ((E.enc o)[0]'(by rw [E.len]; exact hpos)) := List.getElem?_eq_getElem _
      exact ⟨o, hP, b, off, rfl, cell_lt (hce 0 _ h1), hce⟩
    obtain ⟨xs, hxl, hq⟩ := list_of l each
    refine ⟨some a, l, c, xs, rfl, ⟨hxl, fun i hi => ?_⟩, (fun h => by cases h), fun x hx => ?_, .inr ⟨elems.map (·.1), rest.map (·.1), by rw [hx], by simp [hel']⟩⟩
    · obtain ⟨_, b, off, e1, hlt, hc⟩ := hq i xs[i] (by simp [hxl, hi])
      exact ⟨b, off, xs[i], by rw [e1], hlt, by simp [hxl, hi], hc⟩
    · obtain ⟨i, hi, rfl⟩ := List.getElem_of_mem hx
      exact (hq i xs[i] (List.getElem?_eq_getElem hi)).1
/-- Ints that may be. -/
def Nd.in64 (x : Nd) : Prop := (Lit.int .i64 x.op).wf = true ∧ (Lit.int .i64 x.a).wf = true ∧ (Lit.int .i64 x.b).wf = true ∧ (Lit.int .i64 x.n).wf = true
theorem el_node {fuel : Nat} {cs : List Value} {y : DataW H × List MemPlace} (h : DataW.trod enc Try.prog W base sp held fuel 38 cs = some y) (hl : cs.length = 4) : ∃ x : Nd, cs = ndE.enc x ∧ x.in64 := by
  match cs, hl with
  | [x0, x1, x2, x3], _ =>
    obtain ⟨y0, y1, y2, y3, n1, _, _, t0, t1, t2, t3⟩ := _root_.Go.Joins.trod_struct4 Try.underlying38 h
    simp only [cInt, List.drop_succ_cons, List.drop_zero, List.take_succ_cons, List.take_zero] at t0 t1 t2 t3
    obtain ⟨f0, rfl, _, w0⟩ := trod_i64 t0
    obtain ⟨f1, rfl, _, w1⟩ := trod_i64 t1
    obtain ⟨f2, rfl, _, w2⟩ := trod_i64 t2
    obtain ⟨f3, rfl, _, w3⟩ := trod_i64 t3
    exact ⟨⟨f0, f1, f2, f3⟩, rfl, w0, w1, w2, w3⟩
theorem el_reading {fuel : Nat} {cs : List Value} {y : DataW H × List MemPlace} (h : DataW.trod enc Try.prog W base sp held fuel 48 cs = some y) (hl : cs.length = 2) : ∃ x : Rd, cs = rdE.enc x ∧ True := by
  match cs, hl with
  | [x0, x1], _ =>
    obtain ⟨y0, y1, n1, _, _, t0, t1⟩ := trod_struct2 Try.underlying48 h
    simp only [cInt, List.drop_succ_cons, List.drop_zero, List.take_succ_cons, List.take_zero] at t0 t1
    obtain ⟨f0, rfl, _, _⟩ := trod_i64 t0
    obtain ⟨f1, rfl, _, _⟩ := trod_i64 t1
    exact ⟨⟨f0, f1⟩, rfl, trivial⟩
theorem trod_struct5 {t : TypeId} {f0 f1 f2 f3 f4 : Field} {fuel : Nat} {cs : List Value} {x : DataW H × List MemPlace} (ht : Try.prog.underlying t = some (.struct #[f0, f1, f2, f3, f4])) (h : DataW.trod enc Try.prog W base sp held fuel t cs = some x) :
    ∃ y0 y1 y2 y3 y4 n, DataW.trod enc Try.prog W base sp held n f0.type ((cs.drop f0.offset).take (Try.prog.cellsOf f0.type)) = some y0 ∧ DataW.trod enc Try.prog W base sp held n f1.type ((cs.drop f1.offset).take (Try.prog.cellsOf f1.type)) = some y1 ∧ DataW.trod enc Try.prog W base sp held n f2.type ((cs.drop f2.offset).take (Try.prog.cellsOf f2.type)) = some y2 ∧ DataW.trod enc Try.prog W base sp held n f3.type ((cs.drop f3.offset).take (Try.prog.cellsOf f3.type)) = some y3 ∧ DataW.trod enc Try.prog W base sp held n f4.type ((cs.drop f4.offset).take (Try.prog.cellsOf f4.type)) = some y4 := by
  obtain ⟨xs, n, _, rfl, hl, hlen, hf⟩ := DataW.trod_struct ht h
  match xs, hlen with
  | [y0, y1, y2, y3, y4], _ => exact ⟨y0, y1, y2, y3, y4, n, by simpa using hf 0 f0 rfl, by simpa using hf 1 f1 rfl, by simpa using hf 2 f2 rfl, by simpa using hf 3 f3 rfl, by simpa using hf 4 f4 rfl⟩
theorem el_channel {fuel : Nat} {cs : List Value} {y : DataW H × List MemPlace} (h : DataW.trod enc Try.prog W base sp held fuel 42 cs = some y) (hl : cs.length = 7) : ∃ x : Ch, cs = chE.enc x ∧ True := by
  match cs, hl with
  | [x0, x1, x2, x3, x4, x5, x6], _ =>
    obtain ⟨y0, y1, y2, y3, y4, n1, t0, t1, t2, t3, t4⟩ := trod_struct5 Try.underlying42 h
    simp only [cInt, cFilter, List.drop_succ_cons, List.drop_zero, List.take_succ_cons, List.take_zero] at t0 t1 t2 t3 t4
    obtain ⟨z0, z1, z2, n2, _, _, s0, s1, s2⟩ := Go.Deep.trod_struct3 Try.underlying40 t2
    simp only [cInt, List.drop_succ_cons, List.drop_zero, List.take_succ_cons, List.take_zero] at s0 s1 s2
    obtain ⟨f0, rfl, _, _⟩ := trod_i64 t0
    obtain ⟨f1, rfl, _, _⟩ := trod_i64 t1
    obtain ⟨f2, rfl, _, _⟩ := trod_i64 s0
    obtain ⟨f3, rfl, _, _⟩ := trod_i64 s1
    obtain ⟨f4, rfl, _, _⟩ := trod_i64 s2
    obtain ⟨f5, rfl, _, _⟩ := trod_i64 t3
    obtain ⟨f6, rfl, _, _⟩ := trod_i64 t4
    exact ⟨⟨f0, f1, f2, f3, f4, f5, f6⟩, rfl, trivial⟩
theorem el_row {fuel : Nat} {cs : List Value} {y : DataW H × List MemPlace} (h : DataW.trod enc Try.prog W base sp held fuel 43 cs = some y) (hl : cs.length = 1) : ∃ x : Tr, cs = trE.enc x ∧ x.In W := by
  match cs, hl with
  | [x0], _ =>
    obtain ⟨a, len, cap, xs, rfl, hr, hn, _, _⟩ := open_grow rdE Try.underlying43 cReading (fun _ => True) (fun h hl => el_reading h hl) h
    exact ⟨⟨a, len, cap, xs⟩, rfl, hr, hn⟩
/-- How long a slice's datum is. -/
def Shape (d : DataW H) (len : Nat) : Prop := d = .nil ∧ len = 0 ∨ ∃ es rest, d = .slice es rest ∧ es.length = len
theorem open_nodes {r : Reach} {b0 : Nat} {v : Value} {d : DataW H} {p : List MemPlace} (hv : Value.okWide Try.prog W r b0 22 v) (h : DataW.Trod enc Try.prog W base sp held 22 v d p) :
    ∃ a len cap L, v = .slice a len cap ∧ NRow W a len L ∧ (a = none → len = 0 ∧ cap = 0) ∧ (∀ x ∈ L, x.in64) ∧ Shape d len := by
  obtain ⟨a, len, cap, rfl⟩ := okWide_slice Try.underlying22 hv
  obtain ⟨fuel, hf⟩ := h
  have hf' : DataW.trod enc Try.prog W base sp held fuel 22 [.slice a len cap] = some (d, p) := by simpa [Value.cells] using hf
  obtain ⟨a', len', cap', xs, e, hr, hn, hP, hs⟩ := open_grow ndE Try.underlying22 cNode Nd.in64 (fun h hl => el_node h hl) hf'
  cases e
  exact ⟨a, len, cap, xs, rfl, hr, hn, hP, hs⟩
theorem open_reading {r : Reach} {b0 : Nat} {v : Value} {d : DataW H} {p : List MemPlace} (hv : Value.okWide Try.prog W r b0 48 v) (h : DataW.Trod enc Try.prog W base sp held 48 v d p) :
    ∃ k m, v = .agg #[.int .i64 k, .int .i64 m] ∧ d = .agg [.lit (.int .i64 k), .lit (.int .i64 m)] ∧ p = [] ∧ (Lit.int .i64 k).wf = true ∧ (Lit.int .i64 m).wf = true := by
  obtain ⟨v0, v1, y0, y1, n, rfl, rfl, rfl, h0, h1⟩ := _root_.Go.Joins.open_agg2 Try.underlying48 (by kernel_rfl) cReading hv h
  obtain ⟨k, rfl, rfl, w0⟩ := trod_i64 h0
  obtain ⟨m, rfl, rfl, w1⟩ := trod_i64 h1
  exact ⟨k, m, rfl, rfl, rfl, w0, w1⟩
theorem shut_reading {k m : Int} (w0 : (Lit.int .i64 k).wf = true) (w1 : (Lit.int .i64 m).wf = true) :
    DataW.Trod enc Try.prog W base sp held 48 (.agg #[.int .i64 k, .int .i64 m]) (.agg [.lit (.int .i64 k), .lit (.int .i64 m)]) [] :=
  _root_.Go.Joins.shut_agg2 (y0 := (.lit (.int .i64 k), [])) (y1 := (.lit (.int .i64 m), [])) Try.underlying48 (by kernel_rfl) cReading ⟨1, trod_int_mk 0 Try.underlying3 w0⟩ ⟨1, trod_int_mk 0 Try.underlying3 w1⟩
theorem sizedN {ts : List TypeId} {ds : List (DataW H)} {d : DataW H} {len : Nat} (h : (DataW.weightsEach Try.prog ts ds).all (· ≤ reachBytes) = true) (j : Nat) (ht : ts[j]? = some 22) (hd : ds[j]? = some d) (hs : Shape d len) : len ≤ 4398046510976 := by
  rcases hs with ⟨rfl, rfl⟩ | ⟨es, sp, rfl, rfl⟩
  · omega
  · have := sized_slice h ht hd Try.underlying22
    rw [bNode] at this
    simp only [reachBytes] at this
    omega
end
end Go.Proofs.Ythgmjeljjladhaa
