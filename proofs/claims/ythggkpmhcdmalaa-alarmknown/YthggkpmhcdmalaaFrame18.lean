/-
  What is handed in to the statements of this seat, opened: an int; a spec; a state; lists of deeds, with their bounds.
-/
import Derived.Test.YthggkpmhcdmalaaAlM
import Derived.ProofKit
import Derived.OpenShut
import Derived.ChangeOld
import Derived.Below
import Derived.SizedLaws
import Derived.Deep.Strs
import Derived.Lib.SmallJoins
namespace Go.Proofs.Ythggkpmhcdmalaa
open Go.ChangeShapes Go.WideShapes Go.ChangeAt Go.RowKit
set_option maxRecDepth 100000
theorem own : ownKnob Try.prog.godebug = none := by kernel_rfl
theorem laidOut : laidOutB Try.prog = true := by kernel_rfl
theorem cInt : Try.prog.cellsOf 3 = 1 := by kernel_rfl
theorem cBool : Try.prog.cellsOf 4 = 1 := by kernel_rfl
theorem cDeed : Try.prog.cellsOf 38 = 3 := by kernel_rfl
theorem bDeed : Try.prog.bytesOf 38 = 24 := by kernel_rfl
theorem cSpec : Try.prog.cellsOf 23 = 3 := by kernel_rfl
theorem cState : Try.prog.cellsOf 25 = 4 := by kernel_rfl
theorem list_of {α : Type} {Q : Nat → α → Prop} : ∀ n : Nat, (∀ i, i < n → ∃ o, Q i o) → ∃ l : List α, l.length = n ∧ ∀ i o, l[i]? = some o → Q i o
  | 0, _ => ⟨[], rfl, fun i o h => by simp at h⟩
  | n + 1, h => by
    obtain ⟨l, hl, hq⟩ := list_of n (fun i hi => h i (by omega))
    obtain ⟨o, ho⟩ := h n (by omega)
    refine ⟨l ++ [o], by simp [hl], fun i x hx => ?_⟩
    by_cases hi : i < n
    · rw [List.getElem?_append_left (by omega)] at hx
      exact hq i x hx
    · rw [List.getElem?_append_right (by omega)] at hx
      have : i - l.length = 0 := by
        rcases Nat.eq_zero_or_pos (i - l.length) with h | h
        · exact h
        · rw [List.getElem?_eq_none (by simp; omega)] at hx; cases hx
      rw [this] at hx
      have e : i = n := by omega
      subst e
      cases hx
      exact ho
section
variable {H : Type} {enc : TypeId × Value → H} {W : World} {base : Nat} {sp : Nat → Bool} {held : Bool}
theorem trod_i64 {fuel : Nat} {v : Value} {y : DataW H × List MemPlace} (h : DataW.trod enc Try.prog W base sp held fuel 3 [v] = some y) : ∃ n, v = .int .i64 n ∧ y = (.lit (.int .i64 n), []) ∧ (Lit.int .i64 n).wf = true := by
  cases fuel with
  | zero => simp [DataW.trod] at h
  | succ f =>
    simp only [DataW.trod, Try.underlying3] at h
    cases v <;> simp at h
    rename_i k n
    obtain ⟨⟨rfl, hw⟩, rfl⟩ := h
    exact ⟨n, rfl, rfl, hw⟩
theorem trod_flag {fuel : Nat} {v : Value} {y : DataW H × List MemPlace} (h : DataW.trod enc Try.prog W base sp held fuel 4 [v] = some y) : ∃ b, v = .bool b ∧ y = (.lit (.bool b), []) := by
  cases fuel with
  | zero => simp [DataW.trod] at h
  | succ f =>
    simp only [DataW.trod, Try.underlying4] at h
    cases v <;> simp at h
    rename_i b
    exact ⟨b, rfl, h.symm⟩
theorem open_spec {r : Reach} {b0 : Nat} {v : Value} {d : DataW H} {p : List MemPlace} (hv : Value.okWide Try.prog W r b0 23 v) (h : DataW.Trod enc Try.prog W base sp held 23 v d p) :
    ∃ k m e, v = .agg #[.int .i64 k, .bool m, .int .i64 e] ∧ d = .agg [.lit (.int .i64 k), .lit (.bool m), .lit (.int .i64 e)] ∧ p = [] ∧ (Lit.int .i64 k).wf = true ∧ (Lit.int .i64 e).wf = true := by
  obtain ⟨v0, v1, v2, y0, y1, y2, n, rfl, rfl, rfl, h0, h1, h2⟩ := _root_.Go.Joins.open_agg3 Try.underlying23 (by kernel_rfl) cSpec hv h
  obtain ⟨k, rfl, rfl, w0⟩ := trod_i64 h0
  obtain ⟨m, rfl, rfl⟩ := trod_flag h1
  obtain ⟨e, rfl, rfl, w2⟩ := trod_i64 h2
  exact ⟨k, m, e, rfl, rfl, rfl, w0, w2⟩
theorem shut_spec {k e : Int} {m : Bool} (w0 : (Lit.int .i64 k).wf = true) (w2 : (Lit.int .i64 e).wf = true) :
    DataW.Trod enc Try.prog W base sp held 23 (.agg #[.int .i64 k, .bool m, .int .i64 e]) (.agg [.lit (.int .i64 k), .lit (.bool m), .lit (.int .i64 e)]) [] :=
  _root_.Go.Joins.shut_agg3 (y0 := (.lit (.int .i64 k), [])) (y1 := (.lit (.bool m), [])) (y2 := (.lit (.int .i64 e), [])) Try.underlying23 (by kernel_rfl) cSpec ⟨1, trod_int_mk 0 Try.underlying3 w0⟩ (shut_bool Try.underlying4 m) ⟨1, trod_int_mk 0 Try.underlying3 w2⟩
theorem open_state {r : Reach} {b0 : Nat} {v : Value} {d : DataW H} {p : List MemPlace} (hv : Value.okWide Try.prog W r b0 25 v) (h : DataW.Trod enc Try.prog W base sp held 25 v d p) :
    ∃ k m e f, v = .agg #[.int .i64 k, .int .i64 m, .int .i64 e, .int .i64 f] ∧ d = .agg [.lit (.int .i64 k), .lit (.int .i64 m), .lit (.int .i64 e), .lit (.int .i64 f)] ∧ p = [] ∧ (Lit.int .i64 k).wf = true ∧ (Lit.int .i64 m).wf = true ∧ (Lit.int .i64 e).wf = true ∧ (Lit.int .i64 f).wf = true := by
  obtain ⟨v0, v1, v2, v3, y0, y1, y2, y3, n, rfl, rfl, rfl, h0, h1, h2, h3⟩ := _root_.Go.Joins.open_agg4 Try.underlying25 (by kernel_rfl) cState hv h
  obtain ⟨k, rfl, rfl, w0⟩ := trod_i64 h0
  obtain ⟨m, rfl, rfl, w1⟩ := trod_i64 h1
  obtain ⟨e, rfl, rfl, w2⟩ := trod_i64 h2
  obtain ⟨f, rfl, rfl, w3⟩ := trod_i64 h3
  exact ⟨k, m, e, f, rfl, rfl, rfl, w0, w1, w2, w3⟩
theorem shut_state {k m e f : Int} (w0 : (Lit.int .i64 k).wf = true) (w1 : (Lit.int .i64 m).wf = true) (w2 : (Lit.int .i64 e).wf = true) (w3 : (Lit.int .i64 f).wf = true) :
    DataW.Trod enc Try.prog W base sp held 25 (.agg #[.int .i64 k, .int .i64 m, .int .i64 e, .int .i64 f]) (.agg [.lit (.int .i64 k), .lit (.int .i64 m), .lit (.int .i64 e), .lit (.int .i64 f)]) [] :=
  _root_.Go.Joins.shut_agg4 (y0 := (.lit (.int .i64 k), [])) (y1 := (.lit (.int .i64 m), [])) (y2 := (.lit (.int .i64 e), [])) (y3 := (.lit (.int .i64 f), [])) Try.underlying25 (by kernel_rfl) cState ⟨1, trod_int_mk 0 Try.underlying3 w0⟩ ⟨1, trod_int_mk 0 Try.underlying3 w1⟩ ⟨1, trod_int_mk 0 Try.underlying3 w2⟩ ⟨1, trod_int_mk 0 Try.underlying3 w3⟩
/-- How long what is handed in is, by what it reads as. -/
def Shape (d : DataW H) (len : Nat) : Prop := len = 0 ∨ ∃ es sp, d = .slice es sp ∧ es.length = len
theorem threeCells {a : Addr} {cs : List Value} (h : W.cells? base a 3 = some cs) : ∃ x y z, cs = [x, y, z] ∧ W.cell? (a.add 0) = some x ∧ W.cell? (a.add 1) = some y ∧ W.cell? (a.add 2) = some z := by
  unfold World.cells? at h
  split at h
  · have e : List.range 3 = [0, 1, 2] := by decide
    rw [e] at h
    simp only [List.mapM_cons, List.mapM_nil, Option.pure_def, Option.bind_eq_bind, Option.bind_eq_some_iff, Option.some.injEq] at h
    obtain ⟨x, hx, _, ⟨y, hy, _, ⟨z, hz, _, rfl, rfl⟩, rfl⟩, rfl⟩ := h
    exact ⟨x, y, z, rfl, hx, hy, hz⟩
  · cases h
theorem addr_add (b off i : Nat) : (⟨b, off, none⟩ : Addr).add i = ⟨b, off + i, none⟩ := by
  by_cases h0 : i = 0
  · subst h0; simp [Addr.add]
  · simp [Addr.add, h0]
theorem cell_lt {b off : Nat} {v : Value} (h : W.cell? ⟨b, off, none⟩ = some v) : b < W.heap.size := by
  rcases Nat.lt_or_ge b W.heap.size with h' | h'
  · exact h'
  · unfold World.cell? at h
    simp [Array.getElem?_eq_none h'] at h
theorem open_deeds {r : Reach} {b0 : Nat} {v : Value} {d : DataW H} {p : List MemPlace} (hv : Value.okWide Try.prog W r b0 26 v) (h : DataW.Trod enc Try.prog W base (fun _ => true) held 26 v d p) :
    ∃ a len cap zs, v = .slice a len cap ∧ DdRow W a len zs ∧ (∀ z ∈ zs, z.In) ∧ Shape d len := by
  obtain ⟨a, len, cap, rfl⟩ := okWide_slice Try.underlying26 hv
  obtain ⟨fuel, hf⟩ := h
  rcases DataW.trod_slice Try.underlying26 hf with ⟨hcs, _⟩ | ⟨y, l, c, elems, rest, n, _, hcs, hx, _, hl, _, hel, hat, _, _⟩
  · simp [Value.cells] at hcs
    obtain ⟨rfl, rfl, rfl⟩ := hcs
    exact ⟨none, 0, 0, [], rfl, DdRow.nil W none, (fun z hz => by cases hz), .inl rfl⟩
  · simp [Value.cells] at hcs
    obtain ⟨rfl, rfl, rfl⟩ := hcs
    have each : ∀ i, i < len → ∃ o : Dd, ∃ b off, y = ⟨b, off, none⟩ ∧ b < W.heap.size ∧ W.cell? ⟨b, off + i * 3, none⟩ = some (.int .i64 o.k) ∧ W.cell? ⟨b, off + i * 3 + 1, none⟩ = some (.bool o.act) ∧ W.cell? ⟨b, off + i * 3 + 2, none⟩ = some (.int .i64 o.n) ∧ o.In := by
      intro i hi
      have hi2 := hat i hi
      rw [cDeed] at hi2
      have hei : elems[i]? = some (elems[i]'(by omega)) := List.getElem?_eq_getElem (by omega)
      rw [hei, Option.bind_eq_some_iff] at hi2
      obtain ⟨cs, hcs, htr⟩ := hi2
      obtain ⟨x0, x1, x2, rfl, hx0, hx1, hx2⟩ := threeCells hcs
      obtain ⟨y0, y1, y2, n1, hy, _, t0, t1, t2⟩ := Go.Deep.trod_struct3 Try.underlying38 htr
      have t0' : DataW.trod enc Try.prog W base (fun _ => true) held n1 3 [x0] = some y0 := by
        have := t0; simp only [cInt, List.drop_zero, List.take_succ_cons, List.take_zero] at this; exact this
      have t1' : DataW.trod enc Try.prog W base (fun _ => true) held n1 4 [x1] = some y1 := by
        have := t1; simp only [cBool, List.drop_succ_cons, List.drop_zero, List.take_succ_cons, List.take_zero] at this; exact this
      have t2' : DataW.trod enc Try.prog W base (fun _ => true) held n1 3 [x2] = some y2 := by
        have := t2; simp only [cInt, List.drop_succ_cons, List.drop_zero, List.take_succ_cons, List.take_zero] at this; exact this
      obtain ⟨f0, e0, _, w0⟩ := DataW.trod_int Try.underlying3 t0'
      cases e0
      obtain ⟨f1, e1, _⟩ := DataW.trod_bool Try.underlying4 t1'
      cases e1
      obtain ⟨f2, e2, _, w2⟩ := DataW.trod_int Try.underlying3 t2'
      cases e2
      obtain ⟨b, off, spot⟩ := y
      have hspot : spot = none := by
        have hi0 := hat 0 (by omega)
        rw [cDeed, List.getElem?_eq_getElem (show 0 < elems.length by omega), Option.bind_eq_some_iff] at hi0
        obtain ⟨cs0, hcs0, _⟩ := hi0
        obtain ⟨z0, _, _, _, hz0, _⟩ := threeCells hcs0
        simpa [Addr.add] using World.cell?_spot hz0
      subst hspot
      rw [addr_add, addr_add] at hx0 hx1 hx2
      rw [Nat.add_zero] at hx0
      exact ⟨(⟨f0, f1, f2⟩ : Dd), b, off, rfl, cell_lt hx0, hx0, hx1, hx2, (bounds_i64 w0).1, (bounds_i64 w0).2, (bounds_i64 w2).1, (bounds_i64 w2).2⟩
    obtain ⟨l, hll, hq⟩ := list_of len each
    refine ⟨some y, len, cap, l, rfl, ⟨hll, fun i hi => ?_⟩, fun z hz => ?_, .inr ⟨_, _, congrArg Prod.fst hx, by rw [List.length_map]; exact hel⟩⟩
    · have hi' : i < l.length := by omega
      obtain ⟨b, off, e, hlt, k0, k1, k2, _⟩ := hq i l[i] (List.getElem?_eq_getElem hi')
      exact ⟨b, off, l[i], by rw [e], hlt, List.getElem?_eq_getElem hi', k0, k1, k2⟩
    · obtain ⟨i, hi, rfl⟩ := List.getElem_of_mem hz
      obtain ⟨b, off, e, hlt, k0, k1, k2, k3⟩ := hq i l[i] (List.getElem?_eq_getElem hi)
      exact k3
theorem sizedD {ts : List TypeId} {ds : List (DataW H)} {d : DataW H} {len : Nat} (h : (DataW.weightsEach Try.prog ts ds).all (· ≤ reachBytes) = true) (j : Nat) (ht : ts[j]? = some 26) (hd : ds[j]? = some d) (hs : Shape d len) : len ≤ 5864062014634 := by
  rcases hs with rfl | ⟨es, sp, rfl, rfl⟩
  · omega
  · have := sized_slice h ht hd Try.underlying26
    rw [bDeed] at this
    simp only [reachBytes] at this
    omega
end
end Go.Proofs.Ythggkpmhcdmalaa
