/-
  What is handed in to the statements of this seat, opened: an int; an array of two ints; lists of ints, with their bounds; lists of calls.
-/
import Derived.Test.YtajjfklglnefkaaBuN
import Derived.ProofKit
import Derived.OpenShut
import Derived.ChangeOld
import Derived.Below
import Derived.SizedLaws
import Derived.Deep.Strs
import Derived.Lib.SmallJoins
namespace Go.Proofs.Ytajjfklglnefkaa
open Go.ChangeShapes Go.WideShapes Go.ChangeAt Go.RowKit
set_option maxRecDepth 100000
theorem own : ownKnob Try.prog.godebug = none := by kernel_rfl
theorem laidOut : laidOutB Try.prog = true := by kernel_rfl
theorem cInt : Try.prog.cellsOf 3 = 1 := by kernel_rfl
theorem cPair : Try.prog.cellsOf 22 = 2 := by kernel_rfl
theorem cDo : Try.prog.cellsOf 33 = 3 := by kernel_rfl
theorem list_of {β : Type} {Q : Nat → β → Prop} : ∀ n : Nat, (∀ i, i < n → ∃ o, Q i o) → ∃ l : List β, l.length = n ∧ ∀ i o, l[i]? = some o → Q i o
  | 0, _ => ⟨[], rfl, fun i o h => by simp at h⟩
  | n + 1, h => by
    obtain ⟨l, hl, hq⟩ := list_of n (fun i hi => h i (by omega))
    obtain ⟨o, ho⟩ := h n (by omega)
    refine ⟨l ++ [o], by simp [hl], fun i x hx => ?_⟩
    by_cases hi : i < n
    · rw [List.getElem?_append_left (by omega)] at hx
      exact hq i x hx
    · rw [List.getElem?_append_right (by omega)] at hx
      have : i - l.length = 0 := by
        rcases Nat.eq_zero_or_pos (i - l.length) with h | h
        · exact h
        · rw [List.getElem?_eq_none (by simp; omega)] at hx; cases hx
      rw [this] at hx
      have e : i = n := by omega
      subst e
      cases hx
      exact ho
section
variable {H : Type} {enc : TypeId × Value → H} {W : World} {base : Nat} {sp : Nat → Bool} {held : Bool}
theorem trod_i64 {fuel : Nat} {v : Value} {y : DataW H × List MemPlace} (h : DataW.trod enc Try.prog W base sp held fuel 3 [v] = some y) : ∃ n, v = .int .i64 n ∧ y = (.lit (.int .i64 n), []) ∧ (Lit.int .i64 n).wf = true := by
  cases fuel with
  | zero => simp [DataW.trod] at h
  | succ f =>
    simp only [DataW.trod, Try.underlying3] at h
    cases v <;> simp at h
    rename_i k n
    obtain ⟨⟨rfl, hw⟩, rfl⟩ := h
    exact ⟨n, rfl, rfl, hw⟩
/-- A slice whose elements lie in cells, opened. -/
theorem open_grow {β : Type} (E : Enc β) {e T : TypeId} (hT : Try.prog.underlying T = some (.slice e)) (hk : Try.prog.cellsOf e = E.k) (P : β → Prop) (hel : ∀ {fuel : Nat} {cs : List Value} {y : DataW H × List MemPlace}, DataW.trod enc Try.prog W base sp held fuel e cs = some y → cs.length = E.k → ∃ x, cs = E.enc x ∧ P x)
    {fuel : Nat} {v : Value} {y : DataW H × List MemPlace} (h : DataW.trod enc Try.prog W base sp held fuel T [v] = some y) :
    ∃ a len cap xs, v = .slice a len cap ∧ GRow E W a len xs ∧ (a = none → len = 0 ∧ cap = 0) ∧ (∀ x ∈ xs, P x) ∧ (y.1 = .nil ∧ len = 0 ∨ ∃ es rest, y.1 = .slice es rest ∧ es.length = len) := by
  rcases DataW.trod_slice hT h with ⟨hcs, hy⟩ | ⟨a, l, c, elems, rest, n, _, hcs, hx, _, hl, _, hel', hat, _, _⟩
  · simp at hcs
    subst hcs
    exact ⟨none, 0, 0, [], rfl, GRow.nil E W none, fun _ => ⟨rfl, rfl⟩, (fun x hx => by cases hx), .inl ⟨by rw [hy], rfl⟩⟩
  · simp at hcs
    subst hcs
    have hpos := E.pos
    have each : ∀ i, i < l → ∃ o : β, P o ∧ ∃ b off, a = ⟨b, off, none⟩ ∧ b < W.heap.size ∧ ∀ j v, (E.enc o)[j]? = some v → W.cell? ⟨b, off + i * E.k + j, none⟩ = some v := by
      intro i hi
      have hi2 := hat i hi
      rw [hk] at hi2
      have hei : elems[i]? = some (elems[i]'(by omega)) := List.getElem?_eq_getElem (by omega)
      rw [hei, Option.bind_eq_some_iff] at hi2
      obtain ⟨cs, hcs, htr⟩ := hi2
      obtain ⟨_, hlen, hcell⟩ := World.cells?_some hcs
      obtain ⟨o, ho, hP⟩ := hel htr hlen
      obtain ⟨b, off, spot⟩ := a
      have hspot : spot = none := by
        have hi0 := hat 0 (by omega)
        rw [hk, List.getElem?_eq_getElem (show 0 < elems.length by omega), Option.bind_eq_some_iff] at hi0
        obtain ⟨cs0, hcs0, _⟩ := hi0
        obtain ⟨_, hl0, hc0⟩ := World.cells?_some hcs0
        have h0 := hc0 0 hpos
        rw [List.getElem?_eq_getElem (show 0 < cs0.length by omega)] at h0
        simpa [Addr.add] using World.cell?_spot h0
      subst hspot
      have hce : ∀ j v, (E.enc o)[j]? = some v → W.cell? ⟨b, off + i * E.k + j, none⟩ = some v := by
        intro j v hj
        have hjk : j < E.k := by
          rcases Nat.lt_or_ge j E.k with h' | h'
          · exact h'
          · rw [List.getElem?_eq_none (by rw [E.len]; exact h')] at hj; cases hj
        have := hcell j hjk
        rw [add_off, add_off, ho, hj] at this
        exact this
      have h1 : (E.enc o)[0]? = some ((E.enc o)[0]'(by rw [E.len]; exact hpos)) := List.getElem?_eq_getElem _
      exact ⟨o, hP, b, off, rfl, cell_lt (hce 0 _ h1), hce⟩
    obtain ⟨xs, hxl, hq⟩ := list_of l each
    refine ⟨some a, l, c, xs, rfl, ⟨hxl, fun i hi => ?_⟩, (fun h => by cases h), fun x hx => ?_, .inr ⟨elems.map (·.1), rest.map (·.1), by rw [hx], by simp [hel']⟩⟩
    · obtain ⟨_, b, off, e1, hlt, hc⟩ := hq i xs[i] (by simp [hxl, hi])
      exact ⟨b, off, xs[i], by rw [e1], hlt, by simp [hxl, hi], hc⟩
    · obtain ⟨i, hi, rfl⟩ := List.getElem_of_mem hx
      exact (hq i xs[i] (List.getElem?_eq_getElem hi)).1
theorem open_pair {r : Reach} {b0 : Nat} {v : Value} {d : DataW H} {p : List MemPlace} (hv : Value.okWide Try.prog W r b0 22 v) (h : DataW.Trod enc Try.prog W base sp held 22 v d p) :
    ∃ x0 x1, v = .agg #[.int .i64 x0, .int .i64 x1] ∧ d = .agg [.lit (.int .i64 x0), .lit (.int .i64 x1)] ∧ p = [] ∧ (Lit.int .i64 x0).wf = true ∧ (Lit.int .i64 x1).wf = true := by
  obtain ⟨cs, rfl, hsz, _⟩ : ∃ cs, v = .agg cs ∧ cs.size = Try.prog.cellsOf 22 ∧ Row.okWide Try.prog W r b0 22 cs := by
    simpa [Value.okWide, Try.underlying22] using hv
  rw [cPair] at hsz
  obtain ⟨l⟩ := cs
  match l, hsz with
  | [c0, c1], _ =>
    obtain ⟨fuel, hf⟩ := h
    obtain ⟨xs, m, _, ex, _, hl, hel⟩ := DataW.trod_array Try.underlying22 hf
    match xs, hl with
    | [y0, y1], _ =>
      have e0 := hel 0 (by omega)
      have e1 := hel 1 (by omega)
      simp [Value.cells, cInt] at e0 e1
      obtain ⟨x0, e2, rfl, w0⟩ := DataW.trod_int Try.underlying3 e0
      obtain ⟨x1, e3, rfl, w1⟩ := DataW.trod_int Try.underlying3 e1
      simp at e2 e3
      subst e2 e3
      simp at ex
      obtain ⟨rfl, rfl⟩ := ex
      exact ⟨x0, x1, rfl, rfl, rfl, w0, w1⟩
theorem shut_pair {x0 x1 : Int} (w0 : (Lit.int .i64 x0).wf = true) (w1 : (Lit.int .i64 x1).wf = true) : DataW.Trod enc Try.prog W base sp held 22 (.agg #[.int .i64 x0, .int .i64 x1]) (.agg [.lit (.int .i64 x0), .lit (.int .i64 x1)]) [] :=
  ⟨2, by simp [DataW.trod, Value.cells, Try.underlying22, Try.underlying3, cPair, cInt, w0, w1, show List.range 2 = [0, 1] from rfl]⟩
theorem el_int {fuel : Nat} {cs : List Value} {y : DataW H × List MemPlace} (h : DataW.trod enc Try.prog W base sp held fuel 3 cs = some y) (hl : cs.length = 1) : ∃ x : Int, cs = inE.enc x ∧ (-9223372036854775808 ≤ x ∧ x ≤ 9223372036854775807) := by
  match cs, hl with
  | [x0], _ =>
    obtain ⟨f0, rfl, _, w0⟩ := trod_i64 h
    exact ⟨f0, rfl, bounds_i64 w0⟩
theorem el_do {fuel : Nat} {cs : List Value} {y : DataW H × List MemPlace} (h : DataW.trod enc Try.prog W base sp held fuel 33 cs = some y) (hl : cs.length = 3) : ∃ x : Dx, cs = dxE.enc x ∧ x.In := by
  match cs, hl with
  | [x0, x1, x2], _ =>
    obtain ⟨y0, y1, y2, n1, _, _, t0, t1, t2⟩ := Go.Deep.trod_struct3 Try.underlying33 h
    simp only [cInt, List.drop_succ_cons, List.drop_zero, List.take_succ_cons, List.take_zero] at t0 t1 t2
    obtain ⟨f0, rfl, _, w0⟩ := trod_i64 t0
    obtain ⟨f1, rfl, _, w1⟩ := trod_i64 t1
    obtain ⟨f2, rfl, _, w2⟩ := trod_i64 t2
    exact ⟨⟨f0, f1, f2⟩, rfl, (bounds_i64 w0).1, (bounds_i64 w0).2, (bounds_i64 w2).2⟩
theorem open_dos {r : Reach} {b0 : Nat} {v : Value} {d : DataW H} {p : List MemPlace} (hv : Value.okWide Try.prog W r b0 23 v) (h : DataW.Trod enc Try.prog W base sp held 23 v d p) :
    ∃ a len cap L, v = .slice a len cap ∧ GRow dxE W a len L ∧ ∀ x ∈ L, x.In := by
  obtain ⟨a, len, cap, rfl⟩ := okWide_slice Try.underlying23 hv
  obtain ⟨fuel, hf⟩ := h
  have hf' : DataW.trod enc Try.prog W base sp held fuel 23 [.slice a len cap] = some (d, p) := by simpa [Value.cells] using hf
  obtain ⟨a', len', cap', xs, e, hr, _, hb, _⟩ := open_grow dxE Try.underlying23 cDo Dx.In (fun h hl => el_do h hl) hf'
  cases e
  exact ⟨a, len, cap, xs, rfl, hr, hb⟩
theorem irow_of {a : Option Addr} {n : Nat} {xs : List Int} (h : GRow inE W a n xs) : IRow W a n xs :=
  ⟨h.1, fun i hi => by
    obtain ⟨b, off, x, e, hb, hx, h1⟩ := h.2 i hi
    refine ⟨b, off, e, hb, ?_⟩
    have h2 := h1 0 _ rfl
    rw [show inE.k = 1 from rfl, Nat.mul_one, Nat.add_zero] at h2
    rw [h2, List.getD_eq_getElem?_getD, hx]
    rfl⟩
theorem open_list {r : Reach} {b0 : Nat} {v : Value} {d : DataW H} {p : List MemPlace} (hv : Value.okWide Try.prog W r b0 36 v) (h : DataW.Trod enc Try.prog W base sp held 36 v d p) :
    ∃ a len cap zs, v = .slice a len cap ∧ IRow W a len zs ∧ ∀ z ∈ zs, -9223372036854775808 ≤ z ∧ z ≤ 9223372036854775807 := by
  obtain ⟨a, len, cap, rfl⟩ := okWide_slice Try.underlying36 hv
  obtain ⟨fuel, hf⟩ := h
  have hf' : DataW.trod enc Try.prog W base sp held fuel 36 [.slice a len cap] = some (d, p) := by simpa [Value.cells] using hf
  obtain ⟨a', len', cap', xs, e, hr, _, hb, _⟩ := open_grow inE Try.underlying36 cInt (fun x => -9223372036854775808 ≤ x ∧ x ≤ 9223372036854775807) (fun h hl => el_int h hl) hf'
  cases e
  exact ⟨a, len, cap, xs, rfl, irow_of hr, hb⟩
end
end Go.Proofs.Ytajjfklglnefkaa
