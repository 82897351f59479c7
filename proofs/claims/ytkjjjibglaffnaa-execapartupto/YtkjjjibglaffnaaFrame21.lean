/-
  What is handed in to the statements of this seat, opened: ints, slices.
-/
import Derived.Test.YtkjjjibglaffnaaExU
import Derived.ProofKit
import Derived.OpenShut
import Derived.ChangeOld
import Derived.Below
import Derived.SizedLaws
import Derived.Deep.Strs
import Derived.Lib.SmallJoins
namespace Go.Proofs.Ytkjjjibglaffnaa
open Go.ChangeShapes Go.WideShapes Go.ChangeAt Go.RowKit
set_option maxRecDepth 100000
theorem own : ownKnob Try.prog.godebug = none := by kernel_rfl
theorem laidOut : laidOutB Try.prog = true := by kernel_rfl
theorem cInt : Try.prog.cellsOf 3 = 1 := by kernel_rfl
theorem cPair : Try.prog.cellsOf 65 = 2 := by kernel_rfl
theorem list_of {β : Type} {Q : Nat → β → Prop} : ∀ n : Nat, (∀ i, i < n → ∃ o, Q i o) → ∃ l : List β, l.length = n ∧ ∀ i o, l[i]? = some o → Q i o
  | 0, _ => ⟨[], rfl, fun i o h => by simp at h⟩
  | n + 1, h => by
    obtain ⟨l, hl, hq⟩ := list_of n (fun i hi => h i (by omega))
    obtain ⟨o, ho⟩ := h n (by omega)
    refine ⟨l ++ [o], by simp [hl], fun i x hx => ?_⟩
    by_cases hi : i < n
    · rw [List.getElem?_append_left (by omega)] at hx
      exact hq i x hx
    · rw [List.getElem?_append_right (by omega)] at hx
      have : i - l.length = 0 := by
        rcases Nat.eq_zero_or_pos (i - l.length) with h | h
        · exact h
        · rw [List.getElem?_eq_none (by simp; omega)] at hx; cases hx
      rw [this] at hx
      have e : i = n := by omega
      subst e
      cases hx
      exact ho
section
variable {H : Type} {enc : TypeId × Value → H} {W : World} {base : Nat} {sp : Nat → Bool} {held : Bool}
theorem trod_i64 {fuel : Nat} {v : Value} {y : DataW H × List MemPlace} (h : DataW.trod enc Try.prog W base sp held fuel 3 [v] = some y) : ∃ n, v = .int .i64 n ∧ y = (.lit (.int .i64 n), []) ∧ (Lit.int .i64 n).wf = true := by
  cases fuel with
  | zero => simp [DataW.trod] at h
  | succ f =>
    simp only [DataW.trod, Try.underlying3] at h
    cases v <;> simp at h
    rename_i k n
    obtain ⟨⟨rfl, hw⟩, rfl⟩ := h
    exact ⟨n, rfl, rfl, hw⟩
/-- A slice whose elements lie in cells, opened. -/
theorem open_grow {β : Type} (E : Enc β) {e T : TypeId} (hT : Try.prog.underlying T = some (.slice e)) (hk : Try.prog.cellsOf e = E.k) (P : β → Prop) (hel : ∀ {fuel : Nat} {cs : List Value} {y : DataW H × List MemPlace}, DataW.trod enc Try.prog W base sp held fuel e cs = some y → cs.length = E.k → ∃ x, cs = E.enc x ∧ P x)
    {fuel : Nat} {v : Value} {y : DataW H × List MemPlace} (h : DataW.trod enc Try.prog W base sp held fuel T [v] = some y) :
    ∃ a len cap xs, v = .slice a len cap ∧ GRow E W a len xs ∧ (a = none → len = 0 ∧ cap = 0) ∧ (∀ x ∈ xs, P x) ∧ (y.1 = .nil ∧ len = 0 ∨ ∃ es rest, y.1 = .slice es rest ∧ es.length = len) := by
  rcases DataW.trod_slice hT h with ⟨hcs, hy⟩ | ⟨a, l, c, elems, rest, n, _, hcs, hx, _, hl, _, hel', hat, _, _⟩
  · simp at hcs
    subst hcs
    exact ⟨none, 0, 0, [], rfl, GRow.nil E W none, fun _ => ⟨rfl, rfl⟩, (fun x hx => by cases hx), .inl ⟨by rw [hy], rfl⟩⟩
  · simp at hcs
    subst hcs
    have hpos := E.pos
    have each : ∀ i, i < l → ∃ o : β, P o ∧ ∃ b off, a = ⟨b, off, none⟩ ∧ b < W.heap.size ∧ ∀ j v, (E.enc o)[j]? = some v → W.cell? ⟨b, off + i * E.k + j, none⟩ = some v := by
      intro i hi
      have hi2 := hat i hi
      rw [hk] at hi2
      have hei : elems[i]? = some (elems[i]'(by omega)) := List.getElem?_eq_getElem (by omega)
      rw [hei, Option.bind_eq_some_iff] at hi2
      obtain ⟨cs, hcs, htr⟩ := hi2
      obtain ⟨_, hlen, hcell⟩ := World.cells?_some hcs
      obtain ⟨o, ho, hP⟩ := hel htr hlen
      obtain ⟨b, off, spot⟩ := a
      have hspot : spot = none := by
        have hi0 := hat 0 (by omega)
        rw [hk, List.getElem?_eq_getElem (show 0 < elems.length by omega), Option.bind_eq_some_iff] at hi0
        obtain ⟨cs0, hcs0, _⟩ := hi0
        obtain ⟨_, hl0, hc0⟩ := World.cells?_some hcs0
        have h0 := hc0 0 hpos
        rw [List.getElem?_eq_getElem (show 0 < cs0.length by omega)] at h0
        simpa [Addr.add] using World.cell?_spot h0
      subst hspot
      have hce : ∀ j v, (E.enc o)[j]? = some v → W.cell? ⟨b, off + i * E.k + j, none⟩ = some v := by
        intro j v hj
        have hjk : j < E.k := by
          rcases Nat.lt_or_ge j E.k with h' | h'
          · exact h'
          · rw [List.getElem?_eq_none (by rw [E.len]; exact h')] at hj; cases hj
        have := hcell j hjk
        rw [add_off, add_off, ho, hj] at this
        exact this
      have h1 : (E.enc o)[0]? = some ((E.enc o)[0]'(by rw [E.len]; exact hpos)) := List.getElem?_eq_getElem _
      exact ⟨o, hP, b, off, rfl, cell_lt (hce 0 _ h1), hce⟩
    obtain ⟨xs, hxl, hq⟩ := list_of l each
    refine ⟨some a, l, c, xs, rfl, ⟨hxl, fun i hi => ?_⟩, (fun h => by cases h), fun x hx => ?_, .inr ⟨elems.map (·.1), rest.map (·.1), by rw [hx], by simp [hel']⟩⟩
    · obtain ⟨_, b, off, e1, hlt, hc⟩ := hq i xs[i] (by simp [hxl, hi])
      exact ⟨b, off, xs[i], by rw [e1], hlt, by simp [hxl, hi], hc⟩
    · obtain ⟨i, hi, rfl⟩ := List.getElem_of_mem hx
      exact (hq i xs[i] (List.getElem?_eq_getElem hi)).1
end
end Go.Proofs.Ytkjjjibglaffnaa
