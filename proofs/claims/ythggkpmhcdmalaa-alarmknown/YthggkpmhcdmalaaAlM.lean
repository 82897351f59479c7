/-
  Deeds in rows that are handed in.
-/
import Derived.Test.YthggkpmhcdmalaaBlk
namespace Go.Proofs.Ythggkpmhcdmalaa
open Go.RowKit
set_option maxRecDepth 8000
/-- A deed. -/
structure Dd where
  k : Int
  act : Bool
  n : Int
/-- Deeds lie where a slice of n places leads. -/
def DdRow (w : World) (a : Option Addr) (n : Nat) (xs : List Dd) : Prop :=
  xs.length = n ∧ ∀ i, i < n → ∃ b off x, a = some ⟨b, off, none⟩ ∧ b < w.heap.size ∧ xs[i]? = some x ∧ w.cell? ⟨b, off + i * 3, none⟩ = some (.int .i64 x.k) ∧ w.cell? ⟨b, off + i * 3 + 1, none⟩ = some (.bool x.act) ∧ w.cell? ⟨b, off + i * 3 + 2, none⟩ = some (.int .i64 x.n)
theorem DdRow.after {w w' : World} {a n xs} (h : DdRow w a n xs) (ha : After w w') : DdRow w' a n xs :=
  ⟨h.1, fun i hi => by
    obtain ⟨b, off, x, e, hb, hx, h1, h2, h3⟩ := h.2 i hi
    exact ⟨b, off, x, e, Nat.lt_of_lt_of_le hb ha.size, hx, by rw [ha.cell hb]; exact h1, by rw [ha.cell hb]; exact h2, by rw [ha.cell hb]; exact h3⟩⟩
theorem DdRow.nil (w : World) (a : Option Addr) : DdRow w a 0 [] := ⟨rfl, fun i hi => absurd hi (by omega)⟩
theorem DdRow.cellAt {w : World} {a n xs} (h : DdRow w a n xs) {i : Nat} (hi : i < n) : ∃ b off x, a = some ⟨b, off, none⟩ ∧ b < w.heap.size ∧ xs[i]? = some x ∧ (∀ W, After w W → W.cell? ⟨b, off + i * 3, none⟩ = some (.int .i64 x.k) ∧ W.cell? ⟨b, off + i * 3 + 1, none⟩ = some (.bool x.act) ∧ W.cell? ⟨b, off + i * 3 + 2, none⟩ = some (.int .i64 x.n)) := by
  obtain ⟨b, off, x, e, hb, hx, h1, h2, h3⟩ := h.2 i hi
  exact ⟨b, off, x, e, hb, hx, fun W ha => ⟨(ha.cell hb _).trans h1, (ha.cell hb _).trans h2, (ha.cell hb _).trans h3⟩⟩
/-- Ints that may be. -/
def Dd.In (x : Dd) : Prop := -9223372036854775808 ≤ x.k ∧ x.k ≤ 9223372036854775807 ∧ -9223372036854775808 ≤ x.n ∧ x.n ≤ 9223372036854775807
end Go.Proofs.Ythggkpmhcdmalaa
