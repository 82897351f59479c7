/-
  The ticks that ExecNames writes out.
-/
import Derived.Test.YtkjjjibglaffnaaExW
import Derived.Test.YtkjjjibglaffnaaExU
namespace Go.Proofs.Ytkjjjibglaffnaa
open Go.RowKit
set_option maxRecDepth 8000
/-- The blocks of the ticks that are written out. -/
def tkW (g : Nat) : List (Array Value × TypeId) := [(#[.int .i64 (0), .int .i64 (2), .int .i64 (0)], 67), (#[.int .i64 (2), .int .i64 (0), .int .i64 (7)], 67), (#[.int .i64 (0), .int .i64 (2), .int .i64 (0), .int .i64 (2), .int .i64 (0), .int .i64 (7)], 67), (#[.int .i64 (1), .int .i64 (0), .int .i64 (0), .int .i64 (0), .int .i64 (7), .int .i64 (0), .int .i64 (0), .int .i64 (2), .int .i64 (0), .int .i64 (2), .int .i64 (0), .int .i64 (1)], 67), (#[.slice (some ⟨g + 2, 0, none⟩) 2 2, .slice (some ⟨g + 3, 0, none⟩) 4 4], 54), (#[.int .i64 (1), .int .i64 (0), .int .i64 (0), .int .i64 (0), .int .i64 (3), .int .i64 (0), .int .i64 (2), .int .i64 (0), .int .i64 (7), .int .i64 (0), .int .i64 (-1), .int .i64 (0), .int .i64 (0), .int .i64 (0), .int .i64 (0)], 67), (#[.slice none 0 0, .slice (some ⟨g + 5, 0, none⟩) 5 5], 54), (#[.int .i64 (0), .int .i64 (4), .int .i64 (0), .int .i64 (3), .int .i64 (0), .int .i64 (0), .int .i64 (2), .int .i64 (0), .int .i64 (9), .int .i64 (0), .int .i64 (2), .int .i64 (0)], 67), (#[.slice (some ⟨g + 7, 0, none⟩) 4 4, .slice none 0 0], 54), (#[.slice none 0 0], 54), (#[.int .i64 (5), .int .i64 (0), .int .i64 (0)], 67), (#[.int .i64 (1), .int .i64 (0), .int .i64 (0), .int .i64 (1), .int .i64 (1), .int .i64 (0), .int .i64 (1), .int .i64 (-1), .int .i64 (0), .int .i64 (2), .int .i64 (16), .int .i64 (0)], 67), (#[.slice (some ⟨g + 10, 0, none⟩) 1 1, .slice (some ⟨g + 11, 0, none⟩) 4 4], 54), (#[.int .i64 (0), .int .i64 (4611686018427387904), .int .i64 (0), .int .i64 (0), .int .i64 (0), .int .i64 (0)], 67), (#[.int .i64 (4), .int .i64 (0), .int .i64 (1)], 67), (#[.slice (some ⟨g + 13, 0, none⟩) 2 2, .slice (some ⟨g + 14, 0, none⟩) 1 1], 54), (#[.slice (some ⟨g + 4, 0, none⟩) 2 2, .slice (some ⟨g + 6, 0, none⟩) 2 2, .slice (some ⟨g + 8, 0, none⟩) 2 2, .slice (some ⟨g + 9, 0, none⟩) 1 1, .slice (some ⟨g + 12, 0, none⟩) 2 2, .slice (some ⟨g + 15, 0, none⟩) 2 2], 36)]
def tk0 (g : Nat) : Tc := ⟨some ⟨g + 4, 0, none⟩, 2, [⟨some ⟨g + 2, 0, none⟩, 2, [⟨0, 2, 0⟩, ⟨2, 0, 7⟩]⟩, ⟨some ⟨g + 3, 0, none⟩, 4, [⟨1, 0, 0⟩, ⟨0, 7, 0⟩, ⟨0, 2, 0⟩, ⟨2, 0, 1⟩]⟩]⟩
def tk1 (g : Nat) : Tc := ⟨some ⟨g + 6, 0, none⟩, 2, [⟨none, 0, []⟩, ⟨some ⟨g + 5, 0, none⟩, 5, [⟨1, 0, 0⟩, ⟨0, 3, 0⟩, ⟨2, 0, 7⟩, ⟨0, -1, 0⟩, ⟨0, 0, 0⟩]⟩]⟩
def tk2 (g : Nat) : Tc := ⟨some ⟨g + 8, 0, none⟩, 2, [⟨some ⟨g + 7, 0, none⟩, 4, [⟨0, 4, 0⟩, ⟨3, 0, 0⟩, ⟨2, 0, 9⟩, ⟨0, 2, 0⟩]⟩, ⟨none, 0, []⟩]⟩
def tk3 (g : Nat) : Tc := ⟨some ⟨g + 9, 0, none⟩, 1, [⟨none, 0, []⟩]⟩
def tk4 (g : Nat) : Tc := ⟨some ⟨g + 12, 0, none⟩, 2, [⟨some ⟨g + 10, 0, none⟩, 1, [⟨5, 0, 0⟩]⟩, ⟨some ⟨g + 11, 0, none⟩, 4, [⟨1, 0, 0⟩, ⟨1, 1, 0⟩, ⟨1, -1, 0⟩, ⟨2, 16, 0⟩]⟩]⟩
def tk5 (g : Nat) : Tc := ⟨some ⟨g + 15, 0, none⟩, 2, [⟨some ⟨g + 13, 0, none⟩, 2, [⟨0, 4611686018427387904, 0⟩, ⟨0, 0, 0⟩]⟩, ⟨some ⟨g + 14, 0, none⟩, 1, [⟨4, 0, 1⟩]⟩]⟩
def tks (g : Nat) : List Tc := [tk0 g, tk1 g, tk2 g, tk3 g, tk4 g, tk5 g]
theorem tk0_fits {w W : World} (hat : ∀ (i : Nat) (cs : Array Value) (T : TypeId), (tkW w.heap.size)[i]? = some (cs, T) → W.heap[w.heap.size + i]? = some (.cells cs T (0, 0))) : (tk0 w.heap.size).Fits W 1048576 := by
  refine ⟨lit_row (hat 4 _ _ rfl) rfl rfl, Nat.le_of_ble_eq_true rfl, fun d hd => ?_⟩
  simp only [tk0, List.mem_cons, List.not_mem_nil, or_false] at hd
  rcases hd with rfl | rfl
  · exact ⟨lit_row (hat 2 _ _ rfl) rfl rfl, Nat.le_of_ble_eq_true rfl, (show ∀ x ∈ ([⟨0, 2, 0⟩, ⟨2, 0, 7⟩] : List De), -9223372036854775808 ≤ x.k ∧ x.k ≤ 9223372036854775807 from by decide)⟩
  · exact ⟨lit_row (hat 3 _ _ rfl) rfl rfl, Nat.le_of_ble_eq_true rfl, (show ∀ x ∈ ([⟨1, 0, 0⟩, ⟨0, 7, 0⟩, ⟨0, 2, 0⟩, ⟨2, 0, 1⟩] : List De), -9223372036854775808 ≤ x.k ∧ x.k ≤ 9223372036854775807 from by decide)⟩
theorem tk1_fits {w W : World} (hat : ∀ (i : Nat) (cs : Array Value) (T : TypeId), (tkW w.heap.size)[i]? = some (cs, T) → W.heap[w.heap.size + i]? = some (.cells cs T (0, 0))) : (tk1 w.heap.size).Fits W 1048576 := by
  refine ⟨lit_row (hat 6 _ _ rfl) rfl rfl, Nat.le_of_ble_eq_true rfl, fun d hd => ?_⟩
  simp only [tk1, List.mem_cons, List.not_mem_nil, or_false] at hd
  rcases hd with rfl | rfl
  · exact ⟨GRow.nil _ _ _, Nat.zero_le _, fun x hx => by cases hx⟩
  · exact ⟨lit_row (hat 5 _ _ rfl) rfl rfl, Nat.le_of_ble_eq_true rfl, (show ∀ x ∈ ([⟨1, 0, 0⟩, ⟨0, 3, 0⟩, ⟨2, 0, 7⟩, ⟨0, -1, 0⟩, ⟨0, 0, 0⟩] : List De), -9223372036854775808 ≤ x.k ∧ x.k ≤ 9223372036854775807 from by decide)⟩
theorem tk2_fits {w W : World} (hat : ∀ (i : Nat) (cs : Array Value) (T : TypeId), (tkW w.heap.size)[i]? = some (cs, T) → W.heap[w.heap.size + i]? = some (.cells cs T (0, 0))) : (tk2 w.heap.size).Fits W 1048576 := by
  refine ⟨lit_row (hat 8 _ _ rfl) rfl rfl, Nat.le_of_ble_eq_true rfl, fun d hd => ?_⟩
  simp only [tk2, List.mem_cons, List.not_mem_nil, or_false] at hd
  rcases hd with rfl | rfl
  · exact ⟨lit_row (hat 7 _ _ rfl) rfl rfl, Nat.le_of_ble_eq_true rfl, (show ∀ x ∈ ([⟨0, 4, 0⟩, ⟨3, 0, 0⟩, ⟨2, 0, 9⟩, ⟨0, 2, 0⟩] : List De), -9223372036854775808 ≤ x.k ∧ x.k ≤ 9223372036854775807 from by decide)⟩
  · exact ⟨GRow.nil _ _ _, Nat.zero_le _, fun x hx => by cases hx⟩
theorem tk3_fits {w W : World} (hat : ∀ (i : Nat) (cs : Array Value) (T : TypeId), (tkW w.heap.size)[i]? = some (cs, T) → W.heap[w.heap.size + i]? = some (.cells cs T (0, 0))) : (tk3 w.heap.size).Fits W 1048576 := by
  refine ⟨lit_row (hat 9 _ _ rfl) rfl rfl, Nat.le_of_ble_eq_true rfl, fun d hd => ?_⟩
  simp only [tk3, List.mem_cons, List.not_mem_nil, or_false] at hd
  subst hd
  exact ⟨GRow.nil _ _ _, Nat.zero_le _, fun x hx => by cases hx⟩
theorem tk4_fits {w W : World} (hat : ∀ (i : Nat) (cs : Array Value) (T : TypeId), (tkW w.heap.size)[i]? = some (cs, T) → W.heap[w.heap.size + i]? = some (.cells cs T (0, 0))) : (tk4 w.heap.size).Fits W 1048576 := by
  refine ⟨lit_row (hat 12 _ _ rfl) rfl rfl, Nat.le_of_ble_eq_true rfl, fun d hd => ?_⟩
  simp only [tk4, List.mem_cons, List.not_mem_nil, or_false] at hd
  rcases hd with rfl | rfl
  · exact ⟨lit_row (hat 10 _ _ rfl) rfl rfl, Nat.le_of_ble_eq_true rfl, (show ∀ x ∈ ([⟨5, 0, 0⟩] : List De), -9223372036854775808 ≤ x.k ∧ x.k ≤ 9223372036854775807 from by decide)⟩
  · exact ⟨lit_row (hat 11 _ _ rfl) rfl rfl, Nat.le_of_ble_eq_true rfl, (show ∀ x ∈ ([⟨1, 0, 0⟩, ⟨1, 1, 0⟩, ⟨1, -1, 0⟩, ⟨2, 16, 0⟩] : List De), -9223372036854775808 ≤ x.k ∧ x.k ≤ 9223372036854775807 from by decide)⟩
theorem tk5_fits {w W : World} (hat : ∀ (i : Nat) (cs : Array Value) (T : TypeId), (tkW w.heap.size)[i]? = some (cs, T) → W.heap[w.heap.size + i]? = some (.cells cs T (0, 0))) : (tk5 w.heap.size).Fits W 1048576 := by
  refine ⟨lit_row (hat 15 _ _ rfl) rfl rfl, Nat.le_of_ble_eq_true rfl, fun d hd => ?_⟩
  simp only [tk5, List.mem_cons, List.not_mem_nil, or_false] at hd
  rcases hd with rfl | rfl
  · exact ⟨lit_row (hat 13 _ _ rfl) rfl rfl, Nat.le_of_ble_eq_true rfl, (show ∀ x ∈ ([⟨0, 4611686018427387904, 0⟩, ⟨0, 0, 0⟩] : List De), -9223372036854775808 ≤ x.k ∧ x.k ≤ 9223372036854775807 from by decide)⟩
  · exact ⟨lit_row (hat 14 _ _ rfl) rfl rfl, Nat.le_of_ble_eq_true rfl, (show ∀ x ∈ ([⟨4, 0, 1⟩] : List De), -9223372036854775808 ≤ x.k ∧ x.k ≤ 9223372036854775807 from by decide)⟩
theorem tks_row {w W : World} (hat : ∀ (i : Nat) (cs : Array Value) (T : TypeId), (tkW w.heap.size)[i]? = some (cs, T) → W.heap[w.heap.size + i]? = some (.cells cs T (0, 0))) : GRow tcE W (some ⟨w.heap.size + 16, 0, none⟩) 6 (tks w.heap.size) ∧ ∀ t ∈ tks w.heap.size, t.Fits W 1048576 := by
  refine ⟨lit_row (hat 16 _ _ rfl) rfl rfl, fun t ht => ?_⟩
  simp only [tks, List.mem_cons, List.not_mem_nil, or_false] at ht
  rcases ht with rfl | rfl | rfl | rfl | rfl | rfl
  · exact tk0_fits hat
  · exact tk1_fits hat
  · exact tk2_fits hat
  · exact tk3_fits hat
  · exact tk4_fits hat
  · exact tk5_fits hat
end Go.Proofs.Ytkjjjibglaffnaa
