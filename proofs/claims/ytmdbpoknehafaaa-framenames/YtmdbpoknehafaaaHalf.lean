/-
  The arrays of halves of package crc.
-/
import Derived.Test.YtmdbpoknehafaaaStep
namespace Go.Proofs.Ytmdbpoknehafaaa
open Go.RowKit
def sixteen (v : Nat → Value) : Array Value := #[v 0, v 1, v 2, v 3, v 4, v 5, v 6, v 7, v 8, v 9, v 10, v 11, v 12, v 13, v 14, v 15]
theorem sixteen_at (v : Nat → Value) (j : Nat) (h : j < 16) : (sixteen v)[j]? = some (v j) := by
  match j, h with
  | 0, _ => rfl
  | 1, _ => rfl
  | 2, _ => rfl
  | 3, _ => rfl
  | 4, _ => rfl
  | 5, _ => rfl
  | 6, _ => rfl
  | 7, _ => rfl
  | 8, _ => rfl
  | 9, _ => rfl
  | 10, _ => rfl
  | 11, _ => rfl
  | 12, _ => rfl
  | 13, _ => rfl
  | 14, _ => rfl
  | 15, _ => rfl
  | n + 16, h => exact absurd h (by omega)
theorem sixteen_set (v u : Nat → Value) (k : Nat) (hk : k < 16) (hu : ∀ i, i < 16 → u i = if i = k then u k else v i) : (sixteen v).setIfInBounds k (u k) = sixteen u := by
  apply Array.ext_getElem?
  intro i
  rw [Array.getElem?_setIfInBounds]
  by_cases hi : i < 16
  · by_cases he : k = i
    · subst he
      rw [if_pos rfl, sixteen_at u k hi, if_pos (show k < (sixteen v).size from hi)]
    · rw [if_neg he, sixteen_at v i hi, sixteen_at u i hi, hu i hi, if_neg (fun h => he h.symm)]
  · have h1 : (sixteen v)[i]? = none := Array.getElem?_eq_none (by show 16 ≤ i; omega)
    have h2 : (sixteen u)[i]? = none := Array.getElem?_eq_none (by show 16 ≤ i; omega)
    have he : k ≠ i := by omega
    rw [if_neg he, h1, h2]
/-- The array's places behind k rounds. -/
def pl (K : IntKind) (f : Nat → Nat) (k i : Nat) : Value := .int K (if i < k then (f i : Int) else 0)
def hX (K : IntKind) (T : TypeId) (f : Nat → Nat) (w : World) (k : Nat) : World := (w.alloc (.cells (sixteen fun _ => .int K 0) T)).alloc (.cells (sixteen (pl K f k)) T)
theorem After.frozen {a b : World} (h : After a b) {g : Nat} (hg : g < a.heap.size) (o : Nat) : b.frozen? ⟨g, o, none⟩ = a.frozen? ⟨g, o, none⟩ := Below.frozen (p := ⟨g, o, none⟩) h.below hg
theorem hX_size (K T f w k) : (hX K T f w k).heap.size = w.heap.size + 2 := by simp [hX]
theorem hX_old (K T f w k k' j) (h : j < w.heap.size + 1) : (hX K T f w k).heap[j]? = (hX K T f w k').heap[j]? :=
  (Below.heap_alloc (w.alloc (.cells (sixteen fun _ => .int K 0) T)) _ j (by simp; omega)).trans (Below.heap_alloc (w.alloc (.cells (sixteen fun _ => .int K 0) T)) _ j (by simp; omega)).symm
theorem hX_new (K T f w k) : (hX K T f w k).heap[w.heap.size + 1]? = some (.cells (sixteen (pl K f k)) T) := by
  show ((w.heap.push _).push _)[w.heap.size + 1]? = _
  rw [Array.getElem?_push, if_pos (by simp)]
theorem hX_store {K T f} {w W : World} {k : Nat} (h : After (hX K T f w k) W) (hk : k < 16) :
    After (hX K T f w (k + 1)) (W.setCell ⟨w.heap.size + 1, k, none⟩ (.int K (f k : Int))) := by
  have hs := hX_size K T f w k
  have hs' := hX_size K T f w (k + 1)
  obtain ⟨h1, h2, h3, h4, h5⟩ := h
  refine ⟨h1, h2, h3, ?_, ?_⟩
  · simp [World.setCell]; omega
  · intro j hj _
    by_cases he : j = w.heap.size + 1
    · subst he
      have hb := h5 (w.heap.size + 1) (by omega) (fun t => t)
      rw [hX_new] at hb
      rw [hX_new]
      have e : (sixteen (pl K f k)).setIfInBounds k (.int K (f k : Int)) = sixteen (pl K f (k + 1)) := by
        have e1 : (.int K (f k : Int) : Value) = pl K f (k + 1) k := by simp [pl]
        rw [e1]
        refine sixteen_set _ _ k hk fun i _ => ?_
        by_cases hik : i = k
        · rw [if_pos hik, hik]
        · rw [if_neg hik]; unfold pl
          by_cases hl : i < k
          · rw [if_pos hl, if_pos (by omega)]
          · rw [if_neg hl, if_neg (by omega)]
      simp [World.setCell, Array.getElem?_modify, hb, e]
    · rw [Below.heap_setCell _ _ _ _ (by exact he), h5 j (by omega) (fun t => t)]
      exact hX_old K T f w k (k + 1) j (by omega)
theorem hX_after {K T f} {w W : World} {k : Nat} (h : After (hX K T f w k) W) : After w W := ((After.rfl.alloc _).alloc _).trans h
theorem hX_cells {K T f} {w W : World} {k : Nat} (ha : After (hX K T f w k) W) : (∀ o, W.cell? ⟨w.heap.size, o, none⟩ = (sixteen fun _ => Value.int K 0)[o]?) ∧ (∀ o, W.cell? ⟨w.heap.size + 1, o, none⟩ = (sixteen (pl K f k))[o]?) ∧ (∀ o, W.frozen? ⟨w.heap.size, o, none⟩ = false) ∧ (∀ o, W.frozen? ⟨w.heap.size + 1, o, none⟩ = false) := by
  have hs := hX_size K T f w k
  have hq : (hX K T f w k).heap[w.heap.size]? = some (.cells (sixteen fun _ => .int K 0) T) := by
    refine (Below.heap_alloc (w.alloc (.cells (sixteen fun _ => .int K 0) T)) _ _ (by simp)).trans ?_
    show (w.heap.push _)[w.heap.size]? = _
    rw [Array.getElem?_push, if_pos rfl]
  refine ⟨fun o => ?_, fun o => ?_, fun o => ?_, fun o => ?_⟩
  · rw [ha.cell (by omega)]
    unfold World.cell?
    simp [hq]
  · rw [ha.cell (by omega)]
    unfold World.cell?
    simp [hX_new]
  · rw [ha.frozen (by omega)]
    unfold World.frozen?
    simp [hq]
  · rw [ha.frozen (by omega)]
    unfold World.frozen?
    simp [hX_new]
theorem pl_all (K : IntKind) (f : Nat → Nat) : sixteen (pl K f 16) = sixteen fun i => .int K (f i : Int) := rfl
/-- What the inner loop makes, hidden from the walk. -/
theorem h16_walk (j : Nat) (hj : j < 16) : ∃ R : Nat → Nat, R 0 = j * 4096 ∧ (∀ k, t16 (R k) = R (k + 1)) ∧ (∀ k, R k < 65536) ∧ R 4 = h16 j :=
  ⟨fun k => rep t16 k (j * 4096), rfl, fun _ => rfl, fun k => r16_lt k (by omega), rfl⟩
theorem h32_walk (j : Nat) (hj : j < 16) : ∃ R : Nat → Nat, R 0 = j ∧ (∀ k, t32 (R k) = R (k + 1)) ∧ (∀ k, R k < 4294967296) ∧ R 4 = h32 j :=
  ⟨fun k => rep t32 k j, rfl, fun _ => rfl, fun k => r32_lt k (by omega), rfl⟩
end Go.Proofs.Ytmdbpoknehafaaa
