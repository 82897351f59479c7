/-
  Plain mathematics of digits: what a list of bytes says as a number, and whether all its bytes are digits. No program in sight.
-/
import Derived.Test.YtlfcihanhfabmaaGreatDoorX1Pure
namespace Go.Proofs.YtlfcihanhfabmaaGreatDoor.L1

/-- The byte at a place, as a whole number (a plain name: the walk does not look into it). -/
def bt (l : List UInt8) (j : Nat) : Int := (l.getD j 0).toNat
theorem bt_lo (l : List UInt8) (j : Nat) : 0 ≤ bt l j := by unfold bt; omega
theorem bt_hi (l : List UInt8) (j : Nat) : bt l j ≤ 255 := by
  unfold bt; have := (l.getD j 0).toNat_lt; omega

/-- All are digits. -/
def digB (l : List UInt8) : Bool := l.all fun c => decide (48 ≤ c.toNat ∧ c.toNat ≤ 57)
theorem digB_iff (l : List UInt8) : digB l = true ↔ ∀ j, j < l.length → 48 ≤ bt l j ∧ bt l j ≤ 57 := by
  unfold digB
  rw [List.all_eq_true]
  constructor
  · intro h j hj
    have := h l[j] (List.getElem_mem hj)
    unfold bt
    rw [List.getD_eq_getElem?_getD, List.getElem?_eq_getElem hj]
    simp at this ⊢
    omega
  · intro h c hc
    obtain ⟨j, hj, rfl⟩ := List.getElem_of_mem hc
    have := h j hj
    unfold bt at this
    rw [List.getD_eq_getElem?_getD, List.getElem?_eq_getElem hj] at this
    simp at this ⊢
    omega
theorem digB_of (l : List UInt8) (h : ∀ j, j < l.length → 48 ≤ bt l j ∧ bt l j ≤ 57) : digB l = true := (digB_iff l).2 h
theorem digB_not (l : List UInt8) (j : Nat) (hj : j < l.length) (h : ¬ (48 ≤ bt l j ∧ bt l j ≤ 57)) : digB l = false := by
  cases hd : digB l with
  | false => rfl
  | true => exact absurd ((digB_iff l).1 hd j hj) h

/-- What digits say. -/
def numL (l : List UInt8) : Int := l.foldl (fun v c => 10 * v + ((c.toNat : Int) - 48)) 0
theorem numL_snoc (l : List UInt8) (c : UInt8) : numL (l ++ [c]) = 10 * numL l + ((c.toNat : Int) - 48) := by
  unfold numL; rw [List.foldl_append]; rfl
theorem take_snoc (l : List UInt8) (k : Nat) (h : k < l.length) : l.take (k + 1) = l.take k ++ [l.getD k 0] := by
  rw [List.take_succ_eq_append_getElem h, List.getD_eq_getElem?_getD, List.getElem?_eq_getElem h]; rfl
theorem numL_take (l : List UInt8) (k : Nat) (h : k < l.length) : numL (l.take (k + 1)) = 10 * numL (l.take k) + (bt l k - 48) := by
  rw [take_snoc l k h, numL_snoc]; rfl
theorem numL_bd (l : List UInt8) (hd : digB l = true) : ∀ k, k ≤ l.length → 0 ≤ numL (l.take k) ∧ numL (l.take k) < 10 ^ k := by
  intro k
  induction k with
  | zero => intro _; simp [numL]
  | succ k ih =>
    intro hk
    have h1 := ih (by omega)
    have h2 := (digB_iff l).1 hd k (by omega)
    rw [numL_take l k (by omega), Int.pow_succ]
    omega
theorem numL_bd7 (l : List UInt8) (hd : digB l = true) (h7 : l.length ≤ 7) (k : Nat) (hk : k ≤ l.length) : 0 ≤ numL (l.take k) ∧ numL (l.take k) < 10000000 := by
  have h := numL_bd l hd k hk
  have h7' : k ≤ 7 := by omega
  have e : (10 : Int) ^ k ≤ 10000000 := by
    match k, h7' with
    | 0, _ => decide
    | 1, _ => decide
    | 2, _ => decide
    | 3, _ => decide
    | 4, _ => decide
    | 5, _ => decide
    | 6, _ => decide
    | 7, _ => decide
  omega
end Go.Proofs.YtlfcihanhfabmaaGreatDoor.L1
