/-
  Noughts and ones, read one by one.
-/
import Derived.Test.YthgmjeljjladhaaFoP
namespace Go.Proofs.Ythgmjeljjladhaa
theorem bits_get (f : Nat → Bool) : ∀ (n j : Nat) (h : j < (bitsOf f n).size), (bitsOf f n)[j] = if f j = true then (49 : UInt8) else 48
  | 0, j, h => by
    have := bitsOf_size f 0
    omega
  | n + 1, j, h => by
    have hs := bitsOf_size f n
    have hs1 := bitsOf_size f (n + 1)
    by_cases hj : j < n
    · have e : (bitsOf f (n + 1))[j] = (bitsOf f n)[j] := ByteArray.getElem_append_left (by omega)
      rw [e]
      exact bits_get f n j (by omega)
    · obtain rfl : j = n := by omega
      have e : (bitsOf f (j + 1))[j] = (if f j = true then (⟨#[49]⟩ : ByteArray) else ⟨#[48]⟩)[j - (bitsOf f j).size]'(by split <;> (show j - (bitsOf f j).size < 1; omega)) := ByteArray.getElem_append_right (by omega)
      rw [e]
      have e0 : j - (bitsOf f j).size = 0 := by omega
      simp only [e0]
      rcases f j with _ | _
      · rfl
      · rfl
theorem bits_nat {f : Nat → Bool} {n : Nat} {s : ByteArray} (hs : bitsOf f n = s) {j : Nat} (h : j < s.size) : (s[j]).toNat = if f j = true then 49 else 48 := by
  subst hs
  rw [bits_get]
  split <;> rfl
end Go.Proofs.Ythgmjeljjladhaa
