/-
  The exclusive or of three lists, place by place.
-/
import Derived.Test.YtgdkepanmnmhjaaPureB
namespace Go.Proofs.Ytgdkepanmnmhjaa
theorem xors_len {a b c : List Int} {n : Nat} (h1 : a.length = n) (h2 : b.length = n) (h3 : c.length = n) : (xors a b c).length = n := by
  induction a generalizing b c n with
  | nil => simp [xors]; simpa using h1
  | cons x a ih =>
    match b, c, h2, h3 with
    | [], _, h2, _ => simp at h1 h2; omega
    | _ :: _, [], _, h3 => simp at h1 h3; omega
    | y :: b, z :: c, h2, h3 =>
      simp only [xors, List.length_cons] at *
      rw [ih (n := n - 1) (by omega) (by omega) (by omega)]; omega
theorem xors_at {a b c : List Int} {k : Nat} (h1 : k < a.length) (h2 : k < b.length) (h3 : k < c.length) : (xors a b c).getD k 0 = (((a.getD k 0).toNat ^^^ (b.getD k 0).toNat ^^^ (c.getD k 0).toNat : Nat) : Int) := by
  induction a generalizing b c k with
  | nil => simp at h1
  | cons x a ih =>
    match b, c, h2, h3 with
    | y :: b, z :: c, h2, h3 =>
      match k with
      | 0 => simp [xors]
      | k + 1 =>
        have := ih (b := b) (c := c) (k := k) (by simpa using h1) (by simpa using h2) (by simpa using h3)
        simpa [xors] using this
theorem take_at {l : List Int} {n k : Nat} (h : k < n) : (l.take n).getD k 0 = l.getD k 0 := by
  simp [h]
end Go.Proofs.Ytgdkepanmnmhjaa
