/-
  The statements' helpers: Bring, EqInts, of lists that are the same or not.
-/
import Derived.Test.YtalffdiohjcajaaBlk
namespace Go.Proofs.Ytalffdiohjcajaa
open Go.RowKit
set_option maxRecDepth 8000
def broughtTo (i : Int) (m : Nat) : Nat := (i % (m : Int)).toNat
theorem broughtTo_lt (i : Int) {m : Nat} (h : 0 < m) : broughtTo i m < m := by
  unfold broughtTo
  have := Int.emod_lt_of_pos i (show (0 : Int) < (m : Int) by omega)
  have := Int.emod_nonneg i (show (m : Int) ≠ 0 by omega)
  omega
theorem bring_any (i : Int) (m : Nat) (w : World) (_h1 : -9223372036854775808 ≤ i) (_h2 : i ≤ 9223372036854775807) (hm : 0 < m) (hm2 : (m : Int) ≤ 4611686018427387904) :
    Calls Try.prog 22 #[.int .i64 i, .int .i64 m] w fun e w' => e = .returned (.int .i64 (broughtTo i m : Nat)) ∧ w' = w := by
  have hmp : (0 : Int) < (m : Int) := by omega
  have b1 := Int.lt_tmod_of_pos i hmp
  have b2 := Int.tmod_lt_of_pos i hmp
  have m1 := Int.emod_nonneg i (show (m : Int) ≠ 0 by omega)
  have m2 := Int.emod_lt_of_pos i hmp
  have e1 : (0 ≤ i.tmod m ∧ i.tmod m = i % m) ∨ (i.tmod m < 0 ∧ i.tmod m = i % m - m) := by
    by_cases h0 : 0 ≤ i
    · left
      have : i.tmod m = i % m := Int.tmod_eq_emod_of_nonneg h0
      omega
    · have e := Int.tmod_eq_emod (a := i) (b := (m : Int))
      by_cases hd : (m : Int) ∣ i
      · left
        rw [if_pos (.inr hd)] at e
        omega
      · right
        rw [if_neg (by intro h; rcases h with h | h; exact h0 h; exact hd h)] at e
        omega
  have HK := hideIt (show (broughtTo i m : Int) = i % m by unfold broughtTo; omega)
  have hne : ¬ (m : Int) = 0 := by omega
  generalize i % (m : Int) = e at *
  have HE := hideIt e1
  clear e1
  go_enter Try.func22, Try.ntmps22
  go_wp2
  all_goals go_ret
  · exact ⟨ret_int (by have := HK.out; have := HE.out; first | omega | (unfold wrap64; omega)), rfl⟩
  · exact ⟨ret_int (by have := HK.out; have := HE.out; omega), rfl⟩
theorem IRow.cellAt {w : World} {a : Option Addr} {n : Nat} {zs : List Int} (h : IRow w a n zs) {i : Nat} (hi : i < n) : ∃ b off, a = some ⟨b, off, none⟩ ∧ b < w.heap.size ∧ w.cell? ⟨b, off + i, none⟩ = some (.int .i64 (zs.getD i 0)) := h.2 i hi
end Go.Proofs.Ytalffdiohjcajaa
