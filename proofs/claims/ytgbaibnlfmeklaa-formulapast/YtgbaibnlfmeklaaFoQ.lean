/-
  The calls of with and text, as the statements make them.
-/
import Derived.Test.YtgbaibnlfmeklaaFoN
namespace Go.Proofs.Ytgbaibnlfmeklaa
open Go.RowKit
theorem i64_and63 (n : Int) : Go.bits .and .i64 n 63 = n % 64 := by
  have h7 : (BitVec.ofInt 64 63).toNat = 2 ^ 6 - 1 := by decide
  have key : (BitVec.ofInt 64 n &&& BitVec.ofInt 64 63).toNat = (n % ((2 ^ 64 : Nat) : Int)).toNat % 2 ^ 6 := by
    rw [BitVec.toNat_and, BitVec.toNat_ofInt, h7, Nat.and_two_pow_sub_one_eq_mod]
  show IntKind.i64.wrap ((BitVec.ofInt 64 n &&& BitVec.ofInt 64 63).toNat : Nat) = n % 64
  rw [key, IntKind.wrap_i64]
  omega
theorem and63_nat (n : Int) : ∃ N : Nat, N ≤ 63 ∧ Go.bits .and .i64 n 63 = (N : Int) := ⟨(n % 64).toNat, by omega, by rw [i64_and63]; omega⟩
theorem pastAt_of {C : List Ch} {X : List Tr} {w : World} {ac : Option Addr} {cc : Nat} {aT : Option Addr} {ct : Nat} (h2 : CRow w ac C.length C) (h3 : TRow w aT X.length X) : PastAt w (.agg #[.slice ac C.length cc, .slice aT X.length ct]) C (rdsOf X) :=
  ⟨ac, cc, aT, ct, X, by rw [rdsOf_length], h2, by rw [rdsOf_length]; exact h3, rfl⟩
theorem tx_call {L M : List Nd} {C : List Ch} {X : List Tr} {w : World} {ac : Option Addr} {cc : Nat} {aT : Option Addr} {ct : Nat} {S : ByteArray} (h2 : CRow w ac C.length C) (h3 : TRow w aT X.length X) (hX : (rdsOf X).length ≤ 200) (hr : ∀ l ∈ rdsOf X, l.length = C.length) (hT : TextIs L M C (rdsOf X) S) :
    ∀ V, After w V → ∀ v, isRow (L ++ M) v V → Calls Try.prog 22 #[.agg #[.slice ac C.length cc, .slice aT X.length ct], v] V fun e w' => e = .returned (.string S) ∧ After V w' :=
  fun _ hV _ hv => text_row (pastAt_of (h2.after hV) (h3.after hV)) hv (by omega) hT.1 hr hT.2
theorem tx_self {L : List Nd} {C : List Ch} {X : List Tr} {w : World} {al : Option Addr} {cl : Nat} {ac : Option Addr} {cc : Nat} {aT : Option Addr} {ct : Nat} (h1 : NRow w al L.length L) (h2 : CRow w ac C.length C) (h3 : TRow w aT X.length X) (hX : (rdsOf X).length ≤ 200) (hr : ∀ l ∈ rdsOf X, l.length = C.length) (hc : chk L (C.length : Int) = 0) :
    ∀ V, After w V → Calls Try.prog 22 #[.agg #[.slice ac C.length cc, .slice aT X.length ct], .slice al L.length cl] V fun e w' => e = .returned (.string (bitsOf (val L C (rdsOf X) (L.length - 1)) (rdsOf X).length)) ∧ After V w' :=
  fun _ hV => text_past (pastAt_of (h2.after hV) (h3.after hV)) al cl (h1.after hV) (by omega) hc hr
theorem with_call {L : List Nd} {w : World} {al : Option Addr} {cl : Nat} (h1 : NRow w al L.length L) (ha : al = none → L.length = 0 ∧ cl = 0) (hL : L.length ≤ 32) :
    ∀ V, After w V → ∀ (M : List Nd) v, M.length ≤ 32 → isRow M v V → Calls Try.prog 23 #[.slice al L.length cl, v] V fun e w' => ∃ v', e = .returned v' ∧ isRow (L ++ M) v' w' ∧ After V w' :=
  fun _ hV _ _ hM hv => with_row ⟨al, cl, rfl, h1.after hV, ha⟩ hv (by omega)
end Go.Proofs.Ytgbaibnlfmeklaa
