/-
  A list of bytes that is turned byte by byte; ints that are handed in.
-/
import Derived.Test.YtmdbpoknehafaaaAwake
namespace Go.Proofs.Ytmdbpoknehafaaa
open Go.RowKit
theorem u8_x8 {a b : Nat} (ha : a < 256) (hb : b < 256) : a ^^^ b < 256 := Nat.xor_lt_two_pow (n := 8) ha hb
/-- What is owned, turned at a place. -/
theorem own_round {W : World} {B n c k : Nat} {a : Option Addr} {xs : List Int} (ho : W.ownsRow B 5 1 (.slice a n c) n (u8s xs)) (hb : Bs xs) (hk : k < n) :
    ∃ g x : Nat, a = some ⟨g, 0, none⟩ ∧ W.cell? ⟨g, k, none⟩ = some (.int .u8 x) ∧ x < 256 ∧ W.frozen? ⟨g, k, none⟩ = false ∧ B ≤ g ∧ g < W.heap.size ∧
      ∀ y : Int, 0 ≤ y ∧ y ≤ 255 → ∃ ys, (W.setCell ⟨g, k, none⟩ (.int .u8 y)).ownsRow B 5 1 (.slice a n c) n (u8s ys) ∧ Bs ys ∧ But (One g) W (W.setCell ⟨g, k, none⟩ (.int .u8 y)) := by
  have hl : xs.length = n := by have := ho.1; simp [u8s] at this; exact this
  rcases ho.2 with ⟨e, rfl⟩ | ⟨g, cap, cur, e, _⟩
  · omega
  · cases e
    have hx := hb.at (i := k) (by omega)
    refine ⟨g, (xs.getD k 0).toNat, rfl, ?_, by omega, ho.frozenAt k, (ho.lt g rfl).1, (ho.lt g rfl).2, fun y hy => ⟨xs.set k y, ?_, ?_, But.own1 _ _ _ _⟩⟩
    · rw [ho.cellAt k (by omega), Int.toNat_of_nonneg hx.1]
      simp [u8s, show k < xs.length by omega]
    · have h1 := (ho.stored k (.int .u8 y)).1
      have e : (u8s xs).set k (.int .u8 y) = u8s (xs.set k y) := by unfold u8s; rw [List.map_set]
      rw [e] at h1; exact h1
    · intro z hz
      rcases List.mem_or_eq_of_mem_set hz with h1 | h1
      · exact hb z h1
      · subst h1; exact hy
theorem xor_byte (x : Nat) (h : x < 256) : 0 ≤ bits .xor .u8 (x : Int) 90 ∧ bits .xor .u8 (x : Int) 90 ≤ 255 := by
  have e : bits .xor .u8 (x : Int) ((90 : Nat) : Int) = ((x ^^^ 90 : Nat) : Int) := u8_xor_nat x 90 h (by decide)
  have e2 : ((90 : Nat) : Int) = 90 := rfl
  rw [e2] at e
  have := u8_x8 h (show 90 < 256 by decide)
  rw [e]; omega
/-- The ints zs lie where a slice of n places leads. -/
def RowI (w : World) (a : Option Addr) (n : Nat) (zs : List Int) : Prop :=
  ∀ i, i < n → ∃ b off, a = some ⟨b, off, none⟩ ∧ b < w.heap.size ∧ w.cell? ⟨b, off + i, none⟩ = some (.int .i64 (zs.getD i 0)) ∧ -9223372036854775808 ≤ zs.getD i 0 ∧ zs.getD i 0 ≤ 9223372036854775807
theorem RowI.after {w w' : World} {a n zs} (h : RowI w a n zs) (ha : After w w') : RowI w' a n zs := fun i hi => by
  obtain ⟨b, off, e, hb, hc, hr⟩ := h i hi
  exact ⟨b, off, e, Nat.lt_of_lt_of_le hb ha.size, by rw [ha.cell hb]; exact hc, hr⟩
end Go.Proofs.Ytmdbpoknehafaaa
