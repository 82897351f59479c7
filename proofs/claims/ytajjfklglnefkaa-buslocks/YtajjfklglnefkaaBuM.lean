/-
  A bus beside an array of four ints: the locks' book.
-/
import Derived.Test.YtajjfklglnefkaaBuL
namespace Go.Proofs.Ytajjfklglnefkaa
open Go.RowKit
set_option maxRecDepth 8000
/-- A bus that was made behind w0, and an array of four ints that is none of its own. -/
structure Bk (w0 W : World) (p g : Nat) (b : Bz) (f : Nat → Int) : Prop where
  aft : After w0 W
  bus : ∃ o, Bu W p o b ∧ (∀ k, o k ≠ 0 → w0.heap.size ≤ k) ∧ o g = 0
  new : w0.heap.size ≤ g
  arr : ∃ cs, W.heap[g]? = some (.cells cs 46 (0, 0)) ∧ cs.size = 4 ∧ ∀ i, i < 4 → cs[i]? = some (.int .i64 (f i))
theorem Bk.goes {w0 W W' : World} {p g : Nat} {b b' : Bz} {f : Nat → Int} {o o' : Nat → Nat} (h : Bk w0 W p g b f) (ho : ∀ k, o k ≠ 0 → w0.heap.size ≤ k) (hg : o g = 0) (x : Bu W' p o' b') (hh : Goes W W' o o') : Bk w0 W' p g b' f := by
  obtain ⟨cs, h1, h2, h3⟩ := h.arr
  exact ⟨h.aft.then hh.but (fun k hk e => by have := ho k e; omega), ⟨o', x, hh.new h.aft.size ho, by rw [hh.ext g (blk_lt h1)]; exact hg⟩, h.new, cs, (hh.but.block g (blk_lt h1) (fun e => e hg)).trans h1, h2, h3⟩
theorem Bk.free {w0 W : World} {p g : Nat} {b : Bz} {f : Nat → Int} (h : Bk w0 W p g b f) (i : Int) {t : Int} (ht2 : t ≤ 9223372036854775807) : Calls Try.prog 16 #[Ptr p, .int .i64 i, .int .i64 t] W fun e w' => e = .returned (.int .i64 (b.freeA i t)) ∧ Bk w0 w' p g (b.freeS i t) f := by
  obtain ⟨o, x, ho, hg⟩ := h.bus
  exact (buFree x i ht2).mono (fun e w' ⟨h1, o', h2, h3⟩ => ⟨h1, h.goes ho hg h2 h3⟩)
theorem Bk.set {w0 W : World} {p g : Nat} {b : Bz} {f : Nat → Int} (h : Bk w0 W p g b f) (i : Int) : Calls Try.prog 17 #[Ptr p, .int .i64 i] W fun e w' => e = .returned (.int .i64 (b.setA i)) ∧ Bk w0 w' p g (b.setS i) f := by
  obtain ⟨o, x, ho, hg⟩ := h.bus
  exact (buSet x i).mono (fun e w' ⟨h1, o', h2, h3⟩ => ⟨h1, h.goes ho hg h2 h3⟩)
theorem Bk.locked {w0 W : World} {p g : Nat} {b : Bz} {f : Nat → Int} (h : Bk w0 W p g b f) (i : Int) {t : Int} (ht2 : t ≤ 9223372036854775807) : Calls Try.prog 18 #[Ptr p, .int .i64 i, .int .i64 t] W fun e w' => e = .returned (.tuple #[.bool (b.lockA i t).1, .int .i64 (b.lockA i t).2]) ∧ Bk w0 w' p g (b.lockS i t) f := by
  obtain ⟨o, x, ho, hg⟩ := h.bus
  exact (buLocked x i ht2).mono (fun e w' ⟨h1, o', h2, h3⟩ => ⟨h1, h.goes ho hg h2 h3⟩)
theorem Bk.cell {w0 W : World} {p g : Nat} {b : Bz} {f : Nat → Int} (h : Bk w0 W p g b f) {i : Nat} (hi : i < 4) : W.cell? ⟨g, i, none⟩ = some (.int .i64 (f i)) ∧ W.frozen? ⟨g, i, none⟩ = false := by
  obtain ⟨cs, h1, h2, h3⟩ := h.arr
  exact ⟨blk_cell h1 (h3 i hi), blk_soft h1 i⟩
theorem Bk.after {w0 W W' : World} {p g : Nat} {b : Bz} {f : Nat → Int} (h : Bk w0 W p g b f) (a : After W W') : Bk w0 W' p g b f := by
  obtain ⟨o, x, ho, hg⟩ := h.bus
  obtain ⟨cs, h1, h2, h3⟩ := h.arr
  exact ⟨h.aft.trans a, ⟨o, x.after a, ho, hg⟩, h.new, cs, (a.block g (blk_lt h1) (fun t => t)).trans h1, h2, h3⟩
theorem Bk.put {w0 W : World} {p g : Nat} {b : Bz} {f : Nat → Int} (h : Bk w0 W p g b f) {i : Nat} (hi : i < 4) (v : Int) : Bk w0 (W.setCell ⟨g, i, none⟩ (.int .i64 v)) p g b (fun k => if k = i then v else f k) := by
  obtain ⟨o, x, ho, hg⟩ := h.bus
  obtain ⟨cs, h1, h2, h3⟩ := h.arr
  have hb := but_one W g i (.int .i64 v)
  refine ⟨h.aft.then hb (fun k hk e => by have : k = g := e; have := h.new; omega), ⟨o, x.but hb (fun k hk e => by have : k = g := e; rw [this] at hk; exact hk hg), ho, hg⟩, h.new, _, blk_put h1 i (.int .i64 v), by simp [h2], fun j hj => ?_⟩
  by_cases e : j = i
  · subst e
    rw [set_at (by omega), if_pos rfl]
  · rw [set_off (fun h => e h.symm), if_neg e]; exact h3 j hj
/-- What the book says of a lock. -/
def bkOf (z : Option Int) : Int := z.getD (-1000)
theorem bk_locked {b : Bz} (h : b.Ok) {i : Nat} {t : Int} : (b.locked i t = true) ↔ (bkOf (b.lk i) < 0 ∨ bkOf (b.lk i) + b.fr ≤ t) := by
  unfold Bz.locked
  cases hz : b.lk i with
  | none => simp [lockd, bkOf]
  | some a =>
    have := h.lks i a hz
    show (decide (b.fr ≤ t - a) = true) ↔ (a < 0 ∨ a + b.fr ≤ t)
    rw [decide_eq_true_iff]
    omega
theorem bk_free (b : Bz) (i : Nat) (t : Int) : (fun k => if k = i then t else bkOf (b.lk k)) = fun k => bkOf ((b.free i t).lk k) := by
  funext k
  show _ = bkOf (setAt b.lk i (some t) k)
  unfold setAt
  split <;> rfl
theorem bk_set (b : Bz) (i : Nat) : (fun k => if k = i then (-1000 : Int) else bkOf (b.lk k)) = fun k => bkOf ((b.set i).lk k) := by
  funext k
  show _ = bkOf (setAt b.lk i none k)
  unfold setAt
  split <;> rfl
theorem bits_pow (n : Int) (e : Nat) (m : Int) (hm : m = ((2 ^ e : Nat) : Int) - 1) (he : e ≤ 32) : Go.bits .and .i64 n m = n % ((2 ^ e : Nat) : Int) := by
  have hp : 2 ^ e ≤ 2 ^ 32 := Nat.pow_le_pow_right (by decide) he
  have hp1 : 1 ≤ 2 ^ e := Nat.one_le_two_pow
  have h7 : (BitVec.ofInt 64 m).toNat = 2 ^ e - 1 := by
    rw [BitVec.toNat_ofInt, hm]
    have : (2 : Nat) ^ 32 = 4294967296 := rfl
    omega
  have key : (BitVec.ofInt 64 n &&& BitVec.ofInt 64 m).toNat = (n % ((2 ^ 64 : Nat) : Int)).toNat % 2 ^ e := by
    rw [BitVec.toNat_and, BitVec.toNat_ofInt, h7, Nat.and_two_pow_sub_one_eq_mod]
  have hd : ((2 ^ e : Nat) : Int) ∣ ((2 ^ 64 : Nat) : Int) := Int.natCast_dvd_natCast.2 (Nat.pow_dvd_pow 2 (by omega))
  show IntKind.i64.wrap ((BitVec.ofInt 64 n &&& BitVec.ofInt 64 m).toNat : Nat) = n % ((2 ^ e : Nat) : Int)
  rw [key]
  have h1 : (((n % ((2 ^ 64 : Nat) : Int)).toNat % 2 ^ e : Nat) : Int) = n % ((2 ^ e : Nat) : Int) := by
    rw [Int.natCast_emod, Int.toNat_of_nonneg (Int.emod_nonneg _ (by decide)), Int.emod_emod_of_dvd n hd]
  rw [h1]
  have h2 := Int.emod_nonneg n (show ((2 ^ e : Nat) : Int) ≠ 0 by omega)
  have h3 := Int.emod_lt_of_pos n (show (0 : Int) < ((2 ^ e : Nat) : Int) by omega)
  have : (2 : Nat) ^ 32 = 4294967296 := rfl
  exact wrap_small _ (by omega) (by omega)
theorem and3 (n : Int) : ∃ k : Nat, k < 4 ∧ Go.bits .and .i64 n 3 = (k : Int) :=
  ⟨(n % 4).toNat, by omega, by rw [bits_pow n 2 3 rfl (by decide)]; show n % 4 = _; omega⟩
theorem andFF (n : Int) : ∃ k : Nat, k < 65536 ∧ Go.bits .and .i64 n 65535 = (k : Int) :=
  ⟨(n % 65536).toNat, by omega, by rw [bits_pow n 16 65535 rfl (by decide)]; show n % 65536 = _; omega⟩
end Go.Proofs.Ytajjfklglnefkaa
