/-
  The operations on words of float64 that package real and its statements use, over rungs: times a constant, over ten, less, order.
-/
import Derived.Test.YtjblckljbgelaabFlA
import Derived.Laws.FloatArith
namespace Go.Proofs.Ytjblckljbgelaab
namespace Fl
open Ieee

def E3 : Nat := 3000
theorem hE3 : E3 = 3000 := rfl
/-- The word of a sign and a rung. -/
def wd (s : Bool) (r : Nat) : Nat := double.word s r

theorem read_wd (s : Bool) (r : Nat) (h : r < INF) : double.read (wd s r) = .number s (mg r) ((sh r : Int) - 3000) := by
  have hB : BIN = 4503599627370496 := rfl
  have hI : INF = 9218868437227405312 := rfl
  have h1 : wd s r % 9223372036854775808 = r := by unfold wd Format.word; rw [ds]; rw [hI] at h; cases s <;> simp <;> omega
  have h2 : (wd s r / 9223372036854775808 % 2 == 1) = s := by unfold wd Format.word; rw [ds]; rw [hI] at h; cases s <;> simp <;> omega
  unfold Format.read
  rw [ds, db, di, dl]
  simp only [h1, h2]
  unfold mg sh
  by_cases hc : r < BIN
  · rw [if_pos hc, if_pos hc]
    have : r / BIN = 0 := by rw [hB] at *; omega
    rw [this]; rfl
  · rw [if_neg hc, if_neg hc, if_pos h]
    congr 1
    omega

theorem V_of (m : Nat) (i : Int) (k : Nat) (h : i + 3000 = k) : V m i = m * 2 ^ k := by
  unfold V; rw [h]; rfl

theorem mul_lit {cW c k : Nat} (hr : double.read cW = .number false (c * 2 ^ k) (-(k : Int))) (hk : k ≤ 1926) (s : Bool) (r : Nat) (h : r < INF) : double.mul (wd s r) cW = some (wd s (rung (c * val r))) := by
  unfold Format.mul
  rw [read_wd s r h, hr]
  have hs : 1926 ≤ sh r := by unfold sh; omega
  show some (double.nearest (s ^^ false) (mg r * (c * 2 ^ k)) ((sh r : Int) - 3000 + -(k : Int))) = _
  rw [nearest_eq _ _ _ (by omega), Bool.xor_false, V_of _ _ (sh r - k) (by omega)]
  have e : mg r * (c * 2 ^ k) * 2 ^ (sh r - k) = c * val r := by
    unfold val
    have : 2 ^ sh r = 2 ^ k * 2 ^ (sh r - k) := by rw [← Nat.pow_add]; congr 1; omega
    rw [this, ← Nat.mul_assoc, ← Nat.mul_assoc, ← Nat.mul_assoc, Nat.mul_comm (mg r) c]
  rw [e]; rfl

/-- A number over ten, cut off two digits behind the last one that is kept, with a 1 where anything is left. -/
def sq (N : Nat) : Nat := (2 * (N / 2 ^ (N.log2 - 56) / 5) + (if (N / 2 ^ (N.log2 - 56)) % 5 = 0 then 0 else 1)) * 2 ^ (N.log2 - 58)

theorem sq_zero : sq 0 = 0 := by unfold sq; simp

theorem mg_log (r : Nat) (h : mg r ≠ 0) : (mg r).log2 ≤ 52 := by
  have := mg_lt r
  have h2 : (mg r).log2 < 53 := by rw [Nat.log2_lt h, two53]; exact this
  omega

theorem div10 {cW : Nat} (hr : double.read cW = .number false (5 * 2 ^ 50) (-49)) (s : Bool) (r : Nat) (h : r < INF) : double.div (wd s r) cW = some (wd s (rung (sq (val r)))) := by
  unfold Format.div
  rw [read_wd s r h, hr, df]
  have hs : 1926 ≤ sh r := by unfold sh; omega
  have hl5 : (5 * 2 ^ 50 : Nat).log2 = 52 := by decide
  have hn5 : (5 * 2 ^ 50 : Nat) ≠ 0 := by decide
  unfold Datum.quotient
  simp only [hn5, if_false, hl5, Bool.xor_false, Option.map_some, Format.write]
  by_cases h0 : mg r = 0
  · have hv : val r = 0 := by unfold val; rw [h0, Nat.zero_mul]
    rw [hv, sq_zero, rung_zero, h0]
    simp [Format.nearest, wd]
  · have hl := mg_log r h0
    rw [nearest_eq _ _ _ (by omega)]
    obtain ⟨g, hg⟩ : ∃ g, (mg r).log2 + g = 52 := ⟨52 - (mg r).log2, by omega⟩
    have hlv : (val r).log2 = (mg r).log2 + sh r := by unfold val; exact log2_scale _ _ h0
    rw [show 52 + 2 + 52 - (mg r).log2 = (4 + g) + 50 by omega]
    rw [V_of _ _ ((val r).log2 - 58) (by omega)]
    have e1 : mg r <<< ((4 + g) + 50) = mg r * 2 ^ (4 + g) * 2 ^ 50 := by rw [Nat.shiftLeft_eq, Nat.pow_add, Nat.mul_assoc]
    have e2 : mg r * 2 ^ (4 + g) * 2 ^ 50 / (5 * 2 ^ 50) = mg r * 2 ^ (4 + g) / 5 := Nat.mul_div_mul_right _ _ (by decide)
    have e3 : mg r * 2 ^ (4 + g) * 2 ^ 50 % (5 * 2 ^ 50) = (mg r * 2 ^ (4 + g) % 5) * 2 ^ 50 := Nat.mul_mod_mul_right _ _ _
    have e4 : val r / 2 ^ ((val r).log2 - 56) = mg r * 2 ^ (4 + g) := by
      unfold val at hlv ⊢
      rw [hlv]
      have : 2 ^ sh r = 2 ^ (4 + g) * 2 ^ ((mg r).log2 + sh r - 56) := by rw [← Nat.pow_add]; congr 1; omega
      rw [this, ← Nat.mul_assoc, Nat.mul_div_cancel _ (Nat.two_pow_pos _)]
    rw [e1, e2, e3]
    unfold sq
    rw [e4]
    have e5 : ((mg r * 2 ^ (4 + g) % 5) * 2 ^ 50 != 0).toNat = if mg r * 2 ^ (4 + g) % 5 = 0 then 0 else 1 := by
      by_cases hz : mg r * 2 ^ (4 + g) % 5 = 0
      · rw [hz]; rfl
      · rw [if_neg hz]
        have : ((mg r * 2 ^ (4 + g) % 5) * 2 ^ 50 != 0) = true := by
          simp only [bne_iff_ne]
          exact Nat.mul_ne_zero hz (by decide)
        rw [this]; rfl
    rw [e5]
    rfl

theorem sq_near {N : Nat} (h : 58 ≤ N.log2) : 10 * sq N ≤ N + 10 * 2 ^ (N.log2 - 58) ∧ N ≤ 10 * sq N + 10 * 2 ^ (N.log2 - 58) := by
  unfold sq
  have hp : 2 ^ (N.log2 - 56) = 4 * 2 ^ (N.log2 - 58) := by
    rw [show N.log2 - 56 = (N.log2 - 58) + 2 by omega, Nat.pow_add, Nat.mul_comm]
  have hz : 0 < 2 ^ (N.log2 - 58) := Nat.two_pow_pos _
  rw [hp]
  generalize 2 ^ (N.log2 - 58) = z at *
  have e := Nat.div_add_mod N (4 * z)
  have m := Nat.mod_lt N (show 0 < 4 * z by omega)
  generalize N / (4 * z) = K at *
  generalize N % (4 * z) = x at *
  have hk : K = 5 * (K / 5) + K % 5 := by omega
  have hr : K % 5 < 5 := by omega
  generalize K / 5 = q at *
  generalize hj : K % 5 = j at *
  have e2 : 4 * z * K = 20 * (q * z) + 4 * (j * z) := by
    rw [hk, Nat.mul_add, Nat.mul_assoc, Nat.mul_assoc, Nat.mul_comm z, Nat.mul_comm z, Nat.mul_assoc]
    omega
  have e3 : 10 * ((2 * q + if j = 0 then 0 else 1) * z) = 20 * (q * z) + (if j = 0 then 0 else 10) * z := by
    rw [Nat.add_mul, Nat.mul_assoc]
    split <;> omega
  rw [e3]
  rcases (by omega : j = 0 ∨ j = 1 ∨ j = 2 ∨ j = 3 ∨ j = 4) with rfl | rfl | rfl | rfl | rfl <;> simp <;> omega

theorem sq_mono {a b : Nat} (h : a ≤ b) (ha : a = 0 ∨ 58 ≤ a.log2) : sq a ≤ sq b := by
  rcases ha with rfl | ha
  · rw [sq_zero]; exact Nat.zero_le _
  · have hl := log2_mono h
    have a0 : a ≠ 0 := by intro e; rw [e, Nat.log2_zero] at ha; omega
    have b0 : b ≠ 0 := by omega
    by_cases he : a.log2 = b.log2
    · unfold sq
      rw [he]
      refine Nat.mul_le_mul_right _ ?_
      have : a / 2 ^ (b.log2 - 56) ≤ b / 2 ^ (b.log2 - 56) := Nat.div_le_div_right h
      generalize a / 2 ^ (b.log2 - 56) = x at *
      generalize b / 2 ^ (b.log2 - 56) = y at *
      split <;> split <;> omega
    · have hx : a / 2 ^ (a.log2 - 56) < 144115188075855872 := by
        rw [Nat.div_lt_iff_lt_mul (Nat.two_pow_pos _)]
        have := Nat.lt_log2_self (n := a)
        rw [show a.log2 + 1 = 57 + (a.log2 - 56) by omega, Nat.pow_add] at this
        exact this
      have hy : 72057594037927936 ≤ b / 2 ^ (b.log2 - 56) := by
        rw [Nat.le_div_iff_mul_le (Nat.two_pow_pos _)]
        have := Nat.log2_self_le b0
        rw [show b.log2 = 56 + (b.log2 - 56) by omega, Nat.pow_add] at this
        exact this
      unfold sq
      generalize a / 2 ^ (a.log2 - 56) = x at *
      generalize b / 2 ^ (b.log2 - 56) = y at *
      have hq : (2 * (x / 5) + if x % 5 = 0 then 0 else 1) ≤ 2 * (2 * (y / 5) + if y % 5 = 0 then 0 else 1) := by
        split <;> split <;> omega
      have hpw : 2 * 2 ^ (a.log2 - 58) ≤ 2 ^ (b.log2 - 58) := by
        rw [Nat.mul_comm, ← Nat.pow_succ]
        exact Nat.pow_le_pow_right (by omega) (by omega)
      calc _ ≤ (2 * (2 * (y / 5) + if y % 5 = 0 then 0 else 1)) * 2 ^ (a.log2 - 58) := Nat.mul_le_mul_right _ hq
        _ = (2 * (y / 5) + if y % 5 = 0 then 0 else 1) * (2 * 2 ^ (a.log2 - 58)) := by rw [Nat.mul_comm 2, Nat.mul_assoc]
        _ ≤ _ := Nat.mul_le_mul_left _ hpw

/-- With its sign. -/
def sv (s : Bool) (r : Nat) : Int := if s then -(val r : Int) else (val r : Int)

theorem signed_scale (s : Bool) (m u b : Nat) : signed s m u * (2 : Int) ^ b = if s then -((m * 2 ^ (u + b) : Nat) : Int) else ((m * 2 ^ (u + b) : Nat) : Int) := by
  unfold signed
  rw [Nat.shiftLeft_eq, Nat.pow_add, ← Nat.mul_assoc]
  cases s
  · simp [Int.natCast_mul, Int.natCast_pow]
  · simp [Int.natCast_mul, Int.natCast_pow, Int.neg_mul]
theorem signed_sv (s : Bool) (r b : Nat) (h : b ≤ sh r) : signed s (mg r) (sh r - b) * (2 : Int) ^ b = sv s r := by
  rw [signed_scale, show sh r - b + b = sh r by omega]
  rfl
theorem compare_scale (x y c : Int) (h : 0 < c) : compare x y = compare (x * c) (y * c) := by
  have h1 : x * c < y * c ↔ x < y := Int.mul_lt_mul_right h
  have h2 : x * c = y * c ↔ x = y := ⟨fun e => Int.eq_of_mul_eq_mul_right (by omega) e, fun e => by rw [e]⟩
  show compareOfLessAndEq x y = compareOfLessAndEq (x * c) (y * c)
  unfold compareOfLessAndEq
  simp only [h1, h2]
theorem order_wd (s t : Bool) (r q : Nat) (hr : r < INF) (hq : q < INF) : double.order (wd s r) (wd t q) = some (compare (sv s r) (sv t q)) := by
  unfold Format.order
  rw [read_wd s r hr, read_wd t q hq]
  simp only [Datum.order]
  have e1 : ((sh r : Int) - 3000 - min ((sh r : Int) - 3000) ((sh q : Int) - 3000)).toNat = sh r - min (sh r) (sh q) := by omega
  have e2 : ((sh q : Int) - 3000 - min ((sh r : Int) - 3000) ((sh q : Int) - 3000)).toNat = sh q - min (sh r) (sh q) := by omega
  rw [e1, e2, compare_scale _ _ ((2 : Int) ^ min (sh r) (sh q)) (Int.pow_pos (by decide)), signed_sv _ _ _ (by omega), signed_sv _ _ _ (by omega)]

theorem sub_wd (s t : Bool) (r q : Nat) (hr : r < INF) (hq : q < INF) : ∃ g, double.sub (wd s r) (wd t q) = some (wd g (rung (sv s r - sv t q).natAbs)) := by
  unfold Format.sub
  rw [read_wd s r hr, read_wd t q hq]
  simp only [Datum.opposite, Datum.sum, Option.map_some, Format.write]
  have e1 : ((sh r : Int) - 3000 - min ((sh r : Int) - 3000) ((sh q : Int) - 3000)).toNat = sh r - min (sh r) (sh q) := by omega
  have e2 : ((sh q : Int) - 3000 - min ((sh r : Int) - 3000) ((sh q : Int) - 3000)).toNat = sh q - min (sh r) (sh q) := by omega
  rw [e1, e2]
  have hs1 : 1926 ≤ sh r := by unfold sh; omega
  have hs2 : 1926 ≤ sh q := by unfold sh; omega
  have ht : signed (!t) (mg q) (sh q - min (sh r) (sh q)) * (2 : Int) ^ min (sh r) (sh q) = - sv t q := by
    rw [signed_sv _ _ _ (by omega)]
    unfold sv; cases t <;> simp
  have hs := signed_sv s r (min (sh r) (sh q)) (by omega)
  generalize signed s (mg r) (sh r - min (sh r) (sh q)) = x at *
  generalize signed (!t) (mg q) (sh q - min (sh r) (sh q)) = y at *
  rw [nearest_eq _ _ _ (by omega), V_of _ _ (min (sh r) (sh q)) (by omega)]
  have e : (x + y).natAbs * 2 ^ min (sh r) (sh q) = (sv s r - sv t q).natAbs := by
    have : sv s r - sv t q = (x + y) * (2 : Int) ^ min (sh r) (sh q) := by rw [Int.add_mul, hs, ht]; omega
    rw [this, Int.natAbs_mul, Int.natAbs_pow]
    rfl
  rw [e]
  exact ⟨_, rfl⟩

theorem ofInt_wd (n : Int) : floatOfInt .f64 n = wd (decide (n < 0)) (rung (n.natAbs * 2 ^ E3)) := by
  show double.nearest (decide (n < 0)) n.natAbs 0 = _
  rw [nearest_eq _ _ _ (by omega), V_of _ _ E3 (by rw [hE3]; rfl)]
  rfl
end Fl
end Go.Proofs.Ytjblckljbgelaab
