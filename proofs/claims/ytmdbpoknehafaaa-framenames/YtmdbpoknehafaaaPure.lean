/-
  The two checks over whole numbers alone, no program in sight: turns, their linearity, halves of bytes, sums.
-/
import Derived.Test.YtmdbpoknehafaaaBase
namespace Go.Proofs.Ytmdbpoknehafaaa
def t16 (n : Nat) : Nat := if 32768 ≤ n then (2 * n - 65536) ^^^ 4129 else 2 * n
def t32 (n : Nat) : Nat := if n % 2 = 1 then (n / 2) ^^^ 3988292384 else n / 2
def rep (f : Nat → Nat) : Nat → Nat → Nat
  | 0, n => n
  | k + 1, n => f (rep f k n)
theorem rep_add (f : Nat → Nat) (a b n : Nat) : rep f (a + b) n = rep f a (rep f b n) := by
  induction a with
  | zero => simp [rep]
  | succ a ih => rw [Nat.succ_add]; show f (rep f (a + b) n) = f (rep f a (rep f b n)); rw [ih]
theorem x16 {a b : Nat} (h : a < 65536) (k : b < 65536) : a ^^^ b < 65536 := Nat.xor_lt_two_pow (n := 16) h k
theorem x32 {a b : Nat} (h : a < 4294967296) (k : b < 4294967296) : a ^^^ b < 4294967296 := Nat.xor_lt_two_pow (n := 32) h k
theorem x4 {a b : Nat} (h : a < 16) (k : b < 16) : a ^^^ b < 16 := Nat.xor_lt_two_pow (n := 4) h k
theorem x8 {a b : Nat} (h : a < 256) (k : b < 256) : a ^^^ b < 256 := Nat.xor_lt_two_pow (n := 8) h k
theorem t16_lt {n : Nat} (h : n < 65536) : t16 n < 65536 := by
  unfold t16; split
  · exact x16 (by omega) (by omega)
  · omega
theorem t32_lt {n : Nat} (h : n < 4294967296) : t32 n < 4294967296 := by
  unfold t32; split
  · exact x32 (by omega) (by omega)
  · omega
theorem rep_lt {f : Nat → Nat} {B : Nat} (hf : ∀ n, n < B → f n < B) (k n : Nat) (h : n < B) : rep f k n < B := by
  induction k with
  | zero => exact h
  | succ k ih => exact hf _ ih
theorem xor_swap (a b c d : Nat) : (a ^^^ b) ^^^ (c ^^^ d) = (a ^^^ c) ^^^ (b ^^^ d) := by
  rw [Nat.xor_assoc, Nat.xor_assoc, ← Nat.xor_assoc b, ← Nat.xor_assoc c, Nat.xor_comm b c]
theorem xor_can (a c : Nat) : (a ^^^ c) ^^^ c = a := by rw [Nat.xor_assoc, Nat.xor_self, Nat.xor_zero]
theorem xor_can' (a c : Nat) : c ^^^ (c ^^^ a) = a := by rw [← Nat.xor_assoc, Nat.xor_self, Nat.zero_xor]
theorem mul_xor (a b k : Nat) : (a ^^^ b) * 2 ^ k = a * 2 ^ k ^^^ b * 2 ^ k := by
  rw [← Nat.shiftLeft_eq, ← Nat.shiftLeft_eq, ← Nat.shiftLeft_eq, Nat.shiftLeft_xor_distrib]
theorem div_xor (a b k : Nat) : (a ^^^ b) / 2 ^ k = a / 2 ^ k ^^^ b / 2 ^ k := by
  rw [← Nat.shiftRight_eq_div_pow, ← Nat.shiftRight_eq_div_pow, ← Nat.shiftRight_eq_div_pow, Nat.shiftRight_xor_distrib]
theorem mod_xor (a b k : Nat) : (a ^^^ b) % 2 ^ k = a % 2 ^ k ^^^ b % 2 ^ k := Nat.xor_mod_two_pow
theorem parts_xor (s k : Nat) : s = s % 2 ^ k ^^^ s / 2 ^ k * 2 ^ k := by
  apply Nat.eq_of_testBit_eq
  intro i
  rw [Nat.testBit_xor, Nat.testBit_mod_two_pow, ← Nat.shiftLeft_eq, Nat.testBit_shiftLeft, Nat.testBit_div_two_pow]
  by_cases h : i < k
  · have h1 : ¬ k ≤ i := by omega
    simp [h, h1]
  · have h1 : k ≤ i := by omega
    simp [h, h1]
/-- The two turns as one form each. -/
theorem t16_form {n : Nat} (h : n < 65536) : t16 n = 2 * n % 65536 ^^^ (if n / 32768 % 2 = 1 then 4129 else 0) := by
  unfold t16
  by_cases g : 32768 ≤ n
  · have e : 2 * n - 65536 = 2 * n % 65536 := by omega
    have e2 : n / 32768 % 2 = 1 := by omega
    rw [if_pos g, if_pos e2, e]
  · have e : 2 * n = 2 * n % 65536 := by omega
    have e2 : ¬ n / 32768 % 2 = 1 := by omega
    rw [if_neg g, if_neg e2, Nat.xor_zero]; exact e
theorem t32_form (n : Nat) : t32 n = n / 2 ^^^ (if n % 2 = 1 then 3988292384 else 0) := by
  unfold t32; split
  · rfl
  · rw [Nat.xor_zero]
theorem bit_xor (a b c : Nat) : (if (a ^^^ b) % 2 = 1 then c else 0) = (if a % 2 = 1 then c else 0) ^^^ (if b % 2 = 1 then c else 0) := by
  have h := mod_xor a b 1
  have e : (2 : Nat) ^ 1 = 2 := rfl
  rw [e] at h
  rw [h]
  rcases Nat.mod_two_eq_zero_or_one a with h1 | h1 <;> rcases Nat.mod_two_eq_zero_or_one b with h2 | h2 <;> rw [h1, h2] <;> simp
theorem t16_xor {a b : Nat} (ha : a < 65536) (hb : b < 65536) : t16 (a ^^^ b) = t16 a ^^^ t16 b := by
  rw [t16_form (x16 ha hb), t16_form ha, t16_form hb, xor_swap]
  congr 1
  · have h := mul_xor a b 1
    have h2 := mod_xor (a * 2 ^ 1) (b * 2 ^ 1) 16
    rw [← h] at h2
    have e : (2 : Nat) ^ 1 = 2 := rfl
    have e2 : (2 : Nat) ^ 16 = 65536 := rfl
    rw [e, e2] at h2
    rw [Nat.mul_comm 2, Nat.mul_comm 2, Nat.mul_comm 2]
    exact h2
  · have h := div_xor a b 15
    have e : (2 : Nat) ^ 15 = 32768 := rfl
    rw [e] at h
    rw [h]; exact bit_xor _ _ _
theorem t32_xor (a b : Nat) : t32 (a ^^^ b) = t32 a ^^^ t32 b := by
  rw [t32_form, t32_form a, t32_form b, xor_swap]
  congr 1
  · have h := div_xor a b 1
    have e : (2 : Nat) ^ 1 = 2 := rfl
    rw [e] at h; exact h
  · exact bit_xor _ _ _
theorem r16_lt (k : Nat) {n : Nat} (h : n < 65536) : rep t16 k n < 65536 := rep_lt (fun _ h => t16_lt h) k n h
theorem r32_lt (k : Nat) {n : Nat} (h : n < 4294967296) : rep t32 k n < 4294967296 := rep_lt (fun _ h => t32_lt h) k n h
theorem r16_xor (k : Nat) {a b : Nat} (ha : a < 65536) (hb : b < 65536) : rep t16 k (a ^^^ b) = rep t16 k a ^^^ rep t16 k b := by
  induction k with
  | zero => rfl
  | succ k ih => show t16 _ = t16 _ ^^^ t16 _; rw [ih, t16_xor (r16_lt k ha) (r16_lt k hb)]
theorem r32_xor (k a b : Nat) : rep t32 k (a ^^^ b) = rep t32 k a ^^^ rep t32 k b := by
  induction k with
  | zero => rfl
  | succ k ih => show t32 _ = t32 _ ^^^ t32 _; rw [ih, t32_xor]
/-- What is low is only doubled; what is a multiple is only halved. -/
theorem r16_low4 {n : Nat} (h : n < 4096) : rep t16 4 n = n * 16 := by
  show t16 (t16 (t16 (t16 n))) = _
  have e1 : t16 n = 2 * n := by unfold t16; rw [if_neg (by omega)]
  have e2 : t16 (2 * n) = 4 * n := by unfold t16; rw [if_neg (by omega)]; omega
  have e3 : t16 (4 * n) = 8 * n := by unfold t16; rw [if_neg (by omega)]; omega
  have e4 : t16 (8 * n) = n * 16 := by unfold t16; rw [if_neg (by omega)]; omega
  rw [e1, e2, e3, e4]
theorem r32_high4 (q : Nat) : rep t32 4 (16 * q) = q := by
  show t32 (t32 (t32 (t32 (16 * q)))) = _
  have e1 : t32 (16 * q) = 8 * q := by unfold t32; rw [if_neg (by omega)]; omega
  have e2 : t32 (8 * q) = 4 * q := by unfold t32; rw [if_neg (by omega)]; omega
  have e3 : t32 (4 * q) = 2 * q := by unfold t32; rw [if_neg (by omega)]; omega
  have e4 : t32 (2 * q) = q := by unfold t32; rw [if_neg (by omega)]; omega
  rw [e1, e2, e3, e4]
/-- The halves of bytes. -/
def h16 (j : Nat) : Nat := rep t16 4 (j * 4096)
def h32 (j : Nat) : Nat := rep t32 4 j
theorem half16 {s h : Nat} (hs : s < 65536) (hh : h < 16) : rep t16 4 (s ^^^ h * 4096) = s * 16 % 65536 ^^^ h16 (s / 4096 ^^^ h) := by
  have p := parts_xor s 12
  have e : (2 : Nat) ^ 12 = 4096 := rfl
  rw [e] at p
  have q := mul_xor (s / 4096) h 12
  rw [e] at q
  have l1 : s / 4096 < 16 := by omega
  have l2 := x4 l1 hh
  unfold h16
  calc rep t16 4 (s ^^^ h * 4096) = rep t16 4 (s % 4096 ^^^ (s / 4096 ^^^ h) * 4096) := by rw [q, ← Nat.xor_assoc, ← p]
    _ = rep t16 4 (s % 4096) ^^^ rep t16 4 ((s / 4096 ^^^ h) * 4096) := r16_xor 4 (by omega) (by omega)
    _ = _ := by
      have e3 : s % 4096 * 16 = s * 16 % 65536 := by omega
      rw [r16_low4 (by omega), e3]
theorem half32 (s h : Nat) : rep t32 4 (s ^^^ h) = s / 16 ^^^ h32 (s % 16 ^^^ h) := by
  have p := parts_xor s 4
  have e : (2 : Nat) ^ 4 = 16 := rfl
  rw [e] at p
  unfold h32
  calc rep t32 4 (s ^^^ h) = rep t32 4 (16 * (s / 16) ^^^ (s % 16 ^^^ h)) := by rw [← Nat.xor_assoc, Nat.xor_comm (16 * (s / 16)), Nat.mul_comm 16, ← p]
    _ = rep t32 4 (16 * (s / 16)) ^^^ rep t32 4 (s % 16 ^^^ h) := r32_xor 4 _ _
    _ = _ := by rw [r32_high4]
/-- What a byte makes of a number, and the sums. -/
def step16 (s b : Nat) : Nat := rep t16 8 (s ^^^ b * 256)
def step32 (s b : Nat) : Nat := rep t32 8 (s ^^^ b)
theorem step16_lt {s b : Nat} (hs : s < 65536) (hb : b < 256) : step16 s b < 65536 := r16_lt 8 (x16 hs (by omega))
theorem step32_lt {s b : Nat} (hs : s < 4294967296) (hb : b < 256) : step32 s b < 4294967296 := r32_lt 8 (x32 hs (by omega))
theorem byte_parts (b : Nat) : b * 256 = b % 16 * 256 ^^^ b / 16 * 4096 := by
  have p := parts_xor b 4
  have q := mul_xor (b % 2 ^ 4) (b / 2 ^ 4 * 2 ^ 4) 8
  rw [← p] at q
  simp only [Nat.reducePow] at q
  have e2 : b / 16 * 16 * 256 = b / 16 * 4096 := Nat.mul_assoc _ _ _
  rw [e2] at q
  exact q
theorem rep8 (f : Nat → Nat) (n : Nat) : rep f 8 n = rep f 4 (rep f 4 n) := rep_add f 4 4 n
theorem two16 {s b : Nat} (hs : s < 65536) (hb : b < 256) : step16 s b = rep t16 4 (rep t16 4 (s ^^^ b / 16 * 4096) ^^^ b % 16 * 4096) := by
  have l1 : s ^^^ b / 16 * 4096 < 65536 := x16 hs (by omega)
  have l2 : b % 16 * 256 < 65536 := by omega
  have r : rep t16 4 (b % 16 * 256) = b % 16 * 4096 := (r16_low4 (by omega)).trans (by omega)
  have q : s ^^^ b * 256 = (s ^^^ b / 16 * 4096) ^^^ b % 16 * 256 := by rw [byte_parts b, Nat.xor_comm (b % 16 * 256), Nat.xor_assoc]
  unfold step16
  rw [rep8, q, r16_xor 4 l1 l2, r]
theorem step16_halves {s b : Nat} (hs : s < 65536) (hb : b < 256) : step16 s b = (s * 16 % 65536 ^^^ h16 (s / 4096 ^^^ b / 16)) * 16 % 65536 ^^^ h16 ((s * 16 % 65536 ^^^ h16 (s / 4096 ^^^ b / 16)) / 4096 ^^^ b % 16) := by
  have l1 : s ^^^ b / 16 * 4096 < 65536 := x16 hs (by omega)
  have a1 := half16 hs (show b / 16 < 16 by omega)
  have a2 := half16 (r16_lt 4 l1) (show b % 16 < 16 by omega)
  rw [a1] at a2
  rw [two16 hs hb, a1]
  exact a2
theorem two32 (s b : Nat) : step32 s b = rep t32 4 (rep t32 4 (s ^^^ b % 16) ^^^ b / 16) := by
  have p : b = b % 16 ^^^ b / 16 * 16 := parts_xor b 4
  have r : rep t32 4 (b / 16 * 16) = b / 16 := by rw [Nat.mul_comm]; exact r32_high4 _
  have q : s ^^^ b = (s ^^^ b % 16) ^^^ b / 16 * 16 := by rw [Nat.xor_assoc, ← p]
  unfold step32
  rw [rep8, q, r32_xor 4, r]
theorem step32_halves (s b : Nat) : step32 s b = (s / 16 ^^^ h32 (s % 16 ^^^ b % 16)) / 16 ^^^ h32 ((s / 16 ^^^ h32 (s % 16 ^^^ b % 16)) % 16 ^^^ b / 16) := by
  have a1 := half32 s (b % 16)
  have a2 := half32 (rep t32 4 (s ^^^ b % 16)) (b / 16)
  rw [a1] at a2
  rw [two32, a1]
  exact a2
/-- What a list of bytes makes of a number, byte by byte, whatever a byte makes. -/
def fold (f : Nat → Nat → Nat) : Nat → List Int → Nat
  | s, [] => s
  | s, z :: l => fold f (f s z.toNat) l
theorem fold_append (f : Nat → Nat → Nat) (s : Nat) (l r : List Int) : fold f s (l ++ r) = fold f (fold f s l) r := by
  induction l generalizing s with
  | nil => rfl
  | cons z l ih => exact ih _
theorem fold_lt {f : Nat → Nat → Nat} {B : Nat} (hf : ∀ s b, s < B → b < 256 → f s b < B) {s : Nat} {l : List Int} (hs : s < B) (h : Bs l) : fold f s l < B := by
  induction l generalizing s with
  | nil => exact hs
  | cons z l ih =>
    have hz := h z (by simp)
    exact ih (hf s z.toNat hs (by omega)) (fun y hy => h y (by simp [hy]))
theorem take_more {l : List Int} {k : Nat} (h : k < l.length) : l.take (k + 1) = l.take k ++ [l.getD k 0] := by
  rw [List.take_add_one]; simp [h]
theorem fold_more (f : Nat → Nat → Nat) {s k : Nat} {l : List Int} (h : k < l.length) : fold f s (l.take (k + 1)) = f (fold f s (l.take k)) (l.getD k 0).toNat := by
  rw [take_more h, fold_append]; rfl
def fold16 (s : Nat) (l : List Int) : Nat := fold step16 s l
def fold32 (s : Nat) (l : List Int) : Nat := fold step32 s l
def sum16 (l : List Int) : Nat := fold16 65535 l
def sum32 (l : List Int) : Nat := 4294967295 - fold32 4294967295 l
theorem fold16_append (s : Nat) (l r : List Int) : fold16 s (l ++ r) = fold16 (fold16 s l) r := fold_append step16 s l r
theorem fold32_append (s : Nat) (l r : List Int) : fold32 s (l ++ r) = fold32 (fold32 s l) r := fold_append step32 s l r
theorem fold16_lt {s : Nat} {l : List Int} (hs : s < 65536) (h : Bs l) : fold16 s l < 65536 := fold_lt (fun _ _ h k => step16_lt h k) hs h
theorem fold32_lt {s : Nat} {l : List Int} (hs : s < 4294967296) (h : Bs l) : fold32 s l < 4294967296 := fold_lt (fun _ _ h k => step32_lt h k) hs h
theorem fold16_more {s k : Nat} {l : List Int} (h : k < l.length) : fold16 s (l.take (k + 1)) = step16 (fold16 s (l.take k)) (l.getD k 0).toNat := fold_more step16 h
theorem fold32_more {s k : Nat} {l : List Int} (h : k < l.length) : fold32 s (l.take (k + 1)) = step32 (fold32 s (l.take k)) (l.getD k 0).toNat := fold_more step32 h
end Go.Proofs.Ytmdbpoknehafaaa
