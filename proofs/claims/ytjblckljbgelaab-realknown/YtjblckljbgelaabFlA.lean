/-
  Rounding to a float64, over whole numbers alone: the rung of a number in parts of 2^-3000, that a greater number comes to no lower rung, and that a number of 53 binary digits comes to itself.
-/
import Ieee.Arith
namespace Go.Proofs.Ytjblckljbgelaab
namespace Fl
open Ieee

/-- A number in parts of 2^-3000. -/
def V (mag : Nat) (place : Int) : Nat := mag * 2 ^ (place + 3000).toNat
/-- n over 2^l, to the nearest, between two to the even one. -/
def rne (n l : Nat) : Nat := n / 2 ^ l + (if 2 ^ l < 2 * (n % 2 ^ l) ∨ (2 ^ l = 2 * (n % 2 ^ l) ∧ (n / 2 ^ l) % 2 = 1) then 1 else 0)
/-- The place of the last digit that is kept. -/
def LL (N : Nat) : Nat := max (N.log2 - 52) 1926
def BIN : Nat := 4503599627370496
def INF : Nat := 9218868437227405312
def rung (N : Nat) : Nat := min ((LL N - 1926) * BIN + rne N (LL N)) INF

theorem rne_scale (m d p : Nat) : rne (m * 2 ^ p) (d + p) = rne m d := by
  have hp : 0 < 2 ^ p := Nat.two_pow_pos p
  have h1 : m * 2 ^ p / 2 ^ (d + p) = m / 2 ^ d := by rw [Nat.pow_add, Nat.mul_div_mul_right _ _ hp]
  have h2 : m * 2 ^ p % 2 ^ (d + p) = (m % 2 ^ d) * 2 ^ p := by rw [Nat.pow_add, Nat.mul_mod_mul_right]
  have h3 : (2 ^ (d + p) < 2 * (m * 2 ^ p % 2 ^ (d + p))) ↔ (2 ^ d < 2 * (m % 2 ^ d)) := by
    rw [h2, Nat.pow_add, ← Nat.mul_assoc]
    exact Nat.mul_lt_mul_right hp
  have h4 : (2 ^ (d + p) = 2 * (m * 2 ^ p % 2 ^ (d + p))) ↔ (2 ^ d = 2 * (m % 2 ^ d)) := by
    rw [h2, Nat.pow_add, ← Nat.mul_assoc]
    exact Nat.mul_left_inj (by omega)
  unfold rne
  simp only [h3, h4, h1]

theorem rne_zero_drop (m : Nat) : rne m 0 = m := by
  unfold rne
  simp [Nat.mod_one]
theorem rne_exact (m l : Nat) : rne (m * 2 ^ l) l = m := by
  have := rne_scale m 0 l
  rw [Nat.zero_add, rne_zero_drop] at this
  exact this
theorem rne_small (n l : Nat) (h : 2 * n < 2 ^ l) : rne n l = 0 := by
  unfold rne
  rw [Nat.div_eq_of_lt (by omega), Nat.mod_eq_of_lt (by omega), if_neg (by omega)]

theorem cut_eq (neg : Bool) (n drop : Nat) : Toward.even.cut neg n drop = rne n drop := by
  have key : ∀ k, Toward.even.cut neg n drop = n / 2 ^ min drop (n.log2 + 2) + (if 2 ^ min drop (n.log2 + 2) < 2 * (n % 2 ^ min drop (n.log2 + 2)) ∨ (2 ^ min drop (n.log2 + 2) = 2 * (n % 2 ^ min drop (n.log2 + 2)) ∧ (n / 2 ^ min drop (n.log2 + 2)) % 2 = 1) then 1 else 0) + (k - k) := by
    intro k
    unfold Toward.cut
    simp only [Nat.one_shiftLeft, Nat.sub_self, Nat.add_zero]
    congr 1
    by_cases hc : 2 ^ min drop (n.log2 + 2) < 2 * (n % 2 ^ min drop (n.log2 + 2)) ∨ (2 ^ min drop (n.log2 + 2) = 2 * (n % 2 ^ min drop (n.log2 + 2)) ∧ (n / 2 ^ min drop (n.log2 + 2)) % 2 = 1)
    · rw [if_pos hc]
      have : (decide (2 ^ min drop (n.log2 + 2) < 2 * (n % 2 ^ min drop (n.log2 + 2))) || (2 ^ min drop (n.log2 + 2) == 2 * (n % 2 ^ min drop (n.log2 + 2)) && (n / 2 ^ min drop (n.log2 + 2)) % 2 == 1)) = true := by
        simpa using hc
      rw [this]; rfl
    · rw [if_neg hc]
      have : (decide (2 ^ min drop (n.log2 + 2) < 2 * (n % 2 ^ min drop (n.log2 + 2))) || (2 ^ min drop (n.log2 + 2) == 2 * (n % 2 ^ min drop (n.log2 + 2)) && (n / 2 ^ min drop (n.log2 + 2)) % 2 == 1)) = false := by
        rw [← Bool.not_eq_true]; simpa using hc
      rw [this]; rfl
  have key := key 0
  rw [Nat.sub_self, Nat.add_zero] at key
  rw [key]
  by_cases h : drop ≤ n.log2 + 2
  · rw [Nat.min_eq_left h]; rfl
  · have hn : n < 2 ^ (n.log2 + 1) := Nat.lt_log2_self
    have h2 : 2 ^ (n.log2 + 2) = 2 * 2 ^ (n.log2 + 1) := by rw [Nat.pow_succ, Nat.mul_comm]
    have h3 : 2 ^ (n.log2 + 2) ≤ 2 ^ drop := Nat.pow_le_pow_right (by omega) (by omega)
    rw [rne_small n drop (by omega), Nat.min_eq_right (by omega), Nat.div_eq_of_lt (by omega), Nat.mod_eq_of_lt (by omega), if_neg (by omega)]

theorem log2_scale (m p : Nat) (h : m ≠ 0) : (m * 2 ^ p).log2 = m.log2 + p := by
  have hp : 0 < 2 ^ p := Nat.two_pow_pos p
  have hm : m * 2 ^ p ≠ 0 := Nat.mul_ne_zero h (by omega)
  rw [Nat.log2_eq_iff hm]
  have a := Nat.log2_self_le h
  have b : m < 2 ^ (m.log2 + 1) := Nat.lt_log2_self
  refine ⟨by rw [Nat.pow_add]; exact Nat.mul_le_mul_right _ a, ?_⟩
  rw [show m.log2 + p + 1 = (m.log2 + 1) + p by omega, Nat.pow_add]
  exact Nat.mul_lt_mul_of_pos_right b hp

theorem LL_zero : LL 0 = 1926 := by unfold LL; rw [Nat.log2_zero]; omega
theorem rung_zero : rung 0 = 0 := by
  unfold rung
  rw [LL_zero, Nat.sub_self, Nat.zero_mul, rne_small 0 1926 (Nat.two_pow_pos 1926)]
  omega
theorem dl : double.leastPlace = -1074 := by decide
theorem db : double.binade = BIN := by decide
theorem di : double.infRung = INF := by decide
theorem df : double.fractionBits = 52 := rfl
theorem ds : double.signWeight = 9223372036854775808 := by decide

theorem nearest_eq (neg : Bool) (mag : Nat) (place : Int) (hp : -3000 ≤ place) : double.nearest neg mag place = double.word neg (rung (V mag place)) := by
  unfold Format.nearest
  by_cases h0 : mag = 0
  · subst h0
    rw [if_pos rfl]
    have : V 0 place = 0 := Nat.zero_mul _
    rw [this, rung_zero]
  · rw [if_neg h0, dl, db, di, df]
    refine congrArg (double.word neg) ?_
    simp only [Nat.shiftLeft_eq, cut_eq]
    obtain ⟨p, hpe⟩ : ∃ p : Nat, place + 3000 = p := ⟨(place + 3000).toNat, by omega⟩
    have hN : V mag place = mag * 2 ^ p := by unfold V; rw [hpe]; rfl
    have hlog := log2_scale mag p h0
    unfold rung
    rw [hN]
    have hL : (LL (mag * 2 ^ p) : Int) = max (place + mag.log2 - (52 : Nat)) (-1074) + 3000 := by
      unfold LL; rw [hlog]; omega
    generalize LL (mag * 2 ^ p) = L at hL
    generalize max (place + (mag.log2 : Int) - (52 : Nat)) (-1074) = last at hL
    have e1 : (last - -1074).toNat = L - 1926 := by omega
    rw [e1]
    refine congrArg (fun k => min ((L - 1926) * BIN + k) INF) ?_
    by_cases hc : last ≤ place
    · have e2 : (last - place).toNat = 0 := by omega
      rw [e2, rne_zero_drop]
      have e3 : p = (place - last).toNat + L := by omega
      rw [e3, Nat.pow_add, ← Nat.mul_assoc, rne_exact]
    · have e2 : (place - last).toNat = 0 := by omega
      rw [e2, Nat.pow_zero, Nat.mul_one]
      have e3 : L = (last - place).toNat + p := by omega
      rw [e3, rne_scale]

theorem rne_mono (a b l : Nat) (h : a ≤ b) : rne a l ≤ rne b l := by
  unfold rne
  have hp : 0 < 2 ^ l := Nat.two_pow_pos l
  have h1 := Nat.div_add_mod a (2 ^ l)
  have h2 := Nat.div_add_mod b (2 ^ l)
  have h3 : a / 2 ^ l ≤ b / 2 ^ l := Nat.div_le_div_right h
  have h4 := Nat.mod_lt a hp
  have h5 := Nat.mod_lt b hp
  by_cases he : a / 2 ^ l = b / 2 ^ l
  · rw [he] at h1 ⊢
    have h6 : a % 2 ^ l ≤ b % 2 ^ l := by omega
    generalize a % 2 ^ l = x at *
    generalize b % 2 ^ l = y at *
    generalize b / 2 ^ l = q at *
    generalize 2 ^ l = z at *
    split <;> split <;> omega
  · split <;> split <;> omega
theorem rne_le (n l c : Nat) (h : n ≤ c * 2 ^ l) : rne n l ≤ c := by
  have := rne_mono _ _ l h
  rwa [rne_exact] at this
theorem le_rne (n l c : Nat) (h : c * 2 ^ l ≤ n) : c ≤ rne n l := by
  have := rne_mono _ _ l h
  rwa [rne_exact] at this

theorem lt_of_LL (N : Nat) : N < 2 ^ (LL N + 53) := by
  have b : N < 2 ^ (N.log2 + 1) := Nat.lt_log2_self
  refine Nat.lt_of_lt_of_le b (Nat.pow_le_pow_right (by omega) ?_)
  unfold LL; omega
theorem le_of_LL (N : Nat) (h : 1926 < LL N) : 2 ^ (LL N + 52) ≤ N := by
  have h1 : LL N = N.log2 - 52 := by unfold LL at h ⊢; omega
  have h0 : N ≠ 0 := by
    intro e; subst e; unfold LL at h; simp [Nat.log2_zero] at h
  have := Nat.log2_self_le h0
  rw [show LL N + 52 = N.log2 by omega]
  exact this
theorem two52 : (2 : Nat) ^ 52 = BIN := by decide
theorem two53 : (2 : Nat) ^ 53 = 2 * BIN := by decide
theorem rne_LL_le (N : Nat) : rne N (LL N) ≤ 2 * BIN := by
  refine rne_le _ _ _ ?_
  rw [← two53, ← Nat.pow_add, Nat.add_comm]
  exact Nat.le_of_lt (lt_of_LL N)
theorem le_rne_LL (N : Nat) (h : 1926 < LL N) : BIN ≤ rne N (LL N) := by
  refine le_rne _ _ _ ?_
  rw [← two52, ← Nat.pow_add, Nat.add_comm]
  exact le_of_LL N h
theorem log2_mono {a b : Nat} (h : a ≤ b) : a.log2 ≤ b.log2 := by
  by_cases ha : a = 0
  · subst ha; rw [Nat.log2_zero]; omega
  · have hb : b ≠ 0 := by omega
    rw [Nat.le_log2 hb]
    exact Nat.le_trans (Nat.log2_self_le ha) h
theorem LL_mono {a b : Nat} (h : a ≤ b) : LL a ≤ LL b := by
  have := log2_mono h
  unfold LL; omega
theorem LL_ge (N : Nat) : 1926 ≤ LL N := by unfold LL; omega

theorem rung_mono {a b : Nat} (h : a ≤ b) : rung a ≤ rung b := by
  unfold rung
  have hl := LL_mono h
  have ga := LL_ge a
  by_cases he : LL a = LL b
  · have := rne_mono a b (LL b) h
    rw [he]
    omega
  · have h1 := rne_LL_le a
    have h2 := le_rne_LL b (by omega)
    obtain ⟨d, hd⟩ : ∃ d, LL b - 1926 = (LL a - 1926) + 1 + d := ⟨LL b - LL a - 1, by omega⟩
    rw [hd, Nat.add_mul, Nat.add_mul, Nat.one_mul]
    generalize (LL a - 1926) * BIN = x
    generalize d * BIN = y
    generalize rne a (LL a) = u at h1
    generalize rne b (LL b) = v at h2
    have h3 : x + u ≤ x + BIN + y + v := by
      clear he hl ga hd h
      generalize BIN = B at *
      omega
    exact Nat.le_min.2 ⟨Nat.le_trans (Nat.min_le_left _ _) h3, Nat.min_le_right _ _⟩

/-- What a rung stands for. -/
def mg (r : Nat) : Nat := if r < BIN then r else BIN + r % BIN
def sh (r : Nat) : Nat := 1926 + (r / BIN - 1)
def val (r : Nat) : Nat := mg r * 2 ^ sh r

theorem mg_lt (r : Nat) : mg r < 2 * BIN := by
  have hB : BIN = 4503599627370496 := rfl
  unfold mg
  split <;> rw [hB] at * <;> omega

theorem val_mono {a b : Nat} (h : a ≤ b) : val a ≤ val b := by
  have hB : BIN = 4503599627370496 := rfl
  unfold val
  by_cases he : sh a = sh b
  · rw [he]
    refine Nat.mul_le_mul_right _ ?_
    unfold sh at he; unfold mg; rw [hB] at *
    split <;> split <;> omega
  · have hs : sh a + 1 ≤ sh b := by unfold sh at *; rw [hB] at *; omega
    have h1 := mg_lt a
    have h2 : BIN ≤ mg b := by unfold mg; unfold sh at *; rw [hB] at *; split <;> omega
    calc mg a * 2 ^ sh a ≤ (2 * BIN) * 2 ^ sh a := Nat.mul_le_mul_right _ (by omega)
      _ = BIN * 2 ^ (sh a + 1) := by rw [Nat.pow_succ, Nat.mul_comm 2 BIN, Nat.mul_assoc, Nat.mul_comm 2]
      _ ≤ mg b * 2 ^ sh b := Nat.mul_le_mul h2 (Nat.pow_le_pow_right (by omega) hs)

theorem val_zero : val 0 = 0 := by
  have : mg 0 = 0 := by decide
  unfold val; rw [this, Nat.zero_mul]

theorem rung_fin (b q : Nat) (hb : b < 2 * BIN) (hq : q ≤ 3900) : rung (b * 2 ^ q) < INF := by
  have hB : BIN = 4503599627370496 := rfl
  have hI : INF = 9218868437227405312 := rfl
  by_cases h0 : b = 0
  · subst h0; rw [Nat.zero_mul, rung_zero, hI]; omega
  · have hl := log2_scale b q h0
    have h52 : b.log2 < 53 := by rw [Nat.log2_lt h0, two53]; exact hb
    have : LL (b * 2 ^ q) ≤ 3900 := by unfold LL; rw [hl]; omega
    have h1 := rne_LL_le (b * 2 ^ q)
    unfold rung
    generalize rne (b * 2 ^ q) (LL (b * 2 ^ q)) = y at *
    generalize LL (b * 2 ^ q) = x at *
    rw [hB] at *; rw [hI]
    omega

theorem val_rung (n p : Nat) (hn : n < 2 * BIN) (hp : 1926 ≤ p) (hq : p ≤ 3900) : val (rung (n * 2 ^ p)) = n * 2 ^ p := by
  have hB : BIN = 4503599627370496 := rfl
  have hI : INF = 9218868437227405312 := rfl
  by_cases h0 : n = 0
  · subst h0; rw [Nat.zero_mul, rung_zero, val_zero]
  · have hl := log2_scale n p h0
    have h52 : n.log2 < 53 := by rw [Nat.log2_lt h0, two53]; exact hn
    have hfin := rung_fin n p hn hq
    have hLp : LL (n * 2 ^ p) ≤ p := by unfold LL; rw [hl]; omega
    obtain ⟨d, hd⟩ : ∃ d, p = d + LL (n * 2 ^ p) := ⟨p - LL (n * 2 ^ p), by omega⟩
    have hlt := lt_of_LL (n * 2 ^ p)
    have hge := le_of_LL (n * 2 ^ p)
    have hL := LL_ge (n * 2 ^ p)
    unfold rung at hfin ⊢
    generalize LL (n * 2 ^ p) = L at *
    have hpos : 0 < 2 ^ L := Nat.two_pow_pos L
    have hK : n * 2 ^ p = (n * 2 ^ d) * 2 ^ L := by rw [hd, Nat.pow_add, Nat.mul_assoc]
    rw [hK] at hlt hge hfin ⊢
    rw [rne_exact] at hfin ⊢
    generalize n * 2 ^ d = K at *
    have hKlt : K < 2 * BIN := by
      rw [Nat.pow_add, Nat.mul_comm (2 ^ L), two53] at hlt
      exact Nat.lt_of_mul_lt_mul_right hlt
    have hmin : min ((L - 1926) * BIN + K) INF = (L - 1926) * BIN + K := by omega
    rw [hmin]
    by_cases hc : L = 1926
    · rw [show (L - 1926) * BIN + K = K by rw [hc, Nat.sub_self, Nat.zero_mul, Nat.zero_add]]
      have h1 : sh K = L := by unfold sh; rw [hB] at *; omega
      have h2 : mg K = K := by
        unfold mg
        split
        · rfl
        · rw [hB] at *; omega
      unfold val
      rw [h1, h2]
    · have hKge : BIN ≤ K := by
        have := hge (by omega)
        rw [Nat.pow_add, Nat.mul_comm (2 ^ L), two52] at this
        exact Nat.le_of_mul_le_mul_right this hpos
      unfold val mg sh
      have h1 : ((L - 1926) * BIN + K) / BIN = L - 1926 + 1 := by rw [hB] at *; omega
      have h2 : ((L - 1926) * BIN + K) % BIN = K - BIN := by rw [hB] at *; omega
      have h3 : ¬ ((L - 1926) * BIN + K < BIN) := by rw [hB] at *; omega
      rw [if_neg h3, h1, h2, show BIN + (K - BIN) = K by omega, show 1926 + (L - 1926 + 1 - 1) = L by omega]

/-- Between two numbers of 53 binary digits what is rounded stays between them. -/
theorem val_rung_le {N b q : Nat} (h : N ≤ b * 2 ^ q) (hb : b < 2 * BIN) (h1 : 1926 ≤ q) (h2 : q ≤ 3900) : val (rung N) ≤ b * 2 ^ q := by
  have := val_mono (rung_mono h)
  rwa [val_rung b q hb h1 h2] at this
theorem le_val_rung {N b q : Nat} (h : b * 2 ^ q ≤ N) (hb : b < 2 * BIN) (h1 : 1926 ≤ q) (h2 : q ≤ 3900) : b * 2 ^ q ≤ val (rung N) := by
  have := val_mono (rung_mono h)
  rwa [val_rung b q hb h1 h2] at this
theorem rung_lt_inf {N b q : Nat} (h : N ≤ b * 2 ^ q) (hb : b < 2 * BIN) (h2 : q ≤ 3900) : rung N < INF :=
  Nat.lt_of_le_of_lt (rung_mono h) (rung_fin b q hb h2)
/-- What is rounded is off by less than the last digit. -/
theorem val_rung_near {N q : Nat} (h : N < (2 * BIN - 1) * 2 ^ q) (h1 : 1926 ≤ q) (h2 : q ≤ 3900) : val (rung N) ≤ N + 2 ^ q ∧ N ≤ val (rung N) + 2 ^ q := by
  have hp : 0 < 2 ^ q := Nat.two_pow_pos q
  have hd : N / 2 ^ q < 2 * BIN - 1 := (Nat.div_lt_iff_lt_mul hp).2 h
  have e := Nat.div_add_mod N (2 ^ q)
  have m := Nat.mod_lt N hp
  have a : N / 2 ^ q * 2 ^ q ≤ N := Nat.div_mul_le_self _ _
  have b : N ≤ (N / 2 ^ q + 1) * 2 ^ q := by rw [Nat.add_mul, Nat.one_mul, Nat.mul_comm]; omega
  have c1 := le_val_rung a (Nat.lt_of_lt_of_le hd (Nat.sub_le _ _)) h1 h2
  have c2 := val_rung_le b (Nat.add_lt_of_lt_sub hd) h1 h2
  rw [Nat.add_mul, Nat.one_mul] at c2 b
  generalize N / 2 ^ q * 2 ^ q = x at *
  generalize 2 ^ q = z at *
  omega
end Fl
end Go.Proofs.Ytjblckljbgelaab
