/-
  Ticks that rise, the ticks that are taken, the rate of some of them: over lists alone.
-/
import Derived.Test.YtgapnimicaopcaaGreatAvP
namespace Go.Proofs.YtgapnimicaopcaaGreat.L12
set_option maxRecDepth 8000
/-- Ticks that rise, within bounds. -/
structure Rise (l : List Int) : Prop where
  lo : ∀ i, i < l.length → 0 ≤ l.getD i 0
  hi : ∀ i, i < l.length → l.getD i 0 ≤ 2147483647
  up : ∀ i, i + 1 < l.length → l.getD i 0 < l.getD (i + 1) 0
theorem Rise.nil : Rise [] := ⟨fun i h => absurd h (by simp), fun i h => absurd h (by simp), fun i h => absurd h (by simp)⟩
theorem Rise.far {l : List Int} (h : Rise l) (k i : Nat) (hk : i + k < l.length) : l.getD i 0 + (k : Int) ≤ l.getD (i + k) 0 := by
  induction k with
  | zero => simp
  | succ k ih =>
    have h1 := ih (by omega)
    have h2 := h.up (i + k) (by omega)
    rw [show i + (k + 1) = i + k + 1 by omega]
    omega
theorem Rise.drop {l : List Int} (h : Rise l) (k : Nat) : Rise (l.drop k) := by
  have hl : (l.drop k).length = l.length - k := List.length_drop
  refine ⟨fun i hi => ?_, fun i hi => ?_, fun i hi => ?_⟩
  · rw [getD_drop]; exact h.lo _ (by omega)
  · rw [getD_drop]; exact h.hi _ (by omega)
  · rw [getD_drop, getD_drop]; exact h.up (k + i) (by omega)
theorem Rise.take {l : List Int} (h : Rise l) (k : Nat) : Rise (l.take k) := by
  have hl : (l.take k).length = min k l.length := List.length_take
  refine ⟨fun i hi => ?_, fun i hi => ?_, fun i hi => ?_⟩
  · rw [getD_take _ (by omega)]; exact h.lo _ (by omega)
  · rw [getD_take _ (by omega)]; exact h.hi _ (by omega)
  · rw [getD_take _ (by omega), getD_take _ (by omega)]; exact h.up i (by omega)
theorem snoc_lt {l : List Int} {t : Int} {i : Nat} (h : i < l.length) : (l ++ [t]).getD i 0 = l.getD i 0 := by
  simp [List.getD_eq_getElem?_getD, List.getElem?_append_left h]
theorem snoc_eq (l : List Int) (t : Int) : (l ++ [t]).getD l.length 0 = t := by
  simp [List.getD_eq_getElem?_getD]
/-- The first tick that may follow. -/
def ear (l : List Int) : Int := if l.length = 0 then 0 else l.getD (l.length - 1) 0 + 1
/-- A tick that may follow. -/
def Fol (l : List Int) (t : Int) : Prop := ear l ≤ t ∧ t ≤ 2147483647
theorem ear_le {l : List Int} (h : Rise l) : 0 ≤ ear l ∧ ear l ≤ 2147483648 := by
  unfold ear
  split
  · omega
  · have h1 := h.lo (l.length - 1) (by omega)
    have h2 := h.hi (l.length - 1) (by omega)
    omega
theorem Rise.snoc {l : List Int} {t : Int} (h : Rise l) (ht : Fol l t) : Rise (l ++ [t]) := by
  have hl : (l ++ [t]).length = l.length + 1 := by simp
  obtain ⟨h1, h2⟩ := ht
  have h0 := ear_le h
  refine ⟨fun i hi => ?_, fun i hi => ?_, fun i hi => ?_⟩
  · rcases Nat.lt_or_ge i l.length with e | e
    · rw [snoc_lt e]; exact h.lo i e
    · obtain rfl : i = l.length := by omega
      rw [snoc_eq]; omega
  · rcases Nat.lt_or_ge i l.length with e | e
    · rw [snoc_lt e]; exact h.hi i e
    · obtain rfl : i = l.length := by omega
      rw [snoc_eq]; omega
  · rw [snoc_lt (by omega)]
    rcases Nat.lt_or_ge (i + 1) l.length with e | e
    · rw [snoc_lt e]; exact h.up i e
    · have e2 : i + 1 = l.length := by omega
      rw [e2, snoc_eq]
      unfold ear at h1
      rw [if_neg (by omega), show l.length - 1 = i by omega] at h1
      omega
theorem ear_last {n : Nat} (hn : 0 < n) (l : List Int) : ear (lastN n l) = ear l := by
  have hl := lastN_length n l
  unfold ear
  by_cases h : l.length = 0
  · rw [if_pos (by omega), if_pos h]
  · rw [if_neg (by omega), if_neg h, hl]
    unfold lastN
    rw [getD_drop, show l.length - n + (min n l.length - 1) = l.length - 1 by omega]
/-- What is kept if there is one more. -/
def kp (n : Nat) (s : List Int) : List Int := s.drop (s.length + 1 - n)
theorem last_kp {n : Nat} (hn : 0 < n) (l : List Int) (t : Int) : lastN n (l ++ [t]) = kp n (lastN n l) ++ [t] := by
  have hl := lastN_length n l
  unfold kp
  rw [hl]
  unfold lastN
  rw [List.length_append, List.length_singleton, List.drop_drop, List.drop_append_of_le_length (by omega), show l.length - n + (min n l.length + 1 - n) = l.length + 1 - n by omega]
theorem last_all {n : Nat} {l : List Int} (h : l.length ≤ n) : lastN n l = l := by
  unfold lastN
  rw [show l.length - n = 0 by omega]
  rfl
/-- The ticks that are taken. -/
def nxt (l : List Int) (t : Int) : List Int := if ear l ≤ t ∧ t ≤ 2147483647 then l ++ [t] else l
def errT (l : List Int) (t : Int) : Int := if ear l ≤ t ∧ t ≤ 2147483647 then 0 else 9
theorem nxt_yes {l : List Int} {t : Int} (h : Fol l t) : nxt l t = l ++ [t] ∧ errT l t = 0 := by
  unfold nxt errT
  exact ⟨if_pos h, if_pos h⟩
theorem nxt_no {l : List Int} {t : Int} (h : ¬ Fol l t) : nxt l t = l ∧ errT l t = 9 := by
  unfold nxt errT
  exact ⟨if_neg h, if_neg h⟩
theorem nxt_rise {l : List Int} (h : Rise l) (t : Int) : Rise (nxt l t) := by
  by_cases hf : Fol l t
  · rw [(nxt_yes hf).1]; exact h.snoc hf
  · rw [(nxt_no hf).1]; exact h
theorem nxt_length (l : List Int) (t : Int) : (nxt l t).length ≤ l.length + 1 := by
  unfold nxt
  split
  · simp
  · omega
def tkn (zs : List Int) : Nat → List Int
  | 0 => []
  | j + 1 => nxt (tkn zs j) (zs.getD j 0)
theorem tkn_succ (zs : List Int) (j : Nat) : tkn zs (j + 1) = nxt (tkn zs j) (zs.getD j 0) := rfl
theorem tkn_rise (zs : List Int) (j : Nat) : Rise (tkn zs j) := by
  induction j with
  | zero => exact Rise.nil
  | succ j ih => exact nxt_rise ih _
theorem tkn_length (zs : List Int) (j : Nat) : (tkn zs j).length ≤ j := by
  induction j with
  | zero => exact Nat.le_refl _
  | succ j ih =>
    have := nxt_length (tkn zs j) (zs.getD j 0)
    rw [tkn_succ]
    omega
/-- Of ticks that rise all are taken. -/
theorem Rise.fol {l : List Int} (h : Rise l) {j : Nat} (hj : j < l.length) : Fol (l.take j) (l.getD j 0) := by
  have hl : (l.take j).length = j := by rw [List.length_take]; omega
  refine ⟨?_, h.hi j hj⟩
  unfold ear
  rw [hl]
  split
  · exact h.lo j hj
  · rw [getD_take _ (by omega)]
    have := h.up (j - 1) (by omega)
    rw [show j - 1 + 1 = j by omega] at this
    omega
theorem take_snoc {l : List Int} {j : Nat} (hj : j < l.length) : l.take (j + 1) = l.take j ++ [l.getD j 0] := by
  rw [List.take_succ_eq_append_getElem hj, getD_at hj]
/-- A rate: of g distances that are d together. -/
def rd (g d : Int) : Int := (1200000 * g + d) / (2 * d)
def rt (l : List Int) : Int := rd ((l.length - 1 : Nat) : Int) (l.getD (l.length - 1) 0 - l.getD 0 0)
def rv (l : List Int) : Int := if l.length < 2 then 0 else rt l
def ris (l : List Int) : Bool := decide (2 ≤ l.length)
theorem Rise.long {l : List Int} (h : Rise l) (hl : 2 ≤ l.length) : ((l.length - 1 : Nat) : Int) ≤ l.getD (l.length - 1) 0 - l.getD 0 0 ∧ l.getD (l.length - 1) 0 - l.getD 0 0 ≤ 2147483647 := by
  have h1 := h.far (l.length - 1) 0 (by omega)
  have h2 := h.lo 0 (by omega)
  have h3 := h.hi (l.length - 1) (by omega)
  rw [Nat.zero_add] at h1
  omega
theorem rd_near (g : Int) (d : Nat) (hg : 0 ≤ g) : near (600000 * g) d = rd g (d : Int) := by
  unfold near rd
  rw [if_neg (by omega), show 2 * (600000 * g) = 1200000 * g by omega]
theorem rd_in {g : Int} {d : Nat} (hg : 0 ≤ g) (hg2 : g ≤ 7) (hd : 0 < d) : 0 ≤ rd g (d : Int) ∧ rd g (d : Int) ≤ 4200000 := by
  rw [← rd_near g d hg]
  refine near_between hd (by omega) ?_
  have : (1 : Int) ≤ (d : Int) := by omega
  omega
end Go.Proofs.YtgapnimicaopcaaGreat.L12
