/-
  A number that follows others slowly, over lists alone.
-/
import Derived.Test.YtgapnimicaopcaaGreatAvP
namespace Go.Proofs.YtgapnimicaopcaaGreat.L11
set_option maxRecDepth 8000
theorem near_k (s : Int) : near s 1000 = if s < 0 then -((-2 * s + 1000) / 2000) else (2 * s + 1000) / 2000 := by
  unfold near
  rfl
/-- A part of a difference, rounded. -/
def stp (p : Nat) (d : Int) : Int := near ((p : Int) * d) 1000
/-- Where it is behind one more number. -/
def nx (p : Nat) (y v : Int) : Int := y + stp p (v - y)
def nxo (p : Nat) (o : Option Int) (v : Int) : Int := match o with
  | none => v
  | some y => nx p y v
/-- Where it is behind some numbers. -/
def slo (p : Nat) (L : List Int) : Option Int := L.foldl (fun o v => some (nxo p o v)) none
theorem slo_snoc (p : Nat) (L : List Int) (v : Int) : slo p (L ++ [v]) = some (nxo p (slo p L) v) := by
  unfold slo
  rw [List.foldl_append]
  rfl
theorem slo_nil (p : Nat) : slo p [] = none := rfl
theorem slo_some {p : Nat} {L : List Int} (h : 0 < L.length) : ∃ y, slo p L = some y := by
  obtain ⟨r, x, rfl⟩ : ∃ r x, L = r ++ [x] := ⟨L.dropLast, L.getLast (by intro e; rw [e] at h; simp at h), (List.dropLast_concat_getLast _).symm⟩
  exact ⟨_, slo_snoc p r x⟩
/-- A product of a part and a difference. -/
theorem mul_in {p : Nat} {d m : Int} (hp : p ≤ 1000) (h1 : -m ≤ d) (h2 : d ≤ m) : -(1000 * m) ≤ (p : Int) * d ∧ (p : Int) * d ≤ 1000 * m := by
  have h3 : (p : Int) * m ≤ 1000 * m := Int.mul_le_mul_of_nonneg_right (by omega) (by omega)
  have h4 := Int.mul_le_mul_of_nonneg_left h2 (show (0 : Int) ≤ (p : Int) by omega)
  have h5 := Int.mul_le_mul_of_nonneg_left h1 (show (0 : Int) ≤ (p : Int) by omega)
  rw [Int.mul_neg] at h5
  omega
theorem stp_neg (p : Nat) (d : Int) : stp p (-d) = - stp p d := by
  unfold stp
  rw [Int.mul_neg, near_neg _ _ (by omega)]
theorem stp_zero (p : Nat) : stp p 0 = 0 := by
  unfold stp
  rw [Int.mul_zero]
  exact near_zero 1000 (by omega)
/-- The part of whole thousands, and the rest's, rounded. -/
theorem stp_up (p : Nat) {d : Int} (h : 0 ≤ d) : (p : Int) * (d / 1000) + near ((p : Int) * (d % 1000)) 1000 = stp p d := by
  unfold stp
  have h1 := Int.mul_ediv_add_emod d 1000
  have h2 := Int.emod_nonneg d (show (1000 : Int) ≠ 0 by omega)
  have h0 := Int.ediv_nonneg h (show (0 : Int) ≤ 1000 by omega)
  generalize d / 1000 = q at *
  generalize d % 1000 = r at *
  have h3 : (p : Int) * d = (p : Int) * r + 1000 * ((p : Int) * q) := by
    rw [← h1, Int.mul_add]
    have : (p : Int) * (1000 * q) = 1000 * ((p : Int) * q) := by rw [← Int.mul_assoc, Int.mul_comm (p : Int) 1000, Int.mul_assoc]
    omega
  have h4 : 0 ≤ (p : Int) * q := Int.mul_nonneg (by omega) h0
  have h5 : 0 ≤ (p : Int) * r := Int.mul_nonneg (by omega) h2
  rw [h3, near_k, near_k]
  generalize (p : Int) * q = Q at *
  generalize (p : Int) * r = R at *
  rw [if_neg (by omega), if_neg (by omega)]
  omega
theorem stp_go (p : Nat) (d : Int) : (p : Int) * (d.tdiv 1000) + near ((p : Int) * (d.tmod 1000)) 1000 = stp p d := by
  by_cases h : 0 ≤ d
  · rw [Int.tdiv_eq_ediv_of_nonneg h, Int.tmod_eq_emod_of_nonneg h, stp_up p h]
  · obtain ⟨t, rfl⟩ : ∃ t, d = -t := ⟨-d, by omega⟩
    rw [Int.neg_tdiv, Int.neg_tmod, stp_neg, Int.mul_neg, Int.mul_neg, near_neg _ _ (by omega), Int.tdiv_eq_ediv_of_nonneg (by omega), Int.tmod_eq_emod_of_nonneg (by omega), ← stp_up p (show 0 ≤ t by omega)]
    omega
/-- It never goes beyond. -/
theorem stp_in {p : Nat} {d : Int} (hp : p ≤ 1000) (h : 0 ≤ d) : 0 ≤ stp p d ∧ stp p d ≤ d := by
  unfold stp
  refine near_between (by omega) ?_ ?_
  · have := Int.mul_nonneg (show (0 : Int) ≤ (p : Int) by omega) h
    omega
  · exact Int.mul_le_mul_of_nonneg_right (by omega) h
theorem nx_in {p : Nat} (hp : p ≤ 1000) (y v : Int) : min y v ≤ nx p y v ∧ nx p y v ≤ max y v := by
  unfold nx
  by_cases h : 0 ≤ v - y
  · have := stp_in hp h
    omega
  · have h1 := stp_in hp (show 0 ≤ -(v - y) by omega)
    rw [stp_neg] at h1
    omega
/-- It stays where it is just if the part rounds to nothing. -/
theorem nx_stay (p : Nat) (y v : Int) : nx p y v = y ↔ -500 < (p : Int) * (v - y) ∧ (p : Int) * (v - y) < 500 := by
  unfold nx stp
  rw [near_k]
  generalize (p : Int) * (v - y) = s
  split <;> omega
theorem nx_whole (y v : Int) : nx 1000 y v = v := by
  unfold nx stp
  rw [near_k]
  generalize hd : v - y = d
  have e : (((1000 : Nat) : Int)) * d = 1000 * d := rfl
  rw [e]
  split <;> omega
theorem nx_contrary (p : Nat) (y v : Int) : nx p (-y) (-v) = - nx p y v := by
  unfold nx
  rw [show -v - -y = -(v - y) by omega, stp_neg]
  omega
/-- Twice a thousand times the part lies within a thousand of it. -/
theorem stp_two (p : Nat) (d : Int) : -1000 ≤ 2 * (1000 * stp p d - (p : Int) * d) ∧ 2 * (1000 * stp p d - (p : Int) * d) ≤ 1000 := near_two ((p : Int) * d) (k := 1000) (by omega)
/-- How far from 0. -/
def ab (a : Int) : Int := max a (-a)
theorem nx_together {p : Nat} (hp : p ≤ 1000) (a b v : Int) : ab (nx p a v - nx p b v) ≤ ab (a - b) + 1 := by
  have h1 := stp_two p (v - a)
  have h2 := stp_two p (v - b)
  unfold nx
  have h3 : (p : Int) * (v - a) - (p : Int) * (v - b) = -((p : Int) * (a - b)) := by rw [← Int.mul_sub, ← Int.mul_neg]; congr 1; omega
  generalize stp p (v - a) = s at *
  generalize stp p (v - b) = t at *
  generalize (p : Int) * (v - a) = S at *
  generalize (p : Int) * (v - b) = T at *
  generalize hd : a - b = d at *
  have h4 : 0 ≤ d → 0 ≤ (p : Int) * d ∧ (p : Int) * d ≤ 1000 * d := fun h => ⟨Int.mul_nonneg (by omega) h, Int.mul_le_mul_of_nonneg_right (by omega) h⟩
  have h5 : d ≤ 0 → (p : Int) * d ≤ 0 ∧ 1000 * d ≤ (p : Int) * d := fun h => by
    have a1 : 0 ≤ (p : Int) * -d := Int.mul_nonneg (by omega) (by omega)
    have a2 : (p : Int) * -d ≤ 1000 * -d := Int.mul_le_mul_of_nonneg_right (by omega) (by omega)
    rw [Int.mul_neg] at a1 a2
    omega
  generalize (p : Int) * d = P at *
  unfold ab
  by_cases h : 0 ≤ d
  · have := h4 h
    omega
  · have := h5 (by omega)
    omega
/-- Where it is behind i + 1 of the numbers. -/
def slw (p : Nat) (zs : List Int) (i : Nat) : Int := (slo p (clamps (zs.take (i + 1)))).getD 0
def slws (p : Nat) (zs : List Int) (j : Nat) : List Int := (List.range j).map (slw p zs)
theorem slws_length (p : Nat) (zs : List Int) (j : Nat) : (slws p zs j).length = j := by simp [slws]
theorem slws_succ (p : Nat) (zs : List Int) (j : Nat) : slws p zs (j + 1) = slws p zs j ++ [slw p zs j] := by
  unfold slws
  rw [List.range_succ, List.map_append]
  rfl
theorem slws_at (p : Nat) (zs : List Int) {i j : Nat} (h : i < j) : (slws p zs j)[i]? = some (slw p zs i) := by
  simp [slws, h]
theorem slws_getD {p : Nat} {zs : List Int} {i j : Nat} (h : i < j) : (slws p zs j).getD i 0 = slw p zs i := by
  rw [List.getD_eq_getElem?_getD, slws_at p zs h]
  rfl
/-- Where it is ahead of the number at j. -/
def sla (p : Nat) (zs : List Int) (j : Nat) : Option Int := slo p (clamps (zs.take j))
theorem sla_zero (p : Nat) (zs : List Int) : sla p zs 0 = none := by simp [sla, clamps, slo]
theorem sla_succ (p : Nat) {zs : List Int} {j : Nat} (h : j < zs.length) : sla p zs (j + 1) = some (nxo p (sla p zs j) (clampZ (zs.getD j 0))) := by
  unfold sla
  rw [clamps_succ zs h, slo_snoc]
theorem sla_slw {p : Nat} {zs : List Int} {j : Nat} (h : j < zs.length) : sla p zs (j + 1) = some (slw p zs j) := by
  unfold slw
  show slo p (clamps (zs.take (j + 1))) = _
  rw [clamps_succ zs h, slo_snoc]
  rfl
theorem slw_nxo (p : Nat) {zs : List Int} {j : Nat} (h : j < zs.length) : slw p zs j = nxo p (sla p zs j) (clampZ (zs.getD j 0)) := by
  have := sla_slw (p := p) h
  rw [sla_succ p h] at this
  exact (Option.some.inj this).symm
theorem slw_zero (p : Nat) {zs : List Int} (h : 0 < zs.length) : slw p zs 0 = clampZ (zs.getD 0 0) := by
  rw [slw_nxo p h, sla_zero]
  rfl
theorem slw_succ (p : Nat) {zs : List Int} {j : Nat} (h : j + 1 < zs.length) : slw p zs (j + 1) = nx p (slw p zs j) (clampZ (zs.getD (j + 1) 0)) := by
  rw [slw_nxo p h, sla_slw (by omega)]
  rfl
theorem slw_fit {p : Nat} (hp : p ≤ 1000) {zs : List Int} {j : Nat} (h : j < zs.length) : -2147483647 ≤ slw p zs j ∧ slw p zs j ≤ 2147483647 := by
  induction j with
  | zero => rw [slw_zero p h]; exact clampZ_le _
  | succ j ih =>
    have h1 := ih (by omega)
    have h2 := clampZ_le (zs.getD (j + 1) 0)
    have h3 := nx_in hp (slw p zs j) (clampZ (zs.getD (j + 1) 0))
    rw [slw_succ p h]
    omega
theorem nx_fit {p : Nat} (hp : p ≤ 1000) {y v : Int} (h1 : -2147483647 ≤ y ∧ y ≤ 2147483647) (h2 : -2147483647 ≤ v ∧ v ≤ 2147483647) : -2147483647 ≤ nx p y v ∧ nx p y v ≤ 2147483647 := by
  have h3 := nx_in hp y v
  omega
theorem slw_whole {zs : List Int} {j : Nat} (h : j < zs.length) : slw 1000 zs j = clampZ (zs.getD j 0) := by
  rw [slw_nxo 1000 h]
  cases sla 1000 zs j with
  | none => rfl
  | some y => exact nx_whole y _
end Go.Proofs.YtgapnimicaopcaaGreat.L11
