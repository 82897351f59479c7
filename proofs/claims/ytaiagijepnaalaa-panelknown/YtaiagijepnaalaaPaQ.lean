/-
  What holds of all that is shown: Top, Tone, what sounds, what is shown; what one state changes; to show no less is an order.
-/
import Derived.Test.YtaiagijepnaalaaPaP
namespace Go.Proofs.Ytaiagijepnaalaa
theorem sgOf_ways (x : As) : (sgOf x = Sg.zero) ∨ ((sgOf x).sh = true ∧ 1 ≤ (sgOf x).pr ∧ (sgOf x).pr ≤ 3) := by
  unfold sgOf
  by_cases h : x.Shown
  · rw [if_pos h]
    exact .inr ⟨rfl, h.2.1, h.2.2.1⟩
  · rw [if_neg h]
    exact .inl rfl
/-- What a signal of a state is like. -/
def Sg.Fine (x : Sg) : Prop := (x.so = true → x.sh = true) ∧ x.sh = decide (0 < x.pr) ∧ 0 ≤ x.pr ∧ x.pr ≤ 3
theorem Sg.Fine.zero : Sg.zero.Fine := ⟨fun h => (by cases h), rfl, by decide, by decide⟩
theorem sgOf_fine (x : As) : (sgOf x).Fine := by
  rcases sgOf_ways x with h | ⟨h1, h2, h3⟩
  · rw [h]; exact Sg.Fine.zero
  · exact ⟨fun _ => h1, by rw [h1, decide_eq_true (by omega)], by omega, h3⟩
theorem sgAt_getD (l : List As) {n i : Nat} (hn : n ≤ 26) (hi : i < 26) : (sgAt l n).getD i Sg.zero = if i < n then sgOf (l.getD i As.zero) else Sg.zero := by
  rw [List.getD_eq_getElem?_getD, sgAt_at l n hn i hi]
  rfl
theorem sgAt_fine (l : List As) {n i : Nat} (hn : n ≤ 26) (hi : i < 26) : ((sgAt l n).getD i Sg.zero).Fine := by
  rw [sgAt_getD l hn hi]
  split
  · exact sgOf_fine _
  · exact Sg.Fine.zero
theorem top_bound (l : List As) : ∀ j, 0 ≤ topAt l j ∧ topAt l j ≤ 3
  | 0 => ⟨Int.le_refl _, (by decide : (0 : Int) ≤ 3)⟩
  | j + 1 => by
    have h1 := top_bound l j
    have h2 := sgOf_fine (l.getD j As.zero)
    unfold topAt
    have := h2.2.2.1
    have := h2.2.2.2
    omega
theorem tone_bound (l : List As) : ∀ j, 0 ≤ toneAt l j ∧ toneAt l j ≤ topAt l j
  | 0 => ⟨Int.le_refl _, Int.le_refl _⟩
  | j + 1 => by
    have h1 := tone_bound l j
    unfold toneAt topAt
    split <;> omega
/-- The greatest priority of the first j signals; of those that sound; whether one is shown. -/
def topV (s : List Sg) : Nat → Int
  | 0 => 0
  | j + 1 => max (topV s j) (s.getD j Sg.zero).pr
def toneV (s : List Sg) : Nat → Int
  | 0 => 0
  | j + 1 => if (s.getD j Sg.zero).so = true then max (toneV s j) (s.getD j Sg.zero).pr else toneV s j
def anyV (s : List Sg) : Nat → Bool
  | 0 => false
  | j + 1 => anyV s j || (s.getD j Sg.zero).sh
theorem topV_at (l : List As) {n : Nat} (hn : n ≤ 26) : ∀ j, j ≤ 26 → topV (sgAt l n) j = topAt l (min j n)
  | 0, _ => by rw [Nat.zero_min]; rfl
  | j + 1, hj => by
    unfold topV
    rw [topV_at l hn j (by omega), sgAt_getD l hn (by omega)]
    by_cases h : j < n
    · rw [if_pos h, show min j n = j by omega, show min (j + 1) n = j + 1 by omega]
      rfl
    · rw [if_neg h, show min j n = n by omega, show min (j + 1) n = n by omega]
      have := (top_bound l n).1
      show max (topAt l n) 0 = topAt l n
      omega
theorem toneV_at (l : List As) {n : Nat} (hn : n ≤ 26) : ∀ j, j ≤ 26 → toneV (sgAt l n) j = toneAt l (min j n)
  | 0, _ => by rw [Nat.zero_min]; rfl
  | j + 1, hj => by
    unfold toneV
    rw [toneV_at l hn j (by omega), sgAt_getD l hn (by omega)]
    by_cases h : j < n
    · rw [if_pos h, show min j n = j by omega, show min (j + 1) n = j + 1 by omega]
      rfl
    · rw [if_neg h, show min j n = n by omega, show min (j + 1) n = n by omega]
      rfl
theorem anyV_at (s : List Sg) (hs : ∀ i, i < 26 → (s.getD i Sg.zero).Fine) : ∀ j, j ≤ 26 → anyV s j = decide (0 < topV s j) ∧ 0 ≤ topV s j
  | 0, _ => ⟨rfl, Int.le_refl _⟩
  | j + 1, hj => by
    obtain ⟨h1, h2⟩ := anyV_at s hs j (by omega)
    have h3 := hs j (by omega)
    unfold anyV topV
    rw [h1, h3.2.1]
    have := h3.2.2.1
    refine ⟨?_, by omega⟩
    by_cases c1 : 0 < topV s j <;> by_cases c2 : 0 < (s.getD j Sg.zero).pr <;> simp [c1] <;> omega
theorem anyV_end (l : List As) {n : Nat} (hn : n ≤ 26) : anyV (sgAt l n) 26 = decide (0 < topAt l n) := by
  rw [(anyV_at (sgAt l n) (fun i hi => sgAt_fine l hn hi) 26 (Nat.le_refl _)).1, topV_at l hn 26 (Nat.le_refl _), show min 26 n = n by omega]
/-- To show no less is an order. -/
theorem gvS_refl (x : Sg) : gvS x x = true := by
  unfold gvS
  cases x.sh <;> simp
theorem gvS_trans {x y z : Sg} (h1 : gvS x y = true) (h2 : gvS y z = true) : gvS x z = true := by
  obtain ⟨xs, xo, xp⟩ := x
  obtain ⟨ys, yo, yp⟩ := y
  obtain ⟨zs, zo, zp⟩ := z
  unfold gvS at *
  cases xs <;> cases ys <;> cases zs <;> simp_all
  omega
theorem grv_refl (v : Vec) : grv v v = true := by
  unfold grv
  rw [(gvN_iff v.sg v.sg 26).2 (fun i _ => gvS_refl _), Bool.or_true]
theorem grv_trans {x y z : Vec} (hx : x.fl = false) (hy : y.fl = false) (h1 : grv x y = true) (h2 : grv y z = true) : grv x z = true := by
  unfold grv at *
  rw [hx, Bool.false_or] at h1
  rw [hy, Bool.false_or] at h2
  rw [hx, Bool.false_or]
  exact (gvN_iff _ _ 26).2 (fun i hi => gvS_trans ((gvN_iff _ _ 26).1 h1 i hi) ((gvN_iff _ _ 26).1 h2 i hi))
theorem topV_mono {s t : List Sg} (hs : ∀ i, i < 26 → (s.getD i Sg.zero).Fine) (ht : ∀ i, i < 26 → (t.getD i Sg.zero).Fine) (h : gvN s t 26 = true) : ∀ j, j ≤ 26 → topV t j ≤ topV s j
  | 0, _ => Int.le_refl _
  | j + 1, hj => by
    have ih := topV_mono hs ht h j (by omega)
    have h1 := hs j (by omega)
    have h2 := ht j (by omega)
    have h3 := (gvN_iff _ _ 26).1 h j (by omega)
    have h4 := (anyV_at s hs j (by omega)).2
    unfold topV
    generalize s.getD j Sg.zero = x at *
    generalize t.getD j Sg.zero = y at *
    have : y.pr ≤ x.pr := by
      obtain ⟨xs, xo, xp⟩ := x
      obtain ⟨ys, yo, yp⟩ := y
      unfold gvS at h3
      obtain ⟨_, a1, a2, a3⟩ := h1
      obtain ⟨_, b1, b2, b3⟩ := h2
      dsimp only at *
      cases ys
      · have : ¬ 0 < yp := of_decide_eq_false b1.symm
        omega
      · simp at h3
        exact h3.2
    omega
theorem top_mono {a b : List As} {n m : Nat} (hn : n ≤ 26) (hm : m ≤ 26) (h : gvN (sgAt a n) (sgAt b m) 26 = true) : topAt b m ≤ topAt a n := by
  have := topV_mono (fun i hi => sgAt_fine a hn hi) (fun i hi => sgAt_fine b hm hi) h 26 (Nat.le_refl _)
  rw [topV_at a hn 26 (Nat.le_refl _), topV_at b hm 26 (Nat.le_refl _), show min 26 n = n by omega, show min 26 m = m by omega] at this
  exact this
/-- One state changes its own condition's signal alone. -/
theorem sgAt_apart (l : List As) {n i : Nat} (s : As) (hn : n ≤ 26) (hi : i < n) (_hl : l.length = n) : (sgAt (l.set i s) n).set i (sgOf (l.getD i As.zero)) = sgAt l n := by
  apply List.ext_getElem?
  intro j
  rcases Nat.lt_or_ge j 26 with hj | hj
  · rw [List.getElem?_set, sgAt_at l n hn j hj, sgAt_at (l.set i s) n hn j hj]
    by_cases e : i = j
    · subst e
      rw [if_pos rfl, if_pos (by rw [sgAt_length]; omega), if_pos hi]
    · rw [if_neg e]
      congr 2
      rw [List.getD_eq_getElem?_getD, List.getD_eq_getElem?_getD, List.getElem?_set_ne e]
  · rw [List.getElem?_eq_none (by rw [List.length_set, sgAt_length]; omega), List.getElem?_eq_none (by rw [sgAt_length]; omega)]
end Go.Proofs.Ytaiagijepnaalaa
