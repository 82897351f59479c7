/-
  The median of some numbers, over lists alone: the one in the middle of them in rising order; it is told by counting; the last n numbers.
-/
import Derived.Test.YtgapnimicaopcaaGreatBase
namespace Go.Proofs.YtgapnimicaopcaaGreat.L9
set_option maxRecDepth 8000
/-- A number brought into bounds. -/
def clampZ (v : Int) : Int := min (max v (-2147483647)) 2147483647
theorem clampZ_le (v : Int) : -2147483647 ≤ clampZ v ∧ clampZ v ≤ 2147483647 := by unfold clampZ; omega
/-- In rising order. -/
def rise (xs : List Int) : List Int := xs.mergeSort (fun x y => decide (x ≤ y))
theorem rise_length (xs : List Int) : (rise xs).length = xs.length := List.length_mergeSort xs
theorem rise_perm (xs : List Int) : (rise xs).Perm xs := List.mergeSort_perm xs _
theorem rise_up (xs : List Int) : (rise xs).Pairwise (fun a b => a ≤ b) := by
  have h := List.pairwise_mergeSort (le := fun x y : Int => decide (x ≤ y)) (fun a b c h1 h2 => by simp at *; omega) (fun a b => by simp; omega) xs
  exact h.imp (fun h => by simpa using h)
theorem rise_same {xs ys : List Int} (h : xs.Perm ys) : rise xs = rise ys :=
  List.Perm.eq_of_pairwise (le := fun a b => a ≤ b) (fun a b _ _ h1 h2 => by omega) (rise_up xs) (rise_up ys) ((rise_perm xs).trans (h.trans (rise_perm ys).symm))
/-- The place in the middle. -/
def place (k : Nat) : Nat := (k - 1) / 2
/-- The median. -/
def mid (xs : List Int) : Int := (rise xs).getD (place xs.length) 0
theorem mid_same {xs ys : List Int} (h : xs.Perm ys) : mid xs = mid ys := by unfold mid; rw [rise_same h, h.length_eq]
theorem getD_at {xs : List Int} {p : Nat} (h : p < xs.length) : xs.getD p 0 = xs[p] := by simp [h]
theorem mid_mem {xs : List Int} (h : 0 < xs.length) : mid xs ∈ xs := by
  have hp : place xs.length < (rise xs).length := by rw [rise_length]; unfold place; omega
  unfold mid
  rw [getD_at hp]
  exact (rise_perm xs).mem_iff.1 (List.getElem_mem hp)
def less (x : Int) (xs : List Int) : Nat := xs.countP (fun y => decide (y < x))
def same (x : Int) (xs : List Int) : Nat := xs.countP (fun y => decide (y = x))
def noMore (x : Int) (xs : List Int) : Nat := xs.countP (fun y => decide (y ≤ x))
def noLess (x : Int) (xs : List Int) : Nat := xs.countP (fun y => decide (x ≤ y))
theorem less_same (x : Int) (xs : List Int) : less x xs + same x xs = noMore x xs := by
  unfold less same noMore
  induction xs with
  | nil => rfl
  | cons y r ih =>
    simp only [List.countP_cons]
    by_cases h1 : y < x
    · have h2 : ¬ y = x := by omega
      have h3 : y ≤ x := by omega
      simp [h1, h2, h3]; omega
    · by_cases h2 : y = x
      · subst h2
        simp; omega
      · have h3 : ¬ y ≤ x := by omega
        simp [h1, h2, h3]; omega
theorem less_noLess (x : Int) (xs : List Int) : less x xs + noLess x xs = xs.length := by
  unfold less noLess
  induction xs with
  | nil => rfl
  | cons y r ih =>
    simp only [List.countP_cons, List.length_cons]
    by_cases h1 : y < x
    · have h2 : ¬ x ≤ y := by omega
      simp [h1, h2]; omega
    · have h2 : x ≤ y := by omega
      simp [h1, h2]; omega
theorem up_at {ys : List Int} (h : ys.Pairwise (fun a b => a ≤ b)) {p : Nat} (hp : p < ys.length) : (∀ y ∈ ys.take (p + 1), y ≤ ys[p]) ∧ (∀ y ∈ ys.drop p, ys[p] ≤ y) := by
  rw [List.pairwise_iff_getElem] at h
  constructor
  · intro y hy
    obtain ⟨i, hi, rfl⟩ := List.mem_iff_getElem.1 hy
    rw [List.length_take] at hi
    rw [List.getElem_take]
    rcases Nat.lt_or_ge i p with h' | h'
    · exact h i p (by omega) hp h'
    · obtain rfl : i = p := by omega
      exact Int.le_refl _
  · intro y hy
    obtain ⟨i, hi, rfl⟩ := List.mem_iff_getElem.1 hy
    rw [List.length_drop] at hi
    rw [List.getElem_drop]
    rcases Nat.eq_zero_or_pos i with h' | h'
    · subst h'
      exact Int.le_refl _
    · exact h p (p + i) hp (by omega) (by omega)
theorem cnt_split (q : Int → Bool) (ys : List Int) (p : Nat) : ys.countP q = (ys.take p).countP q + (ys.drop p).countP q := by
  rw [← List.countP_append, List.take_append_drop]
theorem up_less {ys : List Int} (h : ys.Pairwise (fun a b => a ≤ b)) {p : Nat} (hp : p < ys.length) {x : Int} (hx : x ≤ ys[p]) : less x ys ≤ p := by
  unfold less
  rw [cnt_split _ ys p]
  have h1 : (ys.take p).countP (fun y => decide (y < x)) ≤ p := Nat.le_trans List.countP_le_length (by rw [List.length_take]; omega)
  have h2 : (ys.drop p).countP (fun y => decide (y < x)) = 0 := List.countP_eq_zero.2 (fun a ha => by have := (up_at h hp).2 a ha; simp; omega)
  omega
theorem up_less' {ys : List Int} (h : ys.Pairwise (fun a b => a ≤ b)) {p : Nat} (hp : p < ys.length) {x : Int} (hx : ys[p] < x) : p < less x ys := by
  unfold less
  rw [cnt_split _ ys (p + 1)]
  have h1 : (ys.take (p + 1)).countP (fun y => decide (y < x)) = (ys.take (p + 1)).length := List.countP_eq_length.2 (fun a ha => by have := (up_at h hp).1 a ha; simp; omega)
  rw [List.length_take] at h1
  omega
theorem up_more {ys : List Int} (h : ys.Pairwise (fun a b => a ≤ b)) {p : Nat} (hp : p < ys.length) {x : Int} (hx : ys[p] ≤ x) : p < noMore x ys := by
  unfold noMore
  rw [cnt_split _ ys (p + 1)]
  have h1 : (ys.take (p + 1)).countP (fun y => decide (y ≤ x)) = (ys.take (p + 1)).length := List.countP_eq_length.2 (fun a ha => by have := (up_at h hp).1 a ha; simp; omega)
  rw [List.length_take] at h1
  omega
theorem up_more' {ys : List Int} (h : ys.Pairwise (fun a b => a ≤ b)) {p : Nat} (hp : p < ys.length) {x : Int} (hx : x < ys[p]) : noMore x ys ≤ p := by
  unfold noMore
  rw [cnt_split _ ys p]
  have h1 : (ys.take p).countP (fun y => decide (y ≤ x)) ≤ p := Nat.le_trans List.countP_le_length (by rw [List.length_take]; omega)
  have h2 : (ys.drop p).countP (fun y => decide (y ≤ x)) = 0 := List.countP_eq_zero.2 (fun a ha => by have := (up_at h hp).2 a ha; simp; omega)
  omega
/-- The median is told by counting. -/
theorem mid_iff {xs : List Int} (h : 0 < xs.length) (x : Int) : (less x xs ≤ place xs.length ∧ place xs.length < noMore x xs) ↔ mid xs = x := by
  have hp : place xs.length < (rise xs).length := by rw [rise_length]; unfold place; omega
  have e1 : less x xs = less x (rise xs) := ((rise_perm xs).countP_eq _).symm
  have e2 : noMore x xs = noMore x (rise xs) := ((rise_perm xs).countP_eq _).symm
  have em : mid xs = (rise xs)[place xs.length] := getD_at hp
  rw [e1, e2, em]
  have hu := rise_up xs
  constructor
  · rintro ⟨h1, h2⟩
    rcases Int.lt_trichotomy ((rise xs)[place xs.length]) x with h' | h' | h'
    · have := up_less' hu hp h'; omega
    · exact h'
    · have := up_more' hu hp h'; omega
  · intro h'
    exact ⟨up_less hu hp (by omega), up_more hu hp (by omega)⟩
/-- At least half are no less, at least half no more. -/
theorem mid_half {xs : List Int} (h : 0 < xs.length) : xs.length ≤ 2 * noMore (mid xs) xs ∧ xs.length + 1 ≤ 2 * noLess (mid xs) xs := by
  have h1 := (mid_iff h (mid xs)).2 rfl
  have h2 := less_noLess (mid xs) xs
  unfold place at h1
  omega
/-- The last n. -/
def lastN (n : Nat) (xs : List Int) : List Int := xs.drop (xs.length - n)
theorem lastN_length (n : Nat) (xs : List Int) : (lastN n xs).length = min n xs.length := by unfold lastN; rw [List.length_drop]; omega
/-- One more: the oldest goes, if there are n. -/
def mpush (n : Nat) (s : List Int) (v : Int) : List Int := if s.length < n then s ++ [v] else s.drop 1 ++ [v]
theorem lastN_push {n : Nat} (hn : 0 < n) (xs : List Int) (v : Int) : lastN n (xs ++ [v]) = mpush n (lastN n xs) v := by
  have hl := lastN_length n xs
  unfold mpush
  by_cases h : xs.length < n
  · rw [if_pos (by omega)]
    unfold lastN
    rw [List.length_append, List.length_singleton, show xs.length + 1 - n = 0 by omega, show xs.length - n = 0 by omega]
    rfl
  · rw [if_neg (by omega)]
    unfold lastN
    rw [List.length_append, List.length_singleton, List.drop_drop, List.drop_append_of_le_length (by omega), show xs.length - n + 1 = xs.length + 1 - n by omega]
theorem mpush_length {n : Nat} (hn : 0 < n) {s : List Int} (hs : s.length ≤ n) (v : Int) : 0 < (mpush n s v).length ∧ (mpush n s v).length = min (s.length + 1) n := by
  unfold mpush
  split
  · rw [List.length_append, List.length_singleton]; omega
  · rw [List.length_append, List.length_singleton, List.length_drop]; omega
/-- The numbers brought into bounds. -/
def clamps (zs : List Int) : List Int := zs.map clampZ
theorem clamps_length (zs : List Int) : (clamps zs).length = zs.length := List.length_map ..
/-- The median behind i + 1 of the numbers. -/
def med (n : Nat) (zs : List Int) (i : Nat) : Int := mid (lastN n (clamps (zs.take (i + 1))))
def meds (n : Nat) (zs : List Int) (j : Nat) : List Int := (List.range j).map (med n zs)
theorem meds_length (n : Nat) (zs : List Int) (j : Nat) : (meds n zs j).length = j := by simp [meds]
theorem meds_succ (n : Nat) (zs : List Int) (j : Nat) : meds n zs (j + 1) = meds n zs j ++ [med n zs j] := by
  unfold meds
  rw [List.range_succ, List.map_append]
  rfl
theorem meds_at (n : Nat) (zs : List Int) {i j : Nat} (h : i < j) : (meds n zs j)[i]? = some (med n zs i) := by
  simp [meds, h]
theorem clamps_succ (zs : List Int) {j : Nat} (h : j < zs.length) : clamps (zs.take (j + 1)) = clamps (zs.take j) ++ [clampZ (zs.getD j 0)] := by
  unfold clamps
  rw [List.take_succ_eq_append_getElem h, List.map_append, getD_at h]
  rfl
theorem last_succ {n : Nat} (hn : 0 < n) (zs : List Int) {j : Nat} (h : j < zs.length) : lastN n (clamps (zs.take (j + 1))) = mpush n (lastN n (clamps (zs.take j))) (clampZ (zs.getD j 0)) := by
  rw [clamps_succ zs h, lastN_push hn]
/-- A ring of n places, the next one to be written at f: the numbers from the oldest on. -/
structure Ring (n : Nat) (A : List Int) (f : Nat) (s : List Int) : Prop where
  len : A.length = s.length
  le : s.length ≤ n
  lt : f < n
  room : s.length < n → f = s.length
  turn : s = A.drop f ++ A.take f
theorem Ring.perm {n : Nat} {A : List Int} {f : Nat} {s : List Int} (h : Ring n A f s) : A.Perm s := by
  rw [h.turn]
  have e : A.take f ++ A.drop f = A := List.take_append_drop f A
  exact (List.Perm.of_eq e.symm).trans List.perm_append_comm
/-- A number is put at f. -/
def wrote (A : List Int) (f : Nat) (v : Int) : List Int := A.take f ++ v :: A.drop (f + 1)
theorem wrote_at (A : List Int) (f : Nat) (v : Int) (hf : f ≤ A.length) (i : Nat) : (wrote A f v)[i]? = if i = f then some v else A[i]? := by
  unfold wrote
  have hl : (A.take f).length = f := by rw [List.length_take]; omega
  by_cases h : i < f
  · rw [List.getElem?_append_left (by omega), if_neg (by omega), List.getElem?_take_of_lt h]
  · by_cases h' : i = f
    · subst h'
      rw [List.getElem?_append_right (by omega), if_pos rfl, hl, Nat.sub_self]
      rfl
    · rw [List.getElem?_append_right (by omega), if_neg h', hl, show i - f = (i - f - 1) + 1 by omega, List.getElem?_cons_succ, List.getElem?_drop, show f + 1 + (i - f - 1) = i by omega]
theorem Ring.push {n : Nat} {A : List Int} {f : Nat} {s : List Int} (h : Ring n A f s) (v : Int) : Ring n (wrote A f v) ((f + 1) % n) (mpush n s v) := by
  have hlen := h.len
  have hle := h.le
  have hlt := h.lt
  have hm := mpush_length (n := n) (by omega) hle v
  have hf : f ≤ A.length := by
    rcases Nat.lt_or_ge s.length n with h' | h'
    · have := h.room h'; omega
    · omega
  have hwl : (wrote A f v).length = (mpush n s v).length := by
    rw [hm.2]
    unfold wrote
    rw [List.length_append, List.length_take, List.length_cons, List.length_drop]
    rcases Nat.lt_or_ge s.length n with h' | h'
    · have := h.room h'; omega
    · omega
  have hmod : (f + 1 < n ∧ (f + 1) % n = f + 1) ∨ (f + 1 = n ∧ (f + 1) % n = 0) := by
    rcases Nat.lt_or_ge (f + 1) n with h' | h'
    · exact .inl ⟨h', Nat.mod_eq_of_lt h'⟩
    · refine .inr ⟨by omega, ?_⟩
      rw [show f + 1 = n by omega, Nat.mod_self]
  have ht : mpush n s v = (wrote A f v).drop (f + 1) ++ (wrote A f v).take (f + 1) := by
    have hl : (A.take f ++ [v]).length = f + 1 := by rw [List.length_append, List.length_take, List.length_singleton]; omega
    have hw : wrote A f v = (A.take f ++ [v]) ++ A.drop (f + 1) := by unfold wrote; simp
    rw [hw, List.drop_left' hl, List.take_left' hl]
    unfold mpush
    have ht := h.turn
    split
    · rename_i h'
      have := h.room h'
      rw [ht, List.drop_eq_nil_of_le (by omega), List.drop_eq_nil_of_le (by omega)]
      simp
    · rename_i h'
      rw [ht, List.drop_append_of_le_length (by rw [List.length_drop]; omega), List.drop_drop]
      simp
  refine ⟨hwl, by omega, Nat.mod_lt _ (by omega), fun h' => ?_, ?_⟩
  · have h2 : s.length < n := by omega
    have := h.room h2
    rcases hmod with ⟨_, e⟩ | ⟨_, e⟩ <;> omega
  · rcases hmod with ⟨_, e⟩ | ⟨e', e⟩
    · rw [e]; exact ht
    · rw [e, ht, List.drop_eq_nil_of_le (by omega), List.take_of_length_le (by omega)]
      simp
theorem Ring.new {n : Nat} (h : 0 < n) : Ring n [] 0 [] := ⟨rfl, Nat.zero_le _, h, fun _ => rfl, rfl⟩
end Go.Proofs.YtgapnimicaopcaaGreat.L9
