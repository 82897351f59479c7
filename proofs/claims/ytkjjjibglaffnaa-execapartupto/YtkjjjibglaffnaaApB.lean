/-
  PURE: from which partitions links lead to one: eight times round is enough.
-/
import Derived.Test.YtkjjjibglaffnaaApA
namespace Go.Proofs.Ytkjjjibglaffnaa
open Go.RowKit
/-- Once over all links. -/
def pss : List (Int × Int) → (Nat → Bool) → (Nat → Bool)
  | [], S => S
  | q :: r, S => pss r (if S q.2.toNat = true then setf S q.1.toNat true else S)
def itr (lk : List (Int × Int)) : Nat → (Nat → Bool) → (Nat → Bool)
  | 0, S => S
  | n + 1, S => itr lk n (pss lk S)
theorem itr_succ (lk : List (Int × Int)) : ∀ (n : Nat) (S : Nat → Bool), itr lk (n + 1) S = pss lk (itr lk n S)
  | 0, _ => rfl
  | n + 1, S => itr_succ lk n (pss lk S)
theorem pss_snoc : ∀ (l : List (Int × Int)) (q : Int × Int) (S : Nat → Bool), pss (l ++ [q]) S = if pss l S q.2.toNat = true then setf (pss l S) q.1.toNat true else pss l S
  | [], _, _ => rfl
  | _ :: r, q, _S => pss_snoc r q _
theorem pss_take {l : List (Int × Int)} {j : Nat} {q : Int × Int} (h : l[j]? = some q) (S : Nat → Bool) : pss (l.take (j + 1)) S = if pss (l.take j) S q.2.toNat = true then setf (pss (l.take j) S) q.1.toNat true else pss (l.take j) S := by
  obtain ⟨hj, e⟩ := List.getElem?_eq_some_iff.1 h
  rw [List.take_succ_eq_append_getElem hj, e, pss_snoc]
theorem setf_mono {S : Nat → Bool} {i j : Nat} (h : S i = true) : setf S j true i = true := by
  unfold setf
  split
  · rfl
  · exact h
theorem pss_mono : ∀ (l : List (Int × Int)) (S : Nat → Bool) (i : Nat), S i = true → pss l S i = true
  | [], _, _, h => h
  | q :: r, S, i, h => by
    refine pss_mono r _ i ?_
    split
    · exact setf_mono h
    · exact h
theorem pss_does : ∀ (l : List (Int × Int)) (S : Nat → Bool) (q : Int × Int), q ∈ l → S q.2.toNat = true → pss l S q.1.toNat = true
  | [], _, _, h, _ => by cases h
  | q0 :: r, S, q, h, hs => by
    rcases List.mem_cons.1 h with rfl | h
    · show pss r _ _ = true
      rw [if_pos hs]
      exact pss_mono r _ _ (by rw [setf_at])
    · refine pss_does r _ q h ?_
      split
      · exact setf_mono hs
      · exact hs
theorem pss_out : ∀ (l : List (Int × Int)) (S : Nat → Bool), (∀ q ∈ l, q.1.toNat < 8) → ∀ i, 8 ≤ i → pss l S i = S i
  | [], _, _, _, _ => rfl
  | q :: r, S, h, i, hi => by
    show pss r _ i = _
    rw [pss_out r _ (fun z hz => h z (List.mem_cons_of_mem _ hz)) i hi]
    split
    · have := h q (List.mem_cons_self ..)
      exact setf_ne _ _ (by omega)
    · rfl
def cnt (S : Nat → Bool) : Nat := (List.range 8).countP S
theorem cnt_le (S : Nat → Bool) : cnt S ≤ 8 := Nat.le_trans List.countP_le_length (by simp)
theorem cnt_lt {S R : Nat → Bool} (h : ∀ i, S i = true → R i = true) {j : Nat} (hj : j < 8) (h1 : S j = false) (h2 : R j = true) : cnt S < cnt R := by
  unfold cnt
  have key : ∀ l : List Nat, j ∈ l → l.countP S < l.countP R := by
    intro l
    induction l with
    | nil => intro h; cases h
    | cons x r ih =>
      intro hm
      have hle : r.countP S ≤ r.countP R := List.countP_mono_left (fun i _ hi => h i hi)
      rw [List.countP_cons, List.countP_cons]
      rcases List.mem_cons.1 hm with rfl | hm
      · rw [h1, h2]
        simp
        omega
      · have := ih hm
        rcases hx : S x with _ | _
        · simp
          omega
        · rw [h x hx]
          simp
          omega
  exact key _ (List.mem_range.2 hj)
theorem itr_fix (lk : List (Int × Int)) {S : Nat → Bool} (h : pss lk S = S) : ∀ n, itr lk n S = S
  | 0 => rfl
  | n + 1 => by show itr lk n (pss lk S) = S; rw [h]; exact itr_fix lk h n
theorem itr_shut (lk : List (Int × Int)) (hl : ∀ q ∈ lk, q.1.toNat < 8) : ∀ (n : Nat) (S : Nat → Bool), 8 ≤ cnt S + n → pss lk (itr lk n S) = itr lk n S
  | n, S, hc => by
    by_cases hf : pss lk S = S
    · rw [itr_fix lk hf]; exact hf
    · have hex : ∃ j, j < 8 ∧ S j = false ∧ pss lk S j = true := by
        by_cases he : ∃ j, j < 8 ∧ S j = false ∧ pss lk S j = true
        · exact he
        · exfalso
          apply hf
          funext i
          rcases Nat.lt_or_ge i 8 with h8 | h8
          · rcases hs : S i with _ | _
            · rcases hp : pss lk S i with _ | _
              · rfl
              · exact absurd ⟨i, h8, hs, hp⟩ he
            · exact pss_mono lk S i hs
          · exact pss_out lk S hl i h8
      obtain ⟨j, h8, h1, h2⟩ := hex
      have hlt := cnt_lt (pss_mono lk S) h8 h1 h2
      have hle := cnt_le (pss lk S)
      match n with
      | 0 => omega
      | n + 1 => exact itr_shut lk hl n (pss lk S) (by omega)
/-- From which partitions links lead to one. -/
def rch (lk : List (Int × Int)) (to : Nat) : Nat → Bool := itr lk 8 (setf (fun _ => false) to true)
theorem itr_mono (lk : List (Int × Int)) : ∀ (n : Nat) (S : Nat → Bool) (i : Nat), S i = true → itr lk n S i = true
  | 0, _, _, h => h
  | n + 1, S, i, h => itr_mono lk n _ i (pss_mono lk S i h)
theorem rch_to (lk : List (Int × Int)) (to : Nat) : rch lk to to = true := itr_mono lk 8 _ to (setf_at _ _ _)
theorem rch_shut {lk : List (Int × Int)} (hl : ∀ q ∈ lk, q.1.toNat < 8) (to : Nat) : Shut (fun z => rch lk to z.toNat) lk := fun q hq hs => by
  have h := itr_shut lk hl 8 (setf (fun _ => false) to true) (by omega)
  have := pss_does lk (rch lk to) q hq hs
  unfold rch at this ⊢
  rw [h] at this
  exact this
end Go.Proofs.Ytkjjjibglaffnaa
