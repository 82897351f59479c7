/-
  Numbers brought into bounds; the last n of them; an array that is gone round: over lists alone.
-/
import Derived.Test.YtgapnimicaopcaaGreatBase
namespace Go.Proofs.YtgapnimicaopcaaGreat
set_option maxRecDepth 8000
/-- A number brought into bounds. -/
def clampZ (v : Int) : Int := min (max v (-2147483647)) 2147483647
theorem clampZ_le (v : Int) : -2147483647 ≤ clampZ v ∧ clampZ v ≤ 2147483647 := by unfold clampZ; omega
theorem getD_at {xs : List Int} {p : Nat} (h : p < xs.length) : xs.getD p 0 = xs[p] := by simp [h]
/-- The last n. -/
def lastN (n : Nat) (xs : List Int) : List Int := xs.drop (xs.length - n)
theorem lastN_length (n : Nat) (xs : List Int) : (lastN n xs).length = min n xs.length := by unfold lastN; rw [List.length_drop]; omega
/-- One more: the oldest goes, if there are n. -/
def mpush (n : Nat) (s : List Int) (v : Int) : List Int := if s.length < n then s ++ [v] else s.drop 1 ++ [v]
theorem lastN_push {n : Nat} (hn : 0 < n) (xs : List Int) (v : Int) : lastN n (xs ++ [v]) = mpush n (lastN n xs) v := by
  have hl := lastN_length n xs
  unfold mpush
  by_cases h : xs.length < n
  · rw [if_pos (by omega)]
    unfold lastN
    rw [List.length_append, List.length_singleton, show xs.length + 1 - n = 0 by omega, show xs.length - n = 0 by omega]
    rfl
  · rw [if_neg (by omega)]
    unfold lastN
    rw [List.length_append, List.length_singleton, List.drop_drop, List.drop_append_of_le_length (by omega), show xs.length - n + 1 = xs.length + 1 - n by omega]
theorem mpush_length {n : Nat} (hn : 0 < n) {s : List Int} (hs : s.length ≤ n) (v : Int) : 0 < (mpush n s v).length ∧ (mpush n s v).length = min (s.length + 1) n := by
  unfold mpush
  split
  · rw [List.length_append, List.length_singleton]; omega
  · rw [List.length_append, List.length_singleton, List.length_drop]; omega
/-- The numbers brought into bounds. -/
def clamps (zs : List Int) : List Int := zs.map clampZ
theorem clamps_length (zs : List Int) : (clamps zs).length = zs.length := List.length_map ..
theorem clamps_succ (zs : List Int) {j : Nat} (h : j < zs.length) : clamps (zs.take (j + 1)) = clamps (zs.take j) ++ [clampZ (zs.getD j 0)] := by
  unfold clamps
  rw [List.take_succ_eq_append_getElem h, List.map_append, getD_at h]
  rfl
theorem last_succ {n : Nat} (hn : 0 < n) (zs : List Int) {j : Nat} (h : j < zs.length) : lastN n (clamps (zs.take (j + 1))) = mpush n (lastN n (clamps (zs.take j))) (clampZ (zs.getD j 0)) := by
  rw [clamps_succ zs h, lastN_push hn]
/-- A ring of n places, the next one to be written at f: the numbers from the oldest on. -/
structure Ring (n : Nat) (A : List Int) (f : Nat) (s : List Int) : Prop where
  len : A.length = s.length
  le : s.length ≤ n
  lt : f < n
  room : s.length < n → f = s.length
  turn : s = A.drop f ++ A.take f
theorem Ring.perm {n : Nat} {A : List Int} {f : Nat} {s : List Int} (h : Ring n A f s) : A.Perm s := by
  rw [h.turn]
  have e : A.take f ++ A.drop f = A := List.take_append_drop f A
  exact (List.Perm.of_eq e.symm).trans List.perm_append_comm
/-- A number is put at f. -/
def wrote (A : List Int) (f : Nat) (v : Int) : List Int := A.take f ++ v :: A.drop (f + 1)
theorem wrote_at (A : List Int) (f : Nat) (v : Int) (hf : f ≤ A.length) (i : Nat) : (wrote A f v)[i]? = if i = f then some v else A[i]? := by
  unfold wrote
  have hl : (A.take f).length = f := by rw [List.length_take]; omega
  by_cases h : i < f
  · rw [List.getElem?_append_left (by omega), if_neg (by omega), List.getElem?_take_of_lt h]
  · by_cases h' : i = f
    · subst h'
      rw [List.getElem?_append_right (by omega), if_pos rfl, hl, Nat.sub_self]
      rfl
    · rw [List.getElem?_append_right (by omega), if_neg h', hl, show i - f = (i - f - 1) + 1 by omega, List.getElem?_cons_succ, List.getElem?_drop, show f + 1 + (i - f - 1) = i by omega]
theorem Ring.push {n : Nat} {A : List Int} {f : Nat} {s : List Int} (h : Ring n A f s) (v : Int) : Ring n (wrote A f v) ((f + 1) % n) (mpush n s v) := by
  have hlen := h.len
  have hle := h.le
  have hlt := h.lt
  have hm := mpush_length (n := n) (by omega) hle v
  have hf : f ≤ A.length := by
    rcases Nat.lt_or_ge s.length n with h' | h'
    · have := h.room h'; omega
    · omega
  have hwl : (wrote A f v).length = (mpush n s v).length := by
    rw [hm.2]
    unfold wrote
    rw [List.length_append, List.length_take, List.length_cons, List.length_drop]
    rcases Nat.lt_or_ge s.length n with h' | h'
    · have := h.room h'; omega
    · omega
  have hmod : (f + 1 < n ∧ (f + 1) % n = f + 1) ∨ (f + 1 = n ∧ (f + 1) % n = 0) := by
    rcases Nat.lt_or_ge (f + 1) n with h' | h'
    · exact .inl ⟨h', Nat.mod_eq_of_lt h'⟩
    · refine .inr ⟨by omega, ?_⟩
      rw [show f + 1 = n by omega, Nat.mod_self]
  have ht : mpush n s v = (wrote A f v).drop (f + 1) ++ (wrote A f v).take (f + 1) := by
    have hl : (A.take f ++ [v]).length = f + 1 := by rw [List.length_append, List.length_take, List.length_singleton]; omega
    have hw : wrote A f v = (A.take f ++ [v]) ++ A.drop (f + 1) := by unfold wrote; simp
    rw [hw, List.drop_left' hl, List.take_left' hl]
    unfold mpush
    have ht := h.turn
    split
    · rename_i h'
      have := h.room h'
      rw [ht, List.drop_eq_nil_of_le (by omega), List.drop_eq_nil_of_le (by omega)]
      simp
    · rename_i h'
      rw [ht, List.drop_append_of_le_length (by rw [List.length_drop]; omega), List.drop_drop]
      simp
  refine ⟨hwl, by omega, Nat.mod_lt _ (by omega), fun h' => ?_, ?_⟩
  · have h2 : s.length < n := by omega
    have := h.room h2
    rcases hmod with ⟨_, e⟩ | ⟨_, e⟩ <;> omega
  · rcases hmod with ⟨_, e⟩ | ⟨e', e⟩
    · rw [e]; exact ht
    · rw [e, ht, List.drop_eq_nil_of_le (by omega), List.take_of_length_le (by omega)]
      simp
theorem Ring.new {n : Nat} (h : 0 < n) : Ring n [] 0 [] := ⟨rfl, Nat.zero_le _, h, fun _ => rfl, rfl⟩
theorem take_set {n f : Nat} {s Z : List Int} (hz : Z.length = 15) (hn : n ≤ 15) (h : Ring n (Z.take s.length) f s) (v : Int) : (Z.set f v).take (mpush n s v).length = wrote (Z.take s.length) f v := by
  have hle := h.le
  have hlt := h.lt
  have hroom := h.room
  have hm := (mpush_length (n := n) (by omega) hle v).2
  have htl : (Z.take s.length).length = s.length := by rw [List.length_take]; omega
  apply List.ext_getElem?
  intro i
  rw [wrote_at _ _ _ (by rw [htl]; omega), List.getElem?_take, List.getElem?_take, List.getElem?_set, hm]
  by_cases e : i = f
  · subst e
    rw [if_pos rfl, if_pos (by omega), if_pos rfl, if_pos (by omega)]
  · rw [if_neg e]
    by_cases h1 : i < s.length
    · rw [if_pos (by omega), if_neg (by omega), if_pos h1]
    · rw [if_neg (by omega), if_neg h1]
end Go.Proofs.YtgapnimicaopcaaGreat
