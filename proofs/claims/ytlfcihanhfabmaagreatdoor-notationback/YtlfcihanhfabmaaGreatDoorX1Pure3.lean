/-
  Plain mathematics of a number's text: its parts, what it says, and why not. No program in sight.
-/
import Derived.Test.YtlfcihanhfabmaaGreatDoorX1Pure2
import Derived.Lib.CutLaws
import Derived.Lib.IndexBytes
import Derived.Lib.Repeat
namespace Go.Proofs.YtlfcihanhfabmaaGreatDoor.L1

/-- areDigits: one byte at least, 'm' at most, all of them digits. -/
def areB (l : List UInt8) (m : Nat) : Bool := decide (1 ≤ l.length) && decide (l.length ≤ m) && digB l
/-- isWhole. -/
def wholeB (l : List UInt8) : Bool := if 1 < l.length ∧ bt l 0 = 48 then false else areB l 7
def partB (l : List UInt8) : Bool := areB l 3

/-- What stands ahead of the first point, behind it, and whether there is one. -/
def befL : List UInt8 → List UInt8
  | [] => []
  | c :: l => if c = 46 then [] else c :: befL l
def aftL : List UInt8 → List UInt8
  | [] => []
  | c :: l => if c = 46 then l else aftL l
def hasB : List UInt8 → Bool
  | [] => false
  | c :: l => if c = 46 then true else hasB l

theorem index_has (l : List UInt8) : Lib.indexByte l 46 = if hasB l then ((befL l).length : Int) else -1 := by
  induction l with
  | nil => rfl
  | cons c l ih =>
    unfold Lib.indexByte hasB befL
    by_cases h : c = 46
    · subst h; simp
    · have e : (c == 46) = false := beq_eq_false_iff_ne.2 h
      rw [e, if_neg h, if_neg h, ih]
      cases hh : hasB l
      · simp
      · simp
theorem bef_take (l : List UInt8) (h : hasB l = true) : l.take (befL l).length = befL l ∧ l.drop ((befL l).length + 1) = aftL l := by
  induction l with
  | nil => simp [hasB] at h
  | cons c l ih =>
    unfold hasB at h
    unfold befL aftL
    by_cases hc : c = 46
    · rw [if_pos hc, if_pos hc]; simp
    · rw [if_neg hc] at h
      rw [if_neg hc, if_neg hc]
      have := ih h
      simp [this.1, this.2]
theorem bef_none (l : List UInt8) (h : hasB l = false) : befL l = l ∧ aftL l = [] := by
  induction l with
  | nil => exact ⟨rfl, rfl⟩
  | cons c l ih =>
    unfold hasB at h
    unfold befL aftL
    by_cases hc : c = 46
    · rw [if_pos hc] at h; cases h
    · rw [if_neg hc] at h
      rw [if_neg hc, if_neg hc, (ih h).1, (ih h).2]
      exact ⟨rfl, rfl⟩
theorem cut_point (l : List UInt8) : Lib.cut l [46] = (befL l, aftL l, hasB l) := by
  unfold Lib.cut
  rw [Lib.index_one, index_has]
  cases h : hasB l
  · rw [if_neg (by simp)]
    rw [(bef_none l h).1, (bef_none l h).2]
  · have := bef_take l h
    rw [if_pos (by simp)]
    simp [this.1, this.2]
theorem bef_le (l : List UInt8) : (befL l).length ≤ l.length := by
  induction l with
  | nil => exact Nat.le_refl _
  | cons c l ih => unfold befL; split <;> simp <;> omega
theorem aft_le (l : List UInt8) : (aftL l).length ≤ l.length := by
  induction l with
  | nil => exact Nat.le_refl _
  | cons c l ih => unfold aftL; split <;> simp <;> omega

/-- Noughts that are left out at the end are put back. -/
def padL (l : List UInt8) : List UInt8 := l ++ Lib.repeatL [48] (3 - l.length)

/-- A text's parts. -/
def bodyL (l : List UInt8) : List UInt8 := Lib.trimPrefix l [45]
def negB (l : List UInt8) : Bool := Lib.hasPrefix l [45]
def valL (l : List UInt8) : Int := numL (befL (bodyL l)) * 1000 + numL (padL (aftL (bodyL l)))
def formB (l : List UInt8) : Bool := wholeB (befL (bodyL l)) && (!hasB (bodyL l) || partB (aftL (bodyL l)))
def parseE (l : List UInt8) : Int := if formB l = false then 4 else if negB l = true ∧ valL l = 0 then 4 else if 2147483647 < valL l then 9 else 0
def parseV (l : List UInt8) : Int := if formB l = false then 0 else if negB l = true ∧ valL l = 0 then 0 else if 2147483647 < valL l then 0 else if negB l = true then - valL l else valL l

theorem body_le (l : List UInt8) : (bodyL l).length ≤ l.length := by
  unfold bodyL Lib.trimPrefix; split <;> simp
theorem areB_parts {l : List UInt8} {m : Nat} (h : areB l m = true) : 1 ≤ l.length ∧ l.length ≤ m ∧ digB l = true := by
  unfold areB at h; simp at h; exact ⟨h.1.1, h.1.2, h.2⟩
theorem whole_are {l : List UInt8} (h : wholeB l = true) : areB l 7 = true := by
  unfold wholeB at h; split at h
  · cases h
  · exact h
/-- What is behind the point of a text that has the form: three digits at most. -/
theorem aft_dig {l : List UInt8} (h : hasB l = false ∨ partB (aftL l) = true) : (aftL l).length ≤ 3 ∧ digB (aftL l) = true := by
  rcases h with h | h
  · rw [(bef_none l h).2]; exact ⟨by decide, rfl⟩
  · have := areB_parts h; exact ⟨this.2.1, this.2.2⟩
theorem repeat_dig (n : Nat) : digB (Lib.repeatL [48] n) = true := by
  induction n with
  | zero => rfl
  | succ n ih =>
    unfold Lib.repeatL
    unfold digB at ih ⊢
    rw [List.all_append, ih]; rfl
theorem digB_append (a b : List UInt8) : digB (a ++ b) = (digB a && digB b) := by unfold digB; rw [List.all_append]
theorem pad_dig {l : List UInt8} (h : digB l = true) : digB (padL l) = true := by
  unfold padL; rw [digB_append, h, repeat_dig]; rfl
theorem pad_len {l : List UInt8} (h : l.length ≤ 3) : (padL l).length = 3 := by
  unfold padL; rw [List.length_append, Lib.repeatL_length]; simp; omega
theorem num_bd {l : List UInt8} (h : digB l = true) (h7 : l.length ≤ 7) : 0 ≤ numL l ∧ numL l < 10000000 := by
  have := numL_bd7 l h h7 l.length (Nat.le_refl _)
  rwa [List.take_of_length_le (Nat.le_refl _)] at this
theorem num_bd3 {l : List UInt8} (h : digB l = true) (h3 : l.length = 3) : 0 ≤ numL l ∧ numL l < 1000 := by
  have := numL_bd l h l.length (Nat.le_refl _)
  rw [List.take_of_length_le (Nat.le_refl _), h3] at this
  have e : (10 : Int) ^ 3 = 1000 := by decide
  omega
theorem parse_form {l : List UInt8} (f : formB l = false) : parseV l = 0 ∧ parseE l = 4 := by
  unfold parseV parseE; simp [f]
theorem parse_zero {l : List UInt8} (f : formB l = true) (h4 : negB l = true) (h5 : valL l = 0) : parseV l = 0 ∧ parseE l = 4 := by
  unfold parseV parseE; simp [f, h4, h5]
theorem parse_bign {l : List UInt8} (f : formB l = true) (h4 : negB l = true) (h6 : 2147483647 < valL l) : parseV l = 0 ∧ parseE l = 9 := by
  have h5 : ¬ valL l = 0 := by omega
  unfold parseV parseE; simp [f, h4, h5, h6]
theorem parse_bigp {l : List UInt8} (f : formB l = true) (h4 : negB l = false) (h6 : 2147483647 < valL l) : parseV l = 0 ∧ parseE l = 9 := by
  unfold parseV parseE; simp [f, h4, h6]
theorem parse_neg {l : List UInt8} (f : formB l = true) (h4 : negB l = true) (h5 : ¬ valL l = 0) (h6 : ¬ 2147483647 < valL l) : parseV l = - valL l ∧ parseE l = 0 := by
  unfold parseV parseE; simp [f, h4, h5, h6]
theorem parse_pos {l : List UInt8} (f : formB l = true) (h4 : negB l = false) (h6 : ¬ 2147483647 < valL l) : parseV l = valL l ∧ parseE l = 0 := by
  unfold parseV parseE; simp [f, h4, h6]
end Go.Proofs.YtlfcihanhfabmaaGreatDoor.L1
