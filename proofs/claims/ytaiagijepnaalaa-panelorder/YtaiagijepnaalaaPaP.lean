/-
  What is seen and heard of alarms, over plain data alone: a signal, all signals, when a vector shows no less than another one; views.
-/
import Derived.Test.YtaiagijepnaalaaBase
namespace Go.Proofs.Ytaiagijepnaalaa
/-- How an alarm stands: phase, priority, since, pause. -/
structure As where
  ph : Int
  pr : Int
  si : Int
  pa : Int
def As.zero : As := ⟨0, 0, 0, 0⟩
/-- What is seen and heard of it. -/
structure Sg where
  sh : Bool
  so : Bool
  pr : Int
  deriving DecidableEq
def Sg.zero : Sg := ⟨false, false, 0⟩
abbrev As.Known (x : As) : Prop := x.ph = 1 ∨ x.ph = 2 ∨ x.ph = 3
abbrev As.Shown (x : As) : Prop := x.Known ∧ 1 ≤ x.pr ∧ x.pr ≤ 3 ∧ x.pa = 0
def sgOf (x : As) : Sg := if x.Shown then ⟨true, x.ph != 2, x.pr⟩ else Sg.zero
/-- All that is shown. -/
structure Vec where
  sg : List Sg
  top : Int
  tone : Int
  fl : Bool
  lk : List Bool
/-- It has as many places as there are. -/
def Vec.Ok (v : Vec) : Prop := v.sg.length = 26 ∧ v.lk.length = 4
def Vec.zero : Vec := ⟨List.replicate 26 Sg.zero, 0, 0, false, List.replicate 4 false⟩
theorem Vec.Ok.zero : Vec.zero.Ok := ⟨rfl, rfl⟩
/-- The signals behind the first j states; the greatest priority; the greatest one of those that sound. -/
def sgAt (l : List As) : Nat → List Sg
  | 0 => List.replicate 26 Sg.zero
  | j + 1 => (sgAt l j).set j (sgOf (l.getD j As.zero))
def topAt (l : List As) : Nat → Int
  | 0 => 0
  | j + 1 => max (topAt l j) (sgOf (l.getD j As.zero)).pr
def toneAt (l : List As) : Nat → Int
  | 0 => 0
  | j + 1 => if (sgOf (l.getD j As.zero)).so = true then max (toneAt l j) (sgOf (l.getD j As.zero)).pr else toneAt l j
def lkAt (bs : List Bool) (d : List Bool) : Nat → List Bool
  | 0 => d
  | j + 1 => (lkAt bs d j).set j (bs.getD j true)
theorem sgAt_length (l : List As) : ∀ j, (sgAt l j).length = 26
  | 0 => rfl
  | j + 1 => by unfold sgAt; rw [List.length_set]; exact sgAt_length l j
theorem lkAt_length (bs d : List Bool) : ∀ j, (lkAt bs d j).length = d.length
  | 0 => rfl
  | j + 1 => by unfold lkAt; rw [List.length_set]; exact lkAt_length bs d j
theorem sgAt_at (l : List As) : ∀ j, j ≤ 26 → ∀ i, i < 26 → (sgAt l j)[i]? = some (if i < j then sgOf (l.getD i As.zero) else Sg.zero)
  | 0, _, i, hi => by
    unfold sgAt
    rw [List.getElem?_replicate, if_pos hi, if_neg (by omega)]
  | j + 1, hj, i, hi => by
    unfold sgAt
    rw [List.getElem?_set]
    by_cases e : j = i
    · subst e
      rw [if_pos rfl, if_pos (by rw [sgAt_length]; omega), if_pos (by omega)]
    · rw [if_neg e, sgAt_at l j (by omega) i hi]
      by_cases h : i < j
      · rw [if_pos h, if_pos (by omega)]
      · rw [if_neg h, if_neg (by omega)]
/-- All locks: those that are not told are set. -/
abbrev lks (bs : List Bool) : List Bool := lkAt bs (List.replicate 4 false) 4
theorem lkAt_at (bs d : List Bool) : ∀ j i, i < d.length → (lkAt bs d j)[i]? = some (if i < j then bs.getD i true else d.getD i false)
  | 0, i, hi => by unfold lkAt; rw [if_neg (by omega)]; simp [hi]
  | j + 1, i, hi => by
    unfold lkAt
    rw [List.getElem?_set]
    by_cases e : j = i
    · subst e
      rw [if_pos rfl, if_pos (by rw [lkAt_length]; exact hi), if_pos (by omega)]
    · rw [if_neg e, lkAt_at bs d j i hi]
      by_cases h : i < j
      · rw [if_pos h, if_pos (by omega)]
      · rw [if_neg h, if_neg (by omega)]
/-- What is shown of alarms. -/
def ofV (l : List As) (fl : Bool) (bs : List Bool) : Vec := ⟨sgAt l l.length, topAt l l.length, toneAt l l.length, fl, lks bs⟩
theorem ofV_ok (l : List As) (fl : Bool) (bs : List Bool) : (ofV l fl bs).Ok := ⟨sgAt_length _ _, lkAt_length _ _ _⟩
/-- A signal shows no less than another one. -/
def gvS (x y : Sg) : Bool := !(y.sh && (!x.sh || decide (x.pr < y.pr)))
/-- The first j do. -/
def gvN (a b : List Sg) : Nat → Bool
  | 0 => true
  | j + 1 => gvN a b j && gvS (a.getD j Sg.zero) (b.getD j Sg.zero)
theorem gvN_iff (a b : List Sg) : ∀ j, gvN a b j = true ↔ ∀ i, i < j → gvS (a.getD i Sg.zero) (b.getD i Sg.zero) = true
  | 0 => ⟨fun _ i hi => absurd hi (by omega), fun _ => rfl⟩
  | j + 1 => by
    unfold gvN
    rw [Bool.and_eq_true, gvN_iff a b j]
    constructor
    · rintro ⟨h1, h2⟩ i hi
      rcases Nat.lt_or_ge i j with h | h
      · exact h1 i h
      · obtain rfl : i = j := by omega
        exact h2
    · exact fun h => ⟨fun i hi => h i (by omega), h j (by omega)⟩
theorem gvN_false {a b : List Sg} {j n : Nat} (_h : gvN a b j = true) (hn : j < n) (hs : gvS (a.getD j Sg.zero) (b.getD j Sg.zero) = false) : gvN a b n = false := by
  cases e : gvN a b n
  · rfl
  · have := (gvN_iff a b n).1 e j hn
    rw [hs] at this
    cases this
def grv (a b : Vec) : Bool := a.fl || gvN a.sg b.sg 26
/-- What is seen of one condition. -/
structure St where
  sh : Bool
  pr : Int
  deriving DecidableEq
def St.zero : St := ⟨false, 0⟩
def stOf (x : Sg) : St := if x.sh = true then ⟨true, x.pr⟩ else St.zero
def wor (x y : St) : St := if x.sh = false ∨ (y.sh = true ∧ x.pr < y.pr) then y else x
def seeAt (l : List Sg) : Nat → List St
  | 0 => List.replicate 26 St.zero
  | j + 1 => (seeAt l j).set j (stOf (l.getD j Sg.zero))
def wiAt (a b : List St) : Nat → List St
  | 0 => a
  | j + 1 => (wiAt a b j).set j (wor (a.getD j St.zero) (b.getD j St.zero))
theorem seeAt_length (l : List Sg) : ∀ j, (seeAt l j).length = 26
  | 0 => rfl
  | j + 1 => by unfold seeAt; rw [List.length_set]; exact seeAt_length l j
theorem wiAt_length (a b : List St) : ∀ j, (wiAt a b j).length = a.length
  | 0 => rfl
  | j + 1 => by unfold wiAt; rw [List.length_set]; exact wiAt_length a b j
theorem seeAt_at (l : List Sg) : ∀ j, j ≤ 26 → ∀ i, i < 26 → (seeAt l j)[i]? = some (if i < j then stOf (l.getD i Sg.zero) else St.zero)
  | 0, _, i, hi => by
    unfold seeAt
    rw [List.getElem?_replicate, if_pos hi, if_neg (by omega)]
  | j + 1, hj, i, hi => by
    unfold seeAt
    rw [List.getElem?_set]
    by_cases e : j = i
    · subst e
      rw [if_pos rfl, if_pos (by rw [seeAt_length]; omega), if_pos (by omega)]
    · rw [if_neg e, seeAt_at l j (by omega) i hi]
      by_cases h : i < j
      · rw [if_pos h, if_pos (by omega)]
      · rw [if_neg h, if_neg (by omega)]
theorem wiAt_at (a b : List St) : ∀ j, j ≤ a.length → ∀ i, i < a.length → (wiAt a b j)[i]? = some (if i < j then wor (a.getD i St.zero) (b.getD i St.zero) else a.getD i St.zero)
  | 0, _, i, hi => by
    unfold wiAt
    rw [if_neg (by omega)]
    simp [hi]
  | j + 1, hj, i, hi => by
    unfold wiAt
    rw [List.getElem?_set]
    by_cases e : j = i
    · subst e
      rw [if_pos rfl, if_pos (by rw [wiAt_length]; omega), if_pos (by omega)]
    · rw [if_neg e, wiAt_at a b j (by omega) i hi]
      by_cases h : i < j
      · rw [if_pos h, if_pos (by omega)]
      · rw [if_neg h, if_neg (by omega)]
theorem wiAt_next (a b : List St) {j : Nat} (hj : j < a.length) : (wiAt a b j)[j]? = some (a.getD j St.zero) := by
  rw [wiAt_at a b j (by omega) j hj, if_neg (by omega)]
abbrev see (v : Vec) : List St := seeAt v.sg 26
theorem wor_same (x y : Sg) : (wor (stOf x) (stOf y) = stOf x) ↔ gvS x y = true := by
  unfold wor stOf gvS St.zero
  obtain ⟨xs, xo, xp⟩ := x
  obtain ⟨ys, yo, yp⟩ := y
  cases xs <;> cases ys <;> simp
  omega
/-- Laid one over the other: it is the first one just if that shows no less. -/
theorem with_same (a b : Vec) : (wiAt (see a) (see b) 26 = see a) ↔ gvN a.sg b.sg 26 = true := by
  rw [gvN_iff]
  have ha : (see a).length = 26 := seeAt_length _ _
  have g : ∀ (v : Vec) i, i < 26 → (see v).getD i St.zero = stOf (v.sg.getD i Sg.zero) := by
    intro v i hi
    rw [List.getD_eq_getElem?_getD, seeAt_at v.sg 26 (Nat.le_refl _) i hi, if_pos hi]
    rfl
  constructor
  · intro h i hi
    rw [← wor_same, ← g a i hi, ← g b i hi]
    have h1 := wiAt_at (see a) (see b) 26 (by omega) i (by omega)
    rw [if_pos hi, h] at h1
    have h2 : (see a).getD i St.zero = wor ((see a).getD i St.zero) ((see b).getD i St.zero) := by
      conv => lhs; rw [List.getD_eq_getElem?_getD, h1, Option.getD_some]
    exact h2.symm
  · intro h
    apply List.ext_getElem?
    intro i
    rcases Nat.lt_or_ge i 26 with hi | hi
    · rw [wiAt_at (see a) (see b) 26 (by omega) i (by omega), if_pos hi, g a i hi, g b i hi, (wor_same _ _).2 (h i hi), ← g a i hi]
      rw [List.getD_eq_getElem?_getD]
      have : i < (see a).length := by omega
      simp [this]
    · rw [List.getElem?_eq_none (by rw [wiAt_length]; omega), List.getElem?_eq_none (by omega)]
end Go.Proofs.Ytaiagijepnaalaa
