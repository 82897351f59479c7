/-
  PURE: links, turns, deeds and what they are answered; a task's run.
-/
import Derived.Test.YtkjjjibglaffnaaBase
namespace Go.Proofs.Ytkjjjibglaffnaa
open Go.RowKit
structure Lk where
  f : Int
  t : Int
  o : Option Int
structure Tn where
  u : Int
  ov : Bool
  fa : Bool
structure De where
  k : Int
  a : Int
  b : Int
structure He where
  v : Int
  is : Bool
def Tn.stop (t : Tn) : Bool := t.ov || t.fa
def Tn.new : Tn := ⟨0, false, false⟩
def Tn.fail (t : Tn) : Tn := { t with fa := true }
def useA (s : Int) (t : Tn) (n : Int) : Bool := !t.stop && decide (0 ≤ n) && decide (n ≤ s - t.u)
def useT (s : Int) (t : Tn) (n : Int) : Tn := if t.stop then t else if n < 0 then t else if s - t.u < n then { t with ov := true } else { t with u := t.u + n }
def lkAt (L : List Lk) (i : Int) : Option Lk := if 0 ≤ i then L[i.toNat]? else none
def getA (L : List Lk) (p i : Int) : He := match lkAt L i with
  | none => ⟨0, false⟩
  | some l => if l.t = p then ⟨l.o.getD 0, l.o.isSome⟩ else ⟨0, false⟩
def putA (L : List Lk) (p : Int) (t : Tn) (i : Int) : Bool := match lkAt L i with
  | none => false
  | some l => decide (l.f = p) && !t.stop
def putL (L : List Lk) (p : Int) (t : Tn) (i v : Int) : List Lk := match lkAt L i with
  | none => L
  | some l => if (decide (l.f = p) && !t.stop) = true then L.set i.toNat { l with o := some v } else L
/-- Where a run stands: the turn, the links, what was got last, what was heard. -/
structure Ru where
  t : Tn
  L : List Lk
  g : Int
  h : List He
def dst (p s : Int) (d : De) (x : Ru) : Ru :=
  if d.k = 0 then ⟨useT s x.t d.a, x.L, x.g, x.h ++ [⟨0, useA s x.t d.a⟩]⟩
  else if d.k = 1 then ⟨x.t, x.L, (getA x.L p d.a).v, x.h ++ [getA x.L p d.a]⟩
  else if d.k = 2 then ⟨x.t, putL x.L p x.t d.a d.b, x.g, x.h ++ [⟨0, putA x.L p x.t d.a⟩]⟩
  else if d.k = 3 then ⟨x.t.fail, x.L, x.g, x.h⟩
  else if d.k = 4 then ⟨x.t, putL x.L p x.t d.a (wrap64 (x.g + d.b)), x.g, x.h ++ [⟨0, putA x.L p x.t d.a⟩]⟩
  else x
def run (p s : Int) : List De → Ru → Ru
  | [], x => x
  | d :: r, x => if d.k = 5 then ⟨x.t.fail, x.L, x.g, x.h⟩ else run p s r (dst p s d x)
theorem run_cons (p s : Int) (d : De) (r : List De) (x : Ru) : run p s (d :: r) x = if d.k = 5 then ⟨x.t.fail, x.L, x.g, x.h⟩ else run p s r (dst p s d x) := rfl
theorem run_at (p s : Int) {D : List De} {j : Nat} {d : De} (h : D[j]? = some d) (x : Ru) : run p s (D.drop j) x = if d.k = 5 then ⟨x.t.fail, x.L, x.g, x.h⟩ else run p s (D.drop (j + 1)) (dst p s d x) := by
  obtain ⟨hj, e⟩ := List.getElem?_eq_some_iff.1 h
  rw [List.drop_eq_getElem_cons hj, e]
  rfl
theorem run_end (p s : Int) {D : List De} {j : Nat} (h : D.length ≤ j) (x : Ru) : run p s (D.drop j) x = x := by
  rw [List.drop_eq_nil_of_le h]
  rfl
/-- What was heard ahead makes no difference. -/
def Ru.ahead (H : List He) (x : Ru) : Ru := { x with h := H ++ x.h }
theorem dst_ahead (p s : Int) (d : De) (H : List He) (x : Ru) : dst p s d (x.ahead H) = (dst p s d x).ahead H := by
  unfold dst Ru.ahead
  dsimp only
  repeat' split
  all_goals simp
theorem run_ahead (p s : Int) (H : List He) : ∀ (D : List De) (x : Ru), run p s D (x.ahead H) = (run p s D x).ahead H
  | [], _ => rfl
  | d :: r, x => by
    rw [run_cons, run_cons]
    split
    · rfl
    · rw [dst_ahead, run_ahead p s H r]
/-- No turn uses more steps than there are. -/
def Tn.In (s : Int) (t : Tn) : Prop := 0 ≤ t.u ∧ t.u ≤ s
theorem useT_in {s : Int} {t : Tn} (h : t.In s) (n : Int) : (useT s t n).In s := by
  unfold useT
  obtain ⟨h1, h2⟩ := h
  split
  · exact ⟨h1, h2⟩
  split
  · exact ⟨h1, h2⟩
  split
  · exact ⟨h1, h2⟩
  · exact ⟨by show 0 ≤ t.u + n; omega, by show t.u + n ≤ s; omega⟩
theorem dst_in {p s : Int} {x : Ru} (h : x.t.In s) (d : De) : (dst p s d x).t.In s := by
  unfold dst
  split
  · exact useT_in h _
  repeat' split
  all_goals exact h
theorem run_in {p s : Int} : ∀ {D : List De} {x : Ru}, x.t.In s → (run p s D x).t.In s
  | [], _, h => h
  | d :: r, x, h => by
    rw [run_cons]
    split
    · exact h
    · exact run_in (dst_in h d)
/-- Where links lead does not change. -/
def skel (L : List Lk) : List (Int × Int) := L.map (fun l => (l.f, l.t))
theorem lkAt_nat {L : List Lk} {i : Int} {l : Lk} (h : lkAt L i = some l) : 0 ≤ i ∧ L[i.toNat]? = some l ∧ i.toNat < L.length := by
  unfold lkAt at h
  split at h
  · exact ⟨by assumption, h, (List.getElem?_eq_some_iff.1 h).1⟩
  · cases h
theorem putL_skel (L : List Lk) (p : Int) (t : Tn) (i v : Int) : skel (putL L p t i v) = skel L := by
  unfold putL
  split
  · rfl
  · rename_i l hl
    split
    · obtain ⟨_, h1, h2⟩ := lkAt_nat hl
      unfold skel
      rw [List.map_set]
      refine List.ext_getElem? (fun j => ?_)
      rw [List.getElem?_set]
      split
      · rename_i e
        subst e
        rw [if_pos (by simpa using h2), List.getElem?_map, h1]
        rfl
      · rfl
    · rfl
theorem putL_len (L : List Lk) (p : Int) (t : Tn) (i v : Int) : (putL L p t i v).length = L.length := by
  have := congrArg List.length (putL_skel L p t i v)
  simpa [skel] using this
theorem dst_skel (p s : Int) (d : De) (x : Ru) : skel (dst p s d x).L = skel x.L := by
  unfold dst
  repeat' split
  all_goals first | rfl | exact putL_skel ..
theorem run_skel (p s : Int) : ∀ (D : List De) (x : Ru), skel (run p s D x).L = skel x.L
  | [], _ => rfl
  | d :: r, x => by
    rw [run_cons]
    split
    · rfl
    · rw [run_skel p s r, dst_skel]
end Go.Proofs.Ytkjjjibglaffnaa
