/-
  A bus, over lists alone: topics, listeners with their rings, locks, a clock; what its calls answer, and what it is behind them.
-/
import Derived.Test.YtajjfklglnefkaaBrA
namespace Go.Proofs.Ytajjfklglnefkaa
open Go.RowKit
/-- A listener: where its ring lies, its topic, what is in its ring. -/
structure Ln where
  p : Nat
  t : Int
  s : Sg
/-- A bus: how many topics, how long a lock is free, the clock, when each lock was freed (none: it is set), its listeners' topics and rings. -/
structure Bz where
  n : Int
  fr : Int
  ck : Int
  lk : Nat → Option Int
  ls : List (Int × Sg)
/-- What may be. -/
structure Bz.Ok (b : Bz) : Prop where
  n1 : 1 ≤ b.n
  n2 : b.n ≤ 8
  f1 : 1 ≤ b.fr
  f2 : b.fr ≤ 100
  c1 : 0 ≤ b.ck
  c2 : b.ck ≤ 9223372036854775807
  len : b.ls.length ≤ 8
  lks : ∀ i t, b.lk i = some t → 0 ≤ t ∧ t ≤ b.ck
/-- No ring has lost more than m. -/
def Bz.Upto (b : Bz) (m : Nat) : Prop := ∀ x ∈ b.ls, x.2.all ≤ m
def Bz.new (n fr : Int) : Bz := ⟨n, fr, 0, fun _ => none, []⟩
theorem new_ok {n fr : Int} (h1 : 1 ≤ n) (h2 : n ≤ 8) (h3 : 1 ≤ fr) (h4 : fr ≤ 100) : (Bz.new n fr).Ok :=
  ⟨h1, h2, h3, h4, Int.le_refl 0, by show (0 : Int) ≤ _; decide, Nat.zero_le _, fun i t h => by cases h⟩
theorem new_upto (n fr : Int) (m : Nat) : (Bz.new n fr).Upto m := fun x hx => by cases hx
theorem Bz.Upto.mono {b : Bz} {m m' : Nat} (h : b.Upto m) (hm : m ≤ m') : b.Upto m' := fun x hx => Nat.le_trans (h x hx) hm
/-- Is there no such topic? -/
def Bz.noTopic (b : Bz) (t : Int) : Prop := t < 0 ∨ b.n ≤ t
/-- Join. -/
def Bz.join (b : Bz) (t : Int) : Bz := { b with ls := b.ls ++ [(t, Sg.new)] }
theorem join_ok {b : Bz} (h : b.Ok) (hl : b.ls.length < 8) (t : Int) : (b.join t).Ok :=
  { h with len := by show (b.ls ++ [(t, Sg.new)]).length ≤ 8; rw [List.length_append, List.length_singleton]; omega }
theorem join_upto {b : Bz} {m : Nat} (h : b.Upto m) (t : Int) : (b.join t).Upto m := fun x hx => by
  rcases List.mem_append.1 hx with e | e
  · exact h x e
  · simp at e; subst e; exact Nat.zero_le _
/-- Tell. -/
def tell1 (t v : Int) (x : Int × Sg) : Int × Sg := if x.1 = t then (x.1, x.2.put 16 v) else x
def Bz.tell (b : Bz) (t v : Int) : Bz := { b with ls := b.ls.map (tell1 t v) }
def hits (t : Int) (l : List (Int × Sg)) : Nat := l.countP (fun x => x.1 == t)
theorem hits_le (t : Int) (l : List (Int × Sg)) : hits t l ≤ l.length := List.countP_le_length
theorem tell_ok {b : Bz} (h : b.Ok) (t v : Int) : (b.tell t v).Ok := { h with len := by show (b.ls.map _).length ≤ 8; rw [List.length_map]; exact h.len }
theorem put_upto (n : Nat) (s : Sg) (v : Int) : (s.put n v).all ≤ s.all + 1 := by
  unfold Sg.put
  split
  · exact Nat.le_succ _
  · exact Nat.le_refl _
theorem tell_upto {b : Bz} {m : Nat} (h : b.Upto m) (t v : Int) : (b.tell t v).Upto (m + 1) := fun x hx => by
  obtain ⟨y, hy, rfl⟩ := List.mem_map.1 hx
  have := h y hy
  unfold tell1
  split
  · have := put_upto 16 y.2 v
    show (y.2.put 16 v).all ≤ m + 1
    omega
  · omega
/-- Hear: what is in a ring; how many were lost; what is left. -/
def Sg.gone (s : Sg) : Nat := if s.l = [] then 0 else s.since
def Sg.bare (s : Sg) : Sg := if s.l = [] then s else ⟨[], 0, s.all⟩
theorem bare_all (s : Sg) : s.bare.all = s.all := by unfold Sg.bare; split <;> rfl
theorem bare_nil (a b : Nat) : (Sg.mk [] a b).bare = ⟨[], a, b⟩ := rfl
theorem bare_cons (y : Int) (r : List Int) (a b : Nat) : (Sg.mk (y :: r) a b).bare = ⟨[], 0, b⟩ := rfl
theorem gone_nil (a b : Nat) : (Sg.mk [] a b).gone = 0 := rfl
theorem gone_cons (y : Int) (r : List Int) (a b : Nat) : (Sg.mk (y :: r) a b).gone = a := rfl
def hear1 (x : Int × Sg) : Int × Sg := (x.1, x.2.bare)
def Bz.hear (b : Bz) (i : Nat) : Bz := { b with ls := b.ls.modify i hear1 }
theorem hear_ok {b : Bz} (h : b.Ok) (i : Nat) : (b.hear i).Ok := { h with len := by show (b.ls.modify i hear1).length ≤ 8; rw [List.length_modify]; exact h.len }
theorem hear_upto {b : Bz} {m : Nat} (h : b.Upto m) (i : Nat) : (b.hear i).Upto m := fun x hx => by
  obtain ⟨j, hj⟩ := List.getElem?_of_mem hx
  have hj' : (b.ls.modify i hear1)[j]? = some x := hj
  rw [List.getElem?_modify] at hj'
  obtain ⟨y, hy, e⟩ := Option.map_eq_some_iff.1 hj'
  have := h y (List.mem_of_getElem? hy)
  split at e
  · subst e; show y.2.bare.all ≤ m; rw [bare_all]; exact this
  · subst e; exact this
/-- The locks. -/
def setAt (f : Nat → Option Int) (i : Nat) (x : Option Int) : Nat → Option Int := fun k => if k = i then x else f k
theorem setAt_same (f : Nat → Option Int) (i : Nat) (x : Option Int) : setAt f i x i = x := if_pos rfl
theorem setAt_other (f : Nat → Option Int) {i k : Nat} (x : Option Int) (h : k ≠ i) : setAt f i x k = f k := if_neg h
def Bz.free (b : Bz) (i : Nat) (t : Int) : Bz := { b with ck := t, lk := setAt b.lk i (some t) }
def Bz.set (b : Bz) (i : Nat) : Bz := { b with lk := setAt b.lk i none }
def Bz.at (b : Bz) (t : Int) : Bz := { b with ck := t }
theorem at_ok {b : Bz} (h : b.Ok) {t : Int} (ht : b.ck ≤ t) (ht2 : t ≤ 9223372036854775807) : (b.at t).Ok :=
  { h with c1 := Int.le_trans h.c1 ht, c2 := ht2, lks := fun i x hx => by have := h.lks i x hx; exact ⟨this.1, Int.le_trans this.2 ht⟩ }
theorem free_ok {b : Bz} (h : b.Ok) {t : Int} (ht : b.ck ≤ t) (ht2 : t ≤ 9223372036854775807) (i : Nat) : (b.free i t).Ok := by
  refine ⟨h.n1, h.n2, h.f1, h.f2, Int.le_trans h.c1 ht, ht2, h.len, fun k x hx => ?_⟩
  have hx : setAt b.lk i (some t) k = some x := hx
  unfold setAt at hx
  split at hx
  · cases hx; exact ⟨Int.le_trans h.c1 ht, Int.le_refl _⟩
  · have := h.lks k x hx; exact ⟨this.1, Int.le_trans this.2 ht⟩
theorem set_ok {b : Bz} (h : b.Ok) (i : Nat) : (b.set i).Ok := by
  refine ⟨h.n1, h.n2, h.f1, h.f2, h.c1, h.c2, h.len, fun k x hx => ?_⟩
  have hx : setAt b.lk i none k = some x := hx
  unfold setAt at hx
  split at hx
  · cases hx
  · exact h.lks k x hx
/-- Is it set at a tick? -/
def lockd (fr t : Int) : Option Int → Bool
  | none => true
  | some a => decide (fr ≤ t - a)
def Bz.locked (b : Bz) (i : Nat) (t : Int) : Bool := lockd b.fr t (b.lk i)
/-- A lock, as the program keeps it: was it freed; when. -/
def frd (x : Option Int) : Bool := x.isSome
def whn (x : Option Int) : Int := x.getD 0
/-- As the document keeps it. -/
def whd (x : Option Int) : Int := x.getD (-1)
end Go.Proofs.Ytajjfklglnefkaa
