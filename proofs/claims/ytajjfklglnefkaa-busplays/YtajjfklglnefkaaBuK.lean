/-
  What each call answers, and what the bus is behind it, of all arguments: the program's and the document's, in the same words; both side by side.
-/
import Derived.Test.YtajjfklglnefkaaBuB
import Derived.Test.YtajjfklglnefkaaBuC
import Derived.Test.YtajjfklglnefkaaBuJ
import Derived.Test.YtajjfklglnefkaaAlT
namespace Go.Proofs.Ytajjfklglnefkaa
open Go.RowKit
set_option maxRecDepth 8000
/-- Join, Tell, Hear, Free, Set, Locked: the answers, and the bus behind. -/
def Bz.joinA (b : Bz) (t : Int) : Int × Int := if t < 0 ∨ b.n ≤ t then (0, 200) else if b.ls.length = 8 then (0, 6) else ((b.ls.length : Int), 0)
def Bz.joinS (b : Bz) (t : Int) : Bz := if t < 0 ∨ b.n ≤ t then b else if b.ls.length = 8 then b else b.join t
def Bz.tellA (b : Bz) (t : Int) : Int × Int := if t < 0 ∨ b.n ≤ t then (0, 200) else ((hits t b.ls : Int), 0)
def Bz.tellS (b : Bz) (t v : Int) : Bz := if t < 0 ∨ b.n ≤ t then b else b.tell t v
def Bz.ringOf (b : Bz) (i : Int) : Sg := ((b.ls[i.toNat]?).getD (0, Sg.new)).2
def Bz.hearL (b : Bz) (i : Int) : List Int := if i < 0 ∨ (b.ls.length : Int) ≤ i then [] else (b.ringOf i).l
def Bz.hearA (b : Bz) (i : Int) : Int × Int := if i < 0 ∨ (b.ls.length : Int) ≤ i then (0, 2) else (((b.ringOf i).gone : Int), 0)
def Bz.hearS (b : Bz) (i : Int) : Bz := if i < 0 ∨ (b.ls.length : Int) ≤ i then b else b.hear i.toNat
def Bz.freeA (b : Bz) (i t : Int) : Int := if i < 0 ∨ 3 < i then 2 else if t < b.ck then 9 else 0
def Bz.freeS (b : Bz) (i t : Int) : Bz := if i < 0 ∨ 3 < i then b else if t < b.ck then b else b.free i.toNat t
def Bz.setA (_ : Bz) (i : Int) : Int := if i < 0 ∨ 3 < i then 2 else 0
def Bz.setS (b : Bz) (i : Int) : Bz := if i < 0 ∨ 3 < i then b else b.set i.toNat
def Bz.lockA (b : Bz) (i t : Int) : Bool × Int := if i < 0 ∨ 3 < i then (false, 2) else if t < b.ck then (false, 9) else (b.locked i.toNat t, 0)
def Bz.lockS (b : Bz) (i t : Int) : Bz := if i < 0 ∨ 3 < i then b else if t < b.ck then b else b.at t
theorem joinS_upto {b : Bz} {m : Nat} (h : b.Upto m) (t : Int) : (b.joinS t).Upto m := by
  unfold Bz.joinS
  split
  · exact h
  · split
    · exact h
    · exact join_upto h t
theorem tellS_upto {b : Bz} {m : Nat} (h : b.Upto m) (t v : Int) : (b.tellS t v).Upto (m + 1) := by
  unfold Bz.tellS
  split
  · exact h.mono (Nat.le_succ m)
  · exact tell_upto h t v
theorem hearS_upto {b : Bz} {m : Nat} (h : b.Upto m) (i : Int) : (b.hearS i).Upto m := by
  unfold Bz.hearS
  split
  · exact h
  · exact hear_upto h _
theorem freeS_upto {b : Bz} {m : Nat} (h : b.Upto m) (i t : Int) : (b.freeS i t).Upto m := by
  unfold Bz.freeS
  split
  · exact h
  · split <;> exact h
theorem setS_upto {b : Bz} {m : Nat} (h : b.Upto m) (i : Int) : (b.setS i).Upto m := by
  unfold Bz.setS
  split <;> exact h
theorem lockS_upto {b : Bz} {m : Nat} (h : b.Upto m) (i t : Int) : (b.lockS i t).Upto m := by
  unfold Bz.lockS
  split
  · exact h
  · split <;> exact h
theorem one_goes {w w' : World} {p : Nat} {o : Nat → Nat} (h : But (One p) w w') (hp : o p = 1) : Goes w w' o o := Goes.same (h.mono (fun k _ e => by have e : k = p := e; show o k ≠ 0; rw [e, hp]; decide))
theorem Bu.lbl {w : World} {p : Nat} {o : Nat → Nat} {b : Bz} (x : Bu w p o b) : o p = 1 := by
  obtain ⟨cs, v, xs, x⟩ := x
  exact x.lp
theorem Rb.lbl {w : World} {g : Nat} {o : Nat → Nat} {b : Bz} (x : Rb w g o b) : o g = 1 := by
  obtain ⟨cs, vt, vr, ts, ps, x⟩ := x
  exact x.lp
theorem buJoin {w : World} {p : Nat} {o : Nat → Nat} {b : Bz} (x : Bu w p o b) (t : Int) : Calls Try.prog 11 #[Ptr p, .int .i64 t] w fun e w' => e = .returned (.tuple #[.int .i64 (b.joinA t).1, .int .i64 (b.joinA t).2]) ∧ ∃ o', Bu w' p o' (b.joinS t) ∧ Goes w w' o o' := by
  unfold Bz.joinA Bz.joinS
  by_cases h : t < 0 ∨ b.n ≤ t
  · rw [if_pos h, if_pos h]
    exact (join_no x h).mono (fun e w' ⟨h1, h2⟩ => ⟨h1, o, by rw [h2]; exact x, by rw [h2]; exact Goes.rfl⟩)
  rw [if_neg h, if_neg h]
  have h1 : 0 ≤ t := by omega
  have h2 : t < b.n := by omega
  by_cases hl : b.ls.length = 8
  · rw [if_pos hl, if_pos hl]
    exact (join_many x h1 h2 hl).mono (fun e w' ⟨h1, h2⟩ => ⟨h1, o, by rw [h2]; exact x, by rw [h2]; exact Goes.rfl⟩)
  rw [if_neg hl, if_neg hl]
  exact join_yes x h1 h2 (by have := x.ok.len; omega)
theorem rbJoin {w : World} {g : Nat} {o : Nat → Nat} {b : Bz} (x : Rb w g o b) (t : Int) : Calls Try.prog 19 #[Ptr g, .int .i64 t] w fun e w' => e = .returned (.tuple #[.int .i64 (b.joinA t).1, .int .i64 (b.joinA t).2]) ∧ ∃ o', Rb w' g o' (b.joinS t) ∧ Goes w w' o o' := by
  unfold Bz.joinA Bz.joinS
  by_cases h : t < 0 ∨ b.n ≤ t
  · rw [if_pos h, if_pos h]
    exact (rjoin_none x h).mono (fun e w' ⟨h1, h2⟩ => ⟨h1, o, by rw [h2]; exact x, by rw [h2]; exact Goes.rfl⟩)
  rw [if_neg h, if_neg h]
  have h1 : 0 ≤ t := by omega
  have h2 : t < b.n := by omega
  by_cases hl : b.ls.length = 8
  · rw [if_pos hl, if_pos hl]
    exact (rjoin_many x h1 h2 hl).mono (fun e w' ⟨h1, h2⟩ => ⟨h1, o, by rw [h2]; exact x, by rw [h2]; exact Goes.rfl⟩)
  rw [if_neg hl, if_neg hl]
  exact rjoin_yes x h1 h2 (by have := x.ok.len; omega)
theorem buTell {w : World} {p : Nat} {o : Nat → Nat} {b : Bz} (x : Bu w p o b) (hu : b.Upto 999999) (t v : Int) : Calls Try.prog 12 #[Ptr p, .int .i64 t, .int .i64 v] w fun e w' => e = .returned (.tuple #[.int .i64 (b.tellA t).1, .int .i64 (b.tellA t).2]) ∧ ∃ o', Bu w' p o' (b.tellS t v) ∧ Goes w w' o o' := by
  unfold Bz.tellA Bz.tellS
  by_cases h : t < 0 ∨ b.n ≤ t
  · rw [if_pos h, if_pos h]
    exact (tell_no x h v).mono (fun e w' ⟨h1, h2⟩ => ⟨h1, o, by rw [h2]; exact x, by rw [h2]; exact Goes.rfl⟩)
  rw [if_neg h, if_neg h]
  exact (tell_yes x (by omega) (by omega) hu v).mono (fun e w' ⟨h1, h2, h3⟩ => ⟨h1, o, h2, h3⟩)
theorem rbTell {w : World} {g : Nat} {o : Nat → Nat} {b : Bz} (x : Rb w g o b) (hu : b.Upto 999999) (t v : Int) : Calls Try.prog 20 #[Ptr g, .int .i64 t, .int .i64 v] w fun e w' => e = .returned (.tuple #[.int .i64 (b.tellA t).1, .int .i64 (b.tellA t).2]) ∧ ∃ o', Rb w' g o' (b.tellS t v) ∧ Goes w w' o o' := by
  unfold Bz.tellA Bz.tellS
  by_cases h : t < 0 ∨ b.n ≤ t
  · rw [if_pos h, if_pos h]
    exact (rtell_no x h v).mono (fun e w' ⟨h1, h2⟩ => ⟨h1, o, by rw [h2]; exact x, by rw [h2]; exact Goes.rfl⟩)
  rw [if_neg h, if_neg h]
  exact rtell_yes x (by omega) (by omega) hu v
theorem ring_at {b : Bz} {i : Int} (h : ¬ (i < 0 ∨ (b.ls.length : Int) ≤ i)) : ∃ T, b.ls[i.toNat]? = some (T, b.ringOf i) := by
  have hl : i.toNat < b.ls.length := by omega
  unfold Bz.ringOf
  rw [List.getElem?_eq_getElem hl]
  exact ⟨_, rfl⟩
theorem buHear {w : World} {p : Nat} {o : Nat → Nat} {b : Bz} (x : Bu w p o b) (i : Int) : Calls Try.prog 14 #[Ptr p, .int .i64 i] w fun e w' => ∃ v, e = .returned (.tuple #[v, .int .i64 (b.hearA i).1, .int .i64 (b.hearA i).2]) ∧ OInts w' w.heap.size v (b.hearL i) ∧ Bu w' p o (b.hearS i) ∧ Goes w w' o o := by
  unfold Bz.hearA Bz.hearS Bz.hearL
  by_cases h : i < 0 ∨ (b.ls.length : Int) ≤ i
  · rw [if_pos h, if_pos h, if_pos h]
    exact (hear_no x h).mono (fun e w' ⟨h1, h2⟩ => ⟨_, h1, own_nil _ _, by rw [h2]; exact x, by rw [h2]; exact Goes.rfl⟩)
  rw [if_neg h, if_neg h, if_neg h]
  obtain ⟨T, hT⟩ := ring_at h
  have := hear_yes x hT
  rw [show ((i.toNat : Nat) : Int) = i by omega] at this
  exact this.mono (fun e w' ⟨v, h1, h2, h3, h4⟩ => ⟨v, h1, h2, h3, Goes.same h4⟩)
theorem rbHear {w : World} {g : Nat} {o : Nat → Nat} {b : Bz} (x : Rb w g o b) (i : Int) : Calls Try.prog 21 #[Ptr g, .int .i64 i] w fun e w' => ∃ v, e = .returned (.tuple #[v, .int .i64 (b.hearA i).1, .int .i64 (b.hearA i).2]) ∧ OInts w' w.heap.size v (b.hearL i) ∧ Rb w' g o (b.hearS i) ∧ Goes w w' o o := by
  unfold Bz.hearA Bz.hearS Bz.hearL
  by_cases h : i < 0 ∨ (b.ls.length : Int) ≤ i
  · rw [if_pos h, if_pos h, if_pos h]
    exact (rhear_no x h).mono (fun e w' ⟨h1, h2⟩ => ⟨_, h1, own_nil _ _, by rw [h2]; exact x, by rw [h2]; exact Goes.rfl⟩)
  rw [if_neg h, if_neg h, if_neg h]
  obtain ⟨T, hT⟩ := ring_at h
  have := rhear_yes x hT
  rw [show ((i.toNat : Nat) : Int) = i by omega] at this
  exact this.mono (fun e w' ⟨v, h1, h2, h3, h4⟩ => ⟨v, h1, h2, h3, Goes.same h4⟩)
theorem buFree {w : World} {p : Nat} {o : Nat → Nat} {b : Bz} (x : Bu w p o b) (i : Int) {t : Int} (ht2 : t ≤ 9223372036854775807) : Calls Try.prog 16 #[Ptr p, .int .i64 i, .int .i64 t] w fun e w' => e = .returned (.int .i64 (b.freeA i t)) ∧ ∃ o', Bu w' p o' (b.freeS i t) ∧ Goes w w' o o' := by
  unfold Bz.freeA Bz.freeS
  by_cases h : i < 0 ∨ 3 < i
  · rw [if_pos h, if_pos h]
    exact (free_no x h t).mono (fun e w' ⟨h1, h2⟩ => ⟨h1, o, by rw [h2]; exact x, by rw [h2]; exact Goes.rfl⟩)
  rw [if_neg h, if_neg h]
  by_cases hc : t < b.ck
  · rw [if_pos hc, if_pos hc]
    exact (free_early x (by omega) (by omega) hc).mono (fun e w' ⟨h1, h2⟩ => ⟨h1, o, by rw [h2]; exact x, by rw [h2]; exact Goes.rfl⟩)
  rw [if_neg hc, if_neg hc]
  have := free_yes x (i := i.toNat) (by omega) (t := t) (by omega) ht2
  rw [show ((i.toNat : Nat) : Int) = i by omega] at this
  exact this.mono (fun e w' ⟨h1, h2, h3⟩ => ⟨h1, o, h2, one_goes h3 x.lbl⟩)
theorem rbFree {w : World} {g : Nat} {o : Nat → Nat} {b : Bz} (x : Rb w g o b) (i : Int) {t : Int} (ht2 : t ≤ 9223372036854775807) : Calls Try.prog 22 #[Ptr g, .int .i64 i, .int .i64 t] w fun e w' => e = .returned (.int .i64 (b.freeA i t)) ∧ ∃ o', Rb w' g o' (b.freeS i t) ∧ Goes w w' o o' := by
  unfold Bz.freeA Bz.freeS
  by_cases h : i < 0 ∨ 3 < i
  · rw [if_pos h, if_pos h]
    exact (rfree_no w g h t).mono (fun e w' ⟨h1, h2⟩ => ⟨h1, o, by rw [h2]; exact x, by rw [h2]; exact Goes.rfl⟩)
  rw [if_neg h, if_neg h]
  by_cases hc : t < b.ck
  · rw [if_pos hc, if_pos hc]
    exact (rfree_early x (by omega) (by omega) hc).mono (fun e w' ⟨h1, h2⟩ => ⟨h1, o, by rw [h2]; exact x, by rw [h2]; exact Goes.rfl⟩)
  rw [if_neg hc, if_neg hc]
  have := rfree_yes x (i := i.toNat) (by omega) (t := t) (by omega) ht2
  rw [show ((i.toNat : Nat) : Int) = i by omega] at this
  exact this.mono (fun e w' ⟨h1, h2, h3⟩ => ⟨h1, o, h2, one_goes h3 x.lbl⟩)
theorem buSet {w : World} {p : Nat} {o : Nat → Nat} {b : Bz} (x : Bu w p o b) (i : Int) : Calls Try.prog 17 #[Ptr p, .int .i64 i] w fun e w' => e = .returned (.int .i64 (b.setA i)) ∧ ∃ o', Bu w' p o' (b.setS i) ∧ Goes w w' o o' := by
  unfold Bz.setA Bz.setS
  by_cases h : i < 0 ∨ 3 < i
  · rw [if_pos h, if_pos h]
    exact (set_no x h).mono (fun e w' ⟨h1, h2⟩ => ⟨h1, o, by rw [h2]; exact x, by rw [h2]; exact Goes.rfl⟩)
  rw [if_neg h, if_neg h]
  have := set_yes x (i := i.toNat) (by omega)
  rw [show ((i.toNat : Nat) : Int) = i by omega] at this
  exact this.mono (fun e w' ⟨h1, h2, h3⟩ => ⟨h1, o, h2, one_goes h3 x.lbl⟩)
theorem rbSet {w : World} {g : Nat} {o : Nat → Nat} {b : Bz} (x : Rb w g o b) (i : Int) : Calls Try.prog 23 #[Ptr g, .int .i64 i] w fun e w' => e = .returned (.int .i64 (b.setA i)) ∧ ∃ o', Rb w' g o' (b.setS i) ∧ Goes w w' o o' := by
  unfold Bz.setA Bz.setS
  by_cases h : i < 0 ∨ 3 < i
  · rw [if_pos h, if_pos h]
    exact (rset_no w g h).mono (fun e w' ⟨h1, h2⟩ => ⟨h1, o, by rw [h2]; exact x, by rw [h2]; exact Goes.rfl⟩)
  rw [if_neg h, if_neg h]
  have := rset_yes x (i := i.toNat) (by omega)
  rw [show ((i.toNat : Nat) : Int) = i by omega] at this
  exact this.mono (fun e w' ⟨h1, h2, h3⟩ => ⟨h1, o, h2, one_goes h3 x.lbl⟩)
theorem buLocked {w : World} {p : Nat} {o : Nat → Nat} {b : Bz} (x : Bu w p o b) (i : Int) {t : Int} (ht2 : t ≤ 9223372036854775807) : Calls Try.prog 18 #[Ptr p, .int .i64 i, .int .i64 t] w fun e w' => e = .returned (.tuple #[.bool (b.lockA i t).1, .int .i64 (b.lockA i t).2]) ∧ ∃ o', Bu w' p o' (b.lockS i t) ∧ Goes w w' o o' := by
  unfold Bz.lockA Bz.lockS
  by_cases h : i < 0 ∨ 3 < i
  · rw [if_pos h, if_pos h]
    exact (locked_no x h t).mono (fun e w' ⟨h1, h2⟩ => ⟨h1, o, by rw [h2]; exact x, by rw [h2]; exact Goes.rfl⟩)
  rw [if_neg h, if_neg h]
  by_cases hc : t < b.ck
  · rw [if_pos hc, if_pos hc]
    exact (locked_early x (by omega) (by omega) hc).mono (fun e w' ⟨h1, h2⟩ => ⟨h1, o, by rw [h2]; exact x, by rw [h2]; exact Goes.rfl⟩)
  rw [if_neg hc, if_neg hc]
  have := locked_yes x (i := i.toNat) (by omega) (t := t) (by omega) ht2
  rw [show ((i.toNat : Nat) : Int) = i by omega] at this
  exact this.mono (fun e w' ⟨h1, h2, h3⟩ => ⟨h1, o, h2, one_goes h3 x.lbl⟩)
theorem rbLocked {w : World} {g : Nat} {o : Nat → Nat} {b : Bz} (x : Rb w g o b) (i : Int) {t : Int} (ht2 : t ≤ 9223372036854775807) : Calls Try.prog 24 #[Ptr g, .int .i64 i, .int .i64 t] w fun e w' => e = .returned (.tuple #[.bool (b.lockA i t).1, .int .i64 (b.lockA i t).2]) ∧ ∃ o', Rb w' g o' (b.lockS i t) ∧ Goes w w' o o' := by
  unfold Bz.lockA Bz.lockS
  by_cases h : i < 0 ∨ 3 < i
  · rw [if_pos h, if_pos h]
    exact (rlocked_no w g h t).mono (fun e w' ⟨h1, h2⟩ => ⟨h1, o, by rw [h2]; exact x, by rw [h2]; exact Goes.rfl⟩)
  rw [if_neg h, if_neg h]
  by_cases hc : t < b.ck
  · rw [if_pos hc, if_pos hc]
    exact (rlocked_early x (by omega) (by omega) hc).mono (fun e w' ⟨h1, h2⟩ => ⟨h1, o, by rw [h2]; exact x, by rw [h2]; exact Goes.rfl⟩)
  rw [if_neg hc, if_neg hc]
  have := rlocked_yes x (i := i.toNat) (by omega) (t := t) (by omega) ht2
  rw [show ((i.toNat : Nat) : Int) = i by omega] at this
  exact this.mono (fun e w' ⟨h1, h2, h3⟩ => ⟨h1, o, h2, one_goes h3 x.lbl⟩)
/-- A bus that was made behind w0. -/
structure Sole (w0 W : World) (p : Nat) (b : Bz) : Prop where
  aft : After w0 W
  bus : ∃ o, Bu W p o b ∧ ∀ k, o k ≠ 0 → w0.heap.size ≤ k
theorem Goes.new {w0 w w' : World} {o o' : Nat → Nat} (h : Goes w w' o o') (hw : w0.heap.size ≤ w.heap.size) (ho : ∀ k, o k ≠ 0 → w0.heap.size ≤ k) : ∀ k, o' k ≠ 0 → w0.heap.size ≤ k := fun k hk => by
  rcases Nat.lt_or_ge k w.heap.size with h1 | h1
  · rw [h.ext k h1] at hk; exact ho k hk
  · omega
theorem Sole.goes {w0 W W' : World} {p : Nat} {b' : Bz} {o o' : Nat → Nat} (a : After w0 W) (ho : ∀ k, o k ≠ 0 → w0.heap.size ≤ k) (x : Bu W' p o' b') (h : Goes W W' o o') : Sole w0 W' p b' :=
  ⟨a.then h.but (fun k hk e => by have := ho k e; omega), o', x, h.new a.size ho⟩
theorem Sole.after {w0 W W' : World} {p : Nat} {b : Bz} (h : Sole w0 W p b) (a : After W W') : Sole w0 W' p b := by
  obtain ⟨o, x, ho⟩ := h.bus
  exact ⟨h.aft.trans a, o, x.after a, ho⟩
theorem sole_new {w : World} {n fr : Int} (h1 : 1 ≤ n) (h2 : n ≤ 8) (h3 : 1 ≤ fr) (h4 : fr ≤ 100) : Calls Try.prog 7 #[.int .i64 n, .int .i64 fr] w fun e w' => e = .returned (.tuple #[Ptr w.heap.size, .int .i64 0]) ∧ Sole w w' w.heap.size (Bz.new n fr) :=
  (buNew_ok w n fr h1 h2 h3 h4).mono (fun e w' ⟨e1, e2⟩ => ⟨e1, by rw [e2]; exact After.rfl.alloc _, lone w.heap.size, by rw [e2]; exact bu_new (heap_alloc_new w _) h1 h2 h3 h4, fun k hk => by rw [lone_ne hk]; exact Nat.le_refl _⟩)
theorem Sole.join {w0 W : World} {p : Nat} {b : Bz} (h : Sole w0 W p b) (t : Int) : Calls Try.prog 11 #[Ptr p, .int .i64 t] W fun e w' => e = .returned (.tuple #[.int .i64 (b.joinA t).1, .int .i64 (b.joinA t).2]) ∧ Sole w0 w' p (b.joinS t) := by
  obtain ⟨o, x, ho⟩ := h.bus
  exact (buJoin x t).mono (fun e w' ⟨h1, o', h2, h3⟩ => ⟨h1, Sole.goes h.aft ho h2 h3⟩)
theorem Sole.tell {w0 W : World} {p : Nat} {b : Bz} (h : Sole w0 W p b) (hu : b.Upto 999999) (t v : Int) : Calls Try.prog 12 #[Ptr p, .int .i64 t, .int .i64 v] W fun e w' => e = .returned (.tuple #[.int .i64 (b.tellA t).1, .int .i64 (b.tellA t).2]) ∧ Sole w0 w' p (b.tellS t v) := by
  obtain ⟨o, x, ho⟩ := h.bus
  exact (buTell x hu t v).mono (fun e w' ⟨h1, o', h2, h3⟩ => ⟨h1, Sole.goes h.aft ho h2 h3⟩)
/-- The same beside a row of ints that is none of its own. -/
structure Held (w0 W : World) (p : Nat) (b : Bz) (v : Value) (zs : List Int) : Prop where
  aft : After w0 W
  bus : ∃ o, Bu W p o b ∧ (∀ k, o k ≠ 0 → w0.heap.size ≤ k) ∧ ∀ k, v.ownBlock = some k → o k = 0
  row : OInts W 0 v zs
theorem Held.goes {w0 W W' : World} {p : Nat} {b' : Bz} {v : Value} {zs : List Int} {o o' : Nat → Nat} (a : After w0 W) (ho : ∀ k, o k ≠ 0 → w0.heap.size ≤ k) (hv : ∀ k, v.ownBlock = some k → o k = 0) (r : OInts W 0 v zs) (x : Bu W' p o' b') (h : Goes W W' o o') : Held w0 W' p b' v zs :=
  ⟨a.then h.but (fun k hk e => by have := ho k e; omega), ⟨o', x, h.new a.size ho, fun k hk => by rw [h.ext k (own_lt r hk).2]; exact hv k hk⟩, own_but r h.but (fun k hk e => e (hv k hk))⟩
theorem Held.after {w0 W W' : World} {p : Nat} {b : Bz} {v : Value} {zs : List Int} (h : Held w0 W p b v zs) (a : After W W') : Held w0 W' p b v zs := by
  obtain ⟨o, x, ho, hv⟩ := h.bus
  exact ⟨h.aft.trans a, ⟨o, x.after a, ho, hv⟩, own_after h.row a⟩
theorem Sole.hear {w0 W : World} {p : Nat} {b : Bz} (h : Sole w0 W p b) (i : Int) : Calls Try.prog 14 #[Ptr p, .int .i64 i] W fun e w' => ∃ v, e = .returned (.tuple #[v, .int .i64 (b.hearA i).1, .int .i64 (b.hearA i).2]) ∧ Held w0 w' p (b.hearS i) v (b.hearL i) := by
  obtain ⟨o, x, ho⟩ := h.bus
  exact (buHear x i).mono (fun e w' ⟨v, h1, h0, h2, h3⟩ => ⟨v, h1, h.aft.then h3.but (fun k hk e => by have := ho k e; omega), ⟨o, h2, ho, fun k hk => by
    rcases Nat.eq_zero_or_pos (o k) with h4 | h4
    · exact h4
    · have h5 := (own_lt h0 hk).1
      have h6 := x.bnd k (by omega)
      omega⟩, own_base h0 (fun _ _ => Nat.zero_le _)⟩)
theorem Held.free {w0 W : World} {p : Nat} {b : Bz} {v : Value} {zs : List Int} (h : Held w0 W p b v zs) (i : Int) {t : Int} (ht2 : t ≤ 9223372036854775807) : Calls Try.prog 16 #[Ptr p, .int .i64 i, .int .i64 t] W fun e w' => e = .returned (.int .i64 (b.freeA i t)) ∧ Held w0 w' p (b.freeS i t) v zs := by
  obtain ⟨o, x, ho, hv⟩ := h.bus
  exact (buFree x i ht2).mono (fun e w' ⟨h1, o', h2, h3⟩ => ⟨h1, Held.goes h.aft ho hv h.row h2 h3⟩)
theorem Held.locked {w0 W : World} {p : Nat} {b : Bz} {v : Value} {zs : List Int} (h : Held w0 W p b v zs) (i : Int) {t : Int} (ht2 : t ≤ 9223372036854775807) : Calls Try.prog 18 #[Ptr p, .int .i64 i, .int .i64 t] W fun e w' => e = .returned (.tuple #[.bool (b.lockA i t).1, .int .i64 (b.lockA i t).2]) ∧ Held w0 w' p (b.lockS i t) v zs := by
  obtain ⟨o, x, ho, hv⟩ := h.bus
  exact (buLocked x i ht2).mono (fun e w' ⟨h1, o', h2, h3⟩ => ⟨h1, Held.goes h.aft ho hv h.row h2 h3⟩)
theorem Sole.free {w0 W : World} {p : Nat} {b : Bz} (h : Sole w0 W p b) (i : Int) {t : Int} (ht2 : t ≤ 9223372036854775807) : Calls Try.prog 16 #[Ptr p, .int .i64 i, .int .i64 t] W fun e w' => e = .returned (.int .i64 (b.freeA i t)) ∧ Sole w0 w' p (b.freeS i t) := by
  obtain ⟨o, x, ho⟩ := h.bus
  exact (buFree x i ht2).mono (fun e w' ⟨h1, o', h2, h3⟩ => ⟨h1, Sole.goes h.aft ho h2 h3⟩)
theorem Sole.set {w0 W : World} {p : Nat} {b : Bz} (h : Sole w0 W p b) (i : Int) : Calls Try.prog 17 #[Ptr p, .int .i64 i] W fun e w' => e = .returned (.int .i64 (b.setA i)) ∧ Sole w0 w' p (b.setS i) := by
  obtain ⟨o, x, ho⟩ := h.bus
  exact (buSet x i).mono (fun e w' ⟨h1, o', h2, h3⟩ => ⟨h1, Sole.goes h.aft ho h2 h3⟩)
theorem Sole.locked {w0 W : World} {p : Nat} {b : Bz} (h : Sole w0 W p b) (i : Int) {t : Int} (ht2 : t ≤ 9223372036854775807) : Calls Try.prog 18 #[Ptr p, .int .i64 i, .int .i64 t] W fun e w' => e = .returned (.tuple #[.bool (b.lockA i t).1, .int .i64 (b.lockA i t).2]) ∧ Sole w0 w' p (b.lockS i t) := by
  obtain ⟨o, x, ho⟩ := h.bus
  exact (buLocked x i ht2).mono (fun e w' ⟨h1, o', h2, h3⟩ => ⟨h1, Sole.goes h.aft ho h2 h3⟩)
end Go.Proofs.Ytajjfklglnefkaa
