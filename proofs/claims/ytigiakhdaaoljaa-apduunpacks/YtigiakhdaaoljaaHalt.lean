/-
  What is thrown, and what throws it: stop, must.
-/
import Derived.Test.YtigiakhdaaoljaaRefO
import Derived.Test.YtigiakhdaaoljaaRefX
import Derived.Test.YtigiakhdaaoljaaHelp
import Derived.Recover
namespace Go.Proofs.Ytigiakhdaaoljaa
open Go.RowKit
set_option maxRecDepth 8000
/-- A halt for a reason. -/
def Halt (why : Int) : List PanicEntry := [{ v := .iface 68 (.agg #[.int .i64 why]), recovered := false }]
/-- A coder of two pointers. -/
abbrev Co (p q : Option Addr) : Value := .agg #[.pointer p, .pointer q]
/-- The reason that is told: a message that can't be written is an argument that may not be. -/
def stp (m : Bool) (e : Int) : Int := if m then 2 else e
theorem stop_any (w : World) (p q : Option Addr) (x : Int) :
    Calls Try.prog 27 #[Co p q, .int .i64 x] w fun e w' => e = .panicked (Halt (stp q.isSome x)) ∧ After w w' := by
  have HA := hideIt (After.rfl (w := w))
  cases q with
  | none =>
    go_enter Try.func27, Try.ntmps27
    go_wp2
    exact ⟨rfl, rfl, HA.out.alloc _⟩
  | some y =>
    go_enter Try.func27, Try.ntmps27
    go_wp2
    exact ⟨rfl, rfl, HA.out.alloc _⟩
theorem must_yes (w : World) (p q : Option Addr) :
    Calls Try.prog 42 #[Co p q, .bool true] w fun e w' => e = .returned (.tuple #[]) ∧ After w w' := by
  have HA := hideIt (After.rfl (w := w))
  go_enter Try.func42, Try.ntmps42
  go_wp2
  go_end0
  exact ⟨rfl, HA.out.alloc _⟩
theorem must_no (w : World) (p q : Option Addr) :
    Calls Try.prog 42 #[Co p q, .bool false] w fun e w' => e = .panicked (Halt (stp q.isSome 4)) ∧ After w w' := by
  have HA := hideIt (After.rfl (w := w))
  go_enter Try.func42, Try.ntmps42
  go_wp2_with (go_at_call 27; refine (stop_any _ p q 4).mono ?_; rintro e w1 ⟨rfl, h1⟩; have H1 := hideIt h1; clear h1)
  exact ⟨rfl, rfl, (HA.out.alloc _).trans H1.out⟩
/-- What a run ends in. -/
def Ends {α : Type} (r : Except Int (α × List Int)) (ok : α → List Int → Prop) (bad : Int → Prop) : Prop :=
  match r with
  | .ok (x, zs) => ok x zs
  | .error c => bad c
theorem Ends.ok {α : Type} {r : Except Int (α × List Int)} {ok : α → List Int → Prop} {bad : Int → Prop} {x : α} {zs : List Int} (h : r = .ok (x, zs)) (k : ok x zs) : Ends r ok bad := by rw [h]; exact k
theorem Ends.bad {α : Type} {r : Except Int (α × List Int)} {ok : α → List Int → Prop} {bad : Int → Prop} {c : Int} (h : r = .error c) (k : bad c) : Ends r ok bad := by rw [h]; exact k
theorem Ends.split {α : Type} {r : Except Int (α × List Int)} {ok : α → List Int → Prop} {bad : Int → Prop} (h : Ends r ok bad) : (∃ c, r = .error c ∧ bad c) ∨ ∃ x zs, r = .ok (x, zs) ∧ ok x zs := by
  rcases r with c | ⟨x, zs⟩
  · exact .inl ⟨c, rfl, h⟩
  · exact .inr ⟨x, zs, rfl, h⟩
/-- One run, then another. -/
def thn {α β : Type} (r : Except Int (α × List Int)) (f : α → List Int → Except Int β) : Except Int β :=
  match r with
  | .ok (x, zs) => f x zs
  | .error c => .error c
theorem thn_ok {α β : Type} {r : Except Int (α × List Int)} {f : α → List Int → Except Int β} {x : α} {zs : List Int} (h : r = .ok (x, zs)) : thn r f = f x zs := by rw [h]; rfl
theorem thn_bad {α β : Type} {r : Except Int (α × List Int)} {f : α → List Int → Except Int β} {c : Int} (h : r = .error c) : thn r f = .error c := by rw [h]; rfl
/-- A number of k bytes, at most M: written (m), or read. -/
def num (m : Bool) (k M : Nat) (v : Int) (zs : List Int) : Except Int (Int × List Int) :=
  if m then (if 0 ≤ v ∧ v ≤ M then .ok (v, zs ++ bytesOf k v) else .error 2) else if k ≤ zs.length then .ok (be (zs.take k), zs.drop k) else .error 3
/-- Octets. -/
def oct (m : Bool) (v : List Int) (zs : List Int) : Except Int (List Int × List Int) :=
  if m then (if v.length ≤ 65535 then .ok (v, zs ++ (bytesOf 2 v.length ++ v)) else .error 2) else if ocIs zs = true then .ok (ocVal zs, ocRest zs) else .error 3
theorem num_w {k M : Nat} {v : Int} {zs : List Int} (h : 0 ≤ v ∧ v ≤ M) : num true k M v zs = .ok (v, zs ++ bytesOf k v) := by unfold num; rw [if_pos rfl, if_pos h]
theorem num_wn {k M : Nat} {v : Int} {zs : List Int} (h : ¬ (0 ≤ v ∧ v ≤ M)) : num true k M v zs = .error 2 := by unfold num; rw [if_pos rfl, if_neg h]
theorem num_r {k M : Nat} {v : Int} {zs : List Int} (h : k ≤ zs.length) : num false k M v zs = .ok (be (zs.take k), zs.drop k) := by unfold num; rw [if_neg (by decide), if_pos h]
theorem num_rn {k M : Nat} {v : Int} {zs : List Int} (h : ¬ k ≤ zs.length) : num false k M v zs = .error 3 := by unfold num; rw [if_neg (by decide), if_neg h]
theorem oct_w {v zs : List Int} (h : v.length ≤ 65535) : oct true v zs = .ok (v, zs ++ (bytesOf 2 v.length ++ v)) := by unfold oct; rw [if_pos rfl, if_pos h]
theorem oct_wn {v zs : List Int} (h : ¬ v.length ≤ 65535) : oct true v zs = .error 2 := by unfold oct; rw [if_pos rfl, if_neg h]
theorem oct_r {v zs : List Int} (h : ocIs zs = true) : oct false v zs = .ok (ocVal zs, ocRest zs) := by unfold oct; rw [if_neg (by decide), if_pos h]
theorem oct_rn {v zs : List Int} (h : ¬ ocIs zs = true) : oct false v zs = .error 3 := by unfold oct; rw [if_neg (by decide), if_neg h]
theorem num_len {m : Bool} {k M : Nat} {v x : Int} {zs ys : List Int} (h : num m k M v zs = .ok (x, ys)) : ys.length ≤ zs.length + k := by
  unfold num at h
  split at h
  · split at h
    · cases h; rw [List.length_append, bytesOf_length]; omega
    · cases h
  · split at h
    · cases h; rw [List.length_drop]; omega
    · cases h
/-- The blocks of a coder. -/
structure Cod (w : World) (p q : Option Addr) (m : Bool) (zs : List Int) (S : Nat → Prop) : Prop where
  is : (m = false ∧ ∃ g h, p = some ⟨g, 0, none⟩ ∧ q = none ∧ RdAt w g h zs ∧ S = Two g h) ∨ (m = true ∧ ∃ g v, p = none ∧ q = some ⟨g, 0, none⟩ ∧ WrAt w g v zs ∧ S = Own g v)
  lt : ∀ k, S k → k < w.heap.size
theorem Cod.mode {w : World} {p q : Option Addr} {m : Bool} {zs : List Int} {S : Nat → Prop} (c : Cod w p q m zs S) : q.isSome = m := by
  rcases c.is with ⟨rfl, g, h, _, rfl, _⟩ | ⟨rfl, g, v, _, rfl, _⟩ <;> rfl
theorem Cod.bs {w : World} {p q : Option Addr} {m : Bool} {zs : List Int} {S : Nat → Prop} (c : Cod w p q m zs S) : Bs zs := by
  rcases c.is with ⟨rfl, g, h, _, _, r, _⟩ | ⟨rfl, g, v, _, _, r, _⟩
  · exact r.bs
  · exact r.2.2.2
theorem Cod.but {w w' : World} {p q : Option Addr} {m : Bool} {zs : List Int} {S T : Nat → Prop} (c : Cod w p q m zs S) (b : But T w w') (hn : ∀ k, S k → ¬ T k) : Cod w' p q m zs S := by
  refine ⟨?_, fun k hk => Nat.lt_of_lt_of_le (c.lt k hk) b.size⟩
  rcases c.is with ⟨hm, g, h, hp, hq, r, hS⟩ | ⟨hm, g, v, hp, hq, r, hS⟩
  · exact .inl ⟨hm, g, h, hp, hq, r.but b (hn g (by rw [hS]; exact .inl rfl)) (hn h (by rw [hS]; exact .inr rfl)), hS⟩
  · exact .inr ⟨hm, g, v, hp, hq, r.but b (hn g (by rw [hS]; exact .inl rfl)) (fun k hk => hn k (by rw [hS]; exact .inr hk)), hS⟩
theorem Cod.after {w w' : World} {p q : Option Addr} {m : Bool} {zs : List Int} {S : Nat → Prop} (c : Cod w p q m zs S) (b : After w w') : Cod w' p q m zs S := c.but b (fun _ _ t => t)
/-- A coder has gone on. -/
structure Stp (S : Nat → Prop) (w : World) (S' : Nat → Prop) (w' : World) : Prop where
  but : But S w w'
  new : ∀ k, S' k → S k ∨ w.heap.size ≤ k
theorem Stp.rfl {S : Nat → Prop} {w : World} : Stp S w S w := ⟨But.rfl, fun _ h => .inl h⟩
theorem Stp.trans {S S1 S2 : Nat → Prop} {w w1 w2 : World} (a : Stp S w S1 w1) (b : Stp S1 w1 S2 w2) : Stp S w S2 w2 :=
  ⟨a.but.then b.but (fun i hi h => (a.new i h).elim id (fun h' => absurd h' (by omega))), fun k hk => (b.new k hk).elim (a.new k) (fun h => .inr (Nat.le_trans a.but.size h))⟩
theorem Stp.after {S S1 : Nat → Prop} {w w1 w2 : World} (a : Stp S w S1 w1) (b : After w1 w2) : Stp S w S1 w2 := ⟨a.but.trans b.but, a.new⟩
theorem Stp.behind {S S2 : Nat → Prop} {w w1 w2 : World} (a : After w w1) (b : Stp S w1 S2 w2) : Stp S w S2 w2 :=
  ⟨a.but.trans b.but, fun k hk => (b.new k hk).imp_right (fun h => Nat.le_trans a.size h)⟩
theorem Stp.ends {S S1 : Nat → Prop} {w w1 w2 : World} (a : Stp S w S1 w1) (b : But S1 w1 w2) : But S w w2 :=
  a.but.then b (fun i hi h => (a.new i h).elim id (fun h' => absurd h' (by omega)))
end Go.Proofs.Ytigiakhdaaoljaa
