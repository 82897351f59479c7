/-
  Package block, PURE: a device: what its sectors keep, what was written to them, whether it is dead, behind how many operations the power goes.
-/
import Derived.Test.YtalffdiohjcajaaBase
namespace Go.Proofs.Ytalffdiohjcajaa
open Go.RowKit
set_option maxRecDepth 8000
def sec0 : List Int := List.replicate 64 0
/-- A sector: 64 bytes. -/
def Sec (b : List Int) : Prop := b.length = 64 ∧ Bs b
theorem sec0_sec : Sec sec0 := ⟨rfl, fun z hz => by
  have := (List.mem_replicate.1 hz).2
  omega⟩
structure Dv where
  n : Nat
  kp : Nat → List Int
  wr : Nat → Option (List Int)
  dead : Bool
  left : Int
def Dv.new (n : Nat) : Dv := ⟨n, fun _ => sec0, fun _ => none, false, -1⟩
/-- What was written last. -/
def lastOf (kp : Nat → List Int) (wr : Nat → Option (List Int)) (i : Nat) : List Int := match wr i with
  | some b => b
  | none => kp i
def Dv.last (x : Dv) (i : Nat) : List Int := lastOf x.kp x.wr i
theorem last_some {kp : Nat → List Int} {wr : Nat → Option (List Int)} {i : Nat} {b : List Int} (h : wr i = some b) : lastOf kp wr i = b := by unfold lastOf; rw [h]
theorem last_none {kp : Nat → List Int} {wr : Nat → Option (List Int)} {i : Nat} (h : wr i = none) : lastOf kp wr i = kp i := by unfold lastOf; rw [h]
structure Dv.Ok (x : Dv) : Prop where
  n0 : 1 ≤ x.n
  n1 : x.n ≤ 256
  k : ∀ i, Sec (x.kp i)
  w : ∀ i b, x.wr i = some b → i < x.n ∧ Sec b
  l0 : -1 ≤ x.left
  l1 : x.left ≤ 9223372036854775807
theorem Dv.Ok.s {x : Dv} (h : x.Ok) (i : Nat) : Sec (x.last i) := by
  unfold Dv.last
  cases e : x.wr i with
  | none => rw [last_none e]; exact h.k i
  | some b => rw [last_some e]; exact (h.w i b e).2
theorem new_ok {n : Nat} (h0 : 1 ≤ n) (h1 : n ≤ 256) : (Dv.new n).Ok := ⟨h0, h1, fun _ => sec0_sec, fun _ _ h => (by cases h), by show (-1 : Int) ≤ -1; decide, by show (-1 : Int) ≤ _; decide⟩
/-- What a dead one answers. -/
def Dv.chk (x : Dv) : Int := if x.dead then 220 else 0
def Dv.readE (x : Dv) (i : Int) : Int := if x.dead then 220 else if 0 ≤ i ∧ i < x.n then 0 else 2
/-- An operation that may be: the power goes, or one is taken off. -/
def Dv.go (x : Dv) : Dv := if x.left = 0 then { x with dead := true } else if 0 < x.left then { x with left := x.left - 1 } else x
def Dv.put (x : Dv) (i : Nat) (b : List Int) : Dv := { x with wr := fun j => if j = i then some b else x.wr j }
def Dv.may (x : Dv) (i : Int) (b : List Int) : Prop := 0 ≤ i ∧ i < x.n ∧ b.length = 64
instance (x : Dv) (i : Int) (b : List Int) : Decidable (x.may i b) := by unfold Dv.may; infer_instance
def Dv.writeE (x : Dv) (i : Int) (b : List Int) : Int := if x.dead then 220 else if x.may i b then (if x.left = 0 then 220 else 0) else 2
def Dv.writeS (x : Dv) (i : Int) (b : List Int) : Dv := if x.dead then x else if x.may i b then (if x.left = 0 then x.go else x.go.put i.toNat b) else x
def Dv.flushed (x : Dv) : Dv := { x with kp := x.last, wr := fun _ => none }
def Dv.flushE (x : Dv) : Int := if x.dead then 220 else if x.left = 0 then 220 else 0
def Dv.flushS (x : Dv) : Dv := if x.dead then x else if x.left = 0 then x.go else x.go.flushed
def Dv.armS (x : Dv) (n : Int) : Dv := if x.dead then x else { x with left := if n < 0 then -1 else n }
def Dv.die (x : Dv) : Dv := { x with dead := true }
/-- What a choice says. -/
def settle (a b : List Int) (c : Int) : List Int := if c % 189 % 3 = 0 then a else if c % 189 % 3 = 1 then b else b.take (c % 189 / 3 + 1).toNat ++ a.drop (c % 189 / 3 + 1).toNat
theorem settle_sec {a b : List Int} (ha : Sec a) (hb : Sec b) (c : Int) : Sec (settle a b c) := by
  unfold settle
  split
  · exact ha
  · split
    · exact hb
    · refine ⟨?_, (hb.2.take _).append (ha.2.drop _)⟩
      have h1 := ha.1
      have h2 := hb.1
      rw [List.length_append, List.length_take, List.length_drop]
      omega
/-- How many of the first k were written to. -/
def cntW (wr : Nat → Option (List Int)) : Nat → Nat
  | 0 => 0
  | k + 1 => cntW wr k + (match wr k with | some _ => 1 | none => 0)
/-- What sector i keeps behind the power. -/
def bootK (x : Dv) (ch : List Int) (i : Nat) : List Int := match x.wr i with
  | some b => settle (x.kp i) b (ch.getD (cntW x.wr i) 0)
  | none => x.kp i
def Dv.boot (x : Dv) (ch : List Int) : Dv := { x with kp := bootK x ch, wr := fun _ => none, dead := false, left := -1 }
theorem cnt_some {wr : Nat → Option (List Int)} {k : Nat} {b : List Int} (h : wr k = some b) : cntW wr (k + 1) = cntW wr k + 1 := by
  show cntW wr k + _ = _
  rw [h]
theorem cnt_none {wr : Nat → Option (List Int)} {k : Nat} (h : wr k = none) : cntW wr (k + 1) = cntW wr k := by
  show cntW wr k + _ = _
  rw [h]
  exact Nat.add_zero _
theorem cnt_le (wr : Nat → Option (List Int)) (k : Nat) : cntW wr k ≤ k := by
  induction k with
  | zero => exact Nat.le_refl _
  | succ k ih =>
    cases h : wr k with
    | none => rw [cnt_none h]; omega
    | some b => rw [cnt_some h]; omega
theorem boot_some {x : Dv} {ch : List Int} {i : Nat} {b : List Int} (h : x.wr i = some b) : bootK x ch i = settle (x.kp i) b (ch.getD (cntW x.wr i) 0) := by unfold bootK; rw [h]
theorem boot_none {x : Dv} {ch : List Int} {i : Nat} (h : x.wr i = none) : bootK x ch i = x.kp i := by unfold bootK; rw [h]
theorem go_ok {x : Dv} (h : x.Ok) : x.go.Ok := by
  unfold Dv.go
  have := h.l0
  have := h.l1
  split
  · exact ⟨h.n0, h.n1, h.k, h.w, h.l0, h.l1⟩
  · split
    · exact ⟨h.n0, h.n1, h.k, h.w, by show -1 ≤ x.left - 1; omega, by show x.left - 1 ≤ _; omega⟩
    · exact h
theorem put_ok {x : Dv} (h : x.Ok) {i : Nat} (hi : i < x.n) {b : List Int} (hb : Sec b) : (x.put i b).Ok :=
  ⟨h.n0, h.n1, h.k, fun j c hc => by
    have hc : (if j = i then some b else x.wr j) = some c := hc
    split at hc
    · rename_i e
      cases hc
      subst e
      exact ⟨hi, hb⟩
    · exact h.w j c hc, h.l0, h.l1⟩
theorem flushed_ok {x : Dv} (h : x.Ok) : x.flushed.Ok := ⟨h.n0, h.n1, fun i => h.s i, fun _ _ hc => (by cases hc), h.l0, h.l1⟩
theorem boot_ok {x : Dv} (h : x.Ok) (ch : List Int) : (x.boot ch).Ok :=
  ⟨h.n0, h.n1, fun i => by
    show Sec (bootK x ch i)
    cases e : x.wr i with
    | none => rw [boot_none e]; exact h.k i
    | some b => rw [boot_some e]; exact settle_sec (h.k i) (h.w i b e).2 _, fun _ _ hc => (by cases hc), by show (-1 : Int) ≤ -1; decide, by show (-1 : Int) ≤ _; decide⟩
theorem go_n (x : Dv) : x.go.n = x.n := by unfold Dv.go; split <;> (try split) <;> rfl
theorem go_kp (x : Dv) : x.go.kp = x.kp := by unfold Dv.go; split <;> (try split) <;> rfl
theorem go_wr (x : Dv) : x.go.wr = x.wr := by unfold Dv.go; split <;> (try split) <;> rfl
end Go.Proofs.Ytalffdiohjcajaa
