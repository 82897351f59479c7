/-
  Calls that are handed in: Kind, V and B of each.
-/
import Derived.Test.YtojgkhinddjmaaaRds
namespace Go.Proofs.Ytojgkhinddjmaaa
open Go.RowKit
/-- A call lies at a place. -/
structure Do1 (w : World) (b o : Nat) (kd x : Int) (a : Option Addr) (n c : Nat) (bs : List Int) : Prop where
  lt : b < w.heap.size
  c0 : w.cell? ⟨b, o, none⟩ = some (.int .i64 kd)
  c1 : w.cell? ⟨b, o + 1, none⟩ = some (.int .i64 x)
  c2 : w.cell? ⟨b, o + 2, none⟩ = some (.slice a n c)
  row : Row w a n bs
  nil : a = none → n = 0 ∧ c = 0
  len : n ≤ 140737488355328
  cap : n ≤ c
  old : ∀ y, a = some y → 0 < n → y.block < w.heap.size
  k0 : -9223372036854775808 ≤ kd
  k1 : kd ≤ 9223372036854775807
  x0 : -9223372036854775808 ≤ x
  x1 : x ≤ 9223372036854775807
theorem Do1.but {S : Nat → Prop} {w w' : World} {b o : Nat} {kd x : Int} {a : Option Addr} {n c : Nat} {bs : List Int} (d : Do1 w b o kd x a n c bs) (h : But S w w') (hb : ¬ S b) (ha : ∀ y, a = some y → ¬ S y.block) : Do1 w' b o kd x a n c bs :=
  ⟨Nat.lt_of_lt_of_le d.lt h.size, by rw [h.cell d.lt hb]; exact d.c0, by rw [h.cell d.lt hb]; exact d.c1, by rw [h.cell d.lt hb]; exact d.c2, d.row.but h ha, d.nil, d.len, d.cap, fun y hy h0 => Nat.lt_of_lt_of_le (d.old y hy h0) h.size, d.k0, d.k1, d.x0, d.x1⟩
theorem Do1.after {w w' : World} {b o : Nat} {kd x : Int} {a : Option Addr} {n c : Nat} {bs : List Int} (d : Do1 w b o kd x a n c bs) (h : After w w') : Do1 w' b o kd x a n c bs := d.but h (fun t => t) (fun _ _ t => t)
/-- Calls lie where a slice of n places leads. -/
def Dos (w : World) (a : Option Addr) (n : Nat) : Prop :=
  ∀ i, i < n → ∃ b off kd x a' n' c' bs, a = some ⟨b, off, none⟩ ∧ Do1 w b (off + i * 3) kd x a' n' c' bs
theorem Dos.after {w w' : World} {a : Option Addr} {n : Nat} (d : Dos w a n) (h : After w w') : Dos w' a n := fun i hi => by
  obtain ⟨b, off, kd, x, a', n', c', bs, e, d1⟩ := d i hi
  exact ⟨b, off, kd, x, a', n', c', bs, e, d1.after h⟩
end Go.Proofs.Ytojgkhinddjmaaa
