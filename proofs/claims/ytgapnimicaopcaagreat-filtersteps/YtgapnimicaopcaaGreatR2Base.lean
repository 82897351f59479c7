/-
  What all walks of this seat share: the world behind a call that only makes memory and draws, and small facts on answers.
-/
import Derived.Test.YtgapnimicaopcaaGreatBase
import Derived.Test.YtgapnimicaopcaaGreatR2Pure
import Derived.WalkKit
import Derived.WalkSpells
import Derived.WalkLawsBesides
namespace Go.Proofs.YtgapnimicaopcaaGreat.L2
open Go.RowKit
theorem ret_int {k : IntKind} {a b : Int} (h : a = b) : Ending.returned (.int k a) = .returned (.int k b) := by rw [h]
theorem ret_bool {a b : Bool} (h : a = b) : Ending.returned (.bool a) = .returned (.bool b) := by rw [h]
/-- New blocks and draws alone. -/
def After (w w' : World) : Prop := Below w.heap.size w w'
theorem After.rfl {w : World} : After w w := Below.refl _ _
theorem After.trans {a b c : World} (h : After a b) (k : After b c) : After a c := Below.trans h (Below.mono k (Below.size h))
theorem After.draws {a b : World} (h : After a b) (n : Nat) : After a (b.drewN n) := Below.trans h ⟨_root_.rfl, _root_.rfl, _root_.rfl, Nat.le_refl _, fun _ _ => _root_.rfl⟩
theorem After.alloc {a b : World} (h : After a b) (o) : After a (b.alloc o) := Below.alloc h (Below.size h) o
theorem After.of {a b : World} (h : Below a.heap.size a b) : After a b := h
theorem After.size {a b : World} (h : After a b) : a.heap.size ≤ b.heap.size := Below.size h
theorem After.cell {W w1 : World} (hb : After W w1) : (∀ b o, b < W.heap.size → w1.cell? ⟨b, o, none⟩ = W.cell? ⟨b, o, none⟩) ∧ (∀ b o, b < W.heap.size → w1.frozen? ⟨b, o, none⟩ = W.frozen? ⟨b, o, none⟩) :=
  ⟨fun b o h => Below.cell (p := ⟨b, o, none⟩) hb h, fun b o h => Below.frozen (p := ⟨b, o, none⟩) hb h⟩
theorem After.set {a b : World} (h : After a b) {p : Addr} (hp : a.heap.size ≤ p.block) (v : Value) : After a (b.setCell p v) := Below.setCell h hp v
end Go.Proofs.YtgapnimicaopcaaGreat.L2
