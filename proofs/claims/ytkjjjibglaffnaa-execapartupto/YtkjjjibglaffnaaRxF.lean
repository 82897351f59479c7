/-
  PURE: a minor frame by the document: what each turn heard by itself; and joined, by partition, it is what the program's tasks heard.
-/
import Derived.Test.YtkjjjibglaffnaaRxE
namespace Go.Proofs.Ytkjjjibglaffnaa
open Go.RowKit
set_option maxRecDepth 8000
/-- A turn, and what it heard. -/
structure Ad where
  a : An
  h : List He
theorem tn_ahead (p s : Int) (D : List De) (L : List Lk) (H : List He) : tnOf p s D L H = (tnOf p s D L []).ahead H := by
  have := run_ahead p s H D ⟨Tn.new, L, 0, []⟩
  unfold tnOf
  rw [← this]
  unfold Ru.ahead
  rw [List.append_nil]
/-- A minor frame by the document. -/
def frd (st : List Int) (DS : Nat → List De) : List Int → List Lk → List Ad × List Lk
  | [], L => ([], L)
  | p :: r, L => (⟨⟨p, (tnOf p (st.getD p.toNat 0) (DS p.toNat) L []).t⟩, (tnOf p (st.getD p.toNat 0) (DS p.toNat) L []).h⟩ :: (frd st DS r (tnOf p (st.getD p.toNat 0) (DS p.toNat) L []).L).1, (frd st DS r (tnOf p (st.getD p.toNat 0) (DS p.toNat) L []).L).2)
/-- What a partition heard, joined. -/
def joinH : List Ad → (Nat → List He) → Nat → List He
  | [], H => H
  | x :: r, H => joinH r (setf H x.a.p.toNat (H x.a.p.toNat ++ x.h))
theorem frm_frd (st : List Int) (DS : Nat → List De) : ∀ (ps : List Int) (L : List Lk) (H : Nat → List He), frm st DS ps L H = ((frd st DS ps L).1.map Ad.a, (frd st DS ps L).2, joinH (frd st DS ps L).1 H)
  | [], _, _ => rfl
  | p :: r, L, H => by
    rw [frm_cons, tn_ahead p _ _ L (H p.toNat), frm_frd st DS r]
    rfl
end Go.Proofs.Ytkjjjibglaffnaa
