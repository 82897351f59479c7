/-
  The document's part, Value, Atom, node: what they answer.
-/
import Derived.Test.YtgbaibnlfmeklabFoB
import Derived.Laws.StructEq
namespace Go.Proofs.Ytgbaibnlfmeklab
open Go.RowKit
set_option maxRecDepth 8000
/-- What Atom answers. -/
def atomA (x : Nd) (c : Ch) (r : Rd) : Bool × Int := if atomic x.op = true then (atom x c r, 0) else (false, 150)
theorem atom_any (x : Nd) (c : Ch) (r : Rd) (w : World) : Calls Try.prog 10 #[x.val, c.val, r.val] w fun e w' => e = .returned (.tuple #[.bool (atomA x c r).1, .int .i64 (atomA x c r).2]) ∧ After w w' := by
  unfold atomA
  rcases h : atomic x.op with _ | _
  · exact atom_no x c r w h
  · exact atom_yes x c r w h
end Go.Proofs.Ytgbaibnlfmeklab
