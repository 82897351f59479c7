/-
  What the row of this seat asks of the program.
-/
import Derived.Test.YtjblckljbgelaabBase
import Derived.ProofKit
import Derived.OpenShut
namespace Go.Proofs.Ytjblckljbgelaab
theorem own : ownKnob Try.prog.godebug = none := by kernel_rfl
end Go.Proofs.Ytjblckljbgelaab
