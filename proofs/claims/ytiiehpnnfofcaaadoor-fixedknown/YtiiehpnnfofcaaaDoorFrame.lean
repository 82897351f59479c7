/-
  What the six statements of layer 1 have in common: a start that fits the listed tables, and the table of powers of ten out of them.
-/
import Derived.Test.YtiiehpnnfofcaaaDoorWorks
import Derived.Test.YtiiehpnnfofcaaaDoorTie
import Derived.Test.YtiiehpnnfofcaaaDoorCards
import Derived.ProofKit
import Derived.LaidMore
import Derived.OpenShut
import Derived.Stop.Joined
import Derived.Stop.LaidErr
import Derived.SevenTiedAt
namespace Go.Proofs.YtiiehpnnfofcaaaDoor
open Go.ChangeShapes Go.WideShapes Go.ChangeAt Go.WideMaps Go.WideElems Go.RowKit

theorem own : ownKnob Tryd.prog.godebug = none := by kernel_rfl
/-- The list of laid tables that every row of this seat bears. -/
def laid3 : List (String × DataW Unit) := Rows.fixedReckonsRow.laid
theorem gPow : Tryd.prog.globalNamed "internal/strconv.uint64pow10" = some 1 := by kernel_rfl
theorem tPow : (Tryd.prog.globals[1]?).map (·.type) = some 81 := by kernel_rfl
theorem c68 : Tryd.prog.cellsOf 68 = 1 := by kernel_rfl
theorem c81 : Tryd.prog.cellsOf 81 = 20 := by kernel_rfl
theorem pow_data : (Rows.laid_internal_strconv_uint64pow10 : DataW Unit) = Lib.tabData .u64 Lib.pow10Tab := by kernel_rfl

/-- The door's own heap meets the condition. -/
theorem door_met (os : Os) (args : Array Value) : laidMetH Tryd.prog laid3 ((World.doorLaid Tryd.prog 400 os).forCall (fun _ _ => 0) ⟨#[], args, []⟩).memory :=
  laidMetH_of_parts3 (fuel := 8) (laidMet_of_run' 8 (by kernel_rfl) (by kernel_rfl)) (by kernel_rfl) (by kernel_rfl)
/-- The table of powers of ten, out of what the row lists. -/
theorem tab_of_laid {W : World} (h : laidMetH Tryd.prog laid3 W) : Tab W := by
  rw [MakeChecks.laidMetH_plain _ _ _ (by kernel_rfl)] at h
  have h3 := h.tail.tail
  rw [show (("internal/strconv.uint64pow10", Rows.laid_internal_strconv_uint64pow10) : String × DataW Unit) = ("internal/strconv.uint64pow10", Lib.tabData .u64 Lib.pow10Tab) from by rw [pow_data]] at h3
  exact Lib.tabIs_of_head gPow tPow Tryd.underlying81 Tryd.underlying68 c68 c81 h3
end Go.Proofs.YtiiehpnnfofcaaaDoor
