/-
  No cell of these rows narrows 'for every input' (looked for: loops, veiled, ifaces, maps, wideKeys, modest, calm, conditions, laid).
  DERIVED. THE GIVEN ROWS OF THIS SEAT. 6 by the template 'for every input the law returns true; each argument reads behind the call as it read before'; 0 by the template 'total and deterministic' (their statements: YtgbaibnlfmeklaaTotals.lean).
  GIVEN WITH THE SEED: the statements are not yours to turn. If you find one false, say at which input.
  Laid BY PROGRAM, IN A SANDBOX (cutbox-rows.mjs): the forced cells as the released guide's own fill.sh prints them over the translation 85e1d3db48a58f77… (all of the seat's roots in one cut). By AI agents, Wed Nov 11 2026. No macro, syntax, notation, axiom, sorry.
-/
import Derived.Test.YtgbaibnlfmeklaaChecked
import GoSem.Claim
import GoSem.ClaimJoined
import GoSem.ClaimMapViews
import Derived.JoinedTies
import Derived.KernelRfl
namespace Go.Proofs.Ytgbaibnlfmeklaa
/- THE CELL 'sum', in the pinned program and in every row, IS THE sha256 OF THE DUMP (.gsa) THAT YtgbaibnlfmeklaaProg.lean LOADS. Nothing in Lean hashes anything: it is a label: what it is worth is what the hold of that sum in a sandbox is worth. -/
noncomputable def Try.pinned : Pinned := { name := "ytgbaibnlfmeklaa", sum := "85e1d3db48a58f7767bd39f1064b61286fdabedf9b50325df143a970aa9c7f96", checked := Try.checked }
namespace Rows
def none {H : Type} : Left H := { results := [], args := [] }

/-- 'handbelllaw15.FormulaChecks': WHATEVER THE INPUT: true; the input reads as it did. -/
def formulaChecksSpec : ChangeSpec := { name := "formulaChecks", fn := fun _ => fun
  | [d1, d2, d3] => { results := [.lit (.bool true)], args := [d1, d2, d3] }
  | _ => none }
def formulaChecksRow : OpenClaim := { program := "ytgbaibnlfmeklaa", sum := "85e1d3db48a58f7767bd39f1064b61286fdabedf9b50325df143a970aa9c7f96", func := "handbell/handbelllaw15.FormulaChecks", spec := "formulaChecks", unfollowed := true, recurses := true, plainKeys := false, apart := false }
def FormulaChecksSaid : Prop := formulaChecksRow.holds Try.pinned (OpenSpec.ofChange formulaChecksSpec)

/-- ITS FALSE NEIGHBOUR: 'it returns false'. Refute it at one input. -/
def formulaChecksWrong : ChangeSpec := { name := "formulaChecks", fn := fun _ => fun
  | [d1, d2, d3] => { results := [.lit (.bool false)], args := [d1, d2, d3] }
  | _ => none }
def FormulaChecksWrongFalsely : Prop := formulaChecksRow.holds Try.pinned (OpenSpec.ofChange formulaChecksWrong)

/-- 'handbelllaw15.FormulaHolds': WHATEVER THE INPUT: true; the input reads as it did. -/
def formulaHoldsSpec : ChangeSpec := { name := "formulaHolds", fn := fun _ => fun
  | [d1, d2, d3] => { results := [.lit (.bool true)], args := [d1, d2, d3] }
  | _ => none }
def formulaHoldsRow : OpenClaim := { program := "ytgbaibnlfmeklaa", sum := "85e1d3db48a58f7767bd39f1064b61286fdabedf9b50325df143a970aa9c7f96", func := "handbell/handbelllaw15.FormulaHolds", spec := "formulaHolds", unfollowed := true, recurses := true, plainKeys := false, apart := false }
def FormulaHoldsSaid : Prop := formulaHoldsRow.holds Try.pinned (OpenSpec.ofChange formulaHoldsSpec)

/-- ITS FALSE NEIGHBOUR: 'it returns false'. Refute it at one input. -/
def formulaHoldsWrong : ChangeSpec := { name := "formulaHolds", fn := fun _ => fun
  | [d1, d2, d3] => { results := [.lit (.bool false)], args := [d1, d2, d3] }
  | _ => none }
def FormulaHoldsWrongFalsely : Prop := formulaHoldsRow.holds Try.pinned (OpenSpec.ofChange formulaHoldsWrong)

/-- 'handbelllaw15.FormulaLogic': WHATEVER THE INPUT: true; the input reads as it did. -/
def formulaLogicSpec : ChangeSpec := { name := "formulaLogic", fn := fun _ => fun
  | [d1, d2, d3] => { results := [.lit (.bool true)], args := [d1, d2, d3] }
  | _ => none }
def formulaLogicRow : OpenClaim := { program := "ytgbaibnlfmeklaa", sum := "85e1d3db48a58f7767bd39f1064b61286fdabedf9b50325df143a970aa9c7f96", func := "handbell/handbelllaw15.FormulaLogic", spec := "formulaLogic", unfollowed := true, recurses := true, plainKeys := false, apart := false }
def FormulaLogicSaid : Prop := formulaLogicRow.holds Try.pinned (OpenSpec.ofChange formulaLogicSpec)

/-- ITS FALSE NEIGHBOUR: 'it returns false'. Refute it at one input. -/
def formulaLogicWrong : ChangeSpec := { name := "formulaLogic", fn := fun _ => fun
  | [d1, d2, d3] => { results := [.lit (.bool false)], args := [d1, d2, d3] }
  | _ => none }
def FormulaLogicWrongFalsely : Prop := formulaLogicRow.holds Try.pinned (OpenSpec.ofChange formulaLogicWrong)

/-- 'handbelllaw15.FormulaWindows': WHATEVER THE INPUT: true; the input reads as it did. -/
def formulaWindowsSpec : ChangeSpec := { name := "formulaWindows", fn := fun _ => fun
  | [d1, d2, d3] => { results := [.lit (.bool true)], args := [d1, d2, d3] }
  | _ => none }
def formulaWindowsRow : OpenClaim := { program := "ytgbaibnlfmeklaa", sum := "85e1d3db48a58f7767bd39f1064b61286fdabedf9b50325df143a970aa9c7f96", func := "handbell/handbelllaw15.FormulaWindows", spec := "formulaWindows", unfollowed := true, recurses := true, plainKeys := false, apart := false }
def FormulaWindowsSaid : Prop := formulaWindowsRow.holds Try.pinned (OpenSpec.ofChange formulaWindowsSpec)

/-- ITS FALSE NEIGHBOUR: 'it returns false'. Refute it at one input. -/
def formulaWindowsWrong : ChangeSpec := { name := "formulaWindows", fn := fun _ => fun
  | [d1, d2, d3] => { results := [.lit (.bool false)], args := [d1, d2, d3] }
  | _ => none }
def FormulaWindowsWrongFalsely : Prop := formulaWindowsRow.holds Try.pinned (OpenSpec.ofChange formulaWindowsWrong)

/-- 'handbelllaw15.FormulaStep': WHATEVER THE INPUT: true; the input reads as it did. -/
def formulaStepSpec : ChangeSpec := { name := "formulaStep", fn := fun _ => fun
  | [d1, d2, d3] => { results := [.lit (.bool true)], args := [d1, d2, d3] }
  | _ => none }
def formulaStepRow : OpenClaim := { program := "ytgbaibnlfmeklaa", sum := "85e1d3db48a58f7767bd39f1064b61286fdabedf9b50325df143a970aa9c7f96", func := "handbell/handbelllaw15.FormulaStep", spec := "formulaStep", unfollowed := true, recurses := true, plainKeys := false, apart := false }
def FormulaStepSaid : Prop := formulaStepRow.holds Try.pinned (OpenSpec.ofChange formulaStepSpec)

/-- ITS FALSE NEIGHBOUR: 'it returns false'. Refute it at one input. -/
def formulaStepWrong : ChangeSpec := { name := "formulaStep", fn := fun _ => fun
  | [d1, d2, d3] => { results := [.lit (.bool false)], args := [d1, d2, d3] }
  | _ => none }
def FormulaStepWrongFalsely : Prop := formulaStepRow.holds Try.pinned (OpenSpec.ofChange formulaStepWrong)

/-- 'handbelllaw15.FormulaPast': WHATEVER THE INPUT: true; the input reads as it did. -/
def formulaPastSpec : ChangeSpec := { name := "formulaPast", fn := fun _ => fun
  | [d1, d2, d3] => { results := [.lit (.bool true)], args := [d1, d2, d3] }
  | _ => none }
def formulaPastRow : OpenClaim := { program := "ytgbaibnlfmeklaa", sum := "85e1d3db48a58f7767bd39f1064b61286fdabedf9b50325df143a970aa9c7f96", func := "handbell/handbelllaw15.FormulaPast", spec := "formulaPast", unfollowed := true, recurses := true, plainKeys := false, apart := false }
def FormulaPastSaid : Prop := formulaPastRow.holds Try.pinned (OpenSpec.ofChange formulaPastSpec)

/-- ITS FALSE NEIGHBOUR: 'it returns false'. Refute it at one input. -/
def formulaPastWrong : ChangeSpec := { name := "formulaPast", fn := fun _ => fun
  | [d1, d2, d3] => { results := [.lit (.bool false)], args := [d1, d2, d3] }
  | _ => none }
def FormulaPastWrongFalsely : Prop := formulaPastRow.holds Try.pinned (OpenSpec.ofChange formulaPastWrong)

/- THE SECOND FORM. 'bulk': how many values and letters a reading holds, each counted each time it is reached (what is shared counts as often as it is met; a slice's spare places count too). A statement '..UptoSaid' is the law's where the arguments, and the package variables that the reading takes, are together of bulk at most 1048576: NARROWER than '..Said'. Prove '..Said' where nothing that the law and all that it calls make is longer than what came in: it says more and counts as full. Else prove '..UptoSaid'. A law counts once. -/
mutual
def uptoBulk {H : Type} : DataW H → Nat
  | .lit (.string bytes) => bytes.length + 1
  | .lit _ => 1
  | .nil => 1
  | .ptr d => uptoBulk d + 1
  | .slice elems spare => uptoBulkAll elems + uptoBulkAll spare + 1
  | .agg parts => uptoBulkAll parts + 1
  | .iface _ d => uptoBulk d + 1
  | .map entries => uptoBulkEntries entries + 1
  | .held _ => 1
def uptoBulkAll {H : Type} : List (DataW H) → Nat
  | [] => 0
  | d :: r => uptoBulk d + uptoBulkAll r
def uptoBulkEntries {H : Type} : List (Lit × DataW H) → Nat
  | [] => 0
  | x :: r => uptoBulkEntry x + uptoBulkEntries r
def uptoBulkEntry {H : Type} : Lit × DataW H → Nat
  | (.string bytes, d) => bytes.length + uptoBulk d + 1
  | (_, d) => uptoBulk d + 1
 end
def uptoSmall : (H : Type) → List (DataW H) → Bool := fun _ ds => decide (uptoBulkAll ds ≤ 1048576)
def OpenSpec.upto (s : _root_.Go.ChangeSpec) : _root_.Go.OpenSpec := { _root_.Go.OpenSpec.ofChange s with cond := some uptoSmall }

/-- 'handbelllaw15.FormulaChecks', WHERE WHAT IT READS IS OF BULK AT MOST 1048576: true; the input reads as it did. -/
def formulaChecksUptoRow : OpenClaim := { program := "ytgbaibnlfmeklaa", sum := "85e1d3db48a58f7767bd39f1064b61286fdabedf9b50325df143a970aa9c7f96", func := "handbell/handbelllaw15.FormulaChecks", spec := "formulaChecks", unfollowed := true, recurses := true, plainKeys := false, apart := false, narrowed := true }
def FormulaChecksUptoSaid : Prop := formulaChecksUptoRow.holds Try.pinned (OpenSpec.upto formulaChecksSpec)

/-- 'handbelllaw15.FormulaHolds', WHERE WHAT IT READS IS OF BULK AT MOST 1048576: true; the input reads as it did. -/
def formulaHoldsUptoRow : OpenClaim := { program := "ytgbaibnlfmeklaa", sum := "85e1d3db48a58f7767bd39f1064b61286fdabedf9b50325df143a970aa9c7f96", func := "handbell/handbelllaw15.FormulaHolds", spec := "formulaHolds", unfollowed := true, recurses := true, plainKeys := false, apart := false, narrowed := true }
def FormulaHoldsUptoSaid : Prop := formulaHoldsUptoRow.holds Try.pinned (OpenSpec.upto formulaHoldsSpec)

/-- 'handbelllaw15.FormulaLogic', WHERE WHAT IT READS IS OF BULK AT MOST 1048576: true; the input reads as it did. -/
def formulaLogicUptoRow : OpenClaim := { program := "ytgbaibnlfmeklaa", sum := "85e1d3db48a58f7767bd39f1064b61286fdabedf9b50325df143a970aa9c7f96", func := "handbell/handbelllaw15.FormulaLogic", spec := "formulaLogic", unfollowed := true, recurses := true, plainKeys := false, apart := false, narrowed := true }
def FormulaLogicUptoSaid : Prop := formulaLogicUptoRow.holds Try.pinned (OpenSpec.upto formulaLogicSpec)

/-- 'handbelllaw15.FormulaWindows', WHERE WHAT IT READS IS OF BULK AT MOST 1048576: true; the input reads as it did. -/
def formulaWindowsUptoRow : OpenClaim := { program := "ytgbaibnlfmeklaa", sum := "85e1d3db48a58f7767bd39f1064b61286fdabedf9b50325df143a970aa9c7f96", func := "handbell/handbelllaw15.FormulaWindows", spec := "formulaWindows", unfollowed := true, recurses := true, plainKeys := false, apart := false, narrowed := true }
def FormulaWindowsUptoSaid : Prop := formulaWindowsUptoRow.holds Try.pinned (OpenSpec.upto formulaWindowsSpec)

/-- 'handbelllaw15.FormulaStep', WHERE WHAT IT READS IS OF BULK AT MOST 1048576: true; the input reads as it did. -/
def formulaStepUptoRow : OpenClaim := { program := "ytgbaibnlfmeklaa", sum := "85e1d3db48a58f7767bd39f1064b61286fdabedf9b50325df143a970aa9c7f96", func := "handbell/handbelllaw15.FormulaStep", spec := "formulaStep", unfollowed := true, recurses := true, plainKeys := false, apart := false, narrowed := true }
def FormulaStepUptoSaid : Prop := formulaStepUptoRow.holds Try.pinned (OpenSpec.upto formulaStepSpec)

/-- 'handbelllaw15.FormulaPast', WHERE WHAT IT READS IS OF BULK AT MOST 1048576: true; the input reads as it did. -/
def formulaPastUptoRow : OpenClaim := { program := "ytgbaibnlfmeklaa", sum := "85e1d3db48a58f7767bd39f1064b61286fdabedf9b50325df143a970aa9c7f96", func := "handbell/handbelllaw15.FormulaPast", spec := "formulaPast", unfollowed := true, recurses := true, plainKeys := false, apart := false, narrowed := true }
def FormulaPastUptoSaid : Prop := formulaPastUptoRow.holds Try.pinned (OpenSpec.upto formulaPastSpec)

end Rows
end Go.Proofs.Ytgbaibnlfmeklaa
