/-
  No cell of these rows narrows 'for every input' (looked for: loops, veiled, ifaces, maps, wideKeys, modest, calm, conditions, laid).
  DERIVED. THE GIVEN ROWS OF THIS SEAT. 6 by the template 'for every input the law returns true; each argument reads behind the call as it read before'; 0 by the template 'total and deterministic' (their statements: YtkjjjibglaffnaaTotals.lean).
  GIVEN WITH THE SEED: the statements are not yours to turn. If you find one false, say at which input.
  Laid BY PROGRAM, IN A SANDBOX (cutbox-rows.mjs): the forced cells as the released guide's own fill.sh prints them over the translation 1d0ddf1d84979edb… (all of the seat's roots in one cut). By AI agents, Wed Nov 11 2026. No macro, syntax, notation, axiom, sorry.
-/
import Derived.Test.YtkjjjibglaffnaaChecked
import GoSem.Claim
import GoSem.ClaimJoined
import GoSem.ClaimMapViews
import Derived.JoinedTies
import Derived.KernelRfl
namespace Go.Proofs.Ytkjjjibglaffnaa
/- THE CELL 'sum', in the pinned program and in every row, IS THE sha256 OF THE DUMP (.gsa) THAT YtkjjjibglaffnaaProg.lean LOADS. Nothing in Lean hashes anything: it is a label: what it is worth is what the hold of that sum in a sandbox is worth. -/
noncomputable def Try.pinned : Pinned := { name := "ytkjjjibglaffnaa", sum := "1d0ddf1d84979edb4d67df4c02878347ffb45e8a0e4fd148e4b2367f1add13b2", checked := Try.checked }
namespace Rows
def none {H : Type} : Left H := { results := [], args := [] }

/-- 'handbelllaw21.ExecTicks': WHATEVER THE INPUT: true; the input reads as it did. -/
def execTicksSpec : ChangeSpec := { name := "execTicks", fn := fun _ => fun
  | [d1, d2] => { results := [.lit (.bool true)], args := [d1, d2] }
  | _ => none }
def execTicksRow : OpenClaim := { program := "ytkjjjibglaffnaa", sum := "1d0ddf1d84979edb4d67df4c02878347ffb45e8a0e4fd148e4b2367f1add13b2", func := "handbell/handbelllaw21.ExecTicks", spec := "execTicks", unfollowed := true, recurses := true, apart := false }
def ExecTicksSaid : Prop := execTicksRow.holds Try.pinned (OpenSpec.ofChange execTicksSpec)

/-- ITS FALSE NEIGHBOUR: 'it returns false'. Refute it at one input. -/
def execTicksWrong : ChangeSpec := { name := "execTicks", fn := fun _ => fun
  | [d1, d2] => { results := [.lit (.bool false)], args := [d1, d2] }
  | _ => none }
def ExecTicksWrongFalsely : Prop := execTicksRow.holds Try.pinned (OpenSpec.ofChange execTicksWrong)

/-- 'handbelllaw21.ExecNested': WHATEVER THE INPUT: true; the input reads as it did. -/
def execNestedSpec : ChangeSpec := { name := "execNested", fn := fun _ => fun
  | [d1, d2] => { results := [.lit (.bool true)], args := [d1, d2] }
  | _ => none }
def execNestedRow : OpenClaim := { program := "ytkjjjibglaffnaa", sum := "1d0ddf1d84979edb4d67df4c02878347ffb45e8a0e4fd148e4b2367f1add13b2", func := "handbell/handbelllaw21.ExecNested", spec := "execNested", unfollowed := true, recurses := true, apart := false }
def ExecNestedSaid : Prop := execNestedRow.holds Try.pinned (OpenSpec.ofChange execNestedSpec)

/-- ITS FALSE NEIGHBOUR: 'it returns false'. Refute it at one input. -/
def execNestedWrong : ChangeSpec := { name := "execNested", fn := fun _ => fun
  | [d1, d2] => { results := [.lit (.bool false)], args := [d1, d2] }
  | _ => none }
def ExecNestedWrongFalsely : Prop := execNestedRow.holds Try.pinned (OpenSpec.ofChange execNestedWrong)

/-- 'handbelllaw21.ExecApart': WHATEVER THE INPUT: true; the input reads as it did. -/
def execApartSpec : ChangeSpec := { name := "execApart", fn := fun _ => fun
  | [d1, d2, d3] => { results := [.lit (.bool true)], args := [d1, d2, d3] }
  | _ => none }
def execApartRow : OpenClaim := { program := "ytkjjjibglaffnaa", sum := "1d0ddf1d84979edb4d67df4c02878347ffb45e8a0e4fd148e4b2367f1add13b2", func := "handbell/handbelllaw21.ExecApart", spec := "execApart", unfollowed := true, recurses := true, apart := false }
def ExecApartSaid : Prop := execApartRow.holds Try.pinned (OpenSpec.ofChange execApartSpec)

/-- ITS FALSE NEIGHBOUR: 'it returns false'. Refute it at one input. -/
def execApartWrong : ChangeSpec := { name := "execApart", fn := fun _ => fun
  | [d1, d2, d3] => { results := [.lit (.bool false)], args := [d1, d2, d3] }
  | _ => none }
def ExecApartWrongFalsely : Prop := execApartRow.holds Try.pinned (OpenSpec.ofChange execApartWrong)

/-- 'handbelllaw21.ExecSteps': WHATEVER THE INPUT: true; the input reads as it did. -/
def execStepsSpec : ChangeSpec := { name := "execSteps", fn := fun _ => fun
  | [d1, d2] => { results := [.lit (.bool true)], args := [d1, d2] }
  | _ => none }
def execStepsRow : OpenClaim := { program := "ytkjjjibglaffnaa", sum := "1d0ddf1d84979edb4d67df4c02878347ffb45e8a0e4fd148e4b2367f1add13b2", func := "handbell/handbelllaw21.ExecSteps", spec := "execSteps", unfollowed := true, recurses := true, apart := false }
def ExecStepsSaid : Prop := execStepsRow.holds Try.pinned (OpenSpec.ofChange execStepsSpec)

/-- ITS FALSE NEIGHBOUR: 'it returns false'. Refute it at one input. -/
def execStepsWrong : ChangeSpec := { name := "execSteps", fn := fun _ => fun
  | [d1, d2] => { results := [.lit (.bool false)], args := [d1, d2] }
  | _ => none }
def ExecStepsWrongFalsely : Prop := execStepsRow.holds Try.pinned (OpenSpec.ofChange execStepsWrong)

/-- 'handbelllaw21.ExecKept': WHATEVER THE INPUT: true; the input reads as it did. -/
def execKeptSpec : ChangeSpec := { name := "execKept", fn := fun _ => fun
  | [d1, d2, d3] => { results := [.lit (.bool true)], args := [d1, d2, d3] }
  | _ => none }
def execKeptRow : OpenClaim := { program := "ytkjjjibglaffnaa", sum := "1d0ddf1d84979edb4d67df4c02878347ffb45e8a0e4fd148e4b2367f1add13b2", func := "handbell/handbelllaw21.ExecKept", spec := "execKept", unfollowed := true, recurses := true, apart := false }
def ExecKeptSaid : Prop := execKeptRow.holds Try.pinned (OpenSpec.ofChange execKeptSpec)

/-- ITS FALSE NEIGHBOUR: 'it returns false'. Refute it at one input. -/
def execKeptWrong : ChangeSpec := { name := "execKept", fn := fun _ => fun
  | [d1, d2, d3] => { results := [.lit (.bool false)], args := [d1, d2, d3] }
  | _ => none }
def ExecKeptWrongFalsely : Prop := execKeptRow.holds Try.pinned (OpenSpec.ofChange execKeptWrong)

/-- 'handbelllaw21.ExecNames': WHATEVER THE INPUT: true; the input reads as it did. -/
def execNamesSpec : ChangeSpec := { name := "execNames", fn := fun _ => fun
  | [] => { results := [.lit (.bool true)], args := [] }
  | _ => none }
def execNamesRow : OpenClaim := { program := "ytkjjjibglaffnaa", sum := "1d0ddf1d84979edb4d67df4c02878347ffb45e8a0e4fd148e4b2367f1add13b2", func := "handbell/handbelllaw21.ExecNames", spec := "execNames", unfollowed := true, recurses := true, apart := false }
def ExecNamesSaid : Prop := execNamesRow.holds Try.pinned (OpenSpec.ofChange execNamesSpec)

/-- ITS FALSE NEIGHBOUR: 'it returns false'. Refute it at one input. -/
def execNamesWrong : ChangeSpec := { name := "execNames", fn := fun _ => fun
  | [] => { results := [.lit (.bool false)], args := [] }
  | _ => none }
def ExecNamesWrongFalsely : Prop := execNamesRow.holds Try.pinned (OpenSpec.ofChange execNamesWrong)

/- THE SECOND FORM. 'bulk': how many values and letters a reading holds, each counted each time it is reached (what is shared counts as often as it is met; a slice's spare places count too). A statement '..UptoSaid' is the law's where the arguments, and the package variables that the reading takes, are together of bulk at most 1048576: NARROWER than '..Said'. Prove '..Said' where nothing that the law and all that it calls make is longer than what came in: it says more and counts as full. Else prove '..UptoSaid'. A law counts once. -/
mutual
def uptoBulk {H : Type} : DataW H → Nat
  | .lit (.string bytes) => bytes.length + 1
  | .lit _ => 1
  | .nil => 1
  | .ptr d => uptoBulk d + 1
  | .slice elems spare => uptoBulkAll elems + uptoBulkAll spare + 1
  | .agg parts => uptoBulkAll parts + 1
  | .iface _ d => uptoBulk d + 1
  | .map entries => uptoBulkEntries entries + 1
  | .held _ => 1
def uptoBulkAll {H : Type} : List (DataW H) → Nat
  | [] => 0
  | d :: r => uptoBulk d + uptoBulkAll r
def uptoBulkEntries {H : Type} : List (Lit × DataW H) → Nat
  | [] => 0
  | x :: r => uptoBulkEntry x + uptoBulkEntries r
def uptoBulkEntry {H : Type} : Lit × DataW H → Nat
  | (.string bytes, d) => bytes.length + uptoBulk d + 1
  | (_, d) => uptoBulk d + 1
 end
def uptoSmall : (H : Type) → List (DataW H) → Bool := fun _ ds => decide (uptoBulkAll ds ≤ 1048576)
def OpenSpec.upto (s : _root_.Go.ChangeSpec) : _root_.Go.OpenSpec := { _root_.Go.OpenSpec.ofChange s with cond := some uptoSmall }

/-- 'handbelllaw21.ExecTicks', WHERE WHAT IT READS IS OF BULK AT MOST 1048576: true; the input reads as it did. -/
def execTicksUptoRow : OpenClaim := { program := "ytkjjjibglaffnaa", sum := "1d0ddf1d84979edb4d67df4c02878347ffb45e8a0e4fd148e4b2367f1add13b2", func := "handbell/handbelllaw21.ExecTicks", spec := "execTicks", unfollowed := true, recurses := true, apart := false, narrowed := true }
def ExecTicksUptoSaid : Prop := execTicksUptoRow.holds Try.pinned (OpenSpec.upto execTicksSpec)

/-- 'handbelllaw21.ExecNested', WHERE WHAT IT READS IS OF BULK AT MOST 1048576: true; the input reads as it did. -/
def execNestedUptoRow : OpenClaim := { program := "ytkjjjibglaffnaa", sum := "1d0ddf1d84979edb4d67df4c02878347ffb45e8a0e4fd148e4b2367f1add13b2", func := "handbell/handbelllaw21.ExecNested", spec := "execNested", unfollowed := true, recurses := true, apart := false, narrowed := true }
def ExecNestedUptoSaid : Prop := execNestedUptoRow.holds Try.pinned (OpenSpec.upto execNestedSpec)

/-- 'handbelllaw21.ExecApart', WHERE WHAT IT READS IS OF BULK AT MOST 1048576: true; the input reads as it did. -/
def execApartUptoRow : OpenClaim := { program := "ytkjjjibglaffnaa", sum := "1d0ddf1d84979edb4d67df4c02878347ffb45e8a0e4fd148e4b2367f1add13b2", func := "handbell/handbelllaw21.ExecApart", spec := "execApart", unfollowed := true, recurses := true, apart := false, narrowed := true }
def ExecApartUptoSaid : Prop := execApartUptoRow.holds Try.pinned (OpenSpec.upto execApartSpec)

/-- 'handbelllaw21.ExecSteps', WHERE WHAT IT READS IS OF BULK AT MOST 1048576: true; the input reads as it did. -/
def execStepsUptoRow : OpenClaim := { program := "ytkjjjibglaffnaa", sum := "1d0ddf1d84979edb4d67df4c02878347ffb45e8a0e4fd148e4b2367f1add13b2", func := "handbell/handbelllaw21.ExecSteps", spec := "execSteps", unfollowed := true, recurses := true, apart := false, narrowed := true }
def ExecStepsUptoSaid : Prop := execStepsUptoRow.holds Try.pinned (OpenSpec.upto execStepsSpec)

/-- 'handbelllaw21.ExecKept', WHERE WHAT IT READS IS OF BULK AT MOST 1048576: true; the input reads as it did. -/
def execKeptUptoRow : OpenClaim := { program := "ytkjjjibglaffnaa", sum := "1d0ddf1d84979edb4d67df4c02878347ffb45e8a0e4fd148e4b2367f1add13b2", func := "handbell/handbelllaw21.ExecKept", spec := "execKept", unfollowed := true, recurses := true, apart := false, narrowed := true }
def ExecKeptUptoSaid : Prop := execKeptUptoRow.holds Try.pinned (OpenSpec.upto execKeptSpec)

/-- 'handbelllaw21.ExecNames', WHERE WHAT IT READS IS OF BULK AT MOST 1048576: true; the input reads as it did. -/
def execNamesUptoRow : OpenClaim := { program := "ytkjjjibglaffnaa", sum := "1d0ddf1d84979edb4d67df4c02878347ffb45e8a0e4fd148e4b2367f1add13b2", func := "handbell/handbelllaw21.ExecNames", spec := "execNames", unfollowed := true, recurses := true, apart := false, narrowed := true }
def ExecNamesUptoSaid : Prop := execNamesUptoRow.holds Try.pinned (OpenSpec.upto execNamesSpec)

end Rows
end Go.Proofs.Ytkjjjibglaffnaa
