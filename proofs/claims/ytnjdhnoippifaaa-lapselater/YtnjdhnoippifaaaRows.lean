/-
  No cell of these rows narrows 'for every input' (looked for: loops, veiled, ifaces, maps, wideKeys, modest, calm, conditions, laid).
  DERIVED. THE GIVEN ROWS OF THIS SEAT. 5 by the template 'for every input the law returns true; each argument reads behind the call as it read before'; 0 by the template 'total and deterministic' (their statements: YtnjdhnoippifaaaTotals.lean).
  GIVEN WITH THE SEED: the statements are not yours to turn. If you find one false, say at which input.
  Laid BY PROGRAM, IN A SANDBOX (cutbox-rows.mjs): the forced cells as the released guide's own fill.sh prints them over the translation 692ee2638a4be4e6… (all of the seat's roots in one cut). By AI agents, Wed Nov 11 2026. No macro, syntax, notation, axiom, sorry.
-/
import Derived.Test.YtnjdhnoippifaaaChecked
import GoSem.Claim
import GoSem.ClaimJoined
import GoSem.ClaimMapViews
import Derived.JoinedTies
import Derived.KernelRfl
namespace Go.Proofs.Ytnjdhnoippifaaa
/- THE CELL 'sum', in the pinned program and in every row, IS THE sha256 OF THE DUMP (.gsa) THAT YtnjdhnoippifaaaProg.lean LOADS. Nothing in Lean hashes anything: it is a label: what it is worth is what the hold of that sum in a sandbox is worth. -/
noncomputable def Try.pinned : Pinned := { name := "ytnjdhnoippifaaa", sum := "692ee2638a4be4e667fbafd11b07b0bd218667731c69d836750ed96ebe869ff2", checked := Try.checked }
namespace Rows
def none {H : Type} : Left H := { results := [], args := [] }

/-- 'handbelllaw13.LapseSteps': WHATEVER THE INPUT: true; the input reads as it did. -/
def lapseStepsSpec : ChangeSpec := { name := "lapseSteps", fn := fun _ => fun
  | [d1, d2] => { results := [.lit (.bool true)], args := [d1, d2] }
  | _ => none }
def lapseStepsRow : OpenClaim := { program := "ytnjdhnoippifaaa", sum := "692ee2638a4be4e667fbafd11b07b0bd218667731c69d836750ed96ebe869ff2", func := "handbell/handbelllaw13.LapseSteps", spec := "lapseSteps", apart := false }
def LapseStepsSaid : Prop := lapseStepsRow.holds Try.pinned (OpenSpec.ofChange lapseStepsSpec)

/-- ITS FALSE NEIGHBOUR: 'it returns false'. Refute it at one input. -/
def lapseStepsWrong : ChangeSpec := { name := "lapseSteps", fn := fun _ => fun
  | [d1, d2] => { results := [.lit (.bool false)], args := [d1, d2] }
  | _ => none }
def LapseStepsWrongFalsely : Prop := lapseStepsRow.holds Try.pinned (OpenSpec.ofChange lapseStepsWrong)

/-- 'handbelllaw13.LapseLimit': WHATEVER THE INPUT: true; the input reads as it did. -/
def lapseLimitSpec : ChangeSpec := { name := "lapseLimit", fn := fun _ => fun
  | [d1, d2] => { results := [.lit (.bool true)], args := [d1, d2] }
  | _ => none }
def lapseLimitRow : OpenClaim := { program := "ytnjdhnoippifaaa", sum := "692ee2638a4be4e667fbafd11b07b0bd218667731c69d836750ed96ebe869ff2", func := "handbell/handbelllaw13.LapseLimit", spec := "lapseLimit", apart := false }
def LapseLimitSaid : Prop := lapseLimitRow.holds Try.pinned (OpenSpec.ofChange lapseLimitSpec)

/-- ITS FALSE NEIGHBOUR: 'it returns false'. Refute it at one input. -/
def lapseLimitWrong : ChangeSpec := { name := "lapseLimit", fn := fun _ => fun
  | [d1, d2] => { results := [.lit (.bool false)], args := [d1, d2] }
  | _ => none }
def LapseLimitWrongFalsely : Prop := lapseLimitRow.holds Try.pinned (OpenSpec.ofChange lapseLimitWrong)

/-- 'handbelllaw13.LapseLater': WHATEVER THE INPUT: true; the input reads as it did. -/
def lapseLaterSpec : ChangeSpec := { name := "lapseLater", fn := fun _ => fun
  | [d1, d2, d3] => { results := [.lit (.bool true)], args := [d1, d2, d3] }
  | _ => none }
def lapseLaterRow : OpenClaim := { program := "ytnjdhnoippifaaa", sum := "692ee2638a4be4e667fbafd11b07b0bd218667731c69d836750ed96ebe869ff2", func := "handbell/handbelllaw13.LapseLater", spec := "lapseLater", apart := false }
def LapseLaterSaid : Prop := lapseLaterRow.holds Try.pinned (OpenSpec.ofChange lapseLaterSpec)

/-- ITS FALSE NEIGHBOUR: 'it returns false'. Refute it at one input. -/
def lapseLaterWrong : ChangeSpec := { name := "lapseLater", fn := fun _ => fun
  | [d1, d2, d3] => { results := [.lit (.bool false)], args := [d1, d2, d3] }
  | _ => none }
def LapseLaterWrongFalsely : Prop := lapseLaterRow.holds Try.pinned (OpenSpec.ofChange lapseLaterWrong)

/-- 'handbelllaw13.LapseRefused': WHATEVER THE INPUT: true; the input reads as it did. -/
def lapseRefusedSpec : ChangeSpec := { name := "lapseRefused", fn := fun _ => fun
  | [d1, d2, d3] => { results := [.lit (.bool true)], args := [d1, d2, d3] }
  | _ => none }
def lapseRefusedRow : OpenClaim := { program := "ytnjdhnoippifaaa", sum := "692ee2638a4be4e667fbafd11b07b0bd218667731c69d836750ed96ebe869ff2", func := "handbell/handbelllaw13.LapseRefused", spec := "lapseRefused", apart := false }
def LapseRefusedSaid : Prop := lapseRefusedRow.holds Try.pinned (OpenSpec.ofChange lapseRefusedSpec)

/-- ITS FALSE NEIGHBOUR: 'it returns false'. Refute it at one input. -/
def lapseRefusedWrong : ChangeSpec := { name := "lapseRefused", fn := fun _ => fun
  | [d1, d2, d3] => { results := [.lit (.bool false)], args := [d1, d2, d3] }
  | _ => none }
def LapseRefusedWrongFalsely : Prop := lapseRefusedRow.holds Try.pinned (OpenSpec.ofChange lapseRefusedWrong)

/-- 'handbelllaw13.LapseKnown': WHATEVER THE INPUT: true; the input reads as it did. -/
def lapseKnownSpec : ChangeSpec := { name := "lapseKnown", fn := fun _ => fun
  | [] => { results := [.lit (.bool true)], args := [] }
  | _ => none }
def lapseKnownRow : OpenClaim := { program := "ytnjdhnoippifaaa", sum := "692ee2638a4be4e667fbafd11b07b0bd218667731c69d836750ed96ebe869ff2", func := "handbell/handbelllaw13.LapseKnown", spec := "lapseKnown", apart := false }
def LapseKnownSaid : Prop := lapseKnownRow.holds Try.pinned (OpenSpec.ofChange lapseKnownSpec)

/-- ITS FALSE NEIGHBOUR: 'it returns false'. Refute it at one input. -/
def lapseKnownWrong : ChangeSpec := { name := "lapseKnown", fn := fun _ => fun
  | [] => { results := [.lit (.bool false)], args := [] }
  | _ => none }
def LapseKnownWrongFalsely : Prop := lapseKnownRow.holds Try.pinned (OpenSpec.ofChange lapseKnownWrong)

/- THE SECOND FORM. 'bulk': how many values and letters a reading holds, each counted each time it is reached (what is shared counts as often as it is met; a slice's spare places count too). A statement '..UptoSaid' is the law's where the arguments, and the package variables that the reading takes, are together of bulk at most 1048576: NARROWER than '..Said'. Prove '..Said' where nothing that the law and all that it calls make is longer than what came in: it says more and counts as full. Else prove '..UptoSaid'. A law counts once. -/
mutual
def uptoBulk {H : Type} : DataW H → Nat
  | .lit (.string bytes) => bytes.length + 1
  | .lit _ => 1
  | .nil => 1
  | .ptr d => uptoBulk d + 1
  | .slice elems spare => uptoBulkAll elems + uptoBulkAll spare + 1
  | .agg parts => uptoBulkAll parts + 1
  | .iface _ d => uptoBulk d + 1
  | .map entries => uptoBulkEntries entries + 1
  | .held _ => 1
def uptoBulkAll {H : Type} : List (DataW H) → Nat
  | [] => 0
  | d :: r => uptoBulk d + uptoBulkAll r
def uptoBulkEntries {H : Type} : List (Lit × DataW H) → Nat
  | [] => 0
  | x :: r => uptoBulkEntry x + uptoBulkEntries r
def uptoBulkEntry {H : Type} : Lit × DataW H → Nat
  | (.string bytes, d) => bytes.length + uptoBulk d + 1
  | (_, d) => uptoBulk d + 1
 end
def uptoSmall : (H : Type) → List (DataW H) → Bool := fun _ ds => decide (uptoBulkAll ds ≤ 1048576)
def OpenSpec.upto (s : _root_.Go.ChangeSpec) : _root_.Go.OpenSpec := { _root_.Go.OpenSpec.ofChange s with cond := some uptoSmall }

/-- 'handbelllaw13.LapseSteps', WHERE WHAT IT READS IS OF BULK AT MOST 1048576: true; the input reads as it did. -/
def lapseStepsUptoRow : OpenClaim := { program := "ytnjdhnoippifaaa", sum := "692ee2638a4be4e667fbafd11b07b0bd218667731c69d836750ed96ebe869ff2", func := "handbell/handbelllaw13.LapseSteps", spec := "lapseSteps", apart := false, narrowed := true }
def LapseStepsUptoSaid : Prop := lapseStepsUptoRow.holds Try.pinned (OpenSpec.upto lapseStepsSpec)

/-- 'handbelllaw13.LapseLimit', WHERE WHAT IT READS IS OF BULK AT MOST 1048576: true; the input reads as it did. -/
def lapseLimitUptoRow : OpenClaim := { program := "ytnjdhnoippifaaa", sum := "692ee2638a4be4e667fbafd11b07b0bd218667731c69d836750ed96ebe869ff2", func := "handbell/handbelllaw13.LapseLimit", spec := "lapseLimit", apart := false, narrowed := true }
def LapseLimitUptoSaid : Prop := lapseLimitUptoRow.holds Try.pinned (OpenSpec.upto lapseLimitSpec)

/-- 'handbelllaw13.LapseLater', WHERE WHAT IT READS IS OF BULK AT MOST 1048576: true; the input reads as it did. -/
def lapseLaterUptoRow : OpenClaim := { program := "ytnjdhnoippifaaa", sum := "692ee2638a4be4e667fbafd11b07b0bd218667731c69d836750ed96ebe869ff2", func := "handbell/handbelllaw13.LapseLater", spec := "lapseLater", apart := false, narrowed := true }
def LapseLaterUptoSaid : Prop := lapseLaterUptoRow.holds Try.pinned (OpenSpec.upto lapseLaterSpec)

/-- 'handbelllaw13.LapseRefused', WHERE WHAT IT READS IS OF BULK AT MOST 1048576: true; the input reads as it did. -/
def lapseRefusedUptoRow : OpenClaim := { program := "ytnjdhnoippifaaa", sum := "692ee2638a4be4e667fbafd11b07b0bd218667731c69d836750ed96ebe869ff2", func := "handbell/handbelllaw13.LapseRefused", spec := "lapseRefused", apart := false, narrowed := true }
def LapseRefusedUptoSaid : Prop := lapseRefusedUptoRow.holds Try.pinned (OpenSpec.upto lapseRefusedSpec)

/-- 'handbelllaw13.LapseKnown', WHERE WHAT IT READS IS OF BULK AT MOST 1048576: true; the input reads as it did. -/
def lapseKnownUptoRow : OpenClaim := { program := "ytnjdhnoippifaaa", sum := "692ee2638a4be4e667fbafd11b07b0bd218667731c69d836750ed96ebe869ff2", func := "handbell/handbelllaw13.LapseKnown", spec := "lapseKnown", apart := false, narrowed := true }
def LapseKnownUptoSaid : Prop := lapseKnownUptoRow.holds Try.pinned (OpenSpec.upto lapseKnownSpec)

end Rows
end Go.Proofs.Ytnjdhnoippifaaa
