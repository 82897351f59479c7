/-
  No cell of these rows narrows 'for every input' (looked for: loops, veiled, ifaces, maps, wideKeys, modest, calm, conditions, laid).
  DERIVED. THE GIVEN ROWS OF THIS SEAT. 5 by the template 'for every input the law returns true; each argument reads behind the call as it read before'; 0 by the template 'total and deterministic' (their statements: YtajgblbpdhedoaaTotals.lean).
  GIVEN WITH THE SEED: the statements are not yours to turn. If you find one false, say at which input.
  Laid BY PROGRAM, IN A SANDBOX (cutbox-rows.mjs): the forced cells as the released guide's own fill.sh prints them over the translation bca3f8c1627a7842… (all of the seat's roots in one cut). By AI agents, Wed Nov 11 2026. No macro, syntax, notation, axiom, sorry.
-/
import Derived.Test.YtajgblbpdhedoaaChecked
import GoSem.Claim
import GoSem.ClaimJoined
import GoSem.ClaimMapViews
import Derived.JoinedTies
import Derived.KernelRfl
namespace Go.Proofs.Ytajgblbpdhedoaa
/- THE CELL 'sum', in the pinned program and in every row, IS THE sha256 OF THE DUMP (.gsa) THAT YtajgblbpdhedoaaProg.lean LOADS. Nothing in Lean hashes anything: it is a label: what it is worth is what the hold of that sum in a sandbox is worth. -/
noncomputable def Try.pinned : Pinned := { name := "ytajgblbpdhedoaa", sum := "bca3f8c1627a7842a3a4bb7756d8cab40b3ce583b6d2b48f608f83908034fb1a", checked := Try.checked }
namespace Rows
def none {H : Type} : Left H := { results := [], args := [] }

/-- 'handbelllaw10.AveragePushes': WHATEVER THE INPUT: true; the input reads as it did. -/
def averagePushesSpec : ChangeSpec := { name := "averagePushes", fn := fun _ => fun
  | [d1, d2] => { results := [.lit (.bool true)], args := [d1, d2] }
  | _ => none }
def averagePushesRow : OpenClaim := { program := "ytajgblbpdhedoaa", sum := "bca3f8c1627a7842a3a4bb7756d8cab40b3ce583b6d2b48f608f83908034fb1a", func := "handbell/handbelllaw10.AveragePushes", spec := "averagePushes", apart := false }
def AveragePushesSaid : Prop := averagePushesRow.holds Try.pinned (OpenSpec.ofChange averagePushesSpec)

/-- ITS FALSE NEIGHBOUR: 'it returns false'. Refute it at one input. -/
def averagePushesWrong : ChangeSpec := { name := "averagePushes", fn := fun _ => fun
  | [d1, d2] => { results := [.lit (.bool false)], args := [d1, d2] }
  | _ => none }
def AveragePushesWrongFalsely : Prop := averagePushesRow.holds Try.pinned (OpenSpec.ofChange averagePushesWrong)

/-- 'handbelllaw10.AverageBetween': WHATEVER THE INPUT: true; the input reads as it did. -/
def averageBetweenSpec : ChangeSpec := { name := "averageBetween", fn := fun _ => fun
  | [d1, d2] => { results := [.lit (.bool true)], args := [d1, d2] }
  | _ => none }
def averageBetweenRow : OpenClaim := { program := "ytajgblbpdhedoaa", sum := "bca3f8c1627a7842a3a4bb7756d8cab40b3ce583b6d2b48f608f83908034fb1a", func := "handbell/handbelllaw10.AverageBetween", spec := "averageBetween", apart := false }
def AverageBetweenSaid : Prop := averageBetweenRow.holds Try.pinned (OpenSpec.ofChange averageBetweenSpec)

/-- ITS FALSE NEIGHBOUR: 'it returns false'. Refute it at one input. -/
def averageBetweenWrong : ChangeSpec := { name := "averageBetween", fn := fun _ => fun
  | [d1, d2] => { results := [.lit (.bool false)], args := [d1, d2] }
  | _ => none }
def AverageBetweenWrongFalsely : Prop := averageBetweenRow.holds Try.pinned (OpenSpec.ofChange averageBetweenWrong)

/-- 'handbelllaw10.AverageOrder': WHATEVER THE INPUT: true; the input reads as it did. -/
def averageOrderSpec : ChangeSpec := { name := "averageOrder", fn := fun _ => fun
  | [d1, d2, d3] => { results := [.lit (.bool true)], args := [d1, d2, d3] }
  | _ => none }
def averageOrderRow : OpenClaim := { program := "ytajgblbpdhedoaa", sum := "bca3f8c1627a7842a3a4bb7756d8cab40b3ce583b6d2b48f608f83908034fb1a", func := "handbell/handbelllaw10.AverageOrder", spec := "averageOrder", apart := false }
def AverageOrderSaid : Prop := averageOrderRow.holds Try.pinned (OpenSpec.ofChange averageOrderSpec)

/-- ITS FALSE NEIGHBOUR: 'it returns false'. Refute it at one input. -/
def averageOrderWrong : ChangeSpec := { name := "averageOrder", fn := fun _ => fun
  | [d1, d2, d3] => { results := [.lit (.bool false)], args := [d1, d2, d3] }
  | _ => none }
def AverageOrderWrongFalsely : Prop := averageOrderRow.holds Try.pinned (OpenSpec.ofChange averageOrderWrong)

/-- 'handbelllaw10.AverageMoved': WHATEVER THE INPUT: true; the input reads as it did. -/
def averageMovedSpec : ChangeSpec := { name := "averageMoved", fn := fun _ => fun
  | [d1, d2, d3] => { results := [.lit (.bool true)], args := [d1, d2, d3] }
  | _ => none }
def averageMovedRow : OpenClaim := { program := "ytajgblbpdhedoaa", sum := "bca3f8c1627a7842a3a4bb7756d8cab40b3ce583b6d2b48f608f83908034fb1a", func := "handbell/handbelllaw10.AverageMoved", spec := "averageMoved", apart := false }
def AverageMovedSaid : Prop := averageMovedRow.holds Try.pinned (OpenSpec.ofChange averageMovedSpec)

/-- ITS FALSE NEIGHBOUR: 'it returns false'. Refute it at one input. -/
def averageMovedWrong : ChangeSpec := { name := "averageMoved", fn := fun _ => fun
  | [d1, d2, d3] => { results := [.lit (.bool false)], args := [d1, d2, d3] }
  | _ => none }
def AverageMovedWrongFalsely : Prop := averageMovedRow.holds Try.pinned (OpenSpec.ofChange averageMovedWrong)

/-- 'handbelllaw10.AverageKnown': WHATEVER THE INPUT: true; the input reads as it did. -/
def averageKnownSpec : ChangeSpec := { name := "averageKnown", fn := fun _ => fun
  | [] => { results := [.lit (.bool true)], args := [] }
  | _ => none }
def averageKnownRow : OpenClaim := { program := "ytajgblbpdhedoaa", sum := "bca3f8c1627a7842a3a4bb7756d8cab40b3ce583b6d2b48f608f83908034fb1a", func := "handbell/handbelllaw10.AverageKnown", spec := "averageKnown", apart := false }
def AverageKnownSaid : Prop := averageKnownRow.holds Try.pinned (OpenSpec.ofChange averageKnownSpec)

/-- ITS FALSE NEIGHBOUR: 'it returns false'. Refute it at one input. -/
def averageKnownWrong : ChangeSpec := { name := "averageKnown", fn := fun _ => fun
  | [] => { results := [.lit (.bool false)], args := [] }
  | _ => none }
def AverageKnownWrongFalsely : Prop := averageKnownRow.holds Try.pinned (OpenSpec.ofChange averageKnownWrong)

/- THE SECOND FORM. 'bulk': how many values and letters a reading holds, each counted each time it is reached (what is shared counts as often as it is met; a slice's spare places count too). A statement '..UptoSaid' is the law's where the arguments, and the package variables that the reading takes, are together of bulk at most 1048576: NARROWER than '..Said'. Prove '..Said' where nothing that the law and all that it calls make is longer than what came in: it says more and counts as full. Else prove '..UptoSaid'. A law counts once. -/
mutual
def uptoBulk {H : Type} : DataW H → Nat
  | .lit (.string bytes) => bytes.length + 1
  | .lit _ => 1
  | .nil => 1
  | .ptr d => uptoBulk d + 1
  | .slice elems spare => uptoBulkAll elems + uptoBulkAll spare + 1
  | .agg parts => uptoBulkAll parts + 1
  | .iface _ d => uptoBulk d + 1
  | .map entries => uptoBulkEntries entries + 1
  | .held _ => 1
def uptoBulkAll {H : Type} : List (DataW H) → Nat
  | [] => 0
  | d :: r => uptoBulk d + uptoBulkAll r
def uptoBulkEntries {H : Type} : List (Lit × DataW H) → Nat
  | [] => 0
  | x :: r => uptoBulkEntry x + uptoBulkEntries r
def uptoBulkEntry {H : Type} : Lit × DataW H → Nat
  | (.string bytes, d) => bytes.length + uptoBulk d + 1
  | (_, d) => uptoBulk d + 1
 end
def uptoSmall : (H : Type) → List (DataW H) → Bool := fun _ ds => decide (uptoBulkAll ds ≤ 1048576)
def OpenSpec.upto (s : _root_.Go.ChangeSpec) : _root_.Go.OpenSpec := { _root_.Go.OpenSpec.ofChange s with cond := some uptoSmall }

/-- 'handbelllaw10.AveragePushes', WHERE WHAT IT READS IS OF BULK AT MOST 1048576: true; the input reads as it did. -/
def averagePushesUptoRow : OpenClaim := { program := "ytajgblbpdhedoaa", sum := "bca3f8c1627a7842a3a4bb7756d8cab40b3ce583b6d2b48f608f83908034fb1a", func := "handbell/handbelllaw10.AveragePushes", spec := "averagePushes", apart := false, narrowed := true }
def AveragePushesUptoSaid : Prop := averagePushesUptoRow.holds Try.pinned (OpenSpec.upto averagePushesSpec)

/-- 'handbelllaw10.AverageBetween', WHERE WHAT IT READS IS OF BULK AT MOST 1048576: true; the input reads as it did. -/
def averageBetweenUptoRow : OpenClaim := { program := "ytajgblbpdhedoaa", sum := "bca3f8c1627a7842a3a4bb7756d8cab40b3ce583b6d2b48f608f83908034fb1a", func := "handbell/handbelllaw10.AverageBetween", spec := "averageBetween", apart := false, narrowed := true }
def AverageBetweenUptoSaid : Prop := averageBetweenUptoRow.holds Try.pinned (OpenSpec.upto averageBetweenSpec)

/-- 'handbelllaw10.AverageOrder', WHERE WHAT IT READS IS OF BULK AT MOST 1048576: true; the input reads as it did. -/
def averageOrderUptoRow : OpenClaim := { program := "ytajgblbpdhedoaa", sum := "bca3f8c1627a7842a3a4bb7756d8cab40b3ce583b6d2b48f608f83908034fb1a", func := "handbell/handbelllaw10.AverageOrder", spec := "averageOrder", apart := false, narrowed := true }
def AverageOrderUptoSaid : Prop := averageOrderUptoRow.holds Try.pinned (OpenSpec.upto averageOrderSpec)

/-- 'handbelllaw10.AverageMoved', WHERE WHAT IT READS IS OF BULK AT MOST 1048576: true; the input reads as it did. -/
def averageMovedUptoRow : OpenClaim := { program := "ytajgblbpdhedoaa", sum := "bca3f8c1627a7842a3a4bb7756d8cab40b3ce583b6d2b48f608f83908034fb1a", func := "handbell/handbelllaw10.AverageMoved", spec := "averageMoved", apart := false, narrowed := true }
def AverageMovedUptoSaid : Prop := averageMovedUptoRow.holds Try.pinned (OpenSpec.upto averageMovedSpec)

/-- 'handbelllaw10.AverageKnown', WHERE WHAT IT READS IS OF BULK AT MOST 1048576: true; the input reads as it did. -/
def averageKnownUptoRow : OpenClaim := { program := "ytajgblbpdhedoaa", sum := "bca3f8c1627a7842a3a4bb7756d8cab40b3ce583b6d2b48f608f83908034fb1a", func := "handbell/handbelllaw10.AverageKnown", spec := "averageKnown", apart := false, narrowed := true }
def AverageKnownUptoSaid : Prop := averageKnownUptoRow.holds Try.pinned (OpenSpec.upto averageKnownSpec)

end Rows
end Go.Proofs.Ytajgblbpdhedoaa
