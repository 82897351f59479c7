/-
  No cell of these rows narrows 'for every input' (looked for: loops, veiled, ifaces, maps, wideKeys, modest, calm, conditions, laid).
  DERIVED. THE GIVEN ROWS OF THIS SEAT. 5 by the template 'for every input the law returns true; each argument reads behind the call as it read before'; 0 by the template 'total and deterministic' (their statements: YtjddkoadmoagjaaTotals.lean).
  GIVEN WITH THE SEED: the statements are not yours to turn. If you find one false, say at which input.
  Laid BY PROGRAM, IN A SANDBOX (cutbox-rows.mjs): the forced cells as the released guide's own fill.sh prints them over the translation 11608da5fdecc16c… (all of the seat's roots in one cut). By AI agents, Wed Nov 11 2026. No macro, syntax, notation, axiom, sorry.
-/
import Derived.Test.YtjddkoadmoagjaaChecked
import GoSem.Claim
import GoSem.ClaimJoined
import GoSem.ClaimMapViews
import Derived.JoinedTies
import Derived.KernelRfl
namespace Go.Proofs.Ytjddkoadmoagjaa
/- THE CELL 'sum', in the pinned program and in every row, IS THE sha256 OF THE DUMP (.gsa) THAT YtjddkoadmoagjaaProg.lean LOADS. Nothing in Lean hashes anything: it is a label: what it is worth is what the hold of that sum in a sandbox is worth. -/
noncomputable def Try.pinned : Pinned := { name := "ytjddkoadmoagjaa", sum := "11608da5fdecc16cd61e19e1dbd0cc445ccf79c05ea838d4f316cb8ec0f0eff2", checked := Try.checked }
namespace Rows
def none {H : Type} : Left H := { results := [], args := [] }

/-- 'handbelllaw09.MedianPushes': WHATEVER THE INPUT: true; the input reads as it did. -/
def medianPushesSpec : ChangeSpec := { name := "medianPushes", fn := fun _ => fun
  | [d1, d2] => { results := [.lit (.bool true)], args := [d1, d2] }
  | _ => none }
def medianPushesRow : OpenClaim := { program := "ytjddkoadmoagjaa", sum := "11608da5fdecc16cd61e19e1dbd0cc445ccf79c05ea838d4f316cb8ec0f0eff2", func := "handbell/handbelllaw09.MedianPushes", spec := "medianPushes", recurses := true, apart := false }
def MedianPushesSaid : Prop := medianPushesRow.holds Try.pinned (OpenSpec.ofChange medianPushesSpec)

/-- ITS FALSE NEIGHBOUR: 'it returns false'. Refute it at one input. -/
def medianPushesWrong : ChangeSpec := { name := "medianPushes", fn := fun _ => fun
  | [d1, d2] => { results := [.lit (.bool false)], args := [d1, d2] }
  | _ => none }
def MedianPushesWrongFalsely : Prop := medianPushesRow.holds Try.pinned (OpenSpec.ofChange medianPushesWrong)

/-- 'handbelllaw09.MedianHalf': WHATEVER THE INPUT: true; the input reads as it did. -/
def medianHalfSpec : ChangeSpec := { name := "medianHalf", fn := fun _ => fun
  | [d1, d2] => { results := [.lit (.bool true)], args := [d1, d2] }
  | _ => none }
def medianHalfRow : OpenClaim := { program := "ytjddkoadmoagjaa", sum := "11608da5fdecc16cd61e19e1dbd0cc445ccf79c05ea838d4f316cb8ec0f0eff2", func := "handbell/handbelllaw09.MedianHalf", spec := "medianHalf", recurses := true, apart := false }
def MedianHalfSaid : Prop := medianHalfRow.holds Try.pinned (OpenSpec.ofChange medianHalfSpec)

/-- ITS FALSE NEIGHBOUR: 'it returns false'. Refute it at one input. -/
def medianHalfWrong : ChangeSpec := { name := "medianHalf", fn := fun _ => fun
  | [d1, d2] => { results := [.lit (.bool false)], args := [d1, d2] }
  | _ => none }
def MedianHalfWrongFalsely : Prop := medianHalfRow.holds Try.pinned (OpenSpec.ofChange medianHalfWrong)

/-- 'handbelllaw09.MedianOrder': WHATEVER THE INPUT: true; the input reads as it did. -/
def medianOrderSpec : ChangeSpec := { name := "medianOrder", fn := fun _ => fun
  | [d1, d2, d3] => { results := [.lit (.bool true)], args := [d1, d2, d3] }
  | _ => none }
def medianOrderRow : OpenClaim := { program := "ytjddkoadmoagjaa", sum := "11608da5fdecc16cd61e19e1dbd0cc445ccf79c05ea838d4f316cb8ec0f0eff2", func := "handbell/handbelllaw09.MedianOrder", spec := "medianOrder", recurses := true, apart := false }
def MedianOrderSaid : Prop := medianOrderRow.holds Try.pinned (OpenSpec.ofChange medianOrderSpec)

/-- ITS FALSE NEIGHBOUR: 'it returns false'. Refute it at one input. -/
def medianOrderWrong : ChangeSpec := { name := "medianOrder", fn := fun _ => fun
  | [d1, d2, d3] => { results := [.lit (.bool false)], args := [d1, d2, d3] }
  | _ => none }
def MedianOrderWrongFalsely : Prop := medianOrderRow.holds Try.pinned (OpenSpec.ofChange medianOrderWrong)

/-- 'handbelllaw09.MedianSpike': WHATEVER THE INPUT: true; the input reads as it did. -/
def medianSpikeSpec : ChangeSpec := { name := "medianSpike", fn := fun _ => fun
  | [d1, d2, d3] => { results := [.lit (.bool true)], args := [d1, d2, d3] }
  | _ => none }
def medianSpikeRow : OpenClaim := { program := "ytjddkoadmoagjaa", sum := "11608da5fdecc16cd61e19e1dbd0cc445ccf79c05ea838d4f316cb8ec0f0eff2", func := "handbell/handbelllaw09.MedianSpike", spec := "medianSpike", recurses := true, apart := false }
def MedianSpikeSaid : Prop := medianSpikeRow.holds Try.pinned (OpenSpec.ofChange medianSpikeSpec)

/-- ITS FALSE NEIGHBOUR: 'it returns false'. Refute it at one input. -/
def medianSpikeWrong : ChangeSpec := { name := "medianSpike", fn := fun _ => fun
  | [d1, d2, d3] => { results := [.lit (.bool false)], args := [d1, d2, d3] }
  | _ => none }
def MedianSpikeWrongFalsely : Prop := medianSpikeRow.holds Try.pinned (OpenSpec.ofChange medianSpikeWrong)

/-- 'handbelllaw09.MedianKnown': WHATEVER THE INPUT: true; the input reads as it did. -/
def medianKnownSpec : ChangeSpec := { name := "medianKnown", fn := fun _ => fun
  | [] => { results := [.lit (.bool true)], args := [] }
  | _ => none }
def medianKnownRow : OpenClaim := { program := "ytjddkoadmoagjaa", sum := "11608da5fdecc16cd61e19e1dbd0cc445ccf79c05ea838d4f316cb8ec0f0eff2", func := "handbell/handbelllaw09.MedianKnown", spec := "medianKnown", recurses := true, apart := false }
def MedianKnownSaid : Prop := medianKnownRow.holds Try.pinned (OpenSpec.ofChange medianKnownSpec)

/-- ITS FALSE NEIGHBOUR: 'it returns false'. Refute it at one input. -/
def medianKnownWrong : ChangeSpec := { name := "medianKnown", fn := fun _ => fun
  | [] => { results := [.lit (.bool false)], args := [] }
  | _ => none }
def MedianKnownWrongFalsely : Prop := medianKnownRow.holds Try.pinned (OpenSpec.ofChange medianKnownWrong)

/- THE SECOND FORM. 'bulk': how many values and letters a reading holds, each counted each time it is reached (what is shared counts as often as it is met; a slice's spare places count too). A statement '..UptoSaid' is the law's where the arguments, and the package variables that the reading takes, are together of bulk at most 1048576: NARROWER than '..Said'. Prove '..Said' where nothing that the law and all that it calls make is longer than what came in: it says more and counts as full. Else prove '..UptoSaid'. A law counts once. -/
mutual
def uptoBulk {H : Type} : DataW H → Nat
  | .lit (.string bytes) => bytes.length + 1
  | .lit _ => 1
  | .nil => 1
  | .ptr d => uptoBulk d + 1
  | .slice elems spare => uptoBulkAll elems + uptoBulkAll spare + 1
  | .agg parts => uptoBulkAll parts + 1
  | .iface _ d => uptoBulk d + 1
  | .map entries => uptoBulkEntries entries + 1
  | .held _ => 1
def uptoBulkAll {H : Type} : List (DataW H) → Nat
  | [] => 0
  | d :: r => uptoBulk d + uptoBulkAll r
def uptoBulkEntries {H : Type} : List (Lit × DataW H) → Nat
  | [] => 0
  | x :: r => uptoBulkEntry x + uptoBulkEntries r
def uptoBulkEntry {H : Type} : Lit × DataW H → Nat
  | (.string bytes, d) => bytes.length + uptoBulk d + 1
  | (_, d) => uptoBulk d + 1
 end
def uptoSmall : (H : Type) → List (DataW H) → Bool := fun _ ds => decide (uptoBulkAll ds ≤ 1048576)
def OpenSpec.upto (s : _root_.Go.ChangeSpec) : _root_.Go.OpenSpec := { _root_.Go.OpenSpec.ofChange s with cond := some uptoSmall }

/-- 'handbelllaw09.MedianPushes', WHERE WHAT IT READS IS OF BULK AT MOST 1048576: true; the input reads as it did. -/
def medianPushesUptoRow : OpenClaim := { program := "ytjddkoadmoagjaa", sum := "11608da5fdecc16cd61e19e1dbd0cc445ccf79c05ea838d4f316cb8ec0f0eff2", func := "handbell/handbelllaw09.MedianPushes", spec := "medianPushes", recurses := true, apart := false, narrowed := true }
def MedianPushesUptoSaid : Prop := medianPushesUptoRow.holds Try.pinned (OpenSpec.upto medianPushesSpec)

/-- 'handbelllaw09.MedianHalf', WHERE WHAT IT READS IS OF BULK AT MOST 1048576: true; the input reads as it did. -/
def medianHalfUptoRow : OpenClaim := { program := "ytjddkoadmoagjaa", sum := "11608da5fdecc16cd61e19e1dbd0cc445ccf79c05ea838d4f316cb8ec0f0eff2", func := "handbell/handbelllaw09.MedianHalf", spec := "medianHalf", recurses := true, apart := false, narrowed := true }
def MedianHalfUptoSaid : Prop := medianHalfUptoRow.holds Try.pinned (OpenSpec.upto medianHalfSpec)

/-- 'handbelllaw09.MedianOrder', WHERE WHAT IT READS IS OF BULK AT MOST 1048576: true; the input reads as it did. -/
def medianOrderUptoRow : OpenClaim := { program := "ytjddkoadmoagjaa", sum := "11608da5fdecc16cd61e19e1dbd0cc445ccf79c05ea838d4f316cb8ec0f0eff2", func := "handbell/handbelllaw09.MedianOrder", spec := "medianOrder", recurses := true, apart := false, narrowed := true }
def MedianOrderUptoSaid : Prop := medianOrderUptoRow.holds Try.pinned (OpenSpec.upto medianOrderSpec)

/-- 'handbelllaw09.MedianSpike', WHERE WHAT IT READS IS OF BULK AT MOST 1048576: true; the input reads as it did. -/
def medianSpikeUptoRow : OpenClaim := { program := "ytjddkoadmoagjaa", sum := "11608da5fdecc16cd61e19e1dbd0cc445ccf79c05ea838d4f316cb8ec0f0eff2", func := "handbell/handbelllaw09.MedianSpike", spec := "medianSpike", recurses := true, apart := false, narrowed := true }
def MedianSpikeUptoSaid : Prop := medianSpikeUptoRow.holds Try.pinned (OpenSpec.upto medianSpikeSpec)

/-- 'handbelllaw09.MedianKnown', WHERE WHAT IT READS IS OF BULK AT MOST 1048576: true; the input reads as it did. -/
def medianKnownUptoRow : OpenClaim := { program := "ytjddkoadmoagjaa", sum := "11608da5fdecc16cd61e19e1dbd0cc445ccf79c05ea838d4f316cb8ec0f0eff2", func := "handbell/handbelllaw09.MedianKnown", spec := "medianKnown", recurses := true, apart := false, narrowed := true }
def MedianKnownUptoSaid : Prop := medianKnownUptoRow.holds Try.pinned (OpenSpec.upto medianKnownSpec)

end Rows
end Go.Proofs.Ytjddkoadmoagjaa
