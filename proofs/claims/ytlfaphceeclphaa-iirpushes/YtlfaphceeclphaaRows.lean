/-
  No cell of these rows narrows 'for every input' (looked for: loops, veiled, ifaces, maps, wideKeys, modest, calm, conditions, laid).
  DERIVED. THE GIVEN ROWS OF THIS SEAT. 5 by the template 'for every input the law returns true; each argument reads behind the call as it read before'; 0 by the template 'total and deterministic' (their statements: YtlfaphceeclphaaTotals.lean).
  GIVEN WITH THE SEED: the statements are not yours to turn. If you find one false, say at which input.
  Laid BY PROGRAM, IN A SANDBOX (cutbox-rows.mjs): the forced cells as the released guide's own fill.sh prints them over the translation 3f72a4bf1b650f92… (all of the seat's roots in one cut). By AI agents, Wed Nov 11 2026. No macro, syntax, notation, axiom, sorry.
-/
import Derived.Test.YtlfaphceeclphaaChecked
import GoSem.Claim
import GoSem.ClaimJoined
import GoSem.ClaimMapViews
import Derived.JoinedTies
import Derived.KernelRfl
namespace Go.Proofs.Ytlfaphceeclphaa
/- THE CELL 'sum', in the pinned program and in every row, IS THE sha256 OF THE DUMP (.gsa) THAT YtlfaphceeclphaaProg.lean LOADS. Nothing in Lean hashes anything: it is a label: what it is worth is what the hold of that sum in a sandbox is worth. -/
noncomputable def Try.pinned : Pinned := { name := "ytlfaphceeclphaa", sum := "3f72a4bf1b650f92ab25c8c430b084d7a01192a02c7d2b0c83be97b1f2db415f", checked := Try.checked }
namespace Rows
def none {H : Type} : Left H := { results := [], args := [] }

/-- 'handbelllaw11.IirPushes': WHATEVER THE INPUT: true; the input reads as it did. -/
def iirPushesSpec : ChangeSpec := { name := "iirPushes", fn := fun _ => fun
  | [d1, d2] => { results := [.lit (.bool true)], args := [d1, d2] }
  | _ => none }
def iirPushesRow : OpenClaim := { program := "ytlfaphceeclphaa", sum := "3f72a4bf1b650f92ab25c8c430b084d7a01192a02c7d2b0c83be97b1f2db415f", func := "handbell/handbelllaw11.IirPushes", spec := "iirPushes", unfollowed := true, recurses := true, apart := false }
def IirPushesSaid : Prop := iirPushesRow.holds Try.pinned (OpenSpec.ofChange iirPushesSpec)

/-- ITS FALSE NEIGHBOUR: 'it returns false'. Refute it at one input. -/
def iirPushesWrong : ChangeSpec := { name := "iirPushes", fn := fun _ => fun
  | [d1, d2] => { results := [.lit (.bool false)], args := [d1, d2] }
  | _ => none }
def IirPushesWrongFalsely : Prop := iirPushesRow.holds Try.pinned (OpenSpec.ofChange iirPushesWrong)

/-- 'handbelllaw11.IirBetween': WHATEVER THE INPUT: true; the input reads as it did. -/
def iirBetweenSpec : ChangeSpec := { name := "iirBetween", fn := fun _ => fun
  | [d1, d2] => { results := [.lit (.bool true)], args := [d1, d2] }
  | _ => none }
def iirBetweenRow : OpenClaim := { program := "ytlfaphceeclphaa", sum := "3f72a4bf1b650f92ab25c8c430b084d7a01192a02c7d2b0c83be97b1f2db415f", func := "handbell/handbelllaw11.IirBetween", spec := "iirBetween", unfollowed := true, recurses := true, apart := false }
def IirBetweenSaid : Prop := iirBetweenRow.holds Try.pinned (OpenSpec.ofChange iirBetweenSpec)

/-- ITS FALSE NEIGHBOUR: 'it returns false'. Refute it at one input. -/
def iirBetweenWrong : ChangeSpec := { name := "iirBetween", fn := fun _ => fun
  | [d1, d2] => { results := [.lit (.bool false)], args := [d1, d2] }
  | _ => none }
def IirBetweenWrongFalsely : Prop := iirBetweenRow.holds Try.pinned (OpenSpec.ofChange iirBetweenWrong)

/-- 'handbelllaw11.IirTogether': WHATEVER THE INPUT: true; the input reads as it did. -/
def iirTogetherSpec : ChangeSpec := { name := "iirTogether", fn := fun _ => fun
  | [d1, d2, d3] => { results := [.lit (.bool true)], args := [d1, d2, d3] }
  | _ => none }
def iirTogetherRow : OpenClaim := { program := "ytlfaphceeclphaa", sum := "3f72a4bf1b650f92ab25c8c430b084d7a01192a02c7d2b0c83be97b1f2db415f", func := "handbell/handbelllaw11.IirTogether", spec := "iirTogether", unfollowed := true, recurses := true, apart := false }
def IirTogetherSaid : Prop := iirTogetherRow.holds Try.pinned (OpenSpec.ofChange iirTogetherSpec)

/-- ITS FALSE NEIGHBOUR: 'it returns false'. Refute it at one input. -/
def iirTogetherWrong : ChangeSpec := { name := "iirTogether", fn := fun _ => fun
  | [d1, d2, d3] => { results := [.lit (.bool false)], args := [d1, d2, d3] }
  | _ => none }
def IirTogetherWrongFalsely : Prop := iirTogetherRow.holds Try.pinned (OpenSpec.ofChange iirTogetherWrong)

/-- 'handbelllaw11.IirContrary': WHATEVER THE INPUT: true; the input reads as it did. -/
def iirContrarySpec : ChangeSpec := { name := "iirContrary", fn := fun _ => fun
  | [d1, d2] => { results := [.lit (.bool true)], args := [d1, d2] }
  | _ => none }
def iirContraryRow : OpenClaim := { program := "ytlfaphceeclphaa", sum := "3f72a4bf1b650f92ab25c8c430b084d7a01192a02c7d2b0c83be97b1f2db415f", func := "handbell/handbelllaw11.IirContrary", spec := "iirContrary", unfollowed := true, recurses := true, apart := false }
def IirContrarySaid : Prop := iirContraryRow.holds Try.pinned (OpenSpec.ofChange iirContrarySpec)

/-- ITS FALSE NEIGHBOUR: 'it returns false'. Refute it at one input. -/
def iirContraryWrong : ChangeSpec := { name := "iirContrary", fn := fun _ => fun
  | [d1, d2] => { results := [.lit (.bool false)], args := [d1, d2] }
  | _ => none }
def IirContraryWrongFalsely : Prop := iirContraryRow.holds Try.pinned (OpenSpec.ofChange iirContraryWrong)

/-- 'handbelllaw11.IirKnown': WHATEVER THE INPUT: true; the input reads as it did. -/
def iirKnownSpec : ChangeSpec := { name := "iirKnown", fn := fun _ => fun
  | [] => { results := [.lit (.bool true)], args := [] }
  | _ => none }
def iirKnownRow : OpenClaim := { program := "ytlfaphceeclphaa", sum := "3f72a4bf1b650f92ab25c8c430b084d7a01192a02c7d2b0c83be97b1f2db415f", func := "handbell/handbelllaw11.IirKnown", spec := "iirKnown", unfollowed := true, recurses := true, apart := false }
def IirKnownSaid : Prop := iirKnownRow.holds Try.pinned (OpenSpec.ofChange iirKnownSpec)

/-- ITS FALSE NEIGHBOUR: 'it returns false'. Refute it at one input. -/
def iirKnownWrong : ChangeSpec := { name := "iirKnown", fn := fun _ => fun
  | [] => { results := [.lit (.bool false)], args := [] }
  | _ => none }
def IirKnownWrongFalsely : Prop := iirKnownRow.holds Try.pinned (OpenSpec.ofChange iirKnownWrong)

/- THE SECOND FORM. 'bulk': how many values and letters a reading holds, each counted each time it is reached (what is shared counts as often as it is met; a slice's spare places count too). A statement '..UptoSaid' is the law's where the arguments, and the package variables that the reading takes, are together of bulk at most 1048576: NARROWER than '..Said'. Prove '..Said' where nothing that the law and all that it calls make is longer than what came in: it says more and counts as full. Else prove '..UptoSaid'. A law counts once. -/
mutual
def uptoBulk {H : Type} : DataW H → Nat
  | .lit (.string bytes) => bytes.length + 1
  | .lit _ => 1
  | .nil => 1
  | .ptr d => uptoBulk d + 1
  | .slice elems spare => uptoBulkAll elems + uptoBulkAll spare + 1
  | .agg parts => uptoBulkAll parts + 1
  | .iface _ d => uptoBulk d + 1
  | .map entries => uptoBulkEntries entries + 1
  | .held _ => 1
def uptoBulkAll {H : Type} : List (DataW H) → Nat
  | [] => 0
  | d :: r => uptoBulk d + uptoBulkAll r
def uptoBulkEntries {H : Type} : List (Lit × DataW H) → Nat
  | [] => 0
  | x :: r => uptoBulkEntry x + uptoBulkEntries r
def uptoBulkEntry {H : Type} : Lit × DataW H → Nat
  | (.string bytes, d) => bytes.length + uptoBulk d + 1
  | (_, d) => uptoBulk d + 1
 end
def uptoSmall : (H : Type) → List (DataW H) → Bool := fun _ ds => decide (uptoBulkAll ds ≤ 1048576)
def OpenSpec.upto (s : _root_.Go.ChangeSpec) : _root_.Go.OpenSpec := { _root_.Go.OpenSpec.ofChange s with cond := some uptoSmall }

/-- 'handbelllaw11.IirPushes', WHERE WHAT IT READS IS OF BULK AT MOST 1048576: true; the input reads as it did. -/
def iirPushesUptoRow : OpenClaim := { program := "ytlfaphceeclphaa", sum := "3f72a4bf1b650f92ab25c8c430b084d7a01192a02c7d2b0c83be97b1f2db415f", func := "handbell/handbelllaw11.IirPushes", spec := "iirPushes", unfollowed := true, recurses := true, apart := false, narrowed := true }
def IirPushesUptoSaid : Prop := iirPushesUptoRow.holds Try.pinned (OpenSpec.upto iirPushesSpec)

/-- 'handbelllaw11.IirBetween', WHERE WHAT IT READS IS OF BULK AT MOST 1048576: true; the input reads as it did. -/
def iirBetweenUptoRow : OpenClaim := { program := "ytlfaphceeclphaa", sum := "3f72a4bf1b650f92ab25c8c430b084d7a01192a02c7d2b0c83be97b1f2db415f", func := "handbell/handbelllaw11.IirBetween", spec := "iirBetween", unfollowed := true, recurses := true, apart := false, narrowed := true }
def IirBetweenUptoSaid : Prop := iirBetweenUptoRow.holds Try.pinned (OpenSpec.upto iirBetweenSpec)

/-- 'handbelllaw11.IirTogether', WHERE WHAT IT READS IS OF BULK AT MOST 1048576: true; the input reads as it did. -/
def iirTogetherUptoRow : OpenClaim := { program := "ytlfaphceeclphaa", sum := "3f72a4bf1b650f92ab25c8c430b084d7a01192a02c7d2b0c83be97b1f2db415f", func := "handbell/handbelllaw11.IirTogether", spec := "iirTogether", unfollowed := true, recurses := true, apart := false, narrowed := true }
def IirTogetherUptoSaid : Prop := iirTogetherUptoRow.holds Try.pinned (OpenSpec.upto iirTogetherSpec)

/-- 'handbelllaw11.IirContrary', WHERE WHAT IT READS IS OF BULK AT MOST 1048576: true; the input reads as it did. -/
def iirContraryUptoRow : OpenClaim := { program := "ytlfaphceeclphaa", sum := "3f72a4bf1b650f92ab25c8c430b084d7a01192a02c7d2b0c83be97b1f2db415f", func := "handbell/handbelllaw11.IirContrary", spec := "iirContrary", unfollowed := true, recurses := true, apart := false, narrowed := true }
def IirContraryUptoSaid : Prop := iirContraryUptoRow.holds Try.pinned (OpenSpec.upto iirContrarySpec)

/-- 'handbelllaw11.IirKnown', WHERE WHAT IT READS IS OF BULK AT MOST 1048576: true; the input reads as it did. -/
def iirKnownUptoRow : OpenClaim := { program := "ytlfaphceeclphaa", sum := "3f72a4bf1b650f92ab25c8c430b084d7a01192a02c7d2b0c83be97b1f2db415f", func := "handbell/handbelllaw11.IirKnown", spec := "iirKnown", unfollowed := true, recurses := true, apart := false, narrowed := true }
def IirKnownUptoSaid : Prop := iirKnownUptoRow.holds Try.pinned (OpenSpec.upto iirKnownSpec)

end Rows
end Go.Proofs.Ytlfaphceeclphaa
