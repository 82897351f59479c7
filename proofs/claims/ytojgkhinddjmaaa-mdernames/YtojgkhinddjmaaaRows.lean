/-
  No cell of these rows narrows 'for every input' (looked for: loops, veiled, ifaces, maps, wideKeys, modest, calm, conditions, laid).
  DERIVED. THE GIVEN ROWS OF THIS SEAT. 5 by the template 'for every input the law returns true; each argument reads behind the call as it read before'; 0 by the template 'total and deterministic' (their statements: YtojgkhinddjmaaaTotals.lean).
  GIVEN WITH THE SEED: the statements are not yours to turn. If you find one false, say at which input.
  Laid BY PROGRAM, IN A SANDBOX (cutbox-rows.mjs): the forced cells as the released guide's own fill.sh prints them over the translation 68ec9ea288d1f61a… (all of the seat's roots in one cut). By AI agents, Wed Nov 11 2026. No macro, syntax, notation, axiom, sorry.
-/
import Derived.Test.YtojgkhinddjmaaaChecked
import GoSem.Claim
import GoSem.ClaimJoined
import GoSem.ClaimMapViews
import Derived.JoinedTies
import Derived.KernelRfl
namespace Go.Proofs.Ytojgkhinddjmaaa
/- THE CELL 'sum', in the pinned program and in every row, IS THE sha256 OF THE DUMP (.gsa) THAT YtojgkhinddjmaaaProg.lean LOADS. Nothing in Lean hashes anything: it is a label: what it is worth is what the hold of that sum in a sandbox is worth. -/
noncomputable def Try.pinned : Pinned := { name := "ytojgkhinddjmaaa", sum := "68ec9ea288d1f61a6c01abb2dfbe28c8f829bb14d0c23dd3df6c5d55665f5798", checked := Try.checked }
namespace Rows
def none {H : Type} : Left H := { results := [], args := [] }

/-- 'handbelllaw04.MderReads': WHATEVER THE INPUT: true; the input reads as it did. -/
def mderReadsSpec : ChangeSpec := { name := "mderReads", fn := fun _ => fun
  | [d1, d2] => { results := [.lit (.bool true)], args := [d1, d2] }
  | _ => none }
def mderReadsRow : OpenClaim := { program := "ytojgkhinddjmaaa", sum := "68ec9ea288d1f61a6c01abb2dfbe28c8f829bb14d0c23dd3df6c5d55665f5798", func := "handbell/handbelllaw04.MderReads", spec := "mderReads", apart := false }
def MderReadsSaid : Prop := mderReadsRow.holds Try.pinned (OpenSpec.ofChange mderReadsSpec)

/-- ITS FALSE NEIGHBOUR: 'it returns false'. Refute it at one input. -/
def mderReadsWrong : ChangeSpec := { name := "mderReads", fn := fun _ => fun
  | [d1, d2] => { results := [.lit (.bool false)], args := [d1, d2] }
  | _ => none }
def MderReadsWrongFalsely : Prop := mderReadsRow.holds Try.pinned (OpenSpec.ofChange mderReadsWrong)

/-- 'handbelllaw04.MderWrites': WHATEVER THE INPUT: true; the input reads as it did. -/
def mderWritesSpec : ChangeSpec := { name := "mderWrites", fn := fun _ => fun
  | [d] => { results := [.lit (.bool true)], args := [d] }
  | _ => none }
def mderWritesRow : OpenClaim := { program := "ytojgkhinddjmaaa", sum := "68ec9ea288d1f61a6c01abb2dfbe28c8f829bb14d0c23dd3df6c5d55665f5798", func := "handbell/handbelllaw04.MderWrites", spec := "mderWrites", apart := false }
def MderWritesSaid : Prop := mderWritesRow.holds Try.pinned (OpenSpec.ofChange mderWritesSpec)

/-- ITS FALSE NEIGHBOUR: 'it returns false'. Refute it at one input. -/
def mderWritesWrong : ChangeSpec := { name := "mderWrites", fn := fun _ => fun
  | [d] => { results := [.lit (.bool false)], args := [d] }
  | _ => none }
def MderWritesWrongFalsely : Prop := mderWritesRow.holds Try.pinned (OpenSpec.ofChange mderWritesWrong)

/-- 'handbelllaw04.MderBack': WHATEVER THE INPUT: true; the input reads as it did. -/
def mderBackSpec : ChangeSpec := { name := "mderBack", fn := fun _ => fun
  | [d] => { results := [.lit (.bool true)], args := [d] }
  | _ => none }
def mderBackRow : OpenClaim := { program := "ytojgkhinddjmaaa", sum := "68ec9ea288d1f61a6c01abb2dfbe28c8f829bb14d0c23dd3df6c5d55665f5798", func := "handbell/handbelllaw04.MderBack", spec := "mderBack", apart := false }
def MderBackSaid : Prop := mderBackRow.holds Try.pinned (OpenSpec.ofChange mderBackSpec)

/-- ITS FALSE NEIGHBOUR: 'it returns false'. Refute it at one input. -/
def mderBackWrong : ChangeSpec := { name := "mderBack", fn := fun _ => fun
  | [d] => { results := [.lit (.bool false)], args := [d] }
  | _ => none }
def MderBackWrongFalsely : Prop := mderBackRow.holds Try.pinned (OpenSpec.ofChange mderBackWrong)

/-- 'handbelllaw04.MderSame': WHATEVER THE INPUT: true; the input reads as it did. -/
def mderSameSpec : ChangeSpec := { name := "mderSame", fn := fun _ => fun
  | [d1, d2] => { results := [.lit (.bool true)], args := [d1, d2] }
  | _ => none }
def mderSameRow : OpenClaim := { program := "ytojgkhinddjmaaa", sum := "68ec9ea288d1f61a6c01abb2dfbe28c8f829bb14d0c23dd3df6c5d55665f5798", func := "handbell/handbelllaw04.MderSame", spec := "mderSame", apart := false }
def MderSameSaid : Prop := mderSameRow.holds Try.pinned (OpenSpec.ofChange mderSameSpec)

/-- ITS FALSE NEIGHBOUR: 'it returns false'. Refute it at one input. -/
def mderSameWrong : ChangeSpec := { name := "mderSame", fn := fun _ => fun
  | [d1, d2] => { results := [.lit (.bool false)], args := [d1, d2] }
  | _ => none }
def MderSameWrongFalsely : Prop := mderSameRow.holds Try.pinned (OpenSpec.ofChange mderSameWrong)

/-- 'handbelllaw04.MderNames': WHATEVER THE INPUT: true; the input reads as it did. -/
def mderNamesSpec : ChangeSpec := { name := "mderNames", fn := fun _ => fun
  | [] => { results := [.lit (.bool true)], args := [] }
  | _ => none }
def mderNamesRow : OpenClaim := { program := "ytojgkhinddjmaaa", sum := "68ec9ea288d1f61a6c01abb2dfbe28c8f829bb14d0c23dd3df6c5d55665f5798", func := "handbell/handbelllaw04.MderNames", spec := "mderNames", apart := false }
def MderNamesSaid : Prop := mderNamesRow.holds Try.pinned (OpenSpec.ofChange mderNamesSpec)

/-- ITS FALSE NEIGHBOUR: 'it returns false'. Refute it at one input. -/
def mderNamesWrong : ChangeSpec := { name := "mderNames", fn := fun _ => fun
  | [] => { results := [.lit (.bool false)], args := [] }
  | _ => none }
def MderNamesWrongFalsely : Prop := mderNamesRow.holds Try.pinned (OpenSpec.ofChange mderNamesWrong)

/- THE SECOND FORM. 'bulk': how many values and letters a reading holds, each counted each time it is reached (what is shared counts as often as it is met; a slice's spare places count too). A statement '..UptoSaid' is the law's where the arguments, and the package variables that the reading takes, are together of bulk at most 1048576: NARROWER than '..Said'. Prove '..Said' where nothing that the law and all that it calls make is longer than what came in: it says more and counts as full. Else prove '..UptoSaid'. A law counts once. -/
mutual
def uptoBulk {H : Type} : DataW H → Nat
  | .lit (.string bytes) => bytes.length + 1
  | .lit _ => 1
  | .nil => 1
  | .ptr d => uptoBulk d + 1
  | .slice elems spare => uptoBulkAll elems + uptoBulkAll spare + 1
  | .agg parts => uptoBulkAll parts + 1
  | .iface _ d => uptoBulk d + 1
  | .map entries => uptoBulkEntries entries + 1
  | .held _ => 1
def uptoBulkAll {H : Type} : List (DataW H) → Nat
  | [] => 0
  | d :: r => uptoBulk d + uptoBulkAll r
def uptoBulkEntries {H : Type} : List (Lit × DataW H) → Nat
  | [] => 0
  | x :: r => uptoBulkEntry x + uptoBulkEntries r
def uptoBulkEntry {H : Type} : Lit × DataW H → Nat
  | (.string bytes, d) => bytes.length + uptoBulk d + 1
  | (_, d) => uptoBulk d + 1
 end
def uptoSmall : (H : Type) → List (DataW H) → Bool := fun _ ds => decide (uptoBulkAll ds ≤ 1048576)
def OpenSpec.upto (s : _root_.Go.ChangeSpec) : _root_.Go.OpenSpec := { _root_.Go.OpenSpec.ofChange s with cond := some uptoSmall }

/-- 'handbelllaw04.MderReads', WHERE WHAT IT READS IS OF BULK AT MOST 1048576: true; the input reads as it did. -/
def mderReadsUptoRow : OpenClaim := { program := "ytojgkhinddjmaaa", sum := "68ec9ea288d1f61a6c01abb2dfbe28c8f829bb14d0c23dd3df6c5d55665f5798", func := "handbell/handbelllaw04.MderReads", spec := "mderReads", apart := false, narrowed := true }
def MderReadsUptoSaid : Prop := mderReadsUptoRow.holds Try.pinned (OpenSpec.upto mderReadsSpec)

/-- 'handbelllaw04.MderWrites', WHERE WHAT IT READS IS OF BULK AT MOST 1048576: true; the input reads as it did. -/
def mderWritesUptoRow : OpenClaim := { program := "ytojgkhinddjmaaa", sum := "68ec9ea288d1f61a6c01abb2dfbe28c8f829bb14d0c23dd3df6c5d55665f5798", func := "handbell/handbelllaw04.MderWrites", spec := "mderWrites", apart := false, narrowed := true }
def MderWritesUptoSaid : Prop := mderWritesUptoRow.holds Try.pinned (OpenSpec.upto mderWritesSpec)

/-- 'handbelllaw04.MderBack', WHERE WHAT IT READS IS OF BULK AT MOST 1048576: true; the input reads as it did. -/
def mderBackUptoRow : OpenClaim := { program := "ytojgkhinddjmaaa", sum := "68ec9ea288d1f61a6c01abb2dfbe28c8f829bb14d0c23dd3df6c5d55665f5798", func := "handbell/handbelllaw04.MderBack", spec := "mderBack", apart := false, narrowed := true }
def MderBackUptoSaid : Prop := mderBackUptoRow.holds Try.pinned (OpenSpec.upto mderBackSpec)

/-- 'handbelllaw04.MderSame', WHERE WHAT IT READS IS OF BULK AT MOST 1048576: true; the input reads as it did. -/
def mderSameUptoRow : OpenClaim := { program := "ytojgkhinddjmaaa", sum := "68ec9ea288d1f61a6c01abb2dfbe28c8f829bb14d0c23dd3df6c5d55665f5798", func := "handbell/handbelllaw04.MderSame", spec := "mderSame", apart := false, narrowed := true }
def MderSameUptoSaid : Prop := mderSameUptoRow.holds Try.pinned (OpenSpec.upto mderSameSpec)

/-- 'handbelllaw04.MderNames', WHERE WHAT IT READS IS OF BULK AT MOST 1048576: true; the input reads as it did. -/
def mderNamesUptoRow : OpenClaim := { program := "ytojgkhinddjmaaa", sum := "68ec9ea288d1f61a6c01abb2dfbe28c8f829bb14d0c23dd3df6c5d55665f5798", func := "handbell/handbelllaw04.MderNames", spec := "mderNames", apart := false, narrowed := true }
def MderNamesUptoSaid : Prop := mderNamesUptoRow.holds Try.pinned (OpenSpec.upto mderNamesSpec)

end Rows
end Go.Proofs.Ytojgkhinddjmaaa
