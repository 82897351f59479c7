/-
  No cell of these rows narrows 'for every input' (looked for: loops, veiled, ifaces, maps, wideKeys, modest, calm, conditions, laid).
  DERIVED. THE GIVEN ROWS OF THIS SEAT. 5 by the template 'for every input the law returns true; each argument reads behind the call as it read before'; 0 by the template 'total and deterministic' (their statements: YtalffdiohjcajaaTotals.lean).
  GIVEN WITH THE SEED: the statements are not yours to turn. If you find one false, say at which input.
  Laid BY PROGRAM, IN A SANDBOX (cutbox-rows.mjs): the forced cells as the released guide's own fill.sh prints them over the translation ba4695b5f6b259b6… (all of the seat's roots in one cut). By AI agents, Wed Nov 11 2026. No macro, syntax, notation, axiom, sorry.
-/
import Derived.Test.YtalffdiohjcajaaChecked
import GoSem.Claim
import GoSem.ClaimJoined
import GoSem.ClaimMapViews
import Derived.JoinedTies
import Derived.KernelRfl
namespace Go.Proofs.Ytalffdiohjcajaa
/- THE CELL 'sum', in the pinned program and in every row, IS THE sha256 OF THE DUMP (.gsa) THAT YtalffdiohjcajaaProg.lean LOADS. Nothing in Lean hashes anything: it is a label: what it is worth is what the hold of that sum in a sandbox is worth. -/
noncomputable def Try.pinned : Pinned := { name := "ytalffdiohjcajaa", sum := "ba4695b5f6b259b624d7526424c086cc05e0f8bad2cc704eb47d139dd7b66628", checked := Try.checked }
namespace Rows
def none {H : Type} : Left H := { results := [], args := [] }

/-- 'handbelllaw22.BlockPlays': WHATEVER THE INPUT: true; the input reads as it did. -/
def blockPlaysSpec : ChangeSpec := { name := "blockPlays", fn := fun _ => fun
  | [d1, d2] => { results := [.lit (.bool true)], args := [d1, d2] }
  | _ => none }
def blockPlaysRow : OpenClaim := { program := "ytalffdiohjcajaa", sum := "ba4695b5f6b259b624d7526424c086cc05e0f8bad2cc704eb47d139dd7b66628", func := "handbell/handbelllaw22.BlockPlays", spec := "blockPlays", apart := false }
def BlockPlaysSaid : Prop := blockPlaysRow.holds Try.pinned (OpenSpec.ofChange blockPlaysSpec)

/-- ITS FALSE NEIGHBOUR: 'it returns false'. Refute it at one input. -/
def blockPlaysWrong : ChangeSpec := { name := "blockPlays", fn := fun _ => fun
  | [d1, d2] => { results := [.lit (.bool false)], args := [d1, d2] }
  | _ => none }
def BlockPlaysWrongFalsely : Prop := blockPlaysRow.holds Try.pinned (OpenSpec.ofChange blockPlaysWrong)

/-- 'handbelllaw22.BlockKeeps': WHATEVER THE INPUT: true; the input reads as it did. -/
def blockKeepsSpec : ChangeSpec := { name := "blockKeeps", fn := fun _ => fun
  | [d1, d2, d3] => { results := [.lit (.bool true)], args := [d1, d2, d3] }
  | _ => none }
def blockKeepsRow : OpenClaim := { program := "ytalffdiohjcajaa", sum := "ba4695b5f6b259b624d7526424c086cc05e0f8bad2cc704eb47d139dd7b66628", func := "handbell/handbelllaw22.BlockKeeps", spec := "blockKeeps", apart := false }
def BlockKeepsSaid : Prop := blockKeepsRow.holds Try.pinned (OpenSpec.ofChange blockKeepsSpec)

/-- ITS FALSE NEIGHBOUR: 'it returns false'. Refute it at one input. -/
def blockKeepsWrong : ChangeSpec := { name := "blockKeeps", fn := fun _ => fun
  | [d1, d2, d3] => { results := [.lit (.bool false)], args := [d1, d2, d3] }
  | _ => none }
def BlockKeepsWrongFalsely : Prop := blockKeepsRow.holds Try.pinned (OpenSpec.ofChange blockKeepsWrong)

/-- 'handbelllaw22.BlockArmed': WHATEVER THE INPUT: true; the input reads as it did. -/
def blockArmedSpec : ChangeSpec := { name := "blockArmed", fn := fun _ => fun
  | [d1, d2] => { results := [.lit (.bool true)], args := [d1, d2] }
  | _ => none }
def blockArmedRow : OpenClaim := { program := "ytalffdiohjcajaa", sum := "ba4695b5f6b259b624d7526424c086cc05e0f8bad2cc704eb47d139dd7b66628", func := "handbell/handbelllaw22.BlockArmed", spec := "blockArmed", apart := false }
def BlockArmedSaid : Prop := blockArmedRow.holds Try.pinned (OpenSpec.ofChange blockArmedSpec)

/-- ITS FALSE NEIGHBOUR: 'it returns false'. Refute it at one input. -/
def blockArmedWrong : ChangeSpec := { name := "blockArmed", fn := fun _ => fun
  | [d1, d2] => { results := [.lit (.bool false)], args := [d1, d2] }
  | _ => none }
def BlockArmedWrongFalsely : Prop := blockArmedRow.holds Try.pinned (OpenSpec.ofChange blockArmedWrong)

/-- 'handbelllaw22.BlockSingle': WHATEVER THE INPUT: true; the input reads as it did. -/
def blockSingleSpec : ChangeSpec := { name := "blockSingle", fn := fun _ => fun
  | [d] => { results := [.lit (.bool true)], args := [d] }
  | _ => none }
def blockSingleRow : OpenClaim := { program := "ytalffdiohjcajaa", sum := "ba4695b5f6b259b624d7526424c086cc05e0f8bad2cc704eb47d139dd7b66628", func := "handbell/handbelllaw22.BlockSingle", spec := "blockSingle", apart := false }
def BlockSingleSaid : Prop := blockSingleRow.holds Try.pinned (OpenSpec.ofChange blockSingleSpec)

/-- ITS FALSE NEIGHBOUR: 'it returns false'. Refute it at one input. -/
def blockSingleWrong : ChangeSpec := { name := "blockSingle", fn := fun _ => fun
  | [d] => { results := [.lit (.bool false)], args := [d] }
  | _ => none }
def BlockSingleWrongFalsely : Prop := blockSingleRow.holds Try.pinned (OpenSpec.ofChange blockSingleWrong)

/-- 'handbelllaw22.BlockNames': WHATEVER THE INPUT: true; the input reads as it did. -/
def blockNamesSpec : ChangeSpec := { name := "blockNames", fn := fun _ => fun
  | [] => { results := [.lit (.bool true)], args := [] }
  | _ => none }
def blockNamesRow : OpenClaim := { program := "ytalffdiohjcajaa", sum := "ba4695b5f6b259b624d7526424c086cc05e0f8bad2cc704eb47d139dd7b66628", func := "handbell/handbelllaw22.BlockNames", spec := "blockNames", apart := false }
def BlockNamesSaid : Prop := blockNamesRow.holds Try.pinned (OpenSpec.ofChange blockNamesSpec)

/-- ITS FALSE NEIGHBOUR: 'it returns false'. Refute it at one input. -/
def blockNamesWrong : ChangeSpec := { name := "blockNames", fn := fun _ => fun
  | [] => { results := [.lit (.bool false)], args := [] }
  | _ => none }
def BlockNamesWrongFalsely : Prop := blockNamesRow.holds Try.pinned (OpenSpec.ofChange blockNamesWrong)

/- THE SECOND FORM. 'bulk': how many values and letters a reading holds, each counted each time it is reached (what is shared counts as often as it is met; a slice's spare places count too). A statement '..UptoSaid' is the law's where the arguments, and the package variables that the reading takes, are together of bulk at most 1048576: NARROWER than '..Said'. Prove '..Said' where nothing that the law and all that it calls make is longer than what came in: it says more and counts as full. Else prove '..UptoSaid'. A law counts once. -/
mutual
def uptoBulk {H : Type} : DataW H → Nat
  | .lit (.string bytes) => bytes.length + 1
  | .lit _ => 1
  | .nil => 1
  | .ptr d => uptoBulk d + 1
  | .slice elems spare => uptoBulkAll elems + uptoBulkAll spare + 1
  | .agg parts => uptoBulkAll parts + 1
  | .iface _ d => uptoBulk d + 1
  | .map entries => uptoBulkEntries entries + 1
  | .held _ => 1
def uptoBulkAll {H : Type} : List (DataW H) → Nat
  | [] => 0
  | d :: r => uptoBulk d + uptoBulkAll r
def uptoBulkEntries {H : Type} : List (Lit × DataW H) → Nat
  | [] => 0
  | x :: r => uptoBulkEntry x + uptoBulkEntries r
def uptoBulkEntry {H : Type} : Lit × DataW H → Nat
  | (.string bytes, d) => bytes.length + uptoBulk d + 1
  | (_, d) => uptoBulk d + 1
 end
def uptoSmall : (H : Type) → List (DataW H) → Bool := fun _ ds => decide (uptoBulkAll ds ≤ 1048576)
def OpenSpec.upto (s : _root_.Go.ChangeSpec) : _root_.Go.OpenSpec := { _root_.Go.OpenSpec.ofChange s with cond := some uptoSmall }

/-- 'handbelllaw22.BlockPlays', WHERE WHAT IT READS IS OF BULK AT MOST 1048576: true; the input reads as it did. -/
def blockPlaysUptoRow : OpenClaim := { program := "ytalffdiohjcajaa", sum := "ba4695b5f6b259b624d7526424c086cc05e0f8bad2cc704eb47d139dd7b66628", func := "handbell/handbelllaw22.BlockPlays", spec := "blockPlays", apart := false, narrowed := true }
def BlockPlaysUptoSaid : Prop := blockPlaysUptoRow.holds Try.pinned (OpenSpec.upto blockPlaysSpec)

/-- 'handbelllaw22.BlockKeeps', WHERE WHAT IT READS IS OF BULK AT MOST 1048576: true; the input reads as it did. -/
def blockKeepsUptoRow : OpenClaim := { program := "ytalffdiohjcajaa", sum := "ba4695b5f6b259b624d7526424c086cc05e0f8bad2cc704eb47d139dd7b66628", func := "handbell/handbelllaw22.BlockKeeps", spec := "blockKeeps", apart := false, narrowed := true }
def BlockKeepsUptoSaid : Prop := blockKeepsUptoRow.holds Try.pinned (OpenSpec.upto blockKeepsSpec)

/-- 'handbelllaw22.BlockArmed', WHERE WHAT IT READS IS OF BULK AT MOST 1048576: true; the input reads as it did. -/
def blockArmedUptoRow : OpenClaim := { program := "ytalffdiohjcajaa", sum := "ba4695b5f6b259b624d7526424c086cc05e0f8bad2cc704eb47d139dd7b66628", func := "handbell/handbelllaw22.BlockArmed", spec := "blockArmed", apart := false, narrowed := true }
def BlockArmedUptoSaid : Prop := blockArmedUptoRow.holds Try.pinned (OpenSpec.upto blockArmedSpec)

/-- 'handbelllaw22.BlockSingle', WHERE WHAT IT READS IS OF BULK AT MOST 1048576: true; the input reads as it did. -/
def blockSingleUptoRow : OpenClaim := { program := "ytalffdiohjcajaa", sum := "ba4695b5f6b259b624d7526424c086cc05e0f8bad2cc704eb47d139dd7b66628", func := "handbell/handbelllaw22.BlockSingle", spec := "blockSingle", apart := false, narrowed := true }
def BlockSingleUptoSaid : Prop := blockSingleUptoRow.holds Try.pinned (OpenSpec.upto blockSingleSpec)

/-- 'handbelllaw22.BlockNames', WHERE WHAT IT READS IS OF BULK AT MOST 1048576: true; the input reads as it did. -/
def blockNamesUptoRow : OpenClaim := { program := "ytalffdiohjcajaa", sum := "ba4695b5f6b259b624d7526424c086cc05e0f8bad2cc704eb47d139dd7b66628", func := "handbell/handbelllaw22.BlockNames", spec := "blockNames", apart := false, narrowed := true }
def BlockNamesUptoSaid : Prop := blockNamesUptoRow.holds Try.pinned (OpenSpec.upto blockNamesSpec)

end Rows
end Go.Proofs.Ytalffdiohjcajaa
