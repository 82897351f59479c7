/-
  No cell of these rows narrows 'for every input' (looked for: loops, veiled, ifaces, maps, wideKeys, modest, calm, conditions, laid).
  DERIVED. THE GIVEN ROWS OF THIS SEAT. 6 by the template 'for every input the law returns true; each argument reads behind the call as it read before'; 0 by the template 'total and deterministic' (their statements: YtigiakhdaaoljaaTotals.lean).
  GIVEN WITH THE SEED: the statements are not yours to turn. If you find one false, say at which input.
  Laid BY PROGRAM, IN A SANDBOX (cutbox-rows.mjs): the forced cells as the released guide's own fill.sh prints them over the translation a7f5e59aa5b67d34… (all of the seat's roots in one cut). By AI agents, Wed Nov 11 2026. No macro, syntax, notation, axiom, sorry.
-/
import Derived.Test.YtigiakhdaaoljaaChecked
import GoSem.Claim
import GoSem.ClaimJoined
import GoSem.ClaimMapViews
import Derived.JoinedTies
import Derived.KernelRfl
namespace Go.Proofs.Ytigiakhdaaoljaa
/- THE CELL 'sum', in the pinned program and in every row, IS THE sha256 OF THE DUMP (.gsa) THAT YtigiakhdaaoljaaProg.lean LOADS. Nothing in Lean hashes anything: it is a label: what it is worth is what the hold of that sum in a sandbox is worth. -/
noncomputable def Try.pinned : Pinned := { name := "ytigiakhdaaoljaa", sum := "a7f5e59aa5b67d346642e015154418bc5ba9cb17ad90b0f734ee77979f572a12", checked := Try.checked }
namespace Rows
def none {H : Type} : Left H := { results := [], args := [] }

/-- 'handbelllaw06.ApduPacks': WHATEVER THE INPUT: true; the input reads as it did. -/
def apduPacksSpec : ChangeSpec := { name := "apduPacks", fn := fun _ => fun
  | [d] => { results := [.lit (.bool true)], args := [d] }
  | _ => none }
def apduPacksRow : OpenClaim := { program := "ytigiakhdaaoljaa", sum := "a7f5e59aa5b67d346642e015154418bc5ba9cb17ad90b0f734ee77979f572a12", func := "handbell/handbelllaw06.ApduPacks", spec := "apduPacks", unfollowed := true, recurses := true, apart := false }
def ApduPacksSaid : Prop := apduPacksRow.holds Try.pinned (OpenSpec.ofChange apduPacksSpec)

/-- ITS FALSE NEIGHBOUR: 'it returns false'. Refute it at one input. -/
def apduPacksWrong : ChangeSpec := { name := "apduPacks", fn := fun _ => fun
  | [d] => { results := [.lit (.bool false)], args := [d] }
  | _ => none }
def ApduPacksWrongFalsely : Prop := apduPacksRow.holds Try.pinned (OpenSpec.ofChange apduPacksWrong)

/-- 'handbelllaw06.ApduUnpacks': WHATEVER THE INPUT: true; the input reads as it did. -/
def apduUnpacksSpec : ChangeSpec := { name := "apduUnpacks", fn := fun _ => fun
  | [d] => { results := [.lit (.bool true)], args := [d] }
  | _ => none }
def apduUnpacksRow : OpenClaim := { program := "ytigiakhdaaoljaa", sum := "a7f5e59aa5b67d346642e015154418bc5ba9cb17ad90b0f734ee77979f572a12", func := "handbell/handbelllaw06.ApduUnpacks", spec := "apduUnpacks", unfollowed := true, recurses := true, apart := false }
def ApduUnpacksSaid : Prop := apduUnpacksRow.holds Try.pinned (OpenSpec.ofChange apduUnpacksSpec)

/-- ITS FALSE NEIGHBOUR: 'it returns false'. Refute it at one input. -/
def apduUnpacksWrong : ChangeSpec := { name := "apduUnpacks", fn := fun _ => fun
  | [d] => { results := [.lit (.bool false)], args := [d] }
  | _ => none }
def ApduUnpacksWrongFalsely : Prop := apduUnpacksRow.holds Try.pinned (OpenSpec.ofChange apduUnpacksWrong)

/-- 'handbelllaw06.ApduBack': WHATEVER THE INPUT: true; the input reads as it did. -/
def apduBackSpec : ChangeSpec := { name := "apduBack", fn := fun _ => fun
  | [d] => { results := [.lit (.bool true)], args := [d] }
  | _ => none }
def apduBackRow : OpenClaim := { program := "ytigiakhdaaoljaa", sum := "a7f5e59aa5b67d346642e015154418bc5ba9cb17ad90b0f734ee77979f572a12", func := "handbell/handbelllaw06.ApduBack", spec := "apduBack", unfollowed := true, recurses := true, apart := false }
def ApduBackSaid : Prop := apduBackRow.holds Try.pinned (OpenSpec.ofChange apduBackSpec)

/-- ITS FALSE NEIGHBOUR: 'it returns false'. Refute it at one input. -/
def apduBackWrong : ChangeSpec := { name := "apduBack", fn := fun _ => fun
  | [d] => { results := [.lit (.bool false)], args := [d] }
  | _ => none }
def ApduBackWrongFalsely : Prop := apduBackRow.holds Try.pinned (OpenSpec.ofChange apduBackWrong)

/-- 'handbelllaw06.ApduOnce': WHATEVER THE INPUT: true; the input reads as it did. -/
def apduOnceSpec : ChangeSpec := { name := "apduOnce", fn := fun _ => fun
  | [d] => { results := [.lit (.bool true)], args := [d] }
  | _ => none }
def apduOnceRow : OpenClaim := { program := "ytigiakhdaaoljaa", sum := "a7f5e59aa5b67d346642e015154418bc5ba9cb17ad90b0f734ee77979f572a12", func := "handbell/handbelllaw06.ApduOnce", spec := "apduOnce", unfollowed := true, recurses := true, apart := false }
def ApduOnceSaid : Prop := apduOnceRow.holds Try.pinned (OpenSpec.ofChange apduOnceSpec)

/-- ITS FALSE NEIGHBOUR: 'it returns false'. Refute it at one input. -/
def apduOnceWrong : ChangeSpec := { name := "apduOnce", fn := fun _ => fun
  | [d] => { results := [.lit (.bool false)], args := [d] }
  | _ => none }
def ApduOnceWrongFalsely : Prop := apduOnceRow.holds Try.pinned (OpenSpec.ofChange apduOnceWrong)

/-- 'handbelllaw06.ApduCut': WHATEVER THE INPUT: true; the input reads as it did. -/
def apduCutSpec : ChangeSpec := { name := "apduCut", fn := fun _ => fun
  | [d1, d2, d3] => { results := [.lit (.bool true)], args := [d1, d2, d3] }
  | _ => none }
def apduCutRow : OpenClaim := { program := "ytigiakhdaaoljaa", sum := "a7f5e59aa5b67d346642e015154418bc5ba9cb17ad90b0f734ee77979f572a12", func := "handbell/handbelllaw06.ApduCut", spec := "apduCut", unfollowed := true, recurses := true, apart := false }
def ApduCutSaid : Prop := apduCutRow.holds Try.pinned (OpenSpec.ofChange apduCutSpec)

/-- ITS FALSE NEIGHBOUR: 'it returns false'. Refute it at one input. -/
def apduCutWrong : ChangeSpec := { name := "apduCut", fn := fun _ => fun
  | [d1, d2, d3] => { results := [.lit (.bool false)], args := [d1, d2, d3] }
  | _ => none }
def ApduCutWrongFalsely : Prop := apduCutRow.holds Try.pinned (OpenSpec.ofChange apduCutWrong)

/-- 'handbelllaw06.ApduNames': WHATEVER THE INPUT: true; the input reads as it did. -/
def apduNamesSpec : ChangeSpec := { name := "apduNames", fn := fun _ => fun
  | [] => { results := [.lit (.bool true)], args := [] }
  | _ => none }
def apduNamesRow : OpenClaim := { program := "ytigiakhdaaoljaa", sum := "a7f5e59aa5b67d346642e015154418bc5ba9cb17ad90b0f734ee77979f572a12", func := "handbell/handbelllaw06.ApduNames", spec := "apduNames", unfollowed := true, recurses := true, apart := false }
def ApduNamesSaid : Prop := apduNamesRow.holds Try.pinned (OpenSpec.ofChange apduNamesSpec)

/-- ITS FALSE NEIGHBOUR: 'it returns false'. Refute it at one input. -/
def apduNamesWrong : ChangeSpec := { name := "apduNames", fn := fun _ => fun
  | [] => { results := [.lit (.bool false)], args := [] }
  | _ => none }
def ApduNamesWrongFalsely : Prop := apduNamesRow.holds Try.pinned (OpenSpec.ofChange apduNamesWrong)

/- THE SECOND FORM. 'bulk': how many values and letters a reading holds, each counted each time it is reached (what is shared counts as often as it is met; a slice's spare places count too). A statement '..UptoSaid' is the law's where the arguments, and the package variables that the reading takes, are together of bulk at most 1048576: NARROWER than '..Said'. Prove '..Said' where nothing that the law and all that it calls make is longer than what came in: it says more and counts as full. Else prove '..UptoSaid'. A law counts once. -/
mutual
def uptoBulk {H : Type} : DataW H → Nat
  | .lit (.string bytes) => bytes.length + 1
  | .lit _ => 1
  | .nil => 1
  | .ptr d => uptoBulk d + 1
  | .slice elems spare => uptoBulkAll elems + uptoBulkAll spare + 1
  | .agg parts => uptoBulkAll parts + 1
  | .iface _ d => uptoBulk d + 1
  | .map entries => uptoBulkEntries entries + 1
  | .held _ => 1
def uptoBulkAll {H : Type} : List (DataW H) → Nat
  | [] => 0
  | d :: r => uptoBulk d + uptoBulkAll r
def uptoBulkEntries {H : Type} : List (Lit × DataW H) → Nat
  | [] => 0
  | x :: r => uptoBulkEntry x + uptoBulkEntries r
def uptoBulkEntry {H : Type} : Lit × DataW H → Nat
  | (.string bytes, d) => bytes.length + uptoBulk d + 1
  | (_, d) => uptoBulk d + 1
 end
def uptoSmall : (H : Type) → List (DataW H) → Bool := fun _ ds => decide (uptoBulkAll ds ≤ 1048576)
def OpenSpec.upto (s : _root_.Go.ChangeSpec) : _root_.Go.OpenSpec := { _root_.Go.OpenSpec.ofChange s with cond := some uptoSmall }

/-- 'handbelllaw06.ApduPacks', WHERE WHAT IT READS IS OF BULK AT MOST 1048576: true; the input reads as it did. -/
def apduPacksUptoRow : OpenClaim := { program := "ytigiakhdaaoljaa", sum := "a7f5e59aa5b67d346642e015154418bc5ba9cb17ad90b0f734ee77979f572a12", func := "handbell/handbelllaw06.ApduPacks", spec := "apduPacks", unfollowed := true, recurses := true, apart := false, narrowed := true }
def ApduPacksUptoSaid : Prop := apduPacksUptoRow.holds Try.pinned (OpenSpec.upto apduPacksSpec)

/-- 'handbelllaw06.ApduUnpacks', WHERE WHAT IT READS IS OF BULK AT MOST 1048576: true; the input reads as it did. -/
def apduUnpacksUptoRow : OpenClaim := { program := "ytigiakhdaaoljaa", sum := "a7f5e59aa5b67d346642e015154418bc5ba9cb17ad90b0f734ee77979f572a12", func := "handbell/handbelllaw06.ApduUnpacks", spec := "apduUnpacks", unfollowed := true, recurses := true, apart := false, narrowed := true }
def ApduUnpacksUptoSaid : Prop := apduUnpacksUptoRow.holds Try.pinned (OpenSpec.upto apduUnpacksSpec)

/-- 'handbelllaw06.ApduBack', WHERE WHAT IT READS IS OF BULK AT MOST 1048576: true; the input reads as it did. -/
def apduBackUptoRow : OpenClaim := { program := "ytigiakhdaaoljaa", sum := "a7f5e59aa5b67d346642e015154418bc5ba9cb17ad90b0f734ee77979f572a12", func := "handbell/handbelllaw06.ApduBack", spec := "apduBack", unfollowed := true, recurses := true, apart := false, narrowed := true }
def ApduBackUptoSaid : Prop := apduBackUptoRow.holds Try.pinned (OpenSpec.upto apduBackSpec)

/-- 'handbelllaw06.ApduOnce', WHERE WHAT IT READS IS OF BULK AT MOST 1048576: true; the input reads as it did. -/
def apduOnceUptoRow : OpenClaim := { program := "ytigiakhdaaoljaa", sum := "a7f5e59aa5b67d346642e015154418bc5ba9cb17ad90b0f734ee77979f572a12", func := "handbell/handbelllaw06.ApduOnce", spec := "apduOnce", unfollowed := true, recurses := true, apart := false, narrowed := true }
def ApduOnceUptoSaid : Prop := apduOnceUptoRow.holds Try.pinned (OpenSpec.upto apduOnceSpec)

/-- 'handbelllaw06.ApduCut', WHERE WHAT IT READS IS OF BULK AT MOST 1048576: true; the input reads as it did. -/
def apduCutUptoRow : OpenClaim := { program := "ytigiakhdaaoljaa", sum := "a7f5e59aa5b67d346642e015154418bc5ba9cb17ad90b0f734ee77979f572a12", func := "handbell/handbelllaw06.ApduCut", spec := "apduCut", unfollowed := true, recurses := true, apart := false, narrowed := true }
def ApduCutUptoSaid : Prop := apduCutUptoRow.holds Try.pinned (OpenSpec.upto apduCutSpec)

/-- 'handbelllaw06.ApduNames', WHERE WHAT IT READS IS OF BULK AT MOST 1048576: true; the input reads as it did. -/
def apduNamesUptoRow : OpenClaim := { program := "ytigiakhdaaoljaa", sum := "a7f5e59aa5b67d346642e015154418bc5ba9cb17ad90b0f734ee77979f572a12", func := "handbell/handbelllaw06.ApduNames", spec := "apduNames", unfollowed := true, recurses := true, apart := false, narrowed := true }
def ApduNamesUptoSaid : Prop := apduNamesUptoRow.holds Try.pinned (OpenSpec.upto apduNamesSpec)

end Rows
end Go.Proofs.Ytigiakhdaaoljaa
