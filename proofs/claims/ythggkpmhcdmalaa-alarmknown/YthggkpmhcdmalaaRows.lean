/-
  No cell of these rows narrows 'for every input' (looked for: loops, veiled, ifaces, maps, wideKeys, modest, calm, conditions, laid).
  DERIVED. THE GIVEN ROWS OF THIS SEAT. 6 by the template 'for every input the law returns true; each argument reads behind the call as it read before'; 0 by the template 'total and deterministic' (their statements: YthggkpmhcdmalaaTotals.lean).
  GIVEN WITH THE SEED: the statements are not yours to turn. If you find one false, say at which input.
  Laid BY PROGRAM, IN A SANDBOX (cutbox-rows.mjs): the forced cells as the released guide's own fill.sh prints them over the translation 93c271d7f874b183… (all of the seat's roots in one cut). By AI agents, Wed Nov 11 2026. No macro, syntax, notation, axiom, sorry.
-/
import Derived.Test.YthggkpmhcdmalaaChecked
import GoSem.Claim
import GoSem.ClaimJoined
import GoSem.ClaimMapViews
import Derived.JoinedTies
import Derived.KernelRfl
namespace Go.Proofs.Ythggkpmhcdmalaa
/- THE CELL 'sum', in the pinned program and in every row, IS THE sha256 OF THE DUMP (.gsa) THAT YthggkpmhcdmalaaProg.lean LOADS. Nothing in Lean hashes anything: it is a label: what it is worth is what the hold of that sum in a sandbox is worth. -/
noncomputable def Try.pinned : Pinned := { name := "ythggkpmhcdmalaa", sum := "93c271d7f874b1835cfea3f12f32e86aae652ff0162b637e459c22b4b60f001a", checked := Try.checked }
namespace Rows
def none {H : Type} : Left H := { results := [], args := [] }

/-- 'handbelllaw18.AlarmDeeds': WHATEVER THE INPUT: true; the input reads as it did. -/
def alarmDeedsSpec : ChangeSpec := { name := "alarmDeeds", fn := fun _ => fun
  | [d1, d2, d3] => { results := [.lit (.bool true)], args := [d1, d2, d3] }
  | _ => none }
def alarmDeedsRow : OpenClaim := { program := "ythggkpmhcdmalaa", sum := "93c271d7f874b1835cfea3f12f32e86aae652ff0162b637e459c22b4b60f001a", func := "handbell/handbelllaw18.AlarmDeeds", spec := "alarmDeeds", apart := false }
def AlarmDeedsSaid : Prop := alarmDeedsRow.holds Try.pinned (OpenSpec.ofChange alarmDeedsSpec)

/-- ITS FALSE NEIGHBOUR: 'it returns false'. Refute it at one input. -/
def alarmDeedsWrong : ChangeSpec := { name := "alarmDeeds", fn := fun _ => fun
  | [d1, d2, d3] => { results := [.lit (.bool false)], args := [d1, d2, d3] }
  | _ => none }
def AlarmDeedsWrongFalsely : Prop := alarmDeedsRow.holds Try.pinned (OpenSpec.ofChange alarmDeedsWrong)

/-- 'handbelllaw18.AlarmNever': WHATEVER THE INPUT: true; the input reads as it did. -/
def alarmNeverSpec : ChangeSpec := { name := "alarmNever", fn := fun _ => fun
  | [d1, d2] => { results := [.lit (.bool true)], args := [d1, d2] }
  | _ => none }
def alarmNeverRow : OpenClaim := { program := "ythggkpmhcdmalaa", sum := "93c271d7f874b1835cfea3f12f32e86aae652ff0162b637e459c22b4b60f001a", func := "handbell/handbelllaw18.AlarmNever", spec := "alarmNever", apart := false }
def AlarmNeverSaid : Prop := alarmNeverRow.holds Try.pinned (OpenSpec.ofChange alarmNeverSpec)

/-- ITS FALSE NEIGHBOUR: 'it returns false'. Refute it at one input. -/
def alarmNeverWrong : ChangeSpec := { name := "alarmNever", fn := fun _ => fun
  | [d1, d2] => { results := [.lit (.bool false)], args := [d1, d2] }
  | _ => none }
def AlarmNeverWrongFalsely : Prop := alarmNeverRow.holds Try.pinned (OpenSpec.ofChange alarmNeverWrong)

/-- 'handbelllaw18.AlarmAgain': WHATEVER THE INPUT: true; the input reads as it did. -/
def alarmAgainSpec : ChangeSpec := { name := "alarmAgain", fn := fun _ => fun
  | [d1, d2, d3] => { results := [.lit (.bool true)], args := [d1, d2, d3] }
  | _ => none }
def alarmAgainRow : OpenClaim := { program := "ythggkpmhcdmalaa", sum := "93c271d7f874b1835cfea3f12f32e86aae652ff0162b637e459c22b4b60f001a", func := "handbell/handbelllaw18.AlarmAgain", spec := "alarmAgain", apart := false }
def AlarmAgainSaid : Prop := alarmAgainRow.holds Try.pinned (OpenSpec.ofChange alarmAgainSpec)

/-- ITS FALSE NEIGHBOUR: 'it returns false'. Refute it at one input. -/
def alarmAgainWrong : ChangeSpec := { name := "alarmAgain", fn := fun _ => fun
  | [d1, d2, d3] => { results := [.lit (.bool false)], args := [d1, d2, d3] }
  | _ => none }
def AlarmAgainWrongFalsely : Prop := alarmAgainRow.holds Try.pinned (OpenSpec.ofChange alarmAgainWrong)

/-- 'handbelllaw18.AlarmPaused': WHATEVER THE INPUT: true; the input reads as it did. -/
def alarmPausedSpec : ChangeSpec := { name := "alarmPaused", fn := fun _ => fun
  | [d1, d2] => { results := [.lit (.bool true)], args := [d1, d2] }
  | _ => none }
def alarmPausedRow : OpenClaim := { program := "ythggkpmhcdmalaa", sum := "93c271d7f874b1835cfea3f12f32e86aae652ff0162b637e459c22b4b60f001a", func := "handbell/handbelllaw18.AlarmPaused", spec := "alarmPaused", apart := false }
def AlarmPausedSaid : Prop := alarmPausedRow.holds Try.pinned (OpenSpec.ofChange alarmPausedSpec)

/-- ITS FALSE NEIGHBOUR: 'it returns false'. Refute it at one input. -/
def alarmPausedWrong : ChangeSpec := { name := "alarmPaused", fn := fun _ => fun
  | [d1, d2] => { results := [.lit (.bool false)], args := [d1, d2] }
  | _ => none }
def AlarmPausedWrongFalsely : Prop := alarmPausedRow.holds Try.pinned (OpenSpec.ofChange alarmPausedWrong)

/-- 'handbelllaw18.AlarmGrows': WHATEVER THE INPUT: true; the input reads as it did. -/
def alarmGrowsSpec : ChangeSpec := { name := "alarmGrows", fn := fun _ => fun
  | [d1, d2] => { results := [.lit (.bool true)], args := [d1, d2] }
  | _ => none }
def alarmGrowsRow : OpenClaim := { program := "ythggkpmhcdmalaa", sum := "93c271d7f874b1835cfea3f12f32e86aae652ff0162b637e459c22b4b60f001a", func := "handbell/handbelllaw18.AlarmGrows", spec := "alarmGrows", apart := false }
def AlarmGrowsSaid : Prop := alarmGrowsRow.holds Try.pinned (OpenSpec.ofChange alarmGrowsSpec)

/-- ITS FALSE NEIGHBOUR: 'it returns false'. Refute it at one input. -/
def alarmGrowsWrong : ChangeSpec := { name := "alarmGrows", fn := fun _ => fun
  | [d1, d2] => { results := [.lit (.bool false)], args := [d1, d2] }
  | _ => none }
def AlarmGrowsWrongFalsely : Prop := alarmGrowsRow.holds Try.pinned (OpenSpec.ofChange alarmGrowsWrong)

/-- 'handbelllaw18.AlarmKnown': WHATEVER THE INPUT: true; the input reads as it did. -/
def alarmKnownSpec : ChangeSpec := { name := "alarmKnown", fn := fun _ => fun
  | [] => { results := [.lit (.bool true)], args := [] }
  | _ => none }
def alarmKnownRow : OpenClaim := { program := "ythggkpmhcdmalaa", sum := "93c271d7f874b1835cfea3f12f32e86aae652ff0162b637e459c22b4b60f001a", func := "handbell/handbelllaw18.AlarmKnown", spec := "alarmKnown", apart := false }
def AlarmKnownSaid : Prop := alarmKnownRow.holds Try.pinned (OpenSpec.ofChange alarmKnownSpec)

/-- ITS FALSE NEIGHBOUR: 'it returns false'. Refute it at one input. -/
def alarmKnownWrong : ChangeSpec := { name := "alarmKnown", fn := fun _ => fun
  | [] => { results := [.lit (.bool false)], args := [] }
  | _ => none }
def AlarmKnownWrongFalsely : Prop := alarmKnownRow.holds Try.pinned (OpenSpec.ofChange alarmKnownWrong)

/- THE SECOND FORM. 'bulk': how many values and letters a reading holds, each counted each time it is reached (what is shared counts as often as it is met; a slice's spare places count too). A statement '..UptoSaid' is the law's where the arguments, and the package variables that the reading takes, are together of bulk at most 1048576: NARROWER than '..Said'. Prove '..Said' where nothing that the law and all that it calls make is longer than what came in: it says more and counts as full. Else prove '..UptoSaid'. A law counts once. -/
mutual
def uptoBulk {H : Type} : DataW H → Nat
  | .lit (.string bytes) => bytes.length + 1
  | .lit _ => 1
  | .nil => 1
  | .ptr d => uptoBulk d + 1
  | .slice elems spare => uptoBulkAll elems + uptoBulkAll spare + 1
  | .agg parts => uptoBulkAll parts + 1
  | .iface _ d => uptoBulk d + 1
  | .map entries => uptoBulkEntries entries + 1
  | .held _ => 1
def uptoBulkAll {H : Type} : List (DataW H) → Nat
  | [] => 0
  | d :: r => uptoBulk d + uptoBulkAll r
def uptoBulkEntries {H : Type} : List (Lit × DataW H) → Nat
  | [] => 0
  | x :: r => uptoBulkEntry x + uptoBulkEntries r
def uptoBulkEntry {H : Type} : Lit × DataW H → Nat
  | (.string bytes, d) => bytes.length + uptoBulk d + 1
  | (_, d) => uptoBulk d + 1
 end
def uptoSmall : (H : Type) → List (DataW H) → Bool := fun _ ds => decide (uptoBulkAll ds ≤ 1048576)
def OpenSpec.upto (s : _root_.Go.ChangeSpec) : _root_.Go.OpenSpec := { _root_.Go.OpenSpec.ofChange s with cond := some uptoSmall }

/-- 'handbelllaw18.AlarmDeeds', WHERE WHAT IT READS IS OF BULK AT MOST 1048576: true; the input reads as it did. -/
def alarmDeedsUptoRow : OpenClaim := { program := "ythggkpmhcdmalaa", sum := "93c271d7f874b1835cfea3f12f32e86aae652ff0162b637e459c22b4b60f001a", func := "handbell/handbelllaw18.AlarmDeeds", spec := "alarmDeeds", apart := false, narrowed := true }
def AlarmDeedsUptoSaid : Prop := alarmDeedsUptoRow.holds Try.pinned (OpenSpec.upto alarmDeedsSpec)

/-- 'handbelllaw18.AlarmNever', WHERE WHAT IT READS IS OF BULK AT MOST 1048576: true; the input reads as it did. -/
def alarmNeverUptoRow : OpenClaim := { program := "ythggkpmhcdmalaa", sum := "93c271d7f874b1835cfea3f12f32e86aae652ff0162b637e459c22b4b60f001a", func := "handbell/handbelllaw18.AlarmNever", spec := "alarmNever", apart := false, narrowed := true }
def AlarmNeverUptoSaid : Prop := alarmNeverUptoRow.holds Try.pinned (OpenSpec.upto alarmNeverSpec)

/-- 'handbelllaw18.AlarmAgain', WHERE WHAT IT READS IS OF BULK AT MOST 1048576: true; the input reads as it did. -/
def alarmAgainUptoRow : OpenClaim := { program := "ythggkpmhcdmalaa", sum := "93c271d7f874b1835cfea3f12f32e86aae652ff0162b637e459c22b4b60f001a", func := "handbell/handbelllaw18.AlarmAgain", spec := "alarmAgain", apart := false, narrowed := true }
def AlarmAgainUptoSaid : Prop := alarmAgainUptoRow.holds Try.pinned (OpenSpec.upto alarmAgainSpec)

/-- 'handbelllaw18.AlarmPaused', WHERE WHAT IT READS IS OF BULK AT MOST 1048576: true; the input reads as it did. -/
def alarmPausedUptoRow : OpenClaim := { program := "ythggkpmhcdmalaa", sum := "93c271d7f874b1835cfea3f12f32e86aae652ff0162b637e459c22b4b60f001a", func := "handbell/handbelllaw18.AlarmPaused", spec := "alarmPaused", apart := false, narrowed := true }
def AlarmPausedUptoSaid : Prop := alarmPausedUptoRow.holds Try.pinned (OpenSpec.upto alarmPausedSpec)

/-- 'handbelllaw18.AlarmGrows', WHERE WHAT IT READS IS OF BULK AT MOST 1048576: true; the input reads as it did. -/
def alarmGrowsUptoRow : OpenClaim := { program := "ythggkpmhcdmalaa", sum := "93c271d7f874b1835cfea3f12f32e86aae652ff0162b637e459c22b4b60f001a", func := "handbell/handbelllaw18.AlarmGrows", spec := "alarmGrows", apart := false, narrowed := true }
def AlarmGrowsUptoSaid : Prop := alarmGrowsUptoRow.holds Try.pinned (OpenSpec.upto alarmGrowsSpec)

/-- 'handbelllaw18.AlarmKnown', WHERE WHAT IT READS IS OF BULK AT MOST 1048576: true; the input reads as it did. -/
def alarmKnownUptoRow : OpenClaim := { program := "ythggkpmhcdmalaa", sum := "93c271d7f874b1835cfea3f12f32e86aae652ff0162b637e459c22b4b60f001a", func := "handbell/handbelllaw18.AlarmKnown", spec := "alarmKnown", apart := false, narrowed := true }
def AlarmKnownUptoSaid : Prop := alarmKnownUptoRow.holds Try.pinned (OpenSpec.upto alarmKnownSpec)

end Rows
end Go.Proofs.Ythggkpmhcdmalaa
