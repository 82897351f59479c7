/-
  No cell of these rows narrows 'for every input' (looked for: loops, veiled, ifaces, maps, wideKeys, modest, calm, conditions, laid).
  DERIVED. THE GIVEN ROWS OF THIS SEAT. 5 by the template 'for every input the law returns true; each argument reads behind the call as it read before'; 0 by the template 'total and deterministic' (their statements: YtgapnimicaopcaaTotals.lean).
  GIVEN WITH THE SEED: the statements are not yours to turn. If you find one false, say at which input.
  Laid BY PROGRAM, IN A SANDBOX (cutbox-rows.mjs): the forced cells as the released guide's own fill.sh prints them over the translation 7b315891ba549aff… (all of the seat's roots in one cut). By AI agents, Wed Nov 11 2026. No macro, syntax, notation, axiom, sorry.
-/
import Derived.Test.YtgapnimicaopcaaChecked
import GoSem.Claim
import GoSem.ClaimJoined
import GoSem.ClaimMapViews
import Derived.JoinedTies
import Derived.KernelRfl
namespace Go.Proofs.Ytgapnimicaopcaa
/- THE CELL 'sum', in the pinned program and in every row, IS THE sha256 OF THE DUMP (.gsa) THAT YtgapnimicaopcaaProg.lean LOADS. Nothing in Lean hashes anything: it is a label: what it is worth is what the hold of that sum in a sandbox is worth. -/
noncomputable def Try.pinned : Pinned := { name := "ytgapnimicaopcaa", sum := "7b315891ba549aff8276cc3e3edba674fa0136066017f2e0e269911e6f3b8237", checked := Try.checked }
namespace Rows
def none {H : Type} : Left H := { results := [], args := [] }

/-- 'handbelllaw14.FilterForgets': WHATEVER THE INPUT: true; the input reads as it did. -/
def filterForgetsSpec : ChangeSpec := { name := "filterForgets", fn := fun _ => fun
  | [d1, d2] => { results := [.lit (.bool true)], args := [d1, d2] }
  | _ => none }
def filterForgetsRow : OpenClaim := { program := "ytgapnimicaopcaa", sum := "7b315891ba549aff8276cc3e3edba674fa0136066017f2e0e269911e6f3b8237", func := "handbell/handbelllaw14.FilterForgets", spec := "filterForgets", unfollowed := true, recurses := true, apart := false }
def FilterForgetsSaid : Prop := filterForgetsRow.holds Try.pinned (OpenSpec.ofChange filterForgetsSpec)

/-- ITS FALSE NEIGHBOUR: 'it returns false'. Refute it at one input. -/
def filterForgetsWrong : ChangeSpec := { name := "filterForgets", fn := fun _ => fun
  | [d1, d2] => { results := [.lit (.bool false)], args := [d1, d2] }
  | _ => none }
def FilterForgetsWrongFalsely : Prop := filterForgetsRow.holds Try.pinned (OpenSpec.ofChange filterForgetsWrong)

/-- 'handbelllaw14.FilterUnheard': WHATEVER THE INPUT: true; the input reads as it did. -/
def filterUnheardSpec : ChangeSpec := { name := "filterUnheard", fn := fun _ => fun
  | [d1, d2] => { results := [.lit (.bool true)], args := [d1, d2] }
  | _ => none }
def filterUnheardRow : OpenClaim := { program := "ytgapnimicaopcaa", sum := "7b315891ba549aff8276cc3e3edba674fa0136066017f2e0e269911e6f3b8237", func := "handbell/handbelllaw14.FilterUnheard", spec := "filterUnheard", unfollowed := true, recurses := true, apart := false }
def FilterUnheardSaid : Prop := filterUnheardRow.holds Try.pinned (OpenSpec.ofChange filterUnheardSpec)

/-- ITS FALSE NEIGHBOUR: 'it returns false'. Refute it at one input. -/
def filterUnheardWrong : ChangeSpec := { name := "filterUnheard", fn := fun _ => fun
  | [d1, d2] => { results := [.lit (.bool false)], args := [d1, d2] }
  | _ => none }
def FilterUnheardWrongFalsely : Prop := filterUnheardRow.holds Try.pinned (OpenSpec.ofChange filterUnheardWrong)

/-- 'handbelllaw14.FilterPlain': WHATEVER THE INPUT: true; the input reads as it did. -/
def filterPlainSpec : ChangeSpec := { name := "filterPlain", fn := fun _ => fun
  | [d1, d2] => { results := [.lit (.bool true)], args := [d1, d2] }
  | _ => none }
def filterPlainRow : OpenClaim := { program := "ytgapnimicaopcaa", sum := "7b315891ba549aff8276cc3e3edba674fa0136066017f2e0e269911e6f3b8237", func := "handbell/handbelllaw14.FilterPlain", spec := "filterPlain", unfollowed := true, recurses := true, apart := false }
def FilterPlainSaid : Prop := filterPlainRow.holds Try.pinned (OpenSpec.ofChange filterPlainSpec)

/-- ITS FALSE NEIGHBOUR: 'it returns false'. Refute it at one input. -/
def filterPlainWrong : ChangeSpec := { name := "filterPlain", fn := fun _ => fun
  | [d1, d2] => { results := [.lit (.bool false)], args := [d1, d2] }
  | _ => none }
def FilterPlainWrongFalsely : Prop := filterPlainRow.holds Try.pinned (OpenSpec.ofChange filterPlainWrong)

/-- 'handbelllaw14.FilterRefused': WHATEVER THE INPUT: true; the input reads as it did. -/
def filterRefusedSpec : ChangeSpec := { name := "filterRefused", fn := fun _ => fun
  | [d1, d2, d3] => { results := [.lit (.bool true)], args := [d1, d2, d3] }
  | _ => none }
def filterRefusedRow : OpenClaim := { program := "ytgapnimicaopcaa", sum := "7b315891ba549aff8276cc3e3edba674fa0136066017f2e0e269911e6f3b8237", func := "handbell/handbelllaw14.FilterRefused", spec := "filterRefused", unfollowed := true, recurses := true, apart := false }
def FilterRefusedSaid : Prop := filterRefusedRow.holds Try.pinned (OpenSpec.ofChange filterRefusedSpec)

/-- ITS FALSE NEIGHBOUR: 'it returns false'. Refute it at one input. -/
def filterRefusedWrong : ChangeSpec := { name := "filterRefused", fn := fun _ => fun
  | [d1, d2, d3] => { results := [.lit (.bool false)], args := [d1, d2, d3] }
  | _ => none }
def FilterRefusedWrongFalsely : Prop := filterRefusedRow.holds Try.pinned (OpenSpec.ofChange filterRefusedWrong)

/-- 'handbelllaw14.FilterKnown': WHATEVER THE INPUT: true; the input reads as it did. -/
def filterKnownSpec : ChangeSpec := { name := "filterKnown", fn := fun _ => fun
  | [] => { results := [.lit (.bool true)], args := [] }
  | _ => none }
def filterKnownRow : OpenClaim := { program := "ytgapnimicaopcaa", sum := "7b315891ba549aff8276cc3e3edba674fa0136066017f2e0e269911e6f3b8237", func := "handbell/handbelllaw14.FilterKnown", spec := "filterKnown", unfollowed := true, recurses := true, apart := false }
def FilterKnownSaid : Prop := filterKnownRow.holds Try.pinned (OpenSpec.ofChange filterKnownSpec)

/-- ITS FALSE NEIGHBOUR: 'it returns false'. Refute it at one input. -/
def filterKnownWrong : ChangeSpec := { name := "filterKnown", fn := fun _ => fun
  | [] => { results := [.lit (.bool false)], args := [] }
  | _ => none }
def FilterKnownWrongFalsely : Prop := filterKnownRow.holds Try.pinned (OpenSpec.ofChange filterKnownWrong)

/- THE SECOND FORM. 'bulk': how many values and letters a reading holds, each counted each time it is reached (what is shared counts as often as it is met; a slice's spare places count too). A statement '..UptoSaid' is the law's where the arguments, and the package variables that the reading takes, are together of bulk at most 1048576: NARROWER than '..Said'. Prove '..Said' where nothing that the law and all that it calls make is longer than what came in: it says more and counts as full. Else prove '..UptoSaid'. A law counts once. -/
mutual
def uptoBulk {H : Type} : DataW H → Nat
  | .lit (.string bytes) => bytes.length + 1
  | .lit _ => 1
  | .nil => 1
  | .ptr d => uptoBulk d + 1
  | .slice elems spare => uptoBulkAll elems + uptoBulkAll spare + 1
  | .agg parts => uptoBulkAll parts + 1
  | .iface _ d => uptoBulk d + 1
  | .map entries => uptoBulkEntries entries + 1
  | .held _ => 1
def uptoBulkAll {H : Type} : List (DataW H) → Nat
  | [] => 0
  | d :: r => uptoBulk d + uptoBulkAll r
def uptoBulkEntries {H : Type} : List (Lit × DataW H) → Nat
  | [] => 0
  | x :: r => uptoBulkEntry x + uptoBulkEntries r
def uptoBulkEntry {H : Type} : Lit × DataW H → Nat
  | (.string bytes, d) => bytes.length + uptoBulk d + 1
  | (_, d) => uptoBulk d + 1
 end
def uptoSmall : (H : Type) → List (DataW H) → Bool := fun _ ds => decide (uptoBulkAll ds ≤ 1048576)
def OpenSpec.upto (s : _root_.Go.ChangeSpec) : _root_.Go.OpenSpec := { _root_.Go.OpenSpec.ofChange s with cond := some uptoSmall }

/-- 'handbelllaw14.FilterForgets', WHERE WHAT IT READS IS OF BULK AT MOST 1048576: true; the input reads as it did. -/
def filterForgetsUptoRow : OpenClaim := { program := "ytgapnimicaopcaa", sum := "7b315891ba549aff8276cc3e3edba674fa0136066017f2e0e269911e6f3b8237", func := "handbell/handbelllaw14.FilterForgets", spec := "filterForgets", unfollowed := true, recurses := true, apart := false, narrowed := true }
def FilterForgetsUptoSaid : Prop := filterForgetsUptoRow.holds Try.pinned (OpenSpec.upto filterForgetsSpec)

/-- 'handbelllaw14.FilterUnheard', WHERE WHAT IT READS IS OF BULK AT MOST 1048576: true; the input reads as it did. -/
def filterUnheardUptoRow : OpenClaim := { program := "ytgapnimicaopcaa", sum := "7b315891ba549aff8276cc3e3edba674fa0136066017f2e0e269911e6f3b8237", func := "handbell/handbelllaw14.FilterUnheard", spec := "filterUnheard", unfollowed := true, recurses := true, apart := false, narrowed := true }
def FilterUnheardUptoSaid : Prop := filterUnheardUptoRow.holds Try.pinned (OpenSpec.upto filterUnheardSpec)

/-- 'handbelllaw14.FilterPlain', WHERE WHAT IT READS IS OF BULK AT MOST 1048576: true; the input reads as it did. -/
def filterPlainUptoRow : OpenClaim := { program := "ytgapnimicaopcaa", sum := "7b315891ba549aff8276cc3e3edba674fa0136066017f2e0e269911e6f3b8237", func := "handbell/handbelllaw14.FilterPlain", spec := "filterPlain", unfollowed := true, recurses := true, apart := false, narrowed := true }
def FilterPlainUptoSaid : Prop := filterPlainUptoRow.holds Try.pinned (OpenSpec.upto filterPlainSpec)

/-- 'handbelllaw14.FilterRefused', WHERE WHAT IT READS IS OF BULK AT MOST 1048576: true; the input reads as it did. -/
def filterRefusedUptoRow : OpenClaim := { program := "ytgapnimicaopcaa", sum := "7b315891ba549aff8276cc3e3edba674fa0136066017f2e0e269911e6f3b8237", func := "handbell/handbelllaw14.FilterRefused", spec := "filterRefused", unfollowed := true, recurses := true, apart := false, narrowed := true }
def FilterRefusedUptoSaid : Prop := filterRefusedUptoRow.holds Try.pinned (OpenSpec.upto filterRefusedSpec)

/-- 'handbelllaw14.FilterKnown', WHERE WHAT IT READS IS OF BULK AT MOST 1048576: true; the input reads as it did. -/
def filterKnownUptoRow : OpenClaim := { program := "ytgapnimicaopcaa", sum := "7b315891ba549aff8276cc3e3edba674fa0136066017f2e0e269911e6f3b8237", func := "handbell/handbelllaw14.FilterKnown", spec := "filterKnown", unfollowed := true, recurses := true, apart := false, narrowed := true }
def FilterKnownUptoSaid : Prop := filterKnownUptoRow.holds Try.pinned (OpenSpec.upto filterKnownSpec)

end Rows
end Go.Proofs.Ytgapnimicaopcaa
