/-
  No cell of these rows narrows 'for every input' (looked for: loops, veiled, ifaces, maps, wideKeys, modest, calm, conditions, laid).
  DERIVED. THE GIVEN ROWS OF THIS SEAT. 5 by the template 'for every input the law returns true; each argument reads behind the call as it read before'; 0 by the template 'total and deterministic' (their statements: YthgmjeljjladhaaTotals.lean).
  GIVEN WITH THE SEED: the statements are not yours to turn. If you find one false, say at which input.
  Laid BY PROGRAM, IN A SANDBOX (cutbox-rows.mjs): the forced cells as the released guide's own fill.sh prints them over the translation 691fe0cfbf4aac3f… (all of the seat's roots in one cut). By AI agents, Wed Nov 11 2026. No macro, syntax, notation, axiom, sorry.
-/
import Derived.Test.YthgmjeljjladhaaChecked
import GoSem.Claim
import GoSem.ClaimJoined
import GoSem.ClaimMapViews
import Derived.JoinedTies
import Derived.KernelRfl
namespace Go.Proofs.Ythgmjeljjladhaa
/- THE CELL 'sum', in the pinned program and in every row, IS THE sha256 OF THE DUMP (.gsa) THAT YthgmjeljjladhaaProg.lean LOADS. Nothing in Lean hashes anything: it is a label: what it is worth is what the hold of that sum in a sandbox is worth. -/
noncomputable def Try.pinned : Pinned := { name := "ythgmjeljjladhaa", sum := "691fe0cfbf4aac3f23e457c2062faf8ca4230d25043daa7e0a0d31bf049f5688", checked := Try.checked }
namespace Rows
def none {H : Type} : Left H := { results := [], args := [] }

/-- 'handbelllaw17.RuleSteps': WHATEVER THE INPUT: true; the input reads as it did. -/
def ruleStepsSpec : ChangeSpec := { name := "ruleSteps", fn := fun _ => fun
  | [d1, d2] => { results := [.lit (.bool true)], args := [d1, d2] }
  | _ => none }
def ruleStepsRow : OpenClaim := { program := "ythgmjeljjladhaa", sum := "691fe0cfbf4aac3f23e457c2062faf8ca4230d25043daa7e0a0d31bf049f5688", func := "handbell/handbelllaw17.RuleSteps", spec := "ruleSteps", unfollowed := true, recurses := true, plainKeys := false, apart := false }
def RuleStepsSaid : Prop := ruleStepsRow.holds Try.pinned (OpenSpec.ofChange ruleStepsSpec)

/-- ITS FALSE NEIGHBOUR: 'it returns false'. Refute it at one input. -/
def ruleStepsWrong : ChangeSpec := { name := "ruleSteps", fn := fun _ => fun
  | [d1, d2] => { results := [.lit (.bool false)], args := [d1, d2] }
  | _ => none }
def RuleStepsWrongFalsely : Prop := ruleStepsRow.holds Try.pinned (OpenSpec.ofChange ruleStepsWrong)

/-- 'handbelllaw17.RuleHolds': WHATEVER THE INPUT: true; the input reads as it did. -/
def ruleHoldsSpec : ChangeSpec := { name := "ruleHolds", fn := fun _ => fun
  | [d1, d2] => { results := [.lit (.bool true)], args := [d1, d2] }
  | _ => none }
def ruleHoldsRow : OpenClaim := { program := "ythgmjeljjladhaa", sum := "691fe0cfbf4aac3f23e457c2062faf8ca4230d25043daa7e0a0d31bf049f5688", func := "handbell/handbelllaw17.RuleHolds", spec := "ruleHolds", unfollowed := true, recurses := true, plainKeys := false, apart := false }
def RuleHoldsSaid : Prop := ruleHoldsRow.holds Try.pinned (OpenSpec.ofChange ruleHoldsSpec)

/-- ITS FALSE NEIGHBOUR: 'it returns false'. Refute it at one input. -/
def ruleHoldsWrong : ChangeSpec := { name := "ruleHolds", fn := fun _ => fun
  | [d1, d2] => { results := [.lit (.bool false)], args := [d1, d2] }
  | _ => none }
def RuleHoldsWrongFalsely : Prop := ruleHoldsRow.holds Try.pinned (OpenSpec.ofChange ruleHoldsWrong)

/-- 'handbelllaw17.RuleRefused': WHATEVER THE INPUT: true; the input reads as it did. -/
def ruleRefusedSpec : ChangeSpec := { name := "ruleRefused", fn := fun _ => fun
  | [d1, d2, d3] => { results := [.lit (.bool true)], args := [d1, d2, d3] }
  | _ => none }
def ruleRefusedRow : OpenClaim := { program := "ythgmjeljjladhaa", sum := "691fe0cfbf4aac3f23e457c2062faf8ca4230d25043daa7e0a0d31bf049f5688", func := "handbell/handbelllaw17.RuleRefused", spec := "ruleRefused", unfollowed := true, recurses := true, plainKeys := false, apart := false }
def RuleRefusedSaid : Prop := ruleRefusedRow.holds Try.pinned (OpenSpec.ofChange ruleRefusedSpec)

/-- ITS FALSE NEIGHBOUR: 'it returns false'. Refute it at one input. -/
def ruleRefusedWrong : ChangeSpec := { name := "ruleRefused", fn := fun _ => fun
  | [d1, d2, d3] => { results := [.lit (.bool false)], args := [d1, d2, d3] }
  | _ => none }
def RuleRefusedWrongFalsely : Prop := ruleRefusedRow.holds Try.pinned (OpenSpec.ofChange ruleRefusedWrong)

/-- 'handbelllaw17.RuleWindow': WHATEVER THE INPUT: true; the input reads as it did. -/
def ruleWindowSpec : ChangeSpec := { name := "ruleWindow", fn := fun _ => fun
  | [d1, d2, d3] => { results := [.lit (.bool true)], args := [d1, d2, d3] }
  | _ => none }
def ruleWindowRow : OpenClaim := { program := "ythgmjeljjladhaa", sum := "691fe0cfbf4aac3f23e457c2062faf8ca4230d25043daa7e0a0d31bf049f5688", func := "handbell/handbelllaw17.RuleWindow", spec := "ruleWindow", unfollowed := true, recurses := true, plainKeys := false, apart := false }
def RuleWindowSaid : Prop := ruleWindowRow.holds Try.pinned (OpenSpec.ofChange ruleWindowSpec)

/-- ITS FALSE NEIGHBOUR: 'it returns false'. Refute it at one input. -/
def ruleWindowWrong : ChangeSpec := { name := "ruleWindow", fn := fun _ => fun
  | [d1, d2, d3] => { results := [.lit (.bool false)], args := [d1, d2, d3] }
  | _ => none }
def RuleWindowWrongFalsely : Prop := ruleWindowRow.holds Try.pinned (OpenSpec.ofChange ruleWindowWrong)

/-- 'handbelllaw17.RuleKnown': WHATEVER THE INPUT: true; the input reads as it did. -/
def ruleKnownSpec : ChangeSpec := { name := "ruleKnown", fn := fun _ => fun
  | [] => { results := [.lit (.bool true)], args := [] }
  | _ => none }
def ruleKnownRow : OpenClaim := { program := "ythgmjeljjladhaa", sum := "691fe0cfbf4aac3f23e457c2062faf8ca4230d25043daa7e0a0d31bf049f5688", func := "handbell/handbelllaw17.RuleKnown", spec := "ruleKnown", unfollowed := true, recurses := true, plainKeys := false, apart := false }
def RuleKnownSaid : Prop := ruleKnownRow.holds Try.pinned (OpenSpec.ofChange ruleKnownSpec)

/-- ITS FALSE NEIGHBOUR: 'it returns false'. Refute it at one input. -/
def ruleKnownWrong : ChangeSpec := { name := "ruleKnown", fn := fun _ => fun
  | [] => { results := [.lit (.bool false)], args := [] }
  | _ => none }
def RuleKnownWrongFalsely : Prop := ruleKnownRow.holds Try.pinned (OpenSpec.ofChange ruleKnownWrong)

/- THE SECOND FORM. 'bulk': how many values and letters a reading holds, each counted each time it is reached (what is shared counts as often as it is met; a slice's spare places count too). A statement '..UptoSaid' is the law's where the arguments, and the package variables that the reading takes, are together of bulk at most 1048576: NARROWER than '..Said'. Prove '..Said' where nothing that the law and all that it calls make is longer than what came in: it says more and counts as full. Else prove '..UptoSaid'. A law counts once. -/
mutual
def uptoBulk {H : Type} : DataW H → Nat
  | .lit (.string bytes) => bytes.length + 1
  | .lit _ => 1
  | .nil => 1
  | .ptr d => uptoBulk d + 1
  | .slice elems spare => uptoBulkAll elems + uptoBulkAll spare + 1
  | .agg parts => uptoBulkAll parts + 1
  | .iface _ d => uptoBulk d + 1
  | .map entries => uptoBulkEntries entries + 1
  | .held _ => 1
def uptoBulkAll {H : Type} : List (DataW H) → Nat
  | [] => 0
  | d :: r => uptoBulk d + uptoBulkAll r
def uptoBulkEntries {H : Type} : List (Lit × DataW H) → Nat
  | [] => 0
  | x :: r => uptoBulkEntry x + uptoBulkEntries r
def uptoBulkEntry {H : Type} : Lit × DataW H → Nat
  | (.string bytes, d) => bytes.length + uptoBulk d + 1
  | (_, d) => uptoBulk d + 1
 end
def uptoSmall : (H : Type) → List (DataW H) → Bool := fun _ ds => decide (uptoBulkAll ds ≤ 1048576)
def OpenSpec.upto (s : _root_.Go.ChangeSpec) : _root_.Go.OpenSpec := { _root_.Go.OpenSpec.ofChange s with cond := some uptoSmall }

/-- 'handbelllaw17.RuleSteps', WHERE WHAT IT READS IS OF BULK AT MOST 1048576: true; the input reads as it did. -/
def ruleStepsUptoRow : OpenClaim := { program := "ythgmjeljjladhaa", sum := "691fe0cfbf4aac3f23e457c2062faf8ca4230d25043daa7e0a0d31bf049f5688", func := "handbell/handbelllaw17.RuleSteps", spec := "ruleSteps", unfollowed := true, recurses := true, plainKeys := false, apart := false, narrowed := true }
def RuleStepsUptoSaid : Prop := ruleStepsUptoRow.holds Try.pinned (OpenSpec.upto ruleStepsSpec)

/-- 'handbelllaw17.RuleHolds', WHERE WHAT IT READS IS OF BULK AT MOST 1048576: true; the input reads as it did. -/
def ruleHoldsUptoRow : OpenClaim := { program := "ythgmjeljjladhaa", sum := "691fe0cfbf4aac3f23e457c2062faf8ca4230d25043daa7e0a0d31bf049f5688", func := "handbell/handbelllaw17.RuleHolds", spec := "ruleHolds", unfollowed := true, recurses := true, plainKeys := false, apart := false, narrowed := true }
def RuleHoldsUptoSaid : Prop := ruleHoldsUptoRow.holds Try.pinned (OpenSpec.upto ruleHoldsSpec)

/-- 'handbelllaw17.RuleRefused', WHERE WHAT IT READS IS OF BULK AT MOST 1048576: true; the input reads as it did. -/
def ruleRefusedUptoRow : OpenClaim := { program := "ythgmjeljjladhaa", sum := "691fe0cfbf4aac3f23e457c2062faf8ca4230d25043daa7e0a0d31bf049f5688", func := "handbell/handbelllaw17.RuleRefused", spec := "ruleRefused", unfollowed := true, recurses := true, plainKeys := false, apart := false, narrowed := true }
def RuleRefusedUptoSaid : Prop := ruleRefusedUptoRow.holds Try.pinned (OpenSpec.upto ruleRefusedSpec)

/-- 'handbelllaw17.RuleWindow', WHERE WHAT IT READS IS OF BULK AT MOST 1048576: true; the input reads as it did. -/
def ruleWindowUptoRow : OpenClaim := { program := "ythgmjeljjladhaa", sum := "691fe0cfbf4aac3f23e457c2062faf8ca4230d25043daa7e0a0d31bf049f5688", func := "handbell/handbelllaw17.RuleWindow", spec := "ruleWindow", unfollowed := true, recurses := true, plainKeys := false, apart := false, narrowed := true }
def RuleWindowUptoSaid : Prop := ruleWindowUptoRow.holds Try.pinned (OpenSpec.upto ruleWindowSpec)

/-- 'handbelllaw17.RuleKnown', WHERE WHAT IT READS IS OF BULK AT MOST 1048576: true; the input reads as it did. -/
def ruleKnownUptoRow : OpenClaim := { program := "ythgmjeljjladhaa", sum := "691fe0cfbf4aac3f23e457c2062faf8ca4230d25043daa7e0a0d31bf049f5688", func := "handbell/handbelllaw17.RuleKnown", spec := "ruleKnown", unfollowed := true, recurses := true, plainKeys := false, apart := false, narrowed := true }
def RuleKnownUptoSaid : Prop := ruleKnownUptoRow.holds Try.pinned (OpenSpec.upto ruleKnownSpec)

end Rows
end Go.Proofs.Ythgmjeljjladhaa
