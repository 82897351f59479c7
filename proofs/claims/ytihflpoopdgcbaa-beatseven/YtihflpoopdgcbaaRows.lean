/-
  No cell of these rows narrows 'for every input' (looked for: loops, veiled, ifaces, maps, wideKeys, modest, calm, conditions, laid).
  DERIVED. THE GIVEN ROWS OF THIS SEAT. 5 by the template 'for every input the law returns true; each argument reads behind the call as it read before'; 0 by the template 'total and deterministic' (their statements: YtihflpoopdgcbaaTotals.lean).
  GIVEN WITH THE SEED: the statements are not yours to turn. If you find one false, say at which input.
  Laid BY PROGRAM, IN A SANDBOX (cutbox-rows.mjs): the forced cells as the released guide's own fill.sh prints them over the translation fb378be9991d30bc… (all of the seat's roots in one cut). By AI agents, Wed Nov 11 2026. No macro, syntax, notation, axiom, sorry.
-/
import Derived.Test.YtihflpoopdgcbaaChecked
import GoSem.Claim
import GoSem.ClaimJoined
import GoSem.ClaimMapViews
import Derived.JoinedTies
import Derived.KernelRfl
namespace Go.Proofs.Ytihflpoopdgcbaa
/- THE CELL 'sum', in the pinned program and in every row, IS THE sha256 OF THE DUMP (.gsa) THAT YtihflpoopdgcbaaProg.lean LOADS. Nothing in Lean hashes anything: it is a label: what it is worth is what the hold of that sum in a sandbox is worth. -/
noncomputable def Try.pinned : Pinned := { name := "ytihflpoopdgcbaa", sum := "fb378be9991d30bc0c04f31ea7b86ce946bb82075ed79878baa128f6a326b361", checked := Try.checked }
namespace Rows
def none {H : Type} : Left H := { results := [], args := [] }

/-- 'handbelllaw12.BeatsRates': WHATEVER THE INPUT: true; the input reads as it did. -/
def beatsRatesSpec : ChangeSpec := { name := "beatsRates", fn := fun _ => fun
  | [d1, d2] => { results := [.lit (.bool true)], args := [d1, d2] }
  | _ => none }
def beatsRatesRow : OpenClaim := { program := "ytihflpoopdgcbaa", sum := "fb378be9991d30bc0c04f31ea7b86ce946bb82075ed79878baa128f6a326b361", func := "handbell/handbelllaw12.BeatsRates", spec := "beatsRates", apart := false }
def BeatsRatesSaid : Prop := beatsRatesRow.holds Try.pinned (OpenSpec.ofChange beatsRatesSpec)

/-- ITS FALSE NEIGHBOUR: 'it returns false'. Refute it at one input. -/
def beatsRatesWrong : ChangeSpec := { name := "beatsRates", fn := fun _ => fun
  | [d1, d2] => { results := [.lit (.bool false)], args := [d1, d2] }
  | _ => none }
def BeatsRatesWrongFalsely : Prop := beatsRatesRow.holds Try.pinned (OpenSpec.ofChange beatsRatesWrong)

/-- 'handbelllaw12.BeatsBetween': WHATEVER THE INPUT: true; the input reads as it did. -/
def beatsBetweenSpec : ChangeSpec := { name := "beatsBetween", fn := fun _ => fun
  | [d1, d2] => { results := [.lit (.bool true)], args := [d1, d2] }
  | _ => none }
def beatsBetweenRow : OpenClaim := { program := "ytihflpoopdgcbaa", sum := "fb378be9991d30bc0c04f31ea7b86ce946bb82075ed79878baa128f6a326b361", func := "handbell/handbelllaw12.BeatsBetween", spec := "beatsBetween", apart := false }
def BeatsBetweenSaid : Prop := beatsBetweenRow.holds Try.pinned (OpenSpec.ofChange beatsBetweenSpec)

/-- ITS FALSE NEIGHBOUR: 'it returns false'. Refute it at one input. -/
def beatsBetweenWrong : ChangeSpec := { name := "beatsBetween", fn := fun _ => fun
  | [d1, d2] => { results := [.lit (.bool false)], args := [d1, d2] }
  | _ => none }
def BeatsBetweenWrongFalsely : Prop := beatsBetweenRow.holds Try.pinned (OpenSpec.ofChange beatsBetweenWrong)

/-- 'handbelllaw12.BeatsEven': WHATEVER THE INPUT: true; the input reads as it did. -/
def beatsEvenSpec : ChangeSpec := { name := "beatsEven", fn := fun _ => fun
  | [d1, d2, d3] => { results := [.lit (.bool true)], args := [d1, d2, d3] }
  | _ => none }
def beatsEvenRow : OpenClaim := { program := "ytihflpoopdgcbaa", sum := "fb378be9991d30bc0c04f31ea7b86ce946bb82075ed79878baa128f6a326b361", func := "handbell/handbelllaw12.BeatsEven", spec := "beatsEven", apart := false }
def BeatsEvenSaid : Prop := beatsEvenRow.holds Try.pinned (OpenSpec.ofChange beatsEvenSpec)

/-- ITS FALSE NEIGHBOUR: 'it returns false'. Refute it at one input. -/
def beatsEvenWrong : ChangeSpec := { name := "beatsEven", fn := fun _ => fun
  | [d1, d2, d3] => { results := [.lit (.bool false)], args := [d1, d2, d3] }
  | _ => none }
def BeatsEvenWrongFalsely : Prop := beatsEvenRow.holds Try.pinned (OpenSpec.ofChange beatsEvenWrong)

/-- 'handbelllaw12.BeatsRefused': WHATEVER THE INPUT: true; the input reads as it did. -/
def beatsRefusedSpec : ChangeSpec := { name := "beatsRefused", fn := fun _ => fun
  | [d1, d2] => { results := [.lit (.bool true)], args := [d1, d2] }
  | _ => none }
def beatsRefusedRow : OpenClaim := { program := "ytihflpoopdgcbaa", sum := "fb378be9991d30bc0c04f31ea7b86ce946bb82075ed79878baa128f6a326b361", func := "handbell/handbelllaw12.BeatsRefused", spec := "beatsRefused", apart := false }
def BeatsRefusedSaid : Prop := beatsRefusedRow.holds Try.pinned (OpenSpec.ofChange beatsRefusedSpec)

/-- ITS FALSE NEIGHBOUR: 'it returns false'. Refute it at one input. -/
def beatsRefusedWrong : ChangeSpec := { name := "beatsRefused", fn := fun _ => fun
  | [d1, d2] => { results := [.lit (.bool false)], args := [d1, d2] }
  | _ => none }
def BeatsRefusedWrongFalsely : Prop := beatsRefusedRow.holds Try.pinned (OpenSpec.ofChange beatsRefusedWrong)

/-- 'handbelllaw12.BeatsKnown': WHATEVER THE INPUT: true; the input reads as it did. -/
def beatsKnownSpec : ChangeSpec := { name := "beatsKnown", fn := fun _ => fun
  | [] => { results := [.lit (.bool true)], args := [] }
  | _ => none }
def beatsKnownRow : OpenClaim := { program := "ytihflpoopdgcbaa", sum := "fb378be9991d30bc0c04f31ea7b86ce946bb82075ed79878baa128f6a326b361", func := "handbell/handbelllaw12.BeatsKnown", spec := "beatsKnown", apart := false }
def BeatsKnownSaid : Prop := beatsKnownRow.holds Try.pinned (OpenSpec.ofChange beatsKnownSpec)

/-- ITS FALSE NEIGHBOUR: 'it returns false'. Refute it at one input. -/
def beatsKnownWrong : ChangeSpec := { name := "beatsKnown", fn := fun _ => fun
  | [] => { results := [.lit (.bool false)], args := [] }
  | _ => none }
def BeatsKnownWrongFalsely : Prop := beatsKnownRow.holds Try.pinned (OpenSpec.ofChange beatsKnownWrong)

/- THE SECOND FORM. 'bulk': how many values and letters a reading holds, each counted each time it is reached (what is shared counts as often as it is met; a slice's spare places count too). A statement '..UptoSaid' is the law's where the arguments, and the package variables that the reading takes, are together of bulk at most 1048576: NARROWER than '..Said'. Prove '..Said' where nothing that the law and all that it calls make is longer than what came in: it says more and counts as full. Else prove '..UptoSaid'. A law counts once. -/
mutual
def uptoBulk {H : Type} : DataW H → Nat
  | .lit (.string bytes) => bytes.length + 1
  | .lit _ => 1
  | .nil => 1
  | .ptr d => uptoBulk d + 1
  | .slice elems spare => uptoBulkAll elems + uptoBulkAll spare + 1
  | .agg parts => uptoBulkAll parts + 1
  | .iface _ d => uptoBulk d + 1
  | .map entries => uptoBulkEntries entries + 1
  | .held _ => 1
def uptoBulkAll {H : Type} : List (DataW H) → Nat
  | [] => 0
  | d :: r => uptoBulk d + uptoBulkAll r
def uptoBulkEntries {H : Type} : List (Lit × DataW H) → Nat
  | [] => 0
  | x :: r => uptoBulkEntry x + uptoBulkEntries r
def uptoBulkEntry {H : Type} : Lit × DataW H → Nat
  | (.string bytes, d) => bytes.length + uptoBulk d + 1
  | (_, d) => uptoBulk d + 1
 end
def uptoSmall : (H : Type) → List (DataW H) → Bool := fun _ ds => decide (uptoBulkAll ds ≤ 1048576)
def OpenSpec.upto (s : _root_.Go.ChangeSpec) : _root_.Go.OpenSpec := { _root_.Go.OpenSpec.ofChange s with cond := some uptoSmall }

/-- 'handbelllaw12.BeatsRates', WHERE WHAT IT READS IS OF BULK AT MOST 1048576: true; the input reads as it did. -/
def beatsRatesUptoRow : OpenClaim := { program := "ytihflpoopdgcbaa", sum := "fb378be9991d30bc0c04f31ea7b86ce946bb82075ed79878baa128f6a326b361", func := "handbell/handbelllaw12.BeatsRates", spec := "beatsRates", apart := false, narrowed := true }
def BeatsRatesUptoSaid : Prop := beatsRatesUptoRow.holds Try.pinned (OpenSpec.upto beatsRatesSpec)

/-- 'handbelllaw12.BeatsBetween', WHERE WHAT IT READS IS OF BULK AT MOST 1048576: true; the input reads as it did. -/
def beatsBetweenUptoRow : OpenClaim := { program := "ytihflpoopdgcbaa", sum := "fb378be9991d30bc0c04f31ea7b86ce946bb82075ed79878baa128f6a326b361", func := "handbell/handbelllaw12.BeatsBetween", spec := "beatsBetween", apart := false, narrowed := true }
def BeatsBetweenUptoSaid : Prop := beatsBetweenUptoRow.holds Try.pinned (OpenSpec.upto beatsBetweenSpec)

/-- 'handbelllaw12.BeatsEven', WHERE WHAT IT READS IS OF BULK AT MOST 1048576: true; the input reads as it did. -/
def beatsEvenUptoRow : OpenClaim := { program := "ytihflpoopdgcbaa", sum := "fb378be9991d30bc0c04f31ea7b86ce946bb82075ed79878baa128f6a326b361", func := "handbell/handbelllaw12.BeatsEven", spec := "beatsEven", apart := false, narrowed := true }
def BeatsEvenUptoSaid : Prop := beatsEvenUptoRow.holds Try.pinned (OpenSpec.upto beatsEvenSpec)

/-- 'handbelllaw12.BeatsRefused', WHERE WHAT IT READS IS OF BULK AT MOST 1048576: true; the input reads as it did. -/
def beatsRefusedUptoRow : OpenClaim := { program := "ytihflpoopdgcbaa", sum := "fb378be9991d30bc0c04f31ea7b86ce946bb82075ed79878baa128f6a326b361", func := "handbell/handbelllaw12.BeatsRefused", spec := "beatsRefused", apart := false, narrowed := true }
def BeatsRefusedUptoSaid : Prop := beatsRefusedUptoRow.holds Try.pinned (OpenSpec.upto beatsRefusedSpec)

/-- 'handbelllaw12.BeatsKnown', WHERE WHAT IT READS IS OF BULK AT MOST 1048576: true; the input reads as it did. -/
def beatsKnownUptoRow : OpenClaim := { program := "ytihflpoopdgcbaa", sum := "fb378be9991d30bc0c04f31ea7b86ce946bb82075ed79878baa128f6a326b361", func := "handbell/handbelllaw12.BeatsKnown", spec := "beatsKnown", apart := false, narrowed := true }
def BeatsKnownUptoSaid : Prop := beatsKnownUptoRow.holds Try.pinned (OpenSpec.upto beatsKnownSpec)

end Rows
end Go.Proofs.Ytihflpoopdgcbaa
