/-
  No cell of these rows narrows 'for every input' (looked for: loops, veiled, ifaces, maps, wideKeys, modest, calm, conditions, laid).
  DERIVED. THE GIVEN ROWS OF THIS SEAT. 6 by the template 'for every input the law returns true; each argument reads behind the call as it read before'; 0 by the template 'total and deterministic' (their statements: YtaiagijepnaalaaTotals.lean).
  GIVEN WITH THE SEED: the statements are not yours to turn. If you find one false, say at which input.
  Laid BY PROGRAM, IN A SANDBOX (cutbox-rows.mjs): the forced cells as the released guide's own fill.sh prints them over the translation aa2b8597b53e8afc… (all of the seat's roots in one cut). By AI agents, Wed Nov 11 2026. No macro, syntax, notation, axiom, sorry.
-/
import Derived.Test.YtaiagijepnaalaaChecked
import GoSem.Claim
import GoSem.ClaimJoined
import GoSem.ClaimMapViews
import Derived.JoinedTies
import Derived.KernelRfl
namespace Go.Proofs.Ytaiagijepnaalaa
/- THE CELL 'sum', in the pinned program and in every row, IS THE sha256 OF THE DUMP (.gsa) THAT YtaiagijepnaalaaProg.lean LOADS. Nothing in Lean hashes anything: it is a label: what it is worth is what the hold of that sum in a sandbox is worth. -/
noncomputable def Try.pinned : Pinned := { name := "ytaiagijepnaalaa", sum := "aa2b8597b53e8afc96192ff97802944bf327cc78563e25c7534b977fff361783", checked := Try.checked }
namespace Rows
def none {H : Type} : Left H := { results := [], args := [] }

/-- 'handbelllaw19.PanelSignals': WHATEVER THE INPUT: true; the input reads as it did. -/
def panelSignalsSpec : ChangeSpec := { name := "panelSignals", fn := fun _ => fun
  | [d1, d2, d3] => { results := [.lit (.bool true)], args := [d1, d2, d3] }
  | _ => none }
def panelSignalsRow : OpenClaim := { program := "ytaiagijepnaalaa", sum := "aa2b8597b53e8afc96192ff97802944bf327cc78563e25c7534b977fff361783", func := "handbell/handbelllaw19.PanelSignals", spec := "panelSignals", apart := false }
def PanelSignalsSaid : Prop := panelSignalsRow.holds Try.pinned (OpenSpec.ofChange panelSignalsSpec)

/-- ITS FALSE NEIGHBOUR: 'it returns false'. Refute it at one input. -/
def panelSignalsWrong : ChangeSpec := { name := "panelSignals", fn := fun _ => fun
  | [d1, d2, d3] => { results := [.lit (.bool false)], args := [d1, d2, d3] }
  | _ => none }
def PanelSignalsWrongFalsely : Prop := panelSignalsRow.holds Try.pinned (OpenSpec.ofChange panelSignalsWrong)

/-- 'handbelllaw19.PanelGraver': WHATEVER THE INPUT: true; the input reads as it did. -/
def panelGraverSpec : ChangeSpec := { name := "panelGraver", fn := fun _ => fun
  | [d1, d2] => { results := [.lit (.bool true)], args := [d1, d2] }
  | _ => none }
def panelGraverRow : OpenClaim := { program := "ytaiagijepnaalaa", sum := "aa2b8597b53e8afc96192ff97802944bf327cc78563e25c7534b977fff361783", func := "handbell/handbelllaw19.PanelGraver", spec := "panelGraver", apart := false }
def PanelGraverSaid : Prop := panelGraverRow.holds Try.pinned (OpenSpec.ofChange panelGraverSpec)

/-- ITS FALSE NEIGHBOUR: 'it returns false'. Refute it at one input. -/
def panelGraverWrong : ChangeSpec := { name := "panelGraver", fn := fun _ => fun
  | [d1, d2] => { results := [.lit (.bool false)], args := [d1, d2] }
  | _ => none }
def PanelGraverWrongFalsely : Prop := panelGraverRow.holds Try.pinned (OpenSpec.ofChange panelGraverWrong)

/-- 'handbelllaw19.PanelTop': WHATEVER THE INPUT: true; the input reads as it did. -/
def panelTopSpec : ChangeSpec := { name := "panelTop", fn := fun _ => fun
  | [d1, d2] => { results := [.lit (.bool true)], args := [d1, d2] }
  | _ => none }
def panelTopRow : OpenClaim := { program := "ytaiagijepnaalaa", sum := "aa2b8597b53e8afc96192ff97802944bf327cc78563e25c7534b977fff361783", func := "handbell/handbelllaw19.PanelTop", spec := "panelTop", apart := false }
def PanelTopSaid : Prop := panelTopRow.holds Try.pinned (OpenSpec.ofChange panelTopSpec)

/-- ITS FALSE NEIGHBOUR: 'it returns false'. Refute it at one input. -/
def panelTopWrong : ChangeSpec := { name := "panelTop", fn := fun _ => fun
  | [d1, d2] => { results := [.lit (.bool false)], args := [d1, d2] }
  | _ => none }
def PanelTopWrongFalsely : Prop := panelTopRow.holds Try.pinned (OpenSpec.ofChange panelTopWrong)

/-- 'handbelllaw19.PanelOrder': WHATEVER THE INPUT: true; the input reads as it did. -/
def panelOrderSpec : ChangeSpec := { name := "panelOrder", fn := fun _ => fun
  | [d1, d2, d3] => { results := [.lit (.bool true)], args := [d1, d2, d3] }
  | _ => none }
def panelOrderRow : OpenClaim := { program := "ytaiagijepnaalaa", sum := "aa2b8597b53e8afc96192ff97802944bf327cc78563e25c7534b977fff361783", func := "handbell/handbelllaw19.PanelOrder", spec := "panelOrder", apart := false }
def PanelOrderSaid : Prop := panelOrderRow.holds Try.pinned (OpenSpec.ofChange panelOrderSpec)

/-- ITS FALSE NEIGHBOUR: 'it returns false'. Refute it at one input. -/
def panelOrderWrong : ChangeSpec := { name := "panelOrder", fn := fun _ => fun
  | [d1, d2, d3] => { results := [.lit (.bool false)], args := [d1, d2, d3] }
  | _ => none }
def PanelOrderWrongFalsely : Prop := panelOrderRow.holds Try.pinned (OpenSpec.ofChange panelOrderWrong)

/-- 'handbelllaw19.PanelApart': WHATEVER THE INPUT: true; the input reads as it did. -/
def panelApartSpec : ChangeSpec := { name := "panelApart", fn := fun _ => fun
  | [d1, d2, d3] => { results := [.lit (.bool true)], args := [d1, d2, d3] }
  | _ => none }
def panelApartRow : OpenClaim := { program := "ytaiagijepnaalaa", sum := "aa2b8597b53e8afc96192ff97802944bf327cc78563e25c7534b977fff361783", func := "handbell/handbelllaw19.PanelApart", spec := "panelApart", apart := false }
def PanelApartSaid : Prop := panelApartRow.holds Try.pinned (OpenSpec.ofChange panelApartSpec)

/-- ITS FALSE NEIGHBOUR: 'it returns false'. Refute it at one input. -/
def panelApartWrong : ChangeSpec := { name := "panelApart", fn := fun _ => fun
  | [d1, d2, d3] => { results := [.lit (.bool false)], args := [d1, d2, d3] }
  | _ => none }
def PanelApartWrongFalsely : Prop := panelApartRow.holds Try.pinned (OpenSpec.ofChange panelApartWrong)

/-- 'handbelllaw19.PanelKnown': WHATEVER THE INPUT: true; the input reads as it did. -/
def panelKnownSpec : ChangeSpec := { name := "panelKnown", fn := fun _ => fun
  | [] => { results := [.lit (.bool true)], args := [] }
  | _ => none }
def panelKnownRow : OpenClaim := { program := "ytaiagijepnaalaa", sum := "aa2b8597b53e8afc96192ff97802944bf327cc78563e25c7534b977fff361783", func := "handbell/handbelllaw19.PanelKnown", spec := "panelKnown", apart := false }
def PanelKnownSaid : Prop := panelKnownRow.holds Try.pinned (OpenSpec.ofChange panelKnownSpec)

/-- ITS FALSE NEIGHBOUR: 'it returns false'. Refute it at one input. -/
def panelKnownWrong : ChangeSpec := { name := "panelKnown", fn := fun _ => fun
  | [] => { results := [.lit (.bool false)], args := [] }
  | _ => none }
def PanelKnownWrongFalsely : Prop := panelKnownRow.holds Try.pinned (OpenSpec.ofChange panelKnownWrong)

/- THE SECOND FORM. 'bulk': how many values and letters a reading holds, each counted each time it is reached (what is shared counts as often as it is met; a slice's spare places count too). A statement '..UptoSaid' is the law's where the arguments, and the package variables that the reading takes, are together of bulk at most 1048576: NARROWER than '..Said'. Prove '..Said' where nothing that the law and all that it calls make is longer than what came in: it says more and counts as full. Else prove '..UptoSaid'. A law counts once. -/
mutual
def uptoBulk {H : Type} : DataW H → Nat
  | .lit (.string bytes) => bytes.length + 1
  | .lit _ => 1
  | .nil => 1
  | .ptr d => uptoBulk d + 1
  | .slice elems spare => uptoBulkAll elems + uptoBulkAll spare + 1
  | .agg parts => uptoBulkAll parts + 1
  | .iface _ d => uptoBulk d + 1
  | .map entries => uptoBulkEntries entries + 1
  | .held _ => 1
def uptoBulkAll {H : Type} : List (DataW H) → Nat
  | [] => 0
  | d :: r => uptoBulk d + uptoBulkAll r
def uptoBulkEntries {H : Type} : List (Lit × DataW H) → Nat
  | [] => 0
  | x :: r => uptoBulkEntry x + uptoBulkEntries r
def uptoBulkEntry {H : Type} : Lit × DataW H → Nat
  | (.string bytes, d) => bytes.length + uptoBulk d + 1
  | (_, d) => uptoBulk d + 1
 end
def uptoSmall : (H : Type) → List (DataW H) → Bool := fun _ ds => decide (uptoBulkAll ds ≤ 1048576)
def OpenSpec.upto (s : _root_.Go.ChangeSpec) : _root_.Go.OpenSpec := { _root_.Go.OpenSpec.ofChange s with cond := some uptoSmall }

/-- 'handbelllaw19.PanelSignals', WHERE WHAT IT READS IS OF BULK AT MOST 1048576: true; the input reads as it did. -/
def panelSignalsUptoRow : OpenClaim := { program := "ytaiagijepnaalaa", sum := "aa2b8597b53e8afc96192ff97802944bf327cc78563e25c7534b977fff361783", func := "handbell/handbelllaw19.PanelSignals", spec := "panelSignals", apart := false, narrowed := true }
def PanelSignalsUptoSaid : Prop := panelSignalsUptoRow.holds Try.pinned (OpenSpec.upto panelSignalsSpec)

/-- 'handbelllaw19.PanelGraver', WHERE WHAT IT READS IS OF BULK AT MOST 1048576: true; the input reads as it did. -/
def panelGraverUptoRow : OpenClaim := { program := "ytaiagijepnaalaa", sum := "aa2b8597b53e8afc96192ff97802944bf327cc78563e25c7534b977fff361783", func := "handbell/handbelllaw19.PanelGraver", spec := "panelGraver", apart := false, narrowed := true }
def PanelGraverUptoSaid : Prop := panelGraverUptoRow.holds Try.pinned (OpenSpec.upto panelGraverSpec)

/-- 'handbelllaw19.PanelTop', WHERE WHAT IT READS IS OF BULK AT MOST 1048576: true; the input reads as it did. -/
def panelTopUptoRow : OpenClaim := { program := "ytaiagijepnaalaa", sum := "aa2b8597b53e8afc96192ff97802944bf327cc78563e25c7534b977fff361783", func := "handbell/handbelllaw19.PanelTop", spec := "panelTop", apart := false, narrowed := true }
def PanelTopUptoSaid : Prop := panelTopUptoRow.holds Try.pinned (OpenSpec.upto panelTopSpec)

/-- 'handbelllaw19.PanelOrder', WHERE WHAT IT READS IS OF BULK AT MOST 1048576: true; the input reads as it did. -/
def panelOrderUptoRow : OpenClaim := { program := "ytaiagijepnaalaa", sum := "aa2b8597b53e8afc96192ff97802944bf327cc78563e25c7534b977fff361783", func := "handbell/handbelllaw19.PanelOrder", spec := "panelOrder", apart := false, narrowed := true }
def PanelOrderUptoSaid : Prop := panelOrderUptoRow.holds Try.pinned (OpenSpec.upto panelOrderSpec)

/-- 'handbelllaw19.PanelApart', WHERE WHAT IT READS IS OF BULK AT MOST 1048576: true; the input reads as it did. -/
def panelApartUptoRow : OpenClaim := { program := "ytaiagijepnaalaa", sum := "aa2b8597b53e8afc96192ff97802944bf327cc78563e25c7534b977fff361783", func := "handbell/handbelllaw19.PanelApart", spec := "panelApart", apart := false, narrowed := true }
def PanelApartUptoSaid : Prop := panelApartUptoRow.holds Try.pinned (OpenSpec.upto panelApartSpec)

/-- 'handbelllaw19.PanelKnown', WHERE WHAT IT READS IS OF BULK AT MOST 1048576: true; the input reads as it did. -/
def panelKnownUptoRow : OpenClaim := { program := "ytaiagijepnaalaa", sum := "aa2b8597b53e8afc96192ff97802944bf327cc78563e25c7534b977fff361783", func := "handbell/handbelllaw19.PanelKnown", spec := "panelKnown", apart := false, narrowed := true }
def PanelKnownUptoSaid : Prop := panelKnownUptoRow.holds Try.pinned (OpenSpec.upto panelKnownSpec)

end Rows
end Go.Proofs.Ytaiagijepnaalaa
