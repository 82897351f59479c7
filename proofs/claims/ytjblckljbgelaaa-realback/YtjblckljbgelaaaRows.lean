/-
  No cell of these rows narrows 'for every input' (looked for: loops, veiled, ifaces, maps, wideKeys, modest, calm, conditions, laid).
  DERIVED. THE GIVEN ROWS OF THIS SEAT. 6 by the template 'for every input the law returns true; each argument reads behind the call as it read before'; 0 by the template 'total and deterministic' (their statements: YtjblckljbgelaaaTotals.lean).
  GIVEN WITH THE SEED: the statements are not yours to turn. If you find one false, say at which input.
  Laid BY PROGRAM, IN A SANDBOX (cutbox-rows.mjs): the forced cells as the released guide's own fill.sh prints them over the translation e29ff2e64c3cd981… (all of the seat's roots in one cut). By AI agents, Wed Nov 11 2026. No macro, syntax, notation, axiom, sorry.
-/
import Derived.Test.YtjblckljbgelaaaChecked
import GoSem.Claim
import GoSem.ClaimJoined
import GoSem.ClaimMapViews
import Derived.JoinedTies
import Derived.KernelRfl
namespace Go.Proofs.Ytjblckljbgelaaa
/- THE CELL 'sum', in the pinned program and in every row, IS THE sha256 OF THE DUMP (.gsa) THAT YtjblckljbgelaaaProg.lean LOADS. Nothing in Lean hashes anything: it is a label: what it is worth is what the hold of that sum in a sandbox is worth. -/
noncomputable def Try.pinned : Pinned := { name := "ytjblckljbgelaaa", sum := "e29ff2e64c3cd981aba56cddd11c06a9910435f4c2b68699f3b377a4c6350c48", checked := Try.checked }
namespace Rows
def none {H : Type} : Left H := { results := [], args := [] }

/-- 'handbelllaw02.RealSays': WHATEVER THE INPUT: true; the input reads as it did. -/
def realSaysSpec : ChangeSpec := { name := "realSays", fn := fun _ => fun
  | [d1, d2] => { results := [.lit (.bool true)], args := [d1, d2] }
  | _ => none }
def realSaysRow : OpenClaim := { program := "ytjblckljbgelaaa", sum := "e29ff2e64c3cd981aba56cddd11c06a9910435f4c2b68699f3b377a4c6350c48", func := "handbell/handbelllaw02.RealSays", spec := "realSays", apart := false }
def RealSaysSaid : Prop := realSaysRow.holds Try.pinned (OpenSpec.ofChange realSaysSpec)

/-- ITS FALSE NEIGHBOUR: 'it returns false'. Refute it at one input. -/
def realSaysWrong : ChangeSpec := { name := "realSays", fn := fun _ => fun
  | [d1, d2] => { results := [.lit (.bool false)], args := [d1, d2] }
  | _ => none }
def RealSaysWrongFalsely : Prop := realSaysRow.holds Try.pinned (OpenSpec.ofChange realSaysWrong)

/-- 'handbelllaw02.RealPacks': WHATEVER THE INPUT: true; the input reads as it did. -/
def realPacksSpec : ChangeSpec := { name := "realPacks", fn := fun _ => fun
  | [d] => { results := [.lit (.bool true)], args := [d] }
  | _ => none }
def realPacksRow : OpenClaim := { program := "ytjblckljbgelaaa", sum := "e29ff2e64c3cd981aba56cddd11c06a9910435f4c2b68699f3b377a4c6350c48", func := "handbell/handbelllaw02.RealPacks", spec := "realPacks", apart := false }
def RealPacksSaid : Prop := realPacksRow.holds Try.pinned (OpenSpec.ofChange realPacksSpec)

/-- ITS FALSE NEIGHBOUR: 'it returns false'. Refute it at one input. -/
def realPacksWrong : ChangeSpec := { name := "realPacks", fn := fun _ => fun
  | [d] => { results := [.lit (.bool false)], args := [d] }
  | _ => none }
def RealPacksWrongFalsely : Prop := realPacksRow.holds Try.pinned (OpenSpec.ofChange realPacksWrong)

/-- 'handbelllaw02.RealOf': WHATEVER THE INPUT: true; the input reads as it did. -/
def realOfSpec : ChangeSpec := { name := "realOf", fn := fun _ => fun
  | [d] => { results := [.lit (.bool true)], args := [d] }
  | _ => none }
def realOfRow : OpenClaim := { program := "ytjblckljbgelaaa", sum := "e29ff2e64c3cd981aba56cddd11c06a9910435f4c2b68699f3b377a4c6350c48", func := "handbell/handbelllaw02.RealOf", spec := "realOf", recurses := true, apart := false }
def RealOfSaid : Prop := realOfRow.holds Try.pinned (OpenSpec.ofChange realOfSpec)

/-- ITS FALSE NEIGHBOUR: 'it returns false'. Refute it at one input. -/
def realOfWrong : ChangeSpec := { name := "realOf", fn := fun _ => fun
  | [d] => { results := [.lit (.bool false)], args := [d] }
  | _ => none }
def RealOfWrongFalsely : Prop := realOfRow.holds Try.pinned (OpenSpec.ofChange realOfWrong)

/-- 'handbelllaw02.RealBack': WHATEVER THE INPUT: true; the input reads as it did. -/
def realBackSpec : ChangeSpec := { name := "realBack", fn := fun _ => fun
  | [d1, d2, d3] => { results := [.lit (.bool true)], args := [d1, d2, d3] }
  | _ => none }
def realBackRow : OpenClaim := { program := "ytjblckljbgelaaa", sum := "e29ff2e64c3cd981aba56cddd11c06a9910435f4c2b68699f3b377a4c6350c48", func := "handbell/handbelllaw02.RealBack", spec := "realBack", apart := false }
def RealBackSaid : Prop := realBackRow.holds Try.pinned (OpenSpec.ofChange realBackSpec)

/-- ITS FALSE NEIGHBOUR: 'it returns false'. Refute it at one input. -/
def realBackWrong : ChangeSpec := { name := "realBack", fn := fun _ => fun
  | [d1, d2, d3] => { results := [.lit (.bool false)], args := [d1, d2, d3] }
  | _ => none }
def RealBackWrongFalsely : Prop := realBackRow.holds Try.pinned (OpenSpec.ofChange realBackWrong)

/-- 'handbelllaw02.RealNear': WHATEVER THE INPUT: true; the input reads as it did. -/
def realNearSpec : ChangeSpec := { name := "realNear", fn := fun _ => fun
  | [d] => { results := [.lit (.bool true)], args := [d] }
  | _ => none }
def realNearRow : OpenClaim := { program := "ytjblckljbgelaaa", sum := "e29ff2e64c3cd981aba56cddd11c06a9910435f4c2b68699f3b377a4c6350c48", func := "handbell/handbelllaw02.RealNear", spec := "realNear", apart := false }
def RealNearSaid : Prop := realNearRow.holds Try.pinned (OpenSpec.ofChange realNearSpec)

/-- ITS FALSE NEIGHBOUR: 'it returns false'. Refute it at one input. -/
def realNearWrong : ChangeSpec := { name := "realNear", fn := fun _ => fun
  | [d] => { results := [.lit (.bool false)], args := [d] }
  | _ => none }
def RealNearWrongFalsely : Prop := realNearRow.holds Try.pinned (OpenSpec.ofChange realNearWrong)

/-- 'handbelllaw02.RealGrows': WHATEVER THE INPUT: true; the input reads as it did. -/
def realGrowsSpec : ChangeSpec := { name := "realGrows", fn := fun _ => fun
  | [d1, d2, d3] => { results := [.lit (.bool true)], args := [d1, d2, d3] }
  | _ => none }
def realGrowsRow : OpenClaim := { program := "ytjblckljbgelaaa", sum := "e29ff2e64c3cd981aba56cddd11c06a9910435f4c2b68699f3b377a4c6350c48", func := "handbell/handbelllaw02.RealGrows", spec := "realGrows", apart := false }
def RealGrowsSaid : Prop := realGrowsRow.holds Try.pinned (OpenSpec.ofChange realGrowsSpec)

/-- ITS FALSE NEIGHBOUR: 'it returns false'. Refute it at one input. -/
def realGrowsWrong : ChangeSpec := { name := "realGrows", fn := fun _ => fun
  | [d1, d2, d3] => { results := [.lit (.bool false)], args := [d1, d2, d3] }
  | _ => none }
def RealGrowsWrongFalsely : Prop := realGrowsRow.holds Try.pinned (OpenSpec.ofChange realGrowsWrong)

/- THE SECOND FORM. 'bulk': how many values and letters a reading holds, each counted each time it is reached (what is shared counts as often as it is met; a slice's spare places count too). A statement '..UptoSaid' is the law's where the arguments, and the package variables that the reading takes, are together of bulk at most 1048576: NARROWER than '..Said'. Prove '..Said' where nothing that the law and all that it calls make is longer than what came in: it says more and counts as full. Else prove '..UptoSaid'. A law counts once. -/
mutual
def uptoBulk {H : Type} : DataW H → Nat
  | .lit (.string bytes) => bytes.length + 1
  | .lit _ => 1
  | .nil => 1
  | .ptr d => uptoBulk d + 1
  | .slice elems spare => uptoBulkAll elems + uptoBulkAll spare + 1
  | .agg parts => uptoBulkAll parts + 1
  | .iface _ d => uptoBulk d + 1
  | .map entries => uptoBulkEntries entries + 1
  | .held _ => 1
def uptoBulkAll {H : Type} : List (DataW H) → Nat
  | [] => 0
  | d :: r => uptoBulk d + uptoBulkAll r
def uptoBulkEntries {H : Type} : List (Lit × DataW H) → Nat
  | [] => 0
  | x :: r => uptoBulkEntry x + uptoBulkEntries r
def uptoBulkEntry {H : Type} : Lit × DataW H → Nat
  | (.string bytes, d) => bytes.length + uptoBulk d + 1
  | (_, d) => uptoBulk d + 1
 end
def uptoSmall : (H : Type) → List (DataW H) → Bool := fun _ ds => decide (uptoBulkAll ds ≤ 1048576)
def OpenSpec.upto (s : _root_.Go.ChangeSpec) : _root_.Go.OpenSpec := { _root_.Go.OpenSpec.ofChange s with cond := some uptoSmall }

/-- 'handbelllaw02.RealSays', WHERE WHAT IT READS IS OF BULK AT MOST 1048576: true; the input reads as it did. -/
def realSaysUptoRow : OpenClaim := { program := "ytjblckljbgelaaa", sum := "e29ff2e64c3cd981aba56cddd11c06a9910435f4c2b68699f3b377a4c6350c48", func := "handbell/handbelllaw02.RealSays", spec := "realSays", apart := false, narrowed := true }
def RealSaysUptoSaid : Prop := realSaysUptoRow.holds Try.pinned (OpenSpec.upto realSaysSpec)

/-- 'handbelllaw02.RealPacks', WHERE WHAT IT READS IS OF BULK AT MOST 1048576: true; the input reads as it did. -/
def realPacksUptoRow : OpenClaim := { program := "ytjblckljbgelaaa", sum := "e29ff2e64c3cd981aba56cddd11c06a9910435f4c2b68699f3b377a4c6350c48", func := "handbell/handbelllaw02.RealPacks", spec := "realPacks", apart := false, narrowed := true }
def RealPacksUptoSaid : Prop := realPacksUptoRow.holds Try.pinned (OpenSpec.upto realPacksSpec)

/-- 'handbelllaw02.RealOf', WHERE WHAT IT READS IS OF BULK AT MOST 1048576: true; the input reads as it did. -/
def realOfUptoRow : OpenClaim := { program := "ytjblckljbgelaaa", sum := "e29ff2e64c3cd981aba56cddd11c06a9910435f4c2b68699f3b377a4c6350c48", func := "handbell/handbelllaw02.RealOf", spec := "realOf", recurses := true, apart := false, narrowed := true }
def RealOfUptoSaid : Prop := realOfUptoRow.holds Try.pinned (OpenSpec.upto realOfSpec)

/-- 'handbelllaw02.RealBack', WHERE WHAT IT READS IS OF BULK AT MOST 1048576: true; the input reads as it did. -/
def realBackUptoRow : OpenClaim := { program := "ytjblckljbgelaaa", sum := "e29ff2e64c3cd981aba56cddd11c06a9910435f4c2b68699f3b377a4c6350c48", func := "handbell/handbelllaw02.RealBack", spec := "realBack", apart := false, narrowed := true }
def RealBackUptoSaid : Prop := realBackUptoRow.holds Try.pinned (OpenSpec.upto realBackSpec)

/-- 'handbelllaw02.RealNear', WHERE WHAT IT READS IS OF BULK AT MOST 1048576: true; the input reads as it did. -/
def realNearUptoRow : OpenClaim := { program := "ytjblckljbgelaaa", sum := "e29ff2e64c3cd981aba56cddd11c06a9910435f4c2b68699f3b377a4c6350c48", func := "handbell/handbelllaw02.RealNear", spec := "realNear", apart := false, narrowed := true }
def RealNearUptoSaid : Prop := realNearUptoRow.holds Try.pinned (OpenSpec.upto realNearSpec)

/-- 'handbelllaw02.RealGrows', WHERE WHAT IT READS IS OF BULK AT MOST 1048576: true; the input reads as it did. -/
def realGrowsUptoRow : OpenClaim := { program := "ytjblckljbgelaaa", sum := "e29ff2e64c3cd981aba56cddd11c06a9910435f4c2b68699f3b377a4c6350c48", func := "handbell/handbelllaw02.RealGrows", spec := "realGrows", apart := false, narrowed := true }
def RealGrowsUptoSaid : Prop := realGrowsUptoRow.holds Try.pinned (OpenSpec.upto realGrowsSpec)

end Rows
end Go.Proofs.Ytjblckljbgelaaa
