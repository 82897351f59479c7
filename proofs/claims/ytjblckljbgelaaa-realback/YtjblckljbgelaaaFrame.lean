/-
  What every row of this seat shares: a real that is handed in, opened and shut.
-/
import Derived.Test.YtjblckljbgelaaaBase
import Derived.ProofKit
import Derived.OpenShut
import Derived.Lib.SmallJoins
namespace Go.Proofs.Ytjblckljbgelaaa
open Go.ChangeShapes Go.WideShapes Go.ChangeAt Go.RowKit
theorem own : ownKnob Try.prog.godebug = none := by kernel_rfl
theorem c25 : Try.prog.cellsOf 25 = 3 := by kernel_rfl
section
variable {H : Type} {enc : TypeId × Value → H} {W : World} {base : Nat} {sp : Nat → Bool} {held : Bool}
theorem trod_i64 {fuel : Nat} {v : Value} {y : DataW H × List MemPlace} (h : DataW.trod enc Try.prog W base sp held fuel 3 [v] = some y) : ∃ n, v = .int .i64 n ∧ y = (.lit (.int .i64 n), []) ∧ (Lit.int .i64 n).wf = true := by
  cases fuel with
  | zero => simp [DataW.trod] at h
  | succ f =>
    simp only [DataW.trod, Try.underlying3] at h
    cases v <;> simp at h
    rename_i k n
    obtain ⟨⟨rfl, hw⟩, rfl⟩ := h
    exact ⟨n, rfl, rfl, hw⟩
theorem open_real {r : Reach} {b0 : Nat} {v : Value} {d : DataW H} {p : List MemPlace} (hv : Value.okWide Try.prog W r b0 25 v) (h : DataW.Trod enc Try.prog W base sp held 25 v d p) :
    ∃ k m e, v = .agg #[.int .i64 k, .int .i64 m, .int .i64 e] ∧ d = .agg [.lit (.int .i64 k), .lit (.int .i64 m), .lit (.int .i64 e)] ∧ p = [] ∧ (Lit.int .i64 k).wf = true ∧ (Lit.int .i64 m).wf = true ∧ (Lit.int .i64 e).wf = true := by
  obtain ⟨v0, v1, v2, y0, y1, y2, n, rfl, rfl, rfl, h0, h1, h2⟩ := _root_.Go.Joins.open_agg3 Try.underlying25 (by kernel_rfl) c25 hv h
  obtain ⟨k, rfl, rfl, w0⟩ := trod_i64 h0
  obtain ⟨m, rfl, rfl, w1⟩ := trod_i64 h1
  obtain ⟨e, rfl, rfl, w2⟩ := trod_i64 h2
  exact ⟨k, m, e, rfl, rfl, rfl, w0, w1, w2⟩
theorem shut_real {k m e : Int} (w0 : (Lit.int .i64 k).wf = true) (w1 : (Lit.int .i64 m).wf = true) (w2 : (Lit.int .i64 e).wf = true) :
    DataW.Trod enc Try.prog W base sp held 25 (.agg #[.int .i64 k, .int .i64 m, .int .i64 e]) (.agg [.lit (.int .i64 k), .lit (.int .i64 m), .lit (.int .i64 e)]) [] :=
  _root_.Go.Joins.shut_agg3 (y0 := (.lit (.int .i64 k), [])) (y1 := (.lit (.int .i64 m), [])) (y2 := (.lit (.int .i64 e), [])) Try.underlying25 (by kernel_rfl) c25 ⟨1, trod_int_mk 0 Try.underlying3 w0⟩ ⟨1, trod_int_mk 0 Try.underlying3 w1⟩ ⟨1, trod_int_mk 0 Try.underlying3 w2⟩
end
end Go.Proofs.Ytjblckljbgelaaa
