/-
  What is handed in to the statements of this seat, opened: an array of two ints.
-/
import Derived.Test.YtihflpoopdgcbaaFrameI
namespace Go.Proofs.Ytihflpoopdgcbaa
open Go.ChangeShapes Go.WideShapes Go.ChangeAt Go.RowKit
set_option maxRecDepth 100000
theorem cPair : Try.prog.cellsOf 39 = 2 := by kernel_rfl
section
variable {H : Type} {enc : TypeId × Value → H} {W : World} {base : Nat} {spare : Nat → Bool} {held : Bool}
theorem open_pair {r : Reach} {b0 : Nat} {v : Value} {d : DataW H} {p : List MemPlace} (hv : Value.okWide Try.prog W r b0 39 v) (h : DataW.Trod enc Try.prog W base spare held 39 v d p) :
    ∃ x0 x1, v = .agg #[.int .i64 x0, .int .i64 x1] ∧ d = .agg [.lit (.int .i64 x0), .lit (.int .i64 x1)] ∧ p = [] ∧ (Lit.int .i64 x0).wf = true ∧ (Lit.int .i64 x1).wf = true := by
  obtain ⟨cs, rfl, hsz, _⟩ : ∃ cs, v = .agg cs ∧ cs.size = Try.prog.cellsOf 39 ∧ Row.okWide Try.prog W r b0 39 cs := by
    simpa [Value.okWide, Try.underlying39] using hv
  rw [cPair] at hsz
  obtain ⟨l⟩ := cs
  match l, hsz with
  | [c0, c1], _ =>
    obtain ⟨fuel, hf⟩ := h
    obtain ⟨xs, m, _, ex, _, hl, hel⟩ := DataW.trod_array Try.underlying39 hf
    match xs, hl with
    | [y0, y1], _ =>
      have e0 := hel 0 (by omega)
      have e1 := hel 1 (by omega)
      simp [Value.cells, cInt] at e0 e1
      obtain ⟨x0, e2, rfl, w0⟩ := DataW.trod_int Try.underlying3 e0
      obtain ⟨x1, e3, rfl, w1⟩ := DataW.trod_int Try.underlying3 e1
      simp at e2 e3
      subst e2 e3
      simp at ex
      obtain ⟨rfl, rfl⟩ := ex
      exact ⟨x0, x1, rfl, rfl, rfl, w0, w1⟩
theorem shut_pair {x0 x1 : Int} (w0 : (Lit.int .i64 x0).wf = true) (w1 : (Lit.int .i64 x1).wf = true) : DataW.Trod enc Try.prog W base spare held 39 (.agg #[.int .i64 x0, .int .i64 x1]) (.agg [.lit (.int .i64 x0), .lit (.int .i64 x1)]) [] :=
  ⟨2, by simp [DataW.trod, Value.cells, Try.underlying39, Try.underlying3, cPair, cInt, w0, w1, show List.range 2 = [0, 1] from rfl]⟩
end
end Go.Proofs.Ytihflpoopdgcbaa
