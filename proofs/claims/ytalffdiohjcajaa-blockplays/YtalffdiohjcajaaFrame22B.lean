/-
  What is handed in to the statements of this seat, opened: lists of calls of a device, and the bound of their choices.
-/
import Derived.Test.YtalffdiohjcajaaLawPlays22
import Derived.Test.YtalffdiohjcajaaFrame22
namespace Go.Proofs.Ytalffdiohjcajaa
open Go.ChangeShapes Go.WideShapes Go.ChangeAt Go.RowKit
set_option maxRecDepth 100000
theorem cDo : Try.prog.cellsOf 34 = 5 := by kernel_rfl
theorem cInts : Try.prog.cellsOf 32 = 1 := by kernel_rfl
theorem bInt : Try.prog.bytesOf 3 = 8 := by kernel_rfl
section
variable {H : Type} {enc : TypeId × Value → H} {W : World} {base : Nat} {sp : Nat → Bool} {held : Bool}
theorem weights_all {P : Program} {e : TypeId} : ∀ {es : List (DataW H)} {d : DataW H}, d ∈ es → ∀ n ∈ d.weights P e, n ∈ DataW.weightsAll P e es
  | x :: es, d, h, n, hn => by
    simp only [DataW.weightsAll, List.mem_append]
    rcases List.mem_cons.1 h with rfl | h
    · exact .inl hn
    · exact .inr (weights_all h n hn)
/-- All that a datum weighs is within reach. -/
def Within (t : TypeId) (d : DataW H) : Prop := ∀ n ∈ d.weights Try.prog t, n ≤ reachBytes
theorem within_of {ts : List TypeId} {ds : List (DataW H)} {d : DataW H} {t : TypeId} (h : (DataW.weightsEach Try.prog ts ds).all (· ≤ reachBytes) = true) (j : Nat) (ht : ts[j]? = some t) (hd : ds[j]? = some d) : Within t d := fun n hn => by
  have := List.all_eq_true.1 h _ (DataW.weights_mem_each ht hd n hn)
  simpa using this
/-- How long a list is whose datum is within reach. -/
theorem within_len {e T : TypeId} (hT : Try.prog.underlying T = some (.slice e)) {d : DataW H} {len : Nat} (hw : Within T d) (hs : d = .nil ∧ len = 0 ∨ ∃ es rest, d = .slice es rest ∧ es.length = len) : len * Try.prog.bytesOf e ≤ reachBytes := by
  rcases hs with ⟨rfl, rfl⟩ | ⟨es, rest, rfl, rfl⟩
  · rw [Nat.zero_mul]; exact Nat.zero_le _
  · have := hw ((es.length + rest.length) * Try.prog.bytesOf e) (by simp [DataW.weights, hT])
    exact Nat.le_trans (Nat.mul_le_mul_right _ (Nat.le_add_right _ _)) this
theorem within_el {e T : TypeId} (hT : Try.prog.underlying T = some (.slice e)) {es rest : List (DataW H)} (hw : Within T (.slice es rest)) : ∀ d ∈ es, Within e d := fun d hd n hn => hw n (by
  simp only [DataW.weights, hT, List.mem_cons, List.mem_append]
  exact .inr (.inl (weights_all hd n hn)))
theorem trod_struct5 {t : TypeId} {f0 f1 f2 f3 f4 : Field} {fuel : Nat} {cs : List Value} {x : DataW H × List MemPlace} (ht : Try.prog.underlying t = some (.struct #[f0, f1, f2, f3, f4])) (h : DataW.trod enc Try.prog W base sp held fuel t cs = some x) :
    ∃ y0 y1 y2 y3 y4 n, x.1 = .agg [y0.1, y1.1, y2.1, y3.1, y4.1] ∧ DataW.trod enc Try.prog W base sp held n f0.type ((cs.drop f0.offset).take (Try.prog.cellsOf f0.type)) = some y0 ∧ DataW.trod enc Try.prog W base sp held n f1.type ((cs.drop f1.offset).take (Try.prog.cellsOf f1.type)) = some y1 ∧ DataW.trod enc Try.prog W base sp held n f2.type ((cs.drop f2.offset).take (Try.prog.cellsOf f2.type)) = some y2 ∧ DataW.trod enc Try.prog W base sp held n f3.type ((cs.drop f3.offset).take (Try.prog.cellsOf f3.type)) = some y3 ∧ DataW.trod enc Try.prog W base sp held n f4.type ((cs.drop f4.offset).take (Try.prog.cellsOf f4.type)) = some y4 := by
  obtain ⟨xs, n, _, rfl, hl, hlen, hf⟩ := DataW.trod_struct ht h
  match xs, hlen with
  | [y0, y1, y2, y3, y4], _ => exact ⟨y0, y1, y2, y3, y4, n, by simp, by simpa using hf 0 f0 rfl, by simpa using hf 1 f1 rfl, by simpa using hf 2 f2 rfl, by simpa using hf 3 f3 rfl, by simpa using hf 4 f4 rfl⟩
theorem el_do {fuel : Nat} {cs : List Value} {y : DataW H × List MemPlace} (h : DataW.trod enc Try.prog W base sp held fuel 34 cs = some y) (hl : cs.length = 5) (hw : Within 34 y.1) : ∃ x : Ig.Dox, cs = doE.enc x ∧ DoIn W x := by
  match cs, hl with
  | [x0, x1, x2, x3, x4], _ =>
    obtain ⟨y0, y1, y2, y3, y4, n1, e, t0, t1, t2, t3, t4⟩ := trod_struct5 Try.underlying34 h
    simp only [cInt, cInts, List.drop_succ_cons, List.drop_zero, List.take_succ_cons, List.take_zero] at t0 t1 t2 t3 t4
    obtain ⟨f0, rfl, _, w0⟩ := trod_i64 t0
    obtain ⟨f1, rfl, _, w1⟩ := trod_i64 t1
    obtain ⟨f2, rfl, _, w2⟩ := trod_i64 t2
    obtain ⟨f3, rfl, _, w3⟩ := trod_i64 t3
    obtain ⟨a, len, cap, zs, rfl, hr, hn, hle, hb, hs⟩ := open_intsD t4
    have w4 : Within 32 y4.1 := fun n hn => hw n (by rw [e]; simp [DataW.weights, DataW.weightsEach, Try.underlying34, hn])
    have hbig := within_len Try.underlying32 w4 hs
    rw [bInt] at hbig
    simp only [reachBytes] at hbig
    have hbig2 : len ≤ 17592186044416 := by omega
    refine ⟨⟨f0, f1, f2, f3, a, len, cap⟩, rfl, zs, (bounds_i64 w0).1, (bounds_i64 w0).2, (bounds_i64 w1).1, (bounds_i64 w1).2, (bounds_i64 w2).1, (bounds_i64 w2).2, hr, hn, hle, hbig2, hb, fun y hy h0 e => ?_⟩
    obtain ⟨b, off, e', hb', _⟩ := hr.2 0 h0
    have hy : a = some y := hy
    rw [hy] at e'
    cases e'
    exact absurd e (Nat.not_le.2 hb')
theorem open_dos {r : Reach} {b0 : Nat} {v : Value} {d : DataW H} {p : List MemPlace} (hv : Value.okWide Try.prog W r b0 22 v) (h : DataW.Trod enc Try.prog W base sp held 22 v d p) (hw : Within 22 d) :
    ∃ a len cap L, v = .slice a len cap ∧ GRow doE W a len L ∧ ∀ x ∈ L, DoIn W x := by
  obtain ⟨a, len, cap, rfl⟩ := okWide_slice Try.underlying22 hv
  obtain ⟨fuel, hf⟩ := h
  have hf' : DataW.trod enc Try.prog W base sp held fuel 22 [.slice a len cap] = some (d, p) := by simpa [Value.cells] using hf
  obtain ⟨a', len', cap', xs, e, hr, _, hP, _, _⟩ := open_growD doE Try.underlying22 cDo (Within 34) (DoIn W) (fun h hl hd => el_do h hl hd) hf' (fun es rest e => by have e : d = .slice es rest := e; rw [e] at hw; exact within_el Try.underlying22 hw)
  cases e
  exact ⟨a, len, cap, xs, rfl, hr, hP⟩
end
end Go.Proofs.Ytalffdiohjcajaa
