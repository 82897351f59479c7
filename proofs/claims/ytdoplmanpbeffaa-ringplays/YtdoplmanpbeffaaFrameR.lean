/-
  What is handed in to the statements of this seat, opened: an int; lists of bools, of ints, of calls.
-/
import Derived.Test.YtdoplmanpbeffaaRngH
import Derived.ProofKit
import Derived.OpenShut
import Derived.ChangeOld
import Derived.Below
import Derived.SizedLaws
import Derived.Deep.Strs
namespace Go.Proofs.Ytdoplmanpbeffaa
open Go.ChangeShapes Go.WideShapes Go.ChangeAt Go.RowKit
set_option maxRecDepth 100000
theorem own : ownKnob Try.prog.godebug = none := by kernel_rfl
theorem laidOut : laidOutB Try.prog = true := by kernel_rfl
theorem cInt : Try.prog.cellsOf 3 = 1 := by kernel_rfl
theorem cBool : Try.prog.cellsOf 4 = 1 := by kernel_rfl
theorem cDo : Try.prog.cellsOf 32 = 2 := by kernel_rfl
section
variable {H : Type} {enc : TypeId × Value → H} {W : World} {base : Nat} {held : Bool}
theorem addr_add (b off i : Nat) : (⟨b, off, none⟩ : Addr).add i = ⟨b, off + i, none⟩ := by
  by_cases h0 : i = 0
  · subst h0; simp [Addr.add]
  · simp [Addr.add, h0]
theorem cell_lt {b off : Nat} {v : Value} (h : W.cell? ⟨b, off, none⟩ = some v) : b < W.heap.size := by
  rcases Nat.lt_or_ge b W.heap.size with h' | h'
  · exact h'
  · unfold World.cell? at h
    simp [Array.getElem?_eq_none h'] at h
theorem open_intsR {r : Reach} {b0 : Nat} {v : Value} {d : DataW H} {p : List MemPlace} (hv : Value.okWide Try.prog W r b0 41 v) (h : DataW.Trod enc Try.prog W base (fun _ => true) held 41 v d p) :
    ∃ a len cap, v = .slice a len cap ∧ IntRow W a len := by
  obtain ⟨a, len, cap, rfl⟩ := okWide_slice Try.underlying41 hv
  obtain ⟨fuel, hf⟩ := h
  rcases open_ints Try.underlying41 Try.underlying3 cInt hf with ⟨hcs, _⟩ | ⟨x, l, c, zs, hcs, _, hl, hm, hz, hx, hcell, hwz⟩
  · simp [Value.cells] at hcs
    obtain ⟨rfl, rfl, rfl⟩ := hcs
    exact ⟨none, 0, 0, rfl, fun i hi => absurd hi (by omega)⟩
  · simp [Value.cells] at hcs
    obtain ⟨rfl, rfl, rfl⟩ := hcs
    have hz' : zs.length = cap := by simpa using hz
    refine ⟨some x, len, cap, rfl, fun i hi => ?_⟩
    have hc := hcell i (by omega)
    have hd := hcell 0 (by omega)
    obtain ⟨b, off, spot⟩ := x
    have hspot : spot = none := by simpa [Addr.add] using World.cell?_spot hd
    subst hspot
    rw [addr_add] at hc
    have hb := bounds_i64 (hwz (zs.getD i 0) (by simp [show i < zs.length by omega]))
    exact ⟨b, off, _, rfl, cell_lt hc, hc, hb.1, hb.2⟩
theorem cells2 {a : Addr} {cs : List Value} (h : W.cells? base a 2 = some cs) : ∃ x y, cs = [x, y] ∧ W.cell? (a.add 0) = some x ∧ W.cell? (a.add 1) = some y := by
  unfold World.cells? at h
  split at h
  · have e : List.range 2 = [0, 1] := by decide
    rw [e] at h
    simp only [List.mapM_cons, List.mapM_nil, Option.pure_def, Option.bind_eq_bind, Option.bind_eq_some_iff, Option.some.injEq] at h
    obtain ⟨x, hx, _, ⟨y, hy, _, rfl, rfl⟩, rfl⟩ := h
    exact ⟨x, y, rfl, hx, hy⟩
  · cases h
theorem cells1 {a : Addr} {cs : List Value} (h : W.cells? base a 1 = some cs) : ∃ x, cs = [x] ∧ W.cell? (a.add 0) = some x := by
  unfold World.cells? at h
  split at h
  · have e : List.range 1 = [0] := by decide
    rw [e] at h
    simp only [List.mapM_cons, List.mapM_nil, Option.pure_def, Option.bind_eq_bind, Option.bind_eq_some_iff, Option.some.injEq] at h
    obtain ⟨x, hx, _, rfl, rfl⟩ := h
    exact ⟨x, rfl, hx⟩
  · cases h
theorem open_bools {r : Reach} {b0 : Nat} {v : Value} {d : DataW H} {p : List MemPlace} (hv : Value.okWide Try.prog W r b0 38 v) (h : DataW.Trod enc Try.prog W base (fun _ => true) held 38 v d p) :
    ∃ a len cap, v = .slice a len cap ∧ BoolRow W a len := by
  obtain ⟨a, len, cap, rfl⟩ := okWide_slice Try.underlying38 hv
  obtain ⟨fuel, hf⟩ := h
  rcases DataW.trod_slice Try.underlying38 hf with ⟨hcs, _⟩ | ⟨y, l, c, elems, rest, n, _, hcs, hx, _, hl, _, hel, hat, _, _⟩
  · simp [Value.cells] at hcs
    obtain ⟨rfl, rfl, rfl⟩ := hcs
    exact ⟨none, 0, 0, rfl, fun i hi => absurd hi (by omega)⟩
  · simp [Value.cells] at hcs
    obtain ⟨rfl, rfl, rfl⟩ := hcs
    refine ⟨some y, len, cap, rfl, fun i hi => ?_⟩
    have hi2 := hat i hi
    rw [cBool] at hi2
    have hei : elems[i]? = some (elems[i]'(by omega)) := List.getElem?_eq_getElem (by omega)
    rw [hei, Option.bind_eq_some_iff] at hi2
    obtain ⟨cs, hcs, htr⟩ := hi2
    obtain ⟨x0, rfl, hx0⟩ := cells1 hcs
    obtain ⟨tk, e0, _⟩ := DataW.trod_bool Try.underlying4 htr
    cases e0
    obtain ⟨b, off, spot⟩ := y
    have hspot : spot = none := by
      have hi0 := hat 0 (by omega)
      rw [cBool, List.getElem?_eq_getElem (show 0 < elems.length by omega), Option.bind_eq_some_iff] at hi0
      obtain ⟨cs0, hcs0, _⟩ := hi0
      obtain ⟨z0, _, hz0⟩ := cells1 hcs0
      simpa [Addr.add] using World.cell?_spot hz0
    subst hspot
    rw [addr_add, addr_add, Nat.mul_one, Nat.add_zero] at hx0
    exact ⟨b, off, tk, rfl, cell_lt hx0, hx0⟩
theorem open_dosR {r : Reach} {b0 : Nat} {v : Value} {d : DataW H} {p : List MemPlace} (hv : Value.okWide Try.prog W r b0 22 v) (h : DataW.Trod enc Try.prog W base (fun _ => true) held 22 v d p) :
    ∃ a len cap, v = .slice a len cap ∧ DoRow W a len := by
  obtain ⟨a, len, cap, rfl⟩ := okWide_slice Try.underlying22 hv
  obtain ⟨fuel, hf⟩ := h
  rcases DataW.trod_slice Try.underlying22 hf with ⟨hcs, _⟩ | ⟨y, l, c, elems, rest, n, _, hcs, hx, _, hl, _, hel, hat, _, _⟩
  · simp [Value.cells] at hcs
    obtain ⟨rfl, rfl, rfl⟩ := hcs
    exact ⟨none, 0, 0, rfl, fun i hi => absurd hi (by omega)⟩
  · simp [Value.cells] at hcs
    obtain ⟨rfl, rfl, rfl⟩ := hcs
    refine ⟨some y, len, cap, rfl, fun i hi => ?_⟩
    have hi2 := hat i hi
    rw [cDo] at hi2
    have hei : elems[i]? = some (elems[i]'(by omega)) := List.getElem?_eq_getElem (by omega)
    rw [hei, Option.bind_eq_some_iff] at hi2
    obtain ⟨cs, hcs, htr⟩ := hi2
    obtain ⟨x0, x1, rfl, hx0, hx1⟩ := cells2 hcs
    obtain ⟨y0, y1, n1, hy, _, t0, t1⟩ := trod_struct2 Try.underlying32 htr
    have t0' : DataW.trod enc Try.prog W base (fun _ => true) held n1 4 [x0] = some y0 := by
      have := t0; simp only [cBool, List.drop_zero, List.take_succ_cons, List.take_zero] at this; exact this
    have t1' : DataW.trod enc Try.prog W base (fun _ => true) held n1 3 [x1] = some y1 := by
      have := t1; simp only [cInt, List.drop_succ_cons, List.drop_zero, List.take_succ_cons, List.take_zero] at this; exact this
    obtain ⟨tk, e0, _⟩ := DataW.trod_bool Try.underlying4 t0'
    obtain ⟨x, e1, _, _⟩ := DataW.trod_int Try.underlying3 t1'
    cases e0
    cases e1
    obtain ⟨b, off, spot⟩ := y
    have hspot : spot = none := by
      have hi0 := hat 0 (by omega)
      rw [cDo, List.getElem?_eq_getElem (show 0 < elems.length by omega), Option.bind_eq_some_iff] at hi0
      obtain ⟨cs0, hcs0, _⟩ := hi0
      obtain ⟨z0, _, _, hz0, _⟩ := cells2 hcs0
      simpa [Addr.add] using World.cell?_spot hz0
    subst hspot
    rw [addr_add, addr_add] at hx0 hx1
    rw [Nat.add_zero] at hx0
    exact ⟨b, off, tk, x, rfl, cell_lt hx0, hx0, hx1⟩
end
end Go.Proofs.Ytdoplmanpbeffaa
