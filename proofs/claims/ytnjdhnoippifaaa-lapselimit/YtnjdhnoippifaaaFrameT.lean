/-
  What is handed in to the statements of this seat, opened: an int; lists of steps, with their bounds.
-/
import Derived.Test.YtnjdhnoippifaaaLpM
import Derived.ProofKit
import Derived.OpenShut
import Derived.ChangeOld
import Derived.Below
import Derived.SizedLaws
import Derived.Deep.Strs
namespace Go.Proofs.Ytnjdhnoippifaaa
open Go.ChangeShapes Go.WideShapes Go.ChangeAt Go.RowKit
set_option maxRecDepth 100000
theorem own : ownKnob Try.prog.godebug = none := by kernel_rfl
theorem laidOut : laidOutB Try.prog = true := by kernel_rfl
theorem cInt : Try.prog.cellsOf 3 = 1 := by kernel_rfl
theorem cBool : Try.prog.cellsOf 4 = 1 := by kernel_rfl
theorem cStep : Try.prog.cellsOf 31 = 3 := by kernel_rfl
theorem bStep : Try.prog.bytesOf 31 = 16 := by kernel_rfl
theorem list_of {α : Type} {Q : Nat → α → Prop} : ∀ n : Nat, (∀ i, i < n → ∃ o, Q i o) → ∃ l : List α, l.length = n ∧ ∀ i o, l[i]? = some o → Q i o
  | 0, _ => ⟨[], rfl, fun i o h => by simp at h⟩
  | n + 1, h => by
    obtain ⟨l, hl, hq⟩ := list_of n (fun i hi => h i (by omega))
    obtain ⟨o, ho⟩ := h n (by omega)
    refine ⟨l ++ [o], by simp [hl], fun i x hx => ?_⟩
    by_cases hi : i < n
    · rw [List.getElem?_append_left (by omega)] at hx
      exact hq i x hx
    · rw [List.getElem?_append_right (by omega)] at hx
      have : i - l.length = 0 := by
        rcases Nat.eq_zero_or_pos (i - l.length) with h | h
        · exact h
        · rw [List.getElem?_eq_none (by simp; omega)] at hx; cases hx
      rw [this] at hx
      have e : i = n := by omega
      subst e
      cases hx
      exact ho
section
variable {H : Type} {enc : TypeId × Value → H} {W : World} {base : Nat} {held : Bool}
/-- How long what is handed in is, by what it reads as. -/
def Shape (d : DataW H) (len : Nat) : Prop := len = 0 ∨ ∃ es sp, d = .slice es sp ∧ es.length = len
theorem threeCells {a : Addr} {cs : List Value} (h : W.cells? base a 3 = some cs) : ∃ x y z, cs = [x, y, z] ∧ W.cell? (a.add 0) = some x ∧ W.cell? (a.add 1) = some y ∧ W.cell? (a.add 2) = some z := by
  unfold World.cells? at h
  split at h
  · have e : List.range 3 = [0, 1, 2] := by decide
    rw [e] at h
    simp only [List.mapM_cons, List.mapM_nil, Option.pure_def, Option.bind_eq_bind, Option.bind_eq_some_iff, Option.some.injEq] at h
    obtain ⟨x, hx, _, ⟨y, hy, _, ⟨z, hz, _, rfl, rfl⟩, rfl⟩, rfl⟩ := h
    exact ⟨x, y, z, rfl, hx, hy, hz⟩
  · cases h
theorem addr_add (b off i : Nat) : (⟨b, off, none⟩ : Addr).add i = ⟨b, off + i, none⟩ := by
  by_cases h0 : i = 0
  · subst h0; simp [Addr.add]
  · simp [Addr.add, h0]
theorem cell_lt {b off : Nat} {v : Value} (h : W.cell? ⟨b, off, none⟩ = some v) : b < W.heap.size := by
  rcases Nat.lt_or_ge b W.heap.size with h' | h'
  · exact h'
  · unfold World.cell? at h
    simp [Array.getElem?_eq_none h'] at h
theorem open_steps {r : Reach} {b0 : Nat} {v : Value} {d : DataW H} {p : List MemPlace} (hv : Value.okWide Try.prog W r b0 22 v) (h : DataW.Trod enc Try.prog W base (fun _ => true) held 22 v d p) :
    ∃ a len cap zs, v = .slice a len cap ∧ SRow W a len zs ∧ (∀ z ∈ zs, -9223372036854775808 ≤ z.tick ∧ z.tick ≤ 9223372036854775807) ∧ Shape d len := by
  obtain ⟨a, len, cap, rfl⟩ := okWide_slice Try.underlying22 hv
  obtain ⟨fuel, hf⟩ := h
  rcases DataW.trod_slice Try.underlying22 hf with ⟨hcs, _⟩ | ⟨y, l, c, elems, rest, n, _, hcs, hx, _, hl, _, hel, hat, _, _⟩
  · simp [Value.cells] at hcs
    obtain ⟨rfl, rfl, rfl⟩ := hcs
    exact ⟨none, 0, 0, [], rfl, SRow.nil W none, (fun z hz => by cases hz), .inl rfl⟩
  · simp [Value.cells] at hcs
    obtain ⟨rfl, rfl, rfl⟩ := hcs
    have each : ∀ i, i < len → ∃ o : Stp, ∃ b off, y = ⟨b, off, none⟩ ∧ b < W.heap.size ∧ W.cell? ⟨b, off + i * 3, none⟩ = some (.int .i64 o.tick) ∧ W.cell? ⟨b, off + i * 3 + 1, none⟩ = some (.bool o.off) ∧ W.cell? ⟨b, off + i * 3 + 2, none⟩ = some (.bool o.ask) ∧ -9223372036854775808 ≤ o.tick ∧ o.tick ≤ 9223372036854775807 := by
      intro i hi
      have hi2 := hat i hi
      rw [cStep] at hi2
      have hei : elems[i]? = some (elems[i]'(by omega)) := List.getElem?_eq_getElem (by omega)
      rw [hei, Option.bind_eq_some_iff] at hi2
      obtain ⟨cs, hcs, htr⟩ := hi2
      obtain ⟨x0, x1, x2, rfl, hx0, hx1, hx2⟩ := threeCells hcs
      obtain ⟨y0, y1, y2, n1, hy, _, t0, t1, t2⟩ := Go.Deep.trod_struct3 Try.underlying31 htr
      have t0' : DataW.trod enc Try.prog W base (fun _ => true) held n1 3 [x0] = some y0 := by
        have := t0; simp only [cInt, List.drop_zero, List.take_succ_cons, List.take_zero] at this; exact this
      have t1' : DataW.trod enc Try.prog W base (fun _ => true) held n1 4 [x1] = some y1 := by
        have := t1; simp only [cBool, List.drop_succ_cons, List.drop_zero, List.take_succ_cons, List.take_zero] at this; exact this
      have t2' : DataW.trod enc Try.prog W base (fun _ => true) held n1 4 [x2] = some y2 := by
        have := t2; simp only [cBool, List.drop_succ_cons, List.drop_zero, List.take_succ_cons, List.take_zero] at this; exact this
      obtain ⟨f0, e0, _, w0⟩ := DataW.trod_int Try.underlying3 t0'
      cases e0
      obtain ⟨f1, e1, _⟩ := DataW.trod_bool Try.underlying4 t1'
      cases e1
      obtain ⟨f2, e2, _⟩ := DataW.trod_bool Try.underlying4 t2'
      cases e2
      obtain ⟨b, off, spot⟩ := y
      have hspot : spot = none := by
        have hi0 := hat 0 (by omega)
        rw [cStep, List.getElem?_eq_getElem (show 0 < elems.length by omega), Option.bind_eq_some_iff] at hi0
        obtain ⟨cs0, hcs0, _⟩ := hi0
        obtain ⟨z0, _, _, _, hz0, _⟩ := threeCells hcs0
        simpa [Addr.add] using World.cell?_spot hz0
      subst hspot
      rw [addr_add, addr_add] at hx0 hx1 hx2
      rw [Nat.add_zero] at hx0
      exact ⟨(⟨f0, f1, f2⟩ : Stp), b, off, rfl, cell_lt hx0, hx0, hx1, hx2, (bounds_i64 w0).1, (bounds_i64 w0).2⟩
    obtain ⟨l, hll, hq⟩ := list_of len each
    refine ⟨some y, len, cap, l, rfl, ⟨hll, fun i hi => ?_⟩, fun z hz => ?_, .inr ⟨_, _, congrArg Prod.fst hx, by rw [List.length_map]; exact hel⟩⟩
    · have hi' : i < l.length := by omega
      obtain ⟨b, off, e, hlt, k0, k1, k2, _, _⟩ := hq i l[i] (List.getElem?_eq_getElem hi')
      exact ⟨b, off, l[i], by rw [e], hlt, List.getElem?_eq_getElem hi', k0, k1, k2⟩
    · obtain ⟨i, hi, rfl⟩ := List.getElem_of_mem hz
      obtain ⟨b, off, e, hlt, k0, k1, k2, k3, k4⟩ := hq i l[i] (List.getElem?_eq_getElem hi)
      exact ⟨k3, k4⟩
theorem sizedS {ts : List TypeId} {ds : List (DataW H)} {d : DataW H} {len : Nat} (h : (DataW.weightsEach Try.prog ts ds).all (· ≤ reachBytes) = true) (j : Nat) (ht : ts[j]? = some 22) (hd : ds[j]? = some d) (hs : Shape d len) : len ≤ 17592186043904 := by
  rcases hs with rfl | ⟨es, sp, rfl, rfl⟩
  · omega
  · have := sized_slice h ht hd Try.underlying22
    rw [bStep] at this
    simp only [reachBytes] at this
    omega
end
end Go.Proofs.Ytnjdhnoippifaaa
