/-
  Calls that are handed in, opened.
-/
import Derived.Test.YtojgkhinddjmaaaFrame
import Derived.Test.YtojgkhinddjmaaaDos
import Derived.Deep.Strs
namespace Go.Proofs.Ytojgkhinddjmaaa
open Go.ChangeShapes Go.WideShapes Go.ChangeAt Go.RowKit
theorem c48 : Try.prog.cellsOf 48 = 3 := by kernel_rfl
theorem b48 : Try.prog.bytesOf 48 = 40 := by kernel_rfl
theorem c22 : Try.prog.cellsOf 22 = 1 := by kernel_rfl
section
variable {H : Type} {enc : TypeId × Value → H} {W : World} {base : Nat} {held : Bool}
theorem weights_all {P : Program} {e : TypeId} {l : List (DataW H)} {d : DataW H} (h : d ∈ l) : ∀ n ∈ d.weights P e, n ∈ DataW.weightsAll P e l := by
  induction l with
  | nil => cases h
  | cons y r ih =>
    intro n hn
    simp only [DataW.weightsAll, List.mem_append]
    rcases List.mem_cons.1 h with rfl | h
    · exact .inl hn
    · exact .inr (ih h n hn)
theorem cells3 {a : Addr} {cs : List Value} (h : W.cells? base a 3 = some cs) : ∃ x y z, cs = [x, y, z] ∧ W.cell? (a.add 0) = some x ∧ W.cell? (a.add 1) = some y ∧ W.cell? (a.add 2) = some z := by
  unfold World.cells? at h
  split at h
  · have e : List.range 3 = [0, 1, 2] := by decide
    rw [e] at h
    simp only [List.mapM_cons, List.mapM_nil, Option.pure_def, Option.bind_eq_bind, Option.bind_eq_some_iff, Option.some.injEq] at h
    obtain ⟨x, hx, _, ⟨y, hy, _, ⟨z, hz, _, rfl, rfl⟩, rfl⟩, rfl⟩ := h
    exact ⟨x, y, z, rfl, hx, hy, hz⟩
  · cases h
theorem addr_add (b off i : Nat) : (⟨b, off, none⟩ : Addr).add i = ⟨b, off + i, none⟩ := by
  by_cases h0 : i = 0
  · subst h0; simp [Addr.add]
  · simp [Addr.add, h0]
theorem open_b {fuel : Nat} {cs : List Value} {x : DataW H × List MemPlace} (hf : DataW.trod enc Try.prog W base (fun _ => true) held fuel 22 cs = some x) :
    ∃ a len cap zs, cs = [.slice a len cap] ∧ Row W a len zs ∧ (a = none → len = 0 ∧ cap = 0) ∧ Shape x.1 len ∧ len ≤ cap := by
  rcases open_ints Try.underlying22 Try.underlying5 c5 hf with ⟨hcs, _⟩ | ⟨y, len, cap, zs, hcs, _, hl, hm, hz, hx, hcell, hwz⟩
  · exact ⟨none, 0, 0, [], hcs, Row.nil _ _, fun _ => ⟨rfl, rfl⟩, .inl rfl, Nat.le_refl _⟩
  · have hz' : zs.length = cap := by simpa using hz
    refine ⟨some y, len, cap, zs.take len, hcs, ⟨by rw [List.length_take]; omega, fun z hz => ?_, fun i hi => ?_⟩, (fun h => by cases h), .inr ⟨_, _, congrArg Prod.fst hx, by simp [lits]; omega⟩, hl⟩
    · exact bounds_u8 (hwz z (List.mem_of_mem_take hz))
    · have hc := hcell i (by omega)
      have hd := hcell 0 (by omega)
      obtain ⟨b, off, spot⟩ := y
      have hspot : spot = none := by simpa [Addr.add] using World.cell?_spot hd
      subst hspot
      have hc0 : W.cell? ⟨b, off + i, none⟩ = some (.int .u8 (zs.getD i 0)) := by rw [← addr_add]; exact hc
      have hlt : b < W.heap.size := by
        rcases Nat.lt_or_ge b W.heap.size with h' | h'
        · exact h'
        · unfold World.cell? at hc0
          simp [Array.getElem?_eq_none h'] at hc0
      exact ⟨b, off, rfl, hlt, by rw [hc0, getD_take zs hi]⟩
theorem open_dos {ts : List TypeId} {ds : List (DataW H)} (hsz : (DataW.weightsEach Try.prog ts ds).all (· ≤ reachBytes) = true) (j : Nat) {r : Reach} {b0 : Nat} {v : Value} {d : DataW H} {p : List MemPlace} (ht : ts[j]? = some 42) (hd : ds[j]? = some d) (hv : Value.okWide Try.prog W r b0 42 v) (h : DataW.Trod enc Try.prog W base (fun _ => true) held 42 v d p) :
    ∃ a len cap, v = .slice a len cap ∧ len ≤ 140737488355328 ∧ Dos W a len := by
  obtain ⟨a, len, cap, rfl⟩ := okWide_slice Try.underlying42 hv
  obtain ⟨fuel, hf⟩ := h
  rcases DataW.trod_slice Try.underlying42 hf with ⟨hcs, _⟩ | ⟨y, l, c, elems, rest, n, _, hcs, hx, _, hl, _, hel, hat, _, _⟩
  · simp [Value.cells] at hcs
    obtain ⟨rfl, rfl, rfl⟩ := hcs
    exact ⟨none, 0, 0, rfl, by omega, fun i hi => absurd hi (by omega)⟩
  · simp [Value.cells] at hcs
    obtain ⟨rfl, rfl, rfl⟩ := hcs
    have hdx : d = .slice (elems.map (·.1)) (rest.map (·.1)) := congrArg Prod.fst hx
    subst hdx
    refine ⟨some y, len, cap, rfl, ?_, fun i hi => ?_⟩
    · have := sized_slice hsz ht hd Try.underlying42
      rw [b48, List.length_map, List.length_map] at this
      simp only [reachBytes] at this
      omega
    · have hi2 := hat i hi
      rw [c48] at hi2
      have hei : elems[i]? = some (elems[i]'(by omega)) := List.getElem?_eq_getElem (by omega)
      rw [hei, Option.bind_eq_some_iff] at hi2
      obtain ⟨cs, hcs, htr⟩ := hi2
      obtain ⟨x0, x1, x2, rfl, hx0, hx1, hx2⟩ := cells3 hcs
      obtain ⟨y0, y1, y2, n1, hy, _, t0, t1, t2⟩ := Go.Deep.trod_struct3 Try.underlying48 htr
      have t0' : DataW.trod enc Try.prog W base (fun _ => true) held n1 3 [x0] = some y0 := by
        have := t0; simp only [c3, List.drop_zero, List.take_succ_cons, List.take_zero] at this; exact this
      have t1' : DataW.trod enc Try.prog W base (fun _ => true) held n1 3 [x1] = some y1 := by
        have := t1; simp only [c3, List.drop_succ_cons, List.drop_zero, List.take_succ_cons, List.take_zero] at this; exact this
      have t2' : DataW.trod enc Try.prog W base (fun _ => true) held n1 22 [x2] = some y2 := by
        have := t2; simp only [c22, List.drop_succ_cons, List.drop_zero, List.take_succ_cons, List.take_zero] at this; exact this
      obtain ⟨kd, e0, _, f0⟩ := DataW.trod_int Try.underlying3 t0'
      obtain ⟨x, e1, _, f1⟩ := DataW.trod_int Try.underlying3 t1'
      obtain ⟨ab, nb, cb, bs, e2, rb, ob, sb, ub⟩ := open_b t2'
      cases e0
      cases e1
      cases e2
      obtain ⟨b, off, spot⟩ := y
      have hspot : spot = none := by
        have hi0 := hat 0 (by omega)
        rw [c48, List.getElem?_eq_getElem (show 0 < elems.length by omega), Option.bind_eq_some_iff] at hi0
        obtain ⟨cs0, hcs0, _⟩ := hi0
        obtain ⟨z0, _, _, _, hz0, _⟩ := cells3 hcs0
        simpa [Addr.add] using World.cell?_spot hz0
      subst hspot
      rw [addr_add, addr_add] at hx0 hx1 hx2
      have hlt : b < W.heap.size := by
        rcases Nat.lt_or_ge b W.heap.size with h' | h'
        · exact h'
        · unfold World.cell? at hx0
          simp [Array.getElem?_eq_none h'] at hx0
      have hnb : nb ≤ 140737488355328 := by
        rcases sb with rfl | ⟨es, sp, ey, rfl⟩
        · omega
        · have hm : (es.length + sp.length) * Try.prog.bytesOf 5 ∈ (elems[i]'(by omega)).1.weights Try.prog 48 := by
            rw [hy]
            simp [DataW.weights, DataW.weightsEach, Try.underlying48, Try.underlying22, ey]
          have hm2 := weights_all (P := Try.prog) (e := 48) (l := elems.map (·.1)) (List.mem_map.2 ⟨elems[i]'(by omega), List.getElem_mem _, rfl⟩) _ hm
          have := List.all_eq_true.1 hsz _ (DataW.weights_mem_each ht hd _ (show (es.length + sp.length) * Try.prog.bytesOf 5 ∈ _ by
            simp only [DataW.weights, Try.underlying42, List.mem_cons, List.mem_append]
            exact .inr (.inl hm2)))
          have h3 : (es.length + sp.length) * Try.prog.bytesOf 5 ≤ reachBytes := by simpa using this
          rw [b5] at h3
          simp only [reachBytes] at h3
          omega
      have g0 := bounds_i64 f0
      have g1 := bounds_i64 f1
      refine ⟨b, off, kd, x, ab, nb, cb, bs, rfl, hlt, hx0, hx1, hx2, rb, ob, hnb, ub, fun y hy h0 => ?_, g0.1, g0.2, g1.1, g1.2⟩
      obtain ⟨b', off', e', hb', _⟩ := rb.2.2 0 h0
      rw [hy] at e'
      cases e'
      exact hb'
end
end Go.Proofs.Ytojgkhinddjmaaa
