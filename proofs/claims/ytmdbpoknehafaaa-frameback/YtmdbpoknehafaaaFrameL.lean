/-
  Lists of lists of bytes that are handed in, opened.
-/
import Derived.Test.YtmdbpoknehafaaaFrame
import Derived.Deep.Strs
namespace Go.Proofs.Ytmdbpoknehafaaa
open Go.ChangeShapes Go.WideShapes Go.ChangeAt Go.RowKit
theorem c27 : Try.prog.cellsOf 27 = 1 := by kernel_rfl
theorem b27 : Try.prog.bytesOf 27 = 24 := by kernel_rfl
theorem list_of {P : Nat → List Int → Prop} (n : Nat) (h : ∀ i, i < n → ∃ z, P i z) : ∃ fs : List (List Int), fs.length = n ∧ ∀ i, i < n → P i (fs.getD i []) := by
  induction n with
  | zero => exact ⟨[], rfl, fun i hi => absurd hi (by omega)⟩
  | succ n ih =>
    obtain ⟨fs, h1, h2⟩ := ih (fun i hi => h i (by omega))
    obtain ⟨z, hz⟩ := h n (by omega)
    refine ⟨fs ++ [z], by simp [h1], fun i hi => ?_⟩
    by_cases e : i < n
    · have e2 : (fs ++ [z]).getD i [] = fs.getD i [] := by simp [List.getD_eq_getElem?_getD, List.getElem?_append_left (show i < fs.length by omega)]
      rw [e2]; exact h2 i e
    · obtain rfl : i = n := by omega
      have e2 : (fs ++ [z]).getD i [] = z := by simp [List.getD_eq_getElem?_getD, ← h1]
      rw [e2]; exact hz
section
variable {H : Type} {enc : TypeId × Value → H} {W : World} {base : Nat} {held : Bool}
theorem weights_all {P : Program} {e : TypeId} {l : List (DataW H)} {d : DataW H} (h : d ∈ l) : ∀ n ∈ d.weights P e, n ∈ DataW.weightsAll P e l := by
  induction l with
  | nil => cases h
  | cons y r ih =>
    intro n hn
    simp only [DataW.weightsAll, List.mem_append]
    rcases List.mem_cons.1 h with rfl | h
    · exact .inl hn
    · exact .inr (ih h n hn)
theorem addr_add (b off i : Nat) : (⟨b, off, none⟩ : Addr).add i = ⟨b, off + i, none⟩ := by
  by_cases h0 : i = 0
  · subst h0; simp [Addr.add]
  · simp [Addr.add, h0]
theorem open_b {fuel : Nat} {cs : List Value} {x : DataW H × List MemPlace} (hf : DataW.trod enc Try.prog W base (fun _ => true) held fuel 27 cs = some x) :
    ∃ a len cap zs, cs = [.slice a len cap] ∧ Row W a len zs ∧ (a = none → len = 0 ∧ cap = 0) ∧ Shape x.1 len ∧ len ≤ cap := by
  rcases open_ints Try.underlying27 Try.underlying5 c5 hf with ⟨hcs, _⟩ | ⟨y, len, cap, zs, hcs, _, hl, hm, hz, hx, hcell, hwz⟩
  · exact ⟨none, 0, 0, [], hcs, Row.nil _ _, fun _ => ⟨rfl, rfl⟩, .inl rfl, Nat.le_refl _⟩
  · have hz' : zs.length = cap := by simpa using hz
    refine ⟨some y, len, cap, zs.take len, hcs, ⟨by rw [List.length_take]; omega, fun z hz => ?_, fun i hi => ?_⟩, (fun h => by cases h), .inr ⟨_, _, congrArg Prod.fst hx, by simp [lits]; omega⟩, hl⟩
    · exact bounds_u8 (hwz z (List.mem_of_mem_take hz))
    · have hc := hcell i (by omega)
      have hd := hcell 0 (by omega)
      obtain ⟨b, off, spot⟩ := y
      have hspot : spot = none := by simpa [Addr.add] using World.cell?_spot hd
      subst hspot
      have hc0 : W.cell? ⟨b, off + i, none⟩ = some (.int .u8 (zs.getD i 0)) := by rw [← addr_add]; exact hc
      have hlt : b < W.heap.size := by
        rcases Nat.lt_or_ge b W.heap.size with h' | h'
        · exact h'
        · unfold World.cell? at hc0
          simp [Array.getElem?_eq_none h'] at hc0
      exact ⟨b, off, rfl, hlt, by rw [hc0, getD_take zs hi]⟩
theorem cells1 {a : Addr} {cs : List Value} (h : W.cells? base a 1 = some cs) : ∃ x, cs = [x] ∧ W.cell? (a.add 0) = some x := by
  unfold World.cells? at h
  split at h
  · have e : List.range 1 = [0] := by decide
    rw [e] at h
    simp only [List.mapM_cons, List.mapM_nil, Option.pure_def, Option.bind_eq_bind, Option.bind_eq_some_iff, Option.some.injEq] at h
    obtain ⟨x, hx, _, rfl, rfl⟩ := h
    exact ⟨x, rfl, hx⟩
  · cases h
theorem open_lists {K : Nat} (hK : K ≤ 140737488355328) {r : Reach} {b0 : Nat} {v : Value} {d : DataW H} {p : List MemPlace} (hin : ∀ es sp, d = .slice es sp → ∀ y ∈ es, ∀ len, Shape y len → len ≤ K) (hv : Value.okWide Try.prog W r b0 22 v) (h : DataW.Trod enc Try.prog W base (fun _ => true) held 22 v d p) :
    ∃ a len cap fs, v = .slice a len cap ∧ Lst W a len fs ∧ (∀ f ∈ fs, f.length ≤ K) ∧ Shape d len := by
  obtain ⟨a, len, cap, rfl⟩ := okWide_slice Try.underlying22 hv
  obtain ⟨fuel, hf⟩ := h
  rcases DataW.trod_slice Try.underlying22 hf with ⟨hcs, _⟩ | ⟨y, l, c, elems, rest, n, _, hcs, hx, _, hl, _, hel, hat, _, _⟩
  · simp [Value.cells] at hcs
    obtain ⟨rfl, rfl, rfl⟩ := hcs
    exact ⟨none, 0, 0, [], rfl, ⟨rfl, fun i hi => absurd hi (by omega)⟩, (fun f hf => by cases hf), .inl rfl⟩
  · simp [Value.cells] at hcs
    obtain ⟨rfl, rfl, rfl⟩ := hcs
    have hdx : d = .slice (elems.map (·.1)) (rest.map (·.1)) := congrArg Prod.fst hx
    subst hdx
    have main : ∀ i, i < len → ∃ z : List Int, z.length ≤ K ∧ ∃ b off v, some y = some ⟨b, off, none⟩ ∧ b < W.heap.size ∧ W.cell? ⟨b, off + i, none⟩ = some v ∧ RowB W v z := fun i hi => by
      have hi2 := hat i hi
      rw [c27] at hi2
      have hei : elems[i]? = some (elems[i]'(by omega)) := List.getElem?_eq_getElem (by omega)
      rw [hei, Option.bind_eq_some_iff] at hi2
      obtain ⟨cs, hcs, htr⟩ := hi2
      obtain ⟨x0, rfl, hx0⟩ := cells1 hcs
      obtain ⟨ab, nb, cb, bs, e2, rb, ob, sb, ub⟩ := open_b htr
      cases e2
      obtain ⟨b, off, spot⟩ := y
      have hspot : spot = none := by
        have hi0 := hat 0 (by omega)
        rw [c27, List.getElem?_eq_getElem (show 0 < elems.length by omega), Option.bind_eq_some_iff] at hi0
        obtain ⟨cs0, hcs0, _⟩ := hi0
        obtain ⟨z0, _, hz0⟩ := cells1 hcs0
        simpa [Addr.add] using World.cell?_spot hz0
      subst hspot
      rw [Nat.mul_one] at hx0
      rw [addr_add, addr_add] at hx0
      have hlt : b < W.heap.size := by
        rcases Nat.lt_or_ge b W.heap.size with h' | h'
        · exact h'
        · unfold World.cell? at hx0
          simp [Array.getElem?_eq_none h'] at hx0
      have hnb : nb ≤ K := hin _ _ rfl (elems[i]'(by omega)).1 (List.mem_map.2 ⟨elems[i]'(by omega), List.getElem_mem _, rfl⟩) nb sb
      have hbl := rb.1
      refine ⟨bs, by omega, b, off, _, rfl, hlt, hx0, ab, cb, by rw [hbl], by rw [hbl]; exact rb, by rw [hbl]; exact ob, by omega, by omega⟩
    obtain ⟨fs, f1, f2⟩ := list_of len main
    refine ⟨some y, len, cap, fs, rfl, ⟨f1, fun i hi => (f2 i hi).2⟩, fun f hf => ?_, .inr ⟨_, _, rfl, by rw [List.length_map]; exact hel⟩⟩
    obtain ⟨i, hi, rfl⟩ := List.mem_iff_getElem.1 hf
    have := (f2 i (by omega)).1
    simp only [List.getD_eq_getElem?_getD, List.getElem?_eq_getElem hi, Option.getD_some] at this
    exact this
end
end Go.Proofs.Ytmdbpoknehafaaa
