/-
  What is handed in to the statements of layer 17, opened: a past (channels, rows of readings) with the bounds of its lists; a list of readings.
-/
import Derived.Test.YthgmjeljjladhaaFrameO
namespace Go.Proofs.Ythgmjeljjladhaa
open Go.ChangeShapes Go.WideShapes Go.ChangeAt Go.RowKit
set_option maxRecDepth 100000
section
variable {H : Type} {enc : TypeId × Value → H} {W : World} {base : Nat} {sp : Nat → Bool} {held : Bool}
/-- A slice whose elements lie in cells, opened; D: what is known of the elements' data. -/
theorem open_growD {β : Type} (E : Enc β) {e T : TypeId} (hT : Try.prog.underlying T = some (.slice e)) (hk : Try.prog.cellsOf e = E.k) (D : DataW H → Prop) (P : β → Prop) (hel : ∀ {fuel : Nat} {cs : List Value} {y : DataW H × List MemPlace}, DataW.trod enc Try.prog W base sp held fuel e cs = some y → cs.length = E.k → D y.1 → ∃ x, cs = E.enc x ∧ P x)
    {fuel : Nat} {v : Value} {y : DataW H × List MemPlace} (h : DataW.trod enc Try.prog W base sp held fuel T [v] = some y) (hD : ∀ es rest, y.1 = .slice es rest → ∀ d ∈ es, D d) :
    ∃ a len cap xs, v = .slice a len cap ∧ GRow E W a len xs ∧ (a = none → len = 0 ∧ cap = 0) ∧ (∀ x ∈ xs, P x) ∧ len ≤ cap ∧ (y.1 = .nil ∧ len = 0 ∨ ∃ es rest, y.1 = .slice es rest ∧ es.length = len) := by
  rcases DataW.trod_slice hT h with ⟨hcs, hy⟩ | ⟨a, l, c, elems, rest, n, _, hcs, hx, _, hl, _, hel', hat, _, _⟩
  · simp at hcs
    subst hcs
    exact ⟨none, 0, 0, [], rfl, GRow.nil E W none, fun _ => ⟨rfl, rfl⟩, (fun x hx => by cases hx), Nat.le_refl _, .inl ⟨by rw [hy], rfl⟩⟩
  · simp at hcs
    subst hcs
    have hpos := E.pos
    have hy1 : y.1 = .slice (elems.map (·.1)) (rest.map (·.1)) := by rw [hx]
    have each : ∀ i, i < l → ∃ o : β, P o ∧ ∃ b off, a = ⟨b, off, none⟩ ∧ b < W.heap.size ∧ ∀ j v, (E.enc o)[j]? = some v → W.cell? ⟨b, off + i * E.k + j, none⟩ = some v := by
      intro i hi
      have hi2 := hat i hi
      rw [hk] at hi2
      have hei : elems[i]? = some (elems[i]'(by omega)) := List.getElem?_eq_getElem (by omega)
      rw [hei, Option.bind_eq_some_iff] at hi2
      obtain ⟨cs, hcs, htr⟩ := hi2
      obtain ⟨_, hlen, hcell⟩ := World.cells?_some hcs
      obtain ⟨o, ho, hP⟩ := hel htr hlen (hD _ _ hy1 _ (List.mem_map.2 ⟨_, List.getElem_mem _, rfl⟩))
      obtain ⟨b, off, spot⟩ := a
      have hspot : spot = none := by
        have hi0 := hat 0 (by omega)
        rw [hk, List.getElem?_eq_getElem (show 0 < elems.length by omega), Option.bind_eq_some_iff] at hi0
        obtain ⟨cs0, hcs0, _⟩ := hi0
        obtain ⟨_, hl0, hc0⟩ := World.cells?_some hcs0
        have h0 := hc0 0 hpos
        rw [List.getElem?_eq_getElem (show 0 < cs0.length by omega)] at h0
        simpa [Addr.add] using World.cell?_spot h0
      subst hspot
      have hce : ∀ j v, (E.enc o)[j]? = some v → W.cell? ⟨b, off + i * E.k + j, none⟩ = some v := by
        intro j v hj
        have hjk : j < E.k := by
          rcases Nat.lt_or_ge j E.k with h' | h'
          · exact h'
          · rw [List.getElem?_eq_none (by rw [E.len]; exact h')] at hj; cases hj
        have := hcell j hjk
        rw [add_off, add_off, ho, hj] at this
        exact this
      have h1 : (E.enc o)[0]? = some ((E.enc o)[0]'(by rw [E.len]; exact hpos)) := List.getElem?_eq_getElem _
      exact ⟨o, hP, b, off, rfl, cell_lt (hce 0 _ h1), hce⟩
    obtain ⟨xs, hxl, hq⟩ := list_of l each
    refine ⟨some a, l, c, xs, rfl, ⟨hxl, fun i hi => ?_⟩, (fun h => by cases h), fun x hx => ?_, by omega, .inr ⟨elems.map (·.1), rest.map (·.1), hy1, by simp [hel']⟩⟩
    · obtain ⟨_, b, off, e1, hlt, hc⟩ := hq i xs[i] (by simp [hxl, hi])
      exact ⟨b, off, xs[i], by rw [e1], hlt, by simp [hxl, hi], hc⟩
    · obtain ⟨i, hi, rfl⟩ := List.getElem_of_mem hx
      exact (hq i xs[i] (List.getElem?_eq_getElem hi)).1
theorem weights_all {P : Program} {e : TypeId} : ∀ {es : List (DataW H)} {d : DataW H}, d ∈ es → ∀ n ∈ d.weights P e, n ∈ DataW.weightsAll P e es
  | x :: es, d, h, n, hn => by
    simp only [DataW.weightsAll, List.mem_append]
    rcases List.mem_cons.1 h with rfl | h
    · exact .inl hn
    · exact .inr (weights_all h n hn)
/-- All that a datum weighs is within reach. -/
def Within (t : TypeId) (d : DataW H) : Prop := ∀ n ∈ d.weights Try.prog t, n ≤ reachBytes
theorem within_of {ts : List TypeId} {ds : List (DataW H)} {d : DataW H} {t : TypeId} (h : (DataW.weightsEach Try.prog ts ds).all (· ≤ reachBytes) = true) (j : Nat) (ht : ts[j]? = some t) (hd : ds[j]? = some d) : Within t d := fun n hn => by
  have := List.all_eq_true.1 h _ (DataW.weights_mem_each ht hd n hn)
  simpa using this
/-- How long a list is whose datum is within reach. -/
theorem within_len {e T : TypeId} (hT : Try.prog.underlying T = some (.slice e)) {d : DataW H} {len : Nat} (hw : Within T d) (hs : d = .nil ∧ len = 0 ∨ ∃ es rest, d = .slice es rest ∧ es.length = len) : len * Try.prog.bytesOf e ≤ reachBytes := by
  rcases hs with ⟨rfl, rfl⟩ | ⟨es, rest, rfl, rfl⟩
  · rw [Nat.zero_mul]; exact Nat.zero_le _
  · have := hw ((es.length + rest.length) * Try.prog.bytesOf e) (by simp [DataW.weights, hT])
    exact Nat.le_trans (Nat.mul_le_mul_right _ (Nat.le_add_right _ _)) this
theorem within_el {e T : TypeId} (hT : Try.prog.underlying T = some (.slice e)) {es rest : List (DataW H)} (hw : Within T (.slice es rest)) : ∀ d ∈ es, Within e d := fun d hd n hn => hw n (by
  simp only [DataW.weights, hT, List.mem_cons, List.mem_append]
  exact .inr (.inl (weights_all hd n hn)))
theorem bChannel : Try.prog.bytesOf 42 = 56 := by kernel_rfl
theorem bReading : Try.prog.bytesOf 48 = 16 := by kernel_rfl
theorem bRow : Try.prog.bytesOf 43 = 24 := by kernel_rfl
theorem cPast17 : Try.prog.cellsOf 26 = 2 := by kernel_rfl
theorem el_rowD {fuel : Nat} {cs : List Value} {y : DataW H × List MemPlace} (h : DataW.trod enc Try.prog W base sp held fuel 43 cs = some y) (hl : cs.length = 1) (hw : Within 43 y.1) : ∃ x : Tr, cs = trE.enc x ∧ x.In W ∧ x.l.length * 16 ≤ 140737488355328 := by
  match cs, hl with
  | [x0], _ =>
    obtain ⟨a, len, cap, xs, rfl, hr, hn, _, hs⟩ := open_grow rdE Try.underlying43 cReading (fun _ => True) (fun h hl => el_reading h hl) h
    have hb := within_len Try.underlying43 hw hs
    rw [bReading] at hb
    refine ⟨⟨a, len, cap, xs⟩, rfl, ⟨hr, hn⟩, ?_⟩
    rw [hr.1]
    simp only [reachBytes] at hb
    omega
theorem open_past17 {r : Reach} {b0 : Nat} {v : Value} {d : DataW H} {p : List MemPlace} (hv : Value.okWide Try.prog W r b0 26 v) (h : DataW.Trod enc Try.prog W base sp held 26 v d p) (hw : Within 26 d) :
    ∃ ac nc cc aT nt ct C X, v = .agg #[.slice ac nc cc, .slice aT nt ct] ∧ CRow W ac nc C ∧ (ac = none → nc = 0 ∧ cc = 0) ∧ TRow W aT nt X ∧ (aT = none → nt = 0 ∧ ct = 0) ∧ nt ≤ ct ∧ nt ≤ 140737488355328 ∧ nc * 56 ≤ 140737488355328 ∧ ∀ x ∈ X, x.l.length * 16 ≤ 140737488355328 := by
  obtain ⟨v0, v1, y0, y1, n, rfl, rfl, _, h0, h1⟩ := _root_.Go.Joins.open_agg2 Try.underlying26 (by kernel_rfl) cPast17 hv h
  have w0 : Within 23 y0.1 := fun n hn => hw n (by simp [DataW.weights, DataW.weightsEach, Try.underlying26, hn])
  have w1 : Within 24 y1.1 := fun n hn => hw n (by simp [DataW.weights, DataW.weightsEach, Try.underlying26, hn])
  obtain ⟨ac, nc, cc, C, rfl, hr, hn, _, hs⟩ := open_grow chE Try.underlying23 cChannel (fun _ => True) (fun h hl => el_channel h hl) h0
  obtain ⟨aT, nt, ct, X, rfl, hr2, hn2, hP, hle, hs2⟩ := open_growD trE Try.underlying24 cRow (Within 43) (fun x : Tr => x.In W ∧ x.l.length * 16 ≤ 140737488355328) (fun h hl hd => el_rowD h hl hd) h1 (fun es rest e => by rw [e] at w1; exact within_el Try.underlying24 w1)
  have b0 := within_len Try.underlying23 w0 hs
  have b1 := within_len Try.underlying24 w1 hs2
  rw [bChannel] at b0
  rw [bRow] at b1
  simp only [reachBytes] at b0 b1
  exact ⟨ac, nc, cc, aT, nt, ct, C, X, rfl, hr, hn, ⟨hr2, fun x hx => (hP x hx).1⟩, hn2, hle, by omega, by omega, fun x hx => (hP x hx).2⟩
theorem open_reads {r : Reach} {b0 : Nat} {v : Value} {d : DataW H} {p : List MemPlace} (hv : Value.okWide Try.prog W r b0 43 v) (h : DataW.Trod enc Try.prog W base sp held 43 v d p) :
    ∃ a len cap Y, v = .slice a len cap ∧ DRow W a len Y := by
  obtain ⟨a, len, cap, rfl⟩ := okWide_slice Try.underlying43 hv
  obtain ⟨fuel, hf⟩ := h
  have hf' : DataW.trod enc Try.prog W base sp held fuel 43 [.slice a len cap] = some (d, p) := by simpa [Value.cells] using hf
  obtain ⟨a', len', cap', xs, e, hr, hn, hP, hs⟩ := open_grow rdE Try.underlying43 cReading (fun _ => True) (fun h hl => el_reading h hl) hf'
  cases e
  exact ⟨a, len, cap, xs, rfl, hr⟩
end
end Go.Proofs.Ythgmjeljjladhaa
