/-
  What is handed in to the statements of this seat, opened: an int; a bool; a state; a vector; lists of states, of bools; bounds.
-/
import Derived.Test.YtaiagijepnaalaaLawTop19
import Derived.ProofKit
import Derived.OpenShut
import Derived.ChangeOld
import Derived.Below
import Derived.SizedLaws
import Derived.Deep.Strs
import Derived.Lib.SmallJoins
namespace Go.Proofs.Ytaiagijepnaalaa
open Go.ChangeShapes Go.WideShapes Go.ChangeAt Go.RowKit
set_option maxRecDepth 100000
theorem own : ownKnob Try.prog.godebug = none := by kernel_rfl
theorem laidOut : laidOutB Try.prog = true := by kernel_rfl
theorem cInt : Try.prog.cellsOf 3 = 1 := by kernel_rfl
theorem cBool : Try.prog.cellsOf 4 = 1 := by kernel_rfl
theorem cState : Try.prog.cellsOf 35 = 4 := by kernel_rfl
theorem bState : Try.prog.bytesOf 35 = 32 := by kernel_rfl
theorem cSignal : Try.prog.cellsOf 25 = 3 := by kernel_rfl
theorem cSgs : Try.prog.cellsOf 26 = 78 := by kernel_rfl
theorem cLks : Try.prog.cellsOf 27 = 4 := by kernel_rfl
theorem cVec : Try.prog.cellsOf 29 = 85 := by kernel_rfl
theorem list_of {β : Type} {Q : Nat → β → Prop} : ∀ n : Nat, (∀ i, i < n → ∃ o, Q i o) → ∃ l : List β, l.length = n ∧ ∀ i o, l[i]? = some o → Q i o
  | 0, _ => ⟨[], rfl, fun i o h => by simp at h⟩
  | n + 1, h => by
    obtain ⟨l, hl, hq⟩ := list_of n (fun i hi => h i (by omega))
    obtain ⟨o, ho⟩ := h n (by omega)
    refine ⟨l ++ [o], by simp [hl], fun i x hx => ?_⟩
    by_cases hi : i < n
    · rw [List.getElem?_append_left (by omega)] at hx
      exact hq i x hx
    · rw [List.getElem?_append_right (by omega)] at hx
      have : i - l.length = 0 := by
        rcases Nat.eq_zero_or_pos (i - l.length) with h | h
        · exact h
        · rw [List.getElem?_eq_none (by simp; omega)] at hx; cases hx
      rw [this] at hx
      have e : i = n := by omega
      subst e
      cases hx
      exact ho
section
variable {H : Type} {enc : TypeId × Value → H} {W : World} {base : Nat} {sp : Nat → Bool} {held : Bool}
theorem trod_i64 {fuel : Nat} {v : Value} {y : DataW H × List MemPlace} (h : DataW.trod enc Try.prog W base sp held fuel 3 [v] = some y) : ∃ n, v = .int .i64 n ∧ y = (.lit (.int .i64 n), []) ∧ (Lit.int .i64 n).wf = true := by
  cases fuel with
  | zero => simp [DataW.trod] at h
  | succ f =>
    simp only [DataW.trod, Try.underlying3] at h
    cases v <;> simp at h
    rename_i k n
    obtain ⟨⟨rfl, hw⟩, rfl⟩ := h
    exact ⟨n, rfl, rfl, hw⟩
theorem trod_flag {fuel : Nat} {v : Value} {y : DataW H × List MemPlace} (h : DataW.trod enc Try.prog W base sp held fuel 4 [v] = some y) : ∃ b, v = .bool b ∧ y = (.lit (.bool b), []) := by
  cases fuel with
  | zero => simp [DataW.trod] at h
  | succ f =>
    simp only [DataW.trod, Try.underlying4] at h
    cases v <;> simp at h
    rename_i b
    exact ⟨b, rfl, h.symm⟩
/-- A slice whose elements lie in cells, opened. -/
theorem open_grow {β : Type} (E : Enc β) {e T : TypeId} (hT : Try.prog.underlying T = some (.slice e)) (hk : Try.prog.cellsOf e = E.k) (P : β → Prop) (hel : ∀ {fuel : Nat} {cs : List Value} {y : DataW H × List MemPlace}, DataW.trod enc Try.prog W base sp held fuel e cs = some y → cs.length = E.k → ∃ x, cs = E.enc x ∧ P x)
    {fuel : Nat} {v : Value} {y : DataW H × List MemPlace} (h : DataW.trod enc Try.prog W base sp held fuel T [v] = some y) :
    ∃ a len cap xs, v = .slice a len cap ∧ GRow E W a len xs ∧ (a = none → len = 0 ∧ cap = 0) ∧ (∀ x ∈ xs, P x) ∧ (y.1 = .nil ∧ len = 0 ∨ ∃ es rest, y.1 = .slice es rest ∧ es.length = len) := by
  rcases DataW.trod_slice hT h with ⟨hcs, hy⟩ | ⟨a, l, c, elems, rest, n, _, hcs, hx, _, hl, _, hel', hat, _, _⟩
  · simp at hcs
    subst hcs
    exact ⟨none, 0, 0, [], rfl, GRow.nil E W none, fun _ => ⟨rfl, rfl⟩, (fun x hx => by cases hx), .inl ⟨by rw [hy], rfl⟩⟩
  · simp at hcs
    subst hcs
    have hpos := E.pos
    have each : ∀ i, i < l → ∃ o : β, P o ∧ ∃ b off, a = ⟨b, off, none⟩ ∧ b < W.heap.size ∧ ∀ j v, (E.enc o)[j]? = some v → W.cell? ⟨b, off + i * E.k + j, none⟩ = some v := by
      intro i hi
      have hi2 := hat i hi
      rw [hk] at hi2
      have hei : elems[i]? = some (elems[i]'(by omega)) := List.getElem?_eq_getElem (by omega)
      rw [hei, Option.bind_eq_some_iff] at hi2
      obtain ⟨cs, hcs, htr⟩ := hi2
      obtain ⟨_, hlen, hcell⟩ := World.cells?_some hcs
      obtain ⟨o, ho, hP⟩ := hel htr hlen
      obtain ⟨b, off, spot⟩ := a
      have hspot : spot = none := by
        have hi0 := hat 0 (by omega)
        rw [hk, List.getElem?_eq_getElem (show 0 < elems.length by omega), Option.bind_eq_some_iff] at hi0
        obtain ⟨cs0, hcs0, _⟩ := hi0
        obtain ⟨_, hl0, hc0⟩ := World.cells?_some hcs0
        have h0 := hc0 0 hpos
        rw [List.getElem?_eq_getElem (show 0 < cs0.length by omega)] at h0
        simpa [Addr.add] using World.cell?_spot h0
      subst hspot
      have hce : ∀ j v, (E.enc o)[j]? = some v → W.cell? ⟨b, off + i * E.k + j, none⟩ = some v := by
        intro j v hj
        have hjk : j < E.k := by
          rcases Nat.lt_or_ge j E.k with h' | h'
          · exact h'
          · rw [List.getElem?_eq_none (by rw [E.len]; exact h')] at hj; cases hj
        have := hcell j hjk
        rw [add_off, add_off, ho, hj] at this
        exact this
      have h1 : (E.enc o)[0]? = some ((E.enc o)[0]'(by rw [E.len]; exact hpos)) := List.getElem?_eq_getElem _
      exact ⟨o, hP, b, off, rfl, cell_lt (hce 0 _ h1), hce⟩
    obtain ⟨xs, hxl, hq⟩ := list_of l each
    refine ⟨some a, l, c, xs, rfl, ⟨hxl, fun i hi => ?_⟩, (fun h => by cases h), fun x hx => ?_, .inr ⟨elems.map (·.1), rest.map (·.1), by rw [hx], by simp [hel']⟩⟩
    · obtain ⟨_, b, off, e1, hlt, hc⟩ := hq i xs[i] (by simp [hxl, hi])
      exact ⟨b, off, xs[i], by rw [e1], hlt, by simp [hxl, hi], hc⟩
    · obtain ⟨i, hi, rfl⟩ := List.getElem_of_mem hx
      exact (hq i xs[i] (List.getElem?_eq_getElem hi)).1
theorem trod_struct5 {t : TypeId} {f0 f1 f2 f3 f4 : Field} {fuel : Nat} {cs : List Value} {x : DataW H × List MemPlace} (ht : Try.prog.underlying t = some (.struct #[f0, f1, f2, f3, f4])) (h : DataW.trod enc Try.prog W base sp held fuel t cs = some x) :
    ∃ y0 y1 y2 y3 y4 n, DataW.trod enc Try.prog W base sp held n f0.type ((cs.drop f0.offset).take (Try.prog.cellsOf f0.type)) = some y0 ∧ DataW.trod enc Try.prog W base sp held n f1.type ((cs.drop f1.offset).take (Try.prog.cellsOf f1.type)) = some y1 ∧ DataW.trod enc Try.prog W base sp held n f2.type ((cs.drop f2.offset).take (Try.prog.cellsOf f2.type)) = some y2 ∧ DataW.trod enc Try.prog W base sp held n f3.type ((cs.drop f3.offset).take (Try.prog.cellsOf f3.type)) = some y3 ∧ DataW.trod enc Try.prog W base sp held n f4.type ((cs.drop f4.offset).take (Try.prog.cellsOf f4.type)) = some y4 := by
  obtain ⟨xs, n, _, rfl, hl, hlen, hf⟩ := DataW.trod_struct ht h
  match xs, hlen with
  | [y0, y1, y2, y3, y4], _ => exact ⟨y0, y1, y2, y3, y4, n, by simpa using hf 0 f0 rfl, by simpa using hf 1 f1 rfl, by simpa using hf 2 f2 rfl, by simpa using hf 3 f3 rfl, by simpa using hf 4 f4 rfl⟩
theorem open_state {r : Reach} {b0 : Nat} {v : Value} {d : DataW H} {p : List MemPlace} (hv : Value.okWide Try.prog W r b0 35 v) (h : DataW.Trod enc Try.prog W base sp held 35 v d p) :
    ∃ k m e f, v = .agg #[.int .i64 k, .int .i64 m, .int .i64 e, .int .i64 f] ∧ d = .agg [.lit (.int .i64 k), .lit (.int .i64 m), .lit (.int .i64 e), .lit (.int .i64 f)] ∧ p = [] ∧ (Lit.int .i64 k).wf = true ∧ (Lit.int .i64 m).wf = true ∧ (Lit.int .i64 e).wf = true ∧ (Lit.int .i64 f).wf = true := by
  obtain ⟨v0, v1, v2, v3, y0, y1, y2, y3, n, rfl, rfl, rfl, h0, h1, h2, h3⟩ := _root_.Go.Joins.open_agg4 Try.underlying35 (by kernel_rfl) cState hv h
  obtain ⟨k, rfl, rfl, w0⟩ := trod_i64 h0
  obtain ⟨m, rfl, rfl, w1⟩ := trod_i64 h1
  obtain ⟨e, rfl, rfl, w2⟩ := trod_i64 h2
  obtain ⟨f, rfl, rfl, w3⟩ := trod_i64 h3
  exact ⟨k, m, e, f, rfl, rfl, rfl, w0, w1, w2, w3⟩
theorem shut_state {k m e f : Int} (w0 : (Lit.int .i64 k).wf = true) (w1 : (Lit.int .i64 m).wf = true) (w2 : (Lit.int .i64 e).wf = true) (w3 : (Lit.int .i64 f).wf = true) :
    DataW.Trod enc Try.prog W base sp held 35 (.agg #[.int .i64 k, .int .i64 m, .int .i64 e, .int .i64 f]) (.agg [.lit (.int .i64 k), .lit (.int .i64 m), .lit (.int .i64 e), .lit (.int .i64 f)]) [] :=
  _root_.Go.Joins.shut_agg4 (y0 := (.lit (.int .i64 k), [])) (y1 := (.lit (.int .i64 m), [])) (y2 := (.lit (.int .i64 e), [])) (y3 := (.lit (.int .i64 f), [])) Try.underlying35 (by kernel_rfl) cState ⟨1, trod_int_mk 0 Try.underlying3 w0⟩ ⟨1, trod_int_mk 0 Try.underlying3 w1⟩ ⟨1, trod_int_mk 0 Try.underlying3 w2⟩ ⟨1, trod_int_mk 0 Try.underlying3 w3⟩
theorem el_state {fuel : Nat} {cs : List Value} {y : DataW H × List MemPlace} (h : DataW.trod enc Try.prog W base sp held fuel 35 cs = some y) (hl : cs.length = 4) : ∃ x : As, cs = asE.enc x ∧ True := by
  match cs, hl with
  | [x0, x1, x2, x3], _ =>
    obtain ⟨y0, y1, y2, y3, n1, _, _, t0, t1, t2, t3⟩ := _root_.Go.Joins.trod_struct4 Try.underlying35 h
    simp only [cInt, List.drop_succ_cons, List.drop_zero, List.take_succ_cons, List.take_zero] at t0 t1 t2 t3
    obtain ⟨f0, rfl, _, w0⟩ := trod_i64 t0
    obtain ⟨f1, rfl, _, w1⟩ := trod_i64 t1
    obtain ⟨f2, rfl, _, w2⟩ := trod_i64 t2
    obtain ⟨f3, rfl, _, w3⟩ := trod_i64 t3
    exact ⟨⟨f0, f1, f2, f3⟩, rfl, trivial⟩
theorem el_bool {fuel : Nat} {cs : List Value} {y : DataW H × List MemPlace} (h : DataW.trod enc Try.prog W base sp held fuel 4 cs = some y) (hl : cs.length = 1) : ∃ x : Bool, cs = blE.enc x ∧ True := by
  match cs, hl with
  | [x0], _ =>
    obtain ⟨b, rfl, _⟩ := trod_flag h
    exact ⟨b, rfl, trivial⟩
theorem el_signal {fuel : Nat} {cs : List Value} {y : DataW H × List MemPlace} (h : DataW.trod enc Try.prog W base sp held fuel 25 cs = some y) (hl : cs.length = 3) : ∃ x : Sg, cs = sgE.enc x ∧ True := by
  match cs, hl with
  | [x0, x1, x2], _ =>
    obtain ⟨y0, y1, y2, n1, _, _, t0, t1, t2⟩ := Go.Deep.trod_struct3 Try.underlying25 h
    simp only [cInt, cBool, List.drop_succ_cons, List.drop_zero, List.take_succ_cons, List.take_zero] at t0 t1 t2
    obtain ⟨f0, rfl, _⟩ := trod_flag t0
    obtain ⟨f1, rfl, _⟩ := trod_flag t1
    obtain ⟨f2, rfl, _, _⟩ := trod_i64 t2
    exact ⟨⟨f0, f1, f2⟩, rfl, trivial⟩
/-- How long a slice's datum is. -/
def Shape (d : DataW H) (len : Nat) : Prop := d = .nil ∧ len = 0 ∨ ∃ es rest, d = .slice es rest ∧ es.length = len
theorem open_states {r : Reach} {b0 : Nat} {v : Value} {d : DataW H} {p : List MemPlace} (hv : Value.okWide Try.prog W r b0 22 v) (h : DataW.Trod enc Try.prog W base sp held 22 v d p) :
    ∃ a len cap L, v = .slice a len cap ∧ GRow asE W a len L ∧ (a = none → len = 0 ∧ cap = 0) ∧ len ≤ cap ∧ Shape d len := by
  obtain ⟨a, len, cap, rfl⟩ := okWide_slice Try.underlying22 hv
  obtain ⟨fuel, hf⟩ := h
  have hf' : DataW.trod enc Try.prog W base sp held fuel 22 [.slice a len cap] = some (d, p) := by simpa [Value.cells] using hf
  have hle : len ≤ cap := by
    rcases DataW.trod_slice Try.underlying22 hf' with ⟨hcs, _⟩ | ⟨_, _, _, _, _, _, _, hcs, _, _, hl, _⟩
    · simp at hcs
      omega
    · simp at hcs
      omega
  obtain ⟨a', len', cap', xs, e, hr, hn, _, hs⟩ := open_grow asE Try.underlying22 cState (fun _ => True) (fun h hl => el_state h hl) hf'
  cases e
  exact ⟨a, len, cap, xs, rfl, hr, hn, hle, hs⟩
theorem open_bools {r : Reach} {b0 : Nat} {v : Value} {d : DataW H} {p : List MemPlace} (hv : Value.okWide Try.prog W r b0 23 v) (h : DataW.Trod enc Try.prog W base sp held 23 v d p) :
    ∃ a len cap L, v = .slice a len cap ∧ GRow blE W a len L := by
  obtain ⟨a, len, cap, rfl⟩ := okWide_slice Try.underlying23 hv
  obtain ⟨fuel, hf⟩ := h
  have hf' : DataW.trod enc Try.prog W base sp held fuel 23 [.slice a len cap] = some (d, p) := by simpa [Value.cells] using hf
  obtain ⟨a', len', cap', xs, e, hr, _, _, _⟩ := open_grow blE Try.underlying23 cBool (fun _ => True) (fun h hl => el_bool h hl) hf'
  cases e
  exact ⟨a, len, cap, xs, rfl, hr⟩
/-- An array whose elements lie in cells, opened. -/
theorem open_arr {β : Type} (E : Enc β) {e T : TypeId} {n : Nat} (hT : Try.prog.underlying T = some (.array n e)) (hk : Try.prog.cellsOf e = E.k) (hel : ∀ {fuel : Nat} {cs : List Value} {y : DataW H × List MemPlace}, DataW.trod enc Try.prog W base sp held fuel e cs = some y → cs.length = E.k → ∃ x, cs = E.enc x ∧ True)
    {fuel : Nat} {cs : List Value} {y : DataW H × List MemPlace} (h : DataW.trod enc Try.prog W base sp held fuel T cs = some y) (hl : cs.length = n * E.k) : ∃ xs : List β, xs.length = n ∧ cs = E.flat xs := by
  obtain ⟨ys, m, _, _, _, hys, hat⟩ := DataW.trod_array hT h
  have each : ∀ i, i < n → ∃ x : β, (cs.drop (i * E.k)).take E.k = E.enc x := by
    intro i hi
    have h1 := hat i hi
    rw [hk, List.getElem?_eq_getElem (by omega)] at h1
    have hm := Nat.mul_le_mul_right E.k (show i + 1 ≤ n from hi)
    rw [Nat.add_mul, Nat.one_mul] at hm
    obtain ⟨x, hx, _⟩ := hel h1 (by rw [List.length_take, List.length_drop]; omega)
    exact ⟨x, hx⟩
  obtain ⟨xs, hxl, hq⟩ := list_of n each
  refine ⟨xs, hxl, ?_⟩
  apply List.ext_getElem?
  intro j
  have hp := E.pos
  rcases Nat.lt_or_ge j (n * E.k) with hj | hj
  · have hd : j / E.k < n := (Nat.div_lt_iff_lt_mul hp).2 hj
    have hm : j % E.k < E.k := Nat.mod_lt _ hp
    have e1 : j = j / E.k * E.k + j % E.k := by rw [Nat.mul_comm]; exact (Nat.div_add_mod j E.k).symm
    have hx : xs[j / E.k]? = some (xs[j / E.k]'(by omega)) := List.getElem?_eq_getElem (by omega)
    have h2 := E.flat_at xs (j / E.k) _ hx (j % E.k) hm
    rw [← e1] at h2
    rw [h2, ← hq _ _ hx, List.getElem?_take_of_lt hm, List.getElem?_drop, ← e1]
  · rw [List.getElem?_eq_none (by omega), List.getElem?_eq_none (by rw [E.flat_length, hxl]; exact hj)]
theorem take_one {cs : List Value} {k : Nat} (h : k < cs.length) : ∃ x, (cs.drop k).take 1 = [x] ∧ cs.drop k = x :: cs.drop (k + 1) := by
  refine ⟨cs[k], ?_, List.drop_eq_getElem_cons h⟩
  rw [List.drop_eq_getElem_cons h]
  rfl
theorem open_vec {r : Reach} {b0 : Nat} {v : Value} {d : DataW H} {p : List MemPlace} (hv : Value.okWide Try.prog W r b0 29 v) (h : DataW.Trod enc Try.prog W base sp held 29 v d p) :
    ∃ u : Vec, u.Ok ∧ v = u.v := by
  obtain ⟨C, rfl, hC⟩ := okWide_struct Try.underlying29 hv
  rw [cVec] at hC
  obtain ⟨fuel, hf⟩ := h
  have hf' : DataW.trod enc Try.prog W base sp held fuel 29 C.toList = some (d, p) := by simpa [Value.cells] using hf
  obtain ⟨y0, y1, y2, y3, y4, n, t0, t1, t2, t3, t4⟩ := trod_struct5 Try.underlying29 hf'
  have hl : C.toList.length = 85 := by rw [Array.length_toList]; exact hC
  simp only [cSgs, cInt, cBool, cLks, List.drop_zero] at t0 t1 t2 t3 t4
  generalize hcs : C.toList = cs at *
  obtain ⟨x1, e1, d1⟩ := take_one (cs := cs) (k := 78) (by omega)
  obtain ⟨x2, e2, d2⟩ := take_one (cs := cs) (k := 79) (by omega)
  obtain ⟨x3, e3, d3⟩ := take_one (cs := cs) (k := 80) (by omega)
  rw [e1] at t1
  rw [e2] at t2
  rw [e3] at t3
  obtain ⟨sg, hsg, es⟩ := open_arr sgE Try.underlying26 cSignal (fun h hl => el_signal h hl) t0 (by rw [List.length_take]; show min 78 cs.length = 26 * 3; omega)
  obtain ⟨lk, hlk, el⟩ := open_arr blE Try.underlying27 cBool (fun h hl => el_bool h hl) t4 (by rw [List.length_take, List.length_drop]; show min 4 (cs.length - 81) = 4 * 1; omega)
  obtain ⟨tp, rfl, _, _⟩ := trod_i64 t1
  obtain ⟨tn, rfl, _, _⟩ := trod_i64 t2
  obtain ⟨fl, rfl, _⟩ := trod_flag t3
  rw [List.take_of_length_le (by rw [List.length_drop]; omega)] at el
  refine ⟨⟨sg, tp, tn, fl, lk⟩, ⟨hsg, hlk⟩, ?_⟩
  have : cs = Vec.cs ⟨sg, tp, tn, fl, lk⟩ := by
    unfold Vec.cs
    rw [← es, ← el, List.append_assoc]
    conv => lhs; rw [← List.take_append_drop 78 cs, d1, d2, d3]
    rfl
  unfold Vec.v
  rw [← this, ← hcs]
theorem sizedS {ts : List TypeId} {ds : List (DataW H)} {d : DataW H} {len : Nat} (h : (DataW.weightsEach Try.prog ts ds).all (· ≤ reachBytes) = true) (j : Nat) (ht : ts[j]? = some 22) (hd : ds[j]? = some d) (hs : Shape d len) : len ≤ 4398046510976 := by
  rcases hs with ⟨rfl, rfl⟩ | ⟨es, sp, rfl, rfl⟩
  · omega
  · have := sized_slice h ht hd Try.underlying22
    rw [bState] at this
    simp only [reachBytes] at this
    omega
end
end Go.Proofs.Ytaiagijepnaalaa
