/-
  What is handed in to the statement of this seat, opened: a filter; a list of steps, each with a list of reals; how long they may be.
-/
import Derived.Test.YtgapnimicaopcaaGreatB04
import Derived.ProofKit
import Derived.OpenShut
import Derived.ChangeOld
import Derived.Below
import Derived.SizedLaws
import Derived.Deep.Strs
import Derived.Lib.SmallJoins
namespace Go.Proofs.YtgapnimicaopcaaGreat
open Go.ChangeShapes Go.WideShapes Go.ChangeAt Go.RowKit
set_option maxRecDepth 100000
theorem own : ownKnob Tryz.prog.godebug = none := by kernel_rfl
theorem laidOut : laidOutB Tryz.prog = true := by kernel_rfl
theorem cInt : Tryz.prog.cellsOf 3 = 1 := by kernel_rfl
theorem cList : Tryz.prog.cellsOf 33 = 1 := by kernel_rfl
theorem cFilter : Tryz.prog.cellsOf 23 = 3 := by kernel_rfl
theorem cReal : Tryz.prog.cellsOf 42 = 3 := by kernel_rfl
theorem cStep : Tryz.prog.cellsOf 36 = 2 := by kernel_rfl
theorem bReal : Tryz.prog.bytesOf 42 = 24 := by kernel_rfl
theorem bStep : Tryz.prog.bytesOf 36 = 32 := by kernel_rfl
theorem list_of {α : Type} {Q : Nat → α → Prop} : ∀ n : Nat, (∀ i, i < n → ∃ o, Q i o) → ∃ l : List α, l.length = n ∧ ∀ i o, l[i]? = some o → Q i o
  | 0, _ => ⟨[], rfl, fun i o h => by simp at h⟩
  | n + 1, h => by
    obtain ⟨l, hl, hq⟩ := list_of n (fun i hi => h i (by omega))
    obtain ⟨o, ho⟩ := h n (by omega)
    refine ⟨l ++ [o], by simp [hl], fun i x hx => ?_⟩
    by_cases hi : i < n
    · rw [List.getElem?_append_left (by omega)] at hx
      exact hq i x hx
    · rw [List.getElem?_append_right (by omega)] at hx
      have : i - l.length = 0 := by
        rcases Nat.eq_zero_or_pos (i - l.length) with h | h
        · exact h
        · rw [List.getElem?_eq_none (by simp; omega)] at hx; cases hx
      rw [this] at hx
      have e : i = n := by omega
      subst e
      cases hx
      exact ho
section
variable {H : Type} {enc : TypeId × Value → H} {W : World} {base : Nat} {sp : Nat → Bool} {held : Bool}
theorem trod_i64 {fuel : Nat} {v : Value} {y : DataW H × List MemPlace} (h : DataW.trod enc Tryz.prog W base sp held fuel 3 [v] = some y) : ∃ n, v = .int .i64 n ∧ y = (.lit (.int .i64 n), []) ∧ (Lit.int .i64 n).wf = true := by
  cases fuel with
  | zero => simp [DataW.trod] at h
  | succ f =>
    simp only [DataW.trod, Tryz.underlying3] at h
    cases v <;> simp at h
    rename_i k n
    obtain ⟨⟨rfl, hw⟩, rfl⟩ := h
    exact ⟨n, rfl, rfl, hw⟩
theorem open_filter {r : Reach} {b0 : Nat} {v : Value} {d : DataW H} {p : List MemPlace} (hv : Value.okWide Tryz.prog W r b0 23 v) (h : DataW.Trod enc Tryz.prog W base sp held 23 v d p) :
    ∃ k m e, v = .agg #[.int .i64 k, .int .i64 m, .int .i64 e] ∧ d = .agg [.lit (.int .i64 k), .lit (.int .i64 m), .lit (.int .i64 e)] ∧ p = [] ∧ (Lit.int .i64 k).wf = true ∧ (Lit.int .i64 m).wf = true ∧ (Lit.int .i64 e).wf = true := by
  obtain ⟨v0, v1, v2, y0, y1, y2, n, rfl, rfl, rfl, h0, h1, h2⟩ := _root_.Go.Joins.open_agg3 Tryz.underlying23 (by kernel_rfl) cFilter hv h
  obtain ⟨k, rfl, rfl, w0⟩ := trod_i64 h0
  obtain ⟨m, rfl, rfl, w1⟩ := trod_i64 h1
  obtain ⟨e, rfl, rfl, w2⟩ := trod_i64 h2
  exact ⟨k, m, e, rfl, rfl, rfl, w0, w1, w2⟩
theorem shut_filter {k m e : Int} (w0 : (Lit.int .i64 k).wf = true) (w1 : (Lit.int .i64 m).wf = true) (w2 : (Lit.int .i64 e).wf = true) :
    DataW.Trod enc Tryz.prog W base sp held 23 (.agg #[.int .i64 k, .int .i64 m, .int .i64 e]) (.agg [.lit (.int .i64 k), .lit (.int .i64 m), .lit (.int .i64 e)]) [] :=
  _root_.Go.Joins.shut_agg3 (y0 := (.lit (.int .i64 k), [])) (y1 := (.lit (.int .i64 m), [])) (y2 := (.lit (.int .i64 e), [])) Tryz.underlying23 (by kernel_rfl) cFilter ⟨1, trod_int_mk 0 Tryz.underlying3 w0⟩ ⟨1, trod_int_mk 0 Tryz.underlying3 w1⟩ ⟨1, trod_int_mk 0 Tryz.underlying3 w2⟩
theorem threeCells {a : Addr} {cs : List Value} (h : W.cells? base a 3 = some cs) : ∃ x y z, cs = [x, y, z] ∧ W.cell? (a.add 0) = some x ∧ W.cell? (a.add 1) = some y ∧ W.cell? (a.add 2) = some z := by
  unfold World.cells? at h
  split at h
  · have e : List.range 3 = [0, 1, 2] := by decide
    rw [e] at h
    simp only [List.mapM_cons, List.mapM_nil, Option.pure_def, Option.bind_eq_bind, Option.bind_eq_some_iff, Option.some.injEq] at h
    obtain ⟨x, hx, _, ⟨y, hy, _, ⟨z, hz, _, rfl, rfl⟩, rfl⟩, rfl⟩ := h
    exact ⟨x, y, z, rfl, hx, hy, hz⟩
  · cases h
theorem twoCells {a : Addr} {cs : List Value} (h : W.cells? base a 2 = some cs) : ∃ x y, cs = [x, y] ∧ W.cell? (a.add 0) = some x ∧ W.cell? (a.add 1) = some y := by
  unfold World.cells? at h
  split at h
  · have e : List.range 2 = [0, 1] := by decide
    rw [e] at h
    simp only [List.mapM_cons, List.mapM_nil, Option.pure_def, Option.bind_eq_bind, Option.bind_eq_some_iff, Option.some.injEq] at h
    obtain ⟨x, hx, _, ⟨y, hy, _, rfl, rfl⟩, rfl⟩ := h
    exact ⟨x, y, rfl, hx, hy⟩
  · cases h
theorem addr_add (b off i : Nat) : (⟨b, off, none⟩ : Addr).add i = ⟨b, off + i, none⟩ := by
  by_cases h0 : i = 0
  · subst h0; simp [Addr.add]
  · simp [Addr.add, h0]
theorem cell_lt {b off : Nat} {v : Value} (h : W.cell? ⟨b, off, none⟩ = some v) : b < W.heap.size := by
  rcases Nat.lt_or_ge b W.heap.size with h' | h'
  · exact h'
  · unfold World.cell? at h
    simp [Array.getElem?_eq_none h'] at h
/-- How long a list is, by its data. -/
def Shape (d : DataW H) (len : Nat) : Prop := len = 0 ∨ ∃ es sp, d = .slice es sp ∧ es.length = len
/-- Reals where a cell's slice leads. -/
theorem open_reals {fuel : Nat} {x : Value} {y : DataW H × List MemPlace} (h : DataW.trod enc Tryz.prog W base (fun _ => true) held fuel 33 [x] = some y) :
    ∃ a len cap rs, x = .slice a len cap ∧ RRow W a len rs ∧ (a = none → len = 0 ∧ cap = 0) ∧ Shape y.1 len := by
  rcases DataW.trod_slice Tryz.underlying33 h with ⟨hcs, _⟩ | ⟨y0, l, c, elems, rest, n, _, hcs, hx, _, hl, _, hel, hat, _, _⟩
  · simp at hcs
    subst hcs
    exact ⟨none, 0, 0, [], rfl, RRow.nil W none, fun _ => ⟨rfl, rfl⟩, .inl rfl⟩
  · simp at hcs
    subst hcs
    have each : ∀ i, i < l → ∃ o : Rl, ∃ b off, y0 = ⟨b, off, none⟩ ∧ b < W.heap.size ∧ W.cell? ⟨b, off + i * 3, none⟩ = some (.int .i64 o.k) ∧ W.cell? ⟨b, off + i * 3 + 1, none⟩ = some (.int .i64 o.m) ∧ W.cell? ⟨b, off + i * 3 + 2, none⟩ = some (.int .i64 o.e) := by
      intro i hi
      have hi2 := hat i hi
      rw [cReal] at hi2
      have hei : elems[i]? = some (elems[i]'(by omega)) := List.getElem?_eq_getElem (by omega)
      rw [hei, Option.bind_eq_some_iff] at hi2
      obtain ⟨cs, hcs, htr⟩ := hi2
      obtain ⟨x0, x1, x2, rfl, hx0, hx1, hx2⟩ := threeCells hcs
      obtain ⟨y0', y1, y2, n1, hy, _, t0, t1, t2⟩ := Go.Deep.trod_struct3 Tryz.underlying42 htr
      have t0' : DataW.trod enc Tryz.prog W base (fun _ => true) held n1 3 [x0] = some y0' := by
        have := t0; simp only [cInt, List.drop_zero, List.take_succ_cons, List.take_zero] at this; exact this
      have t1' : DataW.trod enc Tryz.prog W base (fun _ => true) held n1 3 [x1] = some y1 := by
        have := t1; simp only [cInt, List.drop_succ_cons, List.drop_zero, List.take_succ_cons, List.take_zero] at this; exact this
      have t2' : DataW.trod enc Tryz.prog W base (fun _ => true) held n1 3 [x2] = some y2 := by
        have := t2; simp only [cInt, List.drop_succ_cons, List.drop_zero, List.take_succ_cons, List.take_zero] at this; exact this
      obtain ⟨f0, rfl, _, _⟩ := trod_i64 t0'
      obtain ⟨f1, rfl, _, _⟩ := trod_i64 t1'
      obtain ⟨f2, rfl, _, _⟩ := trod_i64 t2'
      obtain ⟨b, off, spot⟩ := y0
      have hspot : spot = none := by
        have hi0 := hat 0 (by omega)
        rw [cReal, List.getElem?_eq_getElem (show 0 < elems.length by omega), Option.bind_eq_some_iff] at hi0
        obtain ⟨cs0, hcs0, _⟩ := hi0
        obtain ⟨z0, _, _, _, hz0, _⟩ := threeCells hcs0
        simpa [Addr.add] using World.cell?_spot hz0
      subst hspot
      rw [addr_add, addr_add] at hx0 hx1 hx2
      rw [Nat.add_zero] at hx0
      exact ⟨(⟨f0, f1, f2⟩ : Rl), b, off, rfl, cell_lt hx0, hx0, hx1, hx2⟩
    obtain ⟨rs, hll, hq⟩ := list_of l each
    refine ⟨some y0, l, c, rs, rfl, ⟨hll, fun i hi => ?_⟩, (fun e => by cases e), .inr ⟨_, _, by rw [hx], by rw [List.length_map]; exact hel⟩⟩
    have hi' : i < rs.length := by omega
    obtain ⟨b, off, e, hlt, k0, k1, k2⟩ := hq i rs[i] (List.getElem?_eq_getElem hi')
    exact ⟨b, off, rs[i], by rw [e], hlt, List.getElem?_eq_getElem hi', k0, k1, k2⟩
theorem open_steps {r : Reach} {b0 : Nat} {v : Value} {d : DataW H} {p : List MemPlace} (hv : Value.okWide Tryz.prog W r b0 24 v) (h : DataW.Trod enc Tryz.prog W base (fun _ => true) held 24 v d p) (hd : ∀ es sp, d = .slice es sp → ∀ u1 u2, .agg [u1, u2] ∈ es → ∀ len, Shape u2 len → len ≤ 5864062014634) :
    ∃ a len cap zs, v = .slice a len cap ∧ SRow W a len zs ∧ (∀ z ∈ zs, z.n ≤ 5864062014634) ∧ Shape d len := by
  obtain ⟨a, len, cap, rfl⟩ := okWide_slice Tryz.underlying24 hv
  obtain ⟨fuel, hf⟩ := h
  rcases DataW.trod_slice Tryz.underlying24 hf with ⟨hcs, _⟩ | ⟨y, l, c, elems, rest, n, _, hcs, hx, _, hl, _, hel, hat, _, _⟩
  · simp [Value.cells] at hcs
    obtain ⟨rfl, rfl, rfl⟩ := hcs
    exact ⟨none, 0, 0, [], rfl, SRow.nil W none, (fun z hz => by cases hz), .inl rfl⟩
  · simp [Value.cells] at hcs
    obtain ⟨rfl, rfl, rfl⟩ := hcs
    have hdd : d = .slice (elems.map (·.1)) (rest.map (·.1)) := congrArg Prod.fst hx
    have each : ∀ i, i < len → ∃ o : Stp, ∃ b off, y = ⟨b, off, none⟩ ∧ b < W.heap.size ∧ W.cell? ⟨b, off + i * 2, none⟩ = some (.int .i64 o.tick) ∧ W.cell? ⟨b, off + i * 2 + 1, none⟩ = some (.slice o.a o.n o.d) ∧ o.In W ∧ o.n ≤ 5864062014634 := by
      intro i hi
      have hi2 := hat i hi
      rw [cStep] at hi2
      have hei : elems[i]? = some (elems[i]'(by omega)) := List.getElem?_eq_getElem (by omega)
      rw [hei, Option.bind_eq_some_iff] at hi2
      obtain ⟨cs, hcs, htr⟩ := hi2
      obtain ⟨x0, x1, rfl, hx0, hx1⟩ := twoCells hcs
      obtain ⟨y0, y1, n1, hy, _, t0, t1⟩ := Go.ChangeShapes.trod_struct2 Tryz.underlying36 htr
      have t0' : DataW.trod enc Tryz.prog W base (fun _ => true) held n1 3 [x0] = some y0 := by
        have := t0; simp only [cInt, List.drop_zero, List.take_succ_cons, List.take_zero] at this; exact this
      have t1' : DataW.trod enc Tryz.prog W base (fun _ => true) held n1 33 [x1] = some y1 := by
        have := t1; simp only [cList, List.drop_succ_cons, List.drop_zero, List.take_succ_cons, List.take_zero] at this; exact this
      obtain ⟨f0, rfl, _, _⟩ := trod_i64 t0'
      obtain ⟨la, ln, lc, rs, rfl, hr, hn, hsh⟩ := open_reals t1'
      have hln := hd _ _ hdd y0.1 y1.1 (List.mem_map.2 ⟨elems[i]'(by omega), List.getElem_mem _, by rw [hy]⟩) ln hsh
      obtain ⟨b, off, spot⟩ := y
      have hspot : spot = none := by
        have hi0 := hat 0 (by omega)
        rw [cStep, List.getElem?_eq_getElem (show 0 < elems.length by omega), Option.bind_eq_some_iff] at hi0
        obtain ⟨cs0, hcs0, _⟩ := hi0
        obtain ⟨z0, _, _, hz0, _⟩ := twoCells hcs0
        simpa [Addr.add] using World.cell?_spot hz0
      subst hspot
      rw [addr_add, addr_add] at hx0 hx1
      rw [Nat.add_zero] at hx0
      exact ⟨(⟨f0, la, ln, lc, rs⟩ : Stp), b, off, rfl, cell_lt hx0, hx0, hx1, ⟨hr, hn⟩, hln⟩
    obtain ⟨l, hll, hq⟩ := list_of len each
    refine ⟨some y, len, cap, l, rfl, ⟨hll, fun i hi => ?_⟩, fun z hz => ?_, .inr ⟨_, _, hdd, by rw [List.length_map]; exact hel⟩⟩
    · have hi' : i < l.length := by omega
      obtain ⟨b, off, e, hlt, k0, k1, k2, _⟩ := hq i l[i] (List.getElem?_eq_getElem hi')
      exact ⟨b, off, l[i], by rw [e], hlt, List.getElem?_eq_getElem hi', k0, k1, k2⟩
    · obtain ⟨i, hi, rfl⟩ := List.getElem_of_mem hz
      obtain ⟨b, off, e, hlt, k0, k1, k2, k3⟩ := hq i l[i] (List.getElem?_eq_getElem hi)
      exact k3
theorem weights_all {P : Program} {e : TypeId} : ∀ {es : List (DataW H)} {d : DataW H}, d ∈ es → ∀ n ∈ d.weights P e, n ∈ DataW.weightsAll P e es
  | x :: es, d, h, n, hn => by
    simp only [DataW.weightsAll, List.mem_append]
    rcases List.mem_cons.1 h with rfl | h
    · exact .inl hn
    · exact .inr (weights_all h n hn)
theorem sized_in {ts : List TypeId} {ds : List (DataW H)} {d : DataW H} (h : (DataW.weightsEach Tryz.prog ts ds).all (· ≤ reachBytes) = true) (j : Nat) (ht : ts[j]? = some 24) (hd : ds[j]? = some d) : ∀ es sp, d = .slice es sp → ∀ u1 u2, .agg [u1, u2] ∈ es → ∀ len, Shape u2 len → len ≤ 5864062014634 := by
  intro es sp e u1 u2 hy len hs
  subst e
  rcases hs with rfl | ⟨es2, sp2, rfl, rfl⟩
  · omega
  · have hm : (es2.length + sp2.length) * Tryz.prog.bytesOf 42 ∈ (DataW.agg [u1, .slice es2 sp2] : DataW H).weights Tryz.prog 36 := by
      simp [DataW.weights, DataW.weightsEach, Tryz.underlying36, Tryz.underlying33]
    have hm2 := weights_all (P := Tryz.prog) (e := 36) hy _ hm
    have := List.all_eq_true.1 h _ (DataW.weights_mem_each ht hd _ (show (es2.length + sp2.length) * Tryz.prog.bytesOf 42 ∈ _ by
      simp only [DataW.weights, Tryz.underlying24, List.mem_cons, List.mem_append]
      exact .inr (.inl hm2)))
    have h3 : (es2.length + sp2.length) * Tryz.prog.bytesOf 42 ≤ reachBytes := by simpa using this
    rw [bReal] at h3
    simp only [reachBytes] at h3
    omega
theorem sizedS {ts : List TypeId} {ds : List (DataW H)} {d : DataW H} {len : Nat} (h : (DataW.weightsEach Tryz.prog ts ds).all (· ≤ reachBytes) = true) (j : Nat) (ht : ts[j]? = some 24) (hd : ds[j]? = some d) (hs : Shape d len) : len ≤ 5864062014634 := by
  rcases hs with rfl | ⟨es, sp, rfl, rfl⟩
  · omega
  · have := sized_slice h ht hd Tryz.underlying24
    rw [bStep] at this
    simp only [reachBytes] at this
    omega
end
end Go.Proofs.YtgapnimicaopcaaGreat
