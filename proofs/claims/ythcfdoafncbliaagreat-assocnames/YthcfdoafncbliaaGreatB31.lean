/-
  Laid together: FrameM, FrameA.
-/
import Derived.Test.YthcfdoafncbliaaGreatB30
import Derived.Deep.Strs
import Derived.Test.YthcfdoafncbliaaGreatB23
/-
  A message that is handed in, opened.
-/
namespace Go.Proofs.YthcfdoafncbliaaGreat
open Go.ChangeShapes Go.WideShapes Go.ChangeAt Go.RowKit
set_option maxRecDepth 100000
theorem c22 : Tryz.prog.cellsOf 27 = 1 := by kernel_rfl
theorem c23 : Tryz.prog.cellsOf 28 = 1 := by kernel_rfl
theorem c24 : Tryz.prog.cellsOf 29 = 1 := by kernel_rfl
theorem c4 : Tryz.prog.cellsOf 4 = 1 := by kernel_rfl
theorem c44 : Tryz.prog.cellsOf 52 = 1 := by kernel_rfl
theorem c42 : Tryz.prog.cellsOf 46 = 3 := by kernel_rfl
theorem c46 : Tryz.prog.cellsOf 54 = 3 := by kernel_rfl
theorem c26 : Tryz.prog.cellsOf 31 = 7 := by kernel_rfl
theorem b42 : Tryz.prog.bytesOf 46 = 24 := by kernel_rfl
theorem b46 : Tryz.prog.bytesOf 54 = 16 := by kernel_rfl
theorem list_of {α : Type} {Q : Nat → α → Prop} : ∀ n : Nat, (∀ i, i < n → ∃ o, Q i o) → ∃ l : List α, l.length = n ∧ ∀ i o, l[i]? = some o → Q i o
  | 0, _ => ⟨[], rfl, fun i o h => by simp at h⟩
  | n + 1, h => by
    obtain ⟨l, hl, hq⟩ := list_of n (fun i hi => h i (by omega))
    obtain ⟨o, ho⟩ := h n (by omega)
    refine ⟨l ++ [o], by simp [hl], fun i x hx => ?_⟩
    by_cases hi : i < n
    · rw [List.getElem?_append_left (by omega)] at hx
      exact hq i x hx
    · rw [List.getElem?_append_right (by omega)] at hx
      have : i - l.length = 0 := by
        rcases Nat.eq_zero_or_pos (i - l.length) with h | h
        · exact h
        · rw [List.getElem?_eq_none (by simp; omega)] at hx; cases hx
      rw [this] at hx
      have e : i = n := by omega
      subst e
      cases hx
      exact ho
section
variable {H : Type} {enc : TypeId × Value → H} {W : World} {base : Nat} {held : Bool}
theorem threeCells {a : Addr} {cs : List Value} (h : W.cells? base a 3 = some cs) : ∃ x y z, cs = [x, y, z] ∧ W.cell? (a.add 0) = some x ∧ W.cell? (a.add 1) = some y ∧ W.cell? (a.add 2) = some z := by
  unfold World.cells? at h
  split at h
  · have e : List.range 3 = [0, 1, 2] := by decide
    rw [e] at h
    simp only [List.mapM_cons, List.mapM_nil, Option.pure_def, Option.bind_eq_bind, Option.bind_eq_some_iff, Option.some.injEq] at h
    obtain ⟨x, hx, _, ⟨y, hy, _, ⟨z, hz, _, rfl, rfl⟩, rfl⟩, rfl⟩ := h
    exact ⟨x, y, z, rfl, hx, hy, hz⟩
  · cases h
theorem addr_add (b off i : Nat) : (⟨b, off, none⟩ : Addr).add i = ⟨b, off + i, none⟩ := by
  by_cases h0 : i = 0
  · subst h0; simp [Addr.add]
  · simp [Addr.add, h0]
theorem open_b {fuel : Nat} {cs : List Value} {x : DataW H × List MemPlace} (hf : DataW.trod enc Tryz.prog W base (fun _ => true) held fuel 27 cs = some x) :
    ∃ a len cap zs, cs = [.slice a len cap] ∧ Row W a len zs ∧ (a = none → len = 0 ∧ cap = 0) ∧ Shape x.1 len ∧ len ≤ cap := by
  rcases open_ints Tryz.underlying27 Tryz.underlying5 c5 hf with ⟨hcs, _⟩ | ⟨y, len, cap, zs, hcs, _, hl, hm, hz, hx, hcell, hwz⟩
  · exact ⟨none, 0, 0, [], hcs, Row.nil _ _, fun _ => ⟨rfl, rfl⟩, .inl rfl, Nat.le_refl _⟩
  · have hz' : zs.length = cap := by simpa using hz
    refine ⟨some y, len, cap, zs.take len, hcs, ⟨by rw [List.length_take]; omega, fun z hz => ?_, fun i hi => ?_⟩, (fun h => by cases h), .inr ⟨_, _, congrArg Prod.fst hx, by simp [lits]; omega⟩, hl⟩
    · exact bounds_u8 (hwz z (List.mem_of_mem_take hz))
    · have hc := hcell i (by omega)
      have hd := hcell 0 (by omega)
      obtain ⟨b, off, spot⟩ := y
      have hspot : spot = none := by simpa [Addr.add] using World.cell?_spot hd
      subst hspot
      have hc0 : W.cell? ⟨b, off + i, none⟩ = some (.int .u8 (zs.getD i 0)) := by rw [← addr_add]; exact hc
      have hlt : b < W.heap.size := by
        rcases Nat.lt_or_ge b W.heap.size with h' | h'
        · exact h'
        · unfold World.cell? at hc0
          simp [Array.getElem?_eq_none h'] at hc0
      exact ⟨b, off, rfl, hlt, by rw [hc0, getD_take zs hi]⟩
theorem open_objs {fuel : Nat} {cs : List Value} {x : DataW H × List MemPlace} (hf : DataW.trod enc Tryz.prog W base (fun _ => true) held fuel 28 cs = some x) :
    ∃ a len cap, ∃ l : List Ob, cs = [.slice a len cap] ∧ l.length = len ∧ RowT W a len (l.map Ob.t3) ∧ (a = none → len = 0 ∧ cap = 0) ∧ Shape x.1 len ∧ (∀ y, a = some y → 0 < len → y.block < W.heap.size) := by
  rcases DataW.trod_slice Tryz.underlying28 hf with ⟨hcs, _⟩ | ⟨y, len, cap, elems, rest, n, _, hcs, hx, _, hl, _, hel, hat, _, _⟩
  · exact ⟨none, 0, 0, [], hcs, rfl, RowT.nil _ _, fun _ => ⟨rfl, rfl⟩, .inl rfl, (fun y h => by cases h)⟩
  · have each : ∀ i, i < len → ∃ o : Ob, ∃ b off, y = ⟨b, off, none⟩ ∧ b < W.heap.size ∧ W.cell? ⟨b, off + i * 3, none⟩ = some o.t3.1 ∧ W.cell? ⟨b, off + i * 3 + 1, none⟩ = some o.t3.2.1 ∧ W.cell? ⟨b, off + i * 3 + 2, none⟩ = some o.t3.2.2 := by
      intro i hi
      have hi2 := hat i hi
      rw [c42] at hi2
      have hei : elems[i]? = some (elems[i]'(by omega)) := List.getElem?_eq_getElem (by omega)
      rw [hei, Option.bind_eq_some_iff] at hi2
      obtain ⟨cs, hcs, htr⟩ := hi2
      obtain ⟨x0, x1, x2, rfl, hx0, hx1, hx2⟩ := threeCells hcs
      obtain ⟨y0, y1, y2, n1, hy, _, t0, t1, t2⟩ := Go.Deep.trod_struct3 Tryz.underlying46 htr
      have t0' : DataW.trod enc Tryz.prog W base (fun _ => true) held n1 3 [x0] = some y0 := by
        have := t0; simp only [c3, List.drop_zero, List.take_succ_cons, List.take_zero] at this; exact this
      have t1' : DataW.trod enc Tryz.prog W base (fun _ => true) held n1 3 [x1] = some y1 := by
        have := t1; simp only [c3, List.drop_succ_cons, List.drop_zero, List.take_succ_cons, List.take_zero] at this; exact this
      have t2' : DataW.trod enc Tryz.prog W base (fun _ => true) held n1 4 [x2] = some y2 := by
        have := t2; simp only [c4, List.drop_succ_cons, List.drop_zero, List.take_succ_cons, List.take_zero] at this; exact this
      obtain ⟨f0, e0, _, w0⟩ := DataW.trod_int Tryz.underlying3 t0'
      cases e0
      obtain ⟨f1, e1, _, w1⟩ := DataW.trod_int Tryz.underlying3 t1'
      cases e1
      obtain ⟨f2, e2, _⟩ := DataW.trod_bool Tryz.underlying4 t2'
      cases e2
      obtain ⟨b, off, spot⟩ := y
      have hspot : spot = none := by
        have hi0 := hat 0 (by omega)
        rw [c42, List.getElem?_eq_getElem (show 0 < elems.length by omega), Option.bind_eq_some_iff] at hi0
        obtain ⟨cs0, hcs0, _⟩ := hi0
        obtain ⟨z0, _, _, _, hz0, _⟩ := threeCells hcs0
        simpa [Addr.add] using World.cell?_spot hz0
      subst hspot
      rw [addr_add, addr_add] at hx0 hx1 hx2
      have hlt : b < W.heap.size := by
        rcases Nat.lt_or_ge b W.heap.size with h' | h'
        · exact h'
        · unfold World.cell? at hx0
          simp [Array.getElem?_eq_none h'] at hx0
      exact ⟨(⟨f0, f1, f2⟩ : Ob), b, off, rfl, hlt, hx0, hx1, hx2⟩
    obtain ⟨l, hll, hq⟩ := list_of len each
    refine ⟨some y, len, cap, l, hcs, hll, ⟨by rw [List.length_map]; exact hll, fun i hi => ?_⟩, (fun h => by cases h), .inr ⟨_, _, congrArg Prod.fst hx, by rw [List.length_map]; exact hel⟩, fun z hz h0 => ?_⟩
    · have hi' : i < l.length := by omega
      obtain ⟨b, off, e, hlt, k0, k1, k2⟩ := hq i l[i] (List.getElem?_eq_getElem hi')
      exact ⟨b, off, l[i].t3, by rw [e], hlt, by simp [hi'], k0, k1, k2⟩
    · obtain ⟨o, b, off, e, hlt, _⟩ := each 0 h0
      cases hz
      rw [e]
      exact hlt
theorem open_obs {fuel : Nat} {cs : List Value} {x : DataW H × List MemPlace} (hf : DataW.trod enc Tryz.prog W base (fun _ => true) held fuel 29 cs = some x) :
    ∃ a len cap, ∃ l : List Bi, cs = [.slice a len cap] ∧ l.length = len ∧ RowT W a len (l.map Bi.t3) ∧ (a = none → len = 0 ∧ cap = 0) ∧ Shape x.1 len ∧ (∀ y, a = some y → 0 < len → y.block < W.heap.size) ∧ (∀ o ∈ l, 0 ≤ o.b ∧ o.b < 4294967296) := by
  rcases DataW.trod_slice Tryz.underlying29 hf with ⟨hcs, _⟩ | ⟨y, len, cap, elems, rest, n, _, hcs, hx, _, hl, _, hel, hat, _, _⟩
  · exact ⟨none, 0, 0, [], hcs, rfl, RowT.nil _ _, fun _ => ⟨rfl, rfl⟩, .inl rfl, (fun y h => by cases h), fun o h => by cases h⟩
  · have each : ∀ i, i < len → ∃ o : Bi, ∃ b off, y = ⟨b, off, none⟩ ∧ b < W.heap.size ∧ W.cell? ⟨b, off + i * 3, none⟩ = some o.t3.1 ∧ W.cell? ⟨b, off + i * 3 + 1, none⟩ = some o.t3.2.1 ∧ W.cell? ⟨b, off + i * 3 + 2, none⟩ = some o.t3.2.2 ∧ 0 ≤ o.b ∧ o.b < 4294967296 := by
      intro i hi
      have hi2 := hat i hi
      rw [c46] at hi2
      have hei : elems[i]? = some (elems[i]'(by omega)) := List.getElem?_eq_getElem (by omega)
      rw [hei, Option.bind_eq_some_iff] at hi2
      obtain ⟨cs, hcs, htr⟩ := hi2
      obtain ⟨x0, x1, x2, rfl, hx0, hx1, hx2⟩ := threeCells hcs
      obtain ⟨y0, y1, y2, n1, hy, _, t0, t1, t2⟩ := Go.Deep.trod_struct3 Tryz.underlying54 htr
      have t0' : DataW.trod enc Tryz.prog W base (fun _ => true) held n1 3 [x0] = some y0 := by
        have := t0; simp only [c3, List.drop_zero, List.take_succ_cons, List.take_zero] at this; exact this
      have t1' : DataW.trod enc Tryz.prog W base (fun _ => true) held n1 4 [x1] = some y1 := by
        have := t1; simp only [c4, List.drop_succ_cons, List.drop_zero, List.take_succ_cons, List.take_zero] at this; exact this
      have t2' : DataW.trod enc Tryz.prog W base (fun _ => true) held n1 52 [x2] = some y2 := by
        have := t2; simp only [c44, List.drop_succ_cons, List.drop_zero, List.take_succ_cons, List.take_zero] at this; exact this
      obtain ⟨f0, e0, _, w0⟩ := DataW.trod_int Tryz.underlying3 t0'
      cases e0
      obtain ⟨f1, e1, _⟩ := DataW.trod_bool Tryz.underlying4 t1'
      cases e1
      obtain ⟨f2, e2, _, w2⟩ := DataW.trod_int Tryz.underlying52 t2'
      cases e2
      obtain ⟨b, off, spot⟩ := y
      have hspot : spot = none := by
        have hi0 := hat 0 (by omega)
        rw [c46, List.getElem?_eq_getElem (show 0 < elems.length by omega), Option.bind_eq_some_iff] at hi0
        obtain ⟨cs0, hcs0, _⟩ := hi0
        obtain ⟨z0, _, _, _, hz0, _⟩ := threeCells hcs0
        simpa [Addr.add] using World.cell?_spot hz0
      subst hspot
      rw [addr_add, addr_add] at hx0 hx1 hx2
      have hlt : b < W.heap.size := by
        rcases Nat.lt_or_ge b W.heap.size with h' | h'
        · exact h'
        · unfold World.cell? at hx0
          simp [Array.getElem?_eq_none h'] at hx0
      have hb := bounds_u32 w2
      exact ⟨(⟨f0, f1, f2⟩ : Bi), b, off, rfl, hlt, hx0, hx1, hx2, hb.1, by show f2 < _; omega⟩
    obtain ⟨l, hll, hq⟩ := list_of len each
    refine ⟨some y, len, cap, l, hcs, hll, ⟨by rw [List.length_map]; exact hll, fun i hi => ?_⟩, (fun h => by cases h), .inr ⟨_, _, congrArg Prod.fst hx, by rw [List.length_map]; exact hel⟩, fun z hz h0 => ?_, fun o ho => ?_⟩
    · have hi' : i < l.length := by omega
      obtain ⟨b, off, e, hlt, k0, k1, k2, _⟩ := hq i l[i] (List.getElem?_eq_getElem hi')
      exact ⟨b, off, l[i].t3, by rw [e], hlt, by simp [hi'], k0, k1, k2⟩
    · obtain ⟨o, b, off, e, hlt, _⟩ := each 0 h0
      cases hz
      rw [e]
      exact hlt
    · obtain ⟨i, hi, rfl⟩ := List.mem_iff_getElem.1 ho
      obtain ⟨b, off, e, hlt, k0, k1, k2, hb⟩ := hq i l[i] (List.getElem?_eq_getElem hi)
      exact hb
theorem trod_struct7 {P : Program} {spare : Nat → Bool} {t : TypeId} {f0 f1 f2 f3 f4 f5 f6 : Field} {fuel : Nat} {cs : List Value} {x : DataW H × List MemPlace} (ht : P.underlying t = some (.struct #[f0, f1, f2, f3, f4, f5, f6])) (h : DataW.trod enc P W base spare held fuel t cs = some x) :
    ∃ y0 y1 y2 y3 y4 y5 y6 n, x.1 = .agg [y0.1, y1.1, y2.1, y3.1, y4.1, y5.1, y6.1] ∧ cs.length = P.cellsOf t ∧ DataW.trod enc P W base spare held n f0.type ((cs.drop f0.offset).take (P.cellsOf f0.type)) = some y0 ∧ DataW.trod enc P W base spare held n f1.type ((cs.drop f1.offset).take (P.cellsOf f1.type)) = some y1 ∧ DataW.trod enc P W base spare held n f2.type ((cs.drop f2.offset).take (P.cellsOf f2.type)) = some y2 ∧ DataW.trod enc P W base spare held n f3.type ((cs.drop f3.offset).take (P.cellsOf f3.type)) = some y3 ∧ DataW.trod enc P W base spare held n f4.type ((cs.drop f4.offset).take (P.cellsOf f4.type)) = some y4 ∧ DataW.trod enc P W base spare held n f5.type ((cs.drop f5.offset).take (P.cellsOf f5.type)) = some y5 ∧ DataW.trod enc P W base spare held n f6.type ((cs.drop f6.offset).take (P.cellsOf f6.type)) = some y6 := by
  obtain ⟨xs, n, _, rfl, hl, hlen, hf⟩ := DataW.trod_struct ht h
  match xs, hlen with
  | [y0, y1, y2, y3, y4, y5, y6], _ => exact ⟨y0, y1, y2, y3, y4, y5, y6, n, by simp, hl, by simpa using hf 0 f0 rfl, by simpa using hf 1 f1 rfl, by simpa using hf 2 f2 rfl, by simpa using hf 3 f3 rfl, by simpa using hf 4 f4 rfl, by simpa using hf 5 f5 rfl, by simpa using hf 6 f6 rfl⟩
/-- How long a part of a message is that reads as a slice. -/
theorem sized_part {ts : List TypeId} {ds : List (DataW H)} (hsz : (DataW.weightsEach Tryz.prog ts ds).all (· ≤ reachBytes) = true) (j : Nat) {d : DataW H} (ht : ts[j]? = some 31) (hd : ds[j]? = some d) {n : Nat} (hn : n ∈ d.weights Tryz.prog 31) : n ≤ 140737488351232 := by
  have := List.all_eq_true.1 hsz _ (DataW.weights_mem_each ht hd _ hn)
  have h3 : n ≤ reachBytes := by simpa using this
  simp only [reachBytes] at h3
  exact h3
theorem open_msg {ts : List TypeId} {ds : List (DataW H)} (hsz : (DataW.weightsEach Tryz.prog ts ds).all (· ≤ reachBytes) = true) (j : Nat) {r : Reach} {b0 : Nat} {v : Value} {d : DataW H} {p : List MemPlace} (ht : ts[j]? = some 31) (hd : ds[j]? = some d) (hv : Value.okWide Tryz.prog W r b0 31 v) (h : DataW.Trod enc Tryz.prog W base (fun _ => true) held 31 v d p) :
    ∃ M sa sc oa oc ba bc, v = Msg.val M sa sc oa oc ba bc ∧ MsgX W (fun k => k < W.heap.size) M sa sc oa oc ba bc ∧ M.objs.length ≤ 140737488351232 ∧ M.obs.length ≤ 140737488351232 := by
  obtain ⟨cs, rfl, hcs⟩ := okWide_struct Tryz.underlying31 hv
  obtain ⟨fuel, hf⟩ := h
  obtain ⟨y0, y1, y2, y3, y4, y5, y6, n, hx, hl, t0, t1, t2, t3, t4, t5, t6⟩ := trod_struct7 Tryz.underlying31 hf
  have hl7 : cs.size = 7 := hcs.trans c26
  obtain ⟨l7⟩ := cs
  match l7, hl7 with
  | [x0, x1, x2, x3, x4, x5, x6], _ =>
    have t0' : DataW.trod enc Tryz.prog W base (fun _ => true) held n 3 [x0] = some y0 := by
      have := t0; simp only [Value.cells, c3, List.drop_zero, List.take_succ_cons, List.take_zero] at this; exact this
    have t1' : DataW.trod enc Tryz.prog W base (fun _ => true) held n 27 [x1] = some y1 := by
      have := t1; simp only [Value.cells, c22, List.drop_succ_cons, List.drop_zero, List.take_succ_cons, List.take_zero] at this; exact this
    have t2' : DataW.trod enc Tryz.prog W base (fun _ => true) held n 3 [x2] = some y2 := by
      have := t2; simp only [Value.cells, c3, List.drop_succ_cons, List.drop_zero, List.take_succ_cons, List.take_zero] at this; exact this
    have t3' : DataW.trod enc Tryz.prog W base (fun _ => true) held n 3 [x3] = some y3 := by
      have := t3; simp only [Value.cells, c3, List.drop_succ_cons, List.drop_zero, List.take_succ_cons, List.take_zero] at this; exact this
    have t4' : DataW.trod enc Tryz.prog W base (fun _ => true) held n 3 [x4] = some y4 := by
      have := t4; simp only [Value.cells, c3, List.drop_succ_cons, List.drop_zero, List.take_succ_cons, List.take_zero] at this; exact this
    have t5' : DataW.trod enc Tryz.prog W base (fun _ => true) held n 28 [x5] = some y5 := by
      have := t5; simp only [Value.cells, c23, List.drop_succ_cons, List.drop_zero, List.take_succ_cons, List.take_zero] at this; exact this
    have t6' : DataW.trod enc Tryz.prog W base (fun _ => true) held n 29 [x6] = some y6 := by
      have := t6; simp only [Value.cells, c24, List.drop_succ_cons, List.drop_zero, List.take_succ_cons, List.take_zero] at this; exact this
    obtain ⟨k, e0, _, _⟩ := DataW.trod_int Tryz.underlying3 t0'
    obtain ⟨sa, sn, sc, ss, e1, sr, so, sh, _⟩ := open_b t1'
    obtain ⟨c, e2, _, _⟩ := DataW.trod_int Tryz.underlying3 t2'
    obtain ⟨rr, e3, _, _⟩ := DataW.trod_int Tryz.underlying3 t3'
    obtain ⟨q, e4, _, _⟩ := DataW.trod_int Tryz.underlying3 t4'
    obtain ⟨oa, on, oc, os, e5, hol, orow, oo, oh, op⟩ := open_objs t5'
    obtain ⟨ba, bn, bc, bs, e6, hbl, brow, bo, bh, bp, bb⟩ := open_obs t6'
    cases e0; cases e1; cases e2; cases e3; cases e4; cases e5; cases e6
    have hd' : d = .agg [y0.1, y1.1, y2.1, y3.1, y4.1, y5.1, y6.1] := hx
    have w1 : sn ≤ 140737488351232 := by
      rcases sh with rfl | ⟨es, sp, ey, rfl⟩
      · omega
      · have := sized_part hsz j ht hd (n := (es.length + sp.length) * Tryz.prog.bytesOf 5) (by rw [hd']; simp [DataW.weights, DataW.weightsEach, Tryz.underlying31, Tryz.underlying27, ey])
        rw [b5] at this
        omega
    have w2 : on ≤ 140737488351232 := by
      rcases oh with rfl | ⟨es, sp, ey, rfl⟩
      · omega
      · have := sized_part hsz j ht hd (n := (es.length + sp.length) * Tryz.prog.bytesOf 46) (by rw [hd']; simp [DataW.weights, DataW.weightsEach, Tryz.underlying31, Tryz.underlying28, ey])
        rw [b42] at this
        omega
    have w3 : bn ≤ 140737488351232 := by
      rcases bh with rfl | ⟨es, sp, ey, rfl⟩
      · omega
      · have := sized_part hsz j ht hd (n := (es.length + sp.length) * Tryz.prog.bytesOf 54) (by rw [hd']; simp [DataW.weights, DataW.weightsEach, Tryz.underlying31, Tryz.underlying29, ey])
        rw [b46] at this
        omega
    have hsl := sr.1
    subst hsl hol hbl
    refine ⟨⟨k, ss, c, rr, q, os, bs⟩, sa, sc, oa, oc, ba, bc, rfl, ⟨sr, so, fun y hy h0 => ?_, by show ss.length ≤ _; omega, orow, oo, op, brow, bo, bp, bb⟩, w2, w3⟩
    obtain ⟨b', off', e', hb', _⟩ := sr.2.2 0 h0
    rw [hy] at e'
    cases e'
    exact hb'
end
end Go.Proofs.YthcfdoafncbliaaGreat
/-
  Lists of messages that are handed in, opened.
-/
namespace Go.Proofs.YthcfdoafncbliaaGreat
open Go.ChangeShapes Go.WideShapes Go.ChangeAt Go.RowKit
set_option maxRecDepth 100000
section
variable {H : Type} {enc : TypeId × Value → H} {W : World} {base : Nat} {held : Bool}
theorem w_all {P : Program} {e : TypeId} : ∀ {es : List (DataW H)} {y : DataW H}, y ∈ es → ∀ n ∈ y.weights P e, n ∈ DataW.weightsAll P e es
  | d :: r, y, hy, n, hn => by
    unfold DataW.weightsAll
    rcases List.mem_cons.1 hy with rfl | h
    · exact List.mem_append_left _ hn
    · exact List.mem_append_right _ (w_all h n hn)
theorem sevenCells {a : Addr} {cs : List Value} (h : W.cells? base a 7 = some cs) : ∃ x0 x1 x2 x3 x4 x5 x6, cs = [x0, x1, x2, x3, x4, x5, x6] ∧ W.cell? (a.add 0) = some x0 ∧ W.cell? (a.add 1) = some x1 ∧ W.cell? (a.add 2) = some x2 ∧ W.cell? (a.add 3) = some x3 ∧ W.cell? (a.add 4) = some x4 ∧ W.cell? (a.add 5) = some x5 ∧ W.cell? (a.add 6) = some x6 := by
  unfold World.cells? at h
  split at h
  · have e : List.range 7 = [0, 1, 2, 3, 4, 5, 6] := by decide
    rw [e] at h
    simp only [List.mapM_cons, List.mapM_nil, Option.pure_def, Option.bind_eq_bind, Option.bind_eq_some_iff, Option.some.injEq] at h
    obtain ⟨x0, h0, _, ⟨x1, h1, _, ⟨x2, h2, _, ⟨x3, h3, _, ⟨x4, h4, _, ⟨x5, h5, _, ⟨x6, h6, _, rfl, rfl⟩, rfl⟩, rfl⟩, rfl⟩, rfl⟩, rfl⟩, rfl⟩ := h
    exact ⟨x0, x1, x2, x3, x4, x5, x6, rfl, h0, h1, h2, h3, h4, h5, h6⟩
  · cases h
/-- The cells of a message that reads as data. -/
theorem open_cells {fuel : Nat} {x0 x1 x2 x3 x4 x5 x6 : Value} {x : DataW H × List MemPlace} (hf : DataW.trod enc Tryz.prog W base (fun _ => true) held fuel 31 [x0, x1, x2, x3, x4, x5, x6] = some x) (hw : ∀ n ∈ x.1.weights Tryz.prog 31, n ≤ 140737488351232) :
    ∃ M sa sc oa oc ba bc, x0 = .int .i64 M.kind ∧ x1 = .slice sa M.sys.length sc ∧ x2 = .int .i64 M.config ∧ x3 = .int .i64 M.result ∧ x4 = .int .i64 M.reason ∧ x5 = .slice oa M.objs.length oc ∧ x6 = .slice ba M.obs.length bc ∧ MsgX W (Low W.heap.size) M sa sc oa oc ba bc ∧ M.objs.length * 24 ≤ 140737488355328 ∧ M.obs.length * 16 ≤ 140737488355328 := by
  obtain ⟨y0, y1, y2, y3, y4, y5, y6, n, hx, hl, t0, t1, t2, t3, t4, t5, t6⟩ := trod_struct7 Tryz.underlying31 hf
  have t0' : DataW.trod enc Tryz.prog W base (fun _ => true) held n 3 [x0] = some y0 := by
    have := t0; simp only [c3, List.drop_zero, List.take_succ_cons, List.take_zero] at this; exact this
  have t1' : DataW.trod enc Tryz.prog W base (fun _ => true) held n 27 [x1] = some y1 := by
    have := t1; simp only [c22, List.drop_succ_cons, List.drop_zero, List.take_succ_cons, List.take_zero] at this; exact this
  have t2' : DataW.trod enc Tryz.prog W base (fun _ => true) held n 3 [x2] = some y2 := by
    have := t2; simp only [c3, List.drop_succ_cons, List.drop_zero, List.take_succ_cons, List.take_zero] at this; exact this
  have t3' : DataW.trod enc Tryz.prog W base (fun _ => true) held n 3 [x3] = some y3 := by
    have := t3; simp only [c3, List.drop_succ_cons, List.drop_zero, List.take_succ_cons, List.take_zero] at this; exact this
  have t4' : DataW.trod enc Tryz.prog W base (fun _ => true) held n 3 [x4] = some y4 := by
    have := t4; simp only [c3, List.drop_succ_cons, List.drop_zero, List.take_succ_cons, List.take_zero] at this; exact this
  have t5' : DataW.trod enc Tryz.prog W base (fun _ => true) held n 28 [x5] = some y5 := by
    have := t5; simp only [c23, List.drop_succ_cons, List.drop_zero, List.take_succ_cons, List.take_zero] at this; exact this
  have t6' : DataW.trod enc Tryz.prog W base (fun _ => true) held n 29 [x6] = some y6 := by
    have := t6; simp only [c24, List.drop_succ_cons, List.drop_zero, List.take_succ_cons, List.take_zero] at this; exact this
  obtain ⟨k, e0, _, _⟩ := DataW.trod_int Tryz.underlying3 t0'
  obtain ⟨sa, sn, sc, ss, e1, sr, so, sh, _⟩ := open_b t1'
  obtain ⟨c, e2, _, _⟩ := DataW.trod_int Tryz.underlying3 t2'
  obtain ⟨rr, e3, _, _⟩ := DataW.trod_int Tryz.underlying3 t3'
  obtain ⟨q, e4, _, _⟩ := DataW.trod_int Tryz.underlying3 t4'
  obtain ⟨oa, on, oc, os, e5, hol, orow, oo, oh, op⟩ := open_objs t5'
  obtain ⟨ba, bn, bc, bs, e6, hbl, brow, bo, bh, bp, bb⟩ := open_obs t6'
  cases e0; cases e1; cases e2; cases e3; cases e4; cases e5; cases e6
  rw [hx] at hw
  have w1 : sn ≤ 140737488351232 := by
    rcases sh with rfl | ⟨es, sp, ey, rfl⟩
    · omega
    · have := hw ((es.length + sp.length) * Tryz.prog.bytesOf 5) (by simp [DataW.weights, DataW.weightsEach, Tryz.underlying31, Tryz.underlying27, ey])
      rw [b5] at this
      omega
  have w2 : on * 24 ≤ 140737488355328 := by
    rcases oh with rfl | ⟨es, sp, ey, rfl⟩
    · omega
    · have := hw ((es.length + sp.length) * Tryz.prog.bytesOf 46) (by simp [DataW.weights, DataW.weightsEach, Tryz.underlying31, Tryz.underlying28, ey])
      rw [b42] at this
      omega
  have w3 : bn * 16 ≤ 140737488355328 := by
    rcases bh with rfl | ⟨es, sp, ey, rfl⟩
    · omega
    · have := hw ((es.length + sp.length) * Tryz.prog.bytesOf 54) (by simp [DataW.weights, DataW.weightsEach, Tryz.underlying31, Tryz.underlying29, ey])
      rw [b46] at this
      omega
  have hsl := sr.1
  subst hsl hol hbl
  refine ⟨⟨k, ss, c, rr, q, os, bs⟩, sa, sc, oa, oc, ba, bc, rfl, rfl, rfl, rfl, rfl, rfl, rfl, ⟨sr, so, fun y hy h0 => ?_, by show ss.length ≤ _; omega, orow, oo, op, brow, bo, bp, bb⟩, w2, w3⟩
  obtain ⟨b', off', e', hb', _⟩ := sr.2.2 0 h0
  rw [hy] at e'
  cases e'
  exact hb'
theorem open_msgs {ts : List TypeId} {ds : List (DataW H)} (hsz : (DataW.weightsEach Tryz.prog ts ds).all (· ≤ reachBytes) = true) (j : Nat) {r : Reach} {b0 : Nat} {v : Value} {d : DataW H} {p : List MemPlace} (ht : ts[j]? = some 22) (hd : ds[j]? = some d) (hv : Value.okWide Tryz.prog W r b0 22 v) (h : DataW.Trod enc Tryz.prog W base (fun _ => true) held 22 v d p) :
    ∃ a len cap l, v = .slice a len cap ∧ l.length = len ∧ LstM W (Low W.heap.size) a l := by
  obtain ⟨a, len, cap, rfl⟩ := okWide_slice Tryz.underlying22 hv
  obtain ⟨fuel, hf⟩ := h
  rcases DataW.trod_slice Tryz.underlying22 hf with ⟨hcs, _⟩ | ⟨y, l, c, elems, rest, n, _, hcs, hx, _, hl, _, hel, hat, _, _⟩
  · simp [Value.cells] at hcs
    obtain ⟨rfl, rfl, rfl⟩ := hcs
    exact ⟨none, 0, 0, [], rfl, rfl, fun i M hM => by simp at hM⟩
  · simp [Value.cells] at hcs
    obtain ⟨rfl, rfl, rfl⟩ := hcs
    have hdx : d = .slice (elems.map (·.1)) (rest.map (·.1)) := congrArg Prod.fst hx
    have each : ∀ i, i < len → ∃ M : Msg, ∃ b off sa sc oa oc ba bc, some y = some ⟨b, off, none⟩ ∧ Low W.heap.size b ∧ b < W.heap.size ∧ (W.cell? ⟨b, off + i * 7, none⟩ = some (.int .i64 M.kind) ∧ W.cell? ⟨b, off + i * 7 + 1, none⟩ = some (.slice sa M.sys.length sc) ∧ W.cell? ⟨b, off + i * 7 + 2, none⟩ = some (.int .i64 M.config) ∧ W.cell? ⟨b, off + i * 7 + 3, none⟩ = some (.int .i64 M.result) ∧ W.cell? ⟨b, off + i * 7 + 4, none⟩ = some (.int .i64 M.reason) ∧ W.cell? ⟨b, off + i * 7 + 5, none⟩ = some (.slice oa M.objs.length oc) ∧ W.cell? ⟨b, off + i * 7 + 6, none⟩ = some (.slice ba M.obs.length bc)) ∧ MsgX W (Low W.heap.size) M sa sc oa oc ba bc ∧ M.objs.length * 24 ≤ 140737488355328 ∧ M.obs.length * 16 ≤ 140737488355328 := by
      intro i hi
      have hi2 := hat i hi
      rw [c26] at hi2
      have hei : elems[i]? = some (elems[i]'(by omega)) := List.getElem?_eq_getElem (by omega)
      rw [hei, Option.bind_eq_some_iff] at hi2
      obtain ⟨cs, hcs, htr⟩ := hi2
      obtain ⟨x0, x1, x2, x3, x4, x5, x6, rfl, h0, h1, h2, h3, h4, h5, h6⟩ := sevenCells hcs
      have hmem : (elems[i]'(by omega)).1 ∈ elems.map (·.1) := List.mem_map.2 ⟨elems[i]'(by omega), List.getElem_mem _, rfl⟩
      obtain ⟨M, sa, sc, oa, oc, ba, bc, rfl, rfl, rfl, rfl, rfl, rfl, rfl, xM, hm1, hm2⟩ := open_cells htr (fun n hn => by
        have hm2 := w_all (P := Tryz.prog) (e := 31) hmem n hn
        have := List.all_eq_true.1 hsz _ (DataW.weights_mem_each ht hd _ (show n ∈ _ by
          rw [hdx]
          simp only [DataW.weights, Tryz.underlying22, List.mem_cons, List.mem_append]
          exact .inr (.inl hm2)))
        have h3 : n ≤ reachBytes := by simpa using this
        simp only [reachBytes] at h3
        exact h3)
      obtain ⟨b, off, spot⟩ := y
      have hspot : spot = none := by
        have hi0 := hat 0 (by omega)
        rw [c26, List.getElem?_eq_getElem (show 0 < elems.length by omega), Option.bind_eq_some_iff] at hi0
        obtain ⟨cs0, hcs0, _⟩ := hi0
        obtain ⟨z0, _, _, _, _, _, _, _, hz0, _⟩ := sevenCells hcs0
        simpa [Addr.add] using World.cell?_spot hz0
      subst hspot
      rw [addr_add, addr_add] at h0 h1 h2 h3 h4 h5 h6
      have hlt : b < W.heap.size := by
        rcases Nat.lt_or_ge b W.heap.size with h' | h'
        · exact h'
        · unfold World.cell? at h0
          simp [Array.getElem?_eq_none h'] at h0
      exact ⟨M, b, off, sa, sc, oa, oc, ba, bc, rfl, hlt, hlt, ⟨h0, h1, h2, h3, h4, h5, h6⟩, xM, hm1, hm2⟩
    obtain ⟨lm, hll, hq⟩ := list_of len each
    exact ⟨some y, len, cap, lm, rfl, hll, fun i M hM => hq i M hM⟩
end
end Go.Proofs.YthcfdoafncbliaaGreat
