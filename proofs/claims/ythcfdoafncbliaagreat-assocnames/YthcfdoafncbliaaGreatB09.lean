/-
  Laid together: MgB, RowN, MgC, MgD, MgE.
-/
import Derived.Test.YthcfdoafncbliaaGreatB08
import Derived.Test.YthcfdoafncbliaaGreatB07
import Derived.BigQuiet
/-
  New, isNone, State, leave, one, leadsTo of package assoc.
-/
namespace Go.Proofs.YthcfdoafncbliaaGreat
open Go.RowKit Go.Maps
set_option maxRecDepth 8000
abbrev newC : Array Value := #[.bool true, .int .i64 0, .int .i64 0, .slice none 0 0, .map none]
theorem mg_new {w : World} {g : Nat} (h : w.heap[g]? = some (.cells newC 51 (0, 0))) {P : Nat → Prop} (hp : P g) : MgAt w P g Mg.new :=
  ⟨none, 0, .map none, h, hp, RowT.nil _ _, fun _ => ⟨rfl, rfl⟩, (fun y hy => by cases hy), Nat.zero_le _, List.Pairwise.nil, (fun e => by cases e), .inl rfl, fun _ => rfl⟩
theorem mgNew_any (w : World) : Calls Tryz.prog 5 #[] w fun e w' => e = .returned (Ptr w.heap.size) ∧ w' = w.alloc (.cells newC 51) := by
  go_enter Tryz.func5, Tryz.ntmps5
  go_wp2
  go_ret
  exact ⟨rfl, rfl⟩
theorem mgNone_no {w : World} {g : Nat} {x1 x2 x3 x4 : Value} (h : w.heap[g]? = some (.cells #[.bool true, x1, x2, x3, x4] 51 (0, 0))) :
    Calls Tryz.prog 24 #[Ptr g] w fun e w' => e = .returned (.bool false) ∧ w' = w := by
  obtain ⟨_, ⟨c0, _, _, _, _⟩, _⟩ := five_at h
  clear h
  go_enter Tryz.func24, Tryz.ntmps24
  go_wp2
  go_ret
  exact ⟨rfl, rfl⟩
theorem mgNone_zero {w : World} {g : Nat} {x1 x2 x3 x4 : Value} (h : w.heap[g]? = some (.cells #[.bool false, x1, x2, x3, x4] 51 (0, 0))) :
    Calls Tryz.prog 24 #[Ptr g] w fun e w' => e = .returned (.bool true) ∧ w' = w := by
  obtain ⟨_, ⟨c0, _, _, _, _⟩, _⟩ := five_at h
  clear h
  go_enter Tryz.func24, Tryz.ntmps24
  go_wp2
  go_ret
  exact ⟨rfl, rfl⟩
theorem mgNone_nil (w : World) : Calls Tryz.prog 24 #[.pointer none] w fun e w' => e = .returned (.bool true) ∧ w' = w := by
  go_enter Tryz.func24, Tryz.ntmps24
  go_wp2
  go_ret
  exact ⟨rfl, rfl⟩
theorem mgState_any {w : World} {P : Nat → Prop} {g : Nat} {st : Mg} (x : MgAt w P g st) :
    Calls Tryz.prog 12 #[Ptr g] w fun e w' => e = .returned (.int .i64 st.state) ∧ w' = w := by
  obtain ⟨oa, oc, pv, x⟩ := x
  have H := hideIt (mgNone_no x.at0)
  obtain ⟨_, ⟨_, c1, _, _, _⟩, _⟩ := five_at x.at0
  clear x
  go_enter Tryz.func12, Tryz.ntmps12
  go_wp2_with (go_at_call 24; refine H.out.mono ?_; rintro e w' ⟨rfl, rfl⟩)
  go_ret
  exact ⟨rfl, rfl⟩
theorem mgState_none {w : World} {v : Value} (h : Calls Tryz.prog 24 #[v] w fun e w' => e = .returned (.bool true) ∧ w' = w) :
    Calls Tryz.prog 12 #[v] w fun e w' => e = .returned (.int .i64 0) ∧ w' = w := by
  have H := hideIt h
  clear h
  go_enter Tryz.func12, Tryz.ntmps12
  go_wp2_with (go_at_call 24; refine H.out.mono ?_; rintro e w' ⟨rfl, rfl⟩)
  go_ret
  exact ⟨rfl, rfl⟩
theorem five_set {w : World} {g : Nat} {T : TypeId} {x0 x1 x2 x3 x4 : Value} (h : w.heap[g]? = some (.cells #[x0, x1, x2, x3, x4] T (0, 0))) (y0 y1 y2 y3 y4 : Value) :
    (((((w.setCell ⟨g, 0, none⟩ y0).setCell ⟨g, 1, none⟩ y1).setCell ⟨g, 2, none⟩ y2).setCell ⟨g, 3, none⟩ y3).setCell ⟨g, 4, none⟩ y4).heap[g]? = some (.cells #[y0, y1, y2, y3, y4] T (0, 0)) := by
  have := blk_setA (i := 4) (blk_setA (i := 3) (blk_setA (i := 2) (blk_setA (i := 1) (blk_setA (i := 0) h y0) y1) y2) y3) y4
  simpa using this
theorem but_one (w : World) (g i : Nat) (v : Value) : But (One g) w (w.setCell ⟨g, i, none⟩ v) := But.set (S := One g) But.rfl ⟨g, i, none⟩ (fun _ => Eq.refl _) v
theorem five_but (w : World) (g : Nat) (y0 y1 y2 y3 y4 : Value) : But (One g) w (((((w.setCell ⟨g, 0, none⟩ y0).setCell ⟨g, 1, none⟩ y1).setCell ⟨g, 2, none⟩ y2).setCell ⟨g, 3, none⟩ y3).setCell ⟨g, 4, none⟩ y4) :=
  ((((but_one w g 0 y0).trans (but_one _ g 1 y1)).trans (but_one _ g 2 y2)).trans (but_one _ g 3 y3)).trans (but_one _ g 4 y4)
theorem mgLeave_any {w : World} {P : Nat → Prop} {g : Nat} {st : Mg} (x : MgAt w P g st) :
    Calls Tryz.prog 65 #[Ptr g] w fun e w' => e = .returned (.tuple #[]) ∧ w'.heap[g]? = some (.cells newC 51 (0, 0)) ∧ But (One g) w w' := by
  obtain ⟨oa, oc, pv, x⟩ := x
  have h0 := x.at0
  have hN := mgNew_any w
  have hlt := x.lt
  have HA : After w (w.alloc (.cells newC 51)) := After.rfl.alloc _
  have h1 := new_past w (.cells newC 51) h0
  obtain ⟨_, ⟨d0, d1, d2, d3, d4⟩, f0, f1, f2, f3, f4⟩ := five_at h1
  obtain ⟨_, ⟨c0, c1, c2, c3, c4⟩, _⟩ := five_at (new1 w (.cells newC 51))
  have H1 := hideIt (And.intro h1 HA)
  have HN := hideIt hN
  clear h1 HA hN h0 x
  obtain ⟨wn, hwn⟩ : ∃ wn, w.alloc (.cells newC 51) = wn := ⟨_, rfl⟩
  rw [hwn] at d0 d1 d2 d3 d4 f0 f1 f2 f3 f4 c0 c1 c2 c3 c4 H1 HN
  clear hwn
  go_enter Tryz.func65, Tryz.ntmps65
  go_wp2_with (go_at_call 5; refine HN.out.mono ?_; rintro e w' ⟨rfl, rfl⟩)
  go_end0
  exact ⟨rfl, five_set H1.out.1 _ _ _ _ _, H1.out.2.but.trans (five_but _ _ _ _ _ _ _)⟩
theorem mgOne_any (w : World) (a : An) : Calls Tryz.prog 66 #[.agg a.cells] w fun e w' => ∃ v, e = .returned v ∧ AnsAt w' w.heap.size v (some a) ∧ After w w' := by
  unfold An.cells
  obtain ⟨k, c, r, q⟩ := a
  go_enter Tryz.func66, Tryz.ntmps66
  go_wp2
  go_ret
  exact ⟨_, rfl, ⟨_, rfl, by simp, (new2 _ _ _).2⟩, (After.rfl.alloc _).alloc _⟩
end Go.Proofs.YthcfdoafncbliaaGreat
/-
  Rows of objects and of numbers: told by their cells, owned, appended to none.
-/
namespace Go.Proofs.YthcfdoafncbliaaGreat
open Go.RowKit
set_option maxRecDepth 8000
theorem add_off (b off i : Nat) : (⟨b, off, none⟩ : Addr).add i = ⟨b, off + i, none⟩ := by
  by_cases h0 : i = 0
  · subst h0; simp [Addr.add]
  · simp [Addr.add, h0]
theorem rowT_news {w : World} {x : Addr} {n : Nat} {xs : List T3} (h : RowT w (some x) n xs) : ∀ j u, (cells3 xs)[j]? = some u → w.cell? (x.add j) = some u := by
  intro j u hu
  have hl := cells3_length xs
  have hj : j < xs.length * 3 := by
    rcases Nat.lt_or_ge j (xs.length * 3) with h' | h'
    · exact h'
    · rw [List.getElem?_eq_none (by omega)] at hu; cases hu
  have hn := h.1
  obtain ⟨b, off, y, e, _, hy, c0, c1, c2⟩ := h.2 (j / 3) (by omega)
  cases e
  obtain ⟨e0, e1, e2⟩ := cells3_at xs (j / 3) y hy
  rw [add_off]
  have hm : j = j / 3 * 3 ∨ j = j / 3 * 3 + 1 ∨ j = j / 3 * 3 + 2 := by omega
  rcases hm with hm | hm | hm
  · rw [← hm] at e0
    rw [e0] at hu
    rw [← hu, ← c0]
    congr 2
    omega
  · rw [← hm] at e1
    rw [e1] at hu
    rw [← hu, ← c1]
    congr 2
    omega
  · rw [← hm] at e2
    rw [e2] at hu
    rw [← hu, ← c2]
    congr 2
    omega
theorem own_rowT {w : World} {B : Nat} {T : TypeId} {v : Value} {n : Nat} {xs : List T3} (h : w.ownsRow B T 3 v n (cells3 xs)) : ∃ a c, v = .slice a n c ∧ RowT w a n xs ∧ (a = none → n = 0 ∧ c = 0) ∧ (∀ y, a = some y → B ≤ y.block) := by
  have hl : xs.length = n := by have := h.1; rw [cells3_length] at this; omega
  rcases h.2 with ⟨e, rfl⟩ | ⟨g, cap, cur, e, hb, hg, hnc, _, hcs, htk⟩
  · obtain rfl : xs = [] := List.length_eq_zero_iff.1 hl
    exact ⟨none, 0, e, RowT.nil _ _, fun _ => ⟨rfl, rfl⟩, (fun y hy => by cases hy)⟩
  · refine ⟨some ⟨g, 0, none⟩, cap, e, ⟨hl, fun i hi => ?_⟩, (fun h => by cases h), (fun y hy => by cases hy; exact hb)⟩
    obtain ⟨x, hx⟩ : ∃ x, xs[i]? = some x := ⟨xs[i], List.getElem?_eq_getElem (by omega)⟩
    obtain ⟨e0, e1, e2⟩ := cells3_at xs i x hx
    have hc : ∀ j, j < n * 3 → w.cell? ⟨g, j, none⟩ = (cells3 xs)[j]? := by
      intro j hj
      rw [← htk, List.getElem?_take_of_lt hj]
      have hg' : w.heap[g]? = some (.cells cur.toList.toArray T (0, 0)) := by rw [hg]
      exact cell_blk hg'
    refine ⟨g, 0, x, rfl, (Array.getElem?_eq_some_iff.1 hg).1, hx, ?_, ?_, ?_⟩
    · rw [Nat.zero_add, hc _ (by omega)]; exact e0
    · rw [Nat.zero_add, hc _ (by omega)]; exact e1
    · rw [Nat.zero_add, hc _ (by omega)]; exact e2
/-- Appended to none: in memory of its own. -/
theorem app_objs {w : World} {ops : Array Oper} {rest : List Oper} {o : Oper} {act : Act} {Q : Exit → Act → World → Prop} (hgd : o.guard = none) (s x : Operand)
    (ho : o.op = .call { callee := .builtin .append, args := #[s, x], argTypes := #[28, 28] }) (hs : act.eval s = .slice none 0 0)
    (a : Option Addr) (m c : Nat) (l : List Ob) (hx : act.eval x = .slice a m c) (hr : RowT w a m (l.map Ob.t3)) (ha : a = none → m = 0 ∧ c = 0) (hb : m * 24 ≤ 140737488355328)
    (h : ∀ a' c' w', RowT w' a' m (l.map Ob.t3) → (a' = none → m = 0 ∧ c' = 0) → (∀ y, a' = some y → w.heap.size ≤ y.block) → After w w' → wpList Tryz.prog ops Q rest (act.put o.dst (.slice a' m c')) w') : wpList Tryz.prog ops Q (o :: rest) act w := by
  obtain ⟨i0, hi, hz0, hz1, hz2⟩ := info_parts Tryz.info46
  cases a with
  | none =>
    obtain ⟨rfl, rfl⟩ := ha rfl
    refine wpList_append_own_none hgd s x 28 ho w.heap.size 46 i0 3 Tryz.underlying28 hi (.slice none 0 0) 0 [] hs (World.ownsRow_nil _ _ _ _) hx ?_
    exact h none 0 w hr (fun _ => ⟨rfl, rfl⟩) (fun y hy => by cases hy) After.rfl
  | some ad =>
    have hl1 : (cells3 (l.map Ob.t3)).length = m * 3 := by rw [cells3_length, hr.1]
    refine wpList_append_own w hgd s x 28 ho w.heap.size 46 i0 (.agg #[.int .i64 0, .int .i64 0, .bool false]) 3 24 Tryz.underlying28 hi hz0 hz1 hz2 rfl (by decide) (.slice none 0 0) 0 [] hs (World.ownsRow_nil _ _ _ _) ad m c (cells3 (l.map Ob.t3)) hx hl1 (rowT_news hr) (cells3_one (fun y hy => by obtain ⟨o, _, rfl⟩ := List.mem_map.1 hy; exact o.one3)) (by unfold maxLen; omega) (by omega) (Nat.le_refl _) ?_
    intro v' w' h1 h2 _
    rw [Nat.zero_add, List.nil_append] at h1
    obtain ⟨a', c', rfl, r1, r2, r3⟩ := own_rowT h1
    exact h a' c' w' r1 r2 r3 (But.grown After.rfl h2 (fun k hk => by cases hk))
/-- Appended to none: in memory of its own. -/
theorem app_obs {w : World} {ops : Array Oper} {rest : List Oper} {o : Oper} {act : Act} {Q : Exit → Act → World → Prop} (hgd : o.guard = none) (s x : Operand)
    (ho : o.op = .call { callee := .builtin .append, args := #[s, x], argTypes := #[29, 29] }) (hs : act.eval s = .slice none 0 0)
    (a : Option Addr) (m c : Nat) (l : List Bi) (hx : act.eval x = .slice a m c) (hr : RowT w a m (l.map Bi.t3)) (ha : a = none → m = 0 ∧ c = 0) (hb : m * 16 ≤ 140737488355328)
    (h : ∀ a' c' w', RowT w' a' m (l.map Bi.t3) → (a' = none → m = 0 ∧ c' = 0) → (∀ y, a' = some y → w.heap.size ≤ y.block) → After w w' → wpList Tryz.prog ops Q rest (act.put o.dst (.slice a' m c')) w') : wpList Tryz.prog ops Q (o :: rest) act w := by
  obtain ⟨i0, hi, hz0, hz1, hz2⟩ := info_parts Tryz.info54
  cases a with
  | none =>
    obtain ⟨rfl, rfl⟩ := ha rfl
    refine wpList_append_own_none hgd s x 29 ho w.heap.size 54 i0 3 Tryz.underlying29 hi (.slice none 0 0) 0 [] hs (World.ownsRow_nil _ _ _ _) hx ?_
    exact h none 0 w hr (fun _ => ⟨rfl, rfl⟩) (fun y hy => by cases hy) After.rfl
  | some ad =>
    have hl1 : (cells3 (l.map Bi.t3)).length = m * 3 := by rw [cells3_length, hr.1]
    refine wpList_append_own w hgd s x 29 ho w.heap.size 54 i0 (.agg #[.int .i64 0, .bool false, .int .u32 0]) 3 16 Tryz.underlying29 hi hz0 hz1 hz2 rfl (by decide) (.slice none 0 0) 0 [] hs (World.ownsRow_nil _ _ _ _) ad m c (cells3 (l.map Bi.t3)) hx hl1 (rowT_news hr) (cells3_one (fun y hy => by obtain ⟨o, _, rfl⟩ := List.mem_map.1 hy; exact o.one3)) (by unfold maxLen; omega) (by omega) (Nat.le_refl _) ?_
    intro v' w' h1 h2 _
    rw [Nat.zero_add, List.nil_append] at h1
    obtain ⟨a', c', rfl, r1, r2, r3⟩ := own_rowT h1
    exact h a' c' w' r1 r2 r3 (But.grown After.rfl h2 (fun k hk => by cases hk))
end Go.Proofs.YthcfdoafncbliaaGreat
/-
  slices.Clone of objects, Objects, operate and has of package assoc.
-/
namespace Go.Proofs.YthcfdoafncbliaaGreat
open Go.RowKit Go.Maps
set_option maxRecDepth 8000
theorem cloneO_any (a : Option Addr) (n c : Nat) (l : List Ob) (w : World) (hr : RowT w a n (l.map Ob.t3)) (ha : a = none → n = 0 ∧ c = 0) (hn : n * 24 ≤ 140737488355328) :
    Calls Tryz.prog 30 #[.slice a n c] w fun e w' => ∃ v, e = .returned v ∧ w'.ownsRow w.heap.size 46 3 v n (cells3 (l.map Ob.t3)) ∧ After w w' := by
  obtain ⟨i0, hi, hz0, hz1, hz2⟩ := info_parts Tryz.info46
  cases a with
  | none =>
    obtain ⟨rfl, rfl⟩ := ha rfl
    have hz : l = [] := by have := hr.1; simpa using this
    subst hz
    clear hr
    have hq := fun W => Lib.run_eql_slice_nil (P := Tryz.prog) W 28 46 none 0 0 0 0 Tryz.underlying28
    go_enter Tryz.func30, Tryz.ntmps30
    go_wp2
    go_ret
    exact ⟨_, rfl, World.ownsRow_nil _ _ _ _, After.rfl⟩
  | some x =>
    have HL := hideIt (show (cells3 (l.map Ob.t3)).length = n * 3 by rw [cells3_length, hr.1])
    have HO1 := hideIt (World.ownsRow_lit (base := w.heap.size) (e := 46) (size := 3) w #[] 0 (Nat.le_refl _) (by decide) rfl)
    have HW := hideIt (rowT_news (hr.after (After.rfl.alloc (.cells #[] 46))))
    have H1 := hideIt (cells3_one (xs := l.map Ob.t3) (fun y hy => by obtain ⟨o, _, rfl⟩ := List.mem_map.1 hy; exact o.one3))
    clear hr ha
    have hq := fun W => Lib.run_eql_slice_nil (P := Tryz.prog) W 28 46 (some x) n c 0 0 Tryz.underlying28
    generalize cells3 (l.map Ob.t3) = cs at *
    go_enter Tryz.func30, Tryz.ntmps30
    go_wp2_with (at_builtin; refine wpList_append_own _ rfl (.tmp 5) (.tmp 6) 28 rfl w.heap.size 46 i0 (.agg #[.int .i64 0, .int .i64 0, .bool false]) 3 24 Tryz.underlying28 hi hz0 hz1 hz2 rfl (by decide) _ 0 [] rfl HO1.out x n c cs rfl HL.out HW.out H1.out (by unfold maxLen; omega) (by omega) (by simp) ?_; intro v1 w1 ho hg _; rw [Nat.zero_add, List.nil_append] at ho; have HO := hideIt ho; have HG := hideIt hg; clear ho hg)
    go_ret
    refine ⟨_, rfl, HO.out, But.grown (But.rfl.alloc _) HG.out (fun k hk hl => ?_)⟩
    have hk2 : some w.heap.size = some k := hk
    injection hk2 with e
    omega
theorem mgObjs_any {w : World} {P : Nat → Prop} {g : Nat} {st : Mg} (x : MgAt w P g st) :
    Calls Tryz.prog 14 #[Ptr g] w fun e w' => ∃ v, e = .returned v ∧ w'.ownsRow w.heap.size 46 3 v st.objs.length (cells3 (st.objs.map Ob.t3)) ∧ After w w' := by
  obtain ⟨oa, oc, pv, x⟩ := x
  have H := hideIt (mgNone_no x.at0)
  obtain ⟨_, ⟨_, _, _, c3, _⟩, _⟩ := five_at x.at0
  have HC := hideIt (cloneO_any oa st.objs.length oc st.objs w x.or x.on (by have := x.ol; omega))
  clear x
  generalize st.objs.length = n at *
  go_enter Tryz.func14, Tryz.ntmps14
  go_wp2_with (first | (go_at_call 24; refine H.out.mono ?_; rintro e w' ⟨rfl, rfl⟩) | (go_at_call 30; refine HC.out.mono ?_; rintro e w1 ⟨v, rfl, h1⟩; have H1 := hideIt h1; clear h1))
  go_ret
  exact ⟨_, rfl, H1.out⟩
theorem mgObjs_none {w : World} {v : Value} (h : Calls Tryz.prog 24 #[v] w fun e w' => e = .returned (.bool true) ∧ w' = w) :
    Calls Tryz.prog 14 #[v] w fun e w' => e = .returned (.slice none 0 0) ∧ w' = w := by
  have H := hideIt h
  clear h
  go_enter Tryz.func14, Tryz.ntmps14
  go_wp2_with (go_at_call 24; refine H.out.mono ?_; rintro e w' ⟨rfl, rfl⟩)
  go_ret
  exact ⟨rfl, rfl⟩
theorem run_hint (n : Nat) (w : World) : (Instr.makeMap 49 (some (.int .i64 (n : Int)))).run Tryz.prog w = .ok (.map (some w.heap.size)) (w.alloc (.map #[] 0)) := by
  simp [Instr.makeMap, run_underlying Tryz.underlying49, go_sem]
theorem lays_none (w : World) : LaysN (w.alloc (.map #[] 0)) w.heap.size 0 [] :=
  ⟨.map [], World.ownsMap_made _ _ _ _, (fun i o h => by simp at h), fun _ _ => rfl⟩
theorem key_ne {a b : Int} (h : a ≠ b) : (Lit.int .i64 a) ≠ Lit.int .i64 b := fun e => h (by cases e; rfl)
theorem lays_more {w' : World} {mb n : Nat} {l : List Ob} {o : Ob} {D : DataW Unit} (hm : IsMap D) (hk : WideAt.IsKeyLit (.int .i64 o.h)) (h1 : ∀ (i : Nat) (o : Ob), l[i]? = some o → Maps.has D (.int .i64 o.h) = true ∧ D.atKey (.int .i64 o.h) (.lit (.int .i64 0)) = .lit (.int .i64 (i : Int)))
    (h2 : ∀ h : Int, (∀ o ∈ l, o.h ≠ h) → Maps.has D (.int .i64 h) = false) (hne : ∀ p ∈ l, p.h ≠ o.h) (ho : w'.ownsMap Tryz.prog 3 (plainElem Tryz.prog 3) mb n (D.put (.int .i64 o.h) (.lit (.int .i64 (l.length : Int))))) : LaysN w' mb n (l ++ [o]) := by
  refine ⟨_, ho, fun i p hp => ?_, fun h hh => ?_⟩
  · by_cases hi : i < l.length
    · rw [List.getElem?_append_left hi] at hp
      have hn := hne p (List.mem_of_getElem? hp)
      obtain ⟨e1, e2⟩ := h1 i p hp
      exact ⟨by rw [Maps.has_put_other (key_ne hn)]; exact e1, by rw [Maps.atKey_put_other (key_ne hn)]; exact e2⟩
    · rw [List.getElem?_append_right (by omega)] at hp
      have e0 : i - l.length = 0 := by
        rcases Nat.eq_zero_or_pos (i - l.length) with h | h
        · exact h
        · rw [List.getElem?_eq_none (by simp; omega)] at hp; cases hp
      rw [e0] at hp
      have ei : i = l.length := by omega
      subst ei
      obtain rfl : o = p := by simpa using hp
      exact ⟨Maps.has_put_same hm hk _, Maps.atKey_put_same hm hk _ _⟩
  · rw [Maps.has_put_other (key_ne (fun e => hh o (by simp) e.symm))]
    exact h2 h (fun p hp => hh p (by simp [hp]))
set_option maxHeartbeats 1000000 in
theorem operate_any {w : World} {P : Nat → Prop} {g : Nat} {st : Mg} (x : MgAt w P g st) (a : Option Addr) (n c : Nat) (l : List Ob) (hr : RowT w a n (l.map Ob.t3)) (ha : a = none → n = 0 ∧ c = 0) (hn : n ≤ 16) (hg : ∀ y, a = some y → 0 < n → y.block ≠ g) (hp : l.Pairwise (fun a b => a.h ≠ b.h)) (hh : ∀ o ∈ l, 0 ≤ o.h ∧ o.h ≤ 65535) :
    Calls Tryz.prog 67 #[Ptr g, .slice a n c] w fun e w' => e = .returned (.tuple #[]) ∧ MgAt w' (fun k => k = g ∨ w.heap.size ≤ k) g ⟨2, 0, l⟩ ∧ But (One g) w w' := by
  obtain ⟨oa, oc, pv, x⟩ := x
  have h0 := x.at0
  have hlt := x.lt
  have hl : l.length = n := by have := hr.1; simpa using this
  clear x
  have hmk := run_hint n
  have HR := hideIt (And.intro hr (And.intro ha (And.intro hn (And.intro hg (And.intro hp (And.intro hh (And.intro h0 (And.intro hlt hl))))))))
  clear hr ha hn hg hp hh h0 hlt hl
  go_enter Tryz.func67, Tryz.ntmps67
  go_wp2_with fail
  go_loopw [12] (fun i W => ∃ k : Nat, k ≤ n ∧ i = .int .i64 k ∧ LaysN W w.heap.size k (l.take k) ∧ After w W) (fun i _ => n - (intOf i).toNat)
  case atStart => exact ⟨0, Nat.zero_le _, rfl, lays_none w, After.rfl.alloc _⟩
  case round =>
    obtain ⟨k, hk, rfl, hL, hA⟩ := hrel
    by_cases hlt : k < n
    · obtain ⟨hr, ha, hn, hg, hp, hh, h0, hl0, hl⟩ := HR.out
      obtain ⟨b, off, y, rfl, hb, hy, c0, c1, c2⟩ := hr.2 k hlt
      obtain ⟨o, ho, rfl⟩ : ∃ o, l[k]? = some o ∧ y = o.t3 := by
        rw [List.getElem?_map] at hy
        obtain ⟨o, h1, h2⟩ := Option.map_eq_some_iff.1 hy
        exact ⟨o, h1, h2.symm⟩
      have hmem := List.mem_of_getElem? ho
      have hho := hh o hmem
      rw [← hA.cell hb] at c0 c1 c2
      obtain ⟨D, hown, h1, h2⟩ := hL
      have hsz : w.heap.size < wr.heap.size := hown.lt
      have hkl : (k : Int) < (n : Int) := by omega
      have htk : l.take (k + 1) = l.take k ++ [o] := by rw [List.take_add_one, ho]; rfl
      have hlk : (l.take k).length = k := by rw [List.length_take]; omega
      have hne : ∀ p ∈ l.take k, p.h ≠ o.h := by
        intro p hpm
        obtain ⟨i, hi, rfl⟩ := List.mem_iff_getElem.1 hpm
        have hi' : i < k := by omega
        rw [List.getElem_take]
        have hk' : k < l.length := by omega
        have e : l[k] = o := by rw [List.getElem?_eq_getElem hk'] at ho; exact Option.some.inj ho
        rw [← e]
        exact List.pairwise_iff_getElem.1 hp i k (by omega) hk' hi'
      have hkey : keyOf Tryz.prog 3 (.int .i64 o.h) = some (.int .i64 o.h) := keyOf_int_mk Tryz.underlying3 (WalkArith.wf_i64 (by omega))
      have HKEY := hideIt hkey
      have HM := hideIt (And.intro hown.isMap (And.intro h1 (And.intro h2 (And.intro hne (And.intro htk hlk)))))
      have HOWN := hideIt hown
      have HA := hideIt hA
      have hwf : (Lit.int .i64 (k : Int)).wf = true := WalkArith.wf_i64 (by omega)
      have HWF := hideIt hwf
      have hmax : k < maxLen := by unfold maxLen; omega
      have HMX := hideIt hmax
      have ea : (⟨b, off, none⟩ : Addr).add (k * 3) = ⟨b, off + k * 3, none⟩ := add_off _ _ _
      clear hr ha hg hp hh h0 hl0 hl hy ho hmem hho hown h1 h2 htk hlk hne hkey hA hwf hmax hmk
      unfold Ob.t3 at c0 c1 c2
      dsimp only at c0 c1 c2
      go_wp2_with (at_mapUpdate; refine wpList_mapUpdate_own _ rfl _ _ _ 49 rfl 3 3 keyed3 Tryz.underlying49 _ w.heap.size k _ rfl (HOWN.out.alloc _) HMX.out _ _ _ rfl rfl HKEY.out _ [] (plainElem_int Tryz.underlying3 HWF.out) ?_; intro w1 hown1 hgrow1; have HO1 := hideIt hown1; have HG1 := hideIt hgrow1; clear hown1 hgrow1)
      go_roundw
      case rel =>
        obtain ⟨hm, h1, h2, hne, htk, hlk⟩ := HM.out
        refine ⟨k + 1, by omega, by go_num, ?_, ?_⟩
        · rw [htk]
          refine lays_more hm trivial h1 h2 hne ?_
          rw [hlk]
          exact HO1.out
        · exact But.grown (HA.out.alloc _) HG1.out (fun j hj hlt => by cases hj; exact absurd hlt (Nat.lt_irrefl _))
      case measure => simp [intOf]; omega
    · obtain rfl : k = n := by omega
      obtain ⟨hr, ha, hn, hg, hp, hh, h0, hl0, hl⟩ := HR.out
      have HC := hideIt (cloneO_any a k c l wr (hr.after hA) ha (by omega))
      have hkl : ¬ (k : Int) < (k : Int) := by omega
      rw [List.take_of_length_le (by omega)] at hL
      have HX := hideIt (And.intro hL (And.intro hA h0))
      clear hr ha hg hp hh h0 hL hA hmk hlt
      go_wp2_with fail
      refine HC.out.mono ?_
      rintro e w1 ⟨v, rfl, ho, a1⟩
      obtain ⟨a', c', rfl, r1, r2, r3⟩ := own_rowT ho
      obtain ⟨hL, hA, h0⟩ := HX.out
      have hAA := hA.trans a1
      have q0 := (But.block hAA g hl0 (fun t => t)).trans h0
      obtain ⟨_, ⟨d0, d1, d2, d3, d4⟩, f0, f1, f2, f3, f4⟩ := five_at q0
      have hLs : w.heap.size < wr.heap.size := by obtain ⟨D, h, _⟩ := hL; exact h.lt
      have HY := hideIt (And.intro hL (And.intro hA (And.intro a1 (And.intro q0 (And.intro r1 (And.intro r2 (And.intro r3 (And.intro hLs (And.intro hl0 (And.intro hl hn))))))))))
      clear ho r1 r2 r3 hL hA h0 hAA a1 q0 HX HC hLs hl0 hl hn
      go_wp2_with fail
      go_end0
      obtain ⟨hL, hA, a1, q0, r1, r2, r3, hLs, hl0, hl, hn⟩ := HY.out
      obtain ⟨_, _, _, _, hp, hh, _⟩ := HR.out
      have B := five_but w1 g (.bool true) (.int .i64 2) (.int .i64 0) (.slice a' k c') (.map (some w.heap.size))
      have hgw : ∀ j, w.heap.size ≤ j → ¬ One g j := fun j hj e => by cases e; omega
      subst hl
      refine ⟨rfl, ⟨a', c', _, five_set q0 _ _ _ _ _, .inl rfl, r1.but B (fun y hy _ => hgw _ (Nat.le_trans hA.size (r3 y hy))), r2, fun y hy _ => .inr (Nat.le_trans hA.size (r3 y hy)), hn, hp, fun _ => ⟨_, rfl, .inr (Nat.le_refl _), _, (hL.but a1 (fun t => t)).but B (hgw _ (Nat.le_refl _))⟩, .inr (.inr rfl), fun h => absurd rfl h⟩, (hA.trans a1).but.trans B⟩
end Go.Proofs.YthcfdoafncbliaaGreat
/-
  has, sampleOf and scanned of package assoc.
-/
namespace Go.Proofs.YthcfdoafncbliaaGreat
open Go.RowKit Go.Maps
set_option maxRecDepth 8000
theorem hasO_at {l : List Ob} (hp : l.Pairwise (fun a b => a.h ≠ b.h)) {i : Nat} {p : Ob} (hi : l[i]? = some p) {o : Bi} (ho : p.h = o.h) : hasO l o = (p.l == o.l) := by
  have hmem := List.mem_of_getElem? hi
  unfold hasO
  by_cases hl : p.l = o.l
  · rw [hl, beq_self_eq_true]
    exact List.any_eq_true.2 ⟨p, hmem, decide_eq_true ⟨ho, hl⟩⟩
  · have hb : (p.l == o.l) = false := by simpa using hl
    rw [hb]
    apply Bool.eq_false_iff.2
    intro h
    obtain ⟨q, hq, hd⟩ := List.any_eq_true.1 h
    obtain ⟨e1, e2⟩ := of_decide_eq_true hd
    obtain ⟨j, hj, rfl⟩ := List.mem_iff_getElem.1 hq
    have hil : i < l.length := by
      rcases Nat.lt_or_ge i l.length with h' | h'
      · exact h'
      · rw [List.getElem?_eq_none h'] at hi; cases hi
    have epi : l[i] = p := by rw [List.getElem?_eq_getElem hil] at hi; exact Option.some.inj hi
    by_cases hij : i = j
    · subst hij
      rw [epi] at e2
      exact hl e2
    · have := List.pairwise_iff_getElem.1 hp
      rcases Nat.lt_or_gt_of_ne hij with h' | h'
      · exact this i j hil hj h' (by rw [epi, ho, e1])
      · exact this j i hj hil h' (by rw [epi, ho, e1])
theorem hasO_no {l : List Ob} {o : Bi} (h : ∀ p ∈ l, p.h ≠ o.h) : hasO l o = false := by
  apply Bool.eq_false_iff.2
  intro hh
  obtain ⟨q, hq, hd⟩ := List.any_eq_true.1 hh
  exact h q hq (of_decide_eq_true hd).1
set_option maxHeartbeats 1000000 in
theorem has_any {w : World} {P : Nat → Prop} {g : Nat} {st : Mg} (x : MgAt w P g st) (hs : st.state = 2) (o : Bi) (hh : 0 ≤ o.h ∧ o.h ≤ 65535) :
    Calls Tryz.prog 68 #[Ptr g, o.val] w fun e w' => e = .returned (.bool (hasO st.objs o)) ∧ After w w' := by
  obtain ⟨oa, oc, pv, x⟩ := x
  obtain ⟨mb, rfl, hmb, hL⟩ := x.mp hs
  obtain ⟨oh, ol, ob⟩ := o
  obtain ⟨w0, hw0⟩ : ∃ w0, w.alloc (.cells #[.int .i64 oh, .bool ol, .int .u32 ob] 54) = w0 := ⟨_, rfl⟩
  have hA : After w w0 := by rw [← hw0]; exact After.rfl.alloc _
  have hB : w0.heap[w.heap.size]? = some (.cells #[.int .i64 oh, .bool ol, .int .u32 ob] 54 (0, 0)) := by rw [← hw0]; exact new1 _ _
  have x0 := x.but (S := Non) hA (fun _ _ t => t)
  obtain ⟨_, ⟨c0, c1, c2, c3, c4⟩, _⟩ := five_at x0.at0
  have k0 : w0.cell? ⟨w.heap.size, 0, none⟩ = some (.int .i64 oh) := by simp [World.cell?, hB]
  have k1 : w0.cell? ⟨w.heap.size, 1, none⟩ = some (.bool ol) := by simp [World.cell?, hB]
  have hlook := (hL.but hA (fun t => t)).look oh hh
  have HA := hideIt hA
  unfold Bi.val
  dsimp only
  rcases hlook with ⟨i, p, hi, hph, hrun⟩ | ⟨hno, hrun⟩
  · have hil : i < st.objs.length := by
      rcases Nat.lt_or_ge i st.objs.length with h' | h'
      · exact h'
      · rw [List.getElem?_eq_none h'] at hi; cases hi
    rw [hasO_at x.od hi (o := ⟨oh, ol, ob⟩) hph]
    obtain ⟨b, off, y, rfl, hb, hy, d0, d1, d2⟩ := x0.or.2 i hil
    have ey : y = p.t3 := by
      rw [List.getElem?_map, hi] at hy
      exact (Option.some.inj hy).symm
    subst ey
    unfold Ob.t3 at d2
    dsimp only at d2 ⊢
    have hin : (i : Int) < (st.objs.length : Int) := by omega
    have hd : (true : Bool) = true := rfl
    clear hA hB x0 x hL hmb hs hh hi hph hy d0 d1 hil hd
    generalize st.objs.length = n at *
    go_enter Tryz.func68, Tryz.ntmps68
    go_wp2_with fail
    go_quiet (fail)
    have A1 := hideIt (HA.out.draws nq)
    have c3' : (w0.drewN nq).cell? ⟨g, 3, none⟩ = some (.slice (some ⟨b, off, none⟩) n oc) := c3
    have d2' : (w0.drewN nq).cell? ⟨b, off + i * 3 + 2, none⟩ = some (.bool p.l) := d2
    have k1' : (w0.drewN nq).cell? ⟨w.heap.size, 1, none⟩ = some (.bool ol) := k1
    clear hrun c0 c1 c2 c3 c4 d2 k0 k1 hw0 HA
    generalize w0.drewN nq = W1 at *
    go_wp2_with fail
    go_quiet (fail)
    go_wp2
    go_ret
    exact ⟨rfl, A1.out.draws _⟩
  · rw [hasO_no (o := ⟨oh, ol, ob⟩) hno]
    clear hA hB x0 x hL hmb hs hh hno
    generalize st.objs.length = n at *
    go_enter Tryz.func68, Tryz.ntmps68
    go_wp2_with fail
    go_quiet (fail)
    have A1 := hideIt (HA.out.draws nq)
    clear hrun c0 c1 c2 c3 c4 k0 k1 hw0 HA
    generalize w0.drewN nq = W1 at *
    go_wp2_with fail
    go_quiet (fail)
    go_wp2
    go_ret
    exact ⟨rfl, A1.out.draws _⟩
theorem keep3 {w w' : World} {k : Nat} {o : Obj} (h : w.heap[k]? = some o) (a : After w w') : w'.heap[k]? = some o := (But.block a k (Array.getElem?_eq_some_iff.1 h).1 (fun t => t)).trans h
theorem four_at {w : World} {g : Nat} {T : TypeId} {x0 x1 x2 x3 : Value} (h : w.heap[g]? = some (.cells #[x0, x1, x2, x3] T (0, 0))) :
    g < w.heap.size ∧ (w.cell? ⟨g, 0, none⟩ = some x0 ∧ w.cell? ⟨g, 1, none⟩ = some x1 ∧ w.cell? ⟨g, 2, none⟩ = some x2 ∧ w.cell? ⟨g, 3, none⟩ = some x3) ∧ (w.frozen? ⟨g, 0, none⟩ = false ∧ w.frozen? ⟨g, 1, none⟩ = false ∧ w.frozen? ⟨g, 2, none⟩ = false ∧ w.frozen? ⟨g, 3, none⟩ = false) := by
  refine ⟨(Array.getElem?_eq_some_iff.1 h).1, ⟨?_, ?_, ?_, ?_⟩, ?_, ?_, ?_, ?_⟩
  iterate 4 · simp [World.cell?, h]
  all_goals simp [World.frozen?, h]
theorem four_set {w : World} {g : Nat} {T : TypeId} {x0 x1 x2 x3 : Value} (h : w.heap[g]? = some (.cells #[x0, x1, x2, x3] T (0, 0))) (y0 y1 y2 y3 : Value) :
    ((((w.setCell ⟨g, 0, none⟩ y0).setCell ⟨g, 1, none⟩ y1).setCell ⟨g, 2, none⟩ y2).setCell ⟨g, 3, none⟩ y3).heap[g]? = some (.cells #[y0, y1, y2, y3] T (0, 0)) := by
  have := blk_setA (i := 3) (blk_setA (i := 2) (blk_setA (i := 1) (blk_setA (i := 0) h y0) y1) y2) y3
  simpa using this
theorem four_after {w W : World} (a : After w W) {g : Nat} (hg : w.heap.size ≤ g) (y0 y1 y2 y3 : Value) : After w ((((W.setCell ⟨g, 0, none⟩ y0).setCell ⟨g, 1, none⟩ y1).setCell ⟨g, 2, none⟩ y2).setCell ⟨g, 3, none⟩ y3) :=
  (((a.set _ hg _).set _ hg _).set _ hg _).set _ hg _
theorem tri_at {w : World} {g : Nat} {T : TypeId} {x0 x1 x2 : Value} (h : w.heap[g]? = some (.cells #[x0, x1, x2] T (0, 0))) :
    g < w.heap.size ∧ (w.cell? ⟨g, 0, none⟩ = some x0 ∧ w.cell? ⟨g, 1, none⟩ = some x1 ∧ w.cell? ⟨g, 2, none⟩ = some x2) ∧ (w.frozen? ⟨g, 0, none⟩ = false ∧ w.frozen? ⟨g, 1, none⟩ = false ∧ w.frozen? ⟨g, 2, none⟩ = false) := by
  refine ⟨(Array.getElem?_eq_some_iff.1 h).1, ⟨?_, ?_, ?_⟩, ?_, ?_, ?_⟩
  iterate 3 · simp [World.cell?, h]
  all_goals simp [World.frozen?, h]
theorem tri_set {w : World} {g : Nat} {T : TypeId} {x0 x1 x2 : Value} (h : w.heap[g]? = some (.cells #[x0, x1, x2] T (0, 0))) (y0 y1 y2 : Value) :
    (((w.setCell ⟨g, 0, none⟩ y0).setCell ⟨g, 1, none⟩ y1).setCell ⟨g, 2, none⟩ y2).heap[g]? = some (.cells #[y0, y1, y2] T (0, 0)) := by
  have := blk_setA (i := 2) (blk_setA (i := 1) (blk_setA (i := 0) h y0) y1) y2
  simpa using this
theorem sampleOf_any (w : World) (o : Bi) (hb : 0 ≤ o.b ∧ o.b < 4294967296) :
    Calls Tryz.prog 69 #[o.val] w fun e w' => e = .returned (smOf o).val ∧ After w w' := by
  obtain ⟨oh, ol, ob⟩ := o
  dsimp only at hb
  obtain ⟨w0, hw0⟩ : ∃ w0, (w.alloc (.cells #[.int .i64 oh, .bool ol, .int .u32 ob] 54)).alloc (.cells #[.int .i64 0, .int .i64 0, .int .i64 0, .int .i64 0] 69) = w0 := ⟨_, rfl⟩
  have hA : After w w0 := by rw [← hw0]; exact (After.rfl.alloc _).alloc _
  obtain ⟨hB, hR⟩ := new2 w (.cells #[.int .i64 oh, .bool ol, .int .u32 ob] 54) (.cells #[.int .i64 0, .int .i64 0, .int .i64 0, .int .i64 0] 69)
  rw [hw0] at hB hR
  have H1 := hideIt (long_any ob w0 hb.1 (by omega))
  unfold Bi.val
  dsimp only
  have k1 : w0.cell? ⟨w.heap.size, 1, none⟩ = some (.bool ol) := by simp [World.cell?, hB]
  have k2 : w0.cell? ⟨w.heap.size, 2, none⟩ = some (.int .u32 ob) := by simp [World.cell?, hB]
  have HB := hideIt (And.intro hA (And.intro hB (And.intro hR hb)))
  clear hA hB hR hb
  go_enter Tryz.func69, Tryz.ntmps69
  go_wp2_with fail
  refine H1.out.mono ?_
  rintro e w1 ⟨rfl, a1⟩
  obtain ⟨hA, hB, hR, hb⟩ := HB.out
  have B1 := keep3 hB a1
  have R1 := keep3 hR a1
  clear k1 k2 H1 hw0
  have hs1 : w.heap.size + 1 < w1.heap.size := (Array.getElem?_eq_some_iff.1 R1).1
  obtain ⟨w2, hw2⟩ : ∃ w2, w1.alloc (.cells #[.int .i64 (loK ob), .int .i64 (loM ob), .int .i64 (loE ob)] 67) = w2 := ⟨_, rfl⟩
  have a2 : After w1 w2 := by rw [← hw2]; exact After.rfl.alloc _
  have V2 : w2.heap[w1.heap.size]? = some (.cells #[.int .i64 (loK ob), .int .i64 (loM ob), .int .i64 (loE ob)] 67 (0, 0)) := by rw [← hw2]; exact new1 _ _
  have B2 := keep3 B1 a2
  have R2 := keep3 R1 a2
  have k0 : w2.cell? ⟨w.heap.size, 0, none⟩ = some (.int .i64 oh) := by simp [World.cell?, B2]
  have k1 : w2.cell? ⟨w.heap.size, 1, none⟩ = some (.bool ol) := by simp [World.cell?, B2]
  have k2 : w2.cell? ⟨w.heap.size, 2, none⟩ = some (.int .u32 ob) := by simp [World.cell?, B2]
  have HAA := hideIt (hA.trans (a1.trans a2))
  cases ol with
  | true =>
    have HV : Hid ((smOf ⟨oh, true, ob⟩).val = .agg #[.int .i64 oh, .int .i64 (loK ob), .int .i64 (loM ob), .int .i64 (loE ob)]) := rfl
    obtain ⟨_, ⟨r0, r1, r2, r3⟩, f0, f1, f2, f3⟩ := four_at R2
    obtain ⟨_, ⟨v0, v1, v2⟩, _⟩ := tri_at V2
    have HR2 := hideIt R2
    clear hA hB hR hb B1 R1 a1 a2 V2 B2 R2 HB
    generalize loK ob = x at *
    generalize loM ob = y at *
    generalize loE ob = z at *
    go_wp2_with fail
    obtain ⟨_, ⟨q0, q1, q2, q3⟩, _⟩ := four_at (four_set HR2.out (.int .i64 oh) (.int .i64 x) (.int .i64 y) (.int .i64 z))
    have HAF := hideIt (four_after HAA.out (g := w.heap.size + 1) (by omega) (.int .i64 oh) (.int .i64 x) (.int .i64 y) (.int .i64 z))
    generalize (((w2.setCell ⟨w.heap.size + 1, 0, none⟩ (.int .i64 oh)).setCell ⟨w.heap.size + 1, 1, none⟩ (.int .i64 x)).setCell ⟨w.heap.size + 1, 2, none⟩ (.int .i64 y)).setCell ⟨w.heap.size + 1, 3, none⟩ (.int .i64 z) = w9 at *
    exact bodyPost_ret (v := .agg #[.int .i64 oh, .int .i64 x, .int .i64 y, .int .i64 z]) (by simp [results, Tryz.results69, go_sem, q0, q1, q2, q3]) rfl ⟨congrArg Ending.returned HV.out.symm, HAF.out⟩
  | false =>
    have HV : Hid ((smOf ⟨oh, false, ob⟩).val = .agg #[.int .i64 oh, .int .i64 (shK (ob % 65536)), .int .i64 (shM (ob % 65536)), .int .i64 (shE (ob % 65536))]) := rfl
    have H3 := hideIt (short_any (ob % 65536) w2 (by omega) (by omega))
    have HZ := hideIt (And.intro B2 (And.intro R2 V2))
    obtain ⟨_, ⟨v0, v1, v2⟩, g0, g1, g2⟩ := tri_at V2
    have hwr : IntKind.u16.wrap ob = ob % 65536 := rfl
    clear hA hB hR hb B1 R1 a1 a2 V2 B2 R2 HB
    generalize loK ob = x' at *
    generalize loM ob = y' at *
    generalize loE ob = z' at *
    go_wp2_with fail
    refine H3.out.mono ?_
    rintro e w3 ⟨rfl, a3⟩
    obtain ⟨B2, R2, V2⟩ := HZ.out
    have hv : w.heap.size + 1 < w1.heap.size := hs1
    have B3 := keep3 B2 a3
    have R3 := keep3 R2 a3
    have V3 := keep3 V2 a3
    clear k0 k1 k2 v0 v1 v2 g0 g1 g2 hw2 H3 hwr
    obtain ⟨_, ⟨k0, k1, k2⟩, _⟩ := tri_at B3
    obtain ⟨_, ⟨r0, r1, r2, r3⟩, f0, f1, f2, f3⟩ := four_at R3
    obtain ⟨_, ⟨v0, v1, v2⟩, g0, g1, g2⟩ := tri_at V3
    have HR3 := hideIt R3
    have HA3 := hideIt (HAA.out.trans a3)
    clear B2 R2 V2 B3 R3 V3 a3 HZ HAA
    generalize shK (ob % 65536) = x at *
    generalize shM (ob % 65536) = y at *
    generalize shE (ob % 65536) = z at *
    generalize hgv : w1.heap.size = gv at *
    clear hgv
    have n1 : gv ≠ w.heap.size := by omega
    have n2 : gv ≠ w.heap.size + 1 := by omega
    have n3 : w.heap.size ≠ gv := by omega
    have n4 : w.heap.size + 1 ≠ gv := by omega
    go_wp2_with fail
    have R4 := four_set (set_far (g := gv) (o := 2) (x := .int .i64 z) (set_far (g := gv) (o := 1) (x := .int .i64 y) (set_far (g := gv) (o := 0) (x := .int .i64 x) HR3.out n4) n4) n4) (.int .i64 oh) (.int .i64 x) (.int .i64 y) (.int .i64 z)
    obtain ⟨_, ⟨q0, q1, q2, q3⟩, _⟩ := four_at R4
    have HAF := hideIt (four_after (((HA3.out.set ⟨gv, 0, none⟩ (by show w.heap.size ≤ gv; omega) (.int .i64 x)).set ⟨gv, 1, none⟩ (by show w.heap.size ≤ gv; omega) (.int .i64 y)).set ⟨gv, 2, none⟩ (by show w.heap.size ≤ gv; omega) (.int .i64 z)) (g := w.heap.size + 1) (by omega) (.int .i64 oh) (.int .i64 x) (.int .i64 y) (.int .i64 z))
    clear R4
    generalize (((((((w3.setCell ⟨gv, 0, none⟩ (.int .i64 x)).setCell ⟨gv, 1, none⟩ (.int .i64 y)).setCell ⟨gv, 2, none⟩ (.int .i64 z)).setCell ⟨w.heap.size + 1, 0, none⟩ (.int .i64 oh)).setCell ⟨w.heap.size + 1, 1, none⟩ (.int .i64 x)).setCell ⟨w.heap.size + 1, 2, none⟩ (.int .i64 y)).setCell ⟨w.heap.size + 1, 3, none⟩ (.int .i64 z)) = w9 at *
    exact bodyPost_ret (v := .agg #[.int .i64 oh, .int .i64 x, .int .i64 y, .int .i64 z]) (by simp [results, Tryz.results69, go_sem, q0, q1, q2, q3]) rfl ⟨congrArg Ending.returned HV.out.symm, HAF.out⟩
end Go.Proofs.YthcfdoafncbliaaGreat
/-
  Rows of samples: structs of four cells.
-/
namespace Go.Proofs.YthcfdoafncbliaaGreat
open Go.RowKit Go.Maps
set_option maxRecDepth 8000
abbrev T4 := Value × Value × Value × Value
def cells4 : List T4 → List Value
  | [] => []
  | x :: r => x.1 :: x.2.1 :: x.2.2.1 :: x.2.2.2 :: cells4 r
def Sm.t4 (s : Sm) : T4 := (.int .i64 s.h, .int .i64 s.k, .int .i64 s.m, .int .i64 s.e)
theorem cells4_length (xs : List T4) : (cells4 xs).length = xs.length * 4 := by
  induction xs with
  | nil => rfl
  | cons x r ih => simp only [cells4, List.length_cons, ih]; omega
theorem cells4_at (xs : List T4) (i : Nat) (x : T4) (h : xs[i]? = some x) : (cells4 xs)[i * 4]? = some x.1 ∧ (cells4 xs)[i * 4 + 1]? = some x.2.1 ∧ (cells4 xs)[i * 4 + 2]? = some x.2.2.1 ∧ (cells4 xs)[i * 4 + 3]? = some x.2.2.2 := by
  induction xs generalizing i with
  | nil => simp at h
  | cons y r ih =>
    cases i with
    | zero => simp at h; subst h; exact ⟨rfl, rfl, rfl, rfl⟩
    | succ i =>
      have := ih i (by simpa using h)
      have e : (i + 1) * 4 = i * 4 + 1 + 1 + 1 + 1 := by omega
      rw [e]
      exact this
theorem cells4_set (xs : List T4) (i : Nat) (x : T4) : cells4 (xs.set i x) = ((((cells4 xs).set (i * 4) x.1).set (i * 4 + 1) x.2.1).set (i * 4 + 2) x.2.2.1).set (i * 4 + 3) x.2.2.2 := by
  induction xs generalizing i with
  | nil => rfl
  | cons y r ih =>
    cases i with
    | zero => rfl
    | succ i =>
      have e : (i + 1) * 4 = i * 4 + 1 + 1 + 1 + 1 := by omega
      rw [e]
      show y.1 :: y.2.1 :: y.2.2.1 :: y.2.2.2 :: cells4 (r.set i x) = _
      rw [ih]
      rfl
theorem cells4_append (xs ys : List T4) : cells4 (xs ++ ys) = cells4 xs ++ cells4 ys := by
  induction xs with
  | nil => rfl
  | cons x r ih => simp only [List.cons_append, cells4, ih]
theorem cells4_one {l : List Sm} : ∀ v ∈ cells4 (l.map Sm.t4), v.oneCell' = true := by
  induction l with
  | nil => intro v hv; cases hv
  | cons x r ih =>
    intro v hv
    simp only [List.map_cons, cells4, List.mem_cons] at hv
    rcases hv with rfl | rfl | rfl | rfl | hv
    · rfl
    · rfl
    · rfl
    · rfl
    · exact ih v hv
theorem made4 (x y z u : Value) (k : Nat) : madeCells #[x, y, z, u] (k * 4) = (cells4 (List.replicate k (x, y, z, u))).toArray := by
  apply Array.ext'
  apply List.ext_getElem?
  intro j
  by_cases hj : j < k * 4
  · obtain ⟨i, t, ht, rfl⟩ : ∃ i t, t < 4 ∧ j = i * 4 + t := ⟨j / 4, j % 4, by omega, by omega⟩
    have hi : i < k := by omega
    obtain ⟨e0, e1, e2, e3⟩ := cells4_at (List.replicate k (x, y, z, u)) i (x, y, z, u) (by simp [hi])
    have hm : (i * 4 + t) % 4 = t := by omega
    have : t = 0 ∨ t = 1 ∨ t = 2 ∨ t = 3 := by omega
    rcases this with rfl | rfl | rfl | rfl
    · simp only [Nat.add_zero] at *; rw [show ((cells4 (List.replicate k (x, y, z, u))).toArray.toList)[i * 4]? = some x from e0]; simp [madeCells]; exact ⟨i * 4, List.getElem?_range hj, by rw [hm]; rfl⟩
    · rw [show ((cells4 (List.replicate k (x, y, z, u))).toArray.toList)[i * 4 + 1]? = some y from e1]; simp [madeCells]; exact ⟨i * 4 + 1, List.getElem?_range hj, by rw [hm]; rfl⟩
    · rw [show ((cells4 (List.replicate k (x, y, z, u))).toArray.toList)[i * 4 + 2]? = some z from e2]; simp [madeCells]; exact ⟨i * 4 + 2, List.getElem?_range hj, by rw [hm]; rfl⟩
    · rw [show ((cells4 (List.replicate k (x, y, z, u))).toArray.toList)[i * 4 + 3]? = some u from e3]; simp [madeCells]; exact ⟨i * 4 + 3, List.getElem?_range hj, by rw [hm]; rfl⟩
  · have h2 := cells4_length (List.replicate k (x, y, z, u))
    rw [List.length_replicate] at h2
    rw [List.getElem?_eq_none (by simp [madeCells]; omega), List.getElem?_eq_none (by simp; omega)]
theorem blk_set4 {w : World} {b i : Nat} {xs : List T4} {T : TypeId} (h : w.heap[b]? = some (.cells (cells4 xs).toArray T (0, 0))) (x y z u : Value) :
    ((((w.setCell ⟨b, i * 4, none⟩ x).setCell ⟨b, i * 4 + 1, none⟩ y).setCell ⟨b, i * 4 + 2, none⟩ z).setCell ⟨b, i * 4 + 3, none⟩ u).heap[b]? = some (.cells (cells4 (xs.set i (x, y, z, u))).toArray T (0, 0)) := by
  rw [cells4_set]
  exact blk_set (blk_set (blk_set (blk_set h x) y) z) u
theorem rowQ_of {w : World} {b : Nat} {l : List Sm} {T : TypeId} (h : w.heap[b]? = some (.cells (cells4 (l.map Sm.t4)).toArray T (0, 0))) : RowQ w (some ⟨b, 0, none⟩) l := by
  intro i s hs
  obtain ⟨e0, e1, e2, e3⟩ := cells4_at (l.map Sm.t4) i s.t4 (by rw [List.getElem?_map, hs]; rfl)
  refine ⟨b, 0, rfl, (Array.getElem?_eq_some_iff.1 h).1, ?_, ?_, ?_, ?_⟩
  · rw [cell_blk h, Nat.zero_add]; exact e0
  · rw [cell_blk h, Nat.zero_add]; exact e1
  · rw [cell_blk h, Nat.zero_add]; exact e2
  · rw [cell_blk h, Nat.zero_add]; exact e3
theorem Tryz.info69 : (Tryz.prog.info? 69).map (fun i => (i.zero, i.size, i.bytes)) = some (some (.agg #[.int .i64 0, .int .i64 0, .int .i64 0, .int .i64 0]), 4, 32) := by kernel_rfl
def smZ : Sm := ⟨0, 0, 0, 0⟩
theorem makeS (k : Nat) (hk : k ≤ 64) (w : World) : (Instr.makeSlice 33 (.int .i64 (k : Int)) (.int .i64 (k : Int))).run Tryz.prog w = .ok (.slice (some ⟨w.heap.size, 0, none⟩) k k) (w.alloc (.cells (cells4 ((List.replicate k smZ).map Sm.t4)).toArray 69)) := by
  obtain ⟨i0, hi, hz0, hz1, hz2⟩ := info_parts Tryz.info69
  have := run_make (P := Tryz.prog) w 33 69 i0 _ Tryz.underlying33 hi hz0 .i64 .i64 k k (by omega) (by omega) (by rw [hz2]; omega) (by omega)
  rw [this, hz1]
  simp only [Int.toNat_natCast]
  rw [show (Value.agg #[.int .i64 0, .int .i64 0, .int .i64 0, .int .i64 0]).cells = #[.int .i64 0, .int .i64 0, .int .i64 0, .int .i64 0] from rfl, made4, List.map_replicate]
  rfl
end Go.Proofs.YthcfdoafncbliaaGreat
