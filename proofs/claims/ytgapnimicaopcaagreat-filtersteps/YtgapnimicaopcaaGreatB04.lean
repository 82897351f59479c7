/-
  Laid together: FiU, FiV.
-/
import Derived.Test.YtgapnimicaopcaaGreatB02
import Derived.Deep.AppendLies
/-
  Rows of reals, of readings, of steps; copied.
-/
namespace Go.Proofs.YtgapnimicaopcaaGreat
open Go.RowKit
set_option maxRecDepth 8000
def rls : List Rl → List Value
  | [] => []
  | x :: r => .int .i64 x.k :: .int .i64 x.m :: .int .i64 x.e :: rls r
theorem rls_length (xs : List Rl) : (rls xs).length = xs.length * 3 := by
  induction xs with
  | nil => rfl
  | cons x r ih => simp only [rls, List.length_cons, ih]; omega
theorem rls_append (xs ys : List Rl) : rls (xs ++ ys) = rls xs ++ rls ys := by
  induction xs with
  | nil => rfl
  | cons x r ih => simp only [List.cons_append, rls, ih]
theorem rls_at (xs : List Rl) (i : Nat) (x : Rl) (h : xs[i]? = some x) : (rls xs)[i * 3]? = some (.int .i64 x.k) ∧ (rls xs)[i * 3 + 1]? = some (.int .i64 x.m) ∧ (rls xs)[i * 3 + 2]? = some (.int .i64 x.e) := by
  induction xs generalizing i with
  | nil => simp at h
  | cons y r ih =>
    cases i with
    | zero => simp at h; subst h; exact ⟨rfl, rfl, rfl⟩
    | succ i =>
      have := ih i (by simpa using h)
      have e : (i + 1) * 3 = i * 3 + 1 + 1 + 1 := by omega
      rw [e]
      exact this
theorem rls_one (xs : List Rl) : ∀ u ∈ rls xs, u.oneCell' = true := by
  induction xs with
  | nil => intro u hu; cases hu
  | cons x r ih =>
    intro u hu
    simp only [rls, List.mem_cons] at hu
    rcases hu with rfl | rfl | rfl | hu
    · rfl
    · rfl
    · rfl
    · exact ih u hu
theorem Tryz.infoReal : (Tryz.prog.info? 42).map (fun i => (i.zero, i.size, i.bytes)) = some (some (.agg #[.int .i64 0, .int .i64 0, .int .i64 0]), 3, 24) := by kernel_rfl
theorem Tryz.infoReading : (Tryz.prog.info? 38).map (fun i => (i.zero, i.size, i.bytes)) = some (some (.agg #[.int .i64 0, .int .i64 0]), 2, 16) := by kernel_rfl
theorem Tryz.infoStep : (Tryz.prog.info? 36).map (fun i => (i.zero, i.size, i.bytes)) = some (some (.agg #[.int .i64 0, .slice none 0 0]), 2, 32) := by kernel_rfl
/-- Reals in a row of one's own, from block B on. -/
abbrev ORls (w : World) (B : Nat) (v : Value) (xs : List Rl) : Prop := w.ownsRow B 42 3 v xs.length (rls xs)
theorem own_rrow {w : World} {B : Nat} {v : Value} {xs : List Rl} (h : ORls w B v xs) : ∃ a c, v = .slice a xs.length c ∧ RRow w a xs.length xs ∧ (a = none → xs.length = 0 ∧ c = 0) ∧ (∀ y, a = some y → B ≤ y.block ∧ y.block < w.heap.size) := by
  rcases h.2 with ⟨rfl, h0⟩ | ⟨g, cap, cur, rfl, hB, _, hnc, _⟩
  · rw [h0]
    exact ⟨none, 0, rfl, ⟨h0, fun i hi => absurd hi (by omega)⟩, fun _ => ⟨rfl, rfl⟩, fun y hy => by cases hy⟩
  · refine ⟨_, _, rfl, ⟨rfl, fun i hi => ?_⟩, (fun h => by cases h), fun y hy => by cases hy; exact h.lt g rfl⟩
    obtain ⟨e0, e1, e2⟩ := rls_at xs i xs[i] (by simp [hi])
    have c0 := h.cellAt (i * 3) (by omega)
    have c1 := h.cellAt (i * 3 + 1) (by omega)
    have c2 := h.cellAt (i * 3 + 2) (by omega)
    refine ⟨g, 0, xs[i], rfl, (h.lt g rfl).2, by simp [hi], ?_, ?_, ?_⟩
    · rw [Nat.zero_add, c0]; exact e0
    · rw [Nat.zero_add, c1]; exact e1
    · rw [Nat.zero_add, c2]; exact e2
theorem rrow_news {w : World} {x : Addr} {n : Nat} {xs : List Rl} (h : RRow w (some x) n xs) : ∀ j u, (rls xs)[j]? = some u → w.cell? (x.add j) = some u := by
  intro j u hj
  have hjl : j < xs.length * 3 := by
    rcases Nat.lt_or_ge j (xs.length * 3) with h' | h'
    · exact h'
    · rw [List.getElem?_eq_none (by rw [rls_length]; exact h')] at hj; cases hj
  obtain ⟨b, off, y, e, _, hy, h0, h1, h2⟩ := h.2 (j / 3) (by rw [← h.1]; omega)
  cases e
  obtain ⟨e0, e1, e2⟩ := rls_at xs (j / 3) y hy
  have ea : (⟨b, off, none⟩ : Addr).add j = ⟨b, off + j, none⟩ := by
    by_cases h0 : j = 0
    · subst h0; simp [Addr.add]
    · simp [Addr.add, h0]
  rw [ea]
  rcases (by omega : j = j / 3 * 3 ∨ j = j / 3 * 3 + 1 ∨ j = j / 3 * 3 + 2) with q | q | q
  · rw [q] at hj ⊢; rw [e0] at hj; cases hj; exact h0
  · rw [q] at hj ⊢; rw [e1] at hj; cases hj; rw [← Nat.add_assoc]; exact h1
  · rw [q] at hj ⊢; rw [e2] at hj; cases hj; rw [← Nat.add_assoc]; exact h2
theorem copied_any (w : World) (a : Option Addr) (n c : Nat) (xs : List Rl) (hr : RRow w a n xs) (ha : a = none → n = 0 ∧ c = 0) (hn : n ≤ 5864062014634) :
    Calls Tryz.prog 8 #[.slice a n c] w fun e w' => ∃ v, e = .returned v ∧ ORls w' w.heap.size v xs ∧ After w w' := by
  obtain ⟨i0, hi, hz⟩ := Option.map_eq_some_iff.1 Tryz.infoReal
  simp only [Prod.mk.injEq] at hz
  obtain ⟨hz0, hz1, hz2⟩ := hz
  cases a with
  | none =>
    obtain ⟨rfl, rfl⟩ := ha rfl
    have hz : xs = [] := List.length_eq_zero_iff.1 hr.1
    subst hz
    clear hr
    go_enter Tryz.func8, Tryz.ntmps8
    go_wp2_with (at_builtin; refine wpList_append_own_none rfl (.tmp 4) (.tmp 5) 33 rfl w.heap.size 42 i0 3 Tryz.underlying33 hi _ 0 [] rfl (World.ownsRow_nil _ _ _ _) rfl ?_)
    go_ret
    exact ⟨_, rfl, World.ownsRow_nil _ _ _ _, After.rfl⟩
  | some x =>
    have hl : (rls xs).length = n * 3 := by rw [rls_length, hr.1]
    have hnews := rrow_news hr
    have hl0 := hr.1
    have HL := hideIt hl
    have HL0 := hideIt hl0
    have HW := hideIt hnews
    clear hr ha hl hnews hl0
    go_enter Tryz.func8, Tryz.ntmps8
    go_wp2_with (at_builtin; refine wpList_append_own _ rfl (.tmp 4) (.tmp 5) 33 rfl w.heap.size 42 i0 _ 3 24 Tryz.underlying33 hi hz0 hz1 hz2 rfl (by decide) _ 0 [] rfl (World.ownsRow_nil _ _ _ _) x n c (rls xs) rfl HL.out HW.out (rls_one _) (by unfold maxLen; omega) (by omega) (Nat.le_refl _) ?_; intro v' w1 hown hgrow hnil; rw [Nat.zero_add, List.nil_append] at hown; have HO := hideIt hown; have HG := hideIt hgrow; clear hown hgrow hnil)
    go_ret
    refine ⟨_, rfl, ?_, But.grown But.rfl HG.out (fun k hk => by cases hk)⟩
    have h1 := HO.out
    rw [← HL0.out] at h1
    exact h1
def rds : List Rd → List Value
  | [] => []
  | x :: r => .int .i64 x.s :: .int .i64 x.v :: rds r
theorem rds_length (xs : List Rd) : (rds xs).length = xs.length * 2 := by
  induction xs with
  | nil => rfl
  | cons x r ih => simp only [rds, List.length_cons, ih]; omega
theorem rds_append (xs ys : List Rd) : rds (xs ++ ys) = rds xs ++ rds ys := by
  induction xs with
  | nil => rfl
  | cons x r ih => simp only [List.cons_append, rds, ih]
theorem rds_at (xs : List Rd) (i : Nat) (x : Rd) (h : xs[i]? = some x) : (rds xs)[i * 2]? = some (.int .i64 x.s) ∧ (rds xs)[i * 2 + 1]? = some (.int .i64 x.v) := by
  induction xs generalizing i with
  | nil => simp at h
  | cons y r ih =>
    cases i with
    | zero => simp at h; subst h; exact ⟨rfl, rfl⟩
    | succ i =>
      have := ih i (by simpa using h)
      have e : (i + 1) * 2 = i * 2 + 1 + 1 := by omega
      rw [e]
      exact this
/-- Readings in a row of one's own, from block B on. -/
abbrev ORds (w : World) (B : Nat) (v : Value) (xs : List Rd) : Prop := w.ownsRow B 38 2 v xs.length (rds xs)
/-- Readings lie where a slice of n places leads. -/
def DRow (w : World) (a : Option Addr) (n : Nat) (xs : List Rd) : Prop :=
  xs.length = n ∧ ∀ i, i < n → ∃ b off x, a = some ⟨b, off, none⟩ ∧ b < w.heap.size ∧ xs[i]? = some x ∧ w.cell? ⟨b, off + i * 2, none⟩ = some (.int .i64 x.s) ∧ w.cell? ⟨b, off + i * 2 + 1, none⟩ = some (.int .i64 x.v)
theorem DRow.but {S : Nat → Prop} {w w' : World} {a n xs} (h : DRow w a n xs) (ha : But S w w') (hn : ∀ x, a = some x → ¬ S x.block) : DRow w' a n xs :=
  ⟨h.1, fun i hi => by
    obtain ⟨b, off, x, e, hb, hx, h1, h2⟩ := h.2 i hi
    exact ⟨b, off, x, e, Nat.lt_of_lt_of_le hb ha.size, hx, (ha.cell hb (hn _ e) _).trans h1, (ha.cell hb (hn _ e) _).trans h2⟩⟩
theorem DRow.after {w w' : World} {a n xs} (h : DRow w a n xs) (ha : After w w') : DRow w' a n xs := h.but ha (fun _ _ t => t)
theorem own_drow {w : World} {B : Nat} {v : Value} {xs : List Rd} (h : ORds w B v xs) : ∃ a c, v = .slice a xs.length c ∧ DRow w a xs.length xs := by
  rcases h.2 with ⟨rfl, h0⟩ | ⟨g, cap, cur, rfl, hB, _, hnc, _⟩
  · rw [h0]
    exact ⟨none, 0, rfl, ⟨h0, fun i hi => absurd hi (by omega)⟩⟩
  · refine ⟨_, _, rfl, ⟨rfl, fun i hi => ?_⟩⟩
    obtain ⟨e0, e1⟩ := rds_at xs i xs[i] (by simp [hi])
    have c0 := h.cellAt (i * 2) (by omega)
    have c1 := h.cellAt (i * 2 + 1) (by omega)
    refine ⟨g, 0, xs[i], rfl, (h.lt g rfl).2, by simp [hi], ?_, ?_⟩
    · rw [Nat.zero_add, c0]; exact e0
    · rw [Nat.zero_add, c1]; exact e1
/-- A step that is handed in: a tick, and where its reals lie. -/
structure Stp where
  tick : Int
  a : Option Addr
  n : Nat
  d : Nat
  l : List Rl
/-- Its reals lie there. -/
def Stp.In (w : World) (x : Stp) : Prop := RRow w x.a x.n x.l ∧ (x.a = none → x.n = 0 ∧ x.d = 0)
theorem Stp.In.after {w w' : World} {x : Stp} (h : x.In w) (a : After w w') : x.In w' := ⟨h.1.after a, h.2⟩
theorem Stp.In.but {S : Nat → Prop} {w w' : World} {x : Stp} (h : x.In w) (b : But S w w') (hn : ∀ y, x.a = some y → 0 < x.n → ¬ S y.block) : x.In w' := ⟨h.1.but b hn, h.2⟩
def stps : List Stp → List Value
  | [] => []
  | x :: r => .int .i64 x.tick :: .slice x.a x.n x.d :: stps r
theorem stps_length (xs : List Stp) : (stps xs).length = xs.length * 2 := by
  induction xs with
  | nil => rfl
  | cons x r ih => simp only [stps, List.length_cons, ih]; omega
theorem stps_append (xs ys : List Stp) : stps (xs ++ ys) = stps xs ++ stps ys := by
  induction xs with
  | nil => rfl
  | cons x r ih => simp only [List.cons_append, stps, ih]
theorem stps_at (xs : List Stp) (i : Nat) (x : Stp) (h : xs[i]? = some x) : (stps xs)[i * 2]? = some (.int .i64 x.tick) ∧ (stps xs)[i * 2 + 1]? = some (.slice x.a x.n x.d) := by
  induction xs generalizing i with
  | nil => simp at h
  | cons y r ih =>
    cases i with
    | zero => simp at h; subst h; exact ⟨rfl, rfl⟩
    | succ i =>
      have := ih i (by simpa using h)
      have e : (i + 1) * 2 = i * 2 + 1 + 1 := by omega
      rw [e]
      exact this
/-- Steps lie where a slice of n places leads. -/
def SRow (w : World) (a : Option Addr) (n : Nat) (xs : List Stp) : Prop :=
  xs.length = n ∧ ∀ i, i < n → ∃ b off x, a = some ⟨b, off, none⟩ ∧ b < w.heap.size ∧ xs[i]? = some x ∧ w.cell? ⟨b, off + i * 2, none⟩ = some (.int .i64 x.tick) ∧ w.cell? ⟨b, off + i * 2 + 1, none⟩ = some (.slice x.a x.n x.d) ∧ x.In w
theorem SRow.after {w w' : World} {a n xs} (h : SRow w a n xs) (ha : After w w') : SRow w' a n xs :=
  ⟨h.1, fun i hi => by
    obtain ⟨b, off, x, e, hb, hx, h1, h2, h3⟩ := h.2 i hi
    exact ⟨b, off, x, e, Nat.lt_of_lt_of_le hb ha.size, hx, (ha.cell hb _).trans h1, (ha.cell hb _).trans h2, h3.after ha⟩⟩
theorem SRow.nil (w : World) (a : Option Addr) : SRow w a 0 [] := ⟨rfl, fun i hi => absurd hi (by omega)⟩
theorem SRow.at_ {w : World} {a n xs} (h : SRow w a n xs) {i : Nat} (hi : i < n) : ∃ b off x, a = some ⟨b, off, none⟩ ∧ b < w.heap.size ∧ xs[i]? = some x ∧ w.cell? ⟨b, off + i * 2, none⟩ = some (.int .i64 x.tick) ∧ w.cell? ⟨b, off + i * 2 + 1, none⟩ = some (.slice x.a x.n x.d) ∧ x.In w := h.2 i hi
/-- Steps in a row of one's own, from block B on. -/
abbrev OSts (w : World) (B : Nat) (v : Value) (xs : List Stp) : Prop := w.ownsRow B 36 2 v xs.length (stps xs)
theorem own_srow {w : World} {B : Nat} {v : Value} {xs : List Stp} (h : OSts w B v xs) (hin : ∀ x ∈ xs, x.In w) : ∃ a c, v = .slice a xs.length c ∧ SRow w a xs.length xs ∧ (a = none → xs.length = 0 ∧ c = 0) ∧ xs.length ≤ c := by
  rcases h.2 with ⟨rfl, h0⟩ | ⟨g, cap, cur, rfl, hB, _, hnc, _⟩
  · rw [h0]
    exact ⟨none, 0, rfl, ⟨h0, fun i hi => absurd hi (by omega)⟩, fun _ => ⟨rfl, rfl⟩, by omega⟩
  · refine ⟨_, _, rfl, ⟨rfl, fun i hi => ?_⟩, (fun h => by cases h), hnc⟩
    obtain ⟨e0, e1⟩ := stps_at xs i xs[i] (by simp [hi])
    have c0 := h.cellAt (i * 2) (by omega)
    have c1 := h.cellAt (i * 2 + 1) (by omega)
    refine ⟨g, 0, xs[i], rfl, (h.lt g rfl).2, by simp [hi], ?_, ?_, hin _ (List.getElem_mem hi)⟩
    · rw [Nat.zero_add, c0]; exact e0
    · rw [Nat.zero_add, c1]; exact e1
end Go.Proofs.YtgapnimicaopcaaGreat
/-
  Steps one behind the other, over plain data.
-/
namespace Go.Proofs.YtgapnimicaopcaaGreat
open Go.RowKit
set_option maxRecDepth 8000
theorem Ts.hear_next (c : Cf) (t : Int) (s : Ts) (r : Rl) : (s.hear c t r).next = s.next := by
  unfold Ts.hear
  split
  · rfl
  · split <;> rfl
theorem Ts.foldl_next (c : Cf) (t : Int) (l : List Rl) : ∀ s : Ts, (l.foldl (Ts.hear c t) s).next = s.next := by
  induction l with
  | nil => intro s; rfl
  | cons x r ih => intro s; rw [List.foldl_cons, ih, Ts.hear_next]
theorem Ts.step_next (c : Cf) (t : Int) (s : Ts) (l : List Rl) : (s.step c t l).next = t + 1 := by
  have h1 : (s.opn c t).next = t + 1 := by unfold Ts.opn; split <;> rfl
  have h2 : (s.hears c t l).next = t + 1 := by unfold Ts.hears; rw [Ts.foldl_next, h1]
  unfold Ts.step Ts.shut
  split
  · exact h2
  · exact h2
/-- A task behind steps; what was read at them. -/
def Ts.run (c : Cf) (s : Ts) (xs : List Stp) : Ts := xs.foldl (fun s x => s.step c x.tick x.l) s
def Ts.outs (c : Cf) (s : Ts) : List Stp → List Rd
  | [] => []
  | x :: r => s.read c x.tick x.l :: (s.step c x.tick x.l).outs c r
theorem Ts.outs_append (c : Cf) (xs ys : List Stp) : ∀ s : Ts, s.outs c (xs ++ ys) = s.outs c xs ++ (s.run c xs).outs c ys := by
  induction xs with
  | nil => intro s; rfl
  | cons x r ih => intro s; simp only [List.cons_append, Ts.outs, ih]; rfl
theorem Ts.run_append (c : Cf) (s : Ts) (xs ys : List Stp) : s.run c (xs ++ ys) = (s.run c xs).run c ys := by
  unfold Ts.run
  rw [List.foldl_append]
theorem Ts.outs_length (c : Cf) (xs : List Stp) : ∀ s : Ts, (s.outs c xs).length = xs.length := by
  induction xs with
  | nil => intro s; rfl
  | cons x r ih => intro s; simp only [Ts.outs, List.length_cons, ih]
theorem take_stp {xs : List Stp} {j : Nat} {x : Stp} (h : xs[j]? = some x) : xs.take (j + 1) = xs.take j ++ [x] := by
  rw [List.take_add_one, h]
  rfl
theorem Ts.run_succ (c : Cf) (s : Ts) {xs : List Stp} {j : Nat} {x : Stp} (h : xs[j]? = some x) : s.run c (xs.take (j + 1)) = (s.run c (xs.take j)).step c x.tick x.l := by
  rw [take_stp h, Ts.run_append]
  rfl
theorem Ts.outs_succ (c : Cf) (s : Ts) {xs : List Stp} {j : Nat} {x : Stp} (h : xs[j]? = some x) : s.outs c (xs.take (j + 1)) = s.outs c (xs.take j) ++ [(s.run c (xs.take j)).read c x.tick x.l] := by
  rw [take_stp h, Ts.outs_append]
  rfl
theorem Ts.outs_at (c : Cf) (s : Ts) {xs : List Stp} {j : Nat} {x : Stp} (h : xs[j]? = some x) : (s.outs c xs)[j]? = some ((s.run c (xs.take j)).read c x.tick x.l) := by
  have hj : j < xs.length := by
    rcases Nat.lt_or_ge j xs.length with h' | h'
    · exact h'
    · rw [List.getElem?_eq_none h'] at h; cases h
  have e : s.outs c xs = s.outs c (xs.take (j + 1)) ++ (s.run c (xs.take (j + 1))).outs c (xs.drop (j + 1)) := by
    rw [← Ts.outs_append, List.take_append_drop]
  have hl : (s.outs c (xs.take j)).length = j := by rw [Ts.outs_length, List.length_take]; omega
  rw [e, List.getElem?_append_left (by rw [Ts.outs_length, List.length_take]; omega), Ts.outs_succ c s h, List.getElem?_append_right (by omega), hl]
  simp
/-- Steps of which none is refused. -/
structure Fine (xs : List Stp) : Prop where
  lo : ∀ (i : Nat) (x : Stp), xs[i]? = some x → 0 ≤ x.tick
  hi : ∀ (i : Nat) (x : Stp), xs[i]? = some x → x.tick ≤ 2147483647
  few : ∀ (i : Nat) (x : Stp), xs[i]? = some x → x.l.length ≤ 64
  may : ∀ (i : Nat) (x : Stp), xs[i]? = some x → mays x.l = true
  up : ∀ (i : Nat) (x y : Stp), xs[i]? = some x → xs[i + 1]? = some y → x.tick < y.tick
theorem Fine.next {xs : List Stp} (h : Fine xs) (c : Cf) {j : Nat} {x : Stp} (hx : xs[j]? = some x) : (Ts.new.run c (xs.take j)).next ≤ x.tick := by
  cases j with
  | zero => exact h.lo 0 x hx
  | succ j =>
    have hj : j < xs.length := by
      rcases Nat.lt_or_ge (j + 1) xs.length with h' | h'
      · omega
      · rw [List.getElem?_eq_none h'] at hx; cases hx
    have hy : xs[j]? = some xs[j] := List.getElem?_eq_getElem hj
    rw [Ts.run_succ c _ hy, Ts.step_next]
    have := h.up j _ _ hy hx
    omega
theorem Fine.err {xs : List Stp} (h : Fine xs) (c : Cf) {j : Nat} {x : Stp} (hx : xs[j]? = some x) : (Ts.new.run c (xs.take j)).err x.tick x.l = 0 := by
  have h1 := h.next c hx
  have h2 := h.hi j x hx
  have h3 := h.few j x hx
  unfold Ts.err
  rw [if_neg (by omega), if_neg (by omega), if_pos (h.may j x hx)]
theorem Fine.nil : Fine [] := ⟨fun i x h => by simp at h, fun i x h => by simp at h, fun i x h => by simp at h, fun i x h => by simp at h, fun i x y h => by simp at h⟩
theorem Fine.drop {xs : List Stp} (h : Fine xs) (k : Nat) : Fine (xs.drop k) := by
  have e : ∀ (i : Nat) (x : Stp), (xs.drop k)[i]? = some x → xs[k + i]? = some x := fun i x hx => by rw [List.getElem?_drop] at hx; exact hx
  exact ⟨fun i x hx => h.lo _ x (e i x hx), fun i x hx => h.hi _ x (e i x hx), fun i x hx => h.few _ x (e i x hx), fun i x hx => h.may _ x (e i x hx), fun i x y hx hy => h.up (k + i) x y (e i x hx) (e (i + 1) y hy)⟩
end Go.Proofs.YtgapnimicaopcaaGreat
