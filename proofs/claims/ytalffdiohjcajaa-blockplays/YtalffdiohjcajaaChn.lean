/-
  A region whose order is drawn and which goes by four steps, one behind the other (a call, a slice literal, an append, a store): what holds ahead of each and behind it; all other operations have known values.
-/
import Derived.Test.YtalffdiohjcajaaInvO
import Derived.Test.YtalffdiohjcajaaFoA
import Derived.Deep.AppendLies
namespace Go.Proofs.Ytalffdiohjcajaa.Iv
open Go.RowKit
set_option maxRecDepth 8000
theorem enterC {f : Nat} {fn : Func} (hf : Try.prog.funcs[f]? = some fn) (hname : (fn.name == "runtime.NumGoroutine") = false) (hb0 : fn.body.isSome = true) (args : Array Value) (w : World) : (callFunc f args).run Try.prog w = .ok (.enter f args) w := by
  obtain ⟨c, hb⟩ := Option.isSome_iff_exists.1 hb0
  have hn : fn.name ≠ "runtime.NumGoroutine" := by simpa using hname
  simp [callFunc, go_sem, hf, hn, hb]
/-- The four steps lie at places c, b, a, s; l: a load that the append waits for. -/
structure ChW (c b a s l : Nat) (P0 : World → Prop) (P1 P2 P3 : Value → World → Prop) (P4 : World → Prop) (L : Nat → Bool) (u : Nat → Value) (w : World) : Prop where
  i1 : L b = true → L c = true
  i2 : L a = true → L b = true
  i3 : L s = true → L a = true
  i4 : L a = true → L l = true
  p0 : L c = false → P0 w
  p1 : L c = true → L b = false → P1 (u c) w
  p2 : L b = true → L a = false → P2 (u b) w
  p3 : L a = true → L s = false → P3 (u a) w
  p4 : L s = true → P4 w
section
variable {c b a s l : Nat} {P0 : World → Prop} {P1 P2 P3 : Value → World → Prop} {P4 : World → Prop} {L : Nat → Bool} {u : Nat → Value} {w w' : World}
theorem fls {x y : Bool} (h : x = true → y = true) (hy : y = false) : x = false := by
  rcases x with _ | _
  · rfl
  · rw [h rfl] at hy; cases hy
theorem ChW.start (h : P0 w) : ChW c b a s l P0 P1 P2 P3 P4 (fun _ => false) u w :=
  ⟨fun h => (by cases h), fun h => (by cases h), fun h => (by cases h), fun h => (by cases h), fun _ => h, fun h => (by cases h), fun h => (by cases h), fun h => (by cases h), fun h => (by cases h)⟩
theorem ChW.keep {T : Tab} {k : Nat} {v : Value} (h1 : c ≠ k) (h2 : b ≠ k) (h3 : a ≠ k) (h4 : s ≠ k) (d1 : T.D c ≠ T.D k) (d2 : T.D b ≠ T.D k) (d3 : T.D a ≠ T.D k) (L : Nat → Bool) (u : Nat → Value) (w : World) (x : ChW c b a s l P0 P1 P2 P3 P4 L u w) : ChW c b a s l P0 P1 P2 P3 P4 (more L k) (T.set k v u) w := by
  have e : ∀ i, T.D i ≠ T.D k → T.set k v u i = u i := fun i h => if_neg h
  refine ⟨?_, ?_, ?_, ?_, ?_, ?_, ?_, ?_, ?_⟩
  · rw [more_ne L h2, more_ne L h1]; exact x.i1
  · rw [more_ne L h3, more_ne L h2]; exact x.i2
  · rw [more_ne L h4, more_ne L h3]; exact x.i3
  · rw [more_ne L h3]
    intro h
    unfold more
    rw [x.i4 h]; rfl
  · rw [more_ne L h1]; exact x.p0
  · rw [more_ne L h1, more_ne L h2, e c d1]; exact x.p1
  · rw [more_ne L h2, more_ne L h3, e b d2]; exact x.p2
  · rw [more_ne L h3, more_ne L h4, e a d3]; exact x.p3
  · rw [more_ne L h4]; exact x.p4
theorem ChW.ahead (x : ChW c b a s l P0 P1 P2 P3 P4 L u w) (h : L c = false) : P0 w ∧ L b = false ∧ L a = false ∧ L s = false := by
  have hb := fls x.i1 h
  have ha := fls x.i2 hb
  exact ⟨x.p0 h, hb, ha, fls x.i3 ha⟩
theorem ChW.call {T : Tab} {v : Value} (h2 : b ≠ c) (h3 : a ≠ c) (h4 : s ≠ c) (x : ChW c b a s l P0 P1 P2 P3 P4 L u w) (h : L c = false) (p : P1 v w') : ChW c b a s l P0 P1 P2 P3 P4 (more L c) (T.set c v u) w' := by
  obtain ⟨_, hb, ha, hs⟩ := x.ahead h
  refine ⟨?_, ?_, ?_, ?_, ?_, ?_, ?_, ?_, ?_⟩
  · rw [more_ne L h2, hb]; intro h; cases h
  · rw [more_ne L h3, ha]; intro h; cases h
  · rw [more_ne L h4, hs]; intro h; cases h
  · rw [more_ne L h3, ha]; intro h; cases h
  · rw [more_self]; intro h; cases h
  · intro _ _
    rw [show T.set c v u c = v from if_pos rfl]; exact p
  · rw [more_ne L h2, hb]; intro h; cases h
  · rw [more_ne L h3, ha]; intro h; cases h
  · rw [more_ne L h4, hs]; intro h; cases h
theorem ChW.lit {T : Tab} {v : Value} (h1 : c ≠ b) (h3 : a ≠ b) (h4 : s ≠ b) (x : ChW c b a s l P0 P1 P2 P3 P4 L u w) (hc : L c = true) (h : L b = false) (p : P2 v w') : ChW c b a s l P0 P1 P2 P3 P4 (more L b) (T.set b v u) w' := by
  have ha := fls x.i2 h
  have hs := fls x.i3 ha
  refine ⟨?_, ?_, ?_, ?_, ?_, ?_, ?_, ?_, ?_⟩
  · rw [more_ne L h1]; intro _; exact hc
  · rw [more_self]; intro _; rfl
  · rw [more_ne L h4, hs]; intro h; cases h
  · rw [more_ne L h3, ha]; intro h; cases h
  · rw [more_ne L h1, hc]; intro h; cases h
  · rw [more_self]; intro _ h; cases h
  · intro _ _
    rw [show T.set b v u b = v from if_pos rfl]; exact p
  · rw [more_ne L h3, ha]; intro h; cases h
  · rw [more_ne L h4, hs]; intro h; cases h
theorem ChW.app {T : Tab} {v : Value} (h1 : c ≠ a) (h2 : b ≠ a) (h4 : s ≠ a) (x : ChW c b a s l P0 P1 P2 P3 P4 L u w) (hb : L b = true) (hl : L l = true) (h : L a = false) (p : P3 v w') : ChW c b a s l P0 P1 P2 P3 P4 (more L a) (T.set a v u) w' := by
  have hs := fls x.i3 h
  have hc := x.i1 hb
  refine ⟨?_, ?_, ?_, ?_, ?_, ?_, ?_, ?_, ?_⟩
  · rw [more_ne L h1]; intro _; exact hc
  · rw [more_ne L h2]; intro _; exact hb
  · rw [more_ne L h4, hs]; intro h; cases h
  · intro _
    unfold more
    rw [hl]; rfl
  · rw [more_ne L h1, hc]; intro h; cases h
  · rw [more_ne L h2, hb]; intro _ h; cases h
  · rw [more_self]; intro _ h; cases h
  · intro _ _
    rw [show T.set a v u a = v from if_pos rfl]; exact p
  · rw [more_ne L h4, hs]; intro h; cases h
theorem ChW.store (h1 : c ≠ s) (h2 : b ≠ s) (h3 : a ≠ s) (x : ChW c b a s l P0 P1 P2 P3 P4 L u w) (ha : L a = true) (p : P4 w') : ChW c b a s l P0 P1 P2 P3 P4 (more L s) u w' := by
  have hb := x.i2 ha
  have hc := x.i1 hb
  refine ⟨?_, ?_, ?_, ?_, ?_, ?_, ?_, ?_, ?_⟩
  · rw [more_ne L h1]; intro _; exact hc
  · rw [more_ne L h2]; intro _; exact hb
  · rw [more_ne L h3]; intro _; exact ha
  · intro _
    unfold more
    rw [x.i4 ha]; rfl
  · rw [more_ne L h1, hc]; intro h; cases h
  · rw [more_ne L h2, hb]; intro _ h; cases h
  · rw [more_ne L h3, ha]; intro _ h; cases h
  · rw [more_self]; intro _ h; cases h
  · intro _; exact p
/-- In any phase. -/
theorem ChW.any {R : Prop} (x : ChW c b a s l P0 P1 P2 P3 P4 L u w) (h0 : P0 w → R) (h1 : ∀ v, P1 v w → R) (h2 : ∀ v, P2 v w → R) (h3 : ∀ v, P3 v w → R) (h4 : P4 w → R) : R := by
  rcases hc : L c with _ | _
  · exact h0 (x.p0 hc)
  rcases hb : L b with _ | _
  · exact h1 _ (x.p1 hc hb)
  rcases ha : L a with _ | _
  · exact h2 _ (x.p2 hb ha)
  rcases hs : L s with _ | _
  · exact h3 _ (x.p3 ha hs)
  · exact h4 (x.p4 hs)
/-- Ahead of the append. -/
theorem ChW.early {R : Prop} (x : ChW c b a s l P0 P1 P2 P3 P4 L u w) (hl : L l = false) (h0 : P0 w → R) (h1 : ∀ v, P1 v w → R) (h2 : ∀ v, P2 v w → R) : R := by
  have ha := fls x.i4 hl
  rcases hc : L c with _ | _
  · exact h0 (x.p0 hc)
  rcases hb : L b with _ | _
  · exact h1 _ (x.p1 hc hb)
  · exact h2 _ (x.p2 hb ha)
end
section
variable {ops : Array Oper} {Q : Exit → Act → World → Prop} {T : Tab} {b : Act} {k : Nat} {o : Oper}
/-- A load whose value is known ahead, told of the operations that wait. -/
theorem inv_loadD {x : Operand} {t : Nat} {v p : Value} (hop : o.op = .load t x) (ho : ops[k]? = some o) (hg : o.guard = none) (hb : o.after.toList.all (fun e => !Region.binds .any e || decide (e.on < k)) = true) (hdst : o.dst = some (T.D k)) (hk : Nat.blt k T.n = true) (hown : T.own k = true) (hD : Nat.blt (T.D k) b.tmps.size = true) (hV : T.V k = some v) (keep : ∀ L u w, T.W L u w → T.W (more L k) (T.set k v u) w) (hx : T.val b o x = some p) (hr : ∀ L u w, L k = false → T.W L u w → (Instr.loadAt t p).run Try.prog w = .ok v w) : InvOk Try.prog ops Q (T.J b) k o :=
  ⟨hg, hb, fun a w L K hl hlk j hK => by
    refine pw_val (r := Instr.loadAt t (a.eval x)) (by unfold execOp; rw [hop]) (by rw [Tab.eval ho j hl hx]; exact hr L _ w hlk j.other) ?_
    have := hK (a.put (some (T.D k)) v) w (j.put (Nat.le_of_ble_eq_true hk) hown (Nat.le_of_ble_eq_true hD) (fun v' h => by rw [hV] at h; cases h; rfl) (keep L _ w j.other))
    rw [hdst]
    exact this⟩
theorem inv_nil {x : Operand} {p : Addr} (hop : o.op = .nilCheck x) (ho : ops[k]? = some o) (hg : o.guard = none) (hb : o.after.toList.all (fun e => !Region.binds .any e || decide (e.on < k)) = true) (hdst : o.dst = some (T.D k)) (hk : Nat.blt k T.n = true) (hown : T.own k = true) (hD : Nat.blt (T.D k) b.tmps.size = true) (hV : T.V k = some (.pointer (some p))) (keep : ∀ L u w, T.W L u w → T.W (more L k) (T.set k (.pointer (some p)) u) w) (hx : T.val b o x = some (.pointer (some p))) : InvOk Try.prog ops Q (T.J b) k o :=
  inv_known ho hg hb hdst hk hown hD hV keep (fun a w L K hv _ h => by
    unfold Oper.wp execOp
    simp only [hop, hv _ _ hx]
    exact h)
/-- An operation of whatever kind, that writes a slot whose value is not known ahead. -/
theorem inv_any (ho : ops[k]? = some o) (hg : o.guard = none) (hb : o.after.toList.all (fun e => !Region.binds .any e || decide (e.on < k)) = true) (hdst : o.dst = some (T.D k)) (hk : Nat.blt k T.n = true) (hown : T.own k = true) (hD : Nat.blt (T.D k) b.tmps.size = true) (hV : T.V k = none)
    (hr : ∀ (a : Act) w L (K : Act → World → Prop), (∀ x v, T.val b o x = some v → a.eval x = v) → (∀ i, (cover ops 12 (waits ops k)).contains i = true → L i = true) → L k = false → T.W L (T.u a) w → (∀ v w', T.W (more L k) (T.set k v (T.u a)) w' → K (a.put o.dst v) w') → Oper.wp Try.prog o a w K Q) : InvOk Try.prog ops Q (T.J b) k o :=
  ⟨hg, hb, fun a w L K hl hlk j hK => hr a w L K (fun x v hx => Tab.eval ho j hl hx) hl hlk j.other (fun v w' hW => by
    have := hK (a.put (some (T.D k)) v) w' (j.put (Nat.le_of_ble_eq_true hk) hown (Nat.le_of_ble_eq_true hD) (fun v' h => by rw [hV] at h; cases h) hW)
    rw [hdst]
    exact this)⟩
/-- A store of a value that is not known ahead. -/
theorem inv_end {t : Nat} {x y : Operand} (hop : o.op = .store t x y) (ho : ops[k]? = some o) (hg : o.guard = none) (hb : o.after.toList.all (fun e => !Region.binds .any e || decide (e.on < k)) = true) (hdst : o.dst = none) (hk : T.V k = none)
    (hr : ∀ L (a : Act) w, (∀ x v, T.val b o x = some v → a.eval x = v) → (∀ i, (cover ops 12 (waits ops k)).contains i = true → L i = true) → L k = false → T.W L (T.u a) w → ∃ w', (Instr.storeAt t (a.eval x) (a.eval y)).run Try.prog w = .ok () w' ∧ T.W (more L k) (T.u a) w') : InvOk Try.prog ops Q (T.J b) k o :=
  ⟨hg, hb, fun a w L K hl hlk j hK => by
    obtain ⟨w', h1, h2⟩ := hr L a w (fun x v hx => Tab.eval ho j hl hx) hl hlk j.other
    unfold Oper.wp execOp
    simp only [hop]
    simp [h1, Oper.upon]
    rw [hdst]
    refine hK _ _ ⟨j.dfs, j.size, j.kept, fun i v' hi hv' hL => ?_, h2⟩
    refine j.known i v' hi hv' ?_
    have : i ≠ k := fun e => by rw [e, hk] at hv'; cases hv'
    rw [more_ne L this] at hL
    exact hL⟩
end
/-- A thing is appended: where the new row lies. -/
theorem wp_lieE {α : Type} {E : Enc α} {w : World} {o : Oper} {act : Act} {K : Act → World → Prop} {Q : Exit → Act → World → Prop} (s x : Operand) (T t : TypeId) {z : Value} {bts : Nat}
    (hT : Try.prog.underlying T = some (.slice t)) (hinfo : (Try.prog.info? t).map (fun i => (i.zero, i.size, i.bytes)) = some (some z, E.k, bts)) (hz : z.cells.size = E.k) (hbt : bts ≤ 64)
    (ho : o.op = .call { callee := .builtin .append, args := #[s, x], argTypes := #[T, T] }) (v : Value) (xs : List α) (hs : act.eval s = v) (hown : ORow E t w 0 v xs)
    (ad : Addr) (c : Nat) (y : α) (hx : act.eval x = .slice (some ad) 1 c) (hr : GRow E w (some ad) 1 [y]) (hb : xs.length ≤ 1073741824)
    (h : ∀ g cap w', ORow E t w' 0 (.slice (some ⟨g, 0, none⟩) (xs.length + 1) cap) (xs ++ [y]) → But (fun k => v.ownBlock = some k) w w' → (v.ownBlock = some g ∨ g = w.heap.size) → g < w'.heap.size → K (act.put o.dst (.slice (some ⟨g, 0, none⟩) (xs.length + 1) cap)) w') : Oper.wp Try.prog o act w K Q := by
  obtain ⟨i0, hi, hz'⟩ := Option.map_eq_some_iff.1 hinfo
  simp only [Prod.mk.injEq] at hz'
  obtain ⟨hz0, hz1, hz2⟩ := hz'
  have hl1 : (E.flat [y]).length = 1 * E.k := by rw [E.flat_length]; rfl
  refine wp_append_lies w s x T ho 0 t i0 z E.k bts hT hi hz0 hz1 hz2 hz E.pos v xs.length (E.flat xs) hs hown ad 1 c (E.flat [y]) hx hl1 hr.news (E.flat_one _) (by omega) (by unfold maxLen; omega) (by
    have h1 : (xs.length + 1) * bts ≤ 1073741825 * 64 := Nat.mul_le_mul (by omega) hbt
    omega) (by omega) w.heap.size rfl ?_
  intro g cap w' h1 h2 h3 h4
  rw [← E.flat_append] at h1
  refine h g cap w' ?_ (But.grown But.rfl h2 (fun k hk _ => hk)) h3 h4
  show w'.ownsRow 0 t E.k _ (xs ++ [y]).length (E.flat (xs ++ [y]))
  rw [show (xs ++ [y]).length = xs.length + 1 by rw [List.length_append, List.length_singleton]]
  exact h1
theorem app_lie {α : Type} {E : Enc α} {w : World} {ops : Array Oper} {rest : List Oper} {o : Oper} {act : Act} {Q : Exit → Act → World → Prop} (hgd : o.guard = none) (s x : Operand) (T t : TypeId) {z : Value} {bts : Nat}
    (hT : Try.prog.underlying T = some (.slice t)) (hinfo : (Try.prog.info? t).map (fun i => (i.zero, i.size, i.bytes)) = some (some z, E.k, bts)) (hz : z.cells.size = E.k) (hbt : bts ≤ 64)
    (ho : o.op = .call { callee := .builtin .append, args := #[s, x], argTypes := #[T, T] }) (v : Value) (xs : List α) (hs : act.eval s = v) (hown : ORow E t w 0 v xs)
    (ad : Addr) (c : Nat) (y : α) (hx : act.eval x = .slice (some ad) 1 c) (hr : GRow E w (some ad) 1 [y]) (hb : xs.length ≤ 1073741824)
    (h : ∀ g cap w', ORow E t w' 0 (.slice (some ⟨g, 0, none⟩) (xs.length + 1) cap) (xs ++ [y]) → But (fun k => v.ownBlock = some k) w w' → (v.ownBlock = some g ∨ g = w.heap.size) → g < w'.heap.size → wpList Try.prog ops Q rest (act.put o.dst (.slice (some ⟨g, 0, none⟩) (xs.length + 1) cap)) w') : wpList Try.prog ops Q (o :: rest) act w :=
  wpList_plain hgd fun _ hK => wp_lieE s x T t hT hinfo hz hbt ho v xs hs hown ad c y hx hr hb fun g cap w' h2 h3 h4 h5 => hK _ _ (h g cap w' h2 h3 h4 h5)
end Go.Proofs.Ytalffdiohjcajaa.Iv
