/-
  Single operations of a region whose order is drawn (Inv): most slots' values are known ahead; what else holds hangs on which operations are done, on some slots, and on the world.
-/
import Derived.Test.YtalffdiohjcajaaIvG
namespace Go.Proofs.Ytalffdiohjcajaa.Ig
open Go.RowKit
set_option maxRecDepth 8000
theorem neB {a b : Nat} (h : Nat.beq a b = false) : a ≠ b := Nat.ne_of_beq_eq_false h
def waitP (o : Oper) (i : Nat) : Bool := o.after.toList.any (fun e => e.on == i && Region.binds .any e)
theorem waitP_of {o : Oper} {i : Nat} (h : waitP o i = true) : ∃ e ∈ o.after, e.on = i ∧ Region.binds .any e = true := by
  unfold waitP at h
  obtain ⟨e, he, hb⟩ := List.any_eq_true.1 h
  have he : e ∈ o.after := Array.mem_toList_iff.1 he
  simp only [Bool.and_eq_true, beq_iff_eq] at hb
  exact ⟨e, he, hb.1, hb.2⟩
/-- The table of a region: of n operations; the slot of each; the value where it is known; what else holds. -/
structure Tab where
  n : Nat
  D : Nat → Nat
  V : Nat → Option Value
  W : (Nat → Bool) → (Nat → Value) → World → Prop
/-- Which operation writes a slot. -/
def Tab.of (T : Tab) (x : Nat) : Option Nat := (List.range T.n).find? (fun i => T.D i == x)
theorem Tab.of_none {T : Tab} {x : Nat} (h : T.of x = none) : ∀ k, k < T.n → T.D k ≠ x := by
  intro k hk e
  have := List.find?_eq_none.1 h k (List.mem_range.2 hk)
  simp [e] at this
theorem Tab.of_some {T : Tab} {x i : Nat} (h : T.of x = some i) : i < T.n ∧ T.D i = x := by
  have h1 := List.find?_some h
  have h2 := List.mem_of_find?_eq_some h
  exact ⟨List.mem_range.1 h2, by simpa using h1⟩
/-- The slots' values. -/
def Tab.u (T : Tab) (a : Act) : Nat → Value := fun k => a.tmps.getD (T.D k) undef
structure Tab.J (T : Tab) (b : Act) (L : Nat → Bool) (a : Act) (w : World) : Prop where
  dfs : a.defers = b.defers
  size : a.tmps.size = b.tmps.size
  kept : ∀ i, T.of i = none → a.tmps.getD i undef = b.tmps.getD i undef
  known : ∀ k v, k < T.n → T.V k = some v → L k = true → a.tmps.getD (T.D k) undef = v
  other : T.W L (T.u a) w
def Tab.val (T : Tab) (b : Act) (o : Oper) : Operand → Option Value
  | .tmp x => match T.of x with
    | none => some (b.tmps.getD x undef)
    | some i => if waitP o i then T.V i else none
  | .const v => some v
  | _ => none
section
variable {ops : Array Oper} {Q : Exit → Act → World → Prop} {T : Tab} {b : Act} {k : Nat} {o : Oper}
theorem waits_cover {i : Nat} (ho : ops[k]? = some o) (h : waitP o i = true) : (cover ops 12 (waits ops k)).contains i = true := by
  obtain ⟨e, he, rfl, hb⟩ := waitP_of h
  have : e.on ∈ waits ops k := by
    unfold waits
    rw [ho]
    exact List.mem_map.2 ⟨e, List.mem_filter.2 ⟨Array.mem_toList_iff.2 he, hb⟩, rfl⟩
  have h2 : e.on ∈ cover ops 12 (waits ops k) := by
    unfold cover
    exact List.mem_append_left _ this
  simpa using h2
theorem Tab.eval {L : Nat → Bool} {a : Act} {w : World} (ho : ops[k]? = some o) (j : T.J b L a w) (hl : ∀ i, (cover ops 12 (waits ops k)).contains i = true → L i = true) {x : Operand} {v : Value} (hx : T.val b o x = some v) : a.eval x = v := by
  cases x with
  | tmp x =>
    have hx : (match T.of x with
      | none => some (b.tmps.getD x undef)
      | some i => if waitP o i then T.V i else none) = some v := hx
    split at hx
    · rename_i h
      cases hx
      exact j.kept x h
    · rename_i i h
      split at hx
      · rename_i hw
        have := j.known i v (Tab.of_some h).1 hx (hl i (waits_cover ho hw))
        rw [(Tab.of_some h).2] at this
        exact this
      · cases hx
  | const v' => cases hx; rfl
  | _ => cases hx
/-- The slot of operation k is no other's. -/
def Tab.own (T : Tab) (k : Nat) : Bool := (List.range T.n).all (fun i => T.D i != T.D k || i == k)
theorem Tab.own_of {k i : Nat} (h : T.own k = true) (hi : i < T.n) (e : T.D i = T.D k) : i = k := by
  have := List.all_eq_true.1 h i (List.mem_range.2 hi)
  simpa [e] using this
/-- What slots hold, with one more. -/
def Tab.set (T : Tab) (k : Nat) (v : Value) (u : Nat → Value) : Nat → Value := fun i => if T.D i = T.D k then v else u i
/-- The slots behind one more. -/
theorem Tab.J.put {L : Nat → Bool} {a : Act} {w w' : World} {v : Value} (j : T.J b L a w) (hk : k < T.n) (hd : T.own k = true) (hD : T.D k < b.tmps.size) (hv : ∀ v', T.V k = some v' → v' = v) (hw : T.W (more L k) (T.set k v (T.u a)) w') : T.J b (more L k) (a.put (some (T.D k)) v) w' := by
  have hlt : T.D k < a.tmps.size := by rw [j.size]; exact hD
  refine ⟨j.dfs, ?_, fun i hi => ?_, fun i v' hi hv' hl => ?_, ?_⟩
  · show (a.tmps.setIfInBounds (T.D k) v).size = _
    rw [Array.size_setIfInBounds]; exact j.size
  · rw [getD_put hlt, if_neg (fun e => Tab.of_none hi k hk e.symm)]
    exact j.kept i hi
  · rw [getD_put hlt]
    by_cases e : T.D i = T.D k
    · rw [if_pos e]
      have e2 := Tab.own_of hd hi e
      subst e2
      exact (hv v' hv').symm
    · rw [if_neg e]
      refine j.known i v' hi hv' ?_
      have : i ≠ k := fun h => e (by rw [h])
      rw [more_ne L this] at hl; exact hl
  · have : T.u (a.put (some (T.D k)) v) = T.set k v (T.u a) := by
      funext i
      exact getD_put hlt
    rw [this]
    exact hw
theorem pw_val {a : Act} {w : World} {K : Act → World → Prop} {r : Sem Value} {v : Value} {w' : World} (he : (execOp a.eval o) = (do pure (.value (← r)))) (hr : r.run Try.prog w = .ok v w') (h : K (a.put o.dst v) w') : Oper.wp Try.prog o a w K Q := by
  unfold Oper.wp
  rw [he]
  simp [hr, Oper.upon]
  exact h
/-- An operation whose value is known ahead, and which leaves the world as it is. -/
theorem inv_known {v : Value} (ho : ops[k]? = some o) (hg : GOk ops (T.J b) o) (hb : o.after.toList.all (fun e => !Region.binds .any e || decide (e.on < k)) = true) (hdst : o.dst = some (T.D k)) (hk : Nat.blt k T.n = true) (hown : T.own k = true) (hD : Nat.blt (T.D k) b.tmps.size = true) (hV : T.V k = some v)
    (keep : ∀ L u w, T.W L u w → T.W (more L k) (T.set k v u) w)
    (hrun : ∀ a w L K, (∀ x v, T.val b o x = some v → a.eval x = v) → T.W L (T.u a) w → K (a.put o.dst v) w → Oper.wp Try.prog o a w K Q) : InvOk Try.prog ops Q (T.J b) k o :=
  ⟨hg, hb, fun a w L K hl _ j hK => hrun a w L K (fun x v hx => Tab.eval ho j hl hx) j.other (by
    have := hK (a.put (some (T.D k)) v) w (j.put (Nat.le_of_ble_eq_true hk) hown (Nat.le_of_ble_eq_true hD) (fun v' h => by rw [hV] at h; cases h; rfl) (keep L _ w j.other))
    rw [hdst]
    exact this)⟩
theorem inv_move {x : Operand} {v : Value} (hop : o.op = .move x ∨ o.op = .assign x) (ho : ops[k]? = some o) (hg : GOk ops (T.J b) o) (hb : o.after.toList.all (fun e => !Region.binds .any e || decide (e.on < k)) = true) (hdst : o.dst = some (T.D k)) (hk : Nat.blt k T.n = true) (hown : T.own k = true) (hD : Nat.blt (T.D k) b.tmps.size = true) (hV : T.V k = some v) (keep : ∀ L u w, T.W L u w → T.W (more L k) (T.set k v u) w) (hx : T.val b o x = some v) : InvOk Try.prog ops Q (T.J b) k o :=
  inv_known ho hg hb hdst hk hown hD hV keep (fun a w L K hv _ h => by
    unfold Oper.wp execOp
    rcases hop with e | e
    all_goals
      simp only [e]
      rw [hv _ _ hx]
      exact h)
theorem inv_field {x : Operand} {t i : Nat} {v p : Value} (hop : o.op = .fieldAddr t x i) (ho : ops[k]? = some o) (hg : GOk ops (T.J b) o) (hb : o.after.toList.all (fun e => !Region.binds .any e || decide (e.on < k)) = true) (hdst : o.dst = some (T.D k)) (hk : Nat.blt k T.n = true) (hown : T.own k = true) (hD : Nat.blt (T.D k) b.tmps.size = true) (hV : T.V k = some v) (keep : ∀ L u w, T.W L u w → T.W (more L k) (T.set k v u) w) (hx : T.val b o x = some p) (hr : ∀ w, (Instr.fieldAt t p i).run Try.prog w = .ok v w) : InvOk Try.prog ops Q (T.J b) k o :=
  inv_known ho hg hb hdst hk hown hD hV keep (fun a w L K hv _ h => by
    refine pw_val (by unfold execOp; rw [hop]) ?_ h
    rw [hv _ _ hx]
    exact hr w)
theorem inv_index {x y : Operand} {t : Nat} {v p q : Value} (hop : o.op = .indexAddr t x y) (ho : ops[k]? = some o) (hg : GOk ops (T.J b) o) (hb : o.after.toList.all (fun e => !Region.binds .any e || decide (e.on < k)) = true) (hdst : o.dst = some (T.D k)) (hk : Nat.blt k T.n = true) (hown : T.own k = true) (hD : Nat.blt (T.D k) b.tmps.size = true) (hV : T.V k = some v) (keep : ∀ L u w, T.W L u w → T.W (more L k) (T.set k v u) w) (hx : T.val b o x = some p) (hy : T.val b o y = some q) (hr : ∀ w, (Instr.indexAt t p q).run Try.prog w = .ok v w) : InvOk Try.prog ops Q (T.J b) k o :=
  inv_known ho hg hb hdst hk hown hD hV keep (fun a w L K hv _ h => by
    refine pw_val (by unfold execOp; rw [hop]) ?_ h
    rw [hv _ _ hx, hv _ _ hy]
    exact hr w)
theorem inv_load {x : Operand} {t : Nat} {v p : Value} (hop : o.op = .load t x) (ho : ops[k]? = some o) (hg : GOk ops (T.J b) o) (hb : o.after.toList.all (fun e => !Region.binds .any e || decide (e.on < k)) = true) (hdst : o.dst = some (T.D k)) (hk : Nat.blt k T.n = true) (hown : T.own k = true) (hD : Nat.blt (T.D k) b.tmps.size = true) (hV : T.V k = some v) (keep : ∀ L u w, T.W L u w → T.W (more L k) (T.set k v u) w) (hx : T.val b o x = some p) (hr : ∀ L u w, T.W L u w → (Instr.loadAt t p).run Try.prog w = .ok v w) : InvOk Try.prog ops Q (T.J b) k o :=
  inv_known ho hg hb hdst hk hown hD hV keep (fun a w L K hv hW h => by
    refine pw_val (by unfold execOp; rw [hop]) ?_ h
    rw [hv _ _ hx]
    exact hr L _ w hW)
theorem inv_extract {x : Operand} {i : Nat} {v p : Value} (hop : o.op = .extract x i) (ho : ops[k]? = some o) (hg : GOk ops (T.J b) o) (hb : o.after.toList.all (fun e => !Region.binds .any e || decide (e.on < k)) = true) (hdst : o.dst = some (T.D k)) (hk : Nat.blt k T.n = true) (hown : T.own k = true) (hD : Nat.blt (T.D k) b.tmps.size = true) (hV : T.V k = some v) (keep : ∀ L u w, T.W L u w → T.W (more L k) (T.set k v u) w) (hx : T.val b o x = some p) (hr : ∀ w, (Instr.extract p i).run Try.prog w = .ok v w) : InvOk Try.prog ops Q (T.J b) k o :=
  inv_known ho hg hb hdst hk hown hD hV keep (fun a w L K hv _ h => by
    refine pw_val (by unfold execOp; rw [hop]) ?_ h
    rw [hv _ _ hx]
    exact hr w)
/-- A call: of whatever it is handed; what it answers, and what holds behind it. -/
theorem inv_call {f : Nat} {xs : Array Operand} {ts : Array Nat} (hop : o.op = .call { callee := .value (.func f), args := xs, argTypes := ts }) (ho : ops[k]? = some o) (hg : GOk ops (T.J b) o) (hb : o.after.toList.all (fun e => !Region.binds .any e || decide (e.on < k)) = true) (hdst : o.dst = some (T.D k)) (hk : Nat.blt k T.n = true) (hown : T.own k = true) (hD : Nat.blt (T.D k) b.tmps.size = true) (hf : ∀ args W, (callFunc f args).run Try.prog W = .ok (.enter f args) W)
    (hc : ∀ (a : Act) w L, (∀ x v, T.val b o x = some v → a.eval x = v) → (∀ i, (cover ops 12 (waits ops k)).contains i = true → L i = true) → L k = false → T.W L (T.u a) w → Calls Try.prog f (xs.map a.eval) w fun e w' => ∃ v, e = .returned v ∧ (∀ v', T.V k = some v' → v' = v) ∧ T.W (more L k) (T.set k v (T.u a)) w') : InvOk Try.prog ops Q (T.J b) k o :=
  ⟨hg, hb, fun a w L K hl hlk j hK => by
    unfold Oper.wp execOp
    have e : a.eval (.func f) = .func (.func f) #[] #[] := rfl
    simp [hop, resolve, e, Deferred.ofValue, invoke, hf, Oper.upon]
    refine Calls.mono (hc a w L (fun x v hx => Tab.eval ho j hl hx) hl hlk j.other) ?_
    rintro e w' ⟨v, rfl, hv, hW⟩
    have := hK (a.put (some (T.D k)) v) w' (j.put (Nat.le_of_ble_eq_true hk) hown (Nat.le_of_ble_eq_true hD) hv hW)
    rw [hdst]
    exact this⟩
theorem inv_bin {x y : Operand} {t t' : Nat} {op : BinOp} {v p q : Value} (hop : o.op = .binOp op t x y t') (ho : ops[k]? = some o) (hg : GOk ops (T.J b) o) (hb : o.after.toList.all (fun e => !Region.binds .any e || decide (e.on < k)) = true) (hdst : o.dst = some (T.D k)) (hk : Nat.blt k T.n = true) (hown : T.own k = true) (hD : Nat.blt (T.D k) b.tmps.size = true) (hV : T.V k = some v) (keep : ∀ L u w, T.W L u w → T.W (more L k) (T.set k v u) w) (hx : T.val b o x = some p) (hy : T.val b o y = some q) (hr : ∀ w, (do eqGuard op t x y p q; binOp op t p q : Sem Value).run Try.prog w = .ok v w) : InvOk Try.prog ops Q (T.J b) k o :=
  inv_known ho hg hb hdst hk hown hD hV keep (fun a w L K hv _ h => by
    refine pw_val (r := do eqGuard op t x y (a.eval x) (a.eval y); binOp op t (a.eval x) (a.eval y)) (by unfold execOp; rw [hop]) ?_ h
    rw [hv _ _ hx, hv _ _ hy]
    exact hr w)
/-- An operation whose value is known ahead, by what its operands come to. -/
theorem inv_val {r : Act → Sem Value} {v : Value} (ho : ops[k]? = some o) (hg : GOk ops (T.J b) o) (hb : o.after.toList.all (fun e => !Region.binds .any e || decide (e.on < k)) = true) (hdst : o.dst = some (T.D k)) (hk : Nat.blt k T.n = true) (hown : T.own k = true) (hD : Nat.blt (T.D k) b.tmps.size = true) (hV : T.V k = some v) (keep : ∀ L u w, T.W L u w → T.W (more L k) (T.set k v u) w) (hop : ∀ a : Act, execOp a.eval o = (do pure (.value (← r a)))) (hr : ∀ (a : Act) w, (∀ x v, T.val b o x = some v → a.eval x = v) → (r a).run Try.prog w = .ok v w) : InvOk Try.prog ops Q (T.J b) k o :=
  inv_known ho hg hb hdst hk hown hD hV keep (fun a w _L _K hv _ h => pw_val (hop a) (hr a w hv) h)
/-- An operation that makes something of the world. -/
theorem inv_gen {r : Act → Sem Value} (ho : ops[k]? = some o) (hg : GOk ops (T.J b) o) (hb : o.after.toList.all (fun e => !Region.binds .any e || decide (e.on < k)) = true) (hdst : o.dst = some (T.D k)) (hk : Nat.blt k T.n = true) (hown : T.own k = true) (hD : Nat.blt (T.D k) b.tmps.size = true) (hop : ∀ a : Act, execOp a.eval o = (do pure (.value (← r a))))
    (hr : ∀ (a : Act) w L, (∀ x v, T.val b o x = some v → a.eval x = v) → (∀ i, (cover ops 12 (waits ops k)).contains i = true → L i = true) → L k = false → T.W L (T.u a) w → ∃ v w', (r a).run Try.prog w = .ok v w' ∧ (∀ v', T.V k = some v' → v' = v) ∧ T.W (more L k) (T.set k v (T.u a)) w') : InvOk Try.prog ops Q (T.J b) k o :=
  ⟨hg, hb, fun a w L K hl hlk j hK => by
    obtain ⟨v, w', h1, h2, h3⟩ := hr a w L (fun x v hx => Tab.eval ho j hl hx) hl hlk j.other
    refine pw_val (hop a) h1 ?_
    have := hK (a.put (some (T.D k)) v) w' (j.put (Nat.le_of_ble_eq_true hk) hown (Nat.le_of_ble_eq_true hD) h2 h3)
    rw [hdst]
    exact this⟩
/-- New memory. -/
theorem inv_alloc {t : Nat} {g : World → Obj} (hop : o.op = .alloc t) (_ho : ops[k]? = some o) (hg : GOk ops (T.J b) o) (hb : o.after.toList.all (fun e => !Region.binds .any e || decide (e.on < k)) = true) (hdst : o.dst = some (T.D k)) (hk : Nat.blt k T.n = true) (hown : T.own k = true) (hD : Nat.blt (T.D k) b.tmps.size = true) (hV : T.V k = none)
    (hr : ∀ w, (Instr.alloc t true (.tuple #[])).run Try.prog w = .ok (.pointer (some ⟨w.heap.size, 0, none⟩)) (w.alloc (g w)))
    (hW : ∀ L u w, L k = false → T.W L u w → T.W (more L k) (T.set k (.pointer (some ⟨w.heap.size, 0, none⟩)) u) (w.alloc (g w))) : InvOk Try.prog ops Q (T.J b) k o :=
  ⟨hg, hb, fun a w L K _ hlk j hK => by
    refine pw_val (by unfold execOp; rw [hop]) (hr w) ?_
    have := hK (a.put (some (T.D k)) (.pointer (some ⟨w.heap.size, 0, none⟩))) _ (j.put (Nat.le_of_ble_eq_true hk) hown (Nat.le_of_ble_eq_true hD) (fun v' h => by rw [hV] at h; cases h) (hW L _ w hlk j.other))
    rw [hdst]
    exact this⟩
/-- A store. -/
theorem inv_store {t : Nat} {x y : Operand} {v : Value} (hop : o.op = .store t x y) (ho : ops[k]? = some o) (hg : GOk ops (T.J b) o) (hb : o.after.toList.all (fun e => !Region.binds .any e || decide (e.on < k)) = true) (hdst : o.dst = none) (hk : T.V k = none) (hy : T.val b o y = some v)
    (hr : ∀ L (a : Act) w, (∀ x v, T.val b o x = some v → a.eval x = v) → (∀ i, (cover ops 12 (waits ops k)).contains i = true → L i = true) → L k = false → T.W L (T.u a) w → ∃ w', (Instr.storeAt t (a.eval x) v).run Try.prog w = .ok () w' ∧ T.W (more L k) (T.u a) w') : InvOk Try.prog ops Q (T.J b) k o :=
  ⟨hg, hb, fun a w L K hl hlk j hK => by
    obtain ⟨w', h1, h2⟩ := hr L a w (fun x v hx => Tab.eval ho j hl hx) hl hlk j.other
    unfold Oper.wp execOp
    simp only [hop]
    rw [Tab.eval ho j hl hy]
    simp [h1, Oper.upon]
    rw [hdst]
    refine hK _ _ ⟨j.dfs, j.size, j.kept, fun i v' hi hv' hL => ?_, h2⟩
    refine j.known i v' hi hv' ?_
    have : i ≠ k := fun e => by rw [e, hk] at hv'; cases hv'
    rw [more_ne L this] at hL
    exact hL⟩
/-- The frame behind all. -/
def Tab.puts (T : Tab) (x : Nat → Value) : Nat → Array Value → Array Value
  | 0, a => a
  | n + 1, a => (T.puts x n a).setIfInBounds (T.D n) (x n)
theorem Tab.puts_size (x : Nat → Value) (n : Nat) (a : Array Value) : (T.puts x n a).size = a.size := by
  induction n with
  | zero => rfl
  | succ n ih => simp [Tab.puts, ih]
theorem Tab.puts_none (x : Nat → Value) (n : Nat) (a : Array Value) (i : Nat) (h : ∀ k, k < n → T.D k ≠ i) : (T.puts x n a).getD i undef = a.getD i undef := by
  induction n with
  | zero => rfl
  | succ n ih =>
    have e : (T.puts x (n + 1) a).getD i undef = (T.puts x n a).getD i undef := by
      simp only [Tab.puts, Array.getD_eq_getD_getElem?, Array.getElem?_setIfInBounds]
      rw [if_neg (h n (by omega))]
    rw [e, ih (fun k hk => h k (by omega))]
theorem Tab.puts_at (x : Nat → Value) (n : Nat) (a : Array Value) (k : Nat) (hk : k < n) (hD : T.D k < a.size) (hu : ∀ i, i < n → T.D i = T.D k → i = k) : (T.puts x n a).getD (T.D k) undef = x k := by
  induction n with
  | zero => omega
  | succ n ih =>
    by_cases e : k = n
    · subst e
      have hs := Tab.puts_size (T := T) x k a
      simp [Tab.puts, Array.getD, hs, hD]
    · have h1 : T.D n ≠ T.D k := fun h => e (hu n (by omega) h).symm
      have e2 : (T.puts x (n + 1) a).getD (T.D k) undef = (T.puts x n a).getD (T.D k) undef := by
        simp only [Tab.puts, Array.getD_eq_getD_getElem?, Array.getElem?_setIfInBounds]
        rw [if_neg h1]
      rw [e2, ih (by omega) (fun i hi h => hu i (by omega) h)]
theorem Tab.J.fin {L : Nat → Bool} {a : Act} {w : World} (j : T.J b L a w) (hl : ∀ i, i < T.n → L i = true) (hown : (List.range T.n).all (fun k => T.own k) = true) : a = { b with tmps := T.puts (fun k => (T.V k).getD (T.u a k)) T.n b.tmps } := by
  obtain ⟨at_, ad⟩ := a
  have hs := j.size
  have hd := j.dfs
  dsimp only at hs hd
  subst hd
  have own : ∀ k, k < T.n → T.own k = true := fun k hk => List.all_eq_true.1 hown k (List.mem_range.2 hk)
  have key : at_ = T.puts (fun k => (T.V k).getD (T.u ⟨at_, b.defers⟩ k)) T.n b.tmps := by
    apply Array.ext
    · rw [Tab.puts_size]; exact hs
    · intro i h1 h2
      have e1 : at_.getD i undef = at_[i] := by simp [Array.getD, h1]
      have e2 : (T.puts (fun k => (T.V k).getD (T.u ⟨at_, b.defers⟩ k)) T.n b.tmps).getD i undef = (T.puts (fun k => (T.V k).getD (T.u ⟨at_, b.defers⟩ k)) T.n b.tmps)[i] := by simp [Array.getD, h2]
      rw [← e1, ← e2]
      rcases ho : T.of i with _ | k
      · rw [Tab.puts_none _ _ _ _ (Tab.of_none ho)]
        exact j.kept i ho
      · obtain ⟨hk, rfl⟩ := Tab.of_some ho
        rw [Tab.puts_at _ _ _ k hk (by rw [← hs]; exact h1) (fun i hi e => Tab.own_of (own k hk) hi e)]
        rcases hv : T.V k with _ | v
        · rfl
        · exact j.known k v hk hv (hl k hk)
  rw [← key]
end
section
variable {ops : Array Oper} {Q : Exit → Act → World → Prop} {T : Tab} {b : Act} {k : Nat} {o : Oper}
theorem inv_not {t : Nat} {x : Operand} {q : Bool} {v : Value} (hop : o.op = .unOp .not t x) (ho : ops[k]? = some o) (hg : GOk ops (T.J b) o) (hb : o.after.toList.all (fun e => !Region.binds .any e || decide (e.on < k)) = true) (hdst : o.dst = some (T.D k)) (hk : Nat.blt k T.n = true) (hown : T.own k = true) (hD : Nat.blt (T.D k) b.tmps.size = true) (hV : T.V k = some v) (keep : ∀ L u w, T.W L u w → T.W (more L k) (T.set k v u) w) (hx : T.val b o x = some (.bool q)) (hq : v = .bool (!q)) : InvOk Try.prog ops Q (T.J b) k o :=
  inv_known ho hg hb hdst hk hown hD hV keep (fun a w L K hv _ h => by
    subst hq
    refine pw_val (by unfold execOp; rw [hop]) ?_ h
    rw [hv _ _ hx]
    simp [go_sem])
theorem inv_pick {c x y : Operand} {q : Bool} {v : Value} (hop : o.op = .pick c x y) (ho : ops[k]? = some o) (hg : GOk ops (T.J b) o) (hb : o.after.toList.all (fun e => !Region.binds .any e || decide (e.on < k)) = true) (hdst : o.dst = some (T.D k)) (hk : Nat.blt k T.n = true) (hown : T.own k = true) (hD : Nat.blt (T.D k) b.tmps.size = true) (hV : T.V k = some v) (keep : ∀ L u w, T.W L u w → T.W (more L k) (T.set k v u) w) (hc : T.val b o c = some (.bool q)) (hx : T.val b o (if q then x else y) = some v) : InvOk Try.prog ops Q (T.J b) k o :=
  inv_known ho hg hb hdst hk hown hD hV keep (fun a w L K hv _ h => by
    refine pw_val (r := pure v) ?_ (by simp) h
    have e1 := hv _ _ hc
    have e2 := hv _ _ hx
    unfold execOp
    simp only [hop, e1]
    cases q <;> simp_all [asBool])
end
/-- A guarded operation whose guard holds. -/
theorem gok {ops : Array Oper} {T : Tab} {b : Act} {o oj : Oper} (j : Nat) (q : Bool) (hg : o.guard = some (j, q)) (hw : waitP o j = true) (hj : ops[j]? = some oj) (hd : oj.dst = some (T.D j)) (hn : Nat.blt j T.n = true) (hV : T.V j = some (.bool q)) (hD : Nat.blt (T.D j) b.tmps.size = true) : GOk ops (T.J b) o :=
  .inr ⟨j, q, hg, waitP_of hw, fun L a w hJ hL => by
    have h := hJ.known j _ (Nat.le_of_ble_eq_true hn) hV hL
    have hlt : T.D j < a.tmps.size := by rw [hJ.size]; exact Nat.le_of_ble_eq_true hD
    refine ⟨oj, _, hj, hd, ?_⟩
    rw [Array.getElem?_eq_getElem hlt]
    have : a.tmps.getD (T.D j) undef = a.tmps[T.D j] := by simp [Array.getD, hlt]
    rw [← this, h]⟩
/-- n steps, one behind the other, at places c 0, c 1 ..; P i: what holds behind i of them, of the last one's slot and the world. -/
structure Cn (n : Nat) (c : Nat → Nat) (P : Nat → Value → World → Prop) (L : Nat → Bool) (u : Nat → Value) (w : World) : Prop where
  ex : ∃ i, i ≤ n ∧ (∀ j, j < n → (L (c j) = true ↔ j < i)) ∧ P i (if i = 0 then undef else u (c (i - 1))) w
section
variable {n : Nat} {c : Nat → Nat} {P : Nat → Value → World → Prop} {L : Nat → Bool} {u : Nat → Value} {w w' : World}
theorem Cn.start (h : P 0 undef w) : Cn n c P (fun _ => false) u w := ⟨⟨0, Nat.zero_le _, fun j _ => ⟨fun h => (by cases h), fun h => absurd h (Nat.not_lt_zero _)⟩, h⟩⟩
theorem Cn.keep {T : Tab} {k : Nat} {v : Value} (hk : (List.range n).all (fun j => !Nat.beq (c j) k && !Nat.beq (T.D (c j)) (T.D k)) = true) (L : Nat → Bool) (u : Nat → Value) (w : World) (x : Cn n c P L u w) : Cn n c P (more L k) (T.set k v u) w := by
  have h1 : ∀ j, j < n → c j ≠ k ∧ T.D (c j) ≠ T.D k := fun j hj => by
    have := List.all_eq_true.1 hk j (List.mem_range.2 hj)
    rw [Bool.and_eq_true, Bool.not_eq_true', Bool.not_eq_true'] at this
    exact ⟨Nat.ne_of_beq_eq_false this.1, Nat.ne_of_beq_eq_false this.2⟩
  obtain ⟨i, hi, hL, hP⟩ := x.ex
  refine ⟨⟨i, hi, fun j hj => by rw [more_ne L (h1 j hj).1]; exact hL j hj, ?_⟩⟩
  by_cases h0 : i = 0
  · rw [if_pos h0] at hP ⊢
    exact hP
  · rw [if_neg h0] at hP ⊢
    rw [show T.set k v u (c (i - 1)) = u (c (i - 1)) from if_neg (h1 (i - 1) (by omega)).2]
    exact hP
/-- Ahead of step j. -/
theorem Cn.at_ (x : Cn n c P L u w) (j : Nat) (hj : j < n) (h : L (c j) = false) (hp : j = 0 ∨ L (c (j - 1)) = true) : P j (if j = 0 then undef else u (c (j - 1))) w := by
  obtain ⟨i, hi, hL, hP⟩ := x.ex
  have h1 : ¬ j < i := fun e => by rw [(hL j hj).2 e] at h; cases h
  have h2 : j ≤ i := by
    rcases hp with e | e
    · omega
    · have := (hL (j - 1) (by omega)).1 e
      omega
  obtain rfl : i = j := by omega
  exact hP
theorem Cn.step {T : Tab} {v : Value} (x : Cn n c P L u w) (j : Nat) (hj : j < n) (h : L (c j) = false) (hp : j = 0 ∨ L (c (j - 1)) = true) (hc : (List.range n).all (fun i => !Nat.beq (c i) (c j) || Nat.beq i j) = true) (p : P (j + 1) v w') : Cn n c P (more L (c j)) (T.set (c j) v u) w' := by
  obtain ⟨i, hi, hL, hP⟩ := x.ex
  have h1 : ¬ j < i := fun e => by rw [(hL j hj).2 e] at h; cases h
  have h2 : j ≤ i := by
    rcases hp with e | e
    · omega
    · have := (hL (j - 1) (by omega)).1 e
      omega
  obtain rfl : i = j := by omega
  refine ⟨⟨i + 1, by omega, fun k hk => ?_, ?_⟩⟩
  · by_cases e : k = i
    · subst e
      rw [more_self]
      exact ⟨fun _ => by omega, fun _ => rfl⟩
    · have : c k ≠ c i := fun e' => by
        have := List.all_eq_true.1 hc k (List.mem_range.2 hk)
        rw [e'] at this
        simp at this
        exact e this
      rw [more_ne L this, hL k hk]
      omega
  · rw [if_neg (by omega), Nat.add_sub_cancel, show T.set (c i) v u (c i) = v from if_pos rfl]
    exact p
theorem Cn.any {R : Prop} (x : Cn n c P L u w) (h : ∀ i v, i ≤ n → P i v w → R) : R := by
  obtain ⟨i, hi, _, hP⟩ := x.ex
  exact h i _ hi hP
theorem Cn.done (x : Cn n c P L u w) (h : ∀ j, j < n → L (c j) = true) : ∃ v, P n v w := by
  obtain ⟨i, hi, hL, hP⟩ := x.ex
  obtain rfl : i = n := by
    rcases Nat.lt_or_ge i n with h' | h'
    · have := (hL i h').1 (h i h')
      omega
    · omega
  exact ⟨_, hP⟩
end
end Go.Proofs.Ytalffdiohjcajaa.Ig
