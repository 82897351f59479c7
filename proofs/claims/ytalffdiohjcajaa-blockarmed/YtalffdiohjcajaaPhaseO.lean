/-
  Single operations of a region whose calls store (Phase): each by what its operands come to; what holds of the world around one call, and around two.
-/
import Derived.Test.YtalffdiohjcajaaPhase
namespace Go.Proofs.Ytalffdiohjcajaa
open Go.RowKit
set_option maxRecDepth 8000
def waitP (o : Oper) (i : Nat) : Bool := o.after.toList.any (fun e => e.on == i && Region.binds .any e)
def guardB (V : Nat → Value) (o : Oper) : Bool := match o.guard with
  | none => true
  | some (j, q) => waitP o j && (match V j with
    | .bool x => x == q
    | _ => false)
/-- What an operand comes to. -/
def valP (V : Nat → Value) (d : Nat) (b : Act) (o : Oper) : Operand → Option Value
  | .tmp x => if x < d then some (b.tmps.getD x undef) else if waitP o (x - d) then some (V (x - d)) else none
  | .const v => some v
  | _ => none
section
variable {ops : Array Oper} {V : Nat → Value} {d : Nat} {b : Act} {I : (Nat → Bool) → World → Prop} {k : Nat} {o : Oper}
theorem waitP_of {i : Nat} (h : waitP o i = true) : ∃ e ∈ o.after, e.on = i ∧ Region.binds .any e = true := by
  unfold waitP at h
  obtain ⟨e, he, hb⟩ := List.any_eq_true.1 h
  have he : e ∈ o.after := Array.mem_toList_iff.1 he
  simp only [Bool.and_eq_true, beq_iff_eq] at hb
  exact ⟨e, he, hb.1, hb.2⟩
theorem ph_mk (h1 : o.dst = some (d + k)) (h2 : o.after.toList.all (fun e => decide (e.on < k)) = true) (h3 : guardB V o = true)
    (h4 : ∀ (a : Act) (w : World) (L : Nat → Bool) (K : Act → World → Prop) (Q : Exit → Act → World → Prop), (∀ i, (cover ops 12 (waits ops k)).contains i = true → L i = true) → (∀ x v, valP V d b o x = some v → a.eval x = v) → L k = false → I L w → (∀ w', I (more L k) w' → K (a.put o.dst (V k)) w') → Oper.wp Try.prog o a w K Q) :
    PhOk Try.prog ops V d b I k o := by
  refine ⟨h1, fun e he => ?_, ?_, fun a w L K Q hd hcl hb hk hi hK => h4 a w L K Q (fun i hi => hcl i (by simpa using hi)) (fun x v hx => ?_) hk hi hK⟩
  · exact of_decide_eq_true (List.all_eq_true.1 h2 e (Array.mem_toList_iff.2 he))
  · unfold guardB at h3
    split at h3
    · rename_i hg; exact .inl hg
    · rename_i j q hg
      rw [Bool.and_eq_true] at h3
      refine .inr ⟨j, q, hg, waitP_of h3.1, ?_⟩
      have h5 := h3.2
      split at h5
      · rename_i x hx
        rw [hx, beq_iff_eq.1 h5]
      · cases h5
  · cases x with
    | tmp x =>
      have hx : (if x < d then some (b.tmps.getD x undef) else if waitP o (x - d) then some (V (x - d)) else none) = some v := hx
      split at hx
      · rename_i hlt
        cases hx
        exact hb x hlt
      · rename_i hge
        split at hx
        · rename_i hw
          cases hx
          obtain ⟨e, he, hei, hbd⟩ := waitP_of hw
          have h6 := (hd e he hbd).2
          rw [hei, Nat.add_sub_cancel' (Nat.le_of_not_lt hge)] at h6
          exact h6
        · cases hx
    | const v' =>
      cases hx
      rfl
    | _ => cases hx
theorem pw_val {a : Act} {w : World} {K : Act → World → Prop} {Q : Exit → Act → World → Prop} {r : Sem Value} {v : Value} {w' : World} (he : (execOp a.eval o) = (do pure (.value (← r)))) (hr : r.run Try.prog w = .ok v w') (h : K (a.put o.dst v) w') : Oper.wp Try.prog o a w K Q := by
  unfold Oper.wp
  rw [he]
  simp [hr, Oper.upon]
  exact h
theorem ph_move {x : Operand} (ho : o.op = .move x) (h1 : o.dst = some (d + k)) (h2 : o.after.toList.all (fun e => decide (e.on < k)) = true) (h3 : guardB V o = true) (hx : valP V d b o x = some (V k)) (keep : ∀ L w, I L w → I (more L k) w) : PhOk Try.prog ops V d b I k o :=
  ph_mk h1 h2 h3 (fun a w L K Q _ hv _ hi hk => by
    unfold Oper.wp execOp
    simp only [ho]
    have := hk w (keep L w hi)
    rw [← hv _ _ hx] at this
    exact this)
theorem ph_not {x : Operand} {t : Nat} {q : Bool} (ho : o.op = .unOp .not t x) (h1 : o.dst = some (d + k)) (h2 : o.after.toList.all (fun e => decide (e.on < k)) = true) (h3 : guardB V o = true) (hx : valP V d b o x = some (.bool q)) (hV : V k = .bool (!q)) (keep : ∀ L w, I L w → I (more L k) w) : PhOk Try.prog ops V d b I k o :=
  ph_mk h1 h2 h3 (fun a w L K Q _ hv _ hi hk => by
    refine pw_val (by unfold execOp; rw [ho]) ?_ (hk w (keep L w hi))
    rw [hv _ _ hx, hV]
    simp [go_sem])
theorem ph_field {x : Operand} {t i : Nat} {p : Value} (ho : o.op = .fieldAddr t x i) (h1 : o.dst = some (d + k)) (h2 : o.after.toList.all (fun e => decide (e.on < k)) = true) (h3 : guardB V o = true) (hx : valP V d b o x = some p) (hr : ∀ w, (Instr.fieldAt t p i).run Try.prog w = .ok (V k) w) (keep : ∀ L w, I L w → I (more L k) w) : PhOk Try.prog ops V d b I k o :=
  ph_mk h1 h2 h3 (fun a w L K Q _ hv _ hi hk => by
    refine pw_val (by unfold execOp; rw [ho]) ?_ (hk w (keep L w hi))
    rw [hv _ _ hx]
    exact hr w)
theorem ph_index {x y : Operand} {t : Nat} {p q : Value} (ho : o.op = .indexAddr t x y) (h1 : o.dst = some (d + k)) (h2 : o.after.toList.all (fun e => decide (e.on < k)) = true) (h3 : guardB V o = true) (hx : valP V d b o x = some p) (hy : valP V d b o y = some q) (hr : ∀ w, (Instr.indexAt t p q).run Try.prog w = .ok (V k) w) (keep : ∀ L w, I L w → I (more L k) w) : PhOk Try.prog ops V d b I k o :=
  ph_mk h1 h2 h3 (fun a w L K Q _ hv _ hi hk => by
    refine pw_val (by unfold execOp; rw [ho]) ?_ (hk w (keep L w hi))
    rw [hv _ _ hx, hv _ _ hy]
    exact hr w)
theorem ph_load {x : Operand} {t : Nat} {p : Value} (ho : o.op = .load t x) (h1 : o.dst = some (d + k)) (h2 : o.after.toList.all (fun e => decide (e.on < k)) = true) (h3 : guardB V o = true) (hx : valP V d b o x = some p) (hr : ∀ L w, I L w → (Instr.loadAt t p).run Try.prog w = .ok (V k) w) (keep : ∀ L w, I L w → I (more L k) w) : PhOk Try.prog ops V d b I k o :=
  ph_mk h1 h2 h3 (fun a w L K Q _ hv _ hi hk => by
    refine pw_val (by unfold execOp; rw [ho]) ?_ (hk w (keep L w hi))
    rw [hv _ _ hx]
    exact hr L w hi)
theorem ph_bin {x y : Operand} {t t' : Nat} {op : BinOp} {p q : Value} (ho : o.op = .binOp op t x y t') (h1 : o.dst = some (d + k)) (h2 : o.after.toList.all (fun e => decide (e.on < k)) = true) (h3 : guardB V o = true) (hx : valP V d b o x = some p) (hy : valP V d b o y = some q) (hr : ∀ w, (do eqGuard op t x y p q; binOp op t p q : Sem Value).run Try.prog w = .ok (V k) w) (keep : ∀ L w, I L w → I (more L k) w) : PhOk Try.prog ops V d b I k o :=
  ph_mk h1 h2 h3 (fun a w L K Q _ hv _ hi hk => by
    refine pw_val (r := do eqGuard op t x y (a.eval x) (a.eval y); binOp op t (a.eval x) (a.eval y)) (by unfold execOp; rw [ho]) ?_ (hk w (keep L w hi))
    rw [hv _ _ hx, hv _ _ hy]
    exact hr w)
theorem ph_call {f : Nat} {xs : Array Operand} {ts : Array Nat} {vs : List Value} (ho : o.op = .call { callee := .value (.func f), args := xs, argTypes := ts }) (h1 : o.dst = some (d + k)) (h2 : o.after.toList.all (fun e => decide (e.on < k)) = true) (h3 : guardB V o = true) (hf : ∀ args W, (callFunc f args).run Try.prog W = .ok (.enter f args) W)
    (hx : xs.toList.map (valP V d b o) = vs.map some) (hc : ∀ L w, (∀ i, (cover ops 12 (waits ops k)).contains i = true → L i = true) → L k = false → I L w → Calls Try.prog f vs.toArray w fun e w' => e = .returned (V k) ∧ I (more L k) w') : PhOk Try.prog ops V d b I k o :=
  ph_mk h1 h2 h3 (fun a w L K Q hd hv hl hi hk => by
    have hxs : xs.map a.eval = vs.toArray := by
      apply Array.ext'
      rw [Array.toList_map]
      have : ∀ (l : List Operand) (vs : List Value), l.map (valP V d b o) = vs.map some → l.map a.eval = vs := by
        intro l
        induction l with
        | nil => intro vs h; cases vs with
          | nil => rfl
          | cons _ _ => simp at h
        | cons x r ih => intro vs h; cases vs with
          | nil => simp at h
          | cons v vs =>
            simp only [List.map_cons, List.cons.injEq] at h ⊢
            exact ⟨hv _ _ h.1, ih vs h.2⟩
      exact this _ _ hx
    unfold Oper.wp execOp
    have e : a.eval (.func f) = .func (.func f) #[] #[] := rfl
    simp [ho, resolve, e, Deferred.ofValue, invoke, hf, Oper.upon]
    rw [hxs]
    refine Calls.mono (hc L w hd hl hi) ?_
    rintro e w' ⟨rfl, hi'⟩
    exact hk w' hi')
end
theorem enterP {f : Nat} {fn : Func} (hf : Try.prog.funcs[f]? = some fn) (hname : (fn.name == "runtime.NumGoroutine") = false) (hb0 : fn.body.isSome = true) (args : Array Value) (w : World) : (callFunc f args).run Try.prog w = .ok (.enter f args) w := by
  obtain ⟨c, hb⟩ := Option.isSome_iff_exists.1 hb0
  have hn : fn.name ≠ "runtime.NumGoroutine" := by simpa using hname
  simp [callFunc, go_sem, hf, hn, hb]
/-- Around one call, at place c. -/
def Ph1 (c : Nat) (P0 P1 : World → Prop) (L : Nat → Bool) (w : World) : Prop := (L c = false ∧ P0 w) ∨ (L c = true ∧ P1 w)
theorem Ph1.keep {c : Nat} {P0 P1 : World → Prop} {k : Nat} (h : c ≠ k) (L : Nat → Bool) (w : World) (x : Ph1 c P0 P1 L w) : Ph1 c P0 P1 (more L k) w := by
  unfold Ph1
  rw [more_ne L h]
  exact x
theorem Ph1.any {c : Nat} {P0 P1 : World → Prop} {R : Prop} {L : Nat → Bool} {w : World} (x : Ph1 c P0 P1 L w) (h0 : P0 w → R) (h1 : P1 w → R) : R := by
  rcases x with ⟨_, x⟩ | ⟨_, x⟩
  · exact h0 x
  · exact h1 x
theorem Ph1.ahead {c : Nat} {P0 P1 : World → Prop} {L : Nat → Bool} {w : World} (x : Ph1 c P0 P1 L w) (h : L c = false) : P0 w := by
  rcases x with ⟨_, x⟩ | ⟨e, _⟩
  · exact x
  · rw [h] at e; cases e
theorem Ph1.behind {c : Nat} {P0 P1 : World → Prop} {L : Nat → Bool} {w : World} (x : Ph1 c P0 P1 L w) (h : L c = true) : P1 w := by
  rcases x with ⟨e, _⟩ | ⟨_, x⟩
  · rw [h] at e; cases e
  · exact x
theorem Ph1.done {c : Nat} {P0 P1 : World → Prop} (L : Nat → Bool) {w : World} (h : P1 w) : Ph1 c P0 P1 (more L c) w := .inr ⟨more_self L c, h⟩
/-- Around two calls, at places c and e, the one behind the other. -/
def Ph2 (c e : Nat) (P0 P1 P2 : World → Prop) (L : Nat → Bool) (w : World) : Prop := (L c = false ∧ L e = false ∧ P0 w) ∨ (L c = true ∧ L e = false ∧ P1 w) ∨ (L c = true ∧ L e = true ∧ P2 w)
theorem Ph2.keep {c e : Nat} {P0 P1 P2 : World → Prop} {k : Nat} (h : c ≠ k) (h2 : e ≠ k) (L : Nat → Bool) (w : World) (x : Ph2 c e P0 P1 P2 L w) : Ph2 c e P0 P1 P2 (more L k) w := by
  unfold Ph2
  rw [more_ne L h, more_ne L h2]
  exact x
theorem Ph2.any {c e : Nat} {P0 P1 P2 : World → Prop} {R : Prop} {L : Nat → Bool} {w : World} (x : Ph2 c e P0 P1 P2 L w) (h0 : P0 w → R) (h1 : P1 w → R) (h2 : P2 w → R) : R := by
  rcases x with ⟨_, _, x⟩ | ⟨_, _, x⟩ | ⟨_, _, x⟩
  · exact h0 x
  · exact h1 x
  · exact h2 x
theorem Ph2.first {c e : Nat} {P0 P1 P2 : World → Prop} {L : Nat → Bool} {w : World} (x : Ph2 c e P0 P1 P2 L w) (h : L c = false) : P0 w ∧ L e = false := by
  rcases x with ⟨_, y, x⟩ | ⟨y, _⟩ | ⟨y, _⟩
  · exact ⟨x, y⟩
  · rw [h] at y; cases y
  · rw [h] at y; cases y
theorem Ph2.second {c e : Nat} {P0 P1 P2 : World → Prop} {L : Nat → Bool} {w : World} (x : Ph2 c e P0 P1 P2 L w) (h : L c = true) (h2 : L e = false) : P1 w := by
  rcases x with ⟨y, _⟩ | ⟨_, _, x⟩ | ⟨_, y, _⟩
  · rw [h] at y; cases y
  · exact x
  · rw [h2] at y; cases y
theorem Ph2.end {c e : Nat} {P0 P1 P2 : World → Prop} {L : Nat → Bool} {w : World} (x : Ph2 c e P0 P1 P2 L w) (h2 : L e = true) : P2 w := by
  rcases x with ⟨_, y, _⟩ | ⟨_, y, _⟩ | ⟨_, _, x⟩
  · rw [h2] at y; cases y
  · rw [h2] at y; cases y
  · exact x
theorem Ph2.done1 {c e : Nat} {P0 P1 P2 : World → Prop} {L : Nat → Bool} {w : World} (hne : e ≠ c) (he : L e = false) (h : P1 w) : Ph2 c e P0 P1 P2 (more L c) w := .inr (.inl ⟨more_self L c, by rw [more_ne L hne]; exact he, h⟩)
theorem Ph2.done2 {c e : Nat} {P0 P1 P2 : World → Prop} {L : Nat → Bool} {w : World} (hne : c ≠ e) (hc : L c = true) (h : P2 w) : Ph2 c e P0 P1 P2 (more L e) w := .inr (.inr ⟨by rw [more_ne L hne]; exact hc, more_self L e, h⟩)
end Go.Proofs.Ytalffdiohjcajaa
