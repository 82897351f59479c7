/-
  The same with guarded operations, which are wanted: a region whose order is drawn, by whatever holds between its operations.
-/
import Derived.Test.YtalffdiohjcajaaDrawn
namespace Go.Proofs.Ytalffdiohjcajaa.Ig
open Go.RowKit
/-- One more is done. -/
def more (L : Nat → Bool) (k : Nat) : Nat → Bool := fun i => L i || i == k
theorem more_self (L : Nat → Bool) (k : Nat) : more L k k = true := by simp [more]
theorem more_ne (L : Nat → Bool) {k i : Nat} (h : i ≠ k) : more L k i = L i := by simp [more, h]
/-- The operation is wanted. -/
def GOk (ops : Array Oper) (J : (Nat → Bool) → Act → World → Prop) (o : Oper) : Prop := o.guard = none ∨ ∃ j q, o.guard = some (j, q) ∧ (∃ e ∈ o.after, e.on = j ∧ Region.binds .any e = true) ∧ ∀ L a w, J L a w → L j = true → ∃ oj d, ops[j]? = some oj ∧ oj.dst = some d ∧ a.tmps[d]? = some (.bool q)
/-- What is asked of each operation. -/
structure InvOk (P : Program) (ops : Array Oper) (Q : Exit → Act → World → Prop) (J : (Nat → Bool) → Act → World → Prop) (k : Nat) (o : Oper) : Prop where
  guard : GOk ops J o
  back : o.after.toList.all (fun e => !Region.binds .any e || decide (e.on < k)) = true
  step : ∀ (a : Act) (w : World) (L : Nat → Bool) (K : Act → World → Prop), (∀ i, (cover ops 12 (waits ops k)).contains i = true → L i = true) → L k = false → J L a w → (∀ a' w', J (more L k) a' w' → K a' w') → Oper.wp P o a w K Q
theorem region_inv {P : Program} {ops : Array Oper} {Q : Exit → Act → World → Prop} {id : Nat} {b : Act} {w : World} (hm : P.follows .mixedOrders = true)
    (J : (Nat → Bool) → Act → World → Prop) (h0 : J (fun _ => false) b w.drew) (hall : AllOk (InvOk P ops Q J) 0 ops.toList)
    (hend : ∀ a' w' L, (∀ i, i < ops.size → L i = true) → J L a' w' → Q .normal a' w') : (Code.region id ops true).wp P Q b w := by
  obtain ⟨n, hn⟩ : ∃ n, ops.size = n := ⟨_, rfl⟩
  have ok : ∀ {i o}, ops[i]? = some o → InvOk P ops Q J i o := fun {i o} h => by
    have := hall.at (i := i) (o := o) (by rw [Array.getElem?_toList]; exact h)
    rw [Nat.zero_add] at this; exact this
  have bk : ∀ {i o}, ops[i]? = some o → ∀ e ∈ o.after, Region.binds .any e = true → e.on < i := fun {i o} h e he hb => by
    have := List.all_eq_true.1 (ok h).back e (Array.mem_toList_iff.2 he)
    rw [hb] at this
    simpa using this
  have rdy : ∀ {listed : Array Bool} {i : Nat} {o : Oper}, ops[i]? = some o → listed.getD i true = false → (∀ e ∈ o.after, Region.binds .any e = true → listed.getD e.on false = true) → i ∈ Region.ready .any ops listed := fun {listed i o} h1 h2 h3 => by
    unfold Region.ready
    simp only [List.mem_filter, List.mem_range, Bool.and_eq_true, Bool.not_eq_true']
    refine ⟨(Array.getElem?_eq_some_iff.1 h1).1, h2, ?_⟩
    rw [h1]
    simp only [Option.map_some, Option.getD_some, Array.all_eq_true_iff_forall_mem, Bool.or_eq_true, Bool.not_eq_true']
    intro e he
    rcases hb : Region.binds .any e with _ | _
    · exact .inl rfl
    · exact .inr (h3 e he hb)
  have main : ∀ fuel (listed : Array Bool) (a : Act) (w : World), left listed ≤ fuel → listed.size = n → J (fun i => listed.getD i false) a w → (∀ i o, ops[i]? = some o → listed.getD i false = true → ∀ e ∈ o.after, Region.binds .any e = true → listed.getD e.on false = true) → wpAny P .any ops Q fuel listed a w := by
    intro fuel
    have done : ∀ (listed : Array Bool) (a : Act) (w : World), listed.size = n → J (fun i => listed.getD i false) a w → Region.ready .any ops listed = [] → Q .normal a w := by
      intro listed a w hs hj hr
      refine hend a w _ (fun i hi => ?_) hj
      induction i using Nat.strongRecOn with
      | ind i ih =>
        have ho : ops[i]? = some ops[i] := Array.getElem?_eq_getElem hi
        have hl : i < listed.size := by omega
        by_cases h2 : listed.getD i true = false
        · have := rdy ho h2 (fun e he hb => ih e.on (bk ho e he hb) (by have := bk ho e he hb; omega))
          rw [hr] at this
          cases this
        · simp [Array.getD, hl] at h2 ⊢
          exact h2
    induction fuel with
    | zero =>
      intro listed a w hf hs hj hc
      have hr : Region.ready .any ops listed = [] := by
        rw [List.eq_nil_iff_forall_not_mem]
        intro i hi
        obtain ⟨o, ho, h4, h3⟩ := ready_mem hi
        have := left_zero (listed := listed) (by omega) i
        rw [h4] at this
        cases this
      exact ⟨hr, done listed a w hs hj hr⟩
    | succ fuel ih =>
      intro listed a w hf hs hj hc
      refine ⟨fun hr => done listed a w hs hj hr, fun i hi => ?_⟩
      obtain ⟨o, ho, h4, h3⟩ := ready_mem hi
      have k := ok ho
      refine wpOp_step ho (fun K' hK => ?_)
      have hw : Region.wanted o (yielded ops a.tmps) = true := by
        rcases k.guard with hg | ⟨j, q, hg, ⟨e, he, hej, heb⟩, htr⟩
        · unfold Region.wanted; rw [hg]
        · unfold Region.wanted
          rw [hg]
          have hl := h3 e he heb
          rw [hej] at hl
          obtain ⟨oj, d, hoj, hdj, hval⟩ := htr _ a w hj hl
          simp [yielded, hoj, hdj, hval]
      rw [if_pos hw]
      refine k.step a w _ K' (fun q hq => cover_ok hc 12 (waits ops i) (fun q hq => ?_) q (by simpa using hq)) (getD_flip h4) hj (fun a' w' hJ => hK _ _ ?_)
      · unfold waits at hq
        rw [ho] at hq
        obtain ⟨e, he, rfl⟩ := List.mem_map.1 hq
        obtain ⟨he1, he2⟩ := List.mem_filter.1 he
        exact h3 e (Array.mem_toList_iff.1 he1) he2
      · have hL : (fun q => (listed.setIfInBounds i true).getD q false) = more (fun q => listed.getD q false) i := by
          funext q
          by_cases hq : q = i
          · subst hq
            rw [set_self h4, more_self]
          · rw [more_ne _ hq]
            simp only [Array.getD_eq_getD_getElem?, Array.getElem?_setIfInBounds]
            rw [if_neg (fun h' => hq h'.symm)]
        refine ih _ _ _ (by have := left_set h4; omega) (by simpa using hs) (by rw [hL]; exact hJ) (fun j oj hoj hl e he hbd => ?_)
        rcases getD_set_true hl with rfl | h5
        · rw [ho] at hoj; cases hoj
          exact set_getD_true (h3 e he hbd)
        · exact set_getD_true (hc j oj hoj h5 e he hbd)
  have rep2 : ∀ i, (Array.replicate n false).getD i false = false := fun i => by
    simp only [Array.getD_eq_getD_getElem?, Array.getElem?_replicate]
    split <;> simp
  refine wp_region_any hm ?_
  rw [hn]
  refine main _ _ b _ ?_ (by rw [Array.size_replicate]) ?_ (fun i o _ hl => ?_)
  · unfold left
    exact Nat.le_trans List.countP_le_length (by simp)
  · have e : (fun i => (Array.replicate n false).getD i false) = fun _ => false := funext rep2
    rw [e]
    exact h0
  · rw [rep2] at hl; cases hl
end Go.Proofs.Ytalffdiohjcajaa.Ig
