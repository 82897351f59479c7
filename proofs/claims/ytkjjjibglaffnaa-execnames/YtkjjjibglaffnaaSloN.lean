/-
  A region whose order is drawn and that makes memory and calls, stores nothing: by what each slot holds behind its operation, kept by new memory; guarded operations are wanted. The frame behind it: as it was, but for its slots.
-/
import Derived.Test.YtkjjjibglaffnaaDrawn
namespace Go.Proofs.Ytkjjjibglaffnaa
open Go.RowKit
def waitQ (o : Oper) (i : Nat) : Bool := o.after.toList.any (fun e => e.on == i && Region.binds .any e)
theorem waitQ_of {o : Oper} {i : Nat} (h : waitQ o i = true) : ∃ e ∈ o.after, e.on = i ∧ Region.binds .any e = true := by
  unfold waitQ at h
  obtain ⟨e, he, hb⟩ := List.any_eq_true.1 h
  have he : e ∈ o.after := Array.mem_toList_iff.1 he
  simp only [Bool.and_eq_true, beq_iff_eq] at hb
  exact ⟨e, he, hb.1, hb.2⟩
/-- What slots hold: one word a slot. -/
abbrev Wd := Value → World → Prop
def Wd.Stable (P : Wd) : Prop := ∀ v w w', P v w → After w w' → P v w'
def wdAt (Ts : List Wd) (i : Nat) : Wd := Ts.getD i (fun _ _ => True)
/-- What is asked of each operation. -/
structure SlOk (P : Program) (Q : Exit → Act → World → Prop) (D : List Nat) (Ts : List Wd) (b : Act) (w0 : World) (k : Nat) (o : Oper) : Prop where
  dst : o.dst = some (D.getD k 0)
  back : o.after.toList.all (fun e => !Region.binds .any e || decide (e.on < k)) = true
  guard : o.guard = none ∨ ∃ j g, o.guard = some (j, g) ∧ waitQ o j = true ∧ ∀ v w, wdAt Ts j v w → v = .bool g
  step : ∀ (a : Act) (w : World) (K : Act → World → Prop), (∀ i, waitQ o i = true → wdAt Ts i (a.tmps.getD (D.getD i 0) undef) w) → (∀ x, D.contains x = false → a.tmps.getD x undef = b.tmps.getD x undef) → After w0 w → (∀ v w', wdAt Ts k v w' → After w w' → K (a.put o.dst v) w') → Oper.wp P o a w K Q
/-- The frame behind the first n. -/
def sets (D : List Nat) (x : Nat → Value) : Nat → List Value → List Value
  | 0, a => a
  | n + 1, a => (sets D x n a).set (D.getD n 0) (x n)
theorem sets_length (D : List Nat) (x : Nat → Value) (n : Nat) (a : List Value) : (sets D x n a).length = a.length := by
  induction n with
  | zero => rfl
  | succ n ih => simp [sets, ih]
theorem sets_none {D : List Nat} (x : Nat → Value) (n : Nat) (a : List Value) (i : Nat) (h : ∀ k, k < n → D.getD k 0 ≠ i) : (sets D x n a)[i]? = a[i]? := by
  induction n with
  | zero => rfl
  | succ n ih =>
    unfold sets
    rw [List.getElem?_set_ne (h n (by omega)), ih (fun k hk => h k (by omega))]
theorem sets_at {D : List Nat} (x : Nat → Value) (n : Nat) (a : List Value) (k : Nat) (hk : k < n) (hD : D.getD k 0 < a.length) (hu : ∀ i, i < n → D.getD i 0 = D.getD k 0 → i = k) : (sets D x n a)[D.getD k 0]? = some (x k) := by
  induction n with
  | zero => omega
  | succ n ih =>
    unfold sets
    by_cases e : k = n
    · subst e
      rw [List.getElem?_set_self (by rw [sets_length]; exact hD)]
    · have h1 : D.getD n 0 ≠ D.getD k 0 := fun h => e (hu n (by omega) h).symm
      rw [List.getElem?_set_ne h1, ih (by omega) (fun i hi h => hu i (by omega) h)]
def distinct (D : List Nat) (n : Nat) : Bool := (List.range n).all (fun i => (List.range n).all (fun j => D.getD i 0 != D.getD j 0 || i == j))
theorem distinct_of {D : List Nat} {n i j : Nat} (h : distinct D n = true) (hi : i < n) (hj : j < n) (e : D.getD i 0 = D.getD j 0) : i = j := by
  have h1 := List.all_eq_true.1 h i (List.mem_range.2 hi)
  have := List.all_eq_true.1 h1 j (List.mem_range.2 hj)
  rw [e] at this
  simpa using this
theorem region_slots {P : Program} {ops : Array Oper} {Q : Exit → Act → World → Prop} {id : Nat} {b : Act} {w0 : World} (hm : P.follows .mixedOrders = true)
    (D : List Nat) (Ts : List Wd) (n : Nat) (hn : ops.size = n) (hDn : D.length = n) (hst : ∀ i, (wdAt Ts i).Stable) (hown : distinct D n = true) (hDM : (List.range n).all (fun i => decide (D.getD i 0 < b.tmps.size)) = true)
    (hall : AllOk (SlOk P Q D Ts b w0) 0 ops.toList)
    (hend : ∀ (x : Nat → Value) w', (∀ i, i < n → wdAt Ts i (x i) w') → After w0 w' → Q .normal ⟨(sets D x n b.tmps.toList).toArray, b.defers⟩ w') : (Code.region id ops true).wp P Q b w0 := by
  have ok : ∀ {i o}, ops[i]? = some o → SlOk P Q D Ts b w0 i o := fun {i o} h => by
    have := hall.at (i := i) (o := o) (by rw [Array.getElem?_toList]; exact h)
    rw [Nat.zero_add] at this; exact this
  have bk : ∀ {i o}, ops[i]? = some o → ∀ e ∈ o.after, Region.binds .any e = true → e.on < i := fun {i o} h e he hb => by
    have := List.all_eq_true.1 (ok h).back e (Array.mem_toList_iff.2 he)
    rw [hb] at this
    simpa using this
  have rdy : ∀ {listed : Array Bool} {i : Nat} {o : Oper}, ops[i]? = some o → listed.getD i true = false → (∀ e ∈ o.after, Region.binds .any e = true → listed.getD e.on false = true) → i ∈ Region.ready .any ops listed := fun {listed i o} h1 h2 h3 => by
    unfold Region.ready
    simp only [List.mem_filter, List.mem_range, Bool.and_eq_true, Bool.not_eq_true']
    refine ⟨(Array.getElem?_eq_some_iff.1 h1).1, h2, ?_⟩
    rw [h1]
    simp only [Option.map_some, Option.getD_some, Array.all_eq_true_iff_forall_mem, Bool.or_eq_true, Bool.not_eq_true']
    intro e he
    rcases hb : Region.binds .any e with _ | _
    · exact .inl rfl
    · exact .inr (h3 e he hb)
  have hlt : ∀ i, i < n → D.getD i 0 < b.tmps.size := fun i hi => of_decide_eq_true (List.all_eq_true.1 hDM i (List.mem_range.2 hi))
  have main : ∀ fuel (listed : Array Bool) (a : Act) (w : World), left listed ≤ fuel → listed.size = n → a.defers = b.defers → a.tmps.size = b.tmps.size → (∀ x, D.contains x = false → a.tmps.getD x undef = b.tmps.getD x undef) → (∀ i, i < n → listed.getD i false = true → wdAt Ts i (a.tmps.getD (D.getD i 0) undef) w) → After w0 w →
      (∀ i o, ops[i]? = some o → listed.getD i false = true → ∀ e ∈ o.after, Region.binds .any e = true → listed.getD e.on false = true) → wpAny P .any ops Q fuel listed a w := by
    intro fuel
    have done : ∀ (listed : Array Bool) (a : Act) (w : World), listed.size = n → a.defers = b.defers → a.tmps.size = b.tmps.size → (∀ x, D.contains x = false → a.tmps.getD x undef = b.tmps.getD x undef) → (∀ i, i < n → listed.getD i false = true → wdAt Ts i (a.tmps.getD (D.getD i 0) undef) w) → After w0 w → Region.ready .any ops listed = [] → Q .normal a w := by
      intro listed a w hs hd hz hk ht aw hr
      have hl : ∀ i, i < n → listed.getD i false = true := by
        intro i hi
        induction i using Nat.strongRecOn with
        | ind i ih =>
          have ho : ops[i]? = some ops[i] := Array.getElem?_eq_getElem (by omega)
          have hl : i < listed.size := by omega
          by_cases h2 : listed.getD i true = false
          · have := rdy ho h2 (fun e he hb => ih e.on (bk ho e he hb) (by have := bk ho e he hb; omega))
            rw [hr] at this
            cases this
          · simp [Array.getD, hl] at h2 ⊢
            exact h2
      have key := hend (fun i => a.tmps.getD (D.getD i 0) undef) w (fun i hi => ht i hi (hl i hi)) aw
      have e : a = ⟨(sets D (fun i => a.tmps.getD (D.getD i 0) undef) n b.tmps.toList).toArray, b.defers⟩ := by
        obtain ⟨at_, ad⟩ := a
        dsimp only at hd hz hk key ⊢
        subst hd
        congr 1
        apply Array.ext_getElem?
        intro i
        rw [show (sets D (fun i => at_.getD (D.getD i 0) undef) n b.tmps.toList).toArray[i]? = (sets D (fun i => at_.getD (D.getD i 0) undef) n b.tmps.toList)[i]? from by simp]
        by_cases hc : ∃ k, k < n ∧ D.getD k 0 = i
        · obtain ⟨k, hkn, rfl⟩ := hc
          rw [sets_at _ _ _ k hkn (by rw [Array.length_toList]; exact hlt k hkn) (fun i hi e => distinct_of hown hi hkn e)]
          have h1 : D.getD k 0 < at_.size := by rw [hz]; exact hlt k hkn
          rw [Array.getElem?_eq_getElem h1]
          congr 1
          generalize D.getD k 0 = d at h1
          simp [Array.getD, h1]
        · rw [sets_none _ _ _ _ (fun k hkn e => hc ⟨k, hkn, e⟩)]
          have hcon : D.contains i = false := by
            rcases h2 : D.contains i with _ | _
            · rfl
            · exfalso
              have h3 : i ∈ D := by simpa using h2
              obtain ⟨k, hk1, hk2⟩ := List.getElem_of_mem h3
              exact hc ⟨k, by omega, by simp [hk1, hk2]⟩
          have h5 := hk i hcon
          by_cases hi : i < at_.size
          · have hib : i < b.tmps.size := by omega
            rw [Array.getElem?_eq_getElem hi, Array.getElem?_toList, Array.getElem?_eq_getElem hib]
            congr 1
            simpa [Array.getD, hi, hib] using h5
          · rw [Array.getElem?_eq_none (by omega), Array.getElem?_toList, Array.getElem?_eq_none (by omega)]
      rw [e]
      exact key
    induction fuel with
    | zero =>
      intro listed a w hf hs hd hz hk ht aw hc
      have hr : Region.ready .any ops listed = [] := by
        rw [List.eq_nil_iff_forall_not_mem]
        intro i hi
        obtain ⟨o, ho, h4, h3⟩ := ready_mem hi
        have := left_zero (listed := listed) (by omega) i
        rw [h4] at this
        cases this
      exact ⟨hr, done listed a w hs hd hz hk ht aw hr⟩
    | succ fuel ih =>
      intro listed a w hf hs hd hz hk ht aw hc
      refine ⟨fun hr => done listed a w hs hd hz hk ht aw hr, fun i hi => ?_⟩
      obtain ⟨o, ho, h4, h3⟩ := ready_mem hi
      have hin : i < n := by have := (Array.getElem?_eq_some_iff.1 ho).1; omega
      have k := ok ho
      refine wpOp_step ho (fun K' hK => ?_)
      have deps : ∀ j, waitQ o j = true → wdAt Ts j (a.tmps.getD (D.getD j 0) undef) w := fun j hj => by
        obtain ⟨e, he, rfl, hb⟩ := waitQ_of hj
        exact ht e.on (by have := bk ho e he hb; omega) (h3 e he hb)
      have hw : Region.wanted o (yielded ops a.tmps) = true := by
        rcases k.guard with hg | ⟨j, g, hg, hj, htr⟩
        · unfold Region.wanted; rw [hg]
        · unfold Region.wanted
          rw [hg]
          obtain ⟨e, he, hej, heb⟩ := waitQ_of hj
          have hjn : j < n := by have := bk ho e he heb; omega
          have hv := htr _ _ (deps j hj)
          have hoj : ops[j]? = some ops[j] := Array.getElem?_eq_getElem (by omega)
          have hdj := (ok hoj).dst
          have h1 : D.getD j 0 < a.tmps.size := by rw [hz]; exact hlt j hjn
          have hval : a.tmps[D.getD j 0]? = some (.bool g) := by
            generalize D.getD j 0 = d at h1 hv
            rw [Array.getElem?_eq_getElem h1]
            have : a.tmps.getD d undef = a.tmps[d] := by simp [Array.getD, h1]
            rw [← this, hv]
          simp [yielded, hoj, hdj]
          simp at hval
          simp [hval]
      rw [if_pos hw]
      refine k.step a w K' deps hk aw (fun v w' hv hA => hK _ _ ?_)
      rw [k.dst]
      have hltM : D.getD i 0 < a.tmps.size := by rw [hz]; exact hlt i hin
      refine ih _ _ _ (by have := left_set h4; omega) (by simpa using hs) hd (by show (a.tmps.setIfInBounds (D.getD i 0) v).size = _; rw [Array.size_setIfInBounds]; exact hz) (fun x hx => ?_) (fun q hq hl => ?_) (aw.trans hA) (fun j oj hoj hl e he hbd => ?_)
      · rw [getD_put hltM, if_neg (fun e => ?_)]
        · exact hk x hx
        · have : x ∈ D := by
            rw [e]
            have hi' : i < D.length := by omega
            simp [hi']
          have h2 : D.contains x = true := by simpa using this
          rw [hx] at h2; cases h2
      · rw [getD_put hltM]
        by_cases e : D.getD q 0 = D.getD i 0
        · rw [if_pos e]
          obtain rfl := distinct_of hown hq hin e
          exact hv
        · rw [if_neg e]
          have hqi : q ≠ i := fun h => e (by rw [h])
          refine hst q _ _ _ (ht q hq ?_) hA
          rcases getD_set_true hl with h5 | h5
          · exact absurd h5 hqi
          · exact h5
      · rcases getD_set_true hl with rfl | h5
        · rw [ho] at hoj; cases hoj
          exact set_getD_true (h3 e he hbd)
        · exact set_getD_true (hc j oj hoj h5 e he hbd)
  have rep2 : ∀ i, (Array.replicate n false).getD i false = false := fun i => by
    simp only [Array.getD_eq_getD_getElem?, Array.getElem?_replicate]
    split <;> simp
  refine wp_region_any hm ?_
  rw [hn]
  refine main _ _ b _ ?_ (by rw [Array.size_replicate]) rfl rfl (fun _ _ => rfl) (fun i _ hl => ?_) (But.drew After.rfl) (fun i o _ hl => ?_)
  · unfold left
    exact Nat.le_trans List.countP_le_length (by simp)
  · rw [rep2] at hl; cases hl
  · rw [rep2] at hl; cases hl
end Go.Proofs.Ytkjjjibglaffnaa
