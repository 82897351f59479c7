/-
  A region whose order is drawn, by what is known of each slot behind its operation, whatever the order.
-/
import Derived.Test.YtmdbpoknehafaaaBase
import Derived.RegionTactic
namespace Go.Proofs.Ytmdbpoknehafaaa
open Go.RowKit
/-- What is asked of each operation of a region: its slot; that it waits for earlier ones alone; its guard; its step. -/
structure OpOk (P : Program) (T : Nat → Value → World → Prop) (D : Nat → Nat) (Base : Act → World → Prop) (k : Nat) (o : Oper) : Prop where
  dst : o.dst = some (D k)
  back : ∀ e ∈ o.after, e.on < k
  guard : o.guard = none ∨ ∃ j, o.guard = some (j, true) ∧ (∃ e ∈ o.after, e.on = j ∧ Region.binds .any e = true) ∧ ∀ v w, T j v w → v = .bool true
  step : ∀ (a : Act) (w : World) (K : Act → World → Prop) (Q : Exit → Act → World → Prop), (∀ e ∈ o.after, Region.binds .any e = true → T e.on (a.tmps.getD (D e.on) undef) w) → Base a w → (∀ v w', T k v w' → After w w' → K (a.put o.dst v) w') → Oper.wp P o a w K Q
def AllOk (OK : Nat → Oper → Prop) : Nat → List Oper → Prop
  | _, [] => True
  | k, o :: r => OK k o ∧ AllOk OK (k + 1) r
theorem AllOk.at {OK : Nat → Oper → Prop} : ∀ {k : Nat} {l : List Oper}, AllOk OK k l → ∀ {i : Nat} {o : Oper}, l[i]? = some o → OK (k + i) o
  | _, [], _, i, o, hi => by simp at hi
  | k, x :: r, h, 0, o, hi => by simp at hi; subst hi; exact h.1
  | k, x :: r, h, i + 1, o, hi => by
    have := AllOk.at h.2 (i := i) (o := o) (by simpa using hi)
    rw [show k + (i + 1) = k + 1 + i by omega]; exact this
/-- How many are not listed. -/
def left (listed : Array Bool) : Nat := listed.toList.countP (fun b => !b)
theorem left_set {listed : Array Bool} {i : Nat} (h : listed.getD i true = false) : left (listed.setIfInBounds i true) + 1 = left listed := by
  have hi : i < listed.size := by
    rcases Nat.lt_or_ge i listed.size with h' | h'
    · exact h'
    · simp [Array.getD, Nat.not_lt.2 h'] at h
  have hv : listed.toList[i]'(by simpa using hi) = false := by
    simpa [Array.getD, hi] using h
  unfold left
  rw [Array.toList_setIfInBounds]
  have key : ∀ (l : List Bool) (i : Nat) (hi : i < l.length), l[i] = false → (l.set i true).countP (fun b => !b) + 1 = l.countP (fun b => !b) := by
    intro l
    induction l with
    | nil => intro i hi; simp at hi
    | cons x r ih =>
      intro i hi hx
      cases i with
      | zero => simp at hx; subst hx; simp
      | succ i =>
        have := ih i (by simpa using hi) (by simpa using hx)
        simp only [List.set_cons_succ, List.countP_cons]
        omega
  exact key _ _ (by simpa using hi) hv
theorem left_zero {listed : Array Bool} (h : left listed = 0) (i : Nat) : listed.getD i true = true := by
  unfold left at h
  rw [List.countP_eq_zero] at h
  by_cases hi : i < listed.size
  · have := h listed[i] (by simp)
    simp [Array.getD, hi] at this ⊢
    exact this
  · simp [Array.getD, hi]
theorem getD_put {a : Act} {d e : Nat} {v : Value} (hd : d < a.tmps.size) : (a.put (some d) v).tmps.getD e undef = if e = d then v else a.tmps.getD e undef := by
  show (a.tmps.setIfInBounds d v).getD e undef = _
  by_cases h : e = d
  · subst h
    rw [if_pos rfl]
    simp [Array.getD, hd]
  · rw [if_neg h]
    simp only [Array.getD_eq_getD_getElem?, Array.getElem?_setIfInBounds]
    rw [if_neg (fun h' => h h'.symm)]
theorem ready_mem {ops : Array Oper} {listed : Array Bool} {i : Nat} (h : i ∈ Region.ready .any ops listed) : ∃ o, ops[i]? = some o ∧ listed.getD i true = false ∧ ∀ e ∈ o.after, Region.binds .any e = true → listed.getD e.on false = true := by
  unfold Region.ready at h
  simp only [List.mem_filter, List.mem_range, Bool.and_eq_true, Bool.not_eq_true'] at h
  obtain ⟨h1, h2, h3⟩ := h
  rw [Array.getElem?_eq_getElem h1] at h3 ⊢
  refine ⟨_, rfl, h2, fun e he hb => ?_⟩
  simp only [Option.map_some, Option.getD_some, Array.all_eq_true_iff_forall_mem, Bool.or_eq_true, Bool.not_eq_true'] at h3
  rcases h3 e he with h4 | h4
  · rw [hb] at h4; cases h4
  · exact h4
theorem ready_of {ops : Array Oper} {listed : Array Bool} {i : Nat} {o : Oper} (h1 : ops[i]? = some o) (h2 : listed.getD i true = false) (h3 : ∀ e ∈ o.after, listed.getD e.on false = true) : i ∈ Region.ready .any ops listed := by
  unfold Region.ready
  simp only [List.mem_filter, List.mem_range, Bool.and_eq_true, Bool.not_eq_true']
  refine ⟨(Array.getElem?_eq_some_iff.1 h1).1, h2, ?_⟩
  rw [h1]
  simp only [Option.map_some, Option.getD_some, Array.all_eq_true_iff_forall_mem, Bool.or_eq_true, Bool.not_eq_true']
  exact fun e he => .inr (h3 e he)
theorem region_slots {P : Program} {ops : Array Oper} {Q : Exit → Act → World → Prop} {id : Nat} {a : Act} {w : World} (hm : P.follows .mixedOrders = true)
    (T : Nat → Value → World → Prop) (D : Nat → Nat) (Base : Act → World → Prop) (n M : Nat) (hn : ops.size = n) (hM : a.tmps.size = M)
    (hT : ∀ i v w w', T i v w → After w w' → T i v w') (hD : ∀ i j, i < n → j < n → D i = D j → i = j) (hDM : ∀ i, i < n → D i < M)
    (hB : ∀ (a : Act) w k v w', a.tmps.size = M → Base a w → k < n → After w w' → Base (a.put (some (D k)) v) w') (hB0 : Base a w.drew)
    (hall : AllOk (OpOk P T D Base) 0 ops.toList)
    (hend : ∀ (a' : Act) w', a'.tmps.size = M → (∀ i, i < n → T i (a'.tmps.getD (D i) undef) w') → Base a' w' → Q .normal a' w') :
    (Code.region id ops true).wp P Q a w := by
  have ok : ∀ {i o}, ops[i]? = some o → OpOk P T D Base i o := fun {i o} h => by
    have := hall.at (i := i) (o := o) (by rw [Array.getElem?_toList]; exact h)
    rw [Nat.zero_add] at this; exact this
  have main : ∀ fuel (listed : Array Bool) (a : Act) (w : World), left listed ≤ fuel → listed.size = n → a.tmps.size = M → Base a w → (∀ i, i < n → listed.getD i false = true → T i (a.tmps.getD (D i) undef) w) → wpAny P .any ops Q fuel listed a w := by
    intro fuel
    have done : ∀ (listed : Array Bool) (a : Act) (w : World), listed.size = n → a.tmps.size = M → Base a w → (∀ i, i < n → listed.getD i false = true → T i (a.tmps.getD (D i) undef) w) → Region.ready .any ops listed = [] → Q .normal a w := by
      intro listed a w hs ha hb ht hr
      have all : ∀ i, i < n → listed.getD i false = true := by
        intro i
        induction i using Nat.strongRecOn with
        | ind i ih =>
          intro hi
          have ho : ops[i]? = some ops[i] := Array.getElem?_eq_getElem (by omega)
          have hl : i < listed.size := by omega
          by_cases h2 : listed.getD i true = false
          · have := ready_of ho h2 (fun e he => ih e.on ((ok ho).back e he) (by have := (ok ho).back e he; omega))
            rw [hr] at this
            cases this
          · simp [Array.getD, hl] at h2 ⊢
            exact h2
      exact hend a w ha (fun i hi => ht i hi (all i hi)) hb
    induction fuel with
    | zero =>
      intro listed a w hf hs ha hb ht
      have hr : Region.ready .any ops listed = [] := by
        rw [List.eq_nil_iff_forall_not_mem]
        intro i hi
        obtain ⟨o, _, h2, _⟩ := ready_mem hi
        rw [left_zero (by omega) i] at h2
        cases h2
      exact ⟨hr, done listed a w hs ha hb ht hr⟩
    | succ fuel ih =>
      intro listed a w hf hs ha hb ht
      refine ⟨done listed a w hs ha hb ht, fun i hi => ?_⟩
      obtain ⟨o, ho, h2, h3⟩ := ready_mem hi
      have k := ok ho
      have hin : i < n := by have := (Array.getElem?_eq_some_iff.1 ho).1; omega
      have deps : ∀ e ∈ o.after, Region.binds .any e = true → T e.on (a.tmps.getD (D e.on) undef) w := fun e he hbd => ht e.on (by have := k.back e he; omega) (h3 e he hbd)
      refine wpOp_step ho (fun K' hK => ?_)
      have hw : Region.wanted o (yielded ops a.tmps) = true := by
        rcases k.guard with hg | ⟨j, hg, ⟨e, he, hej, heb⟩, htr⟩
        · unfold Region.wanted; rw [hg]
        · unfold Region.wanted
          rw [hg]
          have hjn : j < n := by have := k.back e he; omega
          have hj := deps e he heb
          rw [hej] at hj
          have hv := htr _ _ hj
          have hoj : ops[j]? = some ops[j] := Array.getElem?_eq_getElem (by omega)
          have hdj := (ok hoj).dst
          have hlt : D j < a.tmps.size := by rw [ha]; exact hDM j hjn
          have hval : a.tmps[D j]? = some (.bool true) := by
            rw [Array.getElem?_eq_getElem hlt]
            have : a.tmps.getD (D j) undef = a.tmps[D j] := by simp [Array.getD, hlt]
            rw [← this, hv]
          simp [yielded, hoj, hdj, hval]
      rw [if_pos hw]
      refine k.step a w K' Q deps hb (fun v w' hv hA => hK _ _ ?_)
      rw [k.dst]
      have hlt : D i < a.tmps.size := by rw [ha]; exact hDM i hin
      refine ih _ _ _ (by have := left_set h2; omega) (by simpa using hs) (by show (a.tmps.setIfInBounds (D i) v).size = M; rw [Array.size_setIfInBounds]; exact ha) (hB a w i v w' ha hb hin hA) (fun q hq hl => ?_)
      rw [getD_put hlt]
      by_cases e : D q = D i
      · rw [if_pos e]
        obtain rfl := hD q i hq hin e
        exact hv
      · rw [if_neg e]
        have hqi : q ≠ i := fun h => e (by rw [h])
        refine hT q _ _ _ (ht q hq ?_) hA
        simp only [Array.getD_eq_getD_getElem?, Array.getElem?_setIfInBounds] at hl ⊢
        rw [if_neg (fun h' => hqi h'.symm)] at hl
        exact hl
  refine wp_region_any hm (main ops.size _ a _ ?_ (by rw [Array.size_replicate]; exact hn) hM hB0 (fun i hi hl => ?_))
  · unfold left
    exact Nat.le_trans List.countP_le_length (by simp)
  · simp only [Array.getD_eq_getD_getElem?, Array.getElem?_replicate] at hl
    split at hl <;> simp at hl
end Go.Proofs.Ytmdbpoknehafaaa
