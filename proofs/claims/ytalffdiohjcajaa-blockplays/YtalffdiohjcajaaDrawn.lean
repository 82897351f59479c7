/-
  A region whose order is drawn, by what is known of each slot behind its operation, whatever the order; its last two operations wait for all others.
-/
import Derived.Test.YtalffdiohjcajaaBase
import Derived.RegionTactic
namespace Go.Proofs.Ytalffdiohjcajaa
open Go.RowKit
/-- What is asked of each operation of a region: its slot; that it waits for earlier ones alone; its guard; its step. -/
structure OpOk (P : Program) (T : Nat → Value → World → Prop) (D : Nat → Nat) (Base : Act → World → Prop) (k : Nat) (o : Oper) : Prop where
  dst : o.dst = some (D k)
  back : ∀ e ∈ o.after, e.on < k
  guard : o.guard = none ∨ ∃ j b, o.guard = some (j, b) ∧ (∃ e ∈ o.after, e.on = j ∧ Region.binds .any e = true) ∧ ∀ v w, T j v w → v = .bool b
  step : ∀ (a : Act) (w : World) (K : Act → World → Prop) (Q : Exit → Act → World → Prop), (∀ e ∈ o.after, Region.binds .any e = true → T e.on (a.tmps.getD (D e.on) undef) w) → Base a w → (∀ v w', T k v w' → After w w' → K (a.put o.dst v) w') → Oper.wp P o a w K Q
def AllOk (OK : Nat → Oper → Prop) : Nat → List Oper → Prop
  | _, [] => True
  | k, o :: r => OK k o ∧ AllOk OK (k + 1) r
theorem AllOk.at {OK : Nat → Oper → Prop} : ∀ {k : Nat} {l : List Oper}, AllOk OK k l → ∀ {i : Nat} {o : Oper}, l[i]? = some o → OK (k + i) o
  | _, [], _, i, o, hi => by simp at hi
  | k, x :: r, h, 0, o, hi => by simp at hi; subst hi; exact h.1
  | k, x :: r, h, i + 1, o, hi => by
    have := AllOk.at h.2 (i := i) (o := o) (by simpa using hi)
    rw [show k + (i + 1) = k + 1 + i by omega]; exact this
/-- How many are not listed. -/
def left (listed : Array Bool) : Nat := listed.toList.countP (fun b => !b)
theorem left_set {listed : Array Bool} {i : Nat} (h : listed.getD i true = false) : left (listed.setIfInBounds i true) + 1 = left listed := by
  have hi : i < listed.size := by
    rcases Nat.lt_or_ge i listed.size with h' | h'
    · exact h'
    · simp [Array.getD, Nat.not_lt.2 h'] at h
  have hv : listed.toList[i]'(by simpa using hi) = false := by
    simpa [Array.getD, hi] using h
  unfold left
  rw [Array.toList_setIfInBounds]
  have key : ∀ (l : List Bool) (i : Nat) (hi : i < l.length), l[i] = false → (l.set i true).countP (fun b => !b) + 1 = l.countP (fun b => !b) := by
    intro l
    induction l with
    | nil => intro i hi; simp at hi
    | cons x r ih =>
      intro i hi hx
      cases i with
      | zero => simp at hx; subst hx; simp
      | succ i =>
        have := ih i (by simpa using hi) (by simpa using hx)
        simp only [List.set_cons_succ, List.countP_cons]
        omega
  exact key _ _ (by simpa using hi) hv
theorem left_zero {listed : Array Bool} (h : left listed = 0) (i : Nat) : listed.getD i true = true := by
  unfold left at h
  rw [List.countP_eq_zero] at h
  by_cases hi : i < listed.size
  · have := h listed[i] (by simp)
    simp [Array.getD, hi] at this ⊢
    exact this
  · simp [Array.getD, hi]
theorem getD_put {a : Act} {d e : Nat} {v : Value} (hd : d < a.tmps.size) : (a.put (some d) v).tmps.getD e undef = if e = d then v else a.tmps.getD e undef := by
  show (a.tmps.setIfInBounds d v).getD e undef = _
  by_cases h : e = d
  · subst h
    rw [if_pos rfl]
    simp [Array.getD, hd]
  · rw [if_neg h]
    simp only [Array.getD_eq_getD_getElem?, Array.getElem?_setIfInBounds]
    rw [if_neg (fun h' => h h'.symm)]
theorem ready_mem {ops : Array Oper} {listed : Array Bool} {i : Nat} (h : i ∈ Region.ready .any ops listed) : ∃ o, ops[i]? = some o ∧ listed.getD i true = false ∧ ∀ e ∈ o.after, Region.binds .any e = true → listed.getD e.on false = true := by
  unfold Region.ready at h
  simp only [List.mem_filter, List.mem_range, Bool.and_eq_true, Bool.not_eq_true'] at h
  obtain ⟨h1, h2, h3⟩ := h
  rw [Array.getElem?_eq_getElem h1] at h3 ⊢
  refine ⟨_, rfl, h2, fun e he hb => ?_⟩
  simp only [Option.map_some, Option.getD_some, Array.all_eq_true_iff_forall_mem, Bool.or_eq_true, Bool.not_eq_true'] at h3
  rcases h3 e he with h4 | h4
  · rw [hb] at h4; cases h4
  · exact h4
theorem ready_of {ops : Array Oper} {listed : Array Bool} {i : Nat} {o : Oper} (h1 : ops[i]? = some o) (h2 : listed.getD i true = false) (h3 : ∀ e ∈ o.after, listed.getD e.on false = true) : i ∈ Region.ready .any ops listed := by
  unfold Region.ready
  simp only [List.mem_filter, List.mem_range, Bool.and_eq_true, Bool.not_eq_true']
  refine ⟨(Array.getElem?_eq_some_iff.1 h1).1, h2, ?_⟩
  rw [h1]
  simp only [Option.map_some, Option.getD_some, Array.all_eq_true_iff_forall_mem, Bool.or_eq_true, Bool.not_eq_true']
  exact fun e he => .inr (h3 e he)
/-- What some operations wait for, and what that waits for. -/
def waits (ops : Array Oper) (i : Nat) : List Nat := match ops[i]? with
  | some o => (o.after.toList.filter (fun e => Region.binds .any e)).map (fun e => e.on)
  | none => []
def cover (ops : Array Oper) : Nat → List Nat → List Nat
  | 0, l => l
  | f + 1, l => l ++ cover ops f (l.flatMap (waits ops))
theorem cover_ok {ops : Array Oper} {listed : Array Bool} (hc : ∀ i o, ops[i]? = some o → listed.getD i false = true → ∀ e ∈ o.after, Region.binds .any e = true → listed.getD e.on false = true) :
    ∀ f l, (∀ i ∈ l, listed.getD i false = true) → ∀ i ∈ cover ops f l, listed.getD i false = true
  | 0, l, hl, i, hi => hl i hi
  | f + 1, l, hl, i, hi => by
    rcases List.mem_append.1 hi with h | h
    · exact hl i h
    · refine cover_ok hc f _ (fun j hj => ?_) i h
      obtain ⟨x, hx, hj⟩ := List.mem_flatMap.1 hj
      unfold waits at hj
      split at hj
      · rename_i o ho
        obtain ⟨e, he, rfl⟩ := List.mem_map.1 hj
        obtain ⟨he1, he2⟩ := List.mem_filter.1 he
        exact hc x o ho (hl x hx) e (Array.mem_toList_iff.1 he1) he2
      · cases hj
theorem getD_set_true {listed : Array Bool} {i q : Nat} (h : (listed.setIfInBounds i true).getD q false = true) : q = i ∨ listed.getD q false = true := by
  by_cases e : q = i
  · exact .inl e
  · right
    simp only [Array.getD_eq_getD_getElem?, Array.getElem?_setIfInBounds] at h ⊢
    rw [if_neg (fun h' => e h'.symm)] at h
    exact h
theorem set_getD_true {listed : Array Bool} {i q : Nat} (h : listed.getD q false = true) : (listed.setIfInBounds i true).getD q false = true := by
  simp only [Array.getD_eq_getD_getElem?, Array.getElem?_setIfInBounds] at h ⊢
  split
  · rename_i e
    subst e
    split
    · rfl
    · rename_i hi
      rw [Array.getElem?_eq_none (by omega)] at h
      exact h
  · exact h
theorem getD_flip {listed : Array Bool} {i : Nat} (h : listed.getD i true = false) : listed.getD i false = false := by
  by_cases hi : i < listed.size
  · simp [Array.getD, hi] at h ⊢; exact h
  · simp [Array.getD, hi]
theorem set_self {listed : Array Bool} {i : Nat} (h : listed.getD i true = false) : (listed.setIfInBounds i true).getD i false = true := by
  have hi : i < listed.size := by
    rcases Nat.lt_or_ge i listed.size with h' | h'
    · exact h'
    · simp [Array.getD, Nat.not_lt.2 h'] at h
  simp [Array.getD, hi]
theorem region_fence {P : Program} {ops : Array Oper} {Q : Exit → Act → World → Prop} {id : Nat} {a : Act} {w : World} (hm : P.follows .mixedOrders = true)
    (T : Nat → Value → World → Prop) (D : Nat → Nat) (Base : Act → World → Prop) (n M : Nat) (o1 o2 : Oper) (hn : ops.size = n + 2) (ho1 : ops[n]? = some o1) (ho2 : ops[n + 1]? = some o2) (hM : a.tmps.size = M)
    (hT : ∀ i v w w', T i v w → After w w' → T i v w') (hD : ∀ i j, i < n → j < n → D i = D j → i = j) (hDM : ∀ i, i < n → D i < M)
    (hB : ∀ (a : Act) w k v w', a.tmps.size = M → Base a w → k < n → After w w' → Base (a.put (some (D k)) v) w') (hB0 : Base a w.drew)
    (hall : AllOk (OpOk P T D Base) 0 (ops.toList.take n))
    (hg1 : o1.guard = none) (hg2 : o2.guard = none) (hb1 : o1.after.toList.all (fun e => decide (e.on < n)) = true) (hb2 : o2.after.toList.all (fun e => decide (e.on ≤ n)) = true)
    (f : Nat) (hcov : (List.range n).all (fun i => (cover ops f (waits ops n)).contains i) = true) (h21 : (waits ops (n + 1)).contains n = true)
    (hend : ∀ (a' : Act) w', a'.tmps.size = M → (∀ i, i < n → T i (a'.tmps.getD (D i) undef) w') → Base a' w' → ∀ K : Act → World → Prop, (∀ a1 w1, (∀ K2 : Act → World → Prop, (∀ a2 w2, Q .normal a2 w2 → K2 a2 w2) → Oper.wp P o2 a1 w1 K2 Q) → K a1 w1) → Oper.wp P o1 a' w' K Q) :
    (Code.region id ops true).wp P Q a w := by
  have hg : ∀ i, i < n → (ops.toList.take n)[i]? = ops[i]? := fun i hi => by rw [List.getElem?_take_of_lt hi, Array.getElem?_toList]
  have ok : ∀ {i o}, i < n → ops[i]? = some o → OpOk P T D Base i o := fun {i o} hi h => by
    have := hall.at (i := i) (o := o) (by rw [hg i hi]; exact h)
    rw [Nat.zero_add] at this; exact this
  have w21 : ∃ e ∈ o2.after, e.on = n ∧ Region.binds .any e = true := by
    have h : n ∈ waits ops (n + 1) := by simpa using h21
    unfold waits at h
    rw [ho2] at h
    obtain ⟨e, he, he2⟩ := List.mem_map.1 h
    obtain ⟨h3, h4⟩ := List.mem_filter.1 he
    exact ⟨e, Array.mem_toList_iff.1 h3, he2, h4⟩
  have q1 : ∀ e ∈ o1.after, e.on < n := fun e he => of_decide_eq_true (List.all_eq_true.1 hb1 e (Array.mem_toList_iff.2 he))
  have q2 : ∀ e ∈ o2.after, e.on ≤ n := fun e he => of_decide_eq_true (List.all_eq_true.1 hb2 e (Array.mem_toList_iff.2 he))
  -- all done
  have phaseC : ∀ fuel (listed : Array Bool) (a : Act) (w : World), listed.size = n + 2 → (∀ i, i < n + 2 → listed.getD i false = true) → Q .normal a w → wpAny P .any ops Q fuel listed a w := by
    intro fuel listed a w hs hl hq
    have hr : Region.ready .any ops listed = [] := by
      rw [List.eq_nil_iff_forall_not_mem]
      intro i hi
      obtain ⟨o, ho, h2, _⟩ := ready_mem hi
      have h4 := hl i (by have := (Array.getElem?_eq_some_iff.1 ho).1; omega)
      rw [getD_flip h2] at h4
      cases h4
    cases fuel with
    | zero => exact ⟨hr, hq⟩
    | succ fuel => exact ⟨fun _ => hq, (fun i hi => by rw [hr] at hi; cases hi)⟩
  have phaseB : ∀ fuel (listed : Array Bool) (a : Act) (w : World), left listed ≤ fuel → listed.size = n + 2 → (∀ i, i < n + 1 → listed.getD i false = true) → listed.getD (n + 1) true = false → (∀ K2 : Act → World → Prop, (∀ a2 w2, Q .normal a2 w2 → K2 a2 w2) → Oper.wp P o2 a w K2 Q) → wpAny P .any ops Q fuel listed a w := by
    intro fuel listed a w hf hs hl h2 hw
    have hrd : n + 1 ∈ Region.ready .any ops listed := ready_of ho2 h2 (fun e he => hl _ (by have := q2 e he; omega))
    cases fuel with
    | zero => exact absurd (left_zero (listed := listed) (by omega) (n + 1)) (by rw [h2]; simp)
    | succ fuel =>
      refine ⟨(fun h => by rw [h] at hrd; cases hrd), fun i hi => ?_⟩
      obtain ⟨o, ho, h3, _⟩ := ready_mem hi
      have hin : i < n + 2 := by have := (Array.getElem?_eq_some_iff.1 ho).1; omega
      have hi2 : i = n + 1 := by
        rcases Nat.lt_or_ge i (n + 1) with h' | h'
        · have h4 := hl i h'
          rw [getD_flip h3] at h4; cases h4
        · omega
      subst hi2
      rw [ho2] at ho
      cases ho
      refine wpOp_step ho2 (fun K' hK => ?_)
      have hwt : Region.wanted o2 (yielded ops a.tmps) = true := by unfold Region.wanted; rw [hg2]
      rw [if_pos hwt]
      refine hw K' (fun a2 w2 hq => hK _ _ (phaseC _ _ _ _ (by simpa using hs) (fun i hi => ?_) hq))
      rcases Nat.lt_or_ge i (n + 1) with h' | h'
      · exact set_getD_true (hl i h')
      · obtain rfl : i = n + 1 := by omega
        exact set_self h2
  have main : ∀ fuel (listed : Array Bool) (a : Act) (w : World), left listed ≤ fuel → listed.size = n + 2 → a.tmps.size = M → Base a w → (∀ i o, ops[i]? = some o → listed.getD i false = true → ∀ e ∈ o.after, Region.binds .any e = true → listed.getD e.on false = true) → listed.getD n true = false → listed.getD (n + 1) true = false → (∀ i, i < n → listed.getD i false = true → T i (a.tmps.getD (D i) undef) w) → wpAny P .any ops Q fuel listed a w := by
    intro fuel
    induction fuel with
    | zero =>
      intro listed a w hf hs ha hb hc h1 h2 ht
      exact absurd (left_zero (listed := listed) (by omega) n) (by rw [h1]; simp)
    | succ fuel ih =>
      intro listed a w hf hs ha hb hc h1 h2 ht
      refine ⟨fun hr => ?_, fun i hi => ?_⟩
      · have all : ∀ i, i < n → listed.getD i false = true := by
          intro i
          induction i using Nat.strongRecOn with
          | ind i ih =>
            intro hi
            have ho : ops[i]? = some ops[i] := Array.getElem?_eq_getElem (by omega)
            have hl : i < listed.size := by omega
            by_cases h2 : listed.getD i true = false
            · have := ready_of ho h2 (fun e he => ih e.on ((ok hi ho).back e he) (by have := (ok hi ho).back e he; omega))
              rw [hr] at this
              cases this
            · simp [Array.getD, hl] at h2 ⊢
              exact h2
        have := ready_of ho1 h1 (fun e he => all _ (q1 e he))
        rw [hr] at this
        cases this
      · obtain ⟨o, ho, h4, h3⟩ := ready_mem hi
        have hin : i < n + 2 := by have := (Array.getElem?_eq_some_iff.1 ho).1; omega
        rcases Nat.lt_trichotomy i n with hlt | rfl | hgt
        · have k := ok hlt ho
          have deps : ∀ e ∈ o.after, Region.binds .any e = true → T e.on (a.tmps.getD (D e.on) undef) w := fun e he hbd => ht e.on (by have := k.back e he; omega) (h3 e he hbd)
          refine wpOp_step ho (fun K' hK => ?_)
          have hw : Region.wanted o (yielded ops a.tmps) = true := by
            rcases k.guard with hg | ⟨j, bb, hg, ⟨e, he, hej, heb⟩, htr⟩
            · unfold Region.wanted; rw [hg]
            · unfold Region.wanted
              rw [hg]
              have hjn : j < n := by have := k.back e he; omega
              have hj := deps e he heb
              rw [hej] at hj
              have hv := htr _ _ hj
              have hoj : ops[j]? = some ops[j] := Array.getElem?_eq_getElem (by omega)
              have hdj := (ok hjn hoj).dst
              have hlt : D j < a.tmps.size := by rw [ha]; exact hDM j hjn
              have hval : a.tmps[D j]? = some (.bool bb) := by
                rw [Array.getElem?_eq_getElem hlt]
                have : a.tmps.getD (D j) undef = a.tmps[D j] := by simp [Array.getD, hlt]
                rw [← this, hv]
              simp [yielded, hoj, hdj, hval]
          rw [if_pos hw]
          refine k.step a w K' Q deps hb (fun v w' hv hA => hK _ _ ?_)
          rw [k.dst]
          have hltM : D i < a.tmps.size := by rw [ha]; exact hDM i hlt
          have ne1 : ∀ q, q ≠ i → (listed.setIfInBounds i true).getD q true = listed.getD q true := fun q hq => by
            simp only [Array.getD_eq_getD_getElem?, Array.getElem?_setIfInBounds]
            rw [if_neg (fun h' => hq h'.symm)]
          refine ih _ _ _ (by have := left_set h4; omega) (by simpa using hs) (by show (a.tmps.setIfInBounds (D i) v).size = M; rw [Array.size_setIfInBounds]; exact ha) (hB a w i v w' ha hb hlt hA) (fun j oj hoj hl e he hbd => ?_) (by rw [ne1 n (by omega)]; exact h1) (by rw [ne1 (n + 1) (by omega)]; exact h2) (fun q hq hl => ?_)
          · rcases getD_set_true hl with rfl | h5
            · rw [ho] at hoj; cases hoj
              exact set_getD_true (h3 e he hbd)
            · exact set_getD_true (hc j oj hoj h5 e he hbd)
          · rw [getD_put hltM]
            by_cases e : D q = D i
            · rw [if_pos e]
              obtain rfl := hD q i hq hlt e
              exact hv
            · rw [if_neg e]
              have hqi : q ≠ i := fun h => e (by rw [h])
              refine hT q _ _ _ (ht q hq ?_) hA
              rcases getD_set_true hl with h5 | h5
              · exact absurd h5 hqi
              · exact h5
        · rw [ho1] at ho; cases ho
          have hl : ∀ j, j < i → listed.getD j false = true := fun j hj => by
            refine cover_ok hc f (waits ops i) (fun q hq => ?_) j ?_
            · unfold waits at hq
              rw [ho1] at hq
              obtain ⟨e, he, rfl⟩ := List.mem_map.1 hq
              obtain ⟨he1, he2⟩ := List.mem_filter.1 he
              exact h3 e (Array.mem_toList_iff.1 he1) he2
            · have := List.all_eq_true.1 hcov j (List.mem_range.2 hj)
              simpa using this
          refine wpOp_step ho1 (fun K' hK => ?_)
          have hwt : Region.wanted o1 (yielded ops a.tmps) = true := by unfold Region.wanted; rw [hg1]
          rw [if_pos hwt]
          refine hend a w ha (fun j hj => ht j hj (hl j hj)) hb K' (fun a1 w1 hw => hK _ _ (phaseB _ _ _ _ (by have := left_set h1; omega) (by simpa using hs) (fun j hj => ?_) ?_ hw))
          · rcases Nat.lt_or_ge j i with h' | h'
            · exact set_getD_true (hl j h')
            · obtain rfl : j = i := by omega
              exact set_self h1
          · simp only [Array.getD_eq_getD_getElem?, Array.getElem?_setIfInBounds] at h2 ⊢
            rw [if_neg (by omega)]; exact h2
        · obtain rfl : i = n + 1 := by omega
          rw [ho2] at ho; cases ho
          obtain ⟨e, he, hen, heb⟩ := w21
          have := h3 e he heb
          rw [hen, getD_flip h1] at this
          cases this
  have rep : ∀ i, i < n + 2 → (Array.replicate (n + 2) false).getD i true = false := fun i hi => by simp [Array.getD, hi]
  have rep2 : ∀ i, (Array.replicate (n + 2) false).getD i false = false := fun i => by
    simp only [Array.getD_eq_getD_getElem?, Array.getElem?_replicate]
    split <;> simp
  refine wp_region_any hm ?_
  rw [hn]
  refine main _ _ a _ ?_ (by rw [Array.size_replicate]) hM hB0 (fun i o _ hl => ?_) (rep n (by omega)) (rep (n + 1) (by omega)) (fun i hi hl => ?_)
  · unfold left
    exact Nat.le_trans List.countP_le_length (by simp)
  · rw [rep2] at hl; cases hl
  · rw [rep2] at hl; cases hl
/-- The same, where one operation alone waits for all others. -/
theorem region_one {P : Program} {ops : Array Oper} {Q : Exit → Act → World → Prop} {id : Nat} {a : Act} {w : World} (hm : P.follows .mixedOrders = true)
    (T : Nat → Value → World → Prop) (D : Nat → Nat) (Base : Act → World → Prop) (n M : Nat) (o1 : Oper) (hn : ops.size = n + 1) (ho1 : ops[n]? = some o1) (hM : a.tmps.size = M)
    (hT : ∀ i v w w', T i v w → After w w' → T i v w') (hD : ∀ i j, i < n → j < n → D i = D j → i = j) (hDM : ∀ i, i < n → D i < M)
    (hB : ∀ (a : Act) w k v w', a.tmps.size = M → Base a w → k < n → After w w' → Base (a.put (some (D k)) v) w') (hB0 : Base a w.drew)
    (hall : AllOk (OpOk P T D Base) 0 (ops.toList.take n))
    (hg1 : o1.guard = none) (hb1 : o1.after.toList.all (fun e => decide (e.on < n)) = true)
    (f : Nat) (hcov : (List.range n).all (fun i => (cover ops f (waits ops n)).contains i) = true)
    (hend : ∀ (a' : Act) w', a'.tmps.size = M → (∀ i, i < n → T i (a'.tmps.getD (D i) undef) w') → Base a' w' → ∀ K : Act → World → Prop, (∀ a1 w1, Q .normal a1 w1 → K a1 w1) → Oper.wp P o1 a' w' K Q) :
    (Code.region id ops true).wp P Q a w := by
  have hg : ∀ i, i < n → (ops.toList.take n)[i]? = ops[i]? := fun i hi => by rw [List.getElem?_take_of_lt hi, Array.getElem?_toList]
  have ok : ∀ {i o}, i < n → ops[i]? = some o → OpOk P T D Base i o := fun {i o} hi h => by
    have := hall.at (i := i) (o := o) (by rw [hg i hi]; exact h)
    rw [Nat.zero_add] at this; exact this
  have q1 : ∀ e ∈ o1.after, e.on < n := fun e he => of_decide_eq_true (List.all_eq_true.1 hb1 e (Array.mem_toList_iff.2 he))
  have phaseC : ∀ fuel (listed : Array Bool) (a : Act) (w : World), listed.size = n + 1 → (∀ i, i < n + 1 → listed.getD i false = true) → Q .normal a w → wpAny P .any ops Q fuel listed a w := by
    intro fuel listed a w hs hl hq
    have hr : Region.ready .any ops listed = [] := by
      rw [List.eq_nil_iff_forall_not_mem]
      intro i hi
      obtain ⟨o, ho, h2, _⟩ := ready_mem hi
      have h4 := hl i (by have := (Array.getElem?_eq_some_iff.1 ho).1; omega)
      rw [getD_flip h2] at h4
      cases h4
    cases fuel with
    | zero => exact ⟨hr, hq⟩
    | succ fuel => exact ⟨fun _ => hq, (fun i hi => by rw [hr] at hi; cases hi)⟩
  have main : ∀ fuel (listed : Array Bool) (a : Act) (w : World), left listed ≤ fuel → listed.size = n + 1 → a.tmps.size = M → Base a w → (∀ i o, ops[i]? = some o → listed.getD i false = true → ∀ e ∈ o.after, Region.binds .any e = true → listed.getD e.on false = true) → listed.getD n true = false → (∀ i, i < n → listed.getD i false = true → T i (a.tmps.getD (D i) undef) w) → wpAny P .any ops Q fuel listed a w := by
    intro fuel
    induction fuel with
    | zero =>
      intro listed a w hf hs ha hb hc h1 ht
      exact absurd (left_zero (listed := listed) (by omega) n) (by rw [h1]; simp)
    | succ fuel ih =>
      intro listed a w hf hs ha hb hc h1 ht
      refine ⟨fun hr => ?_, fun i hi => ?_⟩
      · have all : ∀ i, i < n → listed.getD i false = true := by
          intro i
          induction i using Nat.strongRecOn with
          | ind i ih =>
            intro hi
            have ho : ops[i]? = some ops[i] := Array.getElem?_eq_getElem (by omega)
            have hl : i < listed.size := by omega
            by_cases h2 : listed.getD i true = false
            · have := ready_of ho h2 (fun e he => ih e.on ((ok hi ho).back e he) (by have := (ok hi ho).back e he; omega))
              rw [hr] at this
              cases this
            · simp [Array.getD, hl] at h2 ⊢
              exact h2
        have := ready_of ho1 h1 (fun e he => all _ (q1 e he))
        rw [hr] at this
        cases this
      · obtain ⟨o, ho, h4, h3⟩ := ready_mem hi
        have hin : i < n + 1 := by have := (Array.getElem?_eq_some_iff.1 ho).1; omega
        rcases Nat.lt_or_ge i n with hlt | hge
        · have k := ok hlt ho
          have deps : ∀ e ∈ o.after, Region.binds .any e = true → T e.on (a.tmps.getD (D e.on) undef) w := fun e he hbd => ht e.on (by have := k.back e he; omega) (h3 e he hbd)
          refine wpOp_step ho (fun K' hK => ?_)
          have hw : Region.wanted o (yielded ops a.tmps) = true := by
            rcases k.guard with hg | ⟨j, bb, hg, ⟨e, he, hej, heb⟩, htr⟩
            · unfold Region.wanted; rw [hg]
            · unfold Region.wanted
              rw [hg]
              have hjn : j < n := by have := k.back e he; omega
              have hj := deps e he heb
              rw [hej] at hj
              have hv := htr _ _ hj
              have hoj : ops[j]? = some ops[j] := Array.getElem?_eq_getElem (by omega)
              have hdj := (ok hjn hoj).dst
              have hlt : D j < a.tmps.size := by rw [ha]; exact hDM j hjn
              have hval : a.tmps[D j]? = some (.bool bb) := by
                rw [Array.getElem?_eq_getElem hlt]
                have : a.tmps.getD (D j) undef = a.tmps[D j] := by simp [Array.getD, hlt]
                rw [← this, hv]
              simp [yielded, hoj, hdj, hval]
          rw [if_pos hw]
          refine k.step a w K' Q deps hb (fun v w' hv hA => hK _ _ ?_)
          rw [k.dst]
          have hltM : D i < a.tmps.size := by rw [ha]; exact hDM i hlt
          have ne1 : ∀ q, q ≠ i → (listed.setIfInBounds i true).getD q true = listed.getD q true := fun q hq => by
            simp only [Array.getD_eq_getD_getElem?, Array.getElem?_setIfInBounds]
            rw [if_neg (fun h' => hq h'.symm)]
          refine ih _ _ _ (by have := left_set h4; omega) (by simpa using hs) (by show (a.tmps.setIfInBounds (D i) v).size = M; rw [Array.size_setIfInBounds]; exact ha) (hB a w i v w' ha hb hlt hA) (fun j oj hoj hl e he hbd => ?_) (by rw [ne1 n (by omega)]; exact h1) (fun q hq hl => ?_)
          · rcases getD_set_true hl with rfl | h5
            · rw [ho] at hoj; cases hoj
              exact set_getD_true (h3 e he hbd)
            · exact set_getD_true (hc j oj hoj h5 e he hbd)
          · rw [getD_put hltM]
            by_cases e : D q = D i
            · rw [if_pos e]
              obtain rfl := hD q i hq hlt e
              exact hv
            · rw [if_neg e]
              have hqi : q ≠ i := fun h => e (by rw [h])
              refine hT q _ _ _ (ht q hq ?_) hA
              rcases getD_set_true hl with h5 | h5
              · exact absurd h5 hqi
              · exact h5
        · obtain rfl : i = n := by omega
          rw [ho1] at ho; cases ho
          have hl : ∀ j, j < i → listed.getD j false = true := fun j hj => by
            refine cover_ok hc f (waits ops i) (fun q hq => ?_) j ?_
            · unfold waits at hq
              rw [ho1] at hq
              obtain ⟨e, he, rfl⟩ := List.mem_map.1 hq
              obtain ⟨he1, he2⟩ := List.mem_filter.1 he
              exact h3 e (Array.mem_toList_iff.1 he1) he2
            · have := List.all_eq_true.1 hcov j (List.mem_range.2 hj)
              simpa using this
          refine wpOp_step ho1 (fun K' hK => ?_)
          have hwt : Region.wanted o1 (yielded ops a.tmps) = true := by unfold Region.wanted; rw [hg1]
          rw [if_pos hwt]
          refine hend a w ha (fun j hj => ht j hj (hl j hj)) hb K' (fun a1 w1 hw => hK _ _ (phaseC _ _ _ _ (by simpa using hs) (fun j hj => ?_) hw))
          rcases Nat.lt_or_ge j i with h' | h'
          · exact set_getD_true (hl j h')
          · obtain rfl : j = i := by omega
            exact set_self h1
  have rep : ∀ i, i < n + 1 → (Array.replicate (n + 1) false).getD i true = false := fun i hi => by simp [Array.getD, hi]
  have rep2 : ∀ i, (Array.replicate (n + 1) false).getD i false = false := fun i => by
    simp only [Array.getD_eq_getD_getElem?, Array.getElem?_replicate]
    split <;> simp
  refine wp_region_any hm ?_
  rw [hn]
  refine main _ _ a _ ?_ (by rw [Array.size_replicate]) hM hB0 (fun i o _ hl => ?_) (rep n (by omega)) (fun i hi hl => ?_)
  · unfold left
    exact Nat.le_trans List.countP_le_length (by simp)
  · rw [rep2] at hl; cases hl
  · rw [rep2] at hl; cases hl
/-- The same where the order is the text's. -/
theorem region_line {P : Program} {ops : Array Oper} {Q : Exit → Act → World → Prop} {id : Nat} {a : Act} {w : World}
    (T : Nat → Value → World → Prop) (D : Nat → Nat) (Base : Act → World → Prop) (n M : Nat) (o1 o2 : Oper) (hn : ops.size = n + 2) (ho1 : ops[n]? = some o1) (ho2 : ops[n + 1]? = some o2) (hM : a.tmps.size = M)
    (hT : ∀ i v w w', T i v w → After w w' → T i v w') (hD : ∀ i j, i < n → j < n → D i = D j → i = j) (hDM : ∀ i, i < n → D i < M)
    (hB : ∀ (a : Act) w k v w', a.tmps.size = M → Base a w → k < n → After w w' → Base (a.put (some (D k)) v) w') (hB0 : Base a w)
    (hall : AllOk (OpOk P T D Base) 0 (ops.toList.take n))
    (hg1 : o1.guard = none) (hg2 : o2.guard = none)
    (hend : ∀ (a' : Act) w', a'.tmps.size = M → (∀ i, i < n → T i (a'.tmps.getD (D i) undef) w') → Base a' w' → ∀ K : Act → World → Prop, (∀ a1 w1, (∀ K2 : Act → World → Prop, (∀ a2 w2, Q .normal a2 w2 → K2 a2 w2) → Oper.wp P o2 a1 w1 K2 Q) → K a1 w1) → Oper.wp P o1 a' w' K Q) :
    (Code.region id ops false).wp P Q a w := by
  have hg : ∀ i, i < n → (ops.toList.take n)[i]? = ops[i]? := fun i hi => by rw [List.getElem?_take_of_lt hi, Array.getElem?_toList]
  have ok : ∀ {i o}, i < n → ops[i]? = some o → OpOk P T D Base i o := fun {i o} hi h => by
    have := hall.at (i := i) (o := o) (by rw [hg i hi]; exact h)
    rw [Nat.zero_add] at this; exact this
  have last : ∀ (a : Act) (w : World), a.tmps.size = M → (∀ i, i < n → T i (a.tmps.getD (D i) undef) w) → Base a w → wpOps P ops Q [n, n + 1] a w := by
    intro a w ha ht hb
    unfold wpOps
    rw [ho1]
    have w1 : Region.wanted o1 (yielded ops a.tmps) = true := by unfold Region.wanted; rw [hg1]
    simp only [w1, if_true]
    refine .inl (hend a w ha ht hb _ (fun a1 w1' hw => ?_))
    unfold wpOps
    rw [ho2]
    have w2 : Region.wanted o2 (yielded ops a1.tmps) = true := by unfold Region.wanted; rw [hg2]
    simp only [w2, if_true]
    exact .inl (hw _ (fun a2 w2' hq => by unfold wpOps; exact hq))
  have main : ∀ m k, k + m = n → ∀ (a : Act) (w : World), a.tmps.size = M → (∀ i, i < k → T i (a.tmps.getD (D i) undef) w) → Base a w → wpOps P ops Q (List.range' k (m + 2)) a w := by
    intro m
    induction m with
    | zero =>
      intro k hk a w ha ht hb
      obtain rfl : k = n := by omega
      exact last a w ha ht hb
    | succ m ih =>
      intro k hk a w ha ht hb
      have hkn : k < n := by omega
      have ho : ops[k]? = some ops[k] := Array.getElem?_eq_getElem (by omega)
      have kk := ok hkn ho
      have deps : ∀ e ∈ ops[k].after, Region.binds .any e = true → T e.on (a.tmps.getD (D e.on) undef) w := fun e he _ => ht e.on (kk.back e he)
      rw [show m + 1 + 2 = (m + 2) + 1 by omega, List.range'_succ]
      unfold wpOps
      rw [ho]
      have hw : Region.wanted ops[k] (yielded ops a.tmps) = true := by
        rcases kk.guard with hg | ⟨j, bb, hg, ⟨e, he, hej, heb⟩, htr⟩
        · unfold Region.wanted; rw [hg]
        · unfold Region.wanted
          rw [hg]
          have hjn : j < n := by have := kk.back e he; omega
          have hj := deps e he heb
          rw [hej] at hj
          have hv := htr _ _ hj
          have hoj : ops[j]? = some ops[j] := Array.getElem?_eq_getElem (by omega)
          have hdj := (ok hjn hoj).dst
          have hlt : D j < a.tmps.size := by rw [ha]; exact hDM j hjn
          have hval : a.tmps[D j]? = some (.bool bb) := by
            rw [Array.getElem?_eq_getElem hlt]
            have : a.tmps.getD (D j) undef = a.tmps[D j] := by simp [Array.getD, hlt]
            rw [← this, hv]
          simp [yielded, hoj, hdj, hval]
      simp only [hw, if_true]
      refine .inl (kk.step a w _ Q deps hb (fun v w' hv hA => ?_))
      rw [kk.dst]
      have hltM : D k < a.tmps.size := by rw [ha]; exact hDM k hkn
      refine ih (k + 1) (by omega) _ _ (by show (a.tmps.setIfInBounds (D k) v).size = M; rw [Array.size_setIfInBounds]; exact ha) (fun q hq => ?_) (hB a w k v w' ha hb hkn hA)
      rw [getD_put hltM]
      by_cases e : D q = D k
      · rw [if_pos e]
        obtain rfl := hD q k (by omega) hkn e
        exact hv
      · rw [if_neg e]
        have hqk : q ≠ k := fun h => e (by rw [h])
        exact hT q _ _ _ (ht q (by omega)) hA
  refine wp_region ?_
  rw [hn, List.range_eq_range']
  exact main n 0 (by omega) a w hM (fun i hi => absurd hi (by omega)) hB0
end Go.Proofs.Ytalffdiohjcajaa
