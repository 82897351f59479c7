/-
  The same where one operation may store into blocks of one's own (an append in place).
-/
import Derived.Test.YthgmjeljjladhaaSloL
namespace Go.Proofs.Ythgmjeljjladhaa
open Go.RowKit
def Wd.StableB (S : Nat → Prop) (P : Wd) : Prop := ∀ v w w', P v w → But S w w' → P v w'
/-- What the k-th operation may do to memory. -/
def RelA (S : Nat → Prop) (A k : Nat) (w w' : World) : Prop := After w w' ∨ (k = A ∧ But S w w')
theorem RelA.but {S : Nat → Prop} {A k : Nat} {w w' : World} (h : RelA S A k w w') : But S w w' := by
  rcases h with h | ⟨_, h⟩
  · exact After.but h
  · exact h
theorem RelA.keep {S : Nat → Prop} {A k q : Nat} {w w' : World} {Ts : List Wd} {v : Value} (h : RelA S A k w w') (hst : ∀ i, (wdAt Ts i).Stable) (hst2 : ∀ i, i ≠ A → (wdAt Ts i).StableB S) (hq : q ≠ k) (hv : wdAt Ts q v w) : wdAt Ts q v w' := by
  rcases h with h | ⟨rfl, h⟩
  · exact hst q _ _ _ hv h
  · exact hst2 q hq _ _ _ hv h
structure SlOwn (P : Program) (Q : Exit → Act → World → Prop) (D : List Nat) (Ts : List Wd) (b : Act) (w0 : World) (S : Nat → Prop) (A : Nat) (k : Nat) (o : Oper) : Prop where
  dst : o.dst = some (D.getD k 0)
  back : o.after.toList.all (fun e => !Region.binds .any e || decide (e.on < k)) = true
  guard : o.guard = none ∨ ∃ j g, o.guard = some (j, g) ∧ waitP o j = true ∧ ∀ v w, wdAt Ts j v w → v = .bool g
  step : ∀ (a : Act) (w : World) (K : Act → World → Prop), (∀ i, waitP o i = true → wdAt Ts i (a.tmps.getD (D.getD i 0) undef) w) → (∀ x, D.contains x = false → a.tmps.getD x undef = b.tmps.getD x undef) → But S w0 w → (k = A → After w0 w) → (∀ v w', wdAt Ts k v w' → RelA S A k w w' → K (a.put o.dst v) w') → Oper.wp P o a w K Q
theorem region_own {P : Program} {ops : Array Oper} {Q : Exit → Act → World → Prop} {id : Nat} {b : Act} {w0 : World} {S : Nat → Prop} {A : Nat} (hm : P.follows .mixedOrders = true)
    (D : List Nat) (Ts : List Wd) (n : Nat) (o1 : Oper) (hn : ops.size = n + 1) (ho1 : ops[n]? = some o1) (hg1 : o1.guard = none) (hb1 : o1.after.toList.all (fun e => !Region.binds .any e || decide (e.on < n)) = true) (f : Nat) (hcov : (List.range n).all (fun i => (cover ops f (waits ops n)).contains i) = true) (hDn : D.length = n) (hst : ∀ i, (wdAt Ts i).Stable) (hst2 : ∀ i, i ≠ A → (wdAt Ts i).StableB S) (hown : distinct D n = true) (hDM : (List.range n).all (fun i => decide (D.getD i 0 < b.tmps.size)) = true)
    (hall : AllOk (SlOwn P Q D Ts b w0 S A) 0 (ops.toList.take n))
    (hend : ∀ (x : Nat → Value) w', (∀ i, i < n → wdAt Ts i (x i) w') → But S w0 w' → ∀ K : Act → World → Prop, (∀ a1 w1, Q .normal a1 w1 → K a1 w1) → Oper.wp P o1 ⟨(sets D x n b.tmps.toList).toArray, b.defers⟩ w' K Q) : (Code.region id ops true).wp P Q b w0 := by
  have ok : ∀ {i o}, i < n → ops[i]? = some o → SlOwn P Q D Ts b w0 S A i o := fun {i o} hi h => by
    have := hall.at (i := i) (o := o) (by rw [List.getElem?_take_of_lt hi, Array.getElem?_toList]; exact h)
    rw [Nat.zero_add] at this; exact this
  have bk : ∀ {i o}, ops[i]? = some o → ∀ e ∈ o.after, Region.binds .any e = true → e.on < i := fun {i o} h e he hb => by
    have hin : i < n + 1 := by have := (Array.getElem?_eq_some_iff.1 h).1; omega
    rcases Nat.lt_or_ge i n with hi | hi
    · have := List.all_eq_true.1 (ok hi h).back e (Array.mem_toList_iff.2 he)
      rw [hb] at this
      simpa using this
    · obtain rfl : i = n := by omega
      rw [ho1] at h; cases h
      have := List.all_eq_true.1 hb1 e (Array.mem_toList_iff.2 he)
      rw [hb] at this
      simpa using this
  have rdy : ∀ {listed : Array Bool} {i : Nat} {o : Oper}, ops[i]? = some o → listed.getD i true = false → (∀ e ∈ o.after, Region.binds .any e = true → listed.getD e.on false = true) → i ∈ Region.ready .any ops listed := fun {listed i o} h1 h2 h3 => by
    unfold Region.ready
    simp only [List.mem_filter, List.mem_range, Bool.and_eq_true, Bool.not_eq_true']
    refine ⟨(Array.getElem?_eq_some_iff.1 h1).1, h2, ?_⟩
    rw [h1]
    simp only [Option.map_some, Option.getD_some, Array.all_eq_true_iff_forall_mem, Bool.or_eq_true, Bool.not_eq_true']
    intro e he
    rcases hb : Region.binds .any e with _ | _
    · exact .inl rfl
    · exact .inr (h3 e he hb)
  have hlt : ∀ i, i < n → D.getD i 0 < b.tmps.size := fun i hi => of_decide_eq_true (List.all_eq_true.1 hDM i (List.mem_range.2 hi))
  have frm : ∀ a : Act, a.defers = b.defers → a.tmps.size = b.tmps.size → (∀ x, D.contains x = false → a.tmps.getD x undef = b.tmps.getD x undef) → a = ⟨(sets D (fun i => a.tmps.getD (D.getD i 0) undef) n b.tmps.toList).toArray, b.defers⟩ := by
    intro a hd hz hk
    obtain ⟨at_, ad⟩ := a
    dsimp only at hd hz hk ⊢
    subst hd
    congr 1
    apply Array.ext_getElem?
    intro i
    rw [show (sets D (fun i => at_.getD (D.getD i 0) undef) n b.tmps.toList).toArray[i]? = (sets D (fun i => at_.getD (D.getD i 0) undef) n b.tmps.toList)[i]? from by simp]
    by_cases hc : ∃ k, k < n ∧ D.getD k 0 = i
    · obtain ⟨k, hkn, rfl⟩ := hc
      rw [sets_at _ _ _ k hkn (by rw [Array.length_toList]; exact hlt k hkn) (fun i hi e => distinct_of hown hi hkn e)]
      have h1 : D.getD k 0 < at_.size := by rw [hz]; exact hlt k hkn
      rw [Array.getElem?_eq_getElem h1]
      congr 1
      generalize D.getD k 0 = d at h1
      simp [Array.getD, h1]
    · rw [sets_none _ _ _ _ (fun k hkn e => hc ⟨k, hkn, e⟩)]
      have hcon : D.contains i = false := by
        rcases h2 : D.contains i with _ | _
        · rfl
        · exfalso
          have h3 : i ∈ D := by simpa using h2
          obtain ⟨k, hk1, hk2⟩ := List.getElem_of_mem h3
          exact hc ⟨k, by omega, by simp [hk1, hk2]⟩
      have h5 := hk i hcon
      by_cases hi : i < at_.size
      · have hib : i < b.tmps.size := by omega
        rw [Array.getElem?_eq_getElem hi, Array.getElem?_toList, Array.getElem?_eq_getElem hib]
        congr 1
        simpa [Array.getD, hi, hib] using h5
      · rw [Array.getElem?_eq_none (by omega), Array.getElem?_toList, Array.getElem?_eq_none (by omega)]
  have phaseC : ∀ fuel (listed : Array Bool) (a : Act) (w : World), listed.size = n + 1 → (∀ i, i < n + 1 → listed.getD i false = true) → Q .normal a w → wpAny P .any ops Q fuel listed a w := by
    intro fuel listed a w hs hl hq
    have hr : Region.ready .any ops listed = [] := by
      rw [List.eq_nil_iff_forall_not_mem]
      intro i hi
      obtain ⟨o, ho, h2, _⟩ := ready_mem hi
      have h4 := hl i (by have := (Array.getElem?_eq_some_iff.1 ho).1; omega)
      rw [getD_flip h2] at h4
      cases h4
    cases fuel with
    | zero => exact ⟨hr, hq⟩
    | succ fuel => exact ⟨fun _ => hq, (fun i hi => by rw [hr] at hi; cases hi)⟩
  have main : ∀ fuel (listed : Array Bool) (a : Act) (w : World), left listed ≤ fuel → listed.size = n + 1 → listed.getD n true = false → a.defers = b.defers → a.tmps.size = b.tmps.size → (∀ x, D.contains x = false → a.tmps.getD x undef = b.tmps.getD x undef) → (∀ i, i < n → listed.getD i false = true → wdAt Ts i (a.tmps.getD (D.getD i 0) undef) w) → But S w0 w → (listed.getD A true = false → After w0 w) →
      (∀ i o, ops[i]? = some o → listed.getD i false = true → ∀ e ∈ o.after, Region.binds .any e = true → listed.getD e.on false = true) → wpAny P .any ops Q fuel listed a w := by
    intro fuel
    induction fuel with
    | zero =>
      intro listed a w hf hs h1 hd hz hk ht aw na hc
      exact absurd (left_zero (listed := listed) (by omega) n) (by rw [h1]; simp)
    | succ fuel ih =>
      intro listed a w hf hs h1 hd hz hk ht aw na hc
      refine ⟨fun hr => ?_, fun i hi => ?_⟩
      · have all : ∀ i, i < n → listed.getD i false = true := by
          intro i
          induction i using Nat.strongRecOn with
          | ind i ih =>
            intro hi
            have ho : ops[i]? = some ops[i] := Array.getElem?_eq_getElem (by omega)
            have hl : i < listed.size := by omega
            by_cases h2 : listed.getD i true = false
            · have := rdy ho h2 (fun e he hb => ih e.on (bk ho e he hb) (by have := bk ho e he hb; omega))
              rw [hr] at this
              cases this
            · simp [Array.getD, hl] at h2 ⊢
              exact h2
        have := rdy ho1 h1 (fun e he hb => all _ (bk ho1 e he hb))
        rw [hr] at this
        cases this
      · obtain ⟨o, ho, h4, h3⟩ := ready_mem hi
        have hin' : i < n + 1 := by have := (Array.getElem?_eq_some_iff.1 ho).1; omega
        rcases Nat.lt_or_ge i n with hin | hge
        · have k := ok hin ho
          refine wpOp_step ho (fun K' hK => ?_)
          have deps : ∀ j, waitP o j = true → wdAt Ts j (a.tmps.getD (D.getD j 0) undef) w := fun j hj => by
            obtain ⟨e, he, rfl, hb⟩ := waitP_of hj
            exact ht e.on (by have := bk ho e he hb; omega) (h3 e he hb)
          have hw : Region.wanted o (yielded ops a.tmps) = true := by
            rcases k.guard with hg | ⟨j, g, hg, hj, htr⟩
            · unfold Region.wanted; rw [hg]
            · unfold Region.wanted
              rw [hg]
              obtain ⟨e, he, hej, heb⟩ := waitP_of hj
              have hjn : j < n := by have := bk ho e he heb; omega
              have hv := htr _ _ (deps j hj)
              have hoj : ops[j]? = some ops[j] := Array.getElem?_eq_getElem (by omega)
              have hdj := (ok hjn hoj).dst
              have h1 : D.getD j 0 < a.tmps.size := by rw [hz]; exact hlt j hjn
              have hval : a.tmps[D.getD j 0]? = some (.bool g) := by
                generalize D.getD j 0 = d at h1 hv
                rw [Array.getElem?_eq_getElem h1]
                have : a.tmps.getD d undef = a.tmps[d] := by simp [Array.getD, h1]
                rw [← this, hv]
              simp [yielded, hoj, hdj]
              simp at hval
              simp [hval]
          rw [if_pos hw]
          refine k.step a w K' deps hk aw (fun e => na (by rw [← e]; exact h4)) (fun v w' hv hA => hK _ _ ?_)
          rw [k.dst]
          have ne1 : ∀ q, q ≠ i → (listed.setIfInBounds i true).getD q true = listed.getD q true := fun q hq => by
            simp only [Array.getD_eq_getD_getElem?, Array.getElem?_setIfInBounds]
            rw [if_neg (fun h' => hq h'.symm)]
          have hltM : D.getD i 0 < a.tmps.size := by rw [hz]; exact hlt i hin
          refine ih _ _ _ (by have := left_set h4; omega) (by simpa using hs) (by rw [ne1 n (by omega)]; exact h1) hd (by show (a.tmps.setIfInBounds (D.getD i 0) v).size = _; rw [Array.size_setIfInBounds]; exact hz) (fun x hx => ?_) (fun q hq hl => ?_) (aw.trans (hA.but)) (fun h => ?_) (fun j oj hoj hl e he hbd => ?_)
          · rw [getD_put hltM, if_neg (fun e => ?_)]
            · exact hk x hx
            · have : x ∈ D := by
                rw [e]
                have hi' : i < D.length := by omega
                simp [hi']
              have h2 : D.contains x = true := by simpa using this
              rw [hx] at h2; cases h2
          · rw [getD_put hltM]
            by_cases e : D.getD q 0 = D.getD i 0
            · rw [if_pos e]
              obtain rfl := distinct_of hown hq hin e
              exact hv
            · rw [if_neg e]
              have hqi : q ≠ i := fun h => e (by rw [h])
              refine hA.keep hst hst2 hqi (ht q hq ?_)
              rcases getD_set_true hl with h5 | h5
              · exact absurd h5 hqi
              · exact h5
          · by_cases e : A = i
            · subst e
              have : A < listed.size := by omega
              simp [Array.getD, this] at h
            · rw [ne1 A e] at h
              rcases hA with hA | ⟨e', _⟩
              · exact (na h).trans hA
              · exact absurd e'.symm e
          · rcases getD_set_true hl with rfl | h5
            · rw [ho] at hoj; cases hoj
              exact set_getD_true (h3 e he hbd)
            · exact set_getD_true (hc j oj hoj h5 e he hbd)
        · obtain rfl : i = n := by omega
          rw [ho1] at ho; cases ho
          have hl : ∀ j, j < i → listed.getD j false = true := fun j hj => by
            refine cover_ok hc f (waits ops i) (fun q hq => ?_) j ?_
            · unfold waits at hq
              rw [ho1] at hq
              obtain ⟨e, he, rfl⟩ := List.mem_map.1 hq
              obtain ⟨he1, he2⟩ := List.mem_filter.1 he
              exact h3 e (Array.mem_toList_iff.1 he1) he2
            · have := List.all_eq_true.1 hcov j (List.mem_range.2 hj)
              simpa using this
          refine wpOp_step ho1 (fun K' hK => ?_)
          have hwt : Region.wanted o1 (yielded ops a.tmps) = true := by unfold Region.wanted; rw [hg1]
          rw [if_pos hwt, frm a hd hz hk]
          refine hend _ w (fun j hj => ht j hj (hl j hj)) aw K' (fun a1 w1 hq => hK _ _ (phaseC _ _ _ _ (by simpa using hs) (fun j hj => ?_) hq))
          rcases Nat.lt_or_ge j i with h' | h'
          · exact set_getD_true (hl j h')
          · obtain rfl : j = i := by omega
            exact set_self h1
  have rep : (Array.replicate (n + 1) false).getD n true = false := by simp [Array.getD]
  have rep2 : ∀ i, (Array.replicate (n + 1) false).getD i false = false := fun i => by
    simp only [Array.getD_eq_getD_getElem?, Array.getElem?_replicate]
    split <;> simp
  refine wp_region_any hm ?_
  rw [hn]
  refine main _ _ b _ ?_ (by rw [Array.size_replicate]) rep rfl rfl (fun _ _ => rfl) (fun i _ hl => ?_) (But.drew But.rfl) (fun _ => But.drew After.rfl) (fun i o _ hl => ?_)
  · unfold left
    exact Nat.le_trans List.countP_le_length (by simp)
  · rw [rep2] at hl; cases hl
  · rw [rep2] at hl; cases hl
end Go.Proofs.Ythgmjeljjladhaa
