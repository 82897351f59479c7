/-
  A region whose order is the text's: by the same words.
-/
import Derived.Test.YtgbaibnlfmeklabSlo
namespace Go.Proofs.Ytgbaibnlfmeklab
open Go.RowKit
theorem frame_sets {D : List Nat} {n : Nat} {a b : Act} (hDn : D.length = n) (hown : distinct D n = true) (hlt : ∀ i, i < n → D.getD i 0 < b.tmps.size) (hd : a.defers = b.defers) (hz : a.tmps.size = b.tmps.size) (hk : ∀ x, D.contains x = false → a.tmps.getD x undef = b.tmps.getD x undef) :
    a = ⟨(sets D (fun i => a.tmps.getD (D.getD i 0) undef) n b.tmps.toList).toArray, b.defers⟩ := by
  obtain ⟨at_, ad⟩ := a
  dsimp only at hd hz hk ⊢
  subst hd
  congr 1
  apply Array.ext_getElem?
  intro i
  rw [show (sets D (fun i => at_.getD (D.getD i 0) undef) n b.tmps.toList).toArray[i]? = (sets D (fun i => at_.getD (D.getD i 0) undef) n b.tmps.toList)[i]? from by simp]
  by_cases hc : ∃ k, k < n ∧ D.getD k 0 = i
  · obtain ⟨k, hkn, rfl⟩ := hc
    rw [sets_at _ _ _ k hkn (by rw [Array.length_toList]; exact hlt k hkn) (fun i hi e => distinct_of hown hi hkn e)]
    have h1 : D.getD k 0 < at_.size := by rw [hz]; exact hlt k hkn
    rw [Array.getElem?_eq_getElem h1]
    congr 1
    generalize D.getD k 0 = d at h1
    simp [Array.getD, h1]
  · rw [sets_none _ _ _ _ (fun k hkn e => hc ⟨k, hkn, e⟩)]
    have hcon : D.contains i = false := by
      rcases h2 : D.contains i with _ | _
      · rfl
      · exfalso
        have h3 : i ∈ D := by simpa using h2
        obtain ⟨k, hk1, hk2⟩ := List.getElem_of_mem h3
        exact hc ⟨k, by omega, by simp [hk1, hk2]⟩
    have h5 := hk i hcon
    by_cases hi : i < at_.size
    · have hib : i < b.tmps.size := by omega
      rw [Array.getElem?_eq_getElem hi, Array.getElem?_toList, Array.getElem?_eq_getElem hib]
      congr 1
      simpa [Array.getD, hi, hib] using h5
    · rw [Array.getElem?_eq_none (by omega), Array.getElem?_toList, Array.getElem?_eq_none (by omega)]
theorem region_plain {P : Program} {ops : Array Oper} {Q : Exit → Act → World → Prop} {id : Nat} {b : Act} {w0 : World}
    (D : List Nat) (Ts : List Wd) (n : Nat) (hn : ops.size = n) (hDn : D.length = n) (hst : ∀ i, (wdAt Ts i).Stable) (hown : distinct D n = true) (hDM : (List.range n).all (fun i => decide (D.getD i 0 < b.tmps.size)) = true)
    (hall : AllOk (SlOk P Q D Ts b w0) 0 ops.toList)
    (hend : ∀ (x : Nat → Value) w', (∀ i, i < n → wdAt Ts i (x i) w') → After w0 w' → Q .normal ⟨(sets D x n b.tmps.toList).toArray, b.defers⟩ w') : (Code.region id ops false).wp P Q b w0 := by
  have ok : ∀ {i o}, ops[i]? = some o → SlOk P Q D Ts b w0 i o := fun {i o} h => by
    have := hall.at (i := i) (o := o) (by rw [Array.getElem?_toList]; exact h)
    rw [Nat.zero_add] at this; exact this
  have bk : ∀ {i o}, ops[i]? = some o → ∀ e ∈ o.after, Region.binds .any e = true → e.on < i := fun {i o} h e he hb => by
    have := List.all_eq_true.1 (ok h).back e (Array.mem_toList_iff.2 he)
    rw [hb] at this
    simpa using this
  have hlt : ∀ i, i < n → D.getD i 0 < b.tmps.size := fun i hi => of_decide_eq_true (List.all_eq_true.1 hDM i (List.mem_range.2 hi))
  have main : ∀ (l : List Oper) (i : Nat) (a : Act) (w : World), l = ops.toList.drop i → i ≤ n → a.defers = b.defers → a.tmps.size = b.tmps.size → (∀ x, D.contains x = false → a.tmps.getD x undef = b.tmps.getD x undef) → (∀ j, j < i → wdAt Ts j (a.tmps.getD (D.getD j 0) undef) w) → After w0 w → wpList P ops Q l a w := by
    intro l
    induction l with
    | nil =>
      intro i a w hl hi hd hz hk ht aw
      have hin : i = n := by
        have := congrArg List.length hl
        simp at this
        omega
      subst hin
      unfold wpList
      rw [frame_sets hDn hown hlt hd hz hk]
      exact hend _ w (fun j hj => ht j hj) aw
    | cons o l ih =>
      intro i a w hl hi hd hz hk ht aw
      have ho : ops[i]? = some o := by
        have h1 : (ops.toList.drop i)[0]? = some o := by rw [← hl]; rfl
        rw [List.getElem?_drop, Nat.add_zero, Array.getElem?_toList] at h1
        exact h1
      have hin : i < n := by have := (Array.getElem?_eq_some_iff.1 ho).1; omega
      have hl' : l = ops.toList.drop (i + 1) := by
        have h1 := congrArg List.tail hl
        rw [List.tail_cons, List.tail_drop] at h1
        exact h1
      have k := ok ho
      have deps : ∀ j, waitP o j = true → wdAt Ts j (a.tmps.getD (D.getD j 0) undef) w := fun j hj => by
        obtain ⟨e, he, rfl, hb⟩ := waitP_of hj
        exact ht e.on (bk ho e he hb)
      have hw : Region.wanted o (yielded ops a.tmps) = true := by
        rcases k.guard with hg | ⟨j, g, hg, hj, htr⟩
        · unfold Region.wanted; rw [hg]
        · unfold Region.wanted
          rw [hg]
          obtain ⟨e, he, hej, heb⟩ := waitP_of hj
          have hjn : j < n := by have := bk ho e he heb; omega
          have hv := htr _ _ (deps j hj)
          have hoj : ops[j]? = some ops[j] := Array.getElem?_eq_getElem (by omega)
          have hdj := (ok hoj).dst
          have h1 : D.getD j 0 < a.tmps.size := by rw [hz]; exact hlt j hjn
          have hval : a.tmps[D.getD j 0]? = some (.bool g) := by
            generalize D.getD j 0 = d at h1 hv
            rw [Array.getElem?_eq_getElem h1]
            have : a.tmps.getD d undef = a.tmps[d] := by simp [Array.getD, h1]
            rw [← this, hv]
          simp [yielded, hoj, hdj]
          simp at hval
          simp [hval]
      unfold wpList
      rw [if_pos hw]
      refine .inl (k.step a w _ deps hk aw (fun v w' hv hA => ?_))
      rw [k.dst]
      have hltM : D.getD i 0 < a.tmps.size := by rw [hz]; exact hlt i hin
      refine ih (i + 1) _ _ hl' hin hd (by show (a.tmps.setIfInBounds (D.getD i 0) v).size = _; rw [Array.size_setIfInBounds]; exact hz) (fun x hx => ?_) (fun q hq => ?_) (aw.trans hA)
      · rw [getD_put hltM, if_neg (fun e => ?_)]
        · exact hk x hx
        · have : x ∈ D := by
            rw [e]
            have hi' : i < D.length := by omega
            simp [hi']
          have h2 : D.contains x = true := by simpa using this
          rw [hx] at h2; cases h2
      · rw [getD_put hltM]
        by_cases e : D.getD q 0 = D.getD i 0
        · rw [if_pos e]
          obtain rfl := distinct_of hown (by omega) hin e
          exact hv
        · rw [if_neg e]
          have hqi : q ≠ i := fun h => e (by rw [h])
          exact hst q _ _ _ (ht q (by omega)) hA
  exact wp_region_list (main _ 0 b w0 rfl (Nat.zero_le _) rfl rfl (fun _ _ => rfl) (fun j hj => absurd hj (by omega)) After.rfl)
end Go.Proofs.Ytgbaibnlfmeklab
