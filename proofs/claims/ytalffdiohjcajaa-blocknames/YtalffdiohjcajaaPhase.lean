/-
  A region whose order is drawn and whose calls store: what each slot comes to is known, and what holds of the world hangs on which operations are done; its last operation waits for all others.
-/
import Derived.Test.YtalffdiohjcajaaDrawn
namespace Go.Proofs.Ytalffdiohjcajaa
open Go.RowKit
/-- One more is done. -/
def more (L : Nat → Bool) (k : Nat) : Nat → Bool := fun i => L i || i == k
theorem more_self (L : Nat → Bool) (k : Nat) : more L k k = true := by simp [more]
theorem more_ne (L : Nat → Bool) {k i : Nat} (h : i ≠ k) : more L k i = L i := by simp [more, h]
/-- The slots ahead of d are as they were. -/
def Ahead (d : Nat) (b a : Act) : Prop := ∀ i, i < d → a.tmps.getD i undef = b.tmps.getD i undef
/-- What is asked of each operation: its slot; that it waits for earlier ones alone; its guard; its step. -/
structure PhOk (P : Program) (ops : Array Oper) (V : Nat → Value) (d : Nat) (b : Act) (I : (Nat → Bool) → World → Prop) (k : Nat) (o : Oper) : Prop where
  dst : o.dst = some (d + k)
  back : ∀ e ∈ o.after, e.on < k
  guard : o.guard = none ∨ ∃ j q, o.guard = some (j, q) ∧ (∃ e ∈ o.after, e.on = j ∧ Region.binds .any e = true) ∧ V j = .bool q
  step : ∀ (a : Act) (w : World) (L : Nat → Bool) (K : Act → World → Prop) (Q : Exit → Act → World → Prop), (∀ e ∈ o.after, Region.binds .any e = true → L e.on = true ∧ a.tmps.getD (d + e.on) undef = V e.on) → (∀ q ∈ cover ops 12 (waits ops k), L q = true) → Ahead d b a → L k = false → I L w → (∀ w', I (more L k) w' → K (a.put o.dst (V k)) w') → Oper.wp P o a w K Q
/-- The frame behind the first n. -/
def puts (d : Nat) (V : Nat → Value) : Nat → Array Value → Array Value
  | 0, a => a
  | n + 1, a => (puts d V n a).setIfInBounds (d + n) (V n)
theorem puts_size (d : Nat) (V : Nat → Value) (n : Nat) (a : Array Value) : (puts d V n a).size = a.size := by
  induction n with
  | zero => rfl
  | succ n ih => simp [puts, ih]
theorem puts_at (d : Nat) (V : Nat → Value) (n : Nat) (a : Array Value) (hn : d + n ≤ a.size) (i : Nat) : (puts d V n a).getD i undef = if d ≤ i ∧ i < d + n then V (i - d) else a.getD i undef := by
  induction n with
  | zero => rw [if_neg (by omega)]; rfl
  | succ n ih =>
    have hs := puts_size d V n a
    by_cases h : i = d + n
    · subst h
      rw [if_pos (by omega), show d + n - d = n by omega]
      simp [puts, Array.getD, hs, show d + n < a.size by omega]
    · have e : (puts d V (n + 1) a).getD i undef = (puts d V n a).getD i undef := by
        simp only [puts, Array.getD_eq_getD_getElem?, Array.getElem?_setIfInBounds]
        rw [if_neg (fun h' => h h'.symm)]
      rw [e, ih (by omega)]
      by_cases h2 : d ≤ i ∧ i < d + n
      · rw [if_pos h2, if_pos (by omega)]
      · rw [if_neg h2, if_neg (by omega)]
theorem array_ext_getD {x y : Array Value} (hs : x.size = y.size) (h : ∀ i, i < x.size → x.getD i undef = y.getD i undef) : x = y := by
  apply Array.ext hs
  intro i h1 h2
  have := h i h1
  simpa [Array.getD, h1, h2] using this
theorem region_phase {P : Program} {ops : Array Oper} {Q : Exit → Act → World → Prop} {id : Nat} {b : Act} {w : World} (hm : P.follows .mixedOrders = true)
    (V : Nat → Value) (d n : Nat) (I : (Nat → Bool) → World → Prop) (o1 : Oper) (hn : ops.size = n + 1) (ho1 : ops[n]? = some o1) (hM : d + n ≤ b.tmps.size)
    (hI0 : I (fun _ => false) w.drew) (hall : AllOk (PhOk P ops V d b I) 0 (ops.toList.take n))
    (hg1 : o1.guard = none) (hb1 : o1.after.toList.all (fun e => decide (e.on < n)) = true)
    (f : Nat) (hcov : (List.range n).all (fun i => (cover ops f (waits ops n)).contains i) = true)
    (hend : ∀ w' L, (∀ i, i < n → L i = true) → I L w' → ∀ K : Act → World → Prop, (∀ a1 w1, Q .normal a1 w1 → K a1 w1) → Oper.wp P o1 { b with tmps := puts d V n b.tmps } w' K Q) :
    (Code.region id ops true).wp P Q b w := by
  have hg : ∀ i, i < n → (ops.toList.take n)[i]? = ops[i]? := fun i hi => by rw [List.getElem?_take_of_lt hi, Array.getElem?_toList]
  have ok : ∀ {i o}, i < n → ops[i]? = some o → PhOk P ops V d b I i o := fun {i o} hi h => by
    have := hall.at (i := i) (o := o) (by rw [hg i hi]; exact h)
    rw [Nat.zero_add] at this; exact this
  have q1 : ∀ e ∈ o1.after, e.on < n := fun e he => of_decide_eq_true (List.all_eq_true.1 hb1 e (Array.mem_toList_iff.2 he))
  have phaseC : ∀ fuel (listed : Array Bool) (a : Act) (w : World), listed.size = n + 1 → (∀ i, i < n + 1 → listed.getD i false = true) → Q .normal a w → wpAny P .any ops Q fuel listed a w := by
    intro fuel listed a w hs hl hq
    have hr : Region.ready .any ops listed = [] := by
      rw [List.eq_nil_iff_forall_not_mem]
      intro i hi
      obtain ⟨o, ho, h2, _⟩ := ready_mem hi
      have h4 := hl i (by have := (Array.getElem?_eq_some_iff.1 ho).1; omega)
      rw [getD_flip h2] at h4
      cases h4
    cases fuel with
    | zero => exact ⟨hr, hq⟩
    | succ fuel => exact ⟨fun _ => hq, (fun i hi => by rw [hr] at hi; cases hi)⟩
  have main : ∀ fuel (listed : Array Bool) (a : Act) (w : World), left listed ≤ fuel → listed.size = n + 1 → a.tmps.size = b.tmps.size → a.defers = b.defers → (∀ i, (i < d ∨ d + n ≤ i) → a.tmps.getD i undef = b.tmps.getD i undef) → I (fun i => listed.getD i false) w → (∀ i o, ops[i]? = some o → listed.getD i false = true → ∀ e ∈ o.after, Region.binds .any e = true → listed.getD e.on false = true) → listed.getD n true = false → (∀ i, i < n → listed.getD i false = true → a.tmps.getD (d + i) undef = V i) → wpAny P .any ops Q fuel listed a w := by
    intro fuel
    induction fuel with
    | zero =>
      intro listed a w hf hs ha hd hb hi0 hc h1 ht
      exact absurd (left_zero (listed := listed) (by omega) n) (by rw [h1]; simp)
    | succ fuel ih =>
      intro listed a w hf hs ha hd hb hi0 hc h1 ht
      refine ⟨fun hr => ?_, fun i hi => ?_⟩
      · have all : ∀ i, i < n → listed.getD i false = true := by
          intro i
          induction i using Nat.strongRecOn with
          | ind i ih =>
            intro hi
            have ho : ops[i]? = some ops[i] := Array.getElem?_eq_getElem (by omega)
            have hl : i < listed.size := by omega
            by_cases h2 : listed.getD i true = false
            · have := ready_of ho h2 (fun e he => ih e.on ((ok hi ho).back e he) (by have := (ok hi ho).back e he; omega))
              rw [hr] at this
              cases this
            · simp [Array.getD, hl] at h2 ⊢
              exact h2
        have := ready_of ho1 h1 (fun e he => all _ (q1 e he))
        rw [hr] at this
        cases this
      · obtain ⟨o, ho, h4, h3⟩ := ready_mem hi
        have hin : i < n + 1 := by have := (Array.getElem?_eq_some_iff.1 ho).1; omega
        rcases Nat.lt_or_ge i n with hlt | hge
        · have k := ok hlt ho
          have deps : ∀ e ∈ o.after, Region.binds .any e = true → listed.getD e.on false = true ∧ a.tmps.getD (d + e.on) undef = V e.on := fun e he hbd => ⟨h3 e he hbd, ht e.on (by have := k.back e he; omega) (h3 e he hbd)⟩
          refine wpOp_step ho (fun K' hK => ?_)
          have hw : Region.wanted o (yielded ops a.tmps) = true := by
            rcases k.guard with hg | ⟨j, bb, hg, ⟨e, he, hej, heb⟩, htr⟩
            · unfold Region.wanted; rw [hg]
            · unfold Region.wanted
              rw [hg]
              have hjn : j < n := by have := k.back e he; omega
              have hj := (deps e he heb).2
              rw [hej, htr] at hj
              have hoj : ops[j]? = some ops[j] := Array.getElem?_eq_getElem (by omega)
              have hdj := (ok hjn hoj).dst
              have hlt : d + j < a.tmps.size := by omega
              have hval : a.tmps[d + j]? = some (.bool bb) := by
                rw [Array.getElem?_eq_getElem hlt]
                have : a.tmps.getD (d + j) undef = a.tmps[d + j] := by simp [Array.getD, hlt]
                rw [← this, hj]
              simp [yielded, hoj, hdj, hval]
          rw [if_pos hw]
          refine k.step a w _ K' Q deps (cover_ok hc 12 (waits ops i) (fun q hq => by
            unfold waits at hq
            rw [ho] at hq
            obtain ⟨e, he, rfl⟩ := List.mem_map.1 hq
            obtain ⟨he1, he2⟩ := List.mem_filter.1 he
            exact h3 e (Array.mem_toList_iff.1 he1) he2)) (fun q hq => hb q (.inl hq)) (getD_flip h4) hi0 (fun w' hI => hK _ _ ?_)
          rw [k.dst]
          have hltM : d + i < a.tmps.size := by omega
          have ne1 : ∀ q, q ≠ i → (listed.setIfInBounds i true).getD q true = listed.getD q true := fun q hq => by
            simp only [Array.getD_eq_getD_getElem?, Array.getElem?_setIfInBounds]
            rw [if_neg (fun h' => hq h'.symm)]
          have hL : (fun q => (listed.setIfInBounds i true).getD q false) = more (fun q => listed.getD q false) i := by
            funext q
            by_cases hq : q = i
            · subst hq
              rw [set_self h4, more_self]
            · rw [more_ne _ hq]
              simp only [Array.getD_eq_getD_getElem?, Array.getElem?_setIfInBounds]
              rw [if_neg (fun h' => hq h'.symm)]
          refine ih _ _ _ (by have := left_set h4; omega) (by simpa using hs) (by show (a.tmps.setIfInBounds (d + i) (V i)).size = _; rw [Array.size_setIfInBounds]; exact ha) hd (fun q hq => ?_) (by rw [hL]; exact hI) (fun j oj hoj hl e he hbd => ?_) (by rw [ne1 n (by omega)]; exact h1) (fun q hq hl => ?_)
          · rw [getD_put hltM, if_neg (by omega)]
            exact hb q hq
          · rcases getD_set_true hl with rfl | h5
            · rw [ho] at hoj; cases hoj
              exact set_getD_true (h3 e he hbd)
            · exact set_getD_true (hc j oj hoj h5 e he hbd)
          · rw [getD_put hltM]
            by_cases e : q = i
            · subst e
              rw [if_pos rfl]
            · rw [if_neg (by omega)]
              refine ht q hq ?_
              rcases getD_set_true hl with h5 | h5
              · exact absurd h5 e
              · exact h5
        · obtain rfl : i = n := by omega
          rw [ho1] at ho; cases ho
          have hl : ∀ j, j < i → listed.getD j false = true := fun j hj => by
            refine cover_ok hc f (waits ops i) (fun q hq => ?_) j ?_
            · unfold waits at hq
              rw [ho1] at hq
              obtain ⟨e, he, rfl⟩ := List.mem_map.1 hq
              obtain ⟨he1, he2⟩ := List.mem_filter.1 he
              exact h3 e (Array.mem_toList_iff.1 he1) he2
            · have := List.all_eq_true.1 hcov j (List.mem_range.2 hj)
              simpa using this
          have hfr : a = { b with tmps := puts d V i b.tmps } := by
            obtain ⟨at_, ad⟩ := a
            dsimp only at ha hd hb ht
            subst hd
            have : at_ = puts d V i b.tmps := by
              refine array_ext_getD (by rw [puts_size]; exact ha) (fun q hq => ?_)
              rw [puts_at _ _ _ _ hM]
              by_cases hr : d ≤ q ∧ q < d + i
              · rw [if_pos hr, ← ht (q - d) (by omega) (hl _ (by omega))]
                congr 1
                omega
              · rw [if_neg hr]
                exact hb q (by omega)
            rw [this]
          refine wpOp_step ho1 (fun K' hK => ?_)
          have hwt : Region.wanted o1 (yielded ops a.tmps) = true := by unfold Region.wanted; rw [hg1]
          rw [if_pos hwt, hfr]
          refine hend w _ hl hi0 K' (fun a1 w1 hw => hK _ _ (phaseC _ _ _ _ (by simpa using hs) (fun j hj => ?_) hw))
          rcases Nat.lt_or_ge j i with h' | h'
          · exact set_getD_true (hl j h')
          · obtain rfl : j = i := by omega
            exact set_self h1
  have rep : ∀ i, i < n + 1 → (Array.replicate (n + 1) false).getD i true = false := fun i hi => by simp [Array.getD, hi]
  have rep2 : ∀ i, (Array.replicate (n + 1) false).getD i false = false := fun i => by
    simp only [Array.getD_eq_getD_getElem?, Array.getElem?_replicate]
    split <;> simp
  refine wp_region_any hm ?_
  rw [hn]
  refine main _ _ b _ ?_ (by rw [Array.size_replicate]) rfl rfl (fun _ _ => rfl) ?_ (fun i o _ hl => ?_) (rep n (by omega)) (fun i hi hl => ?_)
  · unfold left
    exact Nat.le_trans List.countP_le_length (by simp)
  · have e : (fun i => (Array.replicate (n + 1) false).getD i false) = fun _ => false := funext rep2
    rw [e]
    exact hI0
  · rw [rep2] at hl; cases hl
  · rw [rep2] at hl; cases hl
end Go.Proofs.Ytalffdiohjcajaa
