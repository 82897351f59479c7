/-
  Machines over whole numbers and lists alone: the number that a node keeps, tick by tick; what it answers is what holds of all the past; what is longer ago than all windows.
-/
import Derived.Test.YthgmjeljjladhaaFoP
namespace Go.Proofs.Ythgmjeljjladhaa
def b2i (b : Bool) : Int := if b = true then 1 else 0
theorem b2i_one (b : Bool) : (b2i b == 1) = b := by cases b <;> rfl
/-- What a node keeps behind a tick at which it kept z and its parts are a and b. -/
def nxtK (x : Nd) (z : Int) (a b : Bool) : Int :=
  if x.op = 9 then b2i a
  else if x.op = 10 then (if a = true then x.n else max (z - 1) 0)
  else if x.op = 11 then (if a = true then max (z - 1) 0 else x.n)
  else if x.op = 12 then b2i (b || (a && (z == 1)))
  else z
/-- What it answers at that tick. -/
def ansK (x : Nd) (z : Int) (a b : Bool) : Bool :=
  if x.op = 9 then z == 1
  else if x.op = 10 then a || decide (0 < z)
  else if x.op = 11 then !(!a || decide (0 < z))
  else if x.op = 12 then b || (a && (z == 1))
  else false
/-- What it keeps behind t ticks. -/
def kp (x : Nd) (f g : Nat → Bool) : Nat → Int
  | 0 => 0
  | t + 1 => nxtK x (kp x f g t) (f t) (g t)
theorem kp_congr {x : Nd} {f g f' g' : Nat → Bool} : ∀ {t : Nat}, (∀ s, s < t → f s = f' s) → (∀ s, s < t → g s = g' s) → kp x f g t = kp x f' g' t
  | 0, _, _ => rfl
  | t + 1, hf, hg => by
    unfold kp
    rw [kp_congr (fun s hs => hf s (by omega)) (fun s hs => hg s (by omega)), hf t (by omega), hg t (by omega)]
theorem kp_once {x : Nd} (h : x.op = 10) (hn : 0 ≤ x.n) (f g : Nat → Bool) : ∀ t : Nat, 0 ≤ kp x f g t ∧ kp x f g t ≤ x.n ∧ ∀ j : Nat, 1 ≤ j → ((j : Int) ≤ kp x f g t ↔ ∃ s, s < t ∧ f s = true ∧ t + j ≤ s + x.n.toNat + 1)
  | 0 => ⟨by simp [kp], by simp [kp, hn], fun j hj => ⟨fun hk => by simp [kp] at hk; omega, fun ⟨s, hs, _⟩ => absurd hs (by omega)⟩⟩
  | t + 1 => by
    obtain ⟨i0, i2, i1⟩ := kp_once h hn f g t
    have e : kp x f g (t + 1) = if f t = true then x.n else max (kp x f g t - 1) 0 := by
      show nxtK x _ _ _ = _
      unfold nxtK
      rw [if_neg (by omega), if_pos h]
    rw [e]
    rcases hf : f t with _ | _
    · rw [if_neg (by simp)]
      refine ⟨by omega, by omega, fun j hj => ?_⟩
      have := i1 (j + 1) (by omega)
      constructor
      · intro hk
        obtain ⟨s, h1, h2, h3⟩ := this.1 (by omega)
        exact ⟨s, by omega, h2, by omega⟩
      · rintro ⟨s, h1, h2, h3⟩
        have hs : s < t := by
          rcases Nat.lt_or_ge s t with h' | h'
          · exact h'
          · obtain rfl : s = t := by omega
            rw [hf] at h2; cases h2
        have := this.2 ⟨s, hs, h2, by omega⟩
        omega
    · rw [if_pos rfl]
      refine ⟨hn, Int.le_refl _, fun j hj => ⟨fun hk => ⟨t, by omega, hf, by omega⟩, fun ⟨s, h1, h2, h3⟩ => by omega⟩⟩
theorem kp_flip {x : Nd} (h : x.op = 11) (f g : Nat → Bool) : ∀ t : Nat, kp x f g t = kp ⟨10, x.a, x.b, x.n⟩ (fun s => !f s) g t
  | 0 => rfl
  | t + 1 => by
    show nxtK x _ _ _ = nxtK _ _ _ _
    rw [kp_flip h f g t]
    unfold nxtK
    simp only [h]
    cases f t <;> simp
theorem once_ans {n : Int} {f g : Nat → Bool} (x : Nd) (hx : x.op = 10) (hxn : x.n = n) (hn : 0 ≤ n) (t : Nat) : (f t || decide (0 < kp x f g t)) = anyW f (t - n.toNat) t := by
  obtain ⟨_, _, h1⟩ := kp_once hx (by omega) f g t
  have h2 := h1 1 (Nat.le_refl _)
  rw [hxn] at h2
  rcases hw : anyW f (t - n.toNat) t with _ | _
  · rw [anyW_false] at hw
    rw [hw t (by omega) (Nat.le_refl _), Bool.false_or, decide_eq_false_iff_not]
    intro hk
    obtain ⟨s, a1, a2, a3⟩ := h2.1 (by omega)
    rw [hw s (by omega) (by omega)] at a2
    cases a2
  · rw [anyW_true] at hw
    obtain ⟨s, a1, a2, a3⟩ := hw
    rcases Nat.lt_or_ge s t with h' | h'
    · have := h2.2 ⟨s, h', a3, by omega⟩
      rw [decide_eq_true (by omega), Bool.or_true]
    · obtain rfl : s = t := by omega
      rw [a3, Bool.true_or]
theorem kp_since {x : Nd} (h : x.op = 12) (f g : Nat → Bool) (t : Nat) : kp x f g (t + 1) = b2i (sinc f g t) := by
  induction t with
  | zero =>
    show nxtK x 0 _ _ = _
    unfold nxtK
    rw [if_neg (by omega), if_neg (by omega), if_neg (by omega), if_pos h]
    simp [sinc]
  | succ t ih =>
    show nxtK x (kp x f g (t + 1)) _ _ = _
    rw [ih]
    unfold nxtK
    rw [if_neg (by omega), if_neg (by omega), if_neg (by omega), if_pos h, b2i_one]
    rfl
/-- What a node that keeps a number answers is what holds. -/
theorem ans_holds {x : Nd} (hop : 9 ≤ x.op ∧ x.op ≤ 12) (hn : 0 ≤ x.n) (C : List Ch) (T : List (List Rd)) (r : Nat → Nat → Bool) (t : Nat) :
    ansK x (kp x (r x.a.toNat) (r x.b.toNat) t) (r x.a.toNat t) (r x.b.toNat t) = stepv x C T r t := by
  unfold ansK stepv
  rcases (by omega : x.op = 9 ∨ x.op = 10 ∨ x.op = 11 ∨ x.op = 12) with h | h | h | h
  · simp only [h]
    simp
    cases t with
    | zero => simp [kp]
    | succ t =>
      show (nxtK x _ _ _ == 1) = _
      unfold nxtK
      rw [if_pos h, b2i_one]
      simp
  · have := once_ans (f := r x.a.toNat) (g := r x.b.toNat) x h rfl hn t
    simp only [h]
    simp only [← this]
    simp
  · have := once_ans (f := fun s => !r x.a.toNat s) (g := r x.b.toNat) ⟨10, x.a, x.b, x.n⟩ rfl rfl hn t
    rw [← kp_flip h] at this
    simp only [h]
    simp only [← this]
    simp
  · simp only [h]
    simp
    cases t with
    | zero => simp [kp, sinc]
    | succ t =>
      rw [kp_since h, b2i_one]
      rfl
/-- What the machine keeps for its i-th node behind t ticks. -/
def zOf (L : List Nd) (C : List Ch) (T : List (List Rd)) (t i : Nat) : Int :=
  kp (L.getD i Nd.none) (val L C T (L.getD i Nd.none).a.toNat) (val L C T (L.getD i Nd.none).b.toNat) t
theorem zOf_more (L : List Nd) (C : List Ch) (T : List (List Rd)) (row : List Rd) (i : Nat) : zOf L C (T ++ [row]) T.length i = zOf L C T T.length i := by
  unfold zOf
  have e : ∀ j s, s < T.length → val L C (T ++ [row]) j s = val L C T j s := fun j s hs => val_past L C j (fun q hq => by simp [List.getD, List.getElem?_append_left (show q < T.length by omega)])
  exact kp_congr (fun s hs => e _ s hs) (fun s hs => e _ s hs)
theorem zOf_zero (L : List Nd) (C : List Ch) (T : List (List Rd)) (i : Nat) : zOf L C T 0 i = 0 := rfl
theorem zOf_succ {L : List Nd} {x : Nd} {i : Nat} (hx : L[i]? = some x) (C : List Ch) (T : List (List Rd)) (t : Nat) : zOf L C T (t + 1) i = nxtK x (zOf L C T t i) (val L C T x.a.toNat t) (val L C T x.b.toNat t) := by
  have e : L.getD i Nd.none = x := by simp [List.getD, hx]
  unfold zOf
  rw [e]
  rfl
theorem okN_n {x : Nd} {i n : Int} (h : okN x i n = true) (hop : 9 ≤ x.op) : 0 ≤ x.n ∧ x.n ≤ 64 := by
  unfold okN at h
  rw [if_neg (by omega), if_neg (by omega), if_neg (by omega)] at h
  split at h
  · simp only [Bool.and_eq_true, decide_eq_true_eq] at h; omega
  · split at h
    · simp only [Bool.and_eq_true, decide_eq_true_eq] at h; omega
    · split at h
      · simp only [Bool.and_eq_true, decide_eq_true_eq] at h; omega
      · cases h
theorem val_ans {L : List Nd} {n : Int} (h : okAll L n = true) (C : List Ch) (T : List (List Rd)) {i : Nat} {x : Nd} (hx : L[i]? = some x) (hop : 9 ≤ x.op) (t : Nat) :
    ansK x (zOf L C T t i) (val L C T x.a.toNat t) (val L C T x.b.toNat t) = val L C T i t := by
  have ho := okAll_at h hx
  have e : L.getD i Nd.none = x := by simp [List.getD, hx]
  rw [val_eq h C T hx t, ← ans_holds ⟨hop, (okN_op ho).2⟩ (okN_n ho hop).1 C T (val L C T) t]
  unfold zOf
  rw [e]
theorem zOf_bound {L : List Nd} {n : Int} (h : okAll L n = true) (C : List Ch) (T : List (List Rd)) {i : Nat} {x : Nd} (hx : L[i]? = some x) (t : Nat) : 0 ≤ zOf L C T t i ∧ zOf L C T t i ≤ 64 := by
  have ho := okAll_at h hx
  induction t with
  | zero => rw [zOf_zero]; omega
  | succ t ih =>
    rw [zOf_succ hx]
    by_cases hop : 9 ≤ x.op
    · have := okN_n ho hop
      unfold nxtK b2i
      split
      · split <;> omega
      split
      · split <;> omega
      split
      · split <;> omega
      split
      · split <;> omega
      · exact ih
    · unfold nxtK
      rw [if_neg (by omega), if_neg (by omega), if_neg (by omega), if_neg (by omega)]
      exact ih
/-- The windows of the first k nodes, together. -/
def wsum (L : List Nd) : Nat → Nat
  | 0 => 0
  | k + 1 => wsum L k + (if (L.getD k Nd.none).op = 10 then (L.getD k Nd.none).n.toNat else 0)
theorem wsum_le (L : List Nd) : ∀ {j k : Nat}, j ≤ k → wsum L j ≤ wsum L k
  | j, 0, h => by obtain rfl : j = 0 := by omega
                  exact Nat.le_refl _
  | j, k + 1, h => by
    rcases Nat.lt_or_ge j (k + 1) with h' | h'
    · exact Nat.le_trans (wsum_le L (show j ≤ k by omega)) (Nat.le_add_right _ _)
    · obtain rfl : j = k + 1 := by omega
      exact Nat.le_refl _
/-- Neither prev nor hist nor since. -/
def plainL (L : List Nd) : Prop := ∀ x ∈ L, x.op ≠ 9 ∧ x.op ≠ 11 ∧ x.op ≠ 12
theorem val_drop {L : List Nd} {n : Int} (h : okAll L n = true) (hp : plainL L) (C : List Ch) (T : List (List Rd)) (d : Nat) : ∀ (i : Nat), i < L.length → ∀ t, d + wsum L (i + 1) ≤ t → val L C T i t = val L C (T.drop d) i (t - d) := by
  intro i
  induction i using Nat.strongRecOn with
  | ind i ih =>
    intro hi t ht
    obtain ⟨x, hx⟩ : ∃ x, L[i]? = some x := ⟨_, List.getElem?_eq_getElem hi⟩
    have e : L.getD i Nd.none = x := by simp [List.getD, hx]
    have ho := okAll_at h hx
    have ha := okN_ahead ho
    have hop := okN_op ho
    obtain ⟨p1, p2, p3⟩ := hp x (List.mem_of_getElem? hx)
    rw [val_eq h C T hx, val_eq h C _ hx]
    have hw : wsum L (i + 1) = wsum L i + (if x.op = 10 then x.n.toNat else 0) := by
      show wsum L i + _ = _
      rw [e]
    have part : ∀ j s, j < i → d + wsum L i ≤ s → val L C T j s = val L C (T.drop d) j (s - d) := fun j s hj hs => ih j hj (by omega) s (by have := wsum_le L (show j + 1 ≤ i by omega); omega)
    have hr : (T.drop d).getD (t - d) [] = T.getD t [] := by
      simp only [List.getD, List.getElem?_drop]
      rw [show d + (t - d) = t by omega]
    unfold stepv
    simp only [if_neg p1, if_neg p2, if_neg p3]
    split
    · rfl
    split
    · rw [part _ t (ha.1 (by omega) (by omega)) (by omega)]
    split
    · rw [part _ t (ha.1 (by omega) (by omega)) (by omega), part _ t (ha.2 (by omega)) (by omega)]
    split
    · rw [part _ t (ha.1 (by omega) (by omega)) (by omega), part _ t (ha.2 (by omega)) (by omega)]
    split
    · rename_i h10
      rw [if_pos h10] at hw
      have hA := ha.1 (by omega) (by omega)
      have e1 : t - d - x.n.toNat = t - x.n.toNat - d := by omega
      rw [e1]
      rcases hv : anyW (val L C (T.drop d) x.a.toNat) (t - x.n.toNat - d) (t - d) with _ | _
      · rw [anyW_false] at hv ⊢
        intro s h1 h2
        rw [part _ s hA (by omega)]
        exact hv (s - d) (by omega) (by omega)
      · rw [anyW_true] at hv ⊢
        obtain ⟨s, h1, h2, h3⟩ := hv
        refine ⟨s + d, by omega, by omega, ?_⟩
        rw [part _ (s + d) hA (by omega), Nat.add_sub_cancel]
        exact h3
    · rw [hr]
end Go.Proofs.Ythgmjeljjladhaa
