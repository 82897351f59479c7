/-
  What stands behind the first word that is wrong makes no difference: over lists alone.
-/
import Derived.Test.YtlfcihanhfabmaaGreatDoorNtF
namespace Go.Proofs.YtlfcihanhfabmaaGreatDoor
/-- All but t words at most were gone over. -/
def Bad (t : Nat) (r : Rs) : Prop :=
  match r with
  | .error k => k ≤ t
  | .ok g => g.ws.length ≤ t
/-- The same is read of words that begin alike, as long as no more than these are looked at. -/
def Lk (t1 u1 : List W8) (r r' : Rs) : Prop :=
  Bad t1.length r ∨ (match r with
    | .error k => ∃ j, 0 < j ∧ k = t1.length + j ∧ r' = .error (u1.length + j)
    | .ok g => ∃ c, c ≠ [] ∧ g.ws = c ++ t1 ∧ r' = .ok ⟨g.i, c ++ u1, g.ns⟩)
theorem bad_of {r : Rs} {ws : List W8} {ns : List Nd} {t : Nat} (h : Fine r ws ns) (hl : ws.length ≤ t) : Bad t r := by
  rcases r with k | g
  · exact Nat.le_trans h hl
  · exact Nat.le_trans h.1.len hl
theorem bad_mono {r : Rs} {s t : Nat} (h : Bad s r) (hl : s ≤ t) : Bad t r := by
  rcases r with k | g
  · exact Nat.le_trans h hl
  · exact Nat.le_trans h hl
theorem lk_bnd {t1 u1 : List W8} {r r' : Rs} {f f' : Got → Rs} (h : Lk t1 u1 r r') (hb : ∀ g, r = .ok g → g.ws.length ≤ t1.length → Bad t1.length (f g)) (hg : ∀ i c ns, c ≠ [] → r = .ok ⟨i, c ++ t1, ns⟩ → Lk t1 u1 (f ⟨i, c ++ t1, ns⟩) (f' ⟨i, c ++ u1, ns⟩)) : Lk t1 u1 (bnd r f) (bnd r' f') := by
  rcases h with h | h
  · rcases r with k | g
    · exact .inl h
    · exact .inl (hb g rfl h)
  · rcases r with k | g
    · obtain ⟨j, h0, h1, h2⟩ := h
      rw [h2]
      exact .inr ⟨j, h0, h1, rfl⟩
    · obtain ⟨c, h0, h1, h2⟩ := h
      rw [h2]
      obtain ⟨i, ws, ns⟩ := g
      dsimp only at h1
      subst h1
      exact hg i c ns h0 rfl
theorem lk_put {t1 u1 : List W8} {ns : List Nd} {x : Nd} (c : List W8) : Lk t1 u1 (putN ns x (c ++ t1)) (putN ns x (c ++ u1)) := by
  cases c with
  | nil => exact .inl (Nat.le_refl _)
  | cons a c => exact .inr ⟨a :: c, by simp, rfl, rfl⟩
theorem lk_ok {t1 u1 : List W8} {i : Nat} {ns : List Nd} (c : List W8) : Lk t1 u1 (.ok ⟨i, c ++ t1, ns⟩) (.ok ⟨i, c ++ u1, ns⟩) := by
  cases c with
  | nil => exact .inl (Nat.le_refl _)
  | cons a c => exact .inr ⟨a :: c, by simp, rfl, rfl⟩
theorem lk_err {t1 u1 : List W8} (c : List W8) : Lk t1 u1 (.error (c ++ t1).length) (.error (c ++ u1).length) := by
  cases c with
  | nil => exact .inl (Nat.le_refl _)
  | cons a c => exact .inr ⟨(a :: c).length, by simp, by simp; omega, by simp; omega⟩
theorem hd_app {c : List W8} (h : c ≠ []) (t u : List W8) : hd (c ++ t) = hd (c ++ u) := by
  cases c with
  | nil => exact absurd rfl h
  | cons a c => rfl
theorem tail_app {c : List W8} (h : c ≠ []) (t : List W8) : (c ++ t).tail = c.tail ++ t := by
  cases c with
  | nil => exact absurd rfl h
  | cons a c => rfl
theorem tail_lt {c : List W8} (h : c ≠ []) : c.tail.length + 1 = c.length := by
  cases c with
  | nil => exact absurd rfl h
  | cons a c => rfl
def LkP (t1 u1 : List W8) (n n' : Nat) (p p' : List W8 → List Nd → Rs) : Prop :=
  ∀ c ns, (c ++ t1).length < n → (c ++ u1).length < n' → Lk t1 u1 (p (c ++ t1) ns) (p' (c ++ u1) ns)
theorem app_len {c t : List W8} {g : List W8} (h : Tail (g ++ t) (c ++ t)) : g.length ≤ c.length := by
  have := h.len
  simp at this
  exact this
theorem lk_loop {t1 u1 : List W8} {w : W8} {op : Int} {p p' : List W8 → List Nd → Rs} {n n' : Nat} (hw : w ≠ []) (hf : ∀ ws ns, Fine (p ws ns) ws ns) (H : LkP t1 u1 n n' p p') :
    ∀ f f' i c ns, i + 1 = ns.length → (c ++ t1).length < f → (c ++ u1).length < f' → (c ++ t1).length < n → (c ++ u1).length < n' → Lk t1 u1 (loopP w op p f ⟨i, c ++ t1, ns⟩) (loopP w op p' f' ⟨i, c ++ u1, ns⟩)
  | 0, _, _, _, _, _, h, _, _, _ => absurd h (by omega)
  | f + 1, 0, _, _, _, _, _, h, _, _ => absurd h (by omega)
  | f + 1, f' + 1, i, c, ns, hi, h1, h2, h3, h4 => by
    by_cases hc : c = []
    · subst hc
      exact .inl (bad_of (fine_loop hw hf _ ⟨i, [] ++ t1, ns⟩ hi) (Nat.le_refl _))
    have hl := tail_lt hc
    unfold loopP
    dsimp only
    by_cases hh : hd (c ++ t1) = w
    · rw [if_pos hh, if_pos (by rw [← hd_app hc t1 u1]; exact hh), tail_app hc, tail_app hc]
      simp only [List.length_append] at h1 h2 h3 h4
      refine lk_bnd (H c.tail ns (by rw [List.length_append]; omega) (by rw [List.length_append]; omega)) (fun g hg hb => ?_) (fun i' c' ns' hc' hr => ?_)
      · exact bad_of (fine_loop hw hf _ _ (by simp)) hb
      · have hF := hf (c.tail ++ t1) ns
        rw [hr] at hF
        have hlen := app_len hF.1
        exact lk_loop hw hf H f f' _ c' _ (by simp) (by rw [List.length_append]; omega) (by rw [List.length_append]; omega) (by rw [List.length_append]; omega) (by rw [List.length_append]; omega)
    · rw [if_neg hh, if_neg (by rw [← hd_app hc t1 u1]; exact hh)]
      exact lk_ok c
theorem lk_bin {t1 u1 : List W8} {w : W8} {op : Int} {p p' : List W8 → List Nd → Rs} {n n' : Nat} (hw : w ≠ []) (hf : ∀ ws ns, Fine (p ws ns) ws ns) (H : LkP t1 u1 n n' p p') : LkP t1 u1 n n' (binP w op p) (binP w op p') := by
  intro c ns h1 h2
  have hF := hf (c ++ t1) ns
  refine lk_bnd (H c ns h1 h2) (fun g hg hb => ?_) (fun i' c' ns' hc' hr => ?_)
  · rw [hg] at hF
    exact bad_of (fine_loop hw hf _ g hF.2.2.1) hb
  · rw [hr] at hF
    have hlen := app_len hF.1
    simp only [List.length_append] at h1 h2
    exact lk_loop hw hf H _ _ _ c' _ hF.2.2.1 (by simp only [List.length_append]; omega) (by simp only [List.length_append]; omega) (by rw [List.length_append]; omega) (by rw [List.length_append]; omega)
theorem bad_un {op n : Int} {r : Rs} {t : Nat} (h : Bad t r) : Bad t (unP op n r) := by
  rcases r with k | g
  · exact h
  · exact h
theorem lk_sin {t1 u1 : List W8} {u u' : List W8 → List Nd → Rs} {n n' : Nat} (hf : ∀ ws ns, Fine (u ws ns) ws ns) (H : LkP t1 u1 n n' u u') : LkP t1 u1 n n' (sinP u) (sinP u') := by
  intro c ns h1 h2
  have hF := hf (c ++ t1) ns
  refine lk_bnd (H c ns h1 h2) (fun g hg hb => ?_) (fun i' c' ns' hc' hr => ?_)
  · split
    · have h3 := hf g.ws.tail g.ns
      rcases hr : u g.ws.tail g.ns with k | g'
      · rw [hr] at h3
        show k ≤ _
        have : k ≤ g.ws.tail.length := h3
        simp at this; omega
      · rw [hr] at h3
        show g'.ws.length ≤ _
        have := h3.1.len
        simp at this; omega
    · exact hb
  · rw [hr] at hF
    have hlen := app_len hF.1
    simp only [List.length_append] at h1 h2
    by_cases hh : hd (c' ++ t1) = wSince
    · rw [if_pos hh, if_pos (by rw [← hd_app hc' t1 u1]; exact hh)]
      dsimp only
      rw [tail_app hc', tail_app hc']
      have hl := tail_lt hc'
      refine lk_bnd (H c'.tail ns' (by rw [List.length_append]; omega) (by rw [List.length_append]; omega)) (fun g hg hb => hb) (fun i2 c2 ns2 _ _ => lk_put c2)
    · rw [if_neg hh, if_neg (by rw [← hd_app hc' t1 u1]; exact hh)]
      exact lk_ok c'
theorem lk_or {t1 u1 : List W8} {u u' : List W8 → List Nd → Rs} {n n' : Nat} (hf : ∀ ws ns, Fine (u ws ns) ws ns) (H : LkP t1 u1 n n' u u') : LkP t1 u1 n n' (orP u) (orP u') :=
  lk_bin (by decide) (fine_and hf) (lk_bin (by decide) (fine_sin hf) (lk_sin hf H))
theorem lk_un {t1 u1 : List W8} {op n : Int} {r r' : Rs} (h : Lk t1 u1 r r') : Lk t1 u1 (unP op n r) (unP op n r') :=
  lk_bnd h (fun _ _ hb => hb) (fun _ c _ _ _ => lk_put c)
theorem bad_cmp (op : Int) (c : Nat) (ws : List W8) (ns : List Nd) : Bad ws.length (cmpP op c ws ns) := by
  unfold cmpP
  split
  · show ws.tail.length ≤ _; simp
  · exact Nat.le_refl _
theorem bad_ch (c : Nat) (ws : List W8) (ns : List Nd) : Bad ws.length (chP c ws ns) := by
  have ht : ws.tail.length ≤ ws.length := by simp
  unfold chP
  split
  · exact bad_mono (bad_cmp _ _ _ _) ht
  split
  · exact bad_mono (bad_cmp _ _ _ _) ht
  split
  · exact ht
  split
  · exact ht
  split
  · exact ht
  · exact Nat.le_refl _
theorem lk_cmp {t1 u1 : List W8} {op : Int} {k : Nat} {ns : List Nd} (c : List W8) : Lk t1 u1 (cmpP op k (c ++ t1) ns) (cmpP op k (c ++ u1) ns) := by
  by_cases hc : c = []
  · subst hc; exact .inl (bad_cmp _ _ _ _)
  unfold cmpP
  rw [← hd_app hc t1 u1]
  split
  · rw [tail_app hc, tail_app hc]; exact lk_put _
  · exact lk_err c
theorem lk_ch {t1 u1 : List W8} {k : Nat} {ns : List Nd} (c : List W8) : Lk t1 u1 (chP k (c ++ t1) ns) (chP k (c ++ u1) ns) := by
  by_cases hc : c = []
  · subst hc; exact .inl (bad_ch _ _ _)
  unfold chP
  rw [← hd_app hc t1 u1, tail_app hc, tail_app hc]
  split
  · exact lk_cmp _
  split
  · exact lk_cmp _
  split
  · exact lk_put _
  split
  · exact lk_put _
  split
  · exact lk_put _
  · exact lk_err c
theorem lk_tk {t1 u1 : List W8} {op : Int} {p p' : List W8 → List Nd → Rs} {n n' : Nat} (hf : ∀ ws ns, Fine (p ws ns) ws ns) (H : LkP t1 u1 n n' p p') (c : List W8) (ns : List Nd) (h1 : (c ++ t1).length < n) (h2 : (c ++ u1).length < n') : Lk t1 u1 (tkP op p (c ++ t1) ns) (tkP op p' (c ++ u1) ns) := by
  by_cases hc : c = []
  · subst hc
    left
    unfold tkP
    split
    · exact bad_un (bad_of (hf _ _) (by simp))
    · exact Nat.le_refl _
  have hl := tail_lt hc
  simp only [List.length_append] at h1 h2
  unfold tkP
  rw [← hd_app hc t1 u1]
  split
  · rw [tail_app hc, tail_app hc]
    exact lk_un (H _ _ (by rw [List.length_append]; omega) (by rw [List.length_append]; omega))
  · exact lk_err c
theorem lk_pU {t1 u1 : List W8} : ∀ n n' d, LkP t1 u1 n n' (pU n d) (pU n' d)
  | 0, _, _ => fun c ns h _ => absurd h (by omega)
  | n + 1, 0, _ => fun c ns _ h => absurd h (by omega)
  | n + 1, n' + 1, d => by
    intro c ns h1 h2
    by_cases hc : c = []
    · subst hc; exact .inl (bad_of (fine_pU _ _ _ _) (Nat.le_refl _))
    have hl := tail_lt hc
    simp only [List.length_append] at h1 h2
    have k1 : (c.tail ++ t1).length < n := by rw [List.length_append]; omega
    have k2 : (c.tail ++ u1).length < n' := by rw [List.length_append]; omega
    rw [pU_step, pU_step, ← hd_app hc t1 u1, tail_app hc, tail_app hc]
    split
    · exact lk_un (lk_pU n n' d _ _ k1 k2)
    split
    · exact lk_un (lk_pU n n' d _ _ k1 k2)
    split
    · exact lk_tk (fine_pU n d) (lk_pU n n' d) _ _ k1 k2
    split
    · exact lk_tk (fine_pU n d) (lk_pU n n' d) _ _ k1 k2
    unfold atomP
    rw [← hd_app hc t1 u1]
    split
    · unfold brP
      split
      · rw [tail_app hc, tail_app hc]
        refine lk_bnd (lk_or (fine_pU n (d + 1)) (lk_pU n n' (d + 1)) _ _ k1 k2) (fun g hg hb => ?_) (fun i' c' ns' hc' hr => ?_)
        · split
          · show g.ws.tail.length ≤ _
            simp; omega
          · exact hb
        · dsimp only
          rw [← hd_app hc' t1 u1, tail_app hc', tail_app hc']
          split
          · exact lk_ok _
          · exact lk_err c'
      · exact lk_err c
    split
    · rw [tail_app hc, tail_app hc]; exact lk_put _
    split
    · rw [tail_app hc, tail_app hc]; exact lk_ch _
    · exact lk_err c
/-- A word that is wrong is wrong whatever stands behind. -/
theorem whole_place {c t1 u1 : List W8} (h : wholeP (c ++ t1) = .error (t1.length + 1)) : wholeP (c ++ u1) = .error (u1.length + 1) := by
  have key : Lk t1 u1 (wholeP (c ++ t1)) (wholeP (c ++ u1)) := by
    refine lk_bnd (lk_or (fine_pU _ 0) (lk_pU _ _ 0) c [] (by omega) (by omega)) (fun g hg hb => ?_) (fun i' c' ns' hc' hr => ?_)
    · split
      · exact hb
      · exact hb
    · dsimp only
      have hF := fine_or (fine_pU ((c ++ t1).length + 1) 0) (c ++ t1) []
      rw [hr] at hF
      rw [← hd_app hc' t1 u1]
      split
      · exact lk_ok c'
      · exact lk_err c'
  rw [h] at key
  rcases key with k | ⟨j, h0, h1, h2⟩
  · exact absurd k (by show ¬ t1.length + 1 ≤ t1.length; omega)
  · rw [h2]
    have : j = 1 := by omega
    rw [this]
end Go.Proofs.YtlfcihanhfabmaaGreatDoor
