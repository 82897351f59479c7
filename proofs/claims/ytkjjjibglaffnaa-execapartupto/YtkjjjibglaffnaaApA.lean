/-
  PURE: what a partition hears hangs on the partitions alone from which links lead to it.
-/
import Derived.Test.YtkjjjibglaffnaaExW
namespace Go.Proofs.Ytkjjjibglaffnaa
open Go.RowKit
/-- A set of partitions into which nothing leads from without. -/
def Shut (S : Int → Bool) (lk : List (Int × Int)) : Prop := ∀ q ∈ lk, S q.2 = true → S q.1 = true
/-- The links that lead into a set have the same. -/
def Sam (S : Int → Bool) (L L' : List Lk) : Prop := skel L = skel L' ∧ ∀ (i : Nat) (l l' : Lk), L[i]? = some l → L'[i]? = some l' → S l.t = true → l.o = l'.o
theorem skel_at {L L' : List Lk} (h : skel L = skel L') {i : Nat} {l : Lk} (hl : L[i]? = some l) : ∃ l', L'[i]? = some l' ∧ l'.f = l.f ∧ l'.t = l.t := by
  have e : (skel L')[i]? = some (l.f, l.t) := by rw [← h]; unfold skel; rw [List.getElem?_map, hl]; rfl
  unfold skel at e
  rw [List.getElem?_map, Option.map_eq_some_iff] at e
  obtain ⟨l', h1, h2⟩ := e
  simp only [Prod.mk.injEq] at h2
  exact ⟨l', h1, h2⟩
theorem Sam.rfl {S : Int → Bool} {L : List Lk} : Sam S L L := ⟨Eq.refl _, fun i l l' h h' _ => by rw [h] at h'; cases h'; exact Eq.refl _⟩
theorem Sam.symm {S : Int → Bool} {L L' : List Lk} (h : Sam S L L') : Sam S L' L := ⟨h.1.symm, fun i l l' h1 h2 hs => by
  obtain ⟨l2, e, _, e2⟩ := skel_at h.1 h2
  rw [h1] at e
  cases e
  exact (h.2 i l' l h2 h1 (by rw [← e2]; exact hs)).symm⟩
theorem Sam.trans {S : Int → Bool} {a b c : List Lk} (h : Sam S a b) (k : Sam S b c) : Sam S a c := ⟨h.1.trans k.1, fun i l l' h1 h2 hs => by
  obtain ⟨m, e, _, e2⟩ := skel_at h.1 h1
  exact (h.2 i l m h1 e hs).trans (k.2 i m l' e h2 (by rw [e2]; exact hs))⟩
theorem lkAt_some {L : List Lk} {i : Int} {l : Lk} (h : lkAt L i = some l) : 0 ≤ i ∧ L[i.toNat]? = some l := by
  obtain ⟨h1, h2, _⟩ := lkAt_nat h
  exact ⟨h1, h2⟩
/-- What no link leads from does not matter. -/
theorem sam_put {S : Int → Bool} {L : List Lk} (hS : Shut S (skel L)) {p : Int} (hp : S p = false) (t : Tn) (i v : Int) : Sam S L (putL L p t i v) := by
  refine ⟨(putL_skel ..).symm, fun k l l' h1 h2 hs => ?_⟩
  unfold putL at h2
  split at h2
  · rw [h1] at h2; cases h2; rfl
  · rename_i m hm
    split at h2
    · rename_i hc
      obtain ⟨h0, hm2⟩ := lkAt_some hm
      rw [Bool.and_eq_true, decide_eq_true_eq] at hc
      rw [List.getElem?_set] at h2
      split at h2
      · rename_i e
        subst e
        rw [h1] at hm2
        cases hm2
        have := hS (l.f, l.t) (by unfold skel; exact List.mem_map.2 ⟨l, List.mem_of_getElem? h1, rfl⟩) hs
        rw [show S l.f = S p by rw [hc.1], hp] at this
        cases this
      · rw [h1] at h2; cases h2; rfl
    · rw [h1] at h2; cases h2; rfl
theorem sam_run {S : Int → Bool} {p s : Int} (hp : S p = false) : ∀ (D : List De) (x : Ru), Shut S (skel x.L) → Sam S x.L (run p s D x).L
  | [], _, _ => Sam.rfl
  | d :: r, x, hS => by
    rw [run_cons]
    split
    · exact Sam.rfl
    · have h1 : Sam S x.L (dst p s d x).L := by
        unfold dst
        repeat' split
        all_goals first | exact Sam.rfl | exact sam_put hS hp ..
      exact h1.trans (sam_run hp r _ (by rw [dst_skel]; exact hS))
/-- Two runs that are alike. -/
structure Alike (S : Int → Bool) (x x' : Ru) : Prop where
  t : x.t = x'.t
  L : Sam S x.L x'.L
  g : x.g = x'.g
  h : x.h = x'.h
theorem sam_at {S : Int → Bool} {L L' : List Lk} (h : Sam S L L') (i : Int) : (lkAt L i = none ∧ lkAt L' i = none) ∨ ∃ l l', lkAt L i = some l ∧ lkAt L' i = some l' ∧ l'.f = l.f ∧ l'.t = l.t ∧ (S l.t = true → l.o = l'.o) := by
  rcases e : lkAt L i with _ | l
  · refine .inl ⟨rfl, ?_⟩
    rcases e2 : lkAt L' i with _ | l'
    · rfl
    · obtain ⟨h0, h1⟩ := lkAt_some e2
      obtain ⟨m, hm, _⟩ := skel_at h.1.symm h1
      unfold lkAt at e
      rw [if_pos h0, hm] at e
      cases e
  · obtain ⟨h0, h1⟩ := lkAt_some e
    obtain ⟨m, hm, h2, h3⟩ := skel_at h.1 h1
    exact .inr ⟨l, m, rfl, by unfold lkAt; rw [if_pos h0]; exact hm, h2, h3, h.2 _ l m h1 hm⟩
theorem get_same {S : Int → Bool} {L L' : List Lk} (h : Sam S L L') {p : Int} (hp : S p = true) (i : Int) : getA L p i = getA L' p i := by
  unfold getA
  rcases sam_at h i with ⟨h1, h2⟩ | ⟨l, l', h1, h2, _, h4, h5⟩
  · rw [h1, h2]
  · rw [h1, h2]
    dsimp only
    rw [h4]
    split
    · rename_i e
      rw [h5 (by rw [e]; exact hp)]
    · rfl
theorem puta_same {S : Int → Bool} {L L' : List Lk} (h : Sam S L L') (p : Int) (t : Tn) (i : Int) : putA L p t i = putA L' p t i := by
  unfold putA
  rcases sam_at h i with ⟨h1, h2⟩ | ⟨l, l', h1, h2, h3, _, _⟩
  · rw [h1, h2]
  · rw [h1, h2]
    dsimp only
    rw [h3]
theorem putl_same {S : Int → Bool} {L L' : List Lk} (h : Sam S L L') (p : Int) (t : Tn) (i v : Int) : Sam S (putL L p t i v) (putL L' p t i v) := by
  refine ⟨by rw [putL_skel, putL_skel]; exact h.1, fun k l l' h1 h2 hs => ?_⟩
  unfold putL at h1 h2
  rcases sam_at h i with ⟨e1, e2⟩ | ⟨m, m', e1, e2, e3, _, _⟩
  · rw [e1] at h1
    rw [e2] at h2
    exact h.2 k l l' h1 h2 hs
  · rw [e1] at h1
    rw [e2] at h2
    dsimp only at h1 h2
    rw [e3] at h2
    split at h1
    · rename_i hc
      rw [if_pos hc] at h2
      rw [List.getElem?_set] at h1 h2
      split at h1
      · rename_i ek
        rw [if_pos ek] at h2
        split at h1
        · split at h2
          · cases h1
            cases h2
            rfl
          · cases h2
        · cases h1
      · rename_i ek
        rw [if_neg ek] at h2
        exact h.2 k l l' h1 h2 hs
    · rename_i hc
      rw [if_neg hc] at h2
      exact h.2 k l l' h1 h2 hs
theorem dst_alike {S : Int → Bool} {p s : Int} (hp : S p = true) (d : De) {x x' : Ru} (a : Alike S x x') : Alike S (dst p s d x) (dst p s d x') := by
  obtain ⟨t, L, g, h⟩ := x
  obtain ⟨t', L', g', h'⟩ := x'
  obtain ⟨e1, e2, e3, e4⟩ := a
  dsimp only at e1 e2 e3 e4
  subst e1
  subst e3
  subst e4
  unfold dst
  dsimp only
  rw [get_same e2 hp, puta_same e2]
  split
  · exact ⟨rfl, e2, rfl, rfl⟩
  split
  · exact ⟨rfl, e2, rfl, rfl⟩
  split
  · exact ⟨rfl, putl_same e2 .., rfl, rfl⟩
  split
  · exact ⟨rfl, e2, rfl, rfl⟩
  split
  · exact ⟨rfl, putl_same e2 .., rfl, rfl⟩
  · exact ⟨rfl, e2, rfl, rfl⟩
theorem run_alike {S : Int → Bool} {p s : Int} (hp : S p = true) : ∀ (D : List De) {x x' : Ru}, Alike S x x' → Alike S (run p s D x) (run p s D x')
  | [], _, _, a => a
  | d :: r, x, x', a => by
    rw [run_cons, run_cons]
    split
    · exact ⟨by rw [a.t], a.L, a.g, a.h⟩
    · exact run_alike hp r (dst_alike hp d a)
/-- Two minor frames. -/
theorem frm_apart {S : Int → Bool} (st : List Int) {DS DS' : Nat → List De} (hD : ∀ p : Int, 0 ≤ p → S p = true → DS p.toNat = DS' p.toNat) {q : Int} (q0 : 0 ≤ q) (hq : S q = true) : ∀ (ps : List Int) (L L' : List Lk) (H H' : Nat → List He), (∀ p ∈ ps, 0 ≤ p) → Shut S (skel L) → Sam S L L' → (∀ p : Int, 0 ≤ p → S p = true → H p.toNat = H' p.toNat) →
    (∀ (k : Nat) (a a' : An), (frm st DS ps L H).1[k]? = some a → (frm st DS' ps L' H').1[k]? = some a' → a.p = a'.p ∧ (a.p = q → a = a')) ∧ Sam S (frm st DS ps L H).2.1 (frm st DS' ps L' H').2.1 ∧ (frm st DS ps L H).2.2 q.toNat = (frm st DS' ps L' H').2.2 q.toNat
  | [], L, L', H, H', _, _, hL, hH => ⟨fun k a a' h => (by cases h), hL, hH q q0 hq⟩
  | p :: r, L, L', H, H', hps, hS, hL, hH => by
    rw [frm_cons, frm_cons]
    have p0 := hps p (List.mem_cons_self ..)
    rcases hp : S p with _ | _
    · have s1 : Sam S L (tnOf p (st.getD p.toNat 0) (DS p.toNat) L (H p.toNat)).L := sam_run hp _ ⟨Tn.new, L, 0, H p.toNat⟩ hS
      have hS' : Shut S (skel L') := by rw [← hL.1]; exact hS
      have s2 : Sam S L' (tnOf p (st.getD p.toNat 0) (DS' p.toNat) L' (H' p.toNat)).L := sam_run hp _ ⟨Tn.new, L', 0, H' p.toNat⟩ hS'
      have ih := frm_apart st hD q0 hq r _ _ (setf H p.toNat (tnOf p (st.getD p.toNat 0) (DS p.toNat) L (H p.toNat)).h) (setf H' p.toNat (tnOf p (st.getD p.toNat 0) (DS' p.toNat) L' (H' p.toNat)).h) (fun z hz => hps z (List.mem_cons_of_mem _ hz)) (by rw [← s1.1]; exact hS) ((s1.symm.trans hL).trans s2) (fun z hz hs => by
        have : z.toNat ≠ p.toNat := fun e => by
          have : z = p := by omega
          rw [this, hp] at hs; cases hs
        rw [setf_ne _ _ this, setf_ne _ _ this]
        exact hH z hz hs)
      refine ⟨fun k a a' h1 h2 => ?_, ih.2⟩
      match k with
      | 0 =>
        simp only [List.getElem?_cons_zero, Option.some.injEq] at h1 h2
        subst h1
        subst h2
        exact ⟨rfl, fun e => by
          have e : p = q := e
          rw [e, hq] at hp; cases hp⟩
      | k + 1 => exact ih.1 k a a' h1 h2
    · have al := run_alike (s := st.getD p.toNat 0) hp (DS p.toNat) (x := ⟨Tn.new, L, 0, H p.toNat⟩) (x' := ⟨Tn.new, L', 0, H' p.toNat⟩) ⟨rfl, hL, rfl, hH p p0 hp⟩
      have hd := hD p p0 hp
      rw [← hd]
      have ih := frm_apart st hD q0 hq r _ _ (setf H p.toNat (tnOf p (st.getD p.toNat 0) (DS p.toNat) L (H p.toNat)).h) (setf H' p.toNat (tnOf p (st.getD p.toNat 0) (DS p.toNat) L' (H' p.toNat)).h) (fun z hz => hps z (List.mem_cons_of_mem _ hz)) (by rw [run_skel]; exact hS) al.L (fun z hz hs => by
        by_cases e : z.toNat = p.toNat
        · rw [e, setf_at, setf_at]; exact al.h
        · rw [setf_ne _ _ e, setf_ne _ _ e]; exact hH z hz hs)
      refine ⟨fun k a a' h1 h2 => ?_, ih.2⟩
      match k with
      | 0 =>
        simp only [List.getElem?_cons_zero, Option.some.injEq] at h1 h2
        subst h1
        subst h2
        exact ⟨rfl, fun _ => by rw [show (tnOf p (st.getD p.toNat 0) (DS p.toNat) L (H p.toNat)).t = _ from al.t]; rfl⟩
      | k + 1 => exact ih.1 k a a' h1 h2
end Go.Proofs.Ytkjjjibglaffnaa
