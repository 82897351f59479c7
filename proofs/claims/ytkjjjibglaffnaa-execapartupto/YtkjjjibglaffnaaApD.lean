/-
  Two execs side by side: what one does leaves the other.
-/
import Derived.Test.YtkjjjibglaffnaaApC
import Derived.Test.YtkjjjibglaffnaaRxM
namespace Go.Proofs.Ytkjjjibglaffnaa
open Go.RowKit
set_option maxRecDepth 8000
/-- What is one's is 9 to the other. -/
structure Crs (o1 o2 : Nat → Nat) : Prop where
  a : ∀ k, o1 k ≠ 0 → o1 k ≠ 9 → o2 k = 9
  b : ∀ k, o2 k ≠ 0 → o2 k ≠ 9 → o1 k = 9
theorem Crs.symm {o1 o2 : Nat → Nat} (h : Crs o1 o2) : Crs o2 o1 := ⟨h.b, h.a⟩
abbrev A9 : Nat → Prop := fun l => l = 9
/-- The other's labels behind what one did. -/
theorem Crs.go {A : Nat → Prop} {w w' : World} {o1 o1' o2 : Nat → Nat} (h : Crs o1 o2) (h0 : ¬ A 0) (h9 : ¬ A 9) (g : Go A w w' o1 o1') (hb1 : ∀ k, o1' k ≠ 0 → k < w'.heap.size) (hb2 : ∀ k, o2 k ≠ 0 → k < w.heap.size) :
    ∃ o2', Crs o1' o2' ∧ Go A9 w w' o2 o2' ∧ (∀ k, o2' k ≠ 0 → k < w'.heap.size) ∧ ∀ k, o2' k ≠ 0 → w.heap.size ≤ k → o1' k ≠ 0 := by
  obtain ⟨o2', ho⟩ : ∃ o2' : Nat → Nat, o2' = fun k => if w.heap.size ≤ k ∧ o1' k ≠ 0 then 9 else o2 k := ⟨_, rfl⟩
  have hn : ∀ k, w.heap.size ≤ k → o1' k ≠ 0 → o2' k = 9 := fun k h1 h2 => by rw [ho]; exact if_pos ⟨h1, h2⟩
  have he : ∀ k, ¬ (w.heap.size ≤ k ∧ o1' k ≠ 0) → o2' k = o2 k := fun k h1 => by rw [ho]; exact if_neg h1
  have hlt : ∀ k, k < w.heap.size → o2' k = o2 k := fun k hk => he k (fun ⟨h1, _⟩ => by omega)
  refine ⟨o2', ⟨fun k h1 h2 => ?_, fun k h1 h2 => ?_⟩, ⟨g.but.mono (fun k _ s => h.a k (fun e => h0 (by rw [← e]; exact s)) (fun e => h9 (by rw [← e]; exact s))), hlt⟩, fun k hk => ?_, fun k hk hge => ?_⟩
  · rcases Nat.lt_or_ge k w.heap.size with hl | hl
    · rw [hlt k hl]
      rw [g.ext k hl] at h1 h2
      exact h.a k h1 h2
    · exact hn k hl h1
  · rcases Nat.lt_or_ge k w.heap.size with hl | hl
    · rw [hlt k hl] at h1 h2
      rw [g.ext k hl]
      exact h.b k h1 h2
    · by_cases e : o1' k ≠ 0
      · exact absurd (hn k hl e) h2
      · rw [he k (fun ⟨_, h4⟩ => e h4)] at h1
        have := hb2 k h1
        omega
  · by_cases e : w.heap.size ≤ k ∧ o1' k ≠ 0
    · exact hb1 k e.2
    · rw [he k e] at hk
      exact Nat.lt_of_lt_of_le (hb2 k hk) g.but.size
  · by_cases e : o1' k ≠ 0
    · exact e
    · rw [he k (fun ⟨_, h4⟩ => e h4)] at hk
      have := hb2 k hk
      omega
theorem Xe.go9 {B : Nat} {w w' : World} {q : Nat} {o o' : Nat → Nat} {x : Xp} {lv : Value} (X : Xe B w q o x lv) (hB : B ≤ w.heap.size) (g : Go A9 w w' o o') (hb : ∀ k, o' k ≠ 0 → k < w'.heap.size) : Xe B w' q o' x lv :=
  X.go hB g.but (fun k _ s => by rw [show o k = 9 from s]; decide) g.ext hb
theorem Sy.go9 {w w' : World} {o o' : Nat → Nat} {lv : Value} {L : List Lk} {TL : List (Option Tk)} {HS : Nat → List He} {CV : Nat → Value} (y : Sy w o lv L TL HS CV) (g : Go A9 w w' o o') (hb : ∀ k, o' k ≠ 0 → k < w'.heap.size) : Sy w' o' lv L TL HS CV := by
  refine ⟨own_but y.lk g.but (fun k hk s => ?_), fun k hk => (g.ext k (y.lk.lt k hk).2).trans (y.ll k hk), fun i k hk => (y.tk i k hk).but g.but (fun z hz hn s => ?_) (fun k _ hk s => ?_) g.ext, fun i => (y.cv i).but g.but (fun k _ h0 s => ?_) g.ext, hb, y.L16⟩
  · have s : o k = 9 := s
    have := y.ll k hk; omega
  · obtain ⟨vh, h⟩ := y.tk i k hk
    have s : o z.block = 9 := s
    have := h.da z hz hn; omega
  · have s : o k = 9 := s
    omega
  · have s : o k = 9 := s
    omega
theorem Xe.relab {B B' : Nat} {w : World} {q : Nat} {o o' : Nat → Nat} {x : Xp} {lv : Value} (X : Xe B w q o x lv) (he : ∀ k, o k ≠ 0 → o' k = o k) (hb : ∀ k, o' k ≠ 0 → k < w.heap.size) (hB : ∀ k, o' k ≠ 0 → B' ≤ k) : Xe B' w q o' x lv := by
  obtain ⟨fa, fc, sa, sc, fws, h⟩ := X.ex
  have lab : ∀ {a : Option Addr} {n : Nat}, Lab o a n → Lab o' a n := fun f z hz hn => by rw [he _ (by rw [f z hz hn]; decide)]; exact f z hz hn
  refine ⟨⟨fa, fc, sa, sc, fws, ⟨h.at0, by rw [he q (by rw [h.op]; decide)]; exact h.op, h.rf, lab h.ff, h.fr, fun f hf => ⟨(h.fw f hf).1, lab (h.fw f hf).2⟩, h.rs, lab h.fs, h.ok⟩⟩, X.lk, fun k hk => ?_, hb, hB⟩
  rw [he k (by rw [X.ll k hk]; decide)]
  exact X.ll k hk
/-- Two execs, the second one made behind the first. -/
theorem two_xe {B1 B2 : Nat} {w1 w2 : World} {q1 q2 : Nat} {o1 o2 : Nat → Nat} {x1 x2 : Xp} {lv1 lv2 : Value} (X1 : Xe B1 w1 q1 o1 x1 lv1) (a : After w1 w2) (hB : B1 ≤ w1.heap.size) (hB2 : B2 = w1.heap.size) (X2 : Xe B2 w2 q2 o2 x2 lv2) :
    ∃ o1' o2', Xe B1 w2 q1 o1' x1 lv1 ∧ Xe B1 w2 q2 o2' x2 lv2 ∧ Crs o1' o2' := by
  subst hB2
  have d : ∀ k, o1 k ≠ 0 → o2 k = 0 := fun k h => by
    rcases Nat.eq_zero_or_pos (o2 k) with e | e
    · exact e
    · have := X1.bnd k h
      have := X2.base k (by omega)
      omega
  have Y1 := X1.after a
  obtain ⟨p1, h1⟩ : ∃ p1 : Nat → Nat, p1 = fun k => if o1 k ≠ 0 then o1 k else if o2 k ≠ 0 then 9 else 0 := ⟨_, rfl⟩
  obtain ⟨p2, h2⟩ : ∃ p2 : Nat → Nat, p2 = fun k => if o2 k ≠ 0 then o2 k else if o1 k ≠ 0 then 9 else 0 := ⟨_, rfl⟩
  have e1 : ∀ k, p1 k = if o1 k ≠ 0 then o1 k else if o2 k ≠ 0 then 9 else 0 := fun k => by rw [h1]
  have e2 : ∀ k, p2 k = if o2 k ≠ 0 then o2 k else if o1 k ≠ 0 then 9 else 0 := fun k => by rw [h2]
  have any1 : ∀ k, p1 k ≠ 0 → o1 k ≠ 0 ∨ o2 k ≠ 0 := fun k h => by
    rw [e1] at h
    by_cases a1 : o1 k ≠ 0
    · exact .inl a1
    · rw [if_neg a1] at h
      by_cases a2 : o2 k ≠ 0
      · exact .inr a2
      · rw [if_neg a2] at h; exact absurd rfl h
  have any2 : ∀ k, p2 k ≠ 0 → o1 k ≠ 0 ∨ o2 k ≠ 0 := fun k h => by
    rw [e2] at h
    by_cases a2 : o2 k ≠ 0
    · exact .inr a2
    · rw [if_neg a2] at h
      by_cases a1 : o1 k ≠ 0
      · exact .inl a1
      · rw [if_neg a1] at h; exact absurd rfl h
  have bn : ∀ k, o1 k ≠ 0 ∨ o2 k ≠ 0 → k < w2.heap.size := fun k h => by
    rcases h with h | h
    · exact Y1.bnd k h
    · exact X2.bnd k h
  have bs : ∀ k, o1 k ≠ 0 ∨ o2 k ≠ 0 → B1 ≤ k := fun k h => by
    rcases h with h | h
    · exact X1.base k h
    · have := X2.base k h; omega
  refine ⟨p1, p2, Y1.relab (fun k h => by rw [e1, if_pos h]) (fun k h => bn k (any1 k h)) (fun k h => bs k (any1 k h)), X2.relab (fun k h => by rw [e2, if_pos h]) (fun k h => bn k (any2 k h)) (fun k h => bs k (any2 k h)), ⟨fun k a1 a9 => ?_, fun k a1 a9 => ?_⟩⟩
  · have n1 : o1 k ≠ 0 := by
      rcases any1 k a1 with h | h
      · exact h
      · intro z
        rw [e1, if_neg (by omega), if_pos h] at a9
        exact a9 rfl
    rw [e2, if_neg (by have := d k n1; omega), if_pos n1]
  · have n2 : o2 k ≠ 0 := by
      rcases any2 k a1 with h | h
      · intro z
        rw [e2, if_neg (by omega), if_pos h] at a9
        exact a9 rfl
      · exact h
    have n1 : ¬ o1 k ≠ 0 := fun h => n2 (d k h)
    rw [e1, if_neg n1, if_pos n2]
end Go.Proofs.Ytkjjjibglaffnaa
