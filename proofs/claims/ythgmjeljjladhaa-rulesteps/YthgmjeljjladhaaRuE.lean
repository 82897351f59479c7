/-
  Both machines side by side, or both none: one round of RuleSteps.
-/
import Derived.Test.YthgmjeljjladhaaRuD
namespace Go.Proofs.Ythgmjeljjladhaa
open Go.RowKit
set_option maxRecDepth 8000
/-- Both are none; or the program's lies ahead of the document's, both from lo0 on; what is of G is no block of theirs that readings may lie in. -/
def Both (w : World) (lo0 : Nat) (G : Nat → Prop) (va vb : Value) (L : List Nd) (C : List Ch) (T : List (List Rd)) : Prop :=
  (va = .pointer none ∧ vb = .pointer none) ∨ ∃ lo hi m lo2 p X, va = Ptr m.p ∧ vb = Ptr p ∧ Run w lo hi m L C T ∧ Rm w lo2 p L C X ∧ rdsOf X = T ∧ hi ≤ lo2 ∧ lo0 ≤ lo ∧ lo2 ≤ w.heap.size ∧ lo ≤ hi ∧ ∀ g, G g → ¬ Rng lo hi g ∧ ∀ x ∈ X, (Value.slice x.a x.l.length x.d).ownBlock ≠ some g
theorem Both.but {S G : Nat → Prop} {w w' : World} {lo0 : Nat} {va vb : Value} {L : List Nd} {C : List Ch} {T : List (List Rd)} (h : Both w lo0 G va vb L C T) (b : But S w w') (hn : ∀ k, S k → k < lo0) : Both w' lo0 G va vb L C T := by
  rcases h with h | ⟨lo, hi, m, lo2, p, X, e1, e2, r1, r2, e3, h1, h2, h3, h4, h5⟩
  · exact .inl h
  · exact .inr ⟨lo, hi, m, lo2, p, X, e1, e2, r1.but b (fun k k1 _ s => by have := hn k s; omega), r2.but b (fun k k1 _ s => by have := hn k s; omega), e3, h1, h2, Nat.le_trans h3 b.size, h4, h5⟩
theorem Both.after {G : Nat → Prop} {w w' : World} {lo0 : Nat} {va vb : Value} {L : List Nd} {C : List Ch} {T : List (List Rd)} (h : Both w lo0 G va vb L C T) (b : After w w') : Both w' lo0 G va vb L C T := h.but b (fun _ t => t.elim)
theorem Both.less {G : Nat → Prop} {w : World} {lo0 : Nat} {va vb : Value} {L : List Nd} {C : List Ch} {T : List (List Rd)} (h : Both w lo0 G va vb L C T) : Both w lo0 Non va vb L C T := by
  rcases h with h | ⟨lo, hi, m, lo2, p, X, e1, e2, r1, r2, e3, h1, h2, h3, h4, h5⟩
  · exact .inl h
  · exact .inr ⟨lo, hi, m, lo2, p, X, e1, e2, r1, r2, e3, h1, h2, h3, h4, fun _ t => t.elim⟩
theorem Both.put {G : Nat → Prop} {w w' : World} {lo0 g : Nat} {va vb : Value} {L : List Nd} {C : List Ch} {T : List (List Rd)} {cs : Array Value} (h : Both w lo0 G va vb L C T) (hG : G g) (hg : w.heap[g]? = some (.cells cs 48 (0, 0))) (b : But (One g) w w') : Both w' lo0 G va vb L C T := by
  rcases h with h | ⟨lo, hi, m, lo2, p, X, e1, e2, r1, r2, e3, h1, h2, h3, h4, h5⟩
  · exact .inl h
  · obtain ⟨g1, g2⟩ := h5 g hG
    exact .inr ⟨lo, hi, m, lo2, p, X, e1, e2, r1.but b (fun k k1 k2 s => g1 (by rw [← show k = g from s]; exact ⟨k1, k2⟩)), r2.keep b hg g2, e3, h1, h2, Nat.le_trans h3 b.size, h4, h5⟩
theorem own_same {α : Type} {E : Enc α} {w w' : World} {B : Nat} {v : Value} {xs : List α} (h : ORow E 48 w B v xs) (hs : KeepsR w w') : ORow E 48 w' B v xs := by
  refine ⟨h.1, ?_⟩
  rcases h.2 with hn | ⟨g, cap, cur, h1, h2, h3, h4⟩
  · exact Or.inl hn
  · exact Or.inr ⟨g, cap, cur, h1, h2, hs g _ h3, h4⟩
/-- One round: both answer the same, and are side by side as before. -/
theorem Both.round {wr w1 : World} {lo0 : Nat} {va vb : Value} {L : List Nd} {C : List Ch} {T : List (List Rd)} (h : Both wr lo0 Non va vb L C T) (a1 : After wr w1) (hT : T.length ≤ 200) {an : Option Addr} {cn : Nat} {R : List Rd} (now : ORow rdE 48 w1 wr.heap.size (.slice an R.length cn) R) {x : Tr} (hx : x.In w1) (hxl : x.l = R) (_hlo : lo0 ≤ wr.heap.size) (hfar : ∀ y, x.a = some y → 0 < x.n → y.block < lo0) :
    ∃ (r : Bool) (k wd : Int) (T' : List (List Rd)) (MA MB : World → Prop), T'.length ≤ T.length + 1 ∧
      Calls Try.prog 15 #[va, .slice an R.length cn] w1 (fun e w' => e = .returned (.tuple #[.bool r, .int .i64 k]) ∧ MA w') ∧
      (∀ w', MA w' → But (From lo0) w1 w' ∧ Calls Try.prog 16 #[vb, .slice x.a x.n x.d] w' (fun e w'' => e = .returned (.tuple #[.bool r, .int .i64 k]) ∧ MB w'')) ∧
      (∀ w', MB w' → But (From lo0) w1 w' ∧ ORow rdE 48 w' wr.heap.size (.slice an R.length cn) R ∧ Both w' lo0 (fun g => (Value.slice an R.length cn).ownBlock = some g) va vb L C T' ∧ (∀ w'', After w' w'' → MB w'') ∧ Calls Try.prog 12 #[va] w' (fun e w'' => e = .returned (.int .i64 wd) ∧ After w' w'') ∧ Calls Try.prog 13 #[vb] w' (fun e w'' => e = .returned (.int .i64 wd) ∧ After w' w'')) := by
  have hn : x.n = R.length := by rw [← hxl]; exact hx.1.1.symm
  rcases h with ⟨rfl, rfl⟩ | ⟨lo, hi, m, lo2, p, X, rfl, rfl, r1, r2, e3, h1, h2, h3, h4, -⟩
  · refine ⟨false, 1, 0, T, fun w' => w' = w1, fun w' => After w1 w', by omega, (step_none (isNone_nil w1)).mono (fun e w' h => h), fun w' hw => ?_, fun w' hw => ?_⟩
    · subst hw
      exact ⟨But.rfl, (refStep_nil w' x.a x.n x.d).mono (fun e w'' h => ⟨h.1, by rw [h.2]; exact After.rfl⟩)⟩
    · exact ⟨hw.but, own_after now hw, .inl ⟨rfl, rfl⟩, fun w'' h => hw.trans h, (words_none (isNone_nil w')).mono (fun e w'' h => ⟨h.1, by rw [h.2]; exact After.rfl⟩), (refWords_nil w').mono (fun e w'' h => ⟨h.1, by rw [h.2]; exact After.rfl⟩)⟩
  · have hh := r1.hh
    have hXl : X.length = T.length := by rw [← e3, rdsOf_length]
    have old : ∀ {w' : World}, But (Rng lo hi) w1 w' → ORow rdE 48 w' wr.heap.size (.slice an R.length cn) R := fun {w'} b => own_but now b (fun k hk e => by have := (now.lt k hk).1; have := e.2; omega)
    have hGs : ∀ g, (Value.slice an R.length cn).ownBlock = some g → ¬ Rng lo hi g ∧ ∀ y ∈ X, (Value.slice y.a y.l.length y.d).ownBlock ≠ some g := fun g hg => ⟨fun e => by have := (now.lt g hg).1; have := e.2; omega, fun y hy e => by have := ((r2.rows y hy).2.2.lt g e).2; have := (now.lt g hg).1; omega⟩
    by_cases hc : R.length = C.length
    · have hrow : DRow w1 an C.length R := by
        obtain ⟨a', c', e, hg, _, _⟩ := ORow.row now
        cases e
        rw [← hc]
        exact hg
      have hA := (r1.after a1).step (cr := cn) hrow (fun y hy h0 e => by
        obtain ⟨a', c', e', hg, _, hb⟩ := ORow.row now
        cases e'
        have := (hb y hy).1
        have := e.2
        omega)
      refine ⟨val L C (T ++ [R]) (L.length - 1) T.length, 0, (memA L).1, T ++ [R], fun w' => Run w' lo hi m L C (T ++ [R]) ∧ But (Rng lo hi) w1 w', fun w' => ∃ X', rdsOf X' = T ++ [R] ∧ Run w' lo hi m L C (T ++ [R]) ∧ Rm w' lo2 p L C X' ∧ But (From lo0) w1 w' ∧ ORow rdE 48 w' wr.heap.size (.slice an R.length cn) R ∧ ∀ g, (Value.slice an R.length cn).ownBlock = some g → ∀ y ∈ X', (Value.slice y.a y.l.length y.d).ownBlock ≠ some g, by simp, ?_, fun w' hw => ⟨hw.2.mono (fun k _ e => by have := e.1; exact Nat.le_trans h2 e.1), ?_⟩, ?_⟩
      · rw [hc]
        exact hA
      · have rb := (r2.after a1).but hw.2 (fun k k1 _ e => by have := e.2; omega)
        have hdr : DRow w' x.a C.length R := by
          rw [← hc, ← hn, ← hxl]
          exact hx.1.but hw.2 (fun y hy h0 e => by have := hfar y hy h0; have := e.1; omega)
        have hB := refStep_ok rb (by omega) (cr := x.d) hdr (fun e => by have := hx.2 e; omega) (by have := hw.2.size; have := a1.size; omega)
        have nowB := old hw.2
        rw [hn, show (Value.slice x.a R.length x.d) = .slice x.a C.length x.d by rw [hc]]
        refine hB.mono ?_
        rintro e w'' ⟨rfl, ⟨y, hyl, hyn, rm⟩, bb, hsame⟩
        refine ⟨by rw [e3, hXl], X ++ [y], ?_, hw.1.but bb (fun k _ k2 e => by have e : lo2 ≤ k := e; omega), rm, ?_, own_same nowB hsame, fun g hg z hz => ?_⟩
        · unfold rdsOf at e3 ⊢
          rw [List.map_append, e3]
          simp [hyl]
        · exact (hw.2.mono (fun k _ e => Nat.le_trans h2 e.1)).then bb (fun k _ e => by have e : lo2 ≤ k := e; show lo0 ≤ k; omega)
        · rcases List.mem_append.1 hz with h | h
          · exact (hGs g hg).2 z h
          · simp only [List.mem_cons, List.not_mem_nil, or_false] at h
            rw [h]
            intro e
            have := hyn g e
            have := (nowB.lt g hg).2
            omega
      · rintro w' ⟨X', x1, x2, x3, x4, x5, x6⟩
        refine ⟨x4, x5, .inr ⟨lo, hi, m, lo2, p, X', rfl, rfl, x2, x3, x1, h1, h2, ?_, h4, fun g hg => ⟨(hGs g hg).1, x6 g hg⟩⟩, fun w'' a => ⟨X', x1, x2.after a, x3.after a, x4.then a (fun _ _ t => t.elim), own_after x5 a, x6⟩, words_any x2.mc x2.pos, refWords_any x3⟩
        have := x4.size
        have := a1.size
        omega
    · refine ⟨false, 2, (memA L).1, T, fun w' => w' = w1, fun w' => After w1 w', by omega, (step_arg (r1.after a1).mc r1.pos hc).mono (fun e w' h => h), fun w' hw => ?_, fun w' hw => ?_⟩
      · subst hw
        exact ⟨But.rfl, (refStep_arg (r2.after a1) (by rw [hn]; exact hc)).mono (fun e w'' h => ⟨h.1, by rw [h.2]; exact After.rfl⟩)⟩
      · have aw := a1.trans hw
        exact ⟨hw.but, own_after now hw, .inr ⟨lo, hi, m, lo2, p, X, rfl, rfl, r1.after aw, r2.after aw, e3, h1, h2, Nat.le_trans h3 aw.size, h4, hGs⟩, fun w'' h => hw.trans h, words_any (r1.after aw).mc r1.pos, refWords_any (r2.after aw)⟩
end Go.Proofs.Ythgmjeljjladhaa
