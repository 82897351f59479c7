/-
  Both writers beside one another.
-/
import Derived.Test.YtojgkhinddjmaaaDos
import Derived.Test.YtojgkhinddjmaaaRefX
import Derived.Test.YtojgkhinddjmaaaPureB
namespace Go.Proofs.Ytojgkhinddjmaaa
open Go.RowKit
/-- A block that is none of two writers'. -/
def Apart (j g : Nat) (v : Value) (k : Nat) (u : Value) : Prop := j ≠ g ∧ j ≠ k ∧ v.ownBlock ≠ some j ∧ u.ownBlock ≠ some j
/-- Both writers, apart, have written zs; made since the world w0. -/
structure Wrs (w0 w : World) (g : Nat) (v : Value) (k : Nat) (u : Value) (zs : List Int) : Prop where
  wr : WrAt w g v zs
  rw : RwAt w k u zs
  gk : g ≠ k
  vk : v.ownBlock ≠ some k
  ug : u.ownBlock ≠ some g
  vu : ∀ j, v.ownBlock = some j → u.ownBlock ≠ some j
  aft : After w0 w
  g0 : w0.heap.size ≤ g
  k0 : w0.heap.size ≤ k
  v0 : ∀ j, v.ownBlock = some j → w0.heap.size ≤ j
  u0 : ∀ j, u.ownBlock = some j → w0.heap.size ≤ j
theorem Wrs.but {S : Nat → Prop} {w0 w w' : World} {g k : Nat} {v u : Value} {zs : List Int} (p : Wrs w0 w g v k u zs) (b : But S w w') (hs : ∀ i, S i → w0.heap.size ≤ i ∧ Apart i g v k u) : Wrs w0 w' g v k u zs :=
  ⟨p.wr.but b (fun t => (hs _ t).2.1 rfl) (fun j hj t => (hs _ t).2.2.2.1 hj), p.rw.but b (fun t => (hs _ t).2.2.1 rfl) (fun j hj t => (hs _ t).2.2.2.2 hj), p.gk, p.vk, p.ug, p.vu, p.aft.then b (fun i hi t => by have := (hs i t).1; omega), p.g0, p.k0, p.v0, p.u0⟩
theorem Wrs.after {w0 w w' : World} {g k : Nat} {v u : Value} {zs : List Int} (p : Wrs w0 w g v k u zs) (b : After w w') : Wrs w0 w' g v k u zs := p.but b (fun _ t => t.elim)
theorem Wrs.half {w0 w w' : World} {g k : Nat} {v u : Value} {zs : List Int} (p : Wrs w0 w g v k u zs) (b : But (Own g v) w w') : RwAt w' k u zs :=
  p.rw.but b (fun t => by rcases t with t | t; exact p.gk t.symm; exact p.vk t) (fun j hj t => by rcases t with t | t; exact p.ug (by rw [hj, t]); exact p.vu j t hj)
theorem Wrs.lts {w0 w : World} {g k : Nat} {v u : Value} {zs : List Int} (p : Wrs w0 w g v k u zs) : g < w.heap.size ∧ k < w.heap.size ∧ (∀ j, v.ownBlock = some j → j < w.heap.size) ∧ (∀ j, u.ownBlock = some j → j < w.heap.size) :=
  ⟨(two_at p.wr.1).1, (one_at p.rw.1).1, fun j hj => (p.wr.2.1.lt j hj).2, fun j hj => (p.rw.2.1.lt j hj).2⟩
theorem Wrs.fresh {w0 w : World} {g k : Nat} {v u : Value} {zs : List Int} (p : Wrs w0 w g v k u zs) {j : Nat} (h : w.heap.size ≤ j) : w0.heap.size ≤ j ∧ Apart j g v k u := by
  obtain ⟨h1, h2, h3, h4⟩ := p.lts
  have h5 := p.aft.size
  exact ⟨by omega, by omega, by omega, fun e => by have := h3 j e; omega, fun e => by have := h4 j e; omega⟩
/-- Both went on. -/
theorem Wrs.step {w0 w w1 w2 : World} {g k : Nat} {v u v1 u1 : Value} {zs xs : List Int} (p : Wrs w0 w g v k u zs) (r1 : WrAt w1 g v1 xs) (b1 : But (Own g v) w w1) (e1 : Grew w v v1) (r2 : RwAt w2 k u1 xs) (b2 : But (Own k u) w1 w2) (e2 : Grew w1 u u1) :
    Wrs w0 w2 g v1 k u1 xs ∧ (∀ j, j < w.heap.size → Apart j g v k u → Apart j g v1 k u1) ∧ But (fun i => Own g v i ∨ Own k u i) w w2 := by
  obtain ⟨h1, h2, h3, h4⟩ := p.lts
  have h5 := p.aft.size
  have h6 := b1.size
  have hv : ∀ j, v1.ownBlock = some j → v.ownBlock = some j ∨ w.heap.size ≤ j := fun j hj => by
    rcases e1 with e | ⟨i, e, hi⟩
    · exact .inl (by rw [← e]; exact hj)
    · rw [e] at hj; cases hj; exact .inr hi
  have hu : ∀ j, u1.ownBlock = some j → u.ownBlock = some j ∨ w1.heap.size ≤ j := fun j hj => by
    rcases e2 with e | ⟨i, e, hi⟩
    · exact .inl (by rw [← e]; exact hj)
    · rw [e] at hj; cases hj; exact .inr hi
  have hv1 : ∀ j, v1.ownBlock = some j → j < w1.heap.size := fun j hj => (r1.2.1.lt j hj).2
  have nk : v1.ownBlock ≠ some k := fun e => by
    rcases hv k e with e' | e'
    · exact p.vk e'
    · omega
  have ng : u1.ownBlock ≠ some g := fun e => by
    rcases hu g e with e' | e'
    · exact p.ug e'
    · omega
  refine ⟨⟨r1.but b2 ?_ ?_, r2, p.gk, nk, ng, ?_, ?_, p.g0, p.k0, ?_, ?_⟩, ?_, ?_⟩
  · rintro (t | t)
    · exact p.gk t
    · exact p.ug t
  · rintro j hj (t | t)
    · subst t; exact nk hj
    · rcases hv j hj with e | e
      · exact p.vu j e t
      · have := h4 j t; omega
  · intro j hj hj2
    rcases hu j hj2 with e | e
    · rcases hv j hj with e' | e'
      · exact p.vu j e' e
      · have := h4 j e; omega
    · have := hv1 j hj; omega
  · refine (p.aft.then b1 (fun i hi t => ?_)).then b2 (fun i hi t => ?_)
    · rcases t with t | t
      · have := p.g0; omega
      · have := p.v0 i t; omega
    · rcases t with t | t
      · have := p.k0; omega
      · have := p.u0 i t; omega
  · intro j hj
    rcases hv j hj with e | e
    · exact p.v0 j e
    · omega
  · intro j hj
    rcases hu j hj with e | e
    · exact p.u0 j e
    · omega
  · rintro j hj ⟨a1, a2, a3, a4⟩
    refine ⟨a1, a2, fun e => ?_, fun e => ?_⟩
    · rcases hv j e with e' | e'
      · exact a3 e'
      · omega
    · rcases hu j e with e' | e'
      · exact a4 e'
      · omega
  · exact (b1.mono (T := fun i => Own g v i ∨ Own k u i) (fun i _ t => .inl t)).trans (b2.mono (fun i _ t => .inr t))
theorem Wrs.new {w0 w w' : World} {g : Nat} (a0 : After w0 w) (r : WrAt w g (.slice none 0 0) []) (g0 : w0.heap.size ≤ g) (q : RwAt w' w.heap.size (.slice none 0 0) []) (a : After w w') : Wrs w0 w' g (.slice none 0 0) w.heap.size (.slice none 0 0) [] :=
  ⟨r.after a, q, by have := (two_at r.1).1; omega, (fun e => by cases e), (fun e => by cases e), (fun j hj => by cases hj), a0.trans a, g0, a0.size, (fun j hj => by cases hj), (fun j hj => by cases hj)⟩
end Go.Proofs.Ytojgkhinddjmaaa
