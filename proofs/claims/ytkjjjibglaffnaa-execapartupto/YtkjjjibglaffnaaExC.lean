/-
  A task's run, in memory: what lies there between its deeds; a deed's answer is heard.
-/
import Derived.Test.YtkjjjibglaffnaaExB
import Derived.Test.YtkjjjibglaffnaaChn
namespace Go.Proofs.Ytkjjjibglaffnaa
open Go.RowKit
set_option maxRecDepth 8000
def upd (o : Nat → Nat) (g l : Nat) : Nat → Nat := fun k => if k = g then l else o k
theorem upd_at (o : Nat → Nat) (g l : Nat) : upd o g l g = l := if_pos rfl
theorem upd_ne (o : Nat → Nat) {g k : Nat} (l : Nat) (h : k ≠ g) : upd o g l k = o k := if_neg h
/-- Blocks of the labels A alone are stored into; new ones may be labelled. -/
structure Go (A : Nat → Prop) (w w' : World) (o o' : Nat → Nat) : Prop where
  but : But (fun k => A (o k)) w w'
  ext : ∀ k, k < w.heap.size → o' k = o k
theorem Go.rfl {A : Nat → Prop} {w : World} {o : Nat → Nat} : Go A w w o o := ⟨But.rfl, fun _ _ => Eq.refl _⟩
theorem Go.trans {A : Nat → Prop} {a b c : World} {o o' o'' : Nat → Nat} (h : Go A a b o o') (k : Go A b c o' o'') : Go A a c o o'' :=
  ⟨h.but.then k.but (fun i hi t => by rw [h.ext i hi] at t; exact t), fun i hi => (k.ext i (Nat.lt_of_lt_of_le hi h.but.size)).trans (h.ext i hi)⟩
theorem Go.mono {A B : Nat → Prop} {a b : World} {o o' : Nat → Nat} (h : Go A a b o o') (hs : ∀ l, A l → B l) : Go B a b o o' := ⟨h.but.mono (fun _ _ t => hs _ t), h.ext⟩
/-- With what stands fast while a task runs. -/
structure Rc where
  w0 : World
  o : Nat → Nat
  m : Nat
  t : Nat
  c : Nat
  b : Nat
  p : Int
  s : Int
  lv : Value
  a : Option Addr
  cap : Nat
  D : List De
/-- Into what a task's run stores: its turn, links, the task, what it heard. -/
def AR (m : Nat) : Nat → Prop := fun l => l = 7 ∨ l = 2 ∨ l = m ∨ l = m + 1
/-- What lies in memory while a task runs. -/
structure Rn (r : Rc) (w : World) (o : Nat → Nat) (vh : Value) (x : Ru) : Prop where
  cl : Cl w r.c r.b r.p x.t r.s r.lv false
  lk : ORow lkE 83 w 0 r.lv x.L
  at0 : w.heap[r.t]? = some (.cells #[.slice r.a r.D.length r.cap, vh, Ptr r.c] 63 (0, 0))
  own : ORow heE 69 w 0 vh x.h
  dr : GRow deE w r.a r.D.length r.D
  da : ∀ y, r.a = some y → 0 < r.D.length → o y.block = 0
  m10 : 10 ≤ r.m
  lt : o r.t = r.m
  lh : ∀ k, vh.ownBlock = some k → o k = r.m + 1
  lc : o r.c = 0
  lb : o r.b = 7
  ll : ∀ k, r.lv.ownBlock = some k → o k = 2
  bnd : ∀ k, o k ≠ 0 → k < w.heap.size
  go : Go (AR r.m) r.w0 w r.o o
  L16 : x.L.length ≤ 16
  st : x.t.In r.s
  sm : r.s ≤ 1048576
/-- The turn or the links went on. -/
theorem Rn.next {r : Rc} {w w' : World} {o : Nat → Nat} {vh : Value} {x x' : Ru} (h : Rn r w o vh x) {S : Nat → Prop} (b : But S w w') (hS : ∀ k, k < w.heap.size → S k → o k = 7 ∨ o k = 2) (cl : Cl w' r.c r.b r.p x'.t r.s r.lv false) (lk : ORow lkE 83 w' 0 r.lv x'.L) (hh : x'.h = x.h) (hl : x'.L.length = x.L.length) (hi : x'.t.In r.s) : Rn r w' o vh x' := by
  have m10 := h.m10
  refine ⟨cl, lk, (b.block _ (blk_lt h.at0) (fun s => ?_)).trans h.at0, ?_, h.dr.but b (fun y hy hn s => ?_), h.da, m10, h.lt, h.lh, h.lc, h.lb, h.ll, fun k hk => Nat.lt_of_lt_of_le (h.bnd k hk) b.size, ⟨h.go.but.then b (fun k hk s => ?_), h.go.ext⟩, by rw [hl]; exact h.L16, hi, h.sm⟩
  · have := hS _ (blk_lt h.at0) s; have := h.lt; omega
  · rw [hh]
    refine own_but h.own b (fun k hk s => ?_)
    have := hS k (h.own.lt k hk).2 s; have := h.lh k hk; omega
  · obtain ⟨g, off, e, hlt⟩ := h.dr.lt hn
    rw [hy] at e
    cases e
    have := hS g hlt s
    have := h.da _ hy hn
    dsimp only at this
    omega
  · have h1 := h.go.ext k hk
    have := hS k (Nat.lt_of_lt_of_le hk h.go.but.size) s
    unfold AR
    omega
theorem Rn.after {r : Rc} {w w' : World} {o : Nat → Nat} {vh : Value} {x : Ru} (h : Rn r w o vh x) (a : After w w') : Rn r w' o vh x :=
  h.next a (fun _ _ t => t.elim) (h.cl.after a) (own_after h.lk a) rfl rfl h.st
/-- The box that a deed lies in. -/
def Box (w : World) (g : Nat) (d : De) : Prop := w.heap[g]? = some (.cells #[.int .i64 d.k, .int .i64 d.a, .int .i64 d.b] 67 (0, 0))
theorem Box.but {S : Nat → Prop} {w w' : World} {g : Nat} {d : De} (h : Box w g d) (b : But S w w') (hs : ¬ S g) : Box w' g d := (b.block g (blk_lt h) hs).trans h
/-- What was heard is appended, and not yet stored. -/
def Air (r : Rc) (o : Nat → Nat) (vh : Value) (x : Ru) (y : He) (g : Nat) (d : De) (v : Value) (w : World) : Prop :=
  ∃ w2 q cap, v = .slice (some ⟨q, 0, none⟩) (x.h.length + 1) cap ∧ Rn r w2 o vh x ∧ Box w2 g d ∧ ORow heE 69 w 0 v (x.h ++ [y]) ∧ But (fun k => vh.ownBlock = some k) w2 w ∧ (vh.ownBlock = some q ∨ q = w2.heap.size) ∧ q < w.heap.size
theorem Air.box {r : Rc} {o : Nat → Nat} {vh : Value} {x : Ru} {y : He} {g : Nat} {d : De} {v : Value} {w : World} (h : Air r o vh x y g d v w) : Box w g d := by
  obtain ⟨w2, q, cap, _, h1, h2, _, h4, _⟩ := h
  exact h2.but h4 (own_farT h1.own (by decide) h2)
theorem Air.at1 {r : Rc} {o : Nat → Nat} {vh : Value} {x : Ru} {y : He} {g : Nat} {d : De} {v : Value} {w : World} (h : Air r o vh x y g d v w) : w.heap[r.t]? = some (.cells #[.slice r.a r.D.length r.cap, vh, Ptr r.c] 63 (0, 0)) := by
  obtain ⟨w2, q, cap, _, h1, _, _, h4, _⟩ := h
  exact (h4.block _ (blk_lt h1.at0) (own_farT h1.own (by decide) h1.at0)).trans h1.at0
theorem Air.land {r : Rc} {o : Nat → Nat} {vh : Value} {x : Ru} {y : He} {g : Nat} {d : De} {v : Value} {w : World} (h : Air r o vh x y g d v w) :
    ∃ o', Rn r (w.setCell ⟨r.t, 1, none⟩ v) o' v { x with h := x.h ++ [y] } ∧ Box (w.setCell ⟨r.t, 1, none⟩ v) g d := by
  have hb := h.box
  have h1' := h.at1
  obtain ⟨w2, q, cap, rfl, h1, h2, h3, h4, h5, h6⟩ := h
  have m10 := h1.m10
  have bs := but_one w r.t 1 (.slice (some ⟨q, 0, none⟩) (x.h.length + 1) cap)
  have oq : ∀ k, (Value.slice (some ⟨q, 0, none⟩) (x.h.length + 1) cap).ownBlock = some k → k = q := fun k hk => by cases hk; rfl
  have vlt : ∀ k, vh.ownBlock = some k → k < w2.heap.size := fun k hk => (h1.own.lt k hk).2
  have keep : ∀ k, k < w2.heap.size → upd o q (r.m + 1) k = o k := fun k hk => by
    by_cases e : k = q
    · rcases h5 with h5 | h5
      · rw [e, upd_at, h1.lh q h5]
      · omega
    · exact upd_ne _ _ e
  have nq : ∀ k, k < w2.heap.size → o k ≠ r.m + 1 → k ≠ q := fun k hk hn e => by
    rcases h5 with h5 | h5
    · rw [e] at hn; exact hn (h1.lh q h5)
    · omega
  have hbt : But (fun k => vh.ownBlock = some k ∨ k = r.t) w2 (w.setCell ⟨r.t, 1, none⟩ (.slice (some ⟨q, 0, none⟩) (x.h.length + 1) cap)) := (h4.mono (fun _ _ h => .inl h)).then bs (fun _ _ h => .inr h)
  have hno : ∀ k, o k = 0 ∨ o k = 7 ∨ o k = 2 → ¬ (vh.ownBlock = some k ∨ k = r.t) := fun k hk h => by
    rcases h with h | h
    · have := h1.lh k h; omega
    · rw [h, h1.lt] at hk; omega
  have lbt := blk_lt h1.cl.t0
  have lct := blk_lt h1.cl.c0
  have ltt := blk_lt h1.at0
  refine ⟨upd o q (r.m + 1), ⟨h1.cl.but hbt (hno _ (.inl h1.lc)) (hno _ (.inr (.inl h1.lb))), own_but h1.lk hbt (fun k hk => hno k (.inr (.inr (h1.ll k hk)))), blk_put h1' 1 _, own_but h3 bs (fun k hk e => ?_), h1.dr.but hbt (fun z hz hn => hno _ (.inl (h1.da z hz hn))), fun z hz hn => ?_, m10, (keep _ ltt).trans h1.lt, fun k hk => by rw [oq k hk, upd_at], (keep _ lct).trans h1.lc, (keep _ lbt).trans h1.lb, fun k hk => (keep k (h1.lk.lt k hk).2).trans (h1.ll k hk), fun k hk => ?_, ⟨h1.go.but.then hbt (fun k hk h => ?_), fun k hk => (keep k (Nat.lt_of_lt_of_le hk h1.go.but.size)).trans (h1.go.ext k hk)⟩, h1.L16, h1.st, h1.sm⟩, hb.but bs (fun e => ?_)⟩
  · have := oq k hk
    have e : k = r.t := e
    exact nq _ ltt (by rw [h1.lt]; omega) (by omega)
  · obtain ⟨q', off, e, hlt⟩ := h1.dr.lt hn
    rw [hz] at e
    cases e
    exact (keep _ hlt).trans (h1.da _ hz hn)
  · have hsz : (w.setCell ⟨r.t, 1, none⟩ (.slice (some ⟨q, 0, none⟩) (x.h.length + 1) cap)).heap.size = w.heap.size := by simp [World.setCell]
    rw [hsz]
    by_cases e : k = q
    · rw [e]; exact h6
    · rw [upd_ne _ _ e] at hk
      exact Nat.lt_of_lt_of_le (h1.bnd k hk) h4.size
  · have h8 := h1.go.ext k hk
    rcases h with h | h
    · have := h1.lh k h; unfold AR; omega
    · rw [h] at h8 ⊢
      have := h1.lt
      unfold AR; omega
  · have e : g = r.t := e
    rw [e, Box] at hb
    rw [h1'] at hb
    cases hb
end Go.Proofs.Ytkjjjibglaffnaa
