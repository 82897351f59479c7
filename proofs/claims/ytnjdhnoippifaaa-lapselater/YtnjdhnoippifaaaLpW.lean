/-
  A list of steps of one's own beside objects that are stored into; two that are heard as far apart.
-/
import Derived.Test.YtnjdhnoippifaaaStpO
namespace Go.Proofs.Ytnjdhnoippifaaa
open Go.RowKit
set_option maxRecDepth 8000
theorem own_srowB {w : World} {B : Nat} {v : Value} {xs : List Stp} (h : OSteps w B v xs) : ∃ a c, v = .slice a xs.length c ∧ SRow w a xs.length xs ∧ (∀ x, a = some x → B ≤ x.block) := by
  obtain ⟨a, c, rfl, hr, _, _⟩ := own_srow h
  refine ⟨a, c, rfl, hr, fun x hx => ?_⟩
  subst hx
  exact (h.lt x.block rfl).1
theorem SRow.cellBut {S : Nat → Prop} {w : World} {a n xs} (h : SRow w a n xs) {B : Nat} (hB : ∀ x, a = some x → B ≤ x.block) (hs : ∀ k, B ≤ k → ¬ S k) {i : Nat} (hi : i < n) : ∃ b off x, a = some ⟨b, off, none⟩ ∧ xs[i]? = some x ∧ (∀ W, But S w W → W.cell? ⟨b, off + i * 3, none⟩ = some (.int .i64 x.tick) ∧ W.cell? ⟨b, off + i * 3 + 1, none⟩ = some (.bool x.off) ∧ W.cell? ⟨b, off + i * 3 + 2, none⟩ = some (.bool x.ask)) := by
  obtain ⟨b, off, x, e, hb, hx, h1, h2, h3⟩ := h.2 i hi
  have hn : ¬ S b := hs b (hB _ e)
  exact ⟨b, off, x, e, hx, fun W ha => ⟨(ha.cell hb hn _).trans h1, (ha.cell hb hn _).trans h2, (ha.cell hb hn _).trans h3⟩⟩
/-- Two, beside what lay there at wl. -/
structure Twq (w wl : World) (p n : Nat) (s r : Ls) (W : World) : Prop where
  was : After w W
  aft : But (Two p (p + 1)) wl W
  wp : w.heap.size ≤ p
  a : LpX W p n s
  b : LpX W (p + 1) n r
theorem Twq.after {w wl W W' : World} {p n : Nat} {s r : Ls} (x : Twq w wl p n s r W) (h : After W W') : Twq w wl p n s r W' := ⟨x.was.trans h, x.aft.trans h.but, x.wp, x.a.after h, x.b.after h⟩
theorem Twq.ah {w wl W : World} {p n : Nat} {s r : Ls} (x : Twq w wl p n s r W) (t : Int) (o : Bool) : Calls Try.prog 10 #[Ptr p, .int .i64 t, .bool o] W fun e w' => e = .returned (.int .i64 (s.err t)) ∧ Twq w wl p n (s.hear t o) r w' :=
  (lpHeard_any x.a t o).mono (fun e w' q => ⟨q.1, x.was.then q.2.2 (fun i hi t => by have : i = p := t; have := x.wp; omega), x.aft.then q.2.2 (fun i _ t => .inl t), x.wp, q.2.1, x.b.but q.2.2 (fun t => by have : p + 1 = p := t; omega)⟩)
theorem Twq.bh {w wl W : World} {p n : Nat} {s r : Ls} (x : Twq w wl p n s r W) (t : Int) (o : Bool) : Calls Try.prog 10 #[Ptr (p + 1), .int .i64 t, .bool o] W fun e w' => e = .returned (.int .i64 (r.err t)) ∧ Twq w wl p n s (r.hear t o) w' :=
  (lpHeard_any x.b t o).mono (fun e w' q => ⟨q.1, x.was.then q.2.2 (fun i hi t => by have : i = p + 1 := t; have := x.wp; omega), x.aft.then q.2.2 (fun i _ t => .inr t), x.wp, x.a.but q.2.2 (fun t => by have : p = p + 1 := t; omega), q.2.1⟩)
/-- One, beside what lay there at wl. -/
structure Onq (w wl : World) (p n : Nat) (s : Ls) (W : World) : Prop where
  was : After w W
  aft : But (One p) wl W
  wp : w.heap.size ≤ p
  a : LpX W p n s
theorem Onq.after {w wl W W' : World} {p n : Nat} {s : Ls} (x : Onq w wl p n s W) (h : After W W') : Onq w wl p n s W' := ⟨x.was.trans h, x.aft.trans h.but, x.wp, x.a.after h⟩
theorem Onq.ah {w wl W : World} {p n : Nat} {s : Ls} (x : Onq w wl p n s W) (t : Int) (o : Bool) : Calls Try.prog 10 #[Ptr p, .int .i64 t, .bool o] W fun e w' => e = .returned (.int .i64 (s.err t)) ∧ Onq w wl p n (s.hear t o) w' :=
  (lpHeard_any x.a t o).mono (fun e w' q => ⟨q.1, x.was.then q.2.2 (fun i hi t => by have : i = p := t; have := x.wp; omega), x.aft.then q.2.2 (fun i _ t => t), x.wp, q.2.1⟩)
/-- All so much later. -/
def shf (s : Ls) (B : Int) : Ls := ⟨s.any, s.off, if s.any = true then s.last + B else 0⟩
theorem shf_new (B : Int) : shf Ls.new B = Ls.new := rfl
theorem shf_fits {s : Ls} {B t : Int} (h : s.last ≤ t) (h0 : 0 ≤ t) (h1 : t ≤ 12000) (h2 : 0 ≤ B) (h3 : B ≤ 1073741824) : (shf s B).Fits (t + B) := by
  unfold shf Ls.Fits
  dsimp only
  split <;> omega
theorem shf_hear {s : Ls} {B t : Int} (h : s.last ≤ t) (h0 : 0 ≤ t) (h1 : t ≤ 12000) (h2 : 0 ≤ B) (h3 : B ≤ 1073741824) (o : Bool) : (shf s B).hear (t + B) o = shf (s.hear t o) B := by
  rw [Ls.hear_yes (shf_fits h h0 h1 h2 h3), Ls.hear_yes ⟨h, by omega⟩]
  rfl
theorem shf_stands {s : Ls} {B t : Int} (h : s.any = true) (n : Nat) : (shf s B).stands n (t + B) = s.stands n t := by
  unfold shf Ls.stands
  dsimp only
  rw [if_pos h, show t + B - (s.last + B) = t - s.last by omega]
  by_cases e : t = s.last
  · rw [if_pos (show t + B = s.last + B by omega), if_pos e]
  · rw [if_neg (show ¬ t + B = s.last + B by omega), if_neg e]
end Go.Proofs.Ytnjdhnoippifaaa
