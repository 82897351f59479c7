/-
  A deed of a task's run: its call, and what is heard of it.
-/
import Derived.Test.YtkjjjibglaffnaaExC
namespace Go.Proofs.Ytkjjjibglaffnaa
open Go.RowKit
set_option maxRecDepth 8000
theorem Rn.box_keep {r : Rc} {w w' : World} {o : Nat → Nat} {vh : Value} {x : Ru} (h : Rn r w o vh x) {S : Nat → Prop} (b : But S w w') (hS : ∀ k, S k → k = r.b ∨ r.lv.ownBlock = some k) (g : Nat) (d : De) (hb : Box w g d) : Box w' g d :=
  hb.but b (fun s => by
    rcases hS g s with e | e
    · have h1 := h.cl.t0
      rw [← e] at h1
      rw [Box, h1] at hb
      simp at hb
    · exact own_farT h.lk (by decide) hb e)
theorem Rn.use {r : Rc} {w : World} {o : Nat → Nat} {vh : Value} {x : Ru} (h : Rn r w o vh x) (n : Int) : Calls Try.prog 29 #[Ptr r.c, .int .i64 n] w fun e w' => e = .returned (.bool (useA r.s x.t n)) ∧ Rn r w' o vh ⟨useT r.s x.t n, x.L, x.g, x.h⟩ ∧ ∀ g d, Box w g d → Box w' g d :=
  (use_any h.cl h.st h.sm n).mono (fun e w' ⟨e1, h1, h2⟩ => ⟨e1, h.next h2 (fun k _ e => .inl (by rw [show k = r.b from e]; exact h.lb)) h1 (own_but h.lk h2 (fun k hk e => by have := h.ll k hk; have := h.lb; rw [show k = r.b from e] at *; omega)) rfl rfl (useT_in h.st n), h.box_keep h2 (fun k e => .inl e)⟩)
theorem Rn.fail {r : Rc} {w : World} {o : Nat → Nat} {vh : Value} {x : Ru} (h : Rn r w o vh x) : Calls Try.prog 27 #[Ptr r.c] w fun e w' => e = .returned (.tuple #[]) ∧ Rn r w' o vh ⟨x.t.fail, x.L, x.g, x.h⟩ ∧ ∀ g d, Box w g d → Box w' g d :=
  (fail_any h.cl).mono (fun e w' ⟨e1, h1, h2⟩ => ⟨e1, h.next h2 (fun k _ e => .inl (by rw [show k = r.b from e]; exact h.lb)) h1 (own_but h.lk h2 (fun k hk e => by have := h.ll k hk; have := h.lb; rw [show k = r.b from e] at *; omega)) rfl rfl h.st, h.box_keep h2 (fun k e => .inl e)⟩)
theorem Rn.put {r : Rc} {w : World} {o : Nat → Nat} {vh : Value} {x : Ru} (h : Rn r w o vh x) (i v : Int) : Calls Try.prog 30 #[Ptr r.c, .int .i64 i, .int .i64 v] w fun e w' => e = .returned (.bool (putA x.L r.p x.t i)) ∧ Rn r w' o vh ⟨x.t, putL x.L r.p x.t i v, x.g, x.h⟩ ∧ ∀ g d, Box w g d → Box w' g d :=
  (put_any h.cl h.lk h.L16 i v).mono (fun _e _w' ⟨e1, h1, h2, h3⟩ => ⟨e1, h.next h3 (fun k _ e => .inr (h.ll k e)) h1 h2 rfl (putL_len ..) h.st, h.box_keep h3 (fun _k e => .inr e)⟩)
theorem Rn.get {r : Rc} {w : World} {o : Nat → Nat} {vh : Value} {x : Ru} (h : Rn r w o vh x) (i v : Int) : Calls Try.prog 28 #[Ptr r.c, .int .i64 i] w fun e w' => e = .returned (.tuple #[.int .i64 (getA x.L r.p i).v, .bool (getA x.L r.p i).is]) ∧ Rn r w' o vh ⟨x.t, x.L, v, x.h⟩ ∧ ∀ g d, Box w g d → Box w' g d :=
  (get_any h.cl h.lk h.L16 i).mono (fun _e _w' ⟨e1, h1⟩ => ⟨e1, h.next (x' := ⟨x.t, x.L, v, x.h⟩) h1 (fun _ _ t => t.elim) (h.cl.after h1) (own_after h.lk h1) rfl rfl h.st, fun _g _d hb => hb.but h1 (fun t => t)⟩)
theorem Rn.got {r : Rc} {w : World} {o : Nat → Nat} {vh : Value} {x : Ru} (h : Rn r w o vh x) (v : Int) : Rn r w o vh ⟨x.t, x.L, v, x.h⟩ :=
  h.next (x' := ⟨x.t, x.L, v, x.h⟩) (S := Non) But.rfl (fun _ _ t => t.elim) h.cl h.lk rfl rfl h.st
def Q1 (r : Rc) (o : Nat → Nat) (vh : Value) (x : Ru) (g : Nat) (d : De) : World → Prop := fun w => Rn r w o vh x ∧ Box w g d
def Q2 (r : Rc) (o : Nat → Nat) (vh : Value) (x : Ru) (y : He) (g : Nat) (d : De) : Value → World → Prop := fun v w => ∃ q, v = .slice (some ⟨q, 0, none⟩) 1 1 ∧ w.heap[q]? = some (.cells #[.int .i64 y.v, .bool y.is] 69 (0, 0)) ∧ Rn r w o vh x ∧ Box w g d
def Q4 (r : Rc) (x : Ru) (g : Nat) (d : De) : World → Prop := fun w => ∃ o vh, Rn r w o vh x ∧ Box w g d
theorem q2_of {r : Rc} {o : Nat → Nat} {vh : Value} {x : Ru} {g : Nat} {d : De} {w : World} (y : He) (h : Q1 r o vh x g d w) : Q2 r o vh x y g d (.slice (some ⟨w.heap.size, 0, none⟩) 1 1) (w.alloc (.cells #[.int .i64 y.v, .bool y.is] 69)) :=
  ⟨_, rfl, heap_alloc_new w _, h.1.after (After.rfl.alloc _), h.2.but (After.rfl.alloc (.cells #[.int .i64 y.v, .bool y.is] 69)) (fun t => t)⟩
abbrev ChR (c b a s l : Nat) (r : Rc) (o : Nat → Nat) (vh : Value) (x x1 : Ru) (y : He) (g : Nat) (d : De) : (Nat → Bool) → (Nat → Value) → World → Prop :=
  ChW c b a s l (Q1 r o vh x g d) (fun _ => Q1 r o vh x1 g d) (Q2 r o vh x1 y g d) (Air r o vh x1 y g d) (Q4 r ⟨x1.t, x1.L, x1.g, x1.h ++ [y]⟩ g d)
section
variable {c b a s l : Nat} {r : Rc} {o : Nat → Nat} {vh : Value} {x x1 : Ru} {y : He} {g : Nat} {d : De} {L : Nat → Bool} {u : Nat → Value} {w : World}
theorem chr_box (h : ChR c b a s l r o vh x x1 y g d L u w) : Box w g d :=
  ChW.any h (fun h => h.2) (fun _ h => h.2) (fun _ ⟨_, _, _, _, h⟩ => h) (fun _ h => h.box) (fun ⟨_, _, _, h⟩ => h)
theorem chr_t1 (hl : L l = false) (h : ChR c b a s l r o vh x x1 y g d L u w) : w.heap[r.t]? = some (.cells #[.slice r.a r.D.length r.cap, vh, Ptr r.c] 63 (0, 0)) :=
  ChW.early h hl (fun h => h.1.at0) (fun _ h => h.1.at0) (fun _ ⟨_, _, _, h, _⟩ => h.at0)
theorem air_of {w2 : World} {q cap : Nat} (h1 : Rn r w2 o vh x1) (h2 : Box w2 g d) (h3 : ORow heE 69 w 0 (.slice (some ⟨q, 0, none⟩) (x1.h.length + 1) cap) (x1.h ++ [y])) (h4 : But (fun k => vh.ownBlock = some k) w2 w) (h5 : vh.ownBlock = some q ∨ q = w2.heap.size) (h6 : q < w.heap.size) : Air r o vh x1 y g d (.slice (some ⟨q, 0, none⟩) (x1.h.length + 1) cap) w := ⟨w2, q, cap, rfl, h1, h2, h3, h4, h5, h6⟩
end
theorem Try.infoHe : (Try.prog.info? 69).map (fun i => (i.zero, i.size, i.bytes)) = some (some (.agg #[.int .i64 0, .bool false]), 2, 16) := by kernel_rfl
theorem run_bHe1 (q : Bool) (w : World) : (Instr.build 69 #[(1, .bool q)]).run Try.prog w = .ok (.agg #[.int .i64 0, .bool q]) w := by
  simp [go_sem]
theorem run_bsHe (v : Int) (q : Bool) (w : World) : (Instr.buildSlice 60 1 #[(0, .agg #[.int .i64 v, .bool q])]).run Try.prog w = .ok (.slice (some ⟨w.heap.size, 0, none⟩) 1 1) (w.alloc (.cells #[.int .i64 v, .bool q] 69)) := by
  simp [go_sem]
theorem loadI {w : World} {b off : Nat} {n : Int} (h0 : w.cell? ⟨b, off, none⟩ = some (.int .i64 n)) : (Instr.loadAt 3 (.pointer (some ⟨b, off, none⟩))).run Try.prog w = .ok (.int .i64 n) w := by
  simp [go_sem, h0]
theorem loadHe {w : World} {b off : Nat} {a : Option Addr} {n c : Nat} (h0 : w.cell? ⟨b, off, none⟩ = some (.slice a n c)) : (Instr.loadAt 60 (.pointer (some ⟨b, off, none⟩))).run Try.prog w = .ok (.slice a n c) w := by
  simp [go_sem, h0]
theorem storeHe {w : World} {b off : Nat} {a : Option Addr} {n c : Nat} {v : Value} (h0 : w.cell? ⟨b, off, none⟩ = some v) (h1 : w.frozen? ⟨b, off, none⟩ = false) : (Instr.storeAt 60 (.pointer (some ⟨b, off, none⟩)) (.slice a n c)).run Try.prog w = .ok () (w.setCell ⟨b, off, none⟩ (.slice a n c)) := by
  simp [go_sem, h0, h1]
theorem fieldTk (w : World) (b off : Nat) : (Instr.fieldAt 63 (.pointer (some ⟨b, off, none⟩)) 1).run Try.prog w = .ok (.pointer (some ⟨b, off + 1, none⟩)) w := by
  simp [go_sem]
theorem fieldDe1 (w : World) (b off : Nat) : (Instr.fieldAt 67 (.pointer (some ⟨b, off, none⟩)) 1).run Try.prog w = .ok (.pointer (some ⟨b, off + 1, none⟩)) w := by
  simp [go_sem]
theorem fieldDe2 (w : World) (b off : Nat) : (Instr.fieldAt 67 (.pointer (some ⟨b, off, none⟩)) 2).run Try.prog w = .ok (.pointer (some ⟨b, off + 2, none⟩)) w := by
  simp [go_sem]
theorem de_at {w : World} {a : Option Addr} {n : Nat} {xs : List De} (h : GRow deE w a n xs) {i : Nat} (hi : i < n) : ∃ b off x, a = some ⟨b, off, none⟩ ∧ b < w.heap.size ∧ xs[i]? = some x ∧ w.cell? ⟨b, off + i * 3, none⟩ = some (.int .i64 x.k) ∧ w.cell? ⟨b, off + i * 3 + 1, none⟩ = some (.int .i64 x.a) ∧ w.cell? ⟨b, off + i * 3 + 2, none⟩ = some (.int .i64 x.b) := by
  obtain ⟨b, off, x, e, hb, hx, h1⟩ := h.2 i hi
  exact ⟨b, off, x, e, hb, hx, h1 0 _ rfl, h1 1 _ rfl, h1 2 _ rfl⟩
theorem q1_start {r : Rc} {o : Nat → Nat} {vh : Value} {x : Ru} {g : Nat} {d : De} {w : World} (h : Q1 r o vh x g d w) : Q1 r o vh x g d w.drew :=
  ⟨h.1.after (But.drew But.rfl), h.2.but (S := Non) (But.drew But.rfl) (fun t => t)⟩
theorem air_slice {r : Rc} {o : Nat → Nat} {vh : Value} {x : Ru} {y : He} {g : Nat} {d : De} {v : Value} {w : World} (h : Air r o vh x y g d v w) : ∃ q cap, v = .slice (some ⟨q, 0, none⟩) (x.h.length + 1) cap := by
  obtain ⟨w2, q, cap, e, _⟩ := h
  exact ⟨q, cap, e⟩
theorem Rn.slice {r : Rc} {w : World} {o : Nat → Nat} {vh : Value} {x : Ru} (h : Rn r w o vh x) : ∃ a c, vh = .slice a x.h.length c := by
  obtain ⟨a, c, e, _⟩ := h.own.row
  exact ⟨a, c, e⟩
theorem Rn.cells {r : Rc} {w : World} {o : Nat → Nat} {vh : Value} {x : Ru} (h : Rn r w o vh x) : w.cell? ⟨r.t, 0, none⟩ = some (.slice r.a r.D.length r.cap) ∧ w.cell? ⟨r.t, 1, none⟩ = some vh ∧ w.frozen? ⟨r.t, 1, none⟩ = false ∧ w.cell? ⟨r.t, 2, none⟩ = some (Ptr r.c) := ⟨blk_cell h.at0 rfl, blk_cell h.at0 rfl, blk_soft h.at0 1, blk_cell h.at0 rfl⟩
/-- A run, told by what is left. -/
def Left (r : Rc) (R : Ru) (n : Nat) (j : Nat) (x : Ru) (w : World) : Prop := (∃ o vh, Rn r w o vh x) ∧ run r.p r.s (r.D.drop j) x = R ∧ x.h.length ≤ n + j
/-- What a run leaves behind. -/
def Ran (r : Rc) (R : Ru) (w : World) : Prop := ∃ o vh, Rn r w o vh R
end Go.Proofs.Ytkjjjibglaffnaa
