/-
  A task takes a number, whatever is inside.
-/
import Derived.Test.YtgapnimicaopcaaFiD
namespace Go.Proofs.Ytgapnimicaopcaa
open Go.RowKit
set_option maxRecDepth 8000
theorem new_in {S : Nat → Prop} {w : World} : ∀ i, S i → S i ∨ w.heap.size ≤ i := fun _ h => .inl h
theorem take_plain {w : World} {p q : Nat} {v : Value} {S : Nat → Prop} {c : Cf} {s : Ts} (x : TkX w p q v S c s) (hk : c.k = 0) (t y : Int) : Calls Try.prog 44 #[Ptr p, .int .i64 t, .int .i64 y] w fun e w' => e = .returned (.tuple #[]) ∧ Took w p q v S c (s.take c t y) w' := by
  rcases x.ins with ⟨h, rfl, hs⟩ | ⟨h, _⟩ | ⟨h, _⟩ | ⟨h, _⟩ | ⟨h, _⟩
  · refine take_of x t y y (fun w => Try.notPulse0 _ w) (fun w => Try.push0 _ w) (fun args W => L11.enter_of Try.func71 (by kernel_rfl) (by kernel_rfl) args W) ?_ (by simp [Si.val, hk]) (by simp [Si.has, hk])
    refine (plainPush_any w y).mono ?_
    rintro e w1 ⟨rfl, ha⟩
    refine ⟨rfl, ha.but, S, ?_, new_in⟩
    have : s.ins.push c.k c.n t y = s.ins := by simp [Si.push, hk]
    rw [this]
    exact x.ins.after ha
  · omega
  · omega
  · omega
  · omega
theorem take_med {w : World} {p q : Nat} {v : Value} {S : Nat → Prop} {c : Cf} {s : Ts} (x : TkX w p q v S c s) (hk : c.k = 1) (t y : Int) : Calls Try.prog 44 #[Ptr p, .int .i64 t, .int .i64 y] w fun e w' => e = .returned (.tuple #[]) ∧ Took w p q v S c (s.take c t y) w' := by
  rcases x.ins with ⟨h, _⟩ | ⟨h, g, rfl, m, hs⟩ | ⟨h, _⟩ | ⟨h, _⟩ | ⟨h, _⟩
  · omega
  · have hn : 0 < c.n := m.le.2.1
    have hp : s.ins.push c.k c.n t y = ⟨s.ins.l ++ [clampZ y], s.ins.o⟩ := by simp [Si.push, hk]
    refine take_of x t y (L9.mid (lastN c.n (s.ins.l ++ [clampZ y]))) (fun w => Try.notPulse1 _ w) (fun w => Try.push1 _ w) (fun args W => L11.enter_of Try.func72 (by kernel_rfl) (by kernel_rfl) args W) ?_ (by simp [Si.val, hk]) (by simp [Si.has, hk])
    refine (L9.mdPush_any m y).mono ?_
    rintro e w1 ⟨rfl, m1, b1⟩
    rw [show L9.mpush c.n (lastN c.n s.ins.l) (L9.clampZ y) = lastN c.n (s.ins.l ++ [clampZ y]) from mid_push c.n hn s.ins.l y] at m1
    refine ⟨by rw [show L9.mpush c.n (lastN c.n s.ins.l) (L9.clampZ y) = lastN c.n (s.ins.l ++ [clampZ y]) from mid_push c.n hn s.ins.l y], b1.mono (fun i _ e => (hs i).2 e), S, ?_, new_in⟩
    rw [hp]
    exact .inr (.inl ⟨h, g, rfl, m1, hs⟩)
  · omega
  · omega
  · omega
theorem take_avg {w : World} {p q : Nat} {v : Value} {S : Nat → Prop} {c : Cf} {s : Ts} (x : TkX w p q v S c s) (hk : c.k = 2) (t y : Int) : Calls Try.prog 44 #[Ptr p, .int .i64 t, .int .i64 y] w fun e w' => e = .returned (.tuple #[]) ∧ Took w p q v S c (s.take c t y) w' := by
  rcases x.ins with ⟨h, _⟩ | ⟨h, _⟩ | ⟨h, g, rfl, m, hs⟩ | ⟨h, _⟩ | ⟨h, _⟩
  · omega
  · omega
  · have hn : 0 < c.n := m.le.2.1
    have hp : s.ins.push c.k c.n t y = ⟨s.ins.l ++ [clampZ y], s.ins.o⟩ := by simp [Si.push, hk]
    refine take_of x t y (meanZ (lastN c.n (s.ins.l ++ [clampZ y]))) (fun w => Try.notPulse2 _ w) (fun w => Try.push2 _ w) (fun args W => L11.enter_of Try.func96 (by kernel_rfl) (by kernel_rfl) args W) ?_ (by simp [Si.val, hk]) (by simp [Si.has, hk])
    refine (L10.avPush_any m y).mono ?_
    rintro e w1 ⟨rfl, m1, b1⟩
    rw [← lastN_push hn s.ins.l (clampZ y)] at m1
    refine ⟨by rw [← lastN_push hn s.ins.l (clampZ y)], b1.mono (fun i _ e => (hs i).2 e), S, ?_, new_in⟩
    rw [hp]
    exact .inr (.inr (.inl ⟨h, g, rfl, m1, hs⟩))
  · omega
  · omega
theorem take_slow {w : World} {p q : Nat} {v : Value} {S : Nat → Prop} {c : Cf} {s : Ts} (x : TkX w p q v S c s) (hk : c.k = 3) (t y : Int) : Calls Try.prog 44 #[Ptr p, .int .i64 t, .int .i64 y] w fun e w' => e = .returned (.tuple #[]) ∧ Took w p q v S c (s.take c t y) w' := by
  have hp : s.ins.push c.k c.n t y = ⟨s.ins.l, some (L11.nxo c.n s.ins.o (clampZ y))⟩ := by simp [Si.push, hk]
  rcases x.ins with ⟨h, _⟩ | ⟨h, _⟩ | ⟨h, _⟩ | ⟨h, g, rfl, ⟨ho, m, hs⟩ | ⟨r, z, ho, m, hs⟩⟩ | ⟨h, _⟩
  · omega
  · omega
  · omega
  · refine take_of x t y (L11.nxo c.n s.ins.o (clampZ y)) (fun w => Try.notPulse3 _ w) (fun w => Try.push3 _ w) (fun args W => L11.enter_of Try.func100 (by kernel_rfl) (by kernel_rfl) args W) ?_ (by simp [Si.val, hk]) (by simp [Si.has, hk])
    rw [hp, ho]
    refine (L11.irPush_first m y).mono ?_
    rintro e w1 ⟨rfl, m1, b1, _⟩
    refine ⟨rfl, b1.mono (fun i hi e => (hs i).2 (by rcases e with e | e; exact e; omega)), fun i => i = g ∨ i = w.heap.size, ?_, fun i hi => by rcases hi with e | e; exact .inl ((hs i).2 e); exact .inr (by omega)⟩
    exact .inr (.inr (.inr (.inl ⟨h, g, rfl, .inr ⟨w.heap.size, _, rfl, m1, fun i => Iff.rfl⟩⟩)))
  · refine take_of x t y (L11.nxo c.n s.ins.o (clampZ y)) (fun w => Try.notPulse3 _ w) (fun w => Try.push3 _ w) (fun args W => L11.enter_of Try.func100 (by kernel_rfl) (by kernel_rfl) args W) ?_ (by simp [Si.val, hk]) (by simp [Si.has, hk])
    rw [hp, ho]
    refine (L11.irPush_next m y).mono ?_
    rintro e w1 ⟨rfl, m1, b1⟩
    refine ⟨rfl, b1.mono (fun i hi e => (hs i).2 e), S, ?_, new_in⟩
    exact .inr (.inr (.inr (.inl ⟨h, g, rfl, .inr ⟨r, _, rfl, m1, hs⟩⟩)))
  · omega
end Go.Proofs.Ytgapnimicaopcaa
