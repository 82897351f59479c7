/-
  What is inside a filter, in memory: where it lies, of which blocks it is, how it begins.
-/
import Derived.Test.YtgapnimicaopcaaFiP
import Derived.Test.YtgapnimicaopcaaMdC
import Derived.Test.YtgapnimicaopcaaAvC
import Derived.Test.YtgapnimicaopcaaIrB
import Derived.Test.YtgapnimicaopcaaBtS
import Derived.Test.YtgapnimicaopcaaLpA
namespace Go.Proofs.Ytgapnimicaopcaa
open Go.RowKit
set_option maxRecDepth 8000
/-- Which kinds and numbers there may be. -/
def MayK (k n : Int) : Prop := k = 0 ∧ n = 0 ∨ k = 1 ∧ L9.May n ∨ k = 2 ∧ L10.May n ∨ k = 3 ∧ L11.May n ∨ k = 4 ∧ L12.May n
/-- An inside of kind k and number n, of the blocks of S, is the interface's value v. -/
def Ins (w : World) (k n : Nat) (S : Nat → Prop) (s : Si) (v : Value) : Prop :=
  (k = 0 ∧ v = .iface 80 (.agg #[]) ∧ (∀ i, ¬ S i))
  ∨ (k = 1 ∧ ∃ p, v = .iface 83 (Ptr p) ∧ L9.Md w p n (lastN n s.l) ∧ (∀ i, S i ↔ i = p))
  ∨ (k = 2 ∧ ∃ p, v = .iface 86 (Ptr p) ∧ L10.Av w p n (lastN n s.l) ∧ (∀ i, S i ↔ i = p))
  ∨ (k = 3 ∧ ∃ p, v = .iface 89 (Ptr p) ∧ ((s.o = none ∧ L11.SlN w p n ∧ (∀ i, S i ↔ i = p)) ∨ ∃ g y, s.o = some y ∧ L11.SlY w p g n y ∧ (∀ i, S i ↔ i = p ∨ i = g)))
  ∨ (k = 4 ∧ ∃ q p B u T, v = .iface 92 (Ptr q) ∧ w.heap[q]? = some (.cells #[Ptr p, T] 112 (0, 0)) ∧ L12.BtX w p B n (lastN n s.l) u ∧ q ≠ p ∧ q < B ∧ B ≤ w.heap.size ∧ (∀ i, S i ↔ i = q ∨ i = p ∨ u.ownBlock = some i))
theorem Ins.lt {w : World} {k n : Nat} {S : Nat → Prop} {s : Si} {v : Value} (x : Ins w k n S s v) : ∀ i, S i → i < w.heap.size := by
  intro i hi
  rcases x with ⟨_, _, hs⟩ | ⟨_, p, _, m, hs⟩ | ⟨_, p, _, m, hs⟩ | ⟨_, p, _, ⟨_, m, hs⟩ | ⟨g, y, _, m, hs⟩⟩ | ⟨_, q, p, B, u, T, _, hq, m, _, _, _, hs⟩
  · exact (hs i hi).elim
  · rw [(hs i).1 hi]; exact m.lt
  · rw [(hs i).1 hi]; exact m.lt
  · rw [(hs i).1 hi]; exact blk_lt m.at0
  · rcases (hs i).1 hi with rfl | rfl
    · exact blk_lt m.at0
    · exact blk_lt m.at1
  · rcases (hs i).1 hi with rfl | rfl | h
    · exact blk_lt hq
    · exact m.lt
    · exact (own_lt m.own h).2
theorem Ins.but {T : Nat → Prop} {w w' : World} {k n : Nat} {S : Nat → Prop} {s : Si} {v : Value} (x : Ins w k n S s v) (b : But T w w') (hn : ∀ i, S i → ¬ T i) : Ins w' k n S s v := by
  rcases x with ⟨h, hv, hs⟩ | ⟨h, p, hv, m, hs⟩ | ⟨h, p, hv, m, hs⟩ | ⟨h, p, hv, ⟨ho, m, hs⟩ | ⟨g, y, ho, m, hs⟩⟩ | ⟨h, q, p, B, u, t, hv, hq, m, h1, h2, h3, hs⟩
  · exact .inl ⟨h, hv, hs⟩
  · exact .inr (.inl ⟨h, p, hv, m.but b (hn p ((hs p).2 rfl)), hs⟩)
  · exact .inr (.inr (.inl ⟨h, p, hv, m.but b (hn p ((hs p).2 rfl)), hs⟩))
  · exact .inr (.inr (.inr (.inl ⟨h, p, hv, .inl ⟨ho, m.but b (hn p ((hs p).2 rfl)), hs⟩⟩)))
  · exact .inr (.inr (.inr (.inl ⟨h, p, hv, .inr ⟨g, y, ho, m.but b (hn p ((hs p).2 (.inl rfl))) (hn g ((hs g).2 (.inr rfl))), hs⟩⟩)))
  · exact .inr (.inr (.inr (.inr ⟨h, q, p, B, u, t, hv, (b.block q (blk_lt hq) (hn q ((hs q).2 (.inl rfl)))).trans hq, m.but b (hn p ((hs p).2 (.inr (.inl rfl)))) (fun i hi => hn i ((hs i).2 (.inr (.inr hi)))), h1, h2, Nat.le_trans h3 b.size, hs⟩)))
theorem Ins.after {w w' : World} {k n : Nat} {S : Nat → Prop} {s : Si} {v : Value} (x : Ins w k n S s v) (a : After w w') : Ins w' k n S s v := x.but a (fun _ _ t => t)
theorem newPlain_ok (w : World) : Calls Try.prog 36 #[.int .i64 0] w fun e w' => e = .returned (.tuple #[.agg #[], .int .i64 0]) ∧ After w w' := by
  go_enter Try.func36, Try.ntmps36
  go_wp2
  exact bodyPost_ret (v := .tuple #[.agg #[], .int .i64 0]) (by simp [results, Try.results36, go_sem]) rfl ⟨rfl, After.rfl.alloc _⟩
theorem newPlain_no (w : World) (n : Int) (h : n ≠ 0) : Calls Try.prog 36 #[.int .i64 n] w fun e w' => e = .returned (.tuple #[.agg #[], .int .i64 2]) ∧ After w w' := by
  go_enter Try.func36, Try.ntmps36
  go_wp2
  exact bodyPost_ret (v := .tuple #[.agg #[], .int .i64 2]) (by simp [results, Try.results36, go_sem]) rfl ⟨rfl, After.rfl.alloc _⟩
theorem plainPush_any (w : World) (v : Int) : Calls Try.prog 71 #[.agg #[], .int .i64 v] w fun e w' => e = .returned (.tuple #[.int .i64 v, .int .i64 0]) ∧ After w w' := by
  go_enter Try.func71, Try.ntmps71
  go_wp2
  go_ret2
  exact ⟨rfl, After.rfl.alloc _⟩
theorem newPulse_ok (w : World) (n : Int) (h : L12.May n) : Calls Try.prog 40 #[.int .i64 n] w fun e w' => e = .returned (.tuple #[Ptr (w.heap.size + 1), .int .i64 0]) ∧ w' = (w.alloc (.cells #[.int .i64 n, .slice none 0 0] 115)).alloc (.cells #[Ptr w.heap.size, .int .i64 0] 112) := by
  have H := hideIt (L12.btNew_ok w n h)
  clear h
  go_enter Try.func40, Try.ntmps40
  go_wp2_with (go_at_call 46; refine H.out.mono ?_; rintro e w' ⟨rfl, rfl⟩)
  go_ret2
  exact ⟨by simp, rfl⟩
theorem newPulse_no (w : World) (n : Int) (h : ¬ L12.May n) : Calls Try.prog 40 #[.int .i64 n] w fun e w' => (∃ v, e = .returned (.tuple #[v, .int .i64 2])) ∧ After w w' := by
  have H := hideIt (L12.btNew_no w n h)
  clear h
  go_enter Try.func40, Try.ntmps40
  go_wp2_with (go_at_call 46; refine H.out.mono ?_; rintro e w' ⟨rfl, rfl⟩)
  go_ret2
  exact ⟨⟨_, rfl⟩, After.rfl.alloc _⟩
end Go.Proofs.Ytgapnimicaopcaa
