/-
  New and Check; rows of reals of one's own; copied; a step of a task, whatever is asked.
-/
import Derived.Test.YtgapnimicaopcaaFiS
namespace Go.Proofs.Ytgapnimicaopcaa
open Go.RowKit
set_option maxRecDepth 8000
/-- A filter, by value. -/
abbrev fVal (k n st : Int) : Value := .agg #[.int .i64 k, .int .i64 n, .int .i64 st]
def MayF (k n st : Int) : Prop := MayK k n ∧ L13.May st
theorem Cf.Ok.mayF {c : Cf} (h : c.Ok) : MayF c.k c.n c.st := ⟨h.mayK, by unfold L13.May; have := h.st1; have := h.st2; omega⟩
theorem MayF.cf {k n st : Int} (h : MayF k n st) : ∃ c : Cf, c.Ok ∧ k = c.k ∧ n = c.n ∧ st = c.st := by
  obtain ⟨h1, h2⟩ := h
  unfold MayK L9.May L10.May L11.May L12.May at h1
  unfold L13.May at h2
  refine ⟨⟨k.toNat, n.toNat, st.toNat⟩, ⟨?_, ?_, ?_⟩, ?_, ?_, ?_⟩
  · show k.toNat = 0 ∧ n.toNat = 0 ∨ k.toNat = 1 ∧ 1 ≤ n.toNat ∧ n.toNat ≤ 15 ∧ n.toNat % 2 = 1 ∨ k.toNat = 2 ∧ 1 ≤ n.toNat ∧ n.toNat ≤ 15 ∨ k.toNat = 3 ∧ 1 ≤ n.toNat ∧ n.toNat ≤ 1000 ∨ k.toNat = 4 ∧ 2 ≤ n.toNat ∧ n.toNat ≤ 8
    omega
  · show 1 ≤ st.toNat
    omega
  · show st.toNat ≤ 10000
    omega
  · show k = (k.toNat : Int)
    omega
  · show n = (n.toNat : Int)
    omega
  · show st = (st.toNat : Int)
    omega
theorem filterNew_ok (w : World) (c : Cf) (h : c.Ok) : Calls Try.prog 13 #[fVal c.k c.n c.st] w fun e w' => ∃ p S, e = .returned (.tuple #[Ptr p, .int .i64 0]) ∧ Tk w' p S c Ts.new ∧ (∀ i, S i → w.heap.size ≤ i) ∧ After w w' := by
  have H := hideIt (fun W => insideOf_ok W c.k c.n c.st h.mayK)
  have HL := hideIt (fun W => L13.lpNew_ok W c.st h.mayF.2)
  have HO := hideIt h
  clear h
  go_enter Try.func13, Try.ntmps13
  go_wp2_with fail
  refine (H.out _).mono ?_
  rintro e w1 ⟨v, S, rfl, hi, hS, a1⟩
  obtain ⟨T, u, rfl⟩ := hi.iface
  have k0 := a1.cell (g := w.heap.size) (by simp) 0
  have k1 := a1.cell (g := w.heap.size) (by simp) 1
  have k2 := a1.cell (g := w.heap.size) (by simp) 2
  have HI := hideIt (And.intro hi (And.intro hS a1))
  have hlt : w.heap.size < w1.heap.size := Nat.lt_of_lt_of_le (by simp) a1.size
  clear hi hS a1
  go_wp2_with fail
  refine (HL.out _).mono ?_
  rintro e w2 ⟨rfl, rfl⟩
  go_wp2_with fail
  go_ret2
  obtain ⟨hi, hS, a1⟩ := HI.out
  generalize hW2 : w1.alloc (.cells #[.int .i64 (c.st : Int), .bool false, .bool false, .int .i64 0] 96) = w2
  have hs2 : w2.heap.size = w1.heap.size + 1 := by rw [← hW2]; simp
  have hl2 : w2.heap[w1.heap.size]? = some (.cells #[.int .i64 (c.st : Int), .bool false, .bool false, .int .i64 0] 96 (0, 0)) := by rw [← hW2]; exact heap_alloc_new w1 _
  have a2 : After w1 w2 := by rw [← hW2]; exact After.rfl.alloc _
  rw [← hs2]
  have hx : TkX (w2.alloc (.cells #[.int .i64 c.k, .int .i64 c.n, .int .i64 c.st, .iface T u, Ptr w1.heap.size, .int .i64 0, .bool false, .int .i64 0] 58)) w2.heap.size w1.heap.size (.iface T u) S c Ts.new :=
    { at0 := heap_alloc_new w2 _, lap := (L13.lp_new hl2 HO.out.st1 HO.out.st2).after (After.rfl.alloc _), ins := (hi.after a2).after (After.rfl.alloc _), ok := HO.out, ne := by omega, np := fun h => by have := hi.lt _ h; omega, nq := fun h => by have := hi.lt _ h; omega, lo := Int.le_refl _, hi := by decide }
  refine ⟨w2.heap.size, Ta w2.heap.size w1.heap.size S, rfl, ⟨_, _, S, hx, fun i => Iff.rfl⟩, fun i hi => ?_, (((After.rfl.alloc _).trans a1).trans a2).alloc _⟩
  have hS' : ∀ i, S i → w.heap.size ≤ i := fun i h => by have := hS i h; simp at this; omega
  rcases hi with rfl | rfl | h
  · omega
  · omega
  · exact hS' i h
theorem filterNew_no (w : World) (k n st : Int) (h : ¬ MayF k n st) : Calls Try.prog 13 #[fVal k n st] w fun e w' => e = .returned (.tuple #[.pointer none, .int .i64 2]) ∧ After w w' := by
  by_cases hk : MayK k n
  · have hs : ¬ L13.May st := fun h2 => h ⟨hk, h2⟩
    obtain ⟨kk, nn, rfl, rfl⟩ : ∃ kk nn : Nat, k = kk ∧ n = nn := by
      unfold MayK L9.May L10.May L11.May L12.May at hk
      exact ⟨k.toNat, n.toNat, by omega, by omega⟩
    have H := hideIt (fun W => insideOf_ok W kk nn st hk)
    have HL := hideIt (fun W => L13.lpNew_no W st hs)
    clear h hk hs
    go_enter Try.func13, Try.ntmps13
    go_wp2_with fail
    refine (H.out _).mono ?_
    rintro e w1 ⟨v, S, rfl, hi, hS, a1⟩
    obtain ⟨T, u, rfl⟩ := hi.iface
    have k2 := a1.cell (g := w.heap.size) (by simp) 2
    have HI := hideIt a1
    have hlt : w.heap.size < w1.heap.size := Nat.lt_of_lt_of_le (by simp) a1.size
    clear hi hS a1
    go_wp2_with fail
    refine (HL.out _).mono ?_
    rintro e w2 ⟨rfl, rfl⟩
    go_wp2_with fail
    go_ret2
    exact ⟨rfl, (After.rfl.alloc _).trans HI.out⟩
  · have H := hideIt (fun W => insideOf_no W k n st hk)
    clear h hk
    go_enter Try.func13, Try.ntmps13
    go_wp2_with fail
    refine (H.out _).mono ?_
    rintro e w1 ⟨⟨v, rfl⟩, a1⟩
    go_wp2_with fail
    go_ret2
    exact ⟨rfl, (After.rfl.alloc _).trans a1⟩
theorem check_ok (w : World) (c : Cf) (h : c.Ok) : Calls Try.prog 17 #[fVal c.k c.n c.st] w fun e w' => e = .returned (.int .i64 0) ∧ After w w' := by
  have H := hideIt (fun W => filterNew_ok W c h)
  clear h
  go_enter Try.func17, Try.ntmps17
  go_wp2_with (go_at_call 13; refine (H.out _).mono ?_; rintro e w1 ⟨p, S, rfl, _, _, a1⟩)
  go_ret
  exact ⟨rfl, (After.rfl.alloc _).trans a1⟩
theorem check_no (w : World) (k n st : Int) (h : ¬ MayF k n st) : Calls Try.prog 17 #[fVal k n st] w fun e w' => e = .returned (.int .i64 2) ∧ After w w' := by
  have H := hideIt (fun W => filterNew_no W k n st h)
  clear h
  go_enter Try.func17, Try.ntmps17
  go_wp2_with (go_at_call 13; refine (H.out _).mono ?_; rintro e w1 ⟨rfl, a1⟩)
  go_ret
  exact ⟨rfl, (After.rfl.alloc _).trans a1⟩
/-- What a task is behind a step that is asked for, and what is answered. -/
def Ts.go (c : Cf) (t : Int) (s : Ts) (l : List Rl) : Ts := if s.err t l = 0 then s.step c t l else s
def Ts.out (c : Cf) (t : Int) (s : Ts) (l : List Rl) : Rd := if s.err t l = 0 then s.read c t l else ⟨0, 0⟩
theorem step_any {w : World} {p : Nat} {S : Nat → Prop} {c : Cf} {s : Ts} (x : Tk w p S c s) (t : Int) (a : Option Addr) (n d : Nat) (l : List Rl) (hr : RRow w a n l) (hna : ∀ y, a = some y → 0 < n → ¬ S y.block) : Calls Try.prog 14 #[Ptr p, .int .i64 t, .slice a n d] w fun e w' => e = .returned (.tuple #[.agg #[.int .i64 (s.out c t l).s, .int .i64 (s.out c t l).v], .int .i64 (s.err t l)]) ∧ ∃ S', Tk w' p S' c (s.go c t l) ∧ (∀ i, S' i → S i ∨ w.heap.size ≤ i) ∧ But S w w' := by
  obtain ⟨q, v, S1, x, hs⟩ := x
  unfold Ts.out Ts.go
  by_cases he : s.err t l = 0
  · rw [if_pos he, if_pos he, he]
    refine (stepX_yes x t a n d l hr (fun y hy h0 h => hna y hy h0 ((hs _).2 h)) he).mono ?_
    rintro e w' ⟨rfl, v', S', x', h1, h2⟩
    refine ⟨rfl, Ta p q S', ⟨q, v', S', x', fun i => Iff.rfl⟩, fun i hi => ?_, h2.mono (fun i _ h => (hs i).2 h)⟩
    rcases hi with rfl | rfl | h
    · exact .inl ((hs _).2 (.inl rfl))
    · exact .inl ((hs _).2 (.inr (.inl rfl)))
    · exact (h1 i h).imp (fun h => (hs i).2 (.inr (.inr h))) id
  · rw [if_neg he, if_neg he]
    refine (stepX_no x t a n d l hr he).mono ?_
    rintro e w' ⟨rfl, ha⟩
    exact ⟨rfl, S, ⟨q, v, S1, x.after ha, hs⟩, fun i h => .inl h, ha.but⟩
end Go.Proofs.Ytgapnimicaopcaa
