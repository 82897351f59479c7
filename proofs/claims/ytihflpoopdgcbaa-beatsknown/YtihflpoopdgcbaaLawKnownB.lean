/-
  BeatsKnown.
-/
import Derived.Test.YtihflpoopdgcbaaBtT
namespace Go.Proofs.Ytihflpoopdgcbaa
open Go.RowKit
set_option maxRecDepth 8000
/-- Beats by 2 at p, of which some were taken. -/
structure Kb (w W : World) (p : Nat) (L : List Int) : Prop where
  bt : ∃ v, BtX W p (p + 1) 2 (lastN 2 L) v
  sz : p + 1 ≤ W.heap.size
  aft : After w W
  wp : w.heap.size ≤ p
theorem kb_beat {w W : World} {p : Nat} {L : List Int} (x : Kb w W p L) (t : Int) (L' : List Int) (E : Int) (h1 : nxt L t = L') (h2 : errT L t = E) : Calls Try.prog 10 #[Ptr p, .int .i64 t] W fun e w' => e = .returned (.int .i64 E) ∧ Kb w w' p L' := by
  subst h1 h2
  obtain ⟨v, bt⟩ := x.bt
  refine (btBeat_any bt x.sz t).mono ?_
  rintro e w' ⟨rfl, b, u, bt', -⟩
  refine ⟨rfl, ⟨u, bt'⟩, Nat.le_trans x.sz b.size, x.aft.then b (fun i hi t => ?_), x.wp⟩
  have : i = p := t
  have := x.wp
  omega
theorem kb_rate {w W : World} {p : Nat} {L : List Int} (x : Kb w W p L) (r : Int) (i : Bool) (h1 : rv (lastN 2 L) = r) (h2 : ris (lastN 2 L) = i) : Calls Try.prog 12 #[Ptr p] W fun e w' => e = .returned (.tuple #[.int .i64 r, .bool i]) ∧ After w w' := by
  subst h1 h2
  obtain ⟨v, bt⟩ := x.bt
  refine (btRate_any bt).mono ?_
  rintro e w' ⟨rfl, d⟩
  exact ⟨rfl, x.aft.trans d.after⟩
theorem zero_none {w W : World} {g : Nat} (h : w.heap[g]? = some (.cells #[.int .i64 0, .slice none 0 0] 42 (0, 0))) (a : After w W) : NoneB W (Ptr g) :=
  btNone_zero ((a.block g (blk_lt h) (fun t => t)).trans h)
set_option maxHeartbeats 4000000 in
theorem law_knownB (w : World) : Calls Try.prog 7 #[] w fun e w' => e = .returned (.bool true) ∧ After w w' := by
  go_enter Try.func7, Try.ntmps7
  go_wp2_with fail
  go_loopw [1] (fun i wr => ∃ q : Nat, q ≤ 14 ∧ i = .int .i64 ((q : Int) - 2) ∧ After w wr) (fun i _ => 12 - (intOf i).toNat + (if intOf i < 0 then (0 - intOf i).toNat else 0))
  case atStart => exact ⟨0, Nat.zero_le _, rfl, After.rfl⟩
  case round =>
    obtain ⟨q, hq, rfl, af⟩ := hrel
    have HA := hideIt af
    clear af
    by_cases hq2 : q < 14
    · have HOK := hideIt (fun n h => btNew_ok wr n h)
      have HNO := hideIt (fun n h => btNew_no wr n h)
      obtain ⟨q', hq'⟩ : ∃ q', q' = q + 1 := ⟨_, rfl⟩
      have HQ := hideIt hq'
      clear hq'
      rcases (by omega : q = 0 ∨ q = 1 ∨ q = 2 ∨ q = 3 ∨ q = 4 ∨ q = 5 ∨ q = 6 ∨ q = 7 ∨ q = 8 ∨ q = 9 ∨ q = 10 ∨ q = 11 ∨ q = 12 ∨ q = 13) with rfl | rfl | rfl | rfl | rfl | rfl | rfl | rfl | rfl | rfl | rfl | rfl | rfl | rfl
      all_goals
        clear hq hq2
        go_wp2_with fail
        first
          | (refine (HOK.out _ (by unfold May; omega)).mono ?_; rintro e w1 ⟨rfl, hw⟩; have HB := hideIt (show After w w1 by rw [hw]; exact HA.out.alloc _); clear hw)
          | (refine (HNO.out _ (by unfold May; omega)).mono ?_; rintro e w1 ⟨rfl, hw⟩; have HB := hideIt (show After w w1 by rw [hw]; exact HA.out); clear hw)
        go_wp2
        go_roundw
        case rel => exact ⟨q', by have := HQ.out; omega, congrArg (Value.int .i64) (by have := HQ.out; omega), HB.out⟩
        case measure => simp [intOf]
    · obtain rfl : q = 14 := by omega
      have z0 : (wr.alloc (.cells #[.int .i64 0, .slice none 0 0] 42)).heap[wr.heap.size]? = some (.cells #[.int .i64 0, .slice none 0 0] 42 (0, 0)) := heap_alloc_new wr _
      have a0 := HA.out.alloc (.cells #[.int .i64 0, .slice none 0 0] 42)
      have HZ := hideIt z0
      have HA1 := hideIt a0
      clear z0 hq hq2 a0
      go_wp2_with fail
      refine (btRate_none (btNone_nil _)).mono ?_
      rintro e w' ⟨rfl, hww⟩
      subst w'
      go_wp2_with fail
      refine (btRate_none (btNone_zero HZ.out)).mono ?_
      rintro e w' ⟨rfl, hww⟩
      subst w'
      obtain ⟨W, hW⟩ : ∃ W, W = wr.alloc (.cells #[.int .i64 0, .slice none 0 0] 42) := ⟨_, rfl⟩
      rw [← hW] at HZ HA1 ⊢
      clear HA hW
      generalize wr.heap.size = gz at *
      have x0 : Kb W (W.alloc (.cells #[.int .i64 2, .slice none 0 0] 42)) W.heap.size [] :=
        ⟨⟨_, bt_new (n := 2) (by omega) (heap_alloc_new W _) (by omega) (by omega)⟩, by simp, After.rfl.alloc _, Nat.le_refl _⟩
      have HN := hideIt (btNew_ok W 2 (by unfold May; omega))
      generalize W.alloc (.cells #[.int .i64 2, .slice none 0 0] 42) = V0 at HN x0
      have X0 := hideIt x0
      clear x0
      go_wp2_with fail
      refine HN.out.mono ?_
      rintro e w' ⟨rfl, hww⟩
      subst w'
      clear HN
      generalize W.heap.size = p at *
      have HB := hideIt (kb_beat X0.out 5 [5] 0 (by decide) (by decide))
      go_wp2_with fail
      refine HB.out.mono ?_
      rintro e V1 ⟨rfl, x1⟩
      have X1 := hideIt x1
      clear x1 HB X0
      have HB := hideIt (kb_beat X1.out 5 [5] 9 (by decide) (by decide))
      go_wp2_with fail
      refine HB.out.mono ?_
      rintro e V2 ⟨rfl, x1⟩
      have X2 := hideIt x1
      clear x1 HB X1
      have HB := hideIt (kb_beat X2.out 4 [5] 9 (by decide) (by decide))
      go_wp2_with fail
      refine HB.out.mono ?_
      rintro e V3 ⟨rfl, x1⟩
      have X3 := hideIt x1
      clear x1 HB X2
      have HB := hideIt (kb_beat X3.out 2147483648 [5] 9 (by decide) (by decide))
      go_wp2_with fail
      refine HB.out.mono ?_
      rintro e V4 ⟨rfl, x1⟩
      have X4 := hideIt x1
      clear x1 HB X3
      have HB := hideIt (kb_beat X4.out (-1) [5] 9 (by decide) (by decide))
      go_wp2_with fail
      refine HB.out.mono ?_
      rintro e V5 ⟨rfl, x1⟩
      have X5 := hideIt x1
      clear x1 HB X4
      have HB := hideIt (kb_beat X5.out 2147483647 [5, 2147483647] 0 (by decide) (by decide))
      go_wp2_with fail
      refine HB.out.mono ?_
      rintro e V6 ⟨rfl, x1⟩
      have X6 := hideIt x1
      clear x1 HB X5
      have HB := hideIt (kb_beat X6.out 2147483648 [5, 2147483647] 9 (by decide) (by decide))
      go_wp2_with fail
      refine HB.out.mono ?_
      rintro e V7 ⟨rfl, x1⟩
      have X7 := hideIt x1
      clear x1 HB X6
      have HB := hideIt (kb_rate X7.out 0 true (by decide) (by decide))
      clear X7
      go_wp2_with fail
      refine HB.out.mono ?_
      rintro e U0 ⟨rfl, a0⟩
      have A0 := hideIt a0
      clear a0 HB
      have HW := hideIt (works_any U0)
      go_wp2_with fail
      refine HW.out.mono ?_
      rintro e U1 ⟨rfl, a1⟩
      have A1 := hideIt (A0.out.trans a1)
      clear a1 HW A0
      go_wp2_with fail
      refine (btBeat_none (btNone_nil U1) 1).mono ?_
      rintro e w' ⟨rfl, hww⟩
      subst w'
      go_wp2_with fail
      refine (btBeat_none (zero_none HZ.out A1.out) 1).mono ?_
      rintro e w' ⟨rfl, hww⟩
      subst w'
      go_wp2_with fail
      refine (btBeat_none (zero_none HZ.out A1.out) 2).mono ?_
      rintro e w' ⟨rfl, hww⟩
      subst w'
      have HR := hideIt (rate_lit (w := U1) 8 8 rfl (by unfold May; omega) #[.int .i64 0, .int .i64 1] [0, 1] 2 rfl rfl (rise_of _ (by decide)) (by omega) 600000 (by decide))
      go_wp2_with fail
      refine HR.out.mono ?_
      rintro e U2 ⟨rfl, a1⟩
      have A2 := hideIt (A1.out.trans a1)
      clear a1 HR A1
      have HR := hideIt (rate_lit (w := U2) 2 2 rfl (by unfold May; omega) #[.int .i64 0, .int .i64 1, .int .i64 1200001] [0, 1, 1200001] 3 rfl rfl (rise_of _ (by decide)) (by omega) 1 (by decide))
      go_wp2_with fail
      refine HR.out.mono ?_
      rintro e U3 ⟨rfl, a1⟩
      have A3 := hideIt (A2.out.trans a1)
      clear a1 HR A2
      have HR := hideIt (rate_lit (w := U3) 2 2 rfl (by unfold May; omega) #[.int .i64 0, .int .i64 1200000] [0, 1200000] 2 rfl rfl (rise_of _ (by decide)) (by omega) 1 (by decide))
      go_wp2_with fail
      refine HR.out.mono ?_
      rintro e U4 ⟨rfl, a1⟩
      have A4 := hideIt (A3.out.trans a1)
      clear a1 HR A3
      have HR := hideIt (rate_lit (w := U4) 2 2 rfl (by unfold May; omega) #[.int .i64 0, .int .i64 1200001] [0, 1200001] 2 rfl rfl (rise_of _ (by decide)) (by omega) 0 (by decide))
      go_wp2_with fail
      refine HR.out.mono ?_
      rintro e U5 ⟨rfl, a1⟩
      have A5 := hideIt (A4.out.trans a1)
      clear a1 HR A4
      have HR := hideIt (rate_lit (w := U5) 3 3 rfl (by unfold May; omega) #[.int .i64 1, .int .i64 2, .int .i64 3, .int .i64 5] [1, 2, 3, 5] 4 rfl rfl (rise_of _ (by decide)) (by omega) 400000 (by decide))
      go_wp2_with fail
      refine HR.out.mono ?_
      rintro e U6 ⟨rfl, a1⟩
      have A6 := hideIt (A5.out.trans a1)
      clear a1 HR A5
      go_wp2
      go_ret
      exact ⟨rfl, HA1.out.trans A6.out⟩
end Go.Proofs.Ytihflpoopdgcbaa
