/-
  FilterKnown walked.
-/
import Derived.Test.YtgapnimicaopcaaFiKb
namespace Go.Proofs.Ytgapnimicaopcaa
open Go.RowKit
set_option maxRecDepth 8000
set_option maxHeartbeats 8000000 in
theorem law_knownF (w : World) : Calls Try.prog 7 #[] w fun e w' => e = .returned (.bool true) ∧ After w w' := by
  go_enter Try.func7, Try.ntmps7
  go_wp2_with fail
  go_loopw [1] (fun i wr => ∃ k : Int, -1 ≤ k ∧ k ≤ 7 ∧ i = .int .i64 k ∧ After w wr) (fun i _ => (7 - intOf i).toNat)
  case atStart => exact ⟨-1, by decide, by decide, rfl, After.rfl⟩
  case round =>
    obtain ⟨k, hk1, hk2, rfl, af⟩ := hrel
    have HA := hideIt af
    clear af
    by_cases hk : k < 7
    · have hk' : k = -1 ∨ k = 0 ∨ k = 1 ∨ k = 2 ∨ k = 3 ∨ k = 4 ∨ k = 5 ∨ k = 6 := by omega
      clear hk1 hk2 hk
      rcases hk' with rfl | rfl | rfl | rfl | rfl | rfl | rfl | rfl
      · go_wp2_with fail
        go_loopw [2] (fun i wr' => ∃ n : Int, -1 ≤ n ∧ n ≤ 1003 ∧ i = .int .i64 n ∧ After w wr') (fun i _ => (1003 - intOf i).toNat)
        case atStart => exact ⟨-1, by decide, by decide, rfl, HA.out⟩
        case round =>
          obtain ⟨n, hn1, hn2, rfl, af2⟩ := hrel
          have HA2 := hideIt af2
          clear af2
          by_cases hn : n < 1003
          · have nw : IntKind.i64.wrap (n + 1) = n + 1 := IntWalk.i64_in _ (by omega)
            go_wp2_with fail
            all_goals
              first
              | refine (check2 _ _ _ _ (by unfold MayF MayK L9.May L10.May L11.May L12.May L13.May; omega)).mono ?_
              | refine (check0 _ _ _ _ (by unfold MayF MayK L9.May L10.May L11.May L12.May L13.May; omega)).mono ?_
            all_goals
              rintro e w1 ⟨rfl, a1⟩
              have HB := hideIt (HA2.out.trans a1)
              clear a1
              go_wp2_with fail
              go_roundw
              case rel => exact ⟨_, by omega, by omega, rfl, HB.out⟩
              case measure => simp [intOf]; omega
          · go_wp2_with fail
            go_roundw
            case rel => exact ⟨_, by omega, by omega, rfl, HA2.out⟩
            case measure => simp [intOf]
      · go_wp2_with fail
        go_loopw [2] (fun i wr' => ∃ n : Int, -1 ≤ n ∧ n ≤ 1003 ∧ i = .int .i64 n ∧ After w wr') (fun i _ => (1003 - intOf i).toNat)
        case atStart => exact ⟨-1, by decide, by decide, rfl, HA.out⟩
        case round =>
          obtain ⟨n, hn1, hn2, rfl, af2⟩ := hrel
          have HA2 := hideIt af2
          clear af2
          by_cases hn : n < 1003
          · have nw : IntKind.i64.wrap (n + 1) = n + 1 := IntWalk.i64_in _ (by omega)
            by_cases hz : n = 0
            · subst hz
              clear hn1 hn2 hn nw
              go_wp2_with fail
              all_goals
                first
                | refine (check2 _ _ _ _ (by unfold MayF MayK L9.May L10.May L11.May L12.May L13.May; omega)).mono ?_
                | refine (check0 _ _ _ _ (by unfold MayF MayK L9.May L10.May L11.May L12.May L13.May; omega)).mono ?_
              all_goals
                rintro e w1 ⟨rfl, a1⟩
                have HB := hideIt (HA2.out.trans a1)
                clear a1
                go_wp2_with fail
                go_roundw
                case rel => exact ⟨_, by omega, by omega, rfl, HB.out⟩
                case measure => simp [intOf]
            · go_wp2_with fail
              all_goals
                first
                | refine (check2 _ _ _ _ (by unfold MayF MayK L9.May L10.May L11.May L12.May L13.May; omega)).mono ?_
                | refine (check0 _ _ _ _ (by unfold MayF MayK L9.May L10.May L11.May L12.May L13.May; omega)).mono ?_
              all_goals
                rintro e w1 ⟨rfl, a1⟩
                have HB := hideIt (HA2.out.trans a1)
                clear a1
                go_wp2_with fail
                go_roundw
                case rel => exact ⟨_, by omega, by omega, rfl, HB.out⟩
                case measure => simp [intOf]; omega
          · go_wp2_with fail
            go_roundw
            case rel => exact ⟨_, by omega, by omega, rfl, HA2.out⟩
            case measure => simp [intOf]
      · go_wp2_with fail
        go_loopw [2] (fun i wr' => ∃ n : Int, -1 ≤ n ∧ n ≤ 1003 ∧ i = .int .i64 n ∧ After w wr') (fun i _ => (1003 - intOf i).toNat)
        case atStart => exact ⟨-1, by decide, by decide, rfl, HA.out⟩
        case round =>
          obtain ⟨n, hn1, hn2, rfl, af2⟩ := hrel
          have HA2 := hideIt af2
          clear af2
          by_cases hn : n < 1003
          · have nw : IntKind.i64.wrap (n + 1) = n + 1 := IntWalk.i64_in _ (by omega)
            have hm : 0 ≤ n → Int.tmod n 2 = n % 2 := fun h => Int.tmod_eq_emod_of_nonneg h
            go_wp2_with fail
            all_goals
              first
              | refine (check2 _ _ _ _ (by unfold MayF MayK L9.May L10.May L11.May L12.May L13.May; omega)).mono ?_
              | refine (check0 _ _ _ _ (by unfold MayF MayK L9.May L10.May L11.May L12.May L13.May; omega)).mono ?_
            all_goals
              rintro e w1 ⟨rfl, a1⟩
              have HB := hideIt (HA2.out.trans a1)
              clear a1
              go_wp2_with fail
              go_roundw
              case rel => exact ⟨_, by omega, by omega, rfl, HB.out⟩
              case measure => simp [intOf]; omega
          · go_wp2_with fail
            go_roundw
            case rel => exact ⟨_, by omega, by omega, rfl, HA2.out⟩
            case measure => simp [intOf]
      · go_wp2_with fail
        go_loopw [2] (fun i wr' => ∃ n : Int, -1 ≤ n ∧ n ≤ 1003 ∧ i = .int .i64 n ∧ After w wr') (fun i _ => (1003 - intOf i).toNat)
        case atStart => exact ⟨-1, by decide, by decide, rfl, HA.out⟩
        case round =>
          obtain ⟨n, hn1, hn2, rfl, af2⟩ := hrel
          have HA2 := hideIt af2
          clear af2
          by_cases hn : n < 1003
          · have nw : IntKind.i64.wrap (n + 1) = n + 1 := IntWalk.i64_in _ (by omega)
            go_wp2_with fail
            all_goals
              first
              | refine (check2 _ _ _ _ (by unfold MayF MayK L9.May L10.May L11.May L12.May L13.May; omega)).mono ?_
              | refine (check0 _ _ _ _ (by unfold MayF MayK L9.May L10.May L11.May L12.May L13.May; omega)).mono ?_
            all_goals
              rintro e w1 ⟨rfl, a1⟩
              have HB := hideIt (HA2.out.trans a1)
              clear a1
              go_wp2_with fail
              go_roundw
              case rel => exact ⟨_, by omega, by omega, rfl, HB.out⟩
              case measure => simp [intOf]; omega
          · go_wp2_with fail
            go_roundw
            case rel => exact ⟨_, by omega, by omega, rfl, HA2.out⟩
            case measure => simp [intOf]
      · go_wp2_with fail
        go_loopw [2] (fun i wr' => ∃ n : Int, -1 ≤ n ∧ n ≤ 1003 ∧ i = .int .i64 n ∧ After w wr') (fun i _ => (1003 - intOf i).toNat)
        case atStart => exact ⟨-1, by decide, by decide, rfl, HA.out⟩
        case round =>
          obtain ⟨n, hn1, hn2, rfl, af2⟩ := hrel
          have HA2 := hideIt af2
          clear af2
          by_cases hn : n < 1003
          · have nw : IntKind.i64.wrap (n + 1) = n + 1 := IntWalk.i64_in _ (by omega)
            go_wp2_with fail
            all_goals
              first
              | refine (check2 _ _ _ _ (by unfold MayF MayK L9.May L10.May L11.May L12.May L13.May; omega)).mono ?_
              | refine (check0 _ _ _ _ (by unfold MayF MayK L9.May L10.May L11.May L12.May L13.May; omega)).mono ?_
            all_goals
              rintro e w1 ⟨rfl, a1⟩
              have HB := hideIt (HA2.out.trans a1)
              clear a1
              go_wp2_with fail
              go_roundw
              case rel => exact ⟨_, by omega, by omega, rfl, HB.out⟩
              case measure => simp [intOf]; omega
          · go_wp2_with fail
            go_roundw
            case rel => exact ⟨_, by omega, by omega, rfl, HA2.out⟩
            case measure => simp [intOf]
      · go_wp2_with fail
        go_loopw [2] (fun i wr' => ∃ n : Int, -1 ≤ n ∧ n ≤ 1003 ∧ i = .int .i64 n ∧ After w wr') (fun i _ => (1003 - intOf i).toNat)
        case atStart => exact ⟨-1, by decide, by decide, rfl, HA.out⟩
        case round =>
          obtain ⟨n, hn1, hn2, rfl, af2⟩ := hrel
          have HA2 := hideIt af2
          clear af2
          by_cases hn : n < 1003
          · have nw : IntKind.i64.wrap (n + 1) = n + 1 := IntWalk.i64_in _ (by omega)
            by_cases h8 : n ≤ 8
            all_goals
              go_wp2_with fail
              all_goals
                first
                | refine (check2 _ _ _ _ (by unfold MayF MayK L9.May L10.May L11.May L12.May L13.May; omega)).mono ?_
                | refine (check0 _ _ _ _ (by unfold MayF MayK L9.May L10.May L11.May L12.May L13.May; omega)).mono ?_
              all_goals
                rintro e w1 ⟨rfl, a1⟩
                have HB := hideIt (HA2.out.trans a1)
                clear a1
                go_wp2_with fail
                go_roundw
                case rel => exact ⟨_, by omega, by omega, rfl, HB.out⟩
                case measure => simp [intOf]; omega
          · go_wp2_with fail
            go_roundw
            case rel => exact ⟨_, by omega, by omega, rfl, HA2.out⟩
            case measure => simp [intOf]
      · go_wp2_with fail
        go_loopw [2] (fun i wr' => ∃ n : Int, -1 ≤ n ∧ n ≤ 1003 ∧ i = .int .i64 n ∧ After w wr') (fun i _ => (1003 - intOf i).toNat)
        case atStart => exact ⟨-1, by decide, by decide, rfl, HA.out⟩
        case round =>
          obtain ⟨n, hn1, hn2, rfl, af2⟩ := hrel
          have HA2 := hideIt af2
          clear af2
          by_cases hn : n < 1003
          · have nw : IntKind.i64.wrap (n + 1) = n + 1 := IntWalk.i64_in _ (by omega)
            go_wp2_with fail
            all_goals
              first
              | refine (check2 _ _ _ _ (by unfold MayF MayK L9.May L10.May L11.May L12.May L13.May; omega)).mono ?_
              | refine (check0 _ _ _ _ (by unfold MayF MayK L9.May L10.May L11.May L12.May L13.May; omega)).mono ?_
            all_goals
              rintro e w1 ⟨rfl, a1⟩
              have HB := hideIt (HA2.out.trans a1)
              clear a1
              go_wp2_with fail
              go_roundw
              case rel => exact ⟨_, by omega, by omega, rfl, HB.out⟩
              case measure => simp [intOf]; omega
          · go_wp2_with fail
            go_roundw
            case rel => exact ⟨_, by omega, by omega, rfl, HA2.out⟩
            case measure => simp [intOf]
      · go_wp2_with fail
        go_loopw [2] (fun i wr' => ∃ n : Int, -1 ≤ n ∧ n ≤ 1003 ∧ i = .int .i64 n ∧ After w wr') (fun i _ => (1003 - intOf i).toNat)
        case atStart => exact ⟨-1, by decide, by decide, rfl, HA.out⟩
        case round =>
          obtain ⟨n, hn1, hn2, rfl, af2⟩ := hrel
          have HA2 := hideIt af2
          clear af2
          by_cases hn : n < 1003
          · have nw : IntKind.i64.wrap (n + 1) = n + 1 := IntWalk.i64_in _ (by omega)
            go_wp2_with fail
            all_goals
              first
              | refine (check2 _ _ _ _ (by unfold MayF MayK L9.May L10.May L11.May L12.May L13.May; omega)).mono ?_
              | refine (check0 _ _ _ _ (by unfold MayF MayK L9.May L10.May L11.May L12.May L13.May; omega)).mono ?_
            all_goals
              rintro e w1 ⟨rfl, a1⟩
              have HB := hideIt (HA2.out.trans a1)
              clear a1
              go_wp2_with fail
              go_roundw
              case rel => exact ⟨_, by omega, by omega, rfl, HB.out⟩
              case measure => simp [intOf]; omega
          · go_wp2_with fail
            go_roundw
            case rel => exact ⟨_, by omega, by omega, rfl, HA2.out⟩
            case measure => simp [intOf]
    · clear hk1 hk2
      go_wp2_with fail
      refine (check2 _ _ _ _ (by unfold MayF MayK L9.May L10.May L11.May L12.May L13.May; omega)).mono ?_
      rintro e w1 ⟨rfl, a1⟩
      have HB1 := hideIt (HA.out.trans a1)
      clear a1
      go_wp2_with fail
      refine (check0 _ _ _ _ (by unfold MayF MayK L9.May L10.May L11.May L12.May L13.May; omega)).mono ?_
      rintro e w2 ⟨rfl, a2⟩
      have HB2 := hideIt (HB1.out.trans a2)
      clear a2
      go_wp2_with fail
      refine (check0 _ _ _ _ (by unfold MayF MayK L9.May L10.May L11.May L12.May L13.May; omega)).mono ?_
      rintro e w3 ⟨rfl, a3⟩
      have HB3 := hideIt (HB2.out.trans a3)
      clear a3
      go_wp2_with fail
      refine (check2 _ _ _ _ (by unfold MayF MayK L9.May L10.May L11.May L12.May L13.May; omega)).mono ?_
      rintro e w4 ⟨rfl, a4⟩
      have HB4 := hideIt (HB3.out.trans a4)
      clear a4 HB1 HB2 HB3 HA
      go_wp2_with fail
      have HNo : Hid (∀ W, Calls Try.prog 13 #[.agg #[.int .i64 1, .int .i64 4, .int .i64 5]] W fun e w' => e = .returned (.tuple #[.pointer none, .int .i64 2]) ∧ After W w') := hideIt (fun W => filterNew_no W 1 4 5 (by unfold MayF MayK L9.May L10.May L11.May L12.May L13.May; omega))
      have HOk : Hid (∀ W, Calls Try.prog 13 #[.agg #[.int .i64 0, .int .i64 0, .int .i64 5]] W fun e w' => ∃ p S, e = .returned (.tuple #[Ptr p, .int .i64 0]) ∧ Tk w' p S ⟨0, 0, 5⟩ Ts.new ∧ (∀ i, S i → W.heap.size ≤ i) ∧ After W w') := hideIt (fun W => filterNew_ok W ⟨0, 0, 5⟩ ok6)
      refine (HNo.out _).mono ?_
      rintro e w5 ⟨rfl, a5⟩
      have HB5 := hideIt (HB4.out.trans a5)
      clear a5 HB4 HNo
      go_wp2_with fail
      refine (stepT_none (.inl rfl) _ _ _ _).mono ?_
      rintro e w6 ⟨rfl, a6⟩
      have hz := nth_blk a6 rfl
      have HB6 := hideIt (And.intro hz ((HB5.out.alloc _).trans a6))
      clear a6 HB5 hz
      go_wp2_with fail
      generalize hw7 : World.alloc w6 _ = w7
      have HB7 := hideIt (And.intro (show _ from hw7 ▸ old_blk (After.rfl.alloc _) HB6.out.1) (show After w w7 from hw7 ▸ HB6.out.2.alloc _))
      clear hw7
      refine (stepT_none (.inr ⟨_, _, _, _, _, _, _, _, rfl, HB7.out.1⟩) _ _ _ _).mono ?_
      rintro e w8 ⟨rfl, a8⟩
      have HB8 := hideIt (HB7.out.2.trans a8)
      clear a8 HB6 HB7
      go_wp2_with fail
      generalize hw9 : World.alloc w8 _ = w9
      have HB9 := hideIt (show After w w9 from hw9 ▸ HB8.out.alloc _)
      clear hw9 HB8
      refine (HOk.out _).mono ?_
      rintro e w10 ⟨p, S, rfl, tk, hS, a10⟩
      have HK0 : Hid (Kst w p ⟨0, 0, 5⟩ 0 w10) := hideIt ⟨S, Ts.new, tk, fun i hi => Nat.le_trans HB9.out.size (hS i hi), HB9.out.trans a10, rfl⟩
      clear tk hS a10 HB9 HOk
      go_wp2_with fail
      refine (HK0.out.stepNil 7 0 8 errK0 rfl).mono ?_
      rintro e x0 ⟨r0, v0, rfl, hk0⟩
      have HK0' := hideIt hk0
      clear hk0 HK0
      go_wp2_with fail
      generalize hy0 : World.alloc x0 _ = y0
      have HK1 := hideIt (hy0 ▸ HK0'.out.after (After.rfl.alloc _))
      clear hy0 HK0'
      refine (HK1.out.stepNil 7 9 8 errK1 rfl).mono ?_
      rintro e x1 ⟨r1, v1, rfl, hk1⟩
      have HK1' := hideIt hk1
      clear hk1 HK1
      go_wp2_with fail
      generalize hy1 : World.alloc x1 _ = y1
      have HK2 := hideIt (hy1 ▸ HK1'.out.after (After.rfl.alloc _))
      clear hy1 HK1'
      refine (HK2.out.stepNil 6 9 8 errK2 rfl).mono ?_
      rintro e x2 ⟨r2, v2, rfl, hk2⟩
      have HK2' := hideIt hk2
      clear hk2 HK2
      go_wp2_with fail
      generalize hy2 : World.alloc x2 _ = y2
      have HK3 := hideIt (hy2 ▸ HK2'.out.after (After.rfl.alloc _))
      clear hy2 HK2'
      refine (HK3.out.stepNil 2147483648 9 8 errK3 rfl).mono ?_
      rintro e x3 ⟨r3, v3, rfl, hk3⟩
      have HK3' := hideIt hk3
      clear hk3 HK3
      have hmk := make64
      go_wp2_with fail
      clear hmk
      generalize hy3 : World.alloc x3 _ = y3
      have HK4 := hideIt (hy3 ▸ HK3'.out.after (After.rfl.alloc _))
      have hs3 : Hid (y3.heap.size = x3.heap.size + 1) := hideIt <| by rw [← hy3]; simp
      clear hy3 HK3'
      refine (HK4.out.stepNew hs3.out 8 (zeros 64) 64 rfl (rls (zeros 64)).toArray rfl 0 9 errK4 rfl).mono ?_
      rintro e x4 ⟨r4, v4, rfl, hk4⟩
      have HK4' := hideIt hk4
      clear hk4 HK4
      have hmk := make65
      go_wp2_with fail
      clear hmk
      generalize hy4 : World.alloc x4 _ = y4
      have HK5 := hideIt (hy4 ▸ HK4'.out.after (After.rfl.alloc _))
      have hs4 : Hid (y4.heap.size = x4.heap.size + 1) := hideIt <| by rw [← hy4]; simp
      clear hy4 HK4'
      refine (HK5.out.stepNew hs4.out 9 (zeros 65) 65 rfl (rls (zeros 65)).toArray rfl 6 9 errK5 rfl).mono ?_
      rintro e x5 ⟨r5, v5, rfl, hk5⟩
      have HK5' := hideIt hk5
      clear hk5 HK5
      go_wp2_with fail
      generalize hy5 : World.alloc x5 _ = y5
      have HK6 := hideIt (hy5 ▸ HK5'.out.after (After.rfl.alloc _))
      have hs5 : Hid (y5.heap.size = x5.heap.size + 1) := hideIt <| by rw [← hy5]; simp
      clear hy5 HK5'
      refine (HK6.out.stepNew hs5.out 9 [⟨0, 8388606, 0⟩] 1 rfl #[.int .i64 0, .int .i64 8388606, .int .i64 0] rfl 2 9 errK6 rfl).mono ?_
      rintro e x6 ⟨r6, v6, rfl, hk6⟩
      have HK6' := hideIt hk6
      clear hk6 HK6
      go_wp2_with fail
      generalize hy6 : World.alloc x6 _ = y6
      have HK7 := hideIt (hy6 ▸ HK6'.out.after (After.rfl.alloc _))
      clear hy6 HK6'
      refine (whole_any _ _).mono ?_
      rintro e w' ⟨rfl, rfl⟩
      go_wp2_with fail
      refine (whole_any _ _).mono ?_
      rintro e w' ⟨rfl, rfl⟩
      go_wp2_with fail
      refine (whole_any _ _).mono ?_
      rintro e w' ⟨rfl, rfl⟩
      go_wp2_with fail
      generalize hW : (((((((y6.alloc _).alloc _).alloc _).alloc _).alloc _).alloc _).alloc _) = W1
      have rH1 := wk4_row (w := W1) (g0 := y6.heap.size + 1) (g1 := y6.heap.size + 1 + 1 + 1) (g2 := y6.heap.size + 1 + 1 + 1 + 1 + 1) (g := y6.heap.size + 1 + 1 + 1 + 1 + 1 + 1) (by rw [← hW]; exact nth_blk ((((((After.rfl.alloc _).alloc _).alloc _).alloc _).alloc _)) (by simp)) (by rw [← hW]; exact nth_blk ((((After.rfl.alloc _).alloc _).alloc _)) (by simp)) (by rw [← hW]; exact nth_blk ((After.rfl.alloc _)) (by simp)) (by rw [← hW]; exact nth_blk (After.rfl) (by simp))
      have aH1 : After y6 W1 := by rw [← hW]; exact (((((((After.rfl.alloc _).alloc _).alloc _).alloc _).alloc _).alloc _).alloc _)
      have H1 := hideIt (And.intro rH1 (HK7.out.aft.trans aH1))
      clear hW rH1 aH1 HK7
      go_wp2_with fail
      refine (works_any _).mono ?_
      rintro e w11 ⟨rfl, a11⟩
      have H2 := hideIt (And.intro (H1.out.1.after a11) (H1.out.2.trans a11))
      clear a11 H1
      go_wp2_with fail
      refine (are4 H2.out.1).mono ?_
      rintro e w12 ⟨rfl, a12⟩
      have H3 := hideIt (And.intro (H2.out.1.after a12) (H2.out.2.trans a12))
      clear a12 H2
      go_wp2_with fail
      refine (are5 H3.out.1).mono ?_
      rintro e w13 ⟨rfl, a13⟩
      have H4 := hideIt (H3.out.2.trans a13)
      clear a13 H3
      go_wp2_with fail
      go_ret
      exact ⟨rfl, H4.out⟩
end Go.Proofs.Ytgapnimicaopcaa
