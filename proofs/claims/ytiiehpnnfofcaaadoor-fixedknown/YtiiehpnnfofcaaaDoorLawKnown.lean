/-
  The walk of the closed statement FixedKnown: it answers true.
-/
import Derived.Test.YtiiehpnnfofcaaaDoorKnown2
namespace Go.Proofs.YtiiehpnnfofcaaaDoor
open Go.RowKit
set_option maxRecDepth 100000 in
set_option maxHeartbeats 16000000 in
theorem known_any (w : World) (ht : Tab w) :
    Calls Tryd.prog 8 #[] w fun e w' => e = .returned (.bool true) ∧ After w w' := by
  have HT := hideIt ht
  clear ht
  obtain ⟨i0, hi, hz0, hz1, hz2⟩ := info_parts info3
  go_enter Tryd.func8, Tryd.ntmps8
  go_wp2_with fail
  refine (k_add1 _).mono ?_
  rintro e w' ⟨rfl, rfl⟩
  go_wp2_with fail
  refine (k_sub1 _).mono ?_
  rintro e w' ⟨rfl, rfl⟩
  go_wp2_with fail
  refine (k_cl1 _).mono ?_
  rintro e w' ⟨rfl, rfl⟩
  go_wp2_with fail
  refine (k_add2 _).mono ?_
  rintro e w' ⟨rfl, rfl⟩
  go_wp2_with fail
  refine (k_sub2 _).mono ?_
  rintro e w' ⟨rfl, rfl⟩
  go_wp2_with fail
  refine (k_cl2 _).mono ?_
  rintro e w' ⟨rfl, rfl⟩
  go_wp2_with fail
  refine (k_cl3 _).mono ?_
  rintro e w' ⟨rfl, rfl⟩
  go_wp2_with fail
  refine (k_mul1 _).mono ?_
  rintro e w' ⟨rfl, n0, rfl⟩
  go_wp2_with fail
  refine (k_mul2 _).mono ?_
  rintro e w' ⟨rfl, n1, rfl⟩
  go_wp2_with fail
  refine (k_mul3 _).mono ?_
  rintro e w' ⟨rfl, n2, rfl⟩
  go_wp2_with fail
  refine (k_mul4 _).mono ?_
  rintro e w' ⟨rfl, n3, rfl⟩
  go_wp2_with fail
  refine (k_mul5 _).mono ?_
  rintro e w' ⟨rfl, n4, rfl⟩
  go_wp2
  go_loopw [3, 77] (fun got i wr => ∃ k : Nat, k ≤ 7 ∧ i = .int .i64 k ∧ wr.ownsRow (w'.heap.size + 1) 3 1 got (2 * k) (vals (res1.take (2 * k))) ∧ After w' wr ∧ w'.heap.size + 1 ≤ wr.heap.size ∧ ∀ j, j < 14 → wr.cell? ⟨w'.heap.size, j, none⟩ = some (tab1 j))
    (fun _ i _ => 7 - (intOf i).toNat)
  case atStart =>
    refine ⟨0, by decide, rfl, World.ownsRow_nil _ _ _ _, After.alloc (After.draws After.rfl _) _, by simp, ?_⟩
    intro j hj
    rw [cell_drawn _ _ _ _ _ rfl]
    have hj' : j = 0 ∨ j = 1 ∨ j = 2 ∨ j = 3 ∨ j = 4 ∨ j = 5 ∨ j = 6 ∨ j = 7 ∨ j = 8 ∨ j = 9 ∨ j = 10 ∨ j = 11 ∨ j = 12 ∨ j = 13 := by omega
    clear hj
    rcases hj' with rfl | rfl | rfl | rfl | rfl | rfl | rfl | rfl | rfl | rfl | rfl | rfl | rfl | rfl <;> rfl
  case round =>
    obtain ⟨k, hk, rfl, hown, hb, hsz, hcell⟩ := hrel
    have HC := hideIt hcell
    have HB := hideIt hb
    have HOWN := hideIt hown
    clear hcell hb hown
    have hk' : k = 0 ∨ k = 1 ∨ k = 2 ∨ k = 3 ∨ k = 4 ∨ k = 5 ∨ k = 6 ∨ k = 7 := by omega
    clear hk
    rcases hk' with rfl | rfl | rfl | rfl | rfl | rfl | rfl | rfl
    · have c0 : wr.cell? ⟨w'.heap.size, 0, none⟩ = some (.int .i64 (1000)) := HC.out 0 (by decide)
      have c1 : wr.cell? ⟨w'.heap.size, 1, none⟩ = some (.int .i64 (3000)) := HC.out 1 (by decide)
      go_wp2_with fail
      refine (k_div0 _).mono ?_
      rintro e w1 ⟨rfl, m, rfl⟩
      go_wp2_with (at_builtin; refine wpList_append_own _ rfl (.tmp 89) (.tmp 92) 33 rfl (w'.heap.size + 1) 3 i0 (.int .i64 0) 1 8 Tryd.underlying33 hi hz0 hz1 hz2 rfl (by decide) _ _ _ rfl (own_after HOWN.out (After.alloc (After.draws (After.alloc After.rfl _) _) _)) ⟨wr.heap.size + 1, 0, none⟩ 2 2 [.int .i64 (333), .int .i64 (0)] rfl rfl (two_drawn _ _ _ _ (by simp)) (two_one _ _) (by decide) (by decide) (by simp; omega) ?_)
      intro v2 w2 hown2 hgrow2 _
      have HR := hideIt (loop_rel HB.out (Nat.le_refl _) hsz HC.out HOWN.out (After.alloc (After.draws (After.alloc After.rfl _) _) _) hgrow2)
      have HO2 := hideIt hown2
      clear hown2 hgrow2
      go_wp2
      go_roundw
      case rel => exact ⟨1, by decide, rfl, HO2.out, HR.out.1, HR.out.2.1, HR.out.2.2⟩
      case measure => decide
    · have c0 : wr.cell? ⟨w'.heap.size, 2, none⟩ = some (.int .i64 (-1)) := HC.out 2 (by decide)
      have c1 : wr.cell? ⟨w'.heap.size, 3, none⟩ = some (.int .i64 (2000)) := HC.out 3 (by decide)
      go_wp2_with fail
      refine (k_div1 _).mono ?_
      rintro e w1 ⟨rfl, m, rfl⟩
      go_wp2_with (at_builtin; refine wpList_append_own _ rfl (.tmp 89) (.tmp 92) 33 rfl (w'.heap.size + 1) 3 i0 (.int .i64 0) 1 8 Tryd.underlying33 hi hz0 hz1 hz2 rfl (by decide) _ _ _ rfl (own_after HOWN.out (After.alloc (After.draws (After.alloc After.rfl _) _) _)) ⟨wr.heap.size + 1, 0, none⟩ 2 2 [.int .i64 (-1), .int .i64 (0)] rfl rfl (two_drawn _ _ _ _ (by simp)) (two_one _ _) (by decide) (by decide) (by simp; omega) ?_)
      intro v2 w2 hown2 hgrow2 _
      have HR := hideIt (loop_rel HB.out (Nat.le_refl _) hsz HC.out HOWN.out (After.alloc (After.draws (After.alloc After.rfl _) _) _) hgrow2)
      have HO2 := hideIt hown2
      clear hown2 hgrow2
      go_wp2
      go_roundw
      case rel => exact ⟨2, by decide, rfl, HO2.out, HR.out.1, HR.out.2.1, HR.out.2.2⟩
      case measure => decide
    · have c0 : wr.cell? ⟨w'.heap.size, 4, none⟩ = some (.int .i64 (5)) := HC.out 4 (by decide)
      have c1 : wr.cell? ⟨w'.heap.size, 5, none⟩ = some (.int .i64 (0)) := HC.out 5 (by decide)
      go_wp2_with fail
      refine (k_div2 _).mono ?_
      rintro e w1 ⟨rfl, m, rfl⟩
      go_wp2_with (at_builtin; refine wpList_append_own _ rfl (.tmp 89) (.tmp 92) 33 rfl (w'.heap.size + 1) 3 i0 (.int .i64 0) 1 8 Tryd.underlying33 hi hz0 hz1 hz2 rfl (by decide) _ _ _ rfl (own_after HOWN.out (After.alloc (After.draws (After.alloc After.rfl _) _) _)) ⟨wr.heap.size + 1, 0, none⟩ 2 2 [.int .i64 (0), .int .i64 (9)] rfl rfl (two_drawn _ _ _ _ (by simp)) (two_one _ _) (by decide) (by decide) (by simp; omega) ?_)
      intro v2 w2 hown2 hgrow2 _
      have HR := hideIt (loop_rel HB.out (Nat.le_refl _) hsz HC.out HOWN.out (After.alloc (After.draws (After.alloc After.rfl _) _) _) hgrow2)
      have HO2 := hideIt hown2
      clear hown2 hgrow2
      go_wp2
      go_roundw
      case rel => exact ⟨3, by decide, rfl, HO2.out, HR.out.1, HR.out.2.1, HR.out.2.2⟩
      case measure => decide
    · have c0 : wr.cell? ⟨w'.heap.size, 6, none⟩ = some (.int .i64 (2147483647)) := HC.out 6 (by decide)
      have c1 : wr.cell? ⟨w'.heap.size, 7, none⟩ = some (.int .i64 (1)) := HC.out 7 (by decide)
      go_wp2_with fail
      refine (k_div3 _).mono ?_
      rintro e w1 ⟨rfl, m, rfl⟩
      go_wp2_with (at_builtin; refine wpList_append_own _ rfl (.tmp 89) (.tmp 92) 33 rfl (w'.heap.size + 1) 3 i0 (.int .i64 0) 1 8 Tryd.underlying33 hi hz0 hz1 hz2 rfl (by decide) _ _ _ rfl (own_after HOWN.out (After.alloc (After.draws (After.alloc After.rfl _) _) _)) ⟨wr.heap.size + 1, 0, none⟩ 2 2 [.int .i64 (2147483647), .int .i64 (0)] rfl rfl (two_drawn _ _ _ _ (by simp)) (two_one _ _) (by decide) (by decide) (by simp; omega) ?_)
      intro v2 w2 hown2 hgrow2 _
      have HR := hideIt (loop_rel HB.out (Nat.le_refl _) hsz HC.out HOWN.out (After.alloc (After.draws (After.alloc After.rfl _) _) _) hgrow2)
      have HO2 := hideIt hown2
      clear hown2 hgrow2
      go_wp2
      go_roundw
      case rel => exact ⟨4, by decide, rfl, HO2.out, HR.out.1, HR.out.2.1, HR.out.2.2⟩
      case measure => decide
    · have c0 : wr.cell? ⟨w'.heap.size, 8, none⟩ = some (.int .i64 (-9223372036854775808)) := HC.out 8 (by decide)
      have c1 : wr.cell? ⟨w'.heap.size, 9, none⟩ = some (.int .i64 (9223372036854775807)) := HC.out 9 (by decide)
      go_wp2_with fail
      refine (k_div4 _).mono ?_
      rintro e w1 ⟨rfl, m, rfl⟩
      go_wp2_with (at_builtin; refine wpList_append_own _ rfl (.tmp 89) (.tmp 92) 33 rfl (w'.heap.size + 1) 3 i0 (.int .i64 0) 1 8 Tryd.underlying33 hi hz0 hz1 hz2 rfl (by decide) _ _ _ rfl (own_after HOWN.out (After.alloc (After.draws (After.alloc After.rfl _) _) _)) ⟨wr.heap.size + 1, 0, none⟩ 2 2 [.int .i64 (-1000), .int .i64 (0)] rfl rfl (two_drawn _ _ _ _ (by simp)) (two_one _ _) (by decide) (by decide) (by simp; omega) ?_)
      intro v2 w2 hown2 hgrow2 _
      have HR := hideIt (loop_rel HB.out (Nat.le_refl _) hsz HC.out HOWN.out (After.alloc (After.draws (After.alloc After.rfl _) _) _) hgrow2)
      have HO2 := hideIt hown2
      clear hown2 hgrow2
      go_wp2
      go_roundw
      case rel => exact ⟨5, by decide, rfl, HO2.out, HR.out.1, HR.out.2.1, HR.out.2.2⟩
      case measure => decide
    · have c0 : wr.cell? ⟨w'.heap.size, 10, none⟩ = some (.int .i64 (1)) := HC.out 10 (by decide)
      have c1 : wr.cell? ⟨w'.heap.size, 11, none⟩ = some (.int .i64 (-2000)) := HC.out 11 (by decide)
      go_wp2_with fail
      refine (k_div5 _).mono ?_
      rintro e w1 ⟨rfl, m, rfl⟩
      go_wp2_with (at_builtin; refine wpList_append_own _ rfl (.tmp 89) (.tmp 92) 33 rfl (w'.heap.size + 1) 3 i0 (.int .i64 0) 1 8 Tryd.underlying33 hi hz0 hz1 hz2 rfl (by decide) _ _ _ rfl (own_after HOWN.out (After.alloc (After.draws (After.alloc After.rfl _) _) _)) ⟨wr.heap.size + 1, 0, none⟩ 2 2 [.int .i64 (-1), .int .i64 (0)] rfl rfl (two_drawn _ _ _ _ (by simp)) (two_one _ _) (by decide) (by decide) (by simp; omega) ?_)
      intro v2 w2 hown2 hgrow2 _
      have HR := hideIt (loop_rel HB.out (Nat.le_refl _) hsz HC.out HOWN.out (After.alloc (After.draws (After.alloc After.rfl _) _) _) hgrow2)
      have HO2 := hideIt hown2
      clear hown2 hgrow2
      go_wp2
      go_roundw
      case rel => exact ⟨6, by decide, rfl, HO2.out, HR.out.1, HR.out.2.1, HR.out.2.2⟩
      case measure => decide
    · have c0 : wr.cell? ⟨w'.heap.size, 12, none⟩ = some (.int .i64 (0)) := HC.out 12 (by decide)
      have c1 : wr.cell? ⟨w'.heap.size, 13, none⟩ = some (.int .i64 (5)) := HC.out 13 (by decide)
      go_wp2_with fail
      refine (k_div6 _).mono ?_
      rintro e w1 ⟨rfl, m, rfl⟩
      go_wp2_with (at_builtin; refine wpList_append_own _ rfl (.tmp 89) (.tmp 92) 33 rfl (w'.heap.size + 1) 3 i0 (.int .i64 0) 1 8 Tryd.underlying33 hi hz0 hz1 hz2 rfl (by decide) _ _ _ rfl (own_after HOWN.out (After.alloc (After.draws (After.alloc After.rfl _) _) _)) ⟨wr.heap.size + 1, 0, none⟩ 2 2 [.int .i64 (0), .int .i64 (0)] rfl rfl (two_drawn _ _ _ _ (by simp)) (two_one _ _) (by decide) (by decide) (by simp; omega) ?_)
      intro v2 w2 hown2 hgrow2 _
      have HR := hideIt (loop_rel HB.out (Nat.le_refl _) hsz HC.out HOWN.out (After.alloc (After.draws (After.alloc After.rfl _) _) _) hgrow2)
      have HO2 := hideIt hown2
      clear hown2 hgrow2
      go_wp2
      go_roundw
      case rel => exact ⟨7, by decide, rfl, HO2.out, HR.out.1, HR.out.2.1, HR.out.2.2⟩
      case measure => decide
    · obtain ⟨W1, hW1⟩ : ∃ W, W = wr := ⟨wr, rfl⟩
      subst hW1
      obtain ⟨g, cap, hv⟩ := own_shape3 HOWN.out (by decide)
      have HOW := hideIt HOWN.out
      clear HOWN
      rw [hv] at HOW ⊢
      clear hv
      go_wp2_with fail
      refine (eqInts_same g W1.heap.size cap 14 14 (fun j => res1.getD j 0) _ (by decide) (own_cells rfl (own_after HOW.out (After.alloc After.rfl _))) (new_cells W1 res1 rfl rfl)).mono ?_
      rintro e w1 ⟨rfl, m1, rfl⟩
      have HA1 : Hid (After w' W1) := HB.out
      clear HOW HB HC hsz
      go_wp2
      go_loopw [3, 107] (fun got i wr => ∃ k : Nat, k ≤ 7 ∧ i = .int .i64 k ∧ wr.ownsRow (W1.heap.size + 1 + 1) 3 1 got (2 * k) (vals (res2.take (2 * k))) ∧ After W1 wr ∧ W1.heap.size + 1 + 1 ≤ wr.heap.size ∧ ∀ j, j < 21 → wr.cell? ⟨W1.heap.size + 1, j, none⟩ = some (tab2 j))
        (fun _ i _ => 7 - (intOf i).toNat)
      case atStart =>
        refine ⟨0, by decide, rfl, World.ownsRow_nil _ _ _ _, After.alloc (After.draws (After.alloc After.rfl _) _) _, by simp, ?_⟩
        intro j hj
        rw [cell_drawn _ _ _ _ _ (by simp)]
        have hj' : j = 0 ∨ j = 1 ∨ j = 2 ∨ j = 3 ∨ j = 4 ∨ j = 5 ∨ j = 6 ∨ j = 7 ∨ j = 8 ∨ j = 9 ∨ j = 10 ∨ j = 11 ∨ j = 12 ∨ j = 13 ∨ j = 14 ∨ j = 15 ∨ j = 16 ∨ j = 17 ∨ j = 18 ∨ j = 19 ∨ j = 20 := by omega
        clear hj
        rcases hj' with rfl | rfl | rfl | rfl | rfl | rfl | rfl | rfl | rfl | rfl | rfl | rfl | rfl | rfl | rfl | rfl | rfl | rfl | rfl | rfl | rfl <;> rfl
      case round =>
        obtain ⟨k, hk, rfl, hown, hb, hsz, hcell⟩ := hrel
        have HC := hideIt hcell
        have HB := hideIt hb
        have HOWN := hideIt hown
        clear hcell hb hown
        have hk' : k = 0 ∨ k = 1 ∨ k = 2 ∨ k = 3 ∨ k = 4 ∨ k = 5 ∨ k = 6 ∨ k = 7 := by omega
        clear hk
        rcases hk' with rfl | rfl | rfl | rfl | rfl | rfl | rfl | rfl
        · have c0 : wr.cell? ⟨W1.heap.size + 1, 0, none⟩ = some (.int .i64 (7)) := HC.out 0 (by decide)
          have c1 : wr.cell? ⟨W1.heap.size + 1, 1, none⟩ = some (.int .i64 (1)) := HC.out 1 (by decide)
          have c2 : wr.cell? ⟨W1.heap.size + 1, 2, none⟩ = some (.int .i64 (2)) := HC.out 2 (by decide)
          go_wp2_with fail
          refine (k_sc0 _).mono ?_
          rintro e w1 ⟨rfl, m, rfl⟩
          go_wp2_with (at_builtin; refine wpList_append_own _ rfl (.tmp 121) (.tmp 124) 33 rfl (W1.heap.size + 1 + 1) 3 i0 (.int .i64 0) 1 8 Tryd.underlying33 hi hz0 hz1 hz2 rfl (by decide) _ _ _ rfl (own_after HOWN.out (After.alloc (After.draws (After.alloc After.rfl _) _) _)) ⟨wr.heap.size + 1, 0, none⟩ 2 2 [.int .i64 (4), .int .i64 (0)] rfl rfl (two_drawn _ _ _ _ (by simp)) (two_one _ _) (by decide) (by decide) (by simp; omega) ?_)
          intro v2 w2 hown2 hgrow2 _
          have HR := hideIt (loop_rel HB.out (by simp) hsz HC.out HOWN.out (After.alloc (After.draws (After.alloc After.rfl _) _) _) hgrow2)
          have HO2 := hideIt hown2
          clear hown2 hgrow2
          go_wp2
          go_roundw
          case rel => exact ⟨1, by decide, rfl, HO2.out, HR.out.1, HR.out.2.1, HR.out.2.2⟩
          case measure => decide
        · have c0 : wr.cell? ⟨W1.heap.size + 1, 3, none⟩ = some (.int .i64 (-7)) := HC.out 3 (by decide)
          have c1 : wr.cell? ⟨W1.heap.size + 1, 4, none⟩ = some (.int .i64 (1)) := HC.out 4 (by decide)
          have c2 : wr.cell? ⟨W1.heap.size + 1, 5, none⟩ = some (.int .i64 (2)) := HC.out 5 (by decide)
          go_wp2_with fail
          refine (k_sc1 _).mono ?_
          rintro e w1 ⟨rfl, m, rfl⟩
          go_wp2_with (at_builtin; refine wpList_append_own _ rfl (.tmp 121) (.tmp 124) 33 rfl (W1.heap.size + 1 + 1) 3 i0 (.int .i64 0) 1 8 Tryd.underlying33 hi hz0 hz1 hz2 rfl (by decide) _ _ _ rfl (own_after HOWN.out (After.alloc (After.draws (After.alloc After.rfl _) _) _)) ⟨wr.heap.size + 1, 0, none⟩ 2 2 [.int .i64 (-4), .int .i64 (0)] rfl rfl (two_drawn _ _ _ _ (by simp)) (two_one _ _) (by decide) (by decide) (by simp; omega) ?_)
          intro v2 w2 hown2 hgrow2 _
          have HR := hideIt (loop_rel HB.out (by simp) hsz HC.out HOWN.out (After.alloc (After.draws (After.alloc After.rfl _) _) _) hgrow2)
          have HO2 := hideIt hown2
          clear hown2 hgrow2
          go_wp2
          go_roundw
          case rel => exact ⟨2, by decide, rfl, HO2.out, HR.out.1, HR.out.2.1, HR.out.2.2⟩
          case measure => decide
        · have c0 : wr.cell? ⟨W1.heap.size + 1, 6, none⟩ = some (.int .i64 (1)) := HC.out 6 (by decide)
          have c1 : wr.cell? ⟨W1.heap.size + 1, 7, none⟩ = some (.int .i64 (1)) := HC.out 7 (by decide)
          have c2 : wr.cell? ⟨W1.heap.size + 1, 8, none⟩ = some (.int .i64 (0)) := HC.out 8 (by decide)
          go_wp2_with fail
          refine (k_sc2 _).mono ?_
          rintro e w1 ⟨rfl, m, rfl⟩
          go_wp2_with (at_builtin; refine wpList_append_own _ rfl (.tmp 121) (.tmp 124) 33 rfl (W1.heap.size + 1 + 1) 3 i0 (.int .i64 0) 1 8 Tryd.underlying33 hi hz0 hz1 hz2 rfl (by decide) _ _ _ rfl (own_after HOWN.out (After.alloc (After.draws (After.alloc After.rfl _) _) _)) ⟨wr.heap.size + 1, 0, none⟩ 2 2 [.int .i64 (0), .int .i64 (9)] rfl rfl (two_drawn _ _ _ _ (by simp)) (two_one _ _) (by decide) (by decide) (by simp; omega) ?_)
          intro v2 w2 hown2 hgrow2 _
          have HR := hideIt (loop_rel HB.out (by simp) hsz HC.out HOWN.out (After.alloc (After.draws (After.alloc After.rfl _) _) _) hgrow2)
          have HO2 := hideIt hown2
          clear hown2 hgrow2
          go_wp2
          go_roundw
          case rel => exact ⟨3, by decide, rfl, HO2.out, HR.out.1, HR.out.2.1, HR.out.2.2⟩
          case measure => decide
        · have c0 : wr.cell? ⟨W1.heap.size + 1, 9, none⟩ = some (.int .i64 (9223372036854775807)) := HC.out 9 (by decide)
          have c1 : wr.cell? ⟨W1.heap.size + 1, 10, none⟩ = some (.int .i64 (9223372036854775807)) := HC.out 10 (by decide)
          have c2 : wr.cell? ⟨W1.heap.size + 1, 11, none⟩ = some (.int .i64 (1)) := HC.out 11 (by decide)
          go_wp2_with fail
          refine (k_sc3 _).mono ?_
          rintro e w1 ⟨rfl, m, rfl⟩
          go_wp2_with (at_builtin; refine wpList_append_own _ rfl (.tmp 121) (.tmp 124) 33 rfl (W1.heap.size + 1 + 1) 3 i0 (.int .i64 0) 1 8 Tryd.underlying33 hi hz0 hz1 hz2 rfl (by decide) _ _ _ rfl (own_after HOWN.out (After.alloc (After.draws (After.alloc After.rfl _) _) _)) ⟨wr.heap.size + 1, 0, none⟩ 2 2 [.int .i64 (2147483647), .int .i64 (0)] rfl rfl (two_drawn _ _ _ _ (by simp)) (two_one _ _) (by decide) (by decide) (by simp; omega) ?_)
          intro v2 w2 hown2 hgrow2 _
          have HR := hideIt (loop_rel HB.out (by simp) hsz HC.out HOWN.out (After.alloc (After.draws (After.alloc After.rfl _) _) _) hgrow2)
          have HO2 := hideIt hown2
          clear hown2 hgrow2
          go_wp2
          go_roundw
          case rel => exact ⟨4, by decide, rfl, HO2.out, HR.out.1, HR.out.2.1, HR.out.2.2⟩
          case measure => decide
        · have c0 : wr.cell? ⟨W1.heap.size + 1, 12, none⟩ = some (.int .i64 (9223372036854775807)) := HC.out 12 (by decide)
          have c1 : wr.cell? ⟨W1.heap.size + 1, 13, none⟩ = some (.int .i64 (9223372036854775807)) := HC.out 13 (by decide)
          have c2 : wr.cell? ⟨W1.heap.size + 1, 14, none⟩ = some (.int .i64 (-9223372036854775808)) := HC.out 14 (by decide)
          go_wp2_with fail
          refine (k_sc4 _).mono ?_
          rintro e w1 ⟨rfl, m, rfl⟩
          go_wp2_with (at_builtin; refine wpList_append_own _ rfl (.tmp 121) (.tmp 124) 33 rfl (W1.heap.size + 1 + 1) 3 i0 (.int .i64 0) 1 8 Tryd.underlying33 hi hz0 hz1 hz2 rfl (by decide) _ _ _ rfl (own_after HOWN.out (After.alloc (After.draws (After.alloc After.rfl _) _) _)) ⟨wr.heap.size + 1, 0, none⟩ 2 2 [.int .i64 (-2147483647), .int .i64 (0)] rfl rfl (two_drawn _ _ _ _ (by simp)) (two_one _ _) (by decide) (by decide) (by simp; omega) ?_)
          intro v2 w2 hown2 hgrow2 _
          have HR := hideIt (loop_rel HB.out (by simp) hsz HC.out HOWN.out (After.alloc (After.draws (After.alloc After.rfl _) _) _) hgrow2)
          have HO2 := hideIt hown2
          clear hown2 hgrow2
          go_wp2
          go_roundw
          case rel => exact ⟨5, by decide, rfl, HO2.out, HR.out.1, HR.out.2.1, HR.out.2.2⟩
          case measure => decide
        · have c0 : wr.cell? ⟨W1.heap.size + 1, 15, none⟩ = some (.int .i64 (3)) := HC.out 15 (by decide)
          have c1 : wr.cell? ⟨W1.heap.size + 1, 16, none⟩ = some (.int .i64 (-1)) := HC.out 16 (by decide)
          have c2 : wr.cell? ⟨W1.heap.size + 1, 17, none⟩ = some (.int .i64 (-2)) := HC.out 17 (by decide)
          go_wp2_with fail
          refine (k_sc5 _).mono ?_
          rintro e w1 ⟨rfl, m, rfl⟩
          go_wp2_with (at_builtin; refine wpList_append_own _ rfl (.tmp 121) (.tmp 124) 33 rfl (W1.heap.size + 1 + 1) 3 i0 (.int .i64 0) 1 8 Tryd.underlying33 hi hz0 hz1 hz2 rfl (by decide) _ _ _ rfl (own_after HOWN.out (After.alloc (After.draws (After.alloc After.rfl _) _) _)) ⟨wr.heap.size + 1, 0, none⟩ 2 2 [.int .i64 (2), .int .i64 (0)] rfl rfl (two_drawn _ _ _ _ (by simp)) (two_one _ _) (by decide) (by decide) (by simp; omega) ?_)
          intro v2 w2 hown2 hgrow2 _
          have HR := hideIt (loop_rel HB.out (by simp) hsz HC.out HOWN.out (After.alloc (After.draws (After.alloc After.rfl _) _) _) hgrow2)
          have HO2 := hideIt hown2
          clear hown2 hgrow2
          go_wp2
          go_roundw
          case rel => exact ⟨6, by decide, rfl, HO2.out, HR.out.1, HR.out.2.1, HR.out.2.2⟩
          case measure => decide
        · have c0 : wr.cell? ⟨W1.heap.size + 1, 18, none⟩ = some (.int .i64 (0)) := HC.out 18 (by decide)
          have c1 : wr.cell? ⟨W1.heap.size + 1, 19, none⟩ = some (.int .i64 (0)) := HC.out 19 (by decide)
          have c2 : wr.cell? ⟨W1.heap.size + 1, 20, none⟩ = some (.int .i64 (1)) := HC.out 20 (by decide)
          go_wp2_with fail
          refine (k_sc6 _).mono ?_
          rintro e w1 ⟨rfl, m, rfl⟩
          go_wp2_with (at_builtin; refine wpList_append_own _ rfl (.tmp 121) (.tmp 124) 33 rfl (W1.heap.size + 1 + 1) 3 i0 (.int .i64 0) 1 8 Tryd.underlying33 hi hz0 hz1 hz2 rfl (by decide) _ _ _ rfl (own_after HOWN.out (After.alloc (After.draws (After.alloc After.rfl _) _) _)) ⟨wr.heap.size + 1, 0, none⟩ 2 2 [.int .i64 (0), .int .i64 (0)] rfl rfl (two_drawn _ _ _ _ (by simp)) (two_one _ _) (by decide) (by decide) (by simp; omega) ?_)
          intro v2 w2 hown2 hgrow2 _
          have HR := hideIt (loop_rel HB.out (by simp) hsz HC.out HOWN.out (After.alloc (After.draws (After.alloc After.rfl _) _) _) hgrow2)
          have HO2 := hideIt hown2
          clear hown2 hgrow2
          go_wp2
          go_roundw
          case rel => exact ⟨7, by decide, rfl, HO2.out, HR.out.1, HR.out.2.1, HR.out.2.2⟩
          case measure => decide
        · obtain ⟨W2, hW2⟩ : ∃ W, W = wr := ⟨wr, rfl⟩
          subst hW2
          obtain ⟨g, cap, hv⟩ := own_shape3 HOWN.out (by decide)
          have HOW := hideIt HOWN.out
          clear HOWN
          rw [hv] at HOW ⊢
          clear hv
          go_wp2_with fail
          refine (eqInts_same g W2.heap.size cap 14 14 (fun j => res2.getD j 0) _ (by decide) (own_cells rfl (own_after HOW.out (After.alloc After.rfl _))) (new_cells W2 res2 rfl rfl)).mono ?_
          rintro e w1 ⟨rfl, m2, rfl⟩
          have HA2 : Hid (After w' W2) := After.trans HA1.out HB.out
          have HAx : Hid (∀ o, After w' ((W2.alloc o).drewN m2)) := fun o => After.draws (After.alloc HA2.out o) m2
          clear HOW HB HC hsz
          go_wp2_with fail
          refine (k_text0 _ (HT.out.on (HAx.out _))).mono ?_
          rintro e t0 ⟨rfl, hx0⟩
          have HX0 : Hid (After w' t0) := After.trans (HAx.out _) hx0
          clear hx0
          go_wp2_with fail
          refine (k_text1 _ (HT.out.on HX0.out)).mono ?_
          rintro e t1 ⟨rfl, hx1⟩
          have HX1 : Hid (After w' t1) := After.trans HX0.out hx1
          clear hx1
          go_wp2_with fail
          refine (k_text2 _ (HT.out.on HX1.out)).mono ?_
          rintro e t2 ⟨rfl, hx2⟩
          have HX2 : Hid (After w' t2) := After.trans HX1.out hx2
          clear hx2
          go_wp2_with fail
          refine (k_text3 _ (HT.out.on HX2.out)).mono ?_
          rintro e t3 ⟨rfl, hx3⟩
          have HX3 : Hid (After w' t3) := After.trans HX2.out hx3
          clear hx3
          go_wp2_with fail
          refine (k_text4 _ (HT.out.on HX3.out)).mono ?_
          rintro e t4 ⟨rfl, hx4⟩
          have HX4 : Hid (After w' t4) := After.trans HX3.out hx4
          clear hx4
          go_wp2_with fail
          refine (k_text5 _ (HT.out.on HX4.out)).mono ?_
          rintro e t5 ⟨rfl, hx5⟩
          have HX5 : Hid (After w' t5) := After.trans HX4.out hx5
          clear hx5
          have HAt : Hid (After w' t5) := HX5.out
          go_wp2
          go_loopw [3, 154] (fun got i wr => ∃ k : Nat, k ≤ 9 ∧ i = .int .i64 k ∧ wr.ownsRow (t5.heap.size + 1) 3 1 got (2 * k) (vals (res3.take (2 * k))) ∧ After t5 wr ∧ t5.heap.size + 1 ≤ wr.heap.size ∧ ∀ j, j < 9 → wr.cell? ⟨t5.heap.size, j, none⟩ = some (tab3 j))
            (fun _ i _ => 9 - (intOf i).toNat)
          case atStart =>
            refine ⟨0, by decide, rfl, World.ownsRow_nil _ _ _ _, After.alloc After.rfl _, by simp, ?_⟩
            intro j hj
            rw [cell_new]
            have hj' : j = 0 ∨ j = 1 ∨ j = 2 ∨ j = 3 ∨ j = 4 ∨ j = 5 ∨ j = 6 ∨ j = 7 ∨ j = 8 := by omega
            clear hj
            rcases hj' with rfl | rfl | rfl | rfl | rfl | rfl | rfl | rfl | rfl <;> rfl
          case round =>
            obtain ⟨k, hk, rfl, hown, hb, hsz, hcell⟩ := hrel
            have HC := hideIt hcell
            have HB := hideIt hb
            have HOWN := hideIt hown
            clear hcell hb hown
            have hk' : k = 0 ∨ k = 1 ∨ k = 2 ∨ k = 3 ∨ k = 4 ∨ k = 5 ∨ k = 6 ∨ k = 7 ∨ k = 8 ∨ k = 9 := by omega
            clear hk
            rcases hk' with rfl | rfl | rfl | rfl | rfl | rfl | rfl | rfl | rfl | rfl
            · have c0 : wr.cell? ⟨t5.heap.size, 0, none⟩ = some (.string ⟨#[50, 46, 48, 48, 48]⟩) := HC.out 0 (by decide)
              go_wp2_with fail
              refine (k_read0 _).mono ?_
              rintro e w1 ⟨rfl, hb1⟩
              have HB1 := hideIt hb1
              clear hb1
              go_wp2_with (at_builtin; refine wpList_append_own _ rfl (.tmp 163) (.tmp 166) 33 rfl (t5.heap.size + 1) 3 i0 (.int .i64 0) 1 8 Tryd.underlying33 hi hz0 hz1 hz2 rfl (by decide) _ _ _ rfl (own_after HOWN.out (After.alloc HB1.out _)) ⟨w1.heap.size, 0, none⟩ 2 2 [.int .i64 (2000), .int .i64 (0)] rfl rfl (two_new _ _ _) (two_one _ _) (by decide) (by decide) (by have := Below.size HB1.out; simp; omega) ?_)
              intro v2 w2 hown2 hgrow2 _
              have HR := hideIt (loop_rel HB.out (Nat.le_refl _) hsz HC.out HOWN.out (After.alloc HB1.out _) hgrow2)
              have HO2 := hideIt hown2
              clear hown2 hgrow2
              go_wp2
              go_roundw
              case rel => exact ⟨1, by decide, rfl, HO2.out, HR.out.1, HR.out.2.1, HR.out.2.2⟩
              case measure => decide
            · have c0 : wr.cell? ⟨t5.heap.size, 1, none⟩ = some (.string ⟨#[45, 48, 46, 48, 48, 53]⟩) := HC.out 1 (by decide)
              go_wp2_with fail
              refine (k_read1 _).mono ?_
              rintro e w1 ⟨rfl, hb1⟩
              have HB1 := hideIt hb1
              clear hb1
              go_wp2_with (at_builtin; refine wpList_append_own _ rfl (.tmp 163) (.tmp 166) 33 rfl (t5.heap.size + 1) 3 i0 (.int .i64 0) 1 8 Tryd.underlying33 hi hz0 hz1 hz2 rfl (by decide) _ _ _ rfl (own_after HOWN.out (After.alloc HB1.out _)) ⟨w1.heap.size, 0, none⟩ 2 2 [.int .i64 (-5), .int .i64 (0)] rfl rfl (two_new _ _ _) (two_one _ _) (by decide) (by decide) (by have := Below.size HB1.out; simp; omega) ?_)
              intro v2 w2 hown2 hgrow2 _
              have HR := hideIt (loop_rel HB.out (Nat.le_refl _) hsz HC.out HOWN.out (After.alloc HB1.out _) hgrow2)
              have HO2 := hideIt hown2
              clear hown2 hgrow2
              go_wp2
              go_roundw
              case rel => exact ⟨2, by decide, rfl, HO2.out, HR.out.1, HR.out.2.1, HR.out.2.2⟩
              case measure => decide
            · have c0 : wr.cell? ⟨t5.heap.size, 2, none⟩ = some (.string ⟨#[50, 49, 52, 55, 52, 56, 51, 46, 54, 52, 55]⟩) := HC.out 2 (by decide)
              go_wp2_with fail
              refine (k_read2 _).mono ?_
              rintro e w1 ⟨rfl, hb1⟩
              have HB1 := hideIt hb1
              clear hb1
              go_wp2_with (at_builtin; refine wpList_append_own _ rfl (.tmp 163) (.tmp 166) 33 rfl (t5.heap.size + 1) 3 i0 (.int .i64 0) 1 8 Tryd.underlying33 hi hz0 hz1 hz2 rfl (by decide) _ _ _ rfl (own_after HOWN.out (After.alloc HB1.out _)) ⟨w1.heap.size, 0, none⟩ 2 2 [.int .i64 (2147483647), .int .i64 (0)] rfl rfl (two_new _ _ _) (two_one _ _) (by decide) (by decide) (by have := Below.size HB1.out; simp; omega) ?_)
              intro v2 w2 hown2 hgrow2 _
              have HR := hideIt (loop_rel HB.out (Nat.le_refl _) hsz HC.out HOWN.out (After.alloc HB1.out _) hgrow2)
              have HO2 := hideIt hown2
              clear hown2 hgrow2
              go_wp2
              go_roundw
              case rel => exact ⟨3, by decide, rfl, HO2.out, HR.out.1, HR.out.2.1, HR.out.2.2⟩
              case measure => decide
            · have c0 : wr.cell? ⟨t5.heap.size, 3, none⟩ = some (.string ⟨#[50, 49, 52, 55, 52, 56, 51, 46, 54, 52, 56]⟩) := HC.out 3 (by decide)
              go_wp2_with fail
              refine (k_read3 _).mono ?_
              rintro e w1 ⟨rfl, hb1⟩
              have HB1 := hideIt hb1
              clear hb1
              go_wp2_with (at_builtin; refine wpList_append_own _ rfl (.tmp 163) (.tmp 166) 33 rfl (t5.heap.size + 1) 3 i0 (.int .i64 0) 1 8 Tryd.underlying33 hi hz0 hz1 hz2 rfl (by decide) _ _ _ rfl (own_after HOWN.out (After.alloc HB1.out _)) ⟨w1.heap.size, 0, none⟩ 2 2 [.int .i64 (0), .int .i64 (9)] rfl rfl (two_new _ _ _) (two_one _ _) (by decide) (by decide) (by have := Below.size HB1.out; simp; omega) ?_)
              intro v2 w2 hown2 hgrow2 _
              have HR := hideIt (loop_rel HB.out (Nat.le_refl _) hsz HC.out HOWN.out (After.alloc HB1.out _) hgrow2)
              have HO2 := hideIt hown2
              clear hown2 hgrow2
              go_wp2
              go_roundw
              case rel => exact ⟨4, by decide, rfl, HO2.out, HR.out.1, HR.out.2.1, HR.out.2.2⟩
              case measure => decide
            · have c0 : wr.cell? ⟨t5.heap.size, 4, none⟩ = some (.string ⟨#[45, 50, 49, 52, 55, 52, 56, 51, 46, 54, 52, 56]⟩) := HC.out 4 (by decide)
              go_wp2_with fail
              refine (k_read4 _).mono ?_
              rintro e w1 ⟨rfl, hb1⟩
              have HB1 := hideIt hb1
              clear hb1
              go_wp2_with (at_builtin; refine wpList_append_own _ rfl (.tmp 163) (.tmp 166) 33 rfl (t5.heap.size + 1) 3 i0 (.int .i64 0) 1 8 Tryd.underlying33 hi hz0 hz1 hz2 rfl (by decide) _ _ _ rfl (own_after HOWN.out (After.alloc HB1.out _)) ⟨w1.heap.size, 0, none⟩ 2 2 [.int .i64 (0), .int .i64 (9)] rfl rfl (two_new _ _ _) (two_one _ _) (by decide) (by decide) (by have := Below.size HB1.out; simp; omega) ?_)
              intro v2 w2 hown2 hgrow2 _
              have HR := hideIt (loop_rel HB.out (Nat.le_refl _) hsz HC.out HOWN.out (After.alloc HB1.out _) hgrow2)
              have HO2 := hideIt hown2
              clear hown2 hgrow2
              go_wp2
              go_roundw
              case rel => exact ⟨5, by decide, rfl, HO2.out, HR.out.1, HR.out.2.1, HR.out.2.2⟩
              case measure => decide
            · have c0 : wr.cell? ⟨t5.heap.size, 5, none⟩ = some (.string ⟨#[57, 57, 57, 57, 57, 57, 57, 46, 57, 57, 57]⟩) := HC.out 5 (by decide)
              go_wp2_with fail
              refine (k_read5 _).mono ?_
              rintro e w1 ⟨rfl, hb1⟩
              have HB1 := hideIt hb1
              clear hb1
              go_wp2_with (at_builtin; refine wpList_append_own _ rfl (.tmp 163) (.tmp 166) 33 rfl (t5.heap.size + 1) 3 i0 (.int .i64 0) 1 8 Tryd.underlying33 hi hz0 hz1 hz2 rfl (by decide) _ _ _ rfl (own_after HOWN.out (After.alloc HB1.out _)) ⟨w1.heap.size, 0, none⟩ 2 2 [.int .i64 (0), .int .i64 (9)] rfl rfl (two_new _ _ _) (two_one _ _) (by decide) (by decide) (by have := Below.size HB1.out; simp; omega) ?_)
              intro v2 w2 hown2 hgrow2 _
              have HR := hideIt (loop_rel HB.out (Nat.le_refl _) hsz HC.out HOWN.out (After.alloc HB1.out _) hgrow2)
              have HO2 := hideIt hown2
              clear hown2 hgrow2
              go_wp2
              go_roundw
              case rel => exact ⟨6, by decide, rfl, HO2.out, HR.out.1, HR.out.2.1, HR.out.2.2⟩
              case measure => decide
            · have c0 : wr.cell? ⟨t5.heap.size, 6, none⟩ = some (.string ⟨#[48, 46, 48]⟩) := HC.out 6 (by decide)
              go_wp2_with fail
              refine (k_read6 _).mono ?_
              rintro e w1 ⟨rfl, hb1⟩
              have HB1 := hideIt hb1
              clear hb1
              go_wp2_with (at_builtin; refine wpList_append_own _ rfl (.tmp 163) (.tmp 166) 33 rfl (t5.heap.size + 1) 3 i0 (.int .i64 0) 1 8 Tryd.underlying33 hi hz0 hz1 hz2 rfl (by decide) _ _ _ rfl (own_after HOWN.out (After.alloc HB1.out _)) ⟨w1.heap.size, 0, none⟩ 2 2 [.int .i64 (0), .int .i64 (0)] rfl rfl (two_new _ _ _) (two_one _ _) (by decide) (by decide) (by have := Below.size HB1.out; simp; omega) ?_)
              intro v2 w2 hown2 hgrow2 _
              have HR := hideIt (loop_rel HB.out (Nat.le_refl _) hsz HC.out HOWN.out (After.alloc HB1.out _) hgrow2)
              have HO2 := hideIt hown2
              clear hown2 hgrow2
              go_wp2
              go_roundw
              case rel => exact ⟨7, by decide, rfl, HO2.out, HR.out.1, HR.out.2.1, HR.out.2.2⟩
              case measure => decide
            · have c0 : wr.cell? ⟨t5.heap.size, 7, none⟩ = some (.string ⟨#[49, 46, 53, 48]⟩) := HC.out 7 (by decide)
              go_wp2_with fail
              refine (k_read7 _).mono ?_
              rintro e w1 ⟨rfl, hb1⟩
              have HB1 := hideIt hb1
              clear hb1
              go_wp2_with (at_builtin; refine wpList_append_own _ rfl (.tmp 163) (.tmp 166) 33 rfl (t5.heap.size + 1) 3 i0 (.int .i64 0) 1 8 Tryd.underlying33 hi hz0 hz1 hz2 rfl (by decide) _ _ _ rfl (own_after HOWN.out (After.alloc HB1.out _)) ⟨w1.heap.size, 0, none⟩ 2 2 [.int .i64 (1500), .int .i64 (0)] rfl rfl (two_new _ _ _) (two_one _ _) (by decide) (by decide) (by have := Below.size HB1.out; simp; omega) ?_)
              intro v2 w2 hown2 hgrow2 _
              have HR := hideIt (loop_rel HB.out (Nat.le_refl _) hsz HC.out HOWN.out (After.alloc HB1.out _) hgrow2)
              have HO2 := hideIt hown2
              clear hown2 hgrow2
              go_wp2
              go_roundw
              case rel => exact ⟨8, by decide, rfl, HO2.out, HR.out.1, HR.out.2.1, HR.out.2.2⟩
              case measure => decide
            · have c0 : wr.cell? ⟨t5.heap.size, 8, none⟩ = some (.string ⟨#[48]⟩) := HC.out 8 (by decide)
              go_wp2_with fail
              refine (k_read8 _).mono ?_
              rintro e w1 ⟨rfl, hb1⟩
              have HB1 := hideIt hb1
              clear hb1
              go_wp2_with (at_builtin; refine wpList_append_own _ rfl (.tmp 163) (.tmp 166) 33 rfl (t5.heap.size + 1) 3 i0 (.int .i64 0) 1 8 Tryd.underlying33 hi hz0 hz1 hz2 rfl (by decide) _ _ _ rfl (own_after HOWN.out (After.alloc HB1.out _)) ⟨w1.heap.size, 0, none⟩ 2 2 [.int .i64 (0), .int .i64 (0)] rfl rfl (two_new _ _ _) (two_one _ _) (by decide) (by decide) (by have := Below.size HB1.out; simp; omega) ?_)
              intro v2 w2 hown2 hgrow2 _
              have HR := hideIt (loop_rel HB.out (Nat.le_refl _) hsz HC.out HOWN.out (After.alloc HB1.out _) hgrow2)
              have HO2 := hideIt hown2
              clear hown2 hgrow2
              go_wp2
              go_roundw
              case rel => exact ⟨9, by decide, rfl, HO2.out, HR.out.1, HR.out.2.1, HR.out.2.2⟩
              case measure => decide
            · obtain ⟨W3, hW3⟩ : ∃ W, W = wr := ⟨wr, rfl⟩
              subst hW3
              obtain ⟨g, cap, hv⟩ := own_shape3 HOWN.out (by decide)
              have HOW := hideIt HOWN.out
              clear HOWN
              rw [hv] at HOW ⊢
              clear hv
              go_wp2_with fail
              refine (eqInts_same g W3.heap.size cap 18 18 (fun j => res3.getD j 0) _ (by decide) (own_cells rfl (own_after HOW.out (After.alloc After.rfl _))) (new_cells W3 res3 rfl rfl)).mono ?_
              rintro e w1 ⟨rfl, m3, rfl⟩
              have HA3 : Hid (After w' W3) := After.trans HAt.out HB.out
              clear HOW HB HC hsz
              go_wp2
              go_loopw [174] (fun i wr => ∃ k : Nat, k ≤ 20 ∧ i = .int .i64 k ∧ After W3 wr ∧ W3.heap.size + 1 + 1 ≤ wr.heap.size ∧ ∀ j, j < 20 → wr.cell? ⟨W3.heap.size + 1, j, none⟩ = some (tab4 j))
                (fun i _ => 20 - (intOf i).toNat)
              case atStart =>
                refine ⟨0, by decide, rfl, After.alloc (After.draws (After.alloc After.rfl _) _) _, by simp, ?_⟩
                intro j hj
                rw [cell_drawn _ _ _ _ _ (by simp)]
                have hj' : j = 0 ∨ j = 1 ∨ j = 2 ∨ j = 3 ∨ j = 4 ∨ j = 5 ∨ j = 6 ∨ j = 7 ∨ j = 8 ∨ j = 9 ∨ j = 10 ∨ j = 11 ∨ j = 12 ∨ j = 13 ∨ j = 14 ∨ j = 15 ∨ j = 16 ∨ j = 17 ∨ j = 18 ∨ j = 19 := by omega
                clear hj
                rcases hj' with rfl | rfl | rfl | rfl | rfl | rfl | rfl | rfl | rfl | rfl | rfl | rfl | rfl | rfl | rfl | rfl | rfl | rfl | rfl | rfl <;> rfl
              case round =>
                obtain ⟨k, hk, rfl, hb, hsz, hcell⟩ := hrel
                have HC := hideIt hcell
                have HB := hideIt hb
                clear hcell hb
                have hk' : k = 0 ∨ k = 1 ∨ k = 2 ∨ k = 3 ∨ k = 4 ∨ k = 5 ∨ k = 6 ∨ k = 7 ∨ k = 8 ∨ k = 9 ∨ k = 10 ∨ k = 11 ∨ k = 12 ∨ k = 13 ∨ k = 14 ∨ k = 15 ∨ k = 16 ∨ k = 17 ∨ k = 18 ∨ k = 19 ∨ k = 20 := by omega
                clear hk
                rcases hk' with rfl | rfl | rfl | rfl | rfl | rfl | rfl | rfl | rfl | rfl | rfl | rfl | rfl | rfl | rfl | rfl | rfl | rfl | rfl | rfl | rfl
                · have c0 : wr.cell? ⟨W3.heap.size + 1, 0, none⟩ = some (.string ⟨#[]⟩) := HC.out 0 (by decide)
                  go_wp2_with fail
                  refine (k_bad0 _).mono ?_
                  rintro e w1 ⟨rfl, hb1⟩
                  have HB1 := hideIt hb1
                  clear hb1
                  have HR := hideIt (cells_after hsz HC.out HB1.out)
                  go_wp2
                  go_roundw
                  case rel => exact ⟨1, by decide, rfl, After.trans HB.out HB1.out, HR.out.1, HR.out.2⟩
                  case measure => decide
                · have c0 : wr.cell? ⟨W3.heap.size + 1, 1, none⟩ = some (.string ⟨#[45]⟩) := HC.out 1 (by decide)
                  go_wp2_with fail
                  refine (k_bad1 _).mono ?_
                  rintro e w1 ⟨rfl, hb1⟩
                  have HB1 := hideIt hb1
                  clear hb1
                  have HR := hideIt (cells_after hsz HC.out HB1.out)
                  go_wp2
                  go_roundw
                  case rel => exact ⟨2, by decide, rfl, After.trans HB.out HB1.out, HR.out.1, HR.out.2⟩
                  case measure => decide
                · have c0 : wr.cell? ⟨W3.heap.size + 1, 2, none⟩ = some (.string ⟨#[46]⟩) := HC.out 2 (by decide)
                  go_wp2_with fail
                  refine (k_bad2 _).mono ?_
                  rintro e w1 ⟨rfl, hb1⟩
                  have HB1 := hideIt hb1
                  clear hb1
                  have HR := hideIt (cells_after hsz HC.out HB1.out)
                  go_wp2
                  go_roundw
                  case rel => exact ⟨3, by decide, rfl, After.trans HB.out HB1.out, HR.out.1, HR.out.2⟩
                  case measure => decide
                · have c0 : wr.cell? ⟨W3.heap.size + 1, 3, none⟩ = some (.string ⟨#[45, 48]⟩) := HC.out 3 (by decide)
                  go_wp2_with fail
                  refine (k_bad3 _).mono ?_
                  rintro e w1 ⟨rfl, hb1⟩
                  have HB1 := hideIt hb1
                  clear hb1
                  have HR := hideIt (cells_after hsz HC.out HB1.out)
                  go_wp2
                  go_roundw
                  case rel => exact ⟨4, by decide, rfl, After.trans HB.out HB1.out, HR.out.1, HR.out.2⟩
                  case measure => decide
                · have c0 : wr.cell? ⟨W3.heap.size + 1, 4, none⟩ = some (.string ⟨#[45, 48, 46, 48, 48, 48]⟩) := HC.out 4 (by decide)
                  go_wp2_with fail
                  refine (k_bad4 _).mono ?_
                  rintro e w1 ⟨rfl, hb1⟩
                  have HB1 := hideIt hb1
                  clear hb1
                  have HR := hideIt (cells_after hsz HC.out HB1.out)
                  go_wp2
                  go_roundw
                  case rel => exact ⟨5, by decide, rfl, After.trans HB.out HB1.out, HR.out.1, HR.out.2⟩
                  case measure => decide
                · have c0 : wr.cell? ⟨W3.heap.size + 1, 5, none⟩ = some (.string ⟨#[48, 49]⟩) := HC.out 5 (by decide)
                  go_wp2_with fail
                  refine (k_bad5 _).mono ?_
                  rintro e w1 ⟨rfl, hb1⟩
                  have HB1 := hideIt hb1
                  clear hb1
                  have HR := hideIt (cells_after hsz HC.out HB1.out)
                  go_wp2
                  go_roundw
                  case rel => exact ⟨6, by decide, rfl, After.trans HB.out HB1.out, HR.out.1, HR.out.2⟩
                  case measure => decide
                · have c0 : wr.cell? ⟨W3.heap.size + 1, 6, none⟩ = some (.string ⟨#[48, 48]⟩) := HC.out 6 (by decide)
                  go_wp2_with fail
                  refine (k_bad6 _).mono ?_
                  rintro e w1 ⟨rfl, hb1⟩
                  have HB1 := hideIt hb1
                  clear hb1
                  have HR := hideIt (cells_after hsz HC.out HB1.out)
                  go_wp2
                  go_roundw
                  case rel => exact ⟨7, by decide, rfl, After.trans HB.out HB1.out, HR.out.1, HR.out.2⟩
                  case measure => decide
                · have c0 : wr.cell? ⟨W3.heap.size + 1, 7, none⟩ = some (.string ⟨#[46, 53]⟩) := HC.out 7 (by decide)
                  go_wp2_with fail
                  refine (k_bad7 _).mono ?_
                  rintro e w1 ⟨rfl, hb1⟩
                  have HB1 := hideIt hb1
                  clear hb1
                  have HR := hideIt (cells_after hsz HC.out HB1.out)
                  go_wp2
                  go_roundw
                  case rel => exact ⟨8, by decide, rfl, After.trans HB.out HB1.out, HR.out.1, HR.out.2⟩
                  case measure => decide
                · have c0 : wr.cell? ⟨W3.heap.size + 1, 8, none⟩ = some (.string ⟨#[53, 46]⟩) := HC.out 8 (by decide)
                  go_wp2_with fail
                  refine (k_bad8 _).mono ?_
                  rintro e w1 ⟨rfl, hb1⟩
                  have HB1 := hideIt hb1
                  clear hb1
                  have HR := hideIt (cells_after hsz HC.out HB1.out)
                  go_wp2
                  go_roundw
                  case rel => exact ⟨9, by decide, rfl, After.trans HB.out HB1.out, HR.out.1, HR.out.2⟩
                  case measure => decide
                · have c0 : wr.cell? ⟨W3.heap.size + 1, 9, none⟩ = some (.string ⟨#[49, 46, 50, 51, 52, 53]⟩) := HC.out 9 (by decide)
                  go_wp2_with fail
                  refine (k_bad9 _).mono ?_
                  rintro e w1 ⟨rfl, hb1⟩
                  have HB1 := hideIt hb1
                  clear hb1
                  have HR := hideIt (cells_after hsz HC.out HB1.out)
                  go_wp2
                  go_roundw
                  case rel => exact ⟨10, by decide, rfl, After.trans HB.out HB1.out, HR.out.1, HR.out.2⟩
                  case measure => decide
                · have c0 : wr.cell? ⟨W3.heap.size + 1, 10, none⟩ = some (.string ⟨#[49, 50, 51, 52, 53, 54, 55, 56]⟩) := HC.out 10 (by decide)
                  go_wp2_with fail
                  refine (k_bad10 _).mono ?_
                  rintro e w1 ⟨rfl, hb1⟩
                  have HB1 := hideIt hb1
                  clear hb1
                  have HR := hideIt (cells_after hsz HC.out HB1.out)
                  go_wp2
                  go_roundw
                  case rel => exact ⟨11, by decide, rfl, After.trans HB.out HB1.out, HR.out.1, HR.out.2⟩
                  case measure => decide
                · have c0 : wr.cell? ⟨W3.heap.size + 1, 11, none⟩ = some (.string ⟨#[43, 49]⟩) := HC.out 11 (by decide)
                  go_wp2_with fail
                  refine (k_bad11 _).mono ?_
                  rintro e w1 ⟨rfl, hb1⟩
                  have HB1 := hideIt hb1
                  clear hb1
                  have HR := hideIt (cells_after hsz HC.out HB1.out)
                  go_wp2
                  go_roundw
                  case rel => exact ⟨12, by decide, rfl, After.trans HB.out HB1.out, HR.out.1, HR.out.2⟩
                  case measure => decide
                · have c0 : wr.cell? ⟨W3.heap.size + 1, 12, none⟩ = some (.string ⟨#[49, 101, 51]⟩) := HC.out 12 (by decide)
                  go_wp2_with fail
                  refine (k_bad12 _).mono ?_
                  rintro e w1 ⟨rfl, hb1⟩
                  have HB1 := hideIt hb1
                  clear hb1
                  have HR := hideIt (cells_after hsz HC.out HB1.out)
                  go_wp2
                  go_roundw
                  case rel => exact ⟨13, by decide, rfl, After.trans HB.out HB1.out, HR.out.1, HR.out.2⟩
                  case measure => decide
                · have c0 : wr.cell? ⟨W3.heap.size + 1, 13, none⟩ = some (.string ⟨#[32, 49]⟩) := HC.out 13 (by decide)
                  go_wp2_with fail
                  refine (k_bad13 _).mono ?_
                  rintro e w1 ⟨rfl, hb1⟩
                  have HB1 := hideIt hb1
                  clear hb1
                  have HR := hideIt (cells_after hsz HC.out HB1.out)
                  go_wp2
                  go_roundw
                  case rel => exact ⟨14, by decide, rfl, After.trans HB.out HB1.out, HR.out.1, HR.out.2⟩
                  case measure => decide
                · have c0 : wr.cell? ⟨W3.heap.size + 1, 14, none⟩ = some (.string ⟨#[49, 32]⟩) := HC.out 14 (by decide)
                  go_wp2_with fail
                  refine (k_bad14 _).mono ?_
                  rintro e w1 ⟨rfl, hb1⟩
                  have HB1 := hideIt hb1
                  clear hb1
                  have HR := hideIt (cells_after hsz HC.out HB1.out)
                  go_wp2
                  go_roundw
                  case rel => exact ⟨15, by decide, rfl, After.trans HB.out HB1.out, HR.out.1, HR.out.2⟩
                  case measure => decide
                · have c0 : wr.cell? ⟨W3.heap.size + 1, 15, none⟩ = some (.string ⟨#[45, 45, 49]⟩) := HC.out 15 (by decide)
                  go_wp2_with fail
                  refine (k_bad15 _).mono ?_
                  rintro e w1 ⟨rfl, hb1⟩
                  have HB1 := hideIt hb1
                  clear hb1
                  have HR := hideIt (cells_after hsz HC.out HB1.out)
                  go_wp2
                  go_roundw
                  case rel => exact ⟨16, by decide, rfl, After.trans HB.out HB1.out, HR.out.1, HR.out.2⟩
                  case measure => decide
                · have c0 : wr.cell? ⟨W3.heap.size + 1, 16, none⟩ = some (.string ⟨#[49, 46, 45, 53]⟩) := HC.out 16 (by decide)
                  go_wp2_with fail
                  refine (k_bad16 _).mono ?_
                  rintro e w1 ⟨rfl, hb1⟩
                  have HB1 := hideIt hb1
                  clear hb1
                  have HR := hideIt (cells_after hsz HC.out HB1.out)
                  go_wp2
                  go_roundw
                  case rel => exact ⟨17, by decide, rfl, After.trans HB.out HB1.out, HR.out.1, HR.out.2⟩
                  case measure => decide
                · have c0 : wr.cell? ⟨W3.heap.size + 1, 17, none⟩ = some (.string ⟨#[49, 46, 46, 53]⟩) := HC.out 17 (by decide)
                  go_wp2_with fail
                  refine (k_bad17 _).mono ?_
                  rintro e w1 ⟨rfl, hb1⟩
                  have HB1 := hideIt hb1
                  clear hb1
                  have HR := hideIt (cells_after hsz HC.out HB1.out)
                  go_wp2
                  go_roundw
                  case rel => exact ⟨18, by decide, rfl, After.trans HB.out HB1.out, HR.out.1, HR.out.2⟩
                  case measure => decide
                · have c0 : wr.cell? ⟨W3.heap.size + 1, 18, none⟩ = some (.string ⟨#[49, 46, 53, 46, 53]⟩) := HC.out 18 (by decide)
                  go_wp2_with fail
                  refine (k_bad18 _).mono ?_
                  rintro e w1 ⟨rfl, hb1⟩
                  have HB1 := hideIt hb1
                  clear hb1
                  have HR := hideIt (cells_after hsz HC.out HB1.out)
                  go_wp2
                  go_roundw
                  case rel => exact ⟨19, by decide, rfl, After.trans HB.out HB1.out, HR.out.1, HR.out.2⟩
                  case measure => decide
                · have c0 : wr.cell? ⟨W3.heap.size + 1, 19, none⟩ = some (.string ⟨#[48, 120, 49]⟩) := HC.out 19 (by decide)
                  go_wp2_with fail
                  refine (k_bad19 _).mono ?_
                  rintro e w1 ⟨rfl, hb1⟩
                  have HB1 := hideIt hb1
                  clear hb1
                  have HR := hideIt (cells_after hsz HC.out HB1.out)
                  go_wp2
                  go_roundw
                  case rel => exact ⟨20, by decide, rfl, After.trans HB.out HB1.out, HR.out.1, HR.out.2⟩
                  case measure => decide
                · obtain ⟨W4, hW4⟩ : ∃ W, W = wr := ⟨wr, rfl⟩
                  subst hW4
                  have HA4 : Hid (After w' W4) := After.trans HA3.out HB.out
                  go_wp2_with fail
                  refine (works_any _ (HT.out.on HA4.out)).mono ?_
                  rintro e w1 ⟨rfl, hb1⟩
                  go_wp2
                  go_ret
                  exact ⟨rfl, After.trans HA4.out hb1⟩
end Go.Proofs.YtiiehpnnfofcaaaDoor
