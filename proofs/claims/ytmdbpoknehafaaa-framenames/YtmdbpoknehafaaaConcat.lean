/-
  slices.Grow of nothing, slices.Concat.
-/
import Derived.Test.YtmdbpoknehafaaaPairs
import Derived.Lib.AppendZerosOnto
namespace Go.Proofs.Ytmdbpoknehafaaa
open Go.RowKit
theorem zero_cells_size (z : Value) (k : Nat) (h : z.cells.size = 1) : (Builtin.zeroCells z.cells k).size = k := by
  simp [Builtin.zeroCells, h]
set_option maxRecDepth 100000 in
theorem grow_any (n : Nat) (w : World) (hn : n ≤ 140737488355328) :
    Calls Try.prog 31 #[.slice none 0 0, .int .i64 n] w fun e w' => ∃ v, e = .returned v ∧ w'.ownsRow w.heap.size 5 1 v 0 [] ∧ After w w' := by
  obtain ⟨i0, hi, hz0, hz1, hz2⟩ := info_parts Try.info5
  by_cases h0 : n = 0
  · subst h0
    go_enter Try.func31, Try.ntmps31
    go_wp2
    go_ret
    exact ⟨_, rfl, World.ownsRow_nil _ _ _ _, After.rfl⟩
  · have hrz : ∀ ty, (Builtin.append_ #[27, 3] ty #[.slice none 0 0, .int .i64 n]).run Try.prog w = .ok (.slice (some ⟨w.heap.size, 0, none⟩) n (grownCap w n 0 5)) (w.drew.alloc (.cells (([] : List Value).toArray ++ Builtin.zeroCells (Value.int .u8 0).cells n ++ Builtin.zeroCells (Value.int .u8 0).cells (grownCap w n 0 5 - n)) 5)) := fun ty => by
      have h := Lib.run_append_grow_zeros (P := Try.prog) w 27 3 ty 5 i0 (.int .u8 0) .i64 .i64 Try.underlying27 Try.underlying3 hi hz0 none 0 0 [] (run_firstCells_none w.drew i0.size 0 0 0) n (by omega) (by omega) (by omega) (by omega) (by rw [hz2]; omega) (growslice_fits (by omega) (by rw [hz2]; omega))
      rw [Nat.zero_add] at h
      exact h
    have hge : n ≤ grownCap w n 0 5 := grownCap_ge w _ _ _
    have hle := grownCap_le_maxLen w n 0 5 (by unfold maxLen; omega)
    obtain ⟨G, hG⟩ : ∃ G, G = grownCap w n 0 5 := ⟨_, rfl⟩
    rw [← hG] at hrz hge hle
    have HO : Hid ((w.drew.alloc (.cells (([] : List Value).toArray ++ Builtin.zeroCells (Value.int .u8 0).cells n ++ Builtin.zeroCells (Value.int .u8 0).cells (G - n)) 5)).ownsRow w.heap.size 5 1 (.slice (some ⟨w.heap.size, 0, none⟩) 0 G) 0 []) :=
      ⟨rfl, .inr ⟨w.heap.size, G, _, rfl, Nat.le_refl _, heap_alloc_new w.drew _, Nat.zero_le _, hle, by rw [Array.size_append, Array.size_append, zero_cells_size _ _ rfl, zero_cells_size _ _ rfl]; show 0 + n + (G - n) = G * 1; omega, by simp⟩⟩
    have hG63 : G ≤ 9223372036854775807 := by unfold maxLen at hle; omega
    generalize (Obj.cells (([] : List Value).toArray ++ Builtin.zeroCells (Value.int .u8 0).cells n ++ Builtin.zeroCells (Value.int .u8 0).cells (G - n)) 5) = O at *
    clear hG hle
    have hnp : (0 : Int) < (n : Int) := by omega
    go_enter Try.func31, Try.ntmps31
    go_wp2_with (at_builtin; refine Lib.wpList_append_run _ rfl _ _ _ _ rfl _ _ rfl rfl _ _ (hrz _) ?_)
    all_goals go_ret
    all_goals exact ⟨_, rfl, HO.out, (After.rfl.draws 1).alloc _⟩
theorem wrap64_nat {n : Nat} (h : n ≤ 9223372036854775807) : wrap64 (n : Int) = (n : Int) := by unfold wrap64; omega
set_option maxRecDepth 100000 in
set_option maxHeartbeats 1000000 in
/-- So many lists of bytes, one behind the other. -/
theorem concat_any (b N : Nat) (w : World) (hb : b < w.heap.size) (A : Nat → Option Addr) (L C : Nat → Nat) (Z P : Nat → List Int)
    (hcell : ∀ k, k < N → w.cell? ⟨b, k, none⟩ = some (.slice (A k) (L k) (C k))) (hrow : ∀ k, k < N → Row w (A k) (L k) (Z k)) (hnone : ∀ k, k < N → A k = none → L k = 0 ∧ C k = 0)
    (hP0 : P 0 = []) (hP1 : ∀ k, k < N → P (k + 1) = P k ++ Z k) (hlen : ∀ k, k ≤ N → (P k).length ≤ 140737488355328) (hN : N ≤ 1000) :
    Calls Try.prog 24 #[.slice (some ⟨b, 0, none⟩) N N] w fun e w' => ∃ v, e = .returned v ∧ w'.ownsRow w.heap.size 5 1 v (P N).length (u8s (P N)) ∧ After w w' := by
  obtain ⟨i0, hi, hz0, hz1, hz2⟩ := info_parts Try.info5
  have HC := hideIt hcell
  have HR := hideIt hrow
  have HN := hideIt hnone
  have H0 := hideIt hP0
  have H1 := hideIt hP1
  have HL := hideIt hlen
  clear hcell hrow hnone hP0 hP1 hlen
  have hlp : ∀ k, k < N → (P (k + 1)).length = (P k).length + L k := fun k hk => by rw [H1.out k hk, List.length_append, (HR.out k hk).1]
  obtain ⟨S, hS⟩ : ∃ S : Nat → Nat, ∀ k, S k = (P k).length := ⟨_, fun _ => rfl⟩
  have HS1 : Hid (∀ k, k < N → S (k + 1) = S k + L k) := fun k hk => by rw [hS, hS]; exact hlp k hk
  have HSL : Hid (∀ k, k ≤ N → S k ≤ 140737488355328) := fun k hk => by rw [hS]; exact HL.out k hk
  have HS := hideIt hS
  have HS0 : Hid (S 0 = 0) := by unfold Hid; rw [hS, H0.out]; rfl
  clear hlp hS
  go_enter Try.func24, Try.ntmps24
  go_wp2_with fail
  go_loop [3, 11] (fun s i => ∃ k : Nat, k ≤ N ∧ i = .int .i64 k ∧ s = .int .i64 (S k : Nat)) (fun _ i => N - (intOf i).toNat)
  case atStart => exact ⟨0, by omega, rfl, by rw [HS0.out]; rfl⟩
  case round =>
    obtain ⟨k, hk, rfl, rfl⟩ := hrel
    by_cases hlt : k < N
    · have hc := HC.out k hlt
      have s1 := HS1.out k hlt
      have l1 := HSL.out (k + 1) (by omega)
      have l0 := HSL.out k hk
      have hsum : (S k : Int) + (L k : Int) = (S (k + 1) : Int) := by omega
      have hki : (k : Int) < (N : Int) := by omega
      obtain ⟨q, hq⟩ : ∃ q, S (k + 1) = q := ⟨_, rfl⟩
      have HQ := hideIt hq
      rw [hq] at s1 l1 hsum
      generalize L k = l at *
      generalize C k = c at *
      generalize A k = a at *
      generalize S k = p at *
      clear s1 l0 hq
      go_wp2
      go_round
      case rel => exact ⟨k + 1, by omega, by go_num, by rw [HQ.out]⟩
      case measure => simp [intOf]; omega
    · obtain rfl : k = N := by omega
      have lk := HSL.out k (Nat.le_refl _)
      go_wp2_with fail
      refine (grow_any (S k) _ lk).mono ?_
      rintro e w1 ⟨v1, rfl, ho, ha⟩
      have HO : Hid (w1.ownsRow w.heap.size 5 1 v1 (S 0) (u8s (P 0))) := by unfold Hid; rw [HS0.out, H0.out]; exact ho
      have HA := hideIt ha
      clear ho ha lk hk
      go_wp2_with fail
      go_loopw [6, 27] (fun v i W => ∃ j : Nat, j ≤ k ∧ i = .int .i64 j ∧ W.ownsRow w.heap.size 5 1 v (S j) (u8s (P j)) ∧ After w W) (fun _ i _ => k - (intOf i).toNat)
      case atStart => exact ⟨0, by omega, rfl, HO.out, HA.out⟩
      case round =>
        rename_i v
        obtain ⟨j, hj, rfl, ho, ha⟩ := hrel
        by_cases hl : j < k
        · have hc := (ha.cell hb j).trans (HC.out j hl)
          have hr := (HR.out j hl).after ha
          have hn := HN.out j hl
          have s1 := HS1.out j hl
          have l1 := HSL.out (j + 1) (by omega)
          have p1 := H1.out j hl
          have HO1 : Hid (S (j + 1) = S j + L j ∧ u8s (P (j + 1)) = u8s (P j) ++ u8s (Z j)) := ⟨s1, by rw [p1, u8s_append]⟩
          have HA1 := hideIt ha
          have HW := hideIt ho
          have hji : (j : Int) < (k : Int) := by omega
          have hb2 : w.heap.size ≤ wr.heap.size := ha.size
          have hbd : S j + L j ≤ 140737488355328 := by omega
          clear HC HR HN H0 H1 HL HS1 HSL HS HS0 HO HA s1 l1 p1 ho ha hb
          generalize L j = l at *
          generalize C j = c at *
          generalize A j = a at *
          generalize Z j = z at *
          cases a with
          | none =>
            obtain ⟨rfl, rfl⟩ := hn rfl
            have hz : z = [] := List.length_eq_zero_iff.1 hr.1
            subst hz
            clear hr hn
            go_wp2_with (at_builtin; refine wpList_append_own_none rfl (.tmp 31) (.tmp 32) 27 rfl w.heap.size 5 i0 1 Try.underlying27 hi _ (S j) (u8s (P j)) rfl HW.out rfl ?_)
            go_roundw
            case rel => exact ⟨j + 1, by omega, by go_num, by rw [HO1.out.1, HO1.out.2, Nat.add_zero, show u8s [] = [] from rfl, List.append_nil]; exact HW.out, HA1.out⟩
            case measure => simp [intOf]; omega
          | some x =>
            have hl1 : (u8s z).length = l * 1 := by simp [u8s, hr.1]
            have HLL := hideIt hl1
            have HNW := hideIt (row_news hr)
            clear hr hn hl1
            go_wp2_with (at_builtin; refine wpList_append_own _ rfl (.tmp 31) (.tmp 32) 27 rfl w.heap.size 5 i0 (.int .u8 0) 1 1 Try.underlying27 hi hz0 hz1 hz2 rfl (by decide) _ (S j) (u8s (P j)) rfl HW.out x l c (u8s z) rfl HLL.out HNW.out (u8s_one _) (by unfold maxLen; omega) (by omega) hb2 ?_; intro v' w2 hown hgrow hnil; have HO2 := hideIt hown; have HG := hideIt hgrow; clear hown hgrow hnil)
            go_roundw
            case rel =>
              refine ⟨j + 1, by omega, by go_num, by rw [HO1.out.1, HO1.out.2]; exact HO2.out, But.grown HA1.out HG.out (fun q hq hlt => ?_)⟩
              have := (HW.out.lt q hq).1
              omega
            case measure => simp [intOf]; omega
        · obtain rfl : j = k := by omega
          have HO1 := hideIt ho
          have HA1 := hideIt ha
          clear ho ha
          go_wp2
          go_ret
          exact ⟨_, rfl, by rw [← HS.out]; exact HO1.out, HA1.out⟩
end Go.Proofs.Ytmdbpoknehafaaa
