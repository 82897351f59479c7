/-
  ExecNames: the walk.
-/
import Derived.Test.YtkjjjibglaffnaaLawTicks21
import Derived.Test.YtkjjjibglaffnaaLawSteps21
import Derived.Test.YtkjjjibglaffnaaNaA
import Derived.Test.YtkjjjibglaffnaaNaB
import Derived.Deep.Cut
namespace Go.Proofs.Ytkjjjibglaffnaa
open Go.RowKit
set_option maxRecDepth 8000
theorem tick_zero {w : World} {p : Nat} (h : w.heap[p]? = some (.cells (exC (.slice none 0 0) (.slice none 0 0) (.slice none 0 0) 0 false) 73 (0, 0))) (v : Value) : Calls Try.prog 14 #[Ptr p, v] w fun e w' => e = .returned (.tuple #[.slice none 0 0, .int .i64 1]) ∧ After w w' := by
  have c0 := blk_cell h (i := 0) rfl
  have lp := blk_lt h
  clear h
  go_enter_defers Try.func14, Try.ntmps14
  go_wp2_with fail
  exact ⟨.tuple #[.slice none 0 0, .int .i64 1], by simp [results, Try.results14, go_sem], rfl, After.rfl.alloc _⟩
theorem usual_p (w : World) : Calls Try.prog 19 #[] w fun e w' => ∃ v, e = .returned v ∧ isP v w' ∧ After w w' :=
  (usual_any w).mono (fun _e w' ⟨g1, g2, g3, g4, g5, e1, r1, r2, r3, r4, r5, a⟩ => ⟨_, e1, isP_of ⟨_, 2, [⟨some ⟨g1, 0, none⟩, 2, [0, 1]⟩, ⟨some ⟨g2, 0, none⟩, 1, [1]⟩], rfl, r3, (fun f hf => by
      simp only [List.mem_cons, List.not_mem_nil, or_false] at hf
      rcases hf with rfl | rfl
      · exact ⟨r1, fun h => (by cases h), Nat.le_of_ble_eq_true rfl⟩
      · exact ⟨r2, fun h => (by cases h), Nat.le_of_ble_eq_true rfl⟩), Nat.le_of_ble_eq_true rfl⟩ ⟨⟨some ⟨g4, 0, none⟩, 2, [5, 3]⟩, rfl, r4, fun h => (by cases h), Nat.le_of_ble_eq_true rfl⟩ ⟨_, 1, [(0, 1)], rfl, r5, fun h => (by cases h), Nat.le_of_ble_eq_true rfl⟩, a⟩)
theorem pl_at {w : World} {a : Option Addr} {n : Nat} {xs : List Pl} (h : GRow plE w a n xs) {i : Nat} (hi : i < n) : ∃ b off x, a = some ⟨b, off, none⟩ ∧ b < w.heap.size ∧ xs[i]? = some x ∧ w.cell? ⟨b, off + i * 3, none⟩ = some (.slice x.fa x.fs.length x.fc) ∧ w.cell? ⟨b, off + i * 3 + 1, none⟩ = some (.slice x.sa x.st.length x.sc) ∧ w.cell? ⟨b, off + i * 3 + 2, none⟩ = some (.slice x.la x.lk.length x.lc) := by
  obtain ⟨b, off, x, e, hb, hx, h1⟩ := h.2 i hi
  exact ⟨b, off, x, e, hb, hx, h1 0 _ rfl, h1 1 _ rfl, h1 2 _ rfl⟩
/-- What none is, at each round. -/
def NoneAt (v : Value) (w : World) : Prop := v = .pointer none ∨ ∃ p, v = Ptr p ∧ w.heap[p]? = some (.cells (exC (.slice none 0 0) (.slice none 0 0) (.slice none 0 0) 0 false) 73 (0, 0))
theorem tick_noneAt {w : World} {v : Value} (h : NoneAt v w) (u : Value) : Calls Try.prog 14 #[v, u] w fun e w' => e = .returned (.tuple #[.slice none 0 0, .int .i64 1]) ∧ After w w' := by
  rcases h with rfl | ⟨p, rfl, h⟩
  · exact tick_nil w u
  · exact tick_zero h u
set_option maxRecDepth 100000 in
set_option maxHeartbeats 8000000 in
theorem law_names21 (w : World) : Calls Try.prog 8 #[] w fun e w' => e = .returned (.bool true) ∧ After w w' := by
  go_enter Try.func8, Try.ntmps8
  go_wp2_with fail
  go_loopw [1, 2] (fun v iv wr => ∃ j : Nat, j ≤ 2 ∧ iv = .int .i64 j ∧ NoneAt v wr ∧ After w wr) (fun _ iv _ => 2 - (intOf iv).toNat)
  case atStart => exact ⟨0, Nat.zero_le _, rfl, .inl rfl, After.rfl⟩
  case round =>
    obtain ⟨j, hj, rfl, nn, af⟩ := hrel
    by_cases hjn : j < 2
    · have i1 : (j : Int) < 2 := by omega
      have HT := hideIt (tick_noneAt nn (.slice none 0 0))
      have AF := hideIt af
      clear nn af
      go_wp2_with fail
      refine HT.out.mono ?_
      rintro e w1 ⟨rfl, a1⟩
      have A1 := hideIt (AF.out.trans a1)
      clear a1 HT
      go_wp2_with fail
      go_roundw
      case rel => exact ⟨j + 1, by omega, by go_num, .inr ⟨_, rfl, heap_alloc_new w1 _⟩, A1.out.alloc _⟩
      case measure => simp [intOf]; omega
    · have i1 : ¬ (j : Int) < 2 := by omega
      have AF := hideIt af
      have HO1 := hideIt (over_yes (w := wr) (v := .pointer none) (.inl rfl))
      clear nn af
      go_wp2_with fail
      refine HO1.out.mono ?_
      rintro e w1 ⟨rfl, hw⟩
      obtain rfl := hw.symm
      clear HO1 hw
      go_wp2_with fail
      refine (over_yes (.inr ⟨_, rfl, .inl (heap_alloc_new wr _)⟩)).mono ?_
      rintro e w1 ⟨rfl, hw⟩
      obtain rfl := hw.symm
      obtain ⟨w2, hw2⟩ : ∃ w2, w2 = wr.alloc (.cells #[.pointer none] 77) := ⟨_, rfl⟩
      have A2 := hideIt (show After w w2 by rw [hw2]; exact AF.out.alloc _)
      rw [← hw2]
      have HW2 := hideIt hw2
      clear hw2 hw AF
      have hm9 := make9
      go_wp2_with fail
      have N9 := hideIt (show Nine (w2.alloc (.cells n9 3)) w2.heap.size from heap_alloc_new w2 _)
      have A3 := hideIt (A2.out.alloc (.cells n9 3))
      generalize w2.alloc (.cells n9 3) = w3 at *
      refine region_slots (by kernel_rfl) [38, 39, 40, 41, 42, 43, 44, 45, 46, 47, 48, 49, 50, 51, 52, 53, 54, 55, 56, 57, 58, 59, 60, 61, 62, 63, 64, 65, 66, 67, 68, 69, 70, 71, 72, 73, 74, 75, 76, 77, 78, 79, 80, 81, 82, 83, 84, 85, 86, 87, 88, 89, 90, 91, 92, 93, 94, 95, 96, 97, 98, 99, 100, 101, 102, 103, 104, 6] [isP, isP, isI, isF, isP, isI, isF, isI, isP, isI, isF, isI, isV (.agg #[.int .i64 0, .int .i64 1]), isL, isP, isV (.slice (some ⟨w2.heap.size, 0, none⟩) 9 9), isF, isI, isP, isV (.slice (some ⟨w2.heap.size, 0, none⟩) 9 9), isV (.slice (some ⟨w2.heap.size, 0, none⟩) 8 9), isF, isI, isP, isI, isF, isI, isP, isI, isF, isI, isP, isF, isV (.slice (some ⟨w2.heap.size, 0, none⟩) 9 9), isV (.slice (some ⟨w2.heap.size, 0, none⟩) 8 9), isP, isF, isV (.slice (some ⟨w2.heap.size, 0, none⟩) 9 9), isV (.slice (some ⟨w2.heap.size, 0, none⟩) 8 9), isP, isF, isV (.slice (some ⟨w2.heap.size, 0, none⟩) 9 9), isP, isI, isF, isV (.slice (some ⟨w2.heap.size, 0, none⟩) 9 9), isV (.slice (some ⟨w2.heap.size, 0, none⟩) 1 9), isL, isP, isI, isF, isV (.slice (some ⟨w2.heap.size, 0, none⟩) 9 9), isV (.slice (some ⟨w2.heap.size, 0, none⟩) 8 9), isL, isP, isI, isF, isV (.slice (some ⟨w2.heap.size, 0, none⟩) 9 9), isV (.slice (some ⟨w2.heap.size, 0, none⟩) 8 9), isP, isV (.slice (some ⟨w2.heap.size, 0, none⟩) 9 9), isI, isF, isV (.slice (some ⟨w2.heap.size, 0, none⟩) 9 9), isV (.slice (some ⟨w2.heap.size, 0, none⟩) 8 9), isP, isPs, isPs] 68 rfl rfl (stable_all (st_cons isP_st (st_cons isP_st (st_cons isI_st (st_cons isF_st (st_cons isP_st (st_cons isI_st (st_cons isF_st (st_cons isI_st (st_cons isP_st (st_cons isI_st (st_cons isF_st (st_cons isI_st (st_cons (isV_st _) (st_cons isL_st (st_cons isP_st (st_cons (isV_st _) (st_cons isF_st (st_cons isI_st (st_cons isP_st (st_cons (isV_st _) (st_cons (isV_st _) (st_cons isF_st (st_cons isI_st (st_cons isP_st (st_cons isI_st (st_cons isF_st (st_cons isI_st (st_cons isP_st (st_cons isI_st (st_cons isF_st (st_cons isI_st (st_cons isP_st (st_cons isF_st (st_cons (isV_st _) (st_cons (isV_st _) (st_cons isP_st (st_cons isF_st (st_cons (isV_st _) (st_cons (isV_st _) (st_cons isP_st (st_cons isF_st (st_cons (isV_st _) (st_cons isP_st (st_cons isI_st (st_cons isF_st (st_cons (isV_st _) (st_cons (isV_st _) (st_cons isL_st (st_cons isP_st (st_cons isI_st (st_cons isF_st (st_cons (isV_st _) (st_cons (isV_st _) (st_cons isL_st (st_cons isP_st (st_cons isI_st (st_cons isF_st (st_cons (isV_st _) (st_cons (isV_st _) (st_cons isP_st (st_cons (isV_st _) (st_cons isI_st (st_cons isF_st (st_cons (isV_st _) (st_cons (isV_st _) (st_cons isP_st (st_cons isPs_st (st_cons isPs_st st_nil))))))))))))))))))))))))))))))))))))))))))))))))))))))))))))))))))))) rfl rfl ?_ ?_
      · exact ⟨⟨rfl, rfl, (.inl rfl), fun a W9 K hd hb aw hk => wp_func0 rfl (enterC Try.func19 (by kernel_rfl) (by kernel_rfl)) ((usual_p W9).mono (fun e w1 ⟨v, e1, h1, h2⟩ => ⟨v, e1, hk _ _ h1 h2⟩))⟩,
          ⟨rfl, rfl, (.inl rfl), fun a W9 K hd hb aw hk => wp_buildN (us := #[]) rfl (by simp only [List.map_toArray, List.map_nil] <;> rfl) (bP0 W9) (hk _ _ (isP_of (nilF _) (nilI _) (nilL _)) After.rfl)⟩,
          ⟨rfl, rfl, (.inl rfl), fun a W9 K hd hb aw hk => by
          obtain ⟨v, w9, h1, h2, h3⟩ := bI1 (0) W9
          exact wp_sliceN (us := #[(0, .int .i64 (0))]) rfl (by simp only [List.map_toArray, List.map_cons, List.map_nil] <;> rfl) h1 (hk _ _ h2 h3)⟩,
          ⟨rfl, rfl, (.inl rfl), fun a W9 K hd hb aw hk => by
          obtain ⟨v, w9, h1, h2, h3⟩ := bF1 (v0 := a.eval (.tmp 40)) (hd 2 rfl)
          exact wp_sliceN (us := #[(0, a.eval (.tmp 40))]) rfl (by simp only [List.map_toArray, List.map_cons, List.map_nil] <;> rfl) h1 (hk _ _ h2 h3)⟩,
          ⟨rfl, rfl, (.inl rfl), fun a W9 K hd hb aw hk => wp_buildN (us := #[(0, a.eval (.tmp 41))]) rfl (by simp only [List.map_toArray, List.map_cons, List.map_nil] <;> rfl) (bP1 (v0 := a.eval (.tmp 41)) (hd 3 rfl)) (hk _ _ (isP_of (hd 3 rfl) (nilI _) (nilL _)) After.rfl)⟩,
          ⟨rfl, rfl, (.inl rfl), fun a W9 K hd hb aw hk => by
          obtain ⟨v, w9, h1, h2, h3⟩ := bI1 (2) W9
          exact wp_sliceN (us := #[(0, .int .i64 (2))]) rfl (by simp only [List.map_toArray, List.map_cons, List.map_nil] <;> rfl) h1 (hk _ _ h2 h3)⟩,
          ⟨rfl, rfl, (.inl rfl), fun a W9 K hd hb aw hk => by
          obtain ⟨v, w9, h1, h2, h3⟩ := bF1 (v0 := a.eval (.tmp 43)) (hd 5 rfl)
          exact wp_sliceN (us := #[(0, a.eval (.tmp 43))]) rfl (by simp only [List.map_toArray, List.map_cons, List.map_nil] <;> rfl) h1 (hk _ _ h2 h3)⟩,
          ⟨rfl, rfl, (.inl rfl), fun a W9 K hd hb aw hk => by
          obtain ⟨v, w9, h1, h2, h3⟩ := bI2 (5) (3) W9
          exact wp_sliceN (us := #[(0, .int .i64 (5)), (1, .int .i64 (3))]) rfl (by simp only [List.map_toArray, List.map_cons, List.map_nil] <;> rfl) h1 (hk _ _ h2 h3)⟩,
          ⟨rfl, rfl, (.inl rfl), fun a W9 K hd hb aw hk => wp_buildN (us := #[(0, a.eval (.tmp 44)), (1, a.eval (.tmp 45))]) rfl (by simp only [List.map_toArray, List.map_cons, List.map_nil] <;> rfl) (bP2 (v0 := a.eval (.tmp 44)) (v1 := a.eval (.tmp 45)) (hd 6 rfl) (hd 7 rfl)) (hk _ _ (isP_of (hd 6 rfl) (hd 7 rfl) (nilL _)) After.rfl)⟩,
          ⟨rfl, rfl, (.inl rfl), fun a W9 K hd hb aw hk => by
          obtain ⟨v, w9, h1, h2, h3⟩ := bI1 (0) W9
          exact wp_sliceN (us := #[(0, .int .i64 (0))]) rfl (by simp only [List.map_toArray, List.map_cons, List.map_nil] <;> rfl) h1 (hk _ _ h2 h3)⟩,
          ⟨rfl, rfl, (.inl rfl), fun a W9 K hd hb aw hk => by
          obtain ⟨v, w9, h1, h2, h3⟩ := bF1 (v0 := a.eval (.tmp 47)) (hd 9 rfl)
          exact wp_sliceN (us := #[(0, a.eval (.tmp 47))]) rfl (by simp only [List.map_toArray, List.map_cons, List.map_nil] <;> rfl) h1 (hk _ _ h2 h3)⟩,
          ⟨rfl, rfl, (.inl rfl), fun a W9 K hd hb aw hk => by
          obtain ⟨v, w9, h1, h2, h3⟩ := bI1 (5) W9
          exact wp_sliceN (us := #[(0, .int .i64 (5))]) rfl (by simp only [List.map_toArray, List.map_cons, List.map_nil] <;> rfl) h1 (hk _ _ h2 h3)⟩,
          ⟨rfl, rfl, (.inl rfl), fun a W9 K hd hb aw hk => wp_buildN (us := #[(0, .int .i64 (0)), (1, .int .i64 (1))]) rfl (by simp only [List.map_toArray, List.map_cons, List.map_nil] <;> rfl) (bQ 0 1 W9) (hk _ _ rfl After.rfl)⟩,
          ⟨rfl, rfl, (.inl rfl), fun a W9 K hd hb aw hk => by
          obtain ⟨v, w9, h1, h2, h3⟩ := bL1 0 1 W9
          exact wp_sliceN (us := #[(0, .agg #[.int .i64 0, .int .i64 1])]) rfl (by simp only [List.map_toArray, List.map_cons, List.map_nil]; rw [show a.eval (.tmp 50) = _ from hd 12 rfl]) h1 (hk _ _ h2 h3)⟩,
          ⟨rfl, rfl, (.inl rfl), fun a W9 K hd hb aw hk => wp_buildN (us := #[(0, a.eval (.tmp 48)), (1, a.eval (.tmp 49)), (2, a.eval (.tmp 51))]) rfl (by simp only [List.map_toArray, List.map_cons, List.map_nil] <;> rfl) (bP3 (v0 := a.eval (.tmp 48)) (v1 := a.eval (.tmp 49)) (v2 := a.eval (.tmp 51)) (hd 10 rfl) (hd 11 rfl) (hd 13 rfl)) (hk _ _ (isP_of (hd 10 rfl) (hd 11 rfl) (hd 13 rfl)) After.rfl)⟩,
          ⟨rfl, rfl, (.inl rfl), fun a W9 K hd hb aw hk => wp_move (.inl rfl) (show a.eval (.tmp 5) = .slice (some ⟨w2.heap.size, 0, none⟩) 9 9 from hb 5 rfl) (hk _ _ rfl After.rfl)⟩,
          ⟨rfl, rfl, (.inl rfl), fun a W9 K hd hb aw hk => by
          obtain ⟨v, w9, h1, h2, h3⟩ := bF1 (v0 := a.eval (.tmp 53)) (by rw [show a.eval (.tmp 53) = _ from hd 15 rfl]; exact (N9.out.after aw).i (by decide))
          exact wp_sliceN (us := #[(0, a.eval (.tmp 53))]) rfl (by simp only [List.map_toArray, List.map_cons, List.map_nil] <;> rfl) h1 (hk _ _ h2 h3)⟩,
          ⟨rfl, rfl, (.inl rfl), fun a W9 K hd hb aw hk => by
          obtain ⟨v, w9, h1, h2, h3⟩ := bI1 (5) W9
          exact wp_sliceN (us := #[(0, .int .i64 (5))]) rfl (by simp only [List.map_toArray, List.map_cons, List.map_nil] <;> rfl) h1 (hk _ _ h2 h3)⟩,
          ⟨rfl, rfl, (.inl rfl), fun a W9 K hd hb aw hk => wp_buildN (us := #[(0, a.eval (.tmp 54)), (1, a.eval (.tmp 55))]) rfl (by simp only [List.map_toArray, List.map_cons, List.map_nil] <;> rfl) (bP2 (v0 := a.eval (.tmp 54)) (v1 := a.eval (.tmp 55)) (hd 16 rfl) (hd 17 rfl)) (hk _ _ (isP_of (hd 16 rfl) (hd 17 rfl) (nilL _)) After.rfl)⟩,
          ⟨rfl, rfl, (.inl rfl), fun a W9 K hd hb aw hk => wp_move (.inl rfl) (show a.eval (.tmp 5) = .slice (some ⟨w2.heap.size, 0, none⟩) 9 9 from hb 5 rfl) (hk _ _ rfl After.rfl)⟩,
          ⟨rfl, rfl, (.inl rfl), fun a W9 K hd hb aw hk => wp_cutTo rfl (hd 19 rfl) rfl (cut9 W9 _) (hk _ _ rfl After.rfl)⟩,
          ⟨rfl, rfl, (.inl rfl), fun a W9 K hd hb aw hk => by
          obtain ⟨v, w9, h1, h2, h3⟩ := bF2 (v0 := a.eval (.tmp 58)) (v1 := .slice none 0 0) (by rw [show a.eval (.tmp 58) = _ from hd 20 rfl]; exact (N9.out.after aw).i (by decide)) (nilI W9)
          exact wp_sliceN (us := #[(0, a.eval (.tmp 58)), (1, .slice none 0 0)]) rfl (by simp only [List.map_toArray, List.map_cons, List.map_nil] <;> rfl) h1 (hk _ _ h2 h3)⟩,
          ⟨rfl, rfl, (.inl rfl), fun a W9 K hd hb aw hk => by
          obtain ⟨v, w9, h1, h2, h3⟩ := bI1 (1048576) W9
          exact wp_sliceN (us := #[(0, .int .i64 (1048576))]) rfl (by simp only [List.map_toArray, List.map_cons, List.map_nil] <;> rfl) h1 (hk _ _ h2 h3)⟩,
          ⟨rfl, rfl, (.inl rfl), fun a W9 K hd hb aw hk => wp_buildN (us := #[(0, a.eval (.tmp 59)), (1, a.eval (.tmp 60))]) rfl (by simp only [List.map_toArray, List.map_cons, List.map_nil] <;> rfl) (bP2 (v0 := a.eval (.tmp 59)) (v1 := a.eval (.tmp 60)) (hd 21 rfl) (hd 22 rfl)) (hk _ _ (isP_of (hd 21 rfl) (hd 22 rfl) (nilL _)) After.rfl)⟩,
          ⟨rfl, rfl, (.inl rfl), fun a W9 K hd hb aw hk => by
          obtain ⟨v, w9, h1, h2, h3⟩ := bI1 (0) W9
          exact wp_sliceN (us := #[(0, .int .i64 (0))]) rfl (by simp only [List.map_toArray, List.map_cons, List.map_nil] <;> rfl) h1 (hk _ _ h2 h3)⟩,
          ⟨rfl, rfl, (.inl rfl), fun a W9 K hd hb aw hk => by
          obtain ⟨v, w9, h1, h2, h3⟩ := bF1 (v0 := a.eval (.tmp 62)) (hd 24 rfl)
          exact wp_sliceN (us := #[(0, a.eval (.tmp 62))]) rfl (by simp only [List.map_toArray, List.map_cons, List.map_nil] <;> rfl) h1 (hk _ _ h2 h3)⟩,
          ⟨rfl, rfl, (.inl rfl), fun a W9 K hd hb aw hk => by
          obtain ⟨v, w9, h1, h2, h3⟩ := bI1 (1048577) W9
          exact wp_sliceN (us := #[(0, .int .i64 (1048577))]) rfl (by simp only [List.map_toArray, List.map_cons, List.map_nil] <;> rfl) h1 (hk _ _ h2 h3)⟩,
          ⟨rfl, rfl, (.inl rfl), fun a W9 K hd hb aw hk => wp_buildN (us := #[(0, a.eval (.tmp 63)), (1, a.eval (.tmp 64))]) rfl (by simp only [List.map_toArray, List.map_cons, List.map_nil] <;> rfl) (bP2 (v0 := a.eval (.tmp 63)) (v1 := a.eval (.tmp 64)) (hd 25 rfl) (hd 26 rfl)) (hk _ _ (isP_of (hd 25 rfl) (hd 26 rfl) (nilL _)) After.rfl)⟩,
          ⟨rfl, rfl, (.inl rfl), fun a W9 K hd hb aw hk => by
          obtain ⟨v, w9, h1, h2, h3⟩ := bI1 (0) W9
          exact wp_sliceN (us := #[(0, .int .i64 (0))]) rfl (by simp only [List.map_toArray, List.map_cons, List.map_nil] <;> rfl) h1 (hk _ _ h2 h3)⟩,
          ⟨rfl, rfl, (.inl rfl), fun a W9 K hd hb aw hk => by
          obtain ⟨v, w9, h1, h2, h3⟩ := bF1 (v0 := a.eval (.tmp 66)) (hd 28 rfl)
          exact wp_sliceN (us := #[(0, a.eval (.tmp 66))]) rfl (by simp only [List.map_toArray, List.map_cons, List.map_nil] <;> rfl) h1 (hk _ _ h2 h3)⟩,
          ⟨rfl, rfl, (.inl rfl), fun a W9 K hd hb aw hk => by
          obtain ⟨v, w9, h1, h2, h3⟩ := bI1 (-1) W9
          exact wp_sliceN (us := #[(0, .int .i64 (-1))]) rfl (by simp only [List.map_toArray, List.map_cons, List.map_nil] <;> rfl) h1 (hk _ _ h2 h3)⟩,
          ⟨rfl, rfl, (.inl rfl), fun a W9 K hd hb aw hk => wp_buildN (us := #[(0, a.eval (.tmp 67)), (1, a.eval (.tmp 68))]) rfl (by simp only [List.map_toArray, List.map_cons, List.map_nil] <;> rfl) (bP2 (v0 := a.eval (.tmp 67)) (v1 := a.eval (.tmp 68)) (hd 29 rfl) (hd 30 rfl)) (hk _ _ (isP_of (hd 29 rfl) (hd 30 rfl) (nilL _)) After.rfl)⟩,
          ⟨rfl, rfl, (.inl rfl), fun a W9 K hd hb aw hk => by
          obtain ⟨v, w9, h1, h2, h3⟩ := mF17 W9
          exact wp_makeS rfl h1 (hk _ _ h2 h3)⟩,
          ⟨rfl, rfl, (.inl rfl), fun a W9 K hd hb aw hk => wp_move (.inl rfl) (show a.eval (.tmp 5) = .slice (some ⟨w2.heap.size, 0, none⟩) 9 9 from hb 5 rfl) (hk _ _ rfl After.rfl)⟩,
          ⟨rfl, rfl, (.inl rfl), fun a W9 K hd hb aw hk => wp_cutTo rfl (hd 33 rfl) rfl (cut9 W9 _) (hk _ _ rfl After.rfl)⟩,
          ⟨rfl, rfl, (.inl rfl), fun a W9 K hd hb aw hk => wp_buildN (us := #[(0, a.eval (.tmp 70)), (1, a.eval (.tmp 72))]) rfl (by simp only [List.map_toArray, List.map_cons, List.map_nil] <;> rfl) (bP2 (v0 := a.eval (.tmp 70)) (v1 := a.eval (.tmp 72)) (hd 32 rfl) (by rw [show a.eval (.tmp 72) = _ from hd 34 rfl]; exact (N9.out.after aw).i (by decide))) (hk _ _ (isP_of (hd 32 rfl) (by rw [show a.eval (.tmp 72) = _ from hd 34 rfl]; exact (N9.out.after aw).i (by decide)) (nilL _)) After.rfl)⟩,
          ⟨rfl, rfl, (.inl rfl), fun a W9 K hd hb aw hk => by
          obtain ⟨v, w9, h1, h2, h3⟩ := mF16 W9
          exact wp_makeS rfl h1 (hk _ _ h2 h3)⟩,
          ⟨rfl, rfl, (.inl rfl), fun a W9 K hd hb aw hk => wp_move (.inl rfl) (show a.eval (.tmp 5) = .slice (some ⟨w2.heap.size, 0, none⟩) 9 9 from hb 5 rfl) (hk _ _ rfl After.rfl)⟩,
          ⟨rfl, rfl, (.inl rfl), fun a W9 K hd hb aw hk => wp_cutTo rfl (hd 37 rfl) rfl (cut9 W9 _) (hk _ _ rfl After.rfl)⟩,
          ⟨rfl, rfl, (.inl rfl), fun a W9 K hd hb aw hk => wp_buildN (us := #[(0, a.eval (.tmp 74)), (1, a.eval (.tmp 76))]) rfl (by simp only [List.map_toArray, List.map_cons, List.map_nil] <;> rfl) (bP2 (v0 := a.eval (.tmp 74)) (v1 := a.eval (.tmp 76)) (hd 36 rfl) (by rw [show a.eval (.tmp 76) = _ from hd 38 rfl]; exact (N9.out.after aw).i (by decide))) (hk _ _ (isP_of (hd 36 rfl) (by rw [show a.eval (.tmp 76) = _ from hd 38 rfl]; exact (N9.out.after aw).i (by decide)) (nilL _)) After.rfl)⟩,
          ⟨rfl, rfl, (.inl rfl), fun a W9 K hd hb aw hk => by
          obtain ⟨v, w9, h1, h2, h3⟩ := mF16 W9
          exact wp_makeS rfl h1 (hk _ _ h2 h3)⟩,
          ⟨rfl, rfl, (.inl rfl), fun a W9 K hd hb aw hk => wp_move (.inl rfl) (show a.eval (.tmp 5) = .slice (some ⟨w2.heap.size, 0, none⟩) 9 9 from hb 5 rfl) (hk _ _ rfl After.rfl)⟩,
          ⟨rfl, rfl, (.inl rfl), fun a W9 K hd hb aw hk => wp_buildN (us := #[(0, a.eval (.tmp 78)), (1, a.eval (.tmp 79))]) rfl (by simp only [List.map_toArray, List.map_cons, List.map_nil] <;> rfl) (bP2 (v0 := a.eval (.tmp 78)) (v1 := a.eval (.tmp 79)) (hd 40 rfl) (by rw [show a.eval (.tmp 79) = _ from hd 41 rfl]; exact (N9.out.after aw).i (by decide))) (hk _ _ (isP_of (hd 40 rfl) (by rw [show a.eval (.tmp 79) = _ from hd 41 rfl]; exact (N9.out.after aw).i (by decide)) (nilL _)) After.rfl)⟩,
          ⟨rfl, rfl, (.inl rfl), fun a W9 K hd hb aw hk => by
          obtain ⟨v, w9, h1, h2, h3⟩ := bI1 (0) W9
          exact wp_sliceN (us := #[(0, .int .i64 (0))]) rfl (by simp only [List.map_toArray, List.map_cons, List.map_nil] <;> rfl) h1 (hk _ _ h2 h3)⟩,
          ⟨rfl, rfl, (.inl rfl), fun a W9 K hd hb aw hk => by
          obtain ⟨v, w9, h1, h2, h3⟩ := bF1 (v0 := a.eval (.tmp 81)) (hd 43 rfl)
          exact wp_sliceN (us := #[(0, a.eval (.tmp 81))]) rfl (by simp only [List.map_toArray, List.map_cons, List.map_nil] <;> rfl) h1 (hk _ _ h2 h3)⟩,
          ⟨rfl, rfl, (.inl rfl), fun a W9 K hd hb aw hk => wp_move (.inl rfl) (show a.eval (.tmp 5) = .slice (some ⟨w2.heap.size, 0, none⟩) 9 9 from hb 5 rfl) (hk _ _ rfl After.rfl)⟩,
          ⟨rfl, rfl, (.inl rfl), fun a W9 K hd hb aw hk => wp_cutTo rfl (hd 45 rfl) rfl (cut9a W9 _) (hk _ _ rfl After.rfl)⟩,
          ⟨rfl, rfl, (.inl rfl), fun a W9 K hd hb aw hk => by
          obtain ⟨v, w9, h1, h2, h3⟩ := mL17 W9
          exact wp_makeS rfl h1 (hk _ _ h2 h3)⟩,
          ⟨rfl, rfl, (.inl rfl), fun a W9 K hd hb aw hk => wp_buildN (us := #[(0, a.eval (.tmp 82)), (1, a.eval (.tmp 84)), (2, a.eval (.tmp 85))]) rfl (by simp only [List.map_toArray, List.map_cons, List.map_nil] <;> rfl) (bP3 (v0 := a.eval (.tmp 82)) (v1 := a.eval (.tmp 84)) (v2 := a.eval (.tmp 85)) (hd 44 rfl) (by rw [show a.eval (.tmp 84) = _ from hd 46 rfl]; exact (N9.out.after aw).i (by decide)) (hd 47 rfl)) (hk _ _ (isP_of (hd 44 rfl) (by rw [show a.eval (.tmp 84) = _ from hd 46 rfl]; exact (N9.out.after aw).i (by decide)) (hd 47 rfl)) After.rfl)⟩,
          ⟨rfl, rfl, (.inl rfl), fun a W9 K hd hb aw hk => by
          obtain ⟨v, w9, h1, h2, h3⟩ := bI2 (0) (7) W9
          exact wp_sliceN (us := #[(0, .int .i64 (0)), (1, .int .i64 (7))]) rfl (by simp only [List.map_toArray, List.map_cons, List.map_nil] <;> rfl) h1 (hk _ _ h2 h3)⟩,
          ⟨rfl, rfl, (.inl rfl), fun a W9 K hd hb aw hk => by
          obtain ⟨v, w9, h1, h2, h3⟩ := bF1 (v0 := a.eval (.tmp 87)) (hd 49 rfl)
          exact wp_sliceN (us := #[(0, a.eval (.tmp 87))]) rfl (by simp only [List.map_toArray, List.map_cons, List.map_nil] <;> rfl) h1 (hk _ _ h2 h3)⟩,
          ⟨rfl, rfl, (.inl rfl), fun a W9 K hd hb aw hk => wp_move (.inl rfl) (show a.eval (.tmp 5) = .slice (some ⟨w2.heap.size, 0, none⟩) 9 9 from hb 5 rfl) (hk _ _ rfl After.rfl)⟩,
          ⟨rfl, rfl, (.inl rfl), fun a W9 K hd hb aw hk => wp_cutTo rfl (hd 51 rfl) rfl (cut9 W9 _) (hk _ _ rfl After.rfl)⟩,
          ⟨rfl, rfl, (.inl rfl), fun a W9 K hd hb aw hk => by
          obtain ⟨v, w9, h1, h2, h3⟩ := mL16 W9
          exact wp_makeS rfl h1 (hk _ _ h2 h3)⟩,
          ⟨rfl, rfl, (.inl rfl), fun a W9 K hd hb aw hk => wp_buildN (us := #[(0, a.eval (.tmp 88)), (1, a.eval (.tmp 90)), (2, a.eval (.tmp 91))]) rfl (by simp only [List.map_toArray, List.map_cons, List.map_nil] <;> rfl) (bP3 (v0 := a.eval (.tmp 88)) (v1 := a.eval (.tmp 90)) (v2 := a.eval (.tmp 91)) (hd 50 rfl) (by rw [show a.eval (.tmp 90) = _ from hd 52 rfl]; exact (N9.out.after aw).i (by decide)) (hd 53 rfl)) (hk _ _ (isP_of (hd 50 rfl) (by rw [show a.eval (.tmp 90) = _ from hd 52 rfl]; exact (N9.out.after aw).i (by decide)) (hd 53 rfl)) After.rfl)⟩,
          ⟨rfl, rfl, (.inl rfl), fun a W9 K hd hb aw hk => by
          obtain ⟨v, w9, h1, h2, h3⟩ := bI1 (-1) W9
          exact wp_sliceN (us := #[(0, .int .i64 (-1))]) rfl (by simp only [List.map_toArray, List.map_cons, List.map_nil] <;> rfl) h1 (hk _ _ h2 h3)⟩,
          ⟨rfl, rfl, (.inl rfl), fun a W9 K hd hb aw hk => by
          obtain ⟨v, w9, h1, h2, h3⟩ := bF1 (v0 := a.eval (.tmp 93)) (hd 55 rfl)
          exact wp_sliceN (us := #[(0, a.eval (.tmp 93))]) rfl (by simp only [List.map_toArray, List.map_cons, List.map_nil] <;> rfl) h1 (hk _ _ h2 h3)⟩,
          ⟨rfl, rfl, (.inl rfl), fun a W9 K hd hb aw hk => wp_move (.inl rfl) (show a.eval (.tmp 5) = .slice (some ⟨w2.heap.size, 0, none⟩) 9 9 from hb 5 rfl) (hk _ _ rfl After.rfl)⟩,
          ⟨rfl, rfl, (.inl rfl), fun a W9 K hd hb aw hk => wp_cutTo rfl (hd 57 rfl) rfl (cut9 W9 _) (hk _ _ rfl After.rfl)⟩,
          ⟨rfl, rfl, (.inl rfl), fun a W9 K hd hb aw hk => wp_buildN (us := #[(0, a.eval (.tmp 94)), (1, a.eval (.tmp 96))]) rfl (by simp only [List.map_toArray, List.map_cons, List.map_nil] <;> rfl) (bP2 (v0 := a.eval (.tmp 94)) (v1 := a.eval (.tmp 96)) (hd 56 rfl) (by rw [show a.eval (.tmp 96) = _ from hd 58 rfl]; exact (N9.out.after aw).i (by decide))) (hk _ _ (isP_of (hd 56 rfl) (by rw [show a.eval (.tmp 96) = _ from hd 58 rfl]; exact (N9.out.after aw).i (by decide)) (nilL _)) After.rfl)⟩,
          ⟨rfl, rfl, (.inl rfl), fun a W9 K hd hb aw hk => wp_move (.inl rfl) (show a.eval (.tmp 5) = .slice (some ⟨w2.heap.size, 0, none⟩) 9 9 from hb 5 rfl) (hk _ _ rfl After.rfl)⟩,
          ⟨rfl, rfl, (.inl rfl), fun a W9 K hd hb aw hk => by
          obtain ⟨v, w9, h1, h2, h3⟩ := bI1 (9) W9
          exact wp_sliceN (us := #[(0, .int .i64 (9))]) rfl (by simp only [List.map_toArray, List.map_cons, List.map_nil] <;> rfl) h1 (hk _ _ h2 h3)⟩,
          ⟨rfl, rfl, (.inl rfl), fun a W9 K hd hb aw hk => by
          obtain ⟨v, w9, h1, h2, h3⟩ := bF2 (v0 := a.eval (.tmp 98)) (v1 := a.eval (.tmp 99)) (by rw [show a.eval (.tmp 98) = _ from hd 60 rfl]; exact (N9.out.after aw).i (by decide)) (hd 61 rfl)
          exact wp_sliceN (us := #[(0, a.eval (.tmp 98)), (1, a.eval (.tmp 99))]) rfl (by simp only [List.map_toArray, List.map_cons, List.map_nil] <;> rfl) h1 (hk _ _ h2 h3)⟩,
          ⟨rfl, rfl, (.inl rfl), fun a W9 K hd hb aw hk => wp_move (.inl rfl) (show a.eval (.tmp 5) = .slice (some ⟨w2.heap.size, 0, none⟩) 9 9 from hb 5 rfl) (hk _ _ rfl After.rfl)⟩,
          ⟨rfl, rfl, (.inl rfl), fun a W9 K hd hb aw hk => wp_cutTo rfl (hd 63 rfl) rfl (cut9 W9 _) (hk _ _ rfl After.rfl)⟩,
          ⟨rfl, rfl, (.inl rfl), fun a W9 K hd hb aw hk => wp_buildN (us := #[(0, a.eval (.tmp 100)), (1, a.eval (.tmp 102))]) rfl (by simp only [List.map_toArray, List.map_cons, List.map_nil] <;> rfl) (bP2 (v0 := a.eval (.tmp 100)) (v1 := a.eval (.tmp 102)) (hd 62 rfl) (by rw [show a.eval (.tmp 102) = _ from hd 64 rfl]; exact (N9.out.after aw).i (by decide))) (hk _ _ (isP_of (hd 62 rfl) (by rw [show a.eval (.tmp 102) = _ from hd 64 rfl]; exact (N9.out.after aw).i (by decide)) (nilL _)) After.rfl)⟩,
          ⟨rfl, rfl, (.inl rfl), fun a W9 K hd hb aw hk => by
          obtain ⟨v, w9, h1, h2, h3⟩ := bPs (v0 := a.eval (.tmp 38)) (v1 := a.eval (.tmp 39)) (v2 := a.eval (.tmp 42)) (v3 := a.eval (.tmp 46)) (v4 := a.eval (.tmp 52)) (v5 := a.eval (.tmp 56)) (v6 := a.eval (.tmp 61)) (v7 := a.eval (.tmp 65)) (v8 := a.eval (.tmp 69)) (v9 := a.eval (.tmp 73)) (v10 := a.eval (.tmp 77)) (v11 := a.eval (.tmp 80)) (v12 := a.eval (.tmp 86)) (v13 := a.eval (.tmp 92)) (v14 := a.eval (.tmp 97)) (v15 := a.eval (.tmp 103)) (hd 0 rfl) (hd 1 rfl) (hd 4 rfl) (hd 8 rfl) (hd 14 rfl) (hd 18 rfl) (hd 23 rfl) (hd 27 rfl) (hd 31 rfl) (hd 35 rfl) (hd 39 rfl) (hd 42 rfl) (hd 48 rfl) (hd 54 rfl) (hd 59 rfl) (hd 65 rfl)
          exact wp_sliceN (us := #[(0, a.eval (.tmp 38)), (1, a.eval (.tmp 39)), (2, a.eval (.tmp 42)), (3, a.eval (.tmp 46)), (4, a.eval (.tmp 52)), (5, a.eval (.tmp 56)), (6, a.eval (.tmp 61)), (7, a.eval (.tmp 65)), (8, a.eval (.tmp 69)), (9, a.eval (.tmp 73)), (10, a.eval (.tmp 77)), (11, a.eval (.tmp 80)), (12, a.eval (.tmp 86)), (13, a.eval (.tmp 92)), (14, a.eval (.tmp 97)), (15, a.eval (.tmp 103))]) rfl (by simp only [List.map_toArray, List.map_cons, List.map_nil] <;> rfl) h1 (hk _ _ h2 h3)⟩,
          ⟨rfl, rfl, (.inl rfl), fun a W9 K hd hb aw hk => wp_move (.inr rfl) rfl (hk _ _ (hd 66 rfl) After.rfl)⟩,
          trivial⟩
      intro x9 w9 hx9 aw9
      obtain ⟨gP, ps, e67, r67, f67⟩ := hx9 67 (Nat.le_of_ble_eq_true rfl)
      simp only [sets, List.getD_cons_succ, List.getD_cons_zero, List.set_cons_succ, List.set_cons_zero]
      rw [e67]
      have HPs := hideIt (And.intro r67 f67)
      have A4 := hideIt (A3.out.trans aw9)
      clear hx9 e67 r67 f67 aw9
      go_wp2_with fail
      have hat : ∀ (i : Nat) (cs : Array Value) (T : TypeId), (tkW w9.heap.size)[i]? = some (cs, T) → (allocs w9 (tkW w9.heap.size)).heap[w9.heap.size + i]? = some (.cells cs T (0, 0)) := fun i cs T h => allocs_at (tkW w9.heap.size) w9 i cs T h
      have HTs := hideIt (tks_row hat)
      have A5 := hideIt (allocs_after (tkW w9.heap.size) w9).1
      clear hat
      show Code.wp _ _ _ _ (allocs w9 (tkW w9.heap.size))
      generalize allocs w9 (tkW w9.heap.size) = W at *
      have HPs := hideIt (show GRow plE W (some ⟨gP, 0, none⟩) 16 ps ∧ ∀ p ∈ ps, p.Fits W 1048576 from ⟨HPs.out.1.after A5.out, fun p hp => (HPs.out.2 p hp).after A5.out⟩)
      have A6 := hideIt (A4.out.trans A5.out)
      clear A3 A4 A5 N9
      go_loopw [10] (fun iv wr => ∃ j : Nat, j ≤ 16 ∧ iv = .int .i64 j ∧ After W wr) (fun iv _ => 16 - (intOf iv).toNat)
      case atStart => exact ⟨0, Nat.zero_le _, rfl, After.rfl⟩
      case round =>
        obtain ⟨j, hj, rfl, af⟩ := hrel
        by_cases hjn : j < 16
        · have i1 : (j : Int) < 16 := by omega
          obtain ⟨b1, f1, p, e1, hb1, hp1, c0, c1, c2⟩ := pl_at (HPs.out.1.after af) hjn
          cases e1
          rw [Nat.zero_add] at c0 c1 c2
          have hpf := HPs.out.2 p (List.mem_of_getElem? hp1)
          have HT := hideIt (law_ticks21 wr p (some ⟨w9.heap.size + 16, 0, none⟩) 6 (tks w9.heap.size) (hpf.after af) (HTs.out.1.after af) (fun t ht => (HTs.out.2 t ht).after af) (Nat.le_of_ble_eq_true rfl))
          have HF := hideIt (And.intro af hpf)
          have HC := hideIt (And.intro hb1 (And.intro c0 (And.intro c1 c2)))
          clear af hpf hp1
          go_wp2_with fail
          refine HT.out.mono ?_
          rintro e w5 ⟨rfl, a5⟩
          have HS := hideIt (law_steps21 w5 p (some ⟨w9.heap.size + 16, 0, none⟩) 6 (tks w9.heap.size) (HF.out.2.after (HF.out.1.trans a5)) (HTs.out.1.after (HF.out.1.trans a5)) (fun t ht => (HTs.out.2 t ht).after (HF.out.1.trans a5)) (Nat.le_of_ble_eq_true rfl))
          have c0 := cell_but a5 HC.out.1 (fun t => t) HC.out.2.1
          have c1 := cell_but a5 HC.out.1 (fun t => t) HC.out.2.2.1
          have c2 := cell_but a5 HC.out.1 (fun t => t) HC.out.2.2.2
          have A7 := hideIt (HF.out.1.trans a5)
          clear a5 HT hb1
          go_wp2_with fail
          refine HS.out.mono ?_
          rintro e w6 ⟨rfl, a6⟩
          have A8 := hideIt (A7.out.trans a6)
          clear a6 HS c0 c1 c2
          go_wp2_with fail
          go_roundw
          case rel => exact ⟨j + 1, by omega, by go_num, A8.out⟩
          case measure => simp [intOf]; omega
        · have i1 : ¬ (j : Int) < 16 := by omega
          have AF := hideIt af
          clear af
          go_wp2_with fail
          refine (awake_any wr).mono ?_
          rintro e w5 ⟨rfl, a5⟩
          have A7 := hideIt ((A6.out.trans AF.out).trans a5)
          clear a5
          go_wp2_with fail
          go_ret
          exact ⟨rfl, A7.out⟩
end Go.Proofs.Ytkjjjibglaffnaa
