/-
  tells: Fixed and Float answer as the document says, of any real.
-/
import Derived.Test.YtjblckljbgelaaaRefFix
import Derived.Test.YtjblckljbgelaaaRefFlo
import Derived.Deep.RegionHeld3
import Derived.Deep.DrawnRows
namespace Go.Proofs.Ytjblckljbgelaaa
open Go.RowKit
open Fl (fl)
attribute [local go_sem ↓] Go.wp_at_zero Go.wp_at_succ
theorem After.keep {W w1 : World} (h : After W w1) {b o : Nat} {v : Value} (hc : W.cell? ⟨b, o, none⟩ = some v) : w1.cell? ⟨b, o, none⟩ = some v := by
  rw [h.cell.1 b o ?_]
  · exact hc
  · by_cases hb : b < W.heap.size
    · exact hb
    · exfalso
      unfold World.cell? at hc
      have : W.heap[b]? = none := by simp; omega
      simp [this] at hc
theorem keep3 {W w1 : World} (h : After W w1) {b : Nat} {x y z : Value} (hc : W.cell? ⟨b, 0, none⟩ = some x ∧ W.cell? ⟨b, 1, none⟩ = some y ∧ W.cell? ⟨b, 2, none⟩ = some z) : w1.cell? ⟨b, 0, none⟩ = some x ∧ w1.cell? ⟨b, 1, none⟩ = some y ∧ w1.cell? ⟨b, 2, none⟩ = some z :=
  ⟨h.keep hc.1, h.keep hc.2.1, h.keep hc.2.2⟩
set_option maxHeartbeats 4000000 in
theorem tells_yes (k m e : Int) (w : World) (hn : numB k m e = true) :
    Calls Try.prog 13 #[.agg #[.int .i64 k, .int .i64 m, .int .i64 e]] w fun x w' => x = .returned (.bool true) ∧ After w w' := by
  obtain ⟨hk0, h1, h2, h3, h4⟩ := num_bd hn
  subst hk0
  have hs := same_yes hn
  go_enter Try.func13, Try.ntmps13
  go_wp2_with fail
  refine (fixed_yes 0 m e _ hn h3 h4).mono ?_
  rintro e' w1 ⟨rfl, a1⟩
  obtain ⟨hc1, hf1⟩ := a1.cell
  go_wp2_with fail
  refine (refFixed_yes 0 m e _ hn).mono ?_
  rintro e' w2 ⟨rfl, b2⟩
  have a2 := a1.trans b2
  obtain ⟨hc2, hf2⟩ := a2.cell
  clear hc1 hf1 b2 a1
  generalize fixZ m e = F
  have c0 : w2.cell? ⟨w.heap.size, 0, none⟩ = some (.int .i64 0) := by rw [hc2 _ _ (by simp)]; simp
  have c1 : w2.cell? ⟨w.heap.size, 1, none⟩ = some (.int .i64 m) := by rw [hc2 _ _ (by simp)]; simp
  have c2 : w2.cell? ⟨w.heap.size, 2, none⟩ = some (.int .i64 e) := by rw [hc2 _ _ (by simp)]; simp
  clear hc2 hf2
  go_wp2_with fail
  go_region_held3 (fun w' => w'.cell? ⟨w.heap.size, 0, none⟩ = some (.int .i64 0) ∧ w'.cell? ⟨w.heap.size, 1, none⟩ = some (.int .i64 m) ∧ w'.cell? ⟨w.heap.size, 2, none⟩ = some (.int .i64 e))
    (first | go_keep | exact keep3 h33 (by assumption) | exact keep3 h27 (by assumption) | exact keep3 h27 ⟨c0, c1, c2⟩)
    (first
      | (go_at_call 27; refine (float_yes 0 m e _ hn).mono ?_; rintro e' w3 ⟨rfl, h27⟩)
      | (go_at_call 33; refine (refFloat_yes 0 m e _ hn).mono ?_; rintro e' w4 ⟨rfl, h33⟩)
      | (go_at_call 32; refine (same_any _ _ _ hs).mono ?_; rintro e' w5 ⟨rfl, rfl⟩))
  go_wp2
  go_ret
  exact ⟨rfl, ((((After.rfl.alloc _).trans a2).drew.trans h27).trans h33)⟩
set_option maxHeartbeats 4000000 in
theorem tells_no (k m e : Int) (w : World) (hn : numB k m e = false) :
    Calls Try.prog 13 #[.agg #[.int .i64 k, .int .i64 m, .int .i64 e]] w fun x w' => x = .returned (.bool true) ∧ After w w' := by
  go_enter Try.func13, Try.ntmps13
  go_wp2_with fail
  refine (fixed_no k m e _ hn).mono ?_
  rintro e' w1 ⟨rfl, a1⟩
  obtain ⟨hc1, hf1⟩ := a1.cell
  go_wp2_with fail
  refine (refFixed_no k m e _ hn).mono ?_
  rintro e' w2 ⟨rfl, b2⟩
  have a2 := a1.trans b2
  obtain ⟨hc2, hf2⟩ := a2.cell
  clear hc1 hf1 b2 a1
  have c0 : w2.cell? ⟨w.heap.size, 0, none⟩ = some (.int .i64 k) := by rw [hc2 _ _ (by simp)]; simp
  have c1 : w2.cell? ⟨w.heap.size, 1, none⟩ = some (.int .i64 m) := by rw [hc2 _ _ (by simp)]; simp
  have c2 : w2.cell? ⟨w.heap.size, 2, none⟩ = some (.int .i64 e) := by rw [hc2 _ _ (by simp)]; simp
  clear hc2 hf2
  go_wp2_with fail
  go_region_held3 (fun w' => w'.cell? ⟨w.heap.size, 0, none⟩ = some (.int .i64 k) ∧ w'.cell? ⟨w.heap.size, 1, none⟩ = some (.int .i64 m) ∧ w'.cell? ⟨w.heap.size, 2, none⟩ = some (.int .i64 e))
    (first | go_keep | exact keep3 h33 (by assumption) | exact keep3 h27 (by assumption) | exact keep3 h27 ⟨c0, c1, c2⟩)
    (first
      | (go_at_call 27; refine (float_no k m e _ hn).mono ?_; rintro e' w3 ⟨⟨b3, rfl, g3⟩, h27⟩)
      | (go_at_call 33; refine (refFloat_no k m e _ hn).mono ?_; rintro e' w4 ⟨⟨b4, rfl, g4⟩, h33⟩)
      | (go_at_call 32; refine (same_any _ _ _ (same_no g3 g4)).mono ?_; rintro e' w5 ⟨rfl, rfl⟩))
  go_wp2
  go_ret
  exact ⟨rfl, ((((After.rfl.alloc _).trans a2).drew.trans h27).trans h33)⟩
theorem tells_any (k m e : Int) (w : World) :
    Calls Try.prog 13 #[.agg #[.int .i64 k, .int .i64 m, .int .i64 e]] w fun x w' => x = .returned (.bool true) ∧ After w w' := by
  by_cases hn : numB k m e = true
  · exact tells_yes k m e w hn
  · exact tells_no k m e w (by simpa using hn)
end Go.Proofs.Ytjblckljbgelaaa
