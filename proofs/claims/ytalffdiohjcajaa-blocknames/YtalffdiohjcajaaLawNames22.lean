/-
  BlockNames: chapter 22's numbers and examples; devices that are none.
-/
import Derived.Test.YtalffdiohjcajaaDbNa
namespace Go.Proofs.Ytalffdiohjcajaa
open Go.RowKit
open Ig Iv
set_option maxRecDepth 8000
/-- The chapter's calls. -/
def nmL (q1 q2 q3 : Nat) : List Dox := [⟨1, 0, 1, 0, none, 0, 0⟩, ⟨0, 0, 0, 0, none, 0, 0⟩, ⟨4, 0, 0, 0, none, 0, 0⟩, ⟨0, 0, 0, 0, none, 0, 0⟩, ⟨4, 0, 0, 0, none, 0, 0⟩, ⟨5, 0, 0, 0, none, 0, 0⟩, ⟨0, 0, 0, 0, none, 0, 0⟩, ⟨1, 0, 1, 0, none, 0, 0⟩, ⟨2, 0, 0, 0, none, 0, 0⟩, ⟨1, 0, 2, 0, none, 0, 0⟩, ⟨1, 1, 2, 0, none, 0, 0⟩, ⟨5, 0, 0, 0, some ⟨q1, 0, none⟩, 2, 2⟩, ⟨0, 0, 0, 0, none, 0, 0⟩, ⟨0, 1, 0, 0, none, 0, 0⟩, ⟨3, 1, 0, 0, none, 0, 0⟩, ⟨1, 0, 1, 0, none, 0, 0⟩, ⟨1, 1, 1, 0, none, 0, 0⟩, ⟨2, 0, 0, 0, none, 0, 0⟩, ⟨3, 1, 0, 0, none, 0, 0⟩, ⟨5, 0, 0, 0, some ⟨q2, 0, none⟩, 1, 1⟩, ⟨0, 0, 0, 0, none, 0, 0⟩, ⟨1, 2, 0, 0, none, 0, 0⟩, ⟨1, 0, 0, 1, none, 0, 0⟩, ⟨1, 0, 0, (-1), none, 0, 0⟩, ⟨1, (-1), 0, 0, none, 0, 0⟩, ⟨3, (-9), 0, 0, none, 0, 0⟩, ⟨2, 0, 0, 0, none, 0, 0⟩, ⟨3, 0, 0, 0, none, 0, 0⟩, ⟨1, 9, 0, 0, none, 0, 0⟩, ⟨2, 0, 0, 0, none, 0, 0⟩, ⟨5, 0, 0, 0, some ⟨q3, 0, none⟩, 1, 1⟩]
/-- A number that fits. -/
def sml (z : Int) : Bool := decide (-100 ≤ z) && decide (z ≤ 100)
theorem sml_of {z : Int} (h : sml z = true) : -9223372036854775808 ≤ z ∧ z ≤ 9223372036854775807 := by
  unfold sml at h
  rw [Bool.and_eq_true, decide_eq_true_iff, decide_eq_true_iff] at h
  omega
/-- A call without choices, or with these. -/
theorem do_none {w : World} {x : Dox} (h : (sml x.k && sml x.i && sml x.v) = true) (ha : x.a = none) (hn : x.n = 0) (hc : x.c = 0) : DoIn w x := by
  rw [Bool.and_eq_true, Bool.and_eq_true] at h
  obtain ⟨k, i, v, s, a, n, c⟩ := x
  dsimp only at h ha hn hc
  subst ha hn hc
  exact ⟨[], (sml_of h.1.1).1, (sml_of h.1.1).2, (sml_of h.1.2).1, (sml_of h.1.2).2, (sml_of h.2).1, (sml_of h.2).2, IRow.nil _ _, fun _ => ⟨rfl, rfl⟩, Nat.le_refl _, by show (0 : Nat) ≤ 17592186044416; decide, (fun z hz => by cases hz), fun y hy => by cases hy⟩
theorem do_some {w : World} {q n : Nat} {ch : List Int} (h : IRow w (some ⟨q, 0, none⟩) n ch) (hq : q < w.heap.size) (hn : n ≤ 100) (hs : ∀ z ∈ ch, sml z = true) : DoIn w ⟨5, 0, 0, 0, some ⟨q, 0, none⟩, n, n⟩ :=
  ⟨ch, by show (-9223372036854775808 : Int) ≤ 5; decide, by show (5 : Int) ≤ 9223372036854775807; decide, by show (-9223372036854775808 : Int) ≤ 0; decide, by show (0 : Int) ≤ 9223372036854775807; decide, by show (-9223372036854775808 : Int) ≤ 0; decide, by show (0 : Int) ≤ 9223372036854775807; decide, h, (fun e => by cases e), Nat.le_refl _, by show n ≤ 17592186044416; omega, fun z hz => sml_of (hs z hz), fun y hy _ e => by cases hy; exact absurd e (by show ¬ w.heap.size ≤ q; omega)⟩
theorem DoIn.after {w w' : World} {x : Dox} (h : DoIn w x) (a : After w w') : DoIn w' x := by
  obtain ⟨ch, h⟩ := h
  exact ⟨ch, { h with
    row := h.row.after a
    off := fun y hy h0 e => by
      obtain ⟨b, off, e', hb, _⟩ := h.row.2 0 h0
      rw [hy] at e'
      cases e'
      have e : w'.heap.size ≤ b := e
      have := a.size
      omega }⟩
theorem nm_in {w : World} {q1 q2 q3 : Nat} (h1 : IRow w (some ⟨q1, 0, none⟩) 2 [11, 1]) (h2 : IRow w (some ⟨q2, 0, none⟩) 1 [1]) (h3 : IRow w (some ⟨q3, 0, none⟩) 1 [-1]) (l1 : q1 < w.heap.size) (l2 : q2 < w.heap.size) (l3 : q3 < w.heap.size) : ∀ x ∈ nmL q1 q2 q3, DoIn w x := by
  intro x hx
  unfold nmL at hx
  simp only [List.mem_cons, List.not_mem_nil, or_false] at hx
  rcases hx with rfl | rfl | rfl | rfl | rfl | rfl | rfl | rfl | rfl | rfl | rfl | rfl | rfl | rfl | rfl | rfl | rfl | rfl | rfl | rfl | rfl | rfl | rfl | rfl | rfl | rfl | rfl | rfl | rfl | rfl | rfl
  · exact do_none (by decide) rfl rfl rfl
  · exact do_none (by decide) rfl rfl rfl
  · exact do_none (by decide) rfl rfl rfl
  · exact do_none (by decide) rfl rfl rfl
  · exact do_none (by decide) rfl rfl rfl
  · exact do_none (by decide) rfl rfl rfl
  · exact do_none (by decide) rfl rfl rfl
  · exact do_none (by decide) rfl rfl rfl
  · exact do_none (by decide) rfl rfl rfl
  · exact do_none (by decide) rfl rfl rfl
  · exact do_none (by decide) rfl rfl rfl
  · exact do_some h1 l1 (by decide) (by decide)
  · exact do_none (by decide) rfl rfl rfl
  · exact do_none (by decide) rfl rfl rfl
  · exact do_none (by decide) rfl rfl rfl
  · exact do_none (by decide) rfl rfl rfl
  · exact do_none (by decide) rfl rfl rfl
  · exact do_none (by decide) rfl rfl rfl
  · exact do_none (by decide) rfl rfl rfl
  · exact do_some h2 l2 (by decide) (by decide)
  · exact do_none (by decide) rfl rfl rfl
  · exact do_none (by decide) rfl rfl rfl
  · exact do_none (by decide) rfl rfl rfl
  · exact do_none (by decide) rfl rfl rfl
  · exact do_none (by decide) rfl rfl rfl
  · exact do_none (by decide) rfl rfl rfl
  · exact do_none (by decide) rfl rfl rfl
  · exact do_none (by decide) rfl rfl rfl
  · exact do_none (by decide) rfl rfl rfl
  · exact do_none (by decide) rfl rfl rfl
  · exact do_some h3 l3 (by decide) (by decide)
theorem seven : ∀ i, i < 7 → -9223372036854775808 ≤ ([-1, 0, 1, 2, 256, 257, 4611686018427387904] : List Int).getD i 0 ∧ ([-1, 0, 1, 2, 256, 257, 4611686018427387904] : List Int).getD i 0 ≤ 9223372036854775807 := by
  decide
set_option maxHeartbeats 4000000 in
theorem law_names22 (w : World) : Calls Try.prog 7 #[] w fun e w' => e = .returned (.bool true) ∧ After w w' := by
  have HA := hideIt (fun W => awakeB_any W)
  go_enter Try.func7, Try.ntmps7
  go_wp2_with fail
  go_loopw [1, 2] (fun v iv wr => ∃ i : Nat, i ≤ 2 ∧ iv = .int .i64 i ∧ NoneD wr v ∧ After w wr) (fun _ iv _ => 2 - (intOf iv).toNat)
  case atStart => exact ⟨0, by omega, rfl, .inl rfl, After.rfl⟩
  case round =>
    obtain ⟨i, hi, rfl, hn, aw⟩ := hrel
    by_cases hi2 : i < 2
    · have i1 : (i : Int) < 2 := by omega
      have H1 := hideIt (none_read hn 0)
      have H2 := hideIt (none_write hn 0 (.slice none 0 0))
      have H3 := hideIt (none_flush hn)
      have H4 := hideIt (none_sectors hn)
      have H5 := hideIt (none_arm hn 1)
      have H6 := hideIt (none_crash hn)
      have H7 := hideIt (none_boot hn (.slice none 0 0))
      have H8 := hideIt (none_dead hn)
      have AW := hideIt aw
      clear hn aw
      go_wp2_with (first
        | (go_at_call 18; refine H1.out.mono ?_; rintro e W4 ⟨rfl, h4⟩; obtain rfl := h4.symm)
        | (go_at_call 12; refine H2.out.mono ?_; rintro e W4 ⟨rfl, h4⟩; obtain rfl := h4.symm)
        | (go_at_call 14; refine H3.out.mono ?_; rintro e W4 ⟨rfl, h4⟩; obtain rfl := h4.symm)
        | (go_at_call 21; refine H4.out.mono ?_; rintro e W4 ⟨rfl, h4⟩; obtain rfl := h4.symm)
        | (go_at_call 19; refine H5.out.mono ?_; rintro e W4 ⟨rfl, h4⟩; obtain rfl := h4.symm)
        | (go_at_call 15; refine H6.out.mono ?_; rintro e W4 ⟨rfl, h4⟩; obtain rfl := h4.symm)
        | (go_at_call 17; refine H7.out.mono ?_; rintro e W4 ⟨rfl, h4⟩; obtain rfl := h4.symm)
        | (go_at_call 16; refine H8.out.mono ?_; rintro e W4 ⟨rfl, h4⟩; obtain rfl := h4.symm)
        | fail)
      exact ⟨⟨i + 1, by omega, by simp, .inr ⟨_, rfl, heap_alloc_new _ _⟩, AW.out.alloc _⟩, by simp [intOf]; omega⟩
    · have i1 : ¬ (i : Int) < 2 := by omega
      have AW := hideIt aw
      clear hn aw
      go_upto_region 10 with fail
      have a3 : After wr (((wr.alloc (.cells #[.int .i64 11, .int .i64 1] 3)).alloc (.cells #[.int .i64 1] 3)).alloc (.cells #[.int .i64 (-1)] 3)) := ((After.rfl.alloc _).alloc _).alloc _
      have b1 := heap_alloc_new wr (.cells #[.int .i64 11, .int .i64 1] 3)
      have b2 := heap_alloc_new (wr.alloc (.cells #[.int .i64 11, .int .i64 1] 3)) (.cells #[.int .i64 1] 3)
      have b3 := heap_alloc_new ((wr.alloc (.cells #[.int .i64 11, .int .i64 1] 3)).alloc (.cells #[.int .i64 1] 3)) (.cells #[.int .i64 (-1)] 3)
      have b2 := After.at (After.rfl.alloc (.cells #[.int .i64 (-1)] 3)) b2
      have b1 := After.at (After.rfl.alloc (.cells #[.int .i64 (-1)] 3)) (After.at (After.rfl.alloc (.cells #[.int .i64 1] 3)) b1)
      have z1 : (wr.alloc (.cells #[.int .i64 11, .int .i64 1] 3)).heap.size = wr.heap.size + 1 := by simp
      have z2 : ((wr.alloc (.cells #[.int .i64 11, .int .i64 1] 3)).alloc (.cells #[.int .i64 1] 3)).heap.size = wr.heap.size + 1 + 1 := by simp
      have z3 : (((wr.alloc (.cells #[.int .i64 11, .int .i64 1] 3)).alloc (.cells #[.int .i64 1] 3)).alloc (.cells #[.int .i64 (-1)] 3)).heap.size = wr.heap.size + 1 + 1 + 1 := by simp
      rw [z1] at b2
      rw [z2] at b3
      have hW := AW.out
      clear AW z1 z2
      generalize ((wr.alloc (.cells #[.int .i64 11, .int .i64 1] 3)).alloc (.cells #[.int .i64 1] 3)).alloc (.cells #[.int .i64 (-1)] 3) = W4 at *
      generalize wr.heap.size = q at *
      show Code.wp _ _ _ _ (W4.alloc (.cells (doE.flat (nmL q (q + 1) (q + 1 + 1))).toArray 34))
      have a5 : After W4 (W4.alloc (.cells (doE.flat (nmL q (q + 1) (q + 1 + 1))).toArray 34)) := After.rfl.alloc _
      have b5 := heap_alloc_new W4 (.cells (doE.flat (nmL q (q + 1) (q + 1 + 1))).toArray 34)
      have z5 : (W4.alloc (.cells (doE.flat (nmL q (q + 1) (q + 1 + 1))).toArray 34)).heap.size = q + 1 + 1 + 1 + 1 := by simp [z3]
      rw [z3] at b5
      generalize W4.alloc (.cells (doE.flat (nmL q (q + 1) (q + 1 + 1))).toArray 34) = W5 at *
      have hxs := lit_row (E := doE) (c := 31) (xs := nmL q (q + 1) (q + 1 + 1)) b5 rfl rfl
      have hin := nm_in (w := W5) (lit_irow (After.at a5 b1) rfl rfl) (lit_irow (After.at a5 b2) rfl rfl) (lit_irow (After.at a5 b3) rfl rfl) (by omega) (by omega) (by omega)
      have hAW : After w W5 := hW.trans (a3.trans a5)
      have H5 := hideIt (And.intro hxs (And.intro hin hAW))
      clear a3 b1 b2 b3 z3 hW a5 b5 hxs hin hAW
      go_wp2_with fail
      have b6 := heap_alloc_new W5 (.cells #[.int .i64 (-1), .int .i64 0, .int .i64 1, .int .i64 2, .int .i64 256, .int .i64 257, .int .i64 4611686018427387904] 3)
      have a6 : After W5 (W5.alloc (.cells #[.int .i64 (-1), .int .i64 0, .int .i64 1, .int .i64 2, .int .i64 256, .int .i64 257, .int .i64 4611686018427387904] 3)) := After.rfl.alloc _
      rw [z5] at b6
      have h6 := lit_irow (zs := [-1, 0, 1, 2, 256, 257, 4611686018427387904]) b6 rfl rfl
      have Z6 := hideIt (And.intro a6 h6)
      clear b6 a6 h6
      generalize W5.alloc (.cells #[.int .i64 (-1), .int .i64 0, .int .i64 1, .int .i64 2, .int .i64 256, .int .i64 257, .int .i64 4611686018427387904] 3) = W6 at *
      go_loopw [7] (fun iv wr => ∃ j : Nat, j ≤ 7 ∧ iv = .int .i64 j ∧ After W6 wr) (fun iv _ => 7 - (intOf iv).toNat)
      case atStart => exact ⟨0, by omega, rfl, After.rfl⟩
      case round =>
        obtain ⟨j, hj, rfl, aw⟩ := hrel
        by_cases hj7 : j < 7
        · have j1 : (j : Int) < 7 := by omega
          obtain ⟨bb, off, eb, hb, d0⟩ := (Z6.out.2.after aw).2 j hj7
          have hz := seven j hj7
          generalize ([-1, 0, 1, 2, 256, 257, 4611686018427387904] : List Int).getD j 0 = z at *
          cases eb
          rw [Nat.zero_add] at d0
          have hx := H5.out.1.after (Z6.out.1.trans aw)
          have HP := hideIt (law_plays22 _ z hz.1 hz.2 _ _ 31 _ hx (fun x h => (H5.out.2.1 x h).after (Z6.out.1.trans aw)))
          have AW := hideIt aw
          clear aw hx hb
          go_wp2_with (first
            | (go_at_call 3; refine HP.out.mono ?_; rintro e w7 ⟨rfl, a7⟩; have A7 := hideIt a7; clear a7)
            | fail)
          exact ⟨⟨j + 1, by omega, by simp, AW.out.trans A7.out⟩, by simp [intOf]; omega⟩
        · have j1 : ¬ (j : Int) < 7 := by omega
          have AW := hideIt aw
          clear aw
          go_wp2_with (first
            | (go_at_call 10; refine (HA.out _).mono ?_; rintro e w9 ⟨rfl, a9⟩; have A9 := hideIt a9; clear a9)
            | fail)
          go_ret
          exact ⟨rfl, H5.out.2.2.trans (Z6.out.1.trans (AW.out.trans A9.out))⟩
end Go.Proofs.Ytalffdiohjcajaa
