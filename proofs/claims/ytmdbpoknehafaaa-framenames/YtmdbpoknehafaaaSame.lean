/-
  The statements' helpers: two lists of lists of bytes that are the same; Bring.
-/
import Derived.Test.YtmdbpoknehafaaaRefFeed
namespace Go.Proofs.Ytmdbpoknehafaaa
open Go.RowKit
/-- Two lists of which both lie in memory, at a place. -/
theorem Lst.at {w : World} {a : Option Addr} {n : Nat} {fs : List (List Int)} (h : Lst w a n fs) {i : Nat} (hi : i < n) : ∃ b off a1 c1, a = some ⟨b, off, none⟩ ∧ b < w.heap.size ∧ w.cell? ⟨b, off + i, none⟩ = some (.slice a1 (fs.getD i []).length c1) ∧ Row w a1 (fs.getD i []).length (fs.getD i []) ∧ (a1 = none → (fs.getD i []).length = 0 ∧ c1 = 0) ∧ (fs.getD i []).length ≤ c1 ∧ (fs.getD i []).length ≤ 140737488355328 := by
  obtain ⟨b, off, v, e, hb, hc, a1, c1, rfl, r1, r2, r3, r4⟩ := h.2 i hi
  exact ⟨b, off, a1, c1, e, hb, hc, r1, r2, r3, r4⟩
set_option maxRecDepth 100000 in
set_option maxHeartbeats 400000 in
theorem refSame_any (a a' : Option Addr) (n c c' : Nat) (fs : List (List Int)) (w : World) (h1 : Lst w a n fs) (h2 : Lst w a' n fs) (hn : n ≤ 140737488355328) :
    Calls Try.prog 14 #[.slice a n c, .slice a' n c'] w fun e w' => e = .returned (.bool true) ∧ After w w' := by
  have H1 := hideIt h1
  have H2 := hideIt h2
  clear h1 h2
  go_enter Try.func14, Try.ntmps14
  go_wp2
  go_loopw [5] (fun i W => ∃ k : Nat, k ≤ n ∧ i = .int .i64 k ∧ After w W) (fun i _ => n - (intOf i).toNat)
  case atStart => exact ⟨0, Nat.zero_le _, rfl, After.rfl⟩
  case round =>
    obtain ⟨k, hk, rfl, hA⟩ := hrel
    by_cases hlt : k < n
    · obtain ⟨b1, o1, p1, q1, rfl, g1, c1, r1, _, _, l1⟩ := (H1.out.after hA).at hlt
      obtain ⟨b2, o2, p2, q2, rfl, g2, c2, r2, _, _, _⟩ := (H2.out.after hA).at hlt
      generalize fs.getD k [] = z at *
      generalize hL : z.length = L at *
      have HE : Hid (∀ W, After wr W → Calls Try.prog 17 #[.slice p1 L q1, .slice p2 L q2] W fun e w' => e = .returned (.bool true) ∧ After W w') := fun W h => eqBytes_same p1 p2 L q1 q2 z W (r1.after h) (r2.after h) l1
      have HA := hideIt hA
      have C1 := hideIt c1
      have C2 := hideIt c2
      have G1 := hideIt g1
      have G2 := hideIt g2
      have hki : (k : Int) < (n : Int) := by omega
      have hk0 : (0 : Int) ≤ (k : Int) := by omega
      clear r1 r2 hA H1 H2 hL l1 g1 g2
      go_wp2_with fail
      go_region_held3 (fun W => W.cell? ⟨b1, o1 + k, none⟩ = some (.slice p1 L q1) ∧ W.cell? ⟨b2, o2 + k, none⟩ = some (.slice p2 L q2) ∧ After wr W)
        (first
          | exact ⟨C1.out, C2.out, But.drew After.rfl⟩
          | exact ⟨(After.cell hc (show b1 < _ from G1.out) _).trans C1.out, (After.cell hc (show b2 < _ from G2.out) _).trans C2.out, After.trans (After.rfl.draws _) hc⟩
          | assumption)
        (first
          | (go_at_call 17; refine (HE.out _ (by first | assumption | exact After.rfl.draws _ | exact But.drew After.rfl)).mono ?_; rintro e wc ⟨rfl, hc⟩))
      have HC := hideIt (HA.out.trans (After.trans (After.rfl.draws _) hc))
      clear hc
      go_wp2
      go_roundw
      case rel => exact ⟨k + 1, by omega, by go_num, HC.out⟩
      case measure => simp [intOf]; omega
    · go_wp2
      go_ret
      exact ⟨rfl, hA⟩
set_option maxRecDepth 100000 in
set_option maxHeartbeats 400000 in
theorem same_any (a a' : Option Addr) (n c c' : Nat) (fs : List (List Int)) (w : World) (h1 : Lst w a n fs) (h2 : Lst w a' n fs) (hn : n ≤ 140737488355328) :
    Calls Try.prog 22 #[.slice a n c, .slice a' n c'] w fun e w' => e = .returned (.bool true) ∧ After w w' := by
  have H1 := hideIt h1
  have H2 := hideIt h2
  clear h1 h2
  go_enter Try.func22, Try.ntmps22
  go_wp2
  go_loopw [5] (fun i W => ∃ k : Nat, k ≤ n ∧ i = .int .i64 k ∧ After w W) (fun i _ => n - (intOf i).toNat)
  case atStart => exact ⟨0, Nat.zero_le _, rfl, After.rfl⟩
  case round =>
    obtain ⟨k, hk, rfl, hA⟩ := hrel
    by_cases hlt : k < n
    · obtain ⟨b1, o1, p1, q1, rfl, g1, c1, r1, _, _, l1⟩ := (H1.out.after hA).at hlt
      obtain ⟨b2, o2, p2, q2, rfl, g2, c2, r2, _, _, _⟩ := (H2.out.after hA).at hlt
      generalize fs.getD k [] = z at *
      generalize hL : z.length = L at *
      have HE : Hid (∀ W, After wr W → Calls Try.prog 17 #[.slice p1 L q1, .slice p2 L q2] W fun e w' => e = .returned (.bool true) ∧ After W w') := fun W h => eqBytes_same p1 p2 L q1 q2 z W (r1.after h) (r2.after h) l1
      have HA := hideIt hA
      have C1 := hideIt c1
      have C2 := hideIt c2
      have G1 := hideIt g1
      have G2 := hideIt g2
      have hki : (k : Int) < (n : Int) := by omega
      have hk0 : (0 : Int) ≤ (k : Int) := by omega
      clear r1 r2 hA H1 H2 hL l1 g1 g2
      go_wp2_with fail
      go_region_held3 (fun W => W.cell? ⟨b1, o1 + k, none⟩ = some (.slice p1 L q1) ∧ W.cell? ⟨b2, o2 + k, none⟩ = some (.slice p2 L q2) ∧ After wr W)
        (first
          | exact ⟨C1.out, C2.out, But.drew After.rfl⟩
          | exact ⟨(After.cell hc (show b1 < _ from G1.out) _).trans C1.out, (After.cell hc (show b2 < _ from G2.out) _).trans C2.out, After.trans (After.rfl.draws _) hc⟩
          | assumption)
        (first
          | (go_at_call 17; refine (HE.out _ (by first | assumption | exact After.rfl.draws _ | exact But.drew After.rfl)).mono ?_; rintro e wc ⟨rfl, hc⟩))
      have HC := hideIt (HA.out.trans (After.trans (After.rfl.draws _) hc))
      clear hc
      go_wp2
      go_roundw
      case rel => exact ⟨k + 1, by omega, by go_num, HC.out⟩
      case measure => simp [intOf]; omega
    · go_wp2
      go_ret
      exact ⟨rfl, hA⟩
/-- A number that is brought into 0 .. m - 1. -/
def broughtTo (i : Int) (m : Nat) : Nat := (i % (m : Int)).toNat
theorem brought_lt (i : Int) {m : Nat} (h : 0 < m) : broughtTo i m < m := by
  unfold broughtTo
  have h1 := Int.emod_nonneg i (show (m : Int) ≠ 0 by omega)
  have h2 := Int.emod_lt_of_pos i (show (0 : Int) < (m : Int) by omega)
  omega
theorem bring_any (i : Int) (m : Nat) (w : World) (_h1 : -9223372036854775808 ≤ i) (_h2 : i ≤ 9223372036854775807) (hm : 0 < m) (hm2 : m ≤ 9223372036854775807) :
    Calls Try.prog 21 #[.int .i64 i, .int .i64 m] w fun e w' => e = .returned (.int .i64 (broughtTo i m : Nat)) ∧ w' = w := by
  have hmp : (0 : Int) < (m : Int) := by omega
  have b1 := Int.lt_tmod_of_pos i hmp
  have b2 := Int.tmod_lt_of_pos i hmp
  have m1 := Int.emod_nonneg i (show (m : Int) ≠ 0 by omega)
  have m2 := Int.emod_lt_of_pos i hmp
  have e1 : (0 ≤ i.tmod m ∧ i.tmod m = i % m) ∨ (i.tmod m < 0 ∧ i.tmod m = i % m - m) := by
    by_cases h0 : 0 ≤ i
    · left
      have : i.tmod m = i % m := Int.tmod_eq_emod_of_nonneg h0
      omega
    · have e := Int.tmod_eq_emod (a := i) (b := (m : Int))
      by_cases hd : (m : Int) ∣ i
      · left
        rw [if_pos (.inr hd)] at e
        omega
      · right
        rw [if_neg (by intro h; rcases h with h | h; exact h0 h; exact hd h)] at e
        omega
  have HK := hideIt (show (broughtTo i m : Int) = i % m by unfold broughtTo; omega)
  have hne : ¬ (m : Int) = 0 := by omega
  generalize i % (m : Int) = e at *
  have HE := hideIt e1
  clear e1
  go_enter Try.func21, Try.ntmps21
  go_wp2
  all_goals go_ret
  · exact ⟨ret_int (by have := HK.out; have := HE.out; first | omega | (unfold wrap64; omega)), rfl⟩
  · exact ⟨ret_int (by have := HK.out; have := HE.out; omega), rfl⟩
end Go.Proofs.Ytmdbpoknehafaaa
