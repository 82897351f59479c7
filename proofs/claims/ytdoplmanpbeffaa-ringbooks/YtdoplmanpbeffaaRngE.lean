/-
  The statements' helpers: awake, Bring; both rings side by side.
-/
import Derived.Test.YtdoplmanpbeffaaRngB
import Derived.Test.YtdoplmanpbeffaaRngD
namespace Go.Proofs.Ytdoplmanpbeffaa
open Go.RowKit
set_option maxRecDepth 8000
set_option maxHeartbeats 1000000 in
theorem awakeR_any (w : World) : Calls Try.prog 9 #[] w fun e w' => e = .returned (.bool true) ∧ After w w' := by
  have HN := hideIt (rgNew_ok w 2 (by omega) (by omega))
  have x0 : Rg (w.alloc (.cells (zeroC 2) 45)) w.heap.size 2 Sg.new := rg_new (heap_alloc_new w _) (by omega) (by omega)
  have a0 : After w (w.alloc (.cells (zeroC 2) 45)) := After.rfl.alloc _
  generalize w.alloc (.cells (zeroC 2) 45) = w1 at HN x0 a0
  have HX := hideIt (And.intro x0 a0)
  clear x0 a0
  go_enter Try.func9, Try.ntmps9
  go_wp2_with fail
  refine HN.out.mono ?_
  rintro e w' ⟨rfl, rfl⟩
  go_wp2_with fail
  refine (rgPut_any HX.out.1 (by decide) 1).mono ?_
  rintro e w2 ⟨rfl, x, b⟩
  have HY := hideIt (And.intro x (HX.out.2.then b (fun i hi t => by have : i = w.heap.size := t; omega)))
  clear x b HX
  go_wp2_with fail
  refine (rgPut_any HY.out.1 (by decide) 2).mono ?_
  rintro e w3 ⟨rfl, x, b⟩
  have HX := hideIt (And.intro x (HY.out.2.then b (fun i hi t => by have : i = w.heap.size := t; omega)))
  clear x b HY
  go_wp2_with fail
  refine (rgPut_any HX.out.1 (by decide) 3).mono ?_
  rintro e w4 ⟨rfl, x, b⟩
  have HY := hideIt (And.intro (show Rg w4 w.heap.size 2 ⟨[2, 3], 1, 1⟩ from x) (HX.out.2.then b (fun i hi t => by have : i = w.heap.size := t; omega)))
  clear x b HX
  go_wp2_with fail
  refine (rgTake_some HY.out.1).mono ?_
  rintro e w5 ⟨rfl, x, b⟩
  have HX := hideIt (And.intro (hideIt (rgLen_any x)) (And.intro (hideIt (rgLost_any x)) (HY.out.2.then b (fun i hi t => by have : i = w.heap.size := t; omega))))
  clear x b HY
  go_wp2_with (first | (go_at_call 14; refine HX.out.1.out.mono ?_; rintro e w' ⟨rfl, rfl⟩) | (go_at_call 16; refine HX.out.2.1.out.mono ?_; rintro e w' ⟨rfl, rfl⟩))
  go_ret
  exact ⟨rfl, HX.out.2.2⟩
def broughtTo (i : Int) (m : Nat) : Nat := (i % (m : Int)).toNat
theorem broughtTo_lt (i : Int) {m : Nat} (h : 0 < m) : broughtTo i m < m := by
  unfold broughtTo
  have := Int.emod_lt_of_pos i (show (0 : Int) < (m : Int) by omega)
  have := Int.emod_nonneg i (show (m : Int) ≠ 0 by omega)
  omega
theorem bring_any (i : Int) (m : Nat) (w : World) (_h1 : -9223372036854775808 ≤ i) (_h2 : i ≤ 9223372036854775807) (hm : 0 < m) (hm2 : m ≤ 1000) :
    Calls Try.prog 18 #[.int .i64 i, .int .i64 m] w fun e w' => e = .returned (.int .i64 (broughtTo i m : Nat)) ∧ w' = w := by
  have hmp : (0 : Int) < (m : Int) := by omega
  have b1 := Int.lt_tmod_of_pos i hmp
  have b2 := Int.tmod_lt_of_pos i hmp
  have m1 := Int.emod_nonneg i (show (m : Int) ≠ 0 by omega)
  have m2 := Int.emod_lt_of_pos i hmp
  have e1 : (0 ≤ i.tmod m ∧ i.tmod m = i % m) ∨ (i.tmod m < 0 ∧ i.tmod m = i % m - m) := by
    by_cases h0 : 0 ≤ i
    · left
      have : i.tmod m = i % m := Int.tmod_eq_emod_of_nonneg h0
      omega
    · have e := Int.tmod_eq_emod (a := i) (b := (m : Int))
      by_cases hd : (m : Int) ∣ i
      · left
        rw [if_pos (.inr hd)] at e
        omega
      · right
        rw [if_neg (by intro h; rcases h with h | h; exact h0 h; exact hd h)] at e
        omega
  have HK := hideIt (show (broughtTo i m : Int) = i % m by unfold broughtTo; omega)
  have hne : ¬ (m : Int) = 0 := by omega
  generalize i % (m : Int) = e at *
  have HE := hideIt e1
  clear e1
  go_enter Try.func18, Try.ntmps18
  go_wp2
  all_goals go_ret
  · exact ⟨ret_int (by have := HK.out; have := HE.out; first | omega | (unfold wrap64; omega)), rfl⟩
  · exact ⟨ret_int (by have := HK.out; have := HE.out; omega), rfl⟩
end Go.Proofs.Ytdoplmanpbeffaa
