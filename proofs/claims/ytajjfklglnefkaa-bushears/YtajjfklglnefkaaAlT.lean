/-
  The statements' helpers: Bring, EqInts, of lists that are the same or not.
-/
import Derived.Test.YtajjfklglnefkaaBlk
namespace Go.Proofs.Ytajjfklglnefkaa
open Go.RowKit
set_option maxRecDepth 8000
def broughtTo (i : Int) (m : Nat) : Nat := (i % (m : Int)).toNat
theorem broughtTo_lt (i : Int) {m : Nat} (h : 0 < m) : broughtTo i m < m := by
  unfold broughtTo
  have := Int.emod_lt_of_pos i (show (0 : Int) < (m : Int) by omega)
  have := Int.emod_nonneg i (show (m : Int) ≠ 0 by omega)
  omega
theorem bring_any (i : Int) (m : Nat) (w : World) (_h1 : -9223372036854775808 ≤ i) (_h2 : i ≤ 9223372036854775807) (hm : 0 < m) (hm2 : (m : Int) ≤ 4611686018427387904) :
    Calls Try.prog 13 #[.int .i64 i, .int .i64 m] w fun e w' => e = .returned (.int .i64 (broughtTo i m : Nat)) ∧ w' = w := by
  have hmp : (0 : Int) < (m : Int) := by omega
  have b1 := Int.lt_tmod_of_pos i hmp
  have b2 := Int.tmod_lt_of_pos i hmp
  have m1 := Int.emod_nonneg i (show (m : Int) ≠ 0 by omega)
  have m2 := Int.emod_lt_of_pos i hmp
  have e1 : (0 ≤ i.tmod m ∧ i.tmod m = i % m) ∨ (i.tmod m < 0 ∧ i.tmod m = i % m - m) := by
    by_cases h0 : 0 ≤ i
    · left
      have : i.tmod m = i % m := Int.tmod_eq_emod_of_nonneg h0
      omega
    · have e := Int.tmod_eq_emod (a := i) (b := (m : Int))
      by_cases hd : (m : Int) ∣ i
      · left
        rw [if_pos (.inr hd)] at e
        omega
      · right
        rw [if_neg (by intro h; rcases h with h | h; exact h0 h; exact hd h)] at e
        omega
  have HK := hideIt (show (broughtTo i m : Int) = i % m by unfold broughtTo; omega)
  have hne : ¬ (m : Int) = 0 := by omega
  generalize i % (m : Int) = e at *
  have HE := hideIt e1
  clear e1
  go_enter Try.func13, Try.ntmps13
  go_wp2
  all_goals go_ret
  · exact ⟨ret_int (by have := HK.out; have := HE.out; first | omega | (unfold wrap64; omega)), rfl⟩
  · exact ⟨ret_int (by have := HK.out; have := HE.out; omega), rfl⟩
theorem IRow.cellAt {w : World} {a : Option Addr} {n : Nat} {zs : List Int} (h : IRow w a n zs) {i : Nat} (hi : i < n) : ∃ b off, a = some ⟨b, off, none⟩ ∧ b < w.heap.size ∧ w.cell? ⟨b, off + i, none⟩ = some (.int .i64 (zs.getD i 0)) := h.2 i hi
set_option maxHeartbeats 1000000 in
theorem eqInts_any (w : World) (a a' : Option Addr) (n m c c' : Nat) (xs ys : List Int) (hx : IRow w a n xs) (hy : IRow w a' m ys) (hn : n ≤ 17592186044416) :
    Calls Try.prog 15 #[.slice a n c, .slice a' m c'] w fun e w' => e = .returned (.bool (decide (xs = ys))) ∧ After w w' := by
  have HX := hideIt hx
  have HY := hideIt hy
  have hn' : (n : Int) ≤ 17592186044416 := by omega
  by_cases hnm : n = m
  · subst hnm
    have hne : ((n : Int) != (n : Int)) = false := by simp
    clear hx hy
    go_enter Try.func15, Try.ntmps15
    go_wp2_with fail
    go_loopw [5] (fun i wr => ∃ j : Nat, j ≤ n ∧ i = .int .i64 j ∧ After w wr ∧ xs.take j = ys.take j) (fun i _ => n - (intOf i).toNat)
    case atStart => exact ⟨0, Nat.zero_le _, rfl, After.rfl, rfl⟩
    case round =>
      obtain ⟨j, hj, rfl, af, ht⟩ := hrel
      by_cases hjn : j < n
      · have i1 : (j : Int) < (n : Int) := by omega
        obtain ⟨b, off, rfl, hb, e1⟩ := (HX.out.after af).cellAt hjn
        obtain ⟨b', off', rfl, hb', e2⟩ := (HY.out.after af).cellAt hjn
        have hxl : j < xs.length := by have := HX.out.1; omega
        have hyl : j < ys.length := by have := HY.out.1; omega
        have tx : xs.take (j + 1) = xs.take j ++ [xs.getD j 0] := by rw [List.take_succ_eq_append_getElem hxl]; simp [hxl]
        have ty : ys.take (j + 1) = ys.take j ++ [ys.getD j 0] := by rw [List.take_succ_eq_append_getElem hyl]; simp [hyl]
        have AF := hideIt af
        have HT := hideIt (And.intro ht (And.intro tx ty))
        clear af ht tx ty hxl hyl
        generalize xs.getD j 0 = x at *
        generalize ys.getD j 0 = y at *
        by_cases hxy : x = y
        · subst hxy
          have hb : (x != x) = false := by simp
          go_wp2
          go_region
          go_wp2
          go_roundw
          case rel => exact ⟨j + 1, by omega, by go_num, But.drew AF.out, by rw [HT.out.2.1, HT.out.2.2, HT.out.1]⟩
          case measure => simp [intOf]; omega
        · have hb : (x != y) = true := by simpa using hxy
          have HD := hideIt (show decide (xs = ys) = false by
            rw [decide_eq_false_iff_not]
            intro e
            have t1 := HT.out.2.1
            have t2 := HT.out.2.2
            rw [e, t2] at t1
            have := List.append_inj_right' t1 rfl
            simp at this
            exact hxy this.symm)
          clear hxy
          go_wp2
          go_region
          go_wp2
          go_ret
          exact ⟨ret_bool HD.out.symm, But.drew AF.out⟩
      · have i1 : ¬ (j : Int) < (n : Int) := by omega
        have AF := hideIt af
        have HD := hideIt (show decide (xs = ys) = true by
          rw [decide_eq_true_iff]
          have h1 := HX.out.1
          have h2 := HY.out.1
          rw [List.take_of_length_le (by omega), List.take_of_length_le (by omega)] at ht
          exact ht)
        clear af ht
        go_wp2
        go_ret
        exact ⟨ret_bool HD.out.symm, AF.out⟩
  · have hne : ((n : Int) != (m : Int)) = true := by simp; omega
    have HD := hideIt (show decide (xs = ys) = false by
      rw [decide_eq_false_iff_not]
      intro e
      have h1 := hx.1
      have h2 := hy.1
      rw [e] at h1
      omega)
    clear hx hy hnm
    go_enter Try.func15, Try.ntmps15
    go_wp2
    go_ret
    exact ⟨ret_bool HD.out.symm, After.rfl⟩
end Go.Proofs.Ytajjfklglnefkaa
