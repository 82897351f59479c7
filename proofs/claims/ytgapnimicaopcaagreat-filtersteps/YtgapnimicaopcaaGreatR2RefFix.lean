/-
  The document's Fixed.
-/
import Derived.Test.YtgapnimicaopcaaGreatR2Fix
namespace Go.Proofs.YtgapnimicaopcaaGreat.L2
open Go.RowKit
theorem quo_bd (n P : Int) (h0 : 0 ≤ n) (h1 : n ≤ 8388605) (hP : 0 < P) (hQ : P ≤ 100000000) : 0 ≤ (2 * n + P) / (2 * P) ∧ (2 * n + P) / (2 * P) ≤ 116777210 := by
  refine ⟨Int.ediv_nonneg (by omega) (by omega), ?_⟩
  have := Int.ediv_le_self (2 * P) (show 0 ≤ 2 * n + P by omega)
  omega
theorem wrap_in {q : Int} (h : 0 ≤ q ∧ q ≤ 116777210) : wrap64 q = q := by unfold wrap64; omega
theorem wrap_inn {q : Int} (h : 0 ≤ q ∧ q ≤ 116777210) : wrap64 (-q) = -q := by unfold wrap64; omega
theorem refFixed_no (k m e : Int) (w : World) (hn : numB k m e = false) :
    Calls Tryz.prog 23 #[.agg #[.int .i64 k, .int .i64 m, .int .i64 e]] w fun x w' => x = .returned (.tuple #[.int .i64 0, .bool false]) ∧ After w w' := by
  by_cases hm0 : mayB k m e = true
  · have hm := hm0
    have hk : k ≠ 0 := by
      intro e0; subst e0
      have := mayB_iff.1 hm
      rw [num_of (by omega)] at hn; cases hn
    have hk2 : (k != 0) = true := by simpa using hk
    clear hn hm0
    go_enter Tryz.func23, Tryz.ntmps23
    go_wp2_with (go_at_call 21; refine (refMay_any _ _ _ _).mono ?_; rintro e w1 ⟨rfl, ha⟩; obtain ⟨hc, hf⟩ := ha.cell; rw [hm])
    go_ret2
    exact ⟨rfl, (After.rfl.alloc _).trans ha⟩
  · have hm : mayB k m e = false := by simpa using hm0
    clear hn hm0
    go_enter Tryz.func23, Tryz.ntmps23
    go_wp2_with (go_at_call 21; refine (refMay_any _ _ _ _).mono ?_; rintro e w1 ⟨rfl, ha⟩; obtain ⟨hc, hf⟩ := ha.cell; rw [hm])
    go_ret2
    exact ⟨rfl, (After.rfl.alloc _).trans ha⟩
theorem refFixed_dn (m e : Int) (w : World) (h1 : -8388605 ≤ m) (h2 : m ≤ 8388605) (h3 : -128 ≤ e) (h4 : e ≤ -3) :
    Calls Tryz.prog 23 #[.agg #[.int .i64 0, .int .i64 m, .int .i64 e]] w fun x w' => x = .returned (.tuple #[.int .i64 (fixZ m e), .bool true]) ∧ After w w' := by
  have hm : mayB 0 m e = true := mayB_iff.2 (by omega)
  go_enter Tryz.func23, Tryz.ntmps23
  go_wp2_with (go_at_call 21; refine (refMay_any _ _ _ _).mono ?_; rintro e w1 ⟨rfl, ha⟩; obtain ⟨hc, hf⟩ := ha.cell; rw [hm])
  go_loop [4, 5] (fun n i => n = .int .i64 m ∧ i = .int .i64 (e + 3)) (fun _ i => (intOf i).toNat)
  case atStart => exact ⟨rfl, rfl⟩
  case round =>
    obtain ⟨rfl, rfl⟩ := hrel
    go_wp2
    go_loop [6, 7] (fun p i => ∃ j : Nat, (j : Int) ≤ -3 - e ∧ j ≤ 8 ∧ i = .int .i64 (e + 3 + j) ∧ p = .int .i64 (tp j)) (fun _ i => (0 - intOf i).toNat)
    case atStart => exact ⟨0, by omega, by omega, by simp, rfl⟩
    case round =>
      obtain ⟨j, hj, hj8, rfl, rfl⟩ := hrel
      have b1 := tp_pos j
      have b2 := tp_le9 (k := j) (by omega)
      have HS := hideIt (tp_succ j)
      by_cases hlt : e + 3 + (j : Int) < 0
      · by_cases h8 : j = 8
        · subst h8
          have HZ := hideIt (fix_dn_far m e h1 h2 (by omega))
          have h88 : 100000000 < tp 8 * 10 := by decide
          go_wp2
          go_ret2
          exact ⟨ret_ib HZ.out.symm, (After.rfl.alloc _).trans ha⟩
        · have hle : tp j * 10 ≤ 100000000 := by
            have := tp_mono (show j + 1 ≤ 8 by omega)
            rw [tp_succ, tp_8] at this; exact this
          go_wp2
          go_round
          case rel => exact ⟨j + 1, by omega, by omega, by go_num, by rw [HS.out]⟩
          case measure => simp [intOf]; omega
      · have HF := hideIt (fix_dn_in m e j h1 h2 (by omega) (by omega))
        have b3 : tp j ≤ 100000000 := by have := tp_mono (show j ≤ 8 by omega); rw [tp_8] at this; exact this
        by_cases hs : m < 0
        · have HL := hideIt (ref_line_neg m (tp j) b1 (by omega))
          generalize tp j = P at *
          have HB := hideIt (quo_bd (-m) P (by omega) (by omega) b1 b3)
          go_wp2
          go_ret2
          exact ⟨ret_ib (by rw [HF.out, ← HL.out, show -(2 * m) = 2 * (-m) by omega]; exact wrap_inn HB.out), (After.rfl.alloc _).trans ha⟩
        · have HL := hideIt (ref_line m (tp j) b1 (by omega))
          generalize tp j = P at *
          have HB := hideIt (quo_bd m P (by omega) h2 b1 b3)
          go_wp2
          go_ret2
          exact ⟨ret_ib (by rw [HF.out, ← HL.out]; exact wrap_in HB.out), (After.rfl.alloc _).trans ha⟩

theorem up_one (m t : Int) (h : 1 ≤ m) (ht : 0 < t) : 1 ≤ m * t := by have := Int.mul_pos (show 0 < m by omega) ht; omega
theorem dn_one (m t : Int) (h : m ≤ -1) (ht : 0 < t) : m * t ≤ -1 := by have := Int.mul_pos (show 0 < -m by omega) ht; rw [Int.neg_mul] at this; omega
theorem up_nine (m : Int) (j : Nat) (h : 1 ≤ m) (hb : m * tp j ≤ 2147483647) : j ≤ 9 := by
  by_cases hj : j ≤ 9
  · exact hj
  · exfalso
    have h1 := tp_mono (show 10 ≤ j by omega)
    rw [tp_10] at h1
    have h2 : 1 * tp j ≤ m * tp j := Int.mul_le_mul_of_nonneg_right h (by have := tp_pos j; omega)
    omega
theorem dn_nine (m : Int) (j : Nat) (h : m ≤ -1) (hb : -2147483647 ≤ m * tp j) : j ≤ 9 := up_nine (-m) j (by omega) (by rw [Int.neg_mul]; omega)

theorem refFixed_up (m e : Int) (w : World) (h1 : 1 ≤ m) (h2 : m ≤ 8388605) (h3 : -2 ≤ e) (h4 : e ≤ 127) :
    Calls Tryz.prog 23 #[.agg #[.int .i64 0, .int .i64 m, .int .i64 e]] w fun x w' => x = .returned (.tuple #[.int .i64 (fixZ m e), .bool true]) ∧ After w w' := by
  have hm : mayB 0 m e = true := mayB_iff.2 (by omega)
  go_enter Tryz.func23, Tryz.ntmps23
  go_wp2_with (go_at_call 21; refine (refMay_any _ _ _ _).mono ?_; rintro e w1 ⟨rfl, ha⟩; obtain ⟨hc, hf⟩ := ha.cell; rw [hm])
  go_loop [4, 5] (fun n i => ∃ j : Nat, (j : Int) ≤ e + 3 ∧ m * tp j ≤ 2147483647 ∧ i = .int .i64 (e + 3 - j) ∧ n = .int .i64 (m * tp j)) (fun _ i => (intOf i).toNat)
  case atStart => exact ⟨0, by omega, by rw [tp_zero]; omega, by simp, by rw [tp_zero, Int.mul_one]⟩
  case round =>
    obtain ⟨j, hj, hb, rfl, rfl⟩ := hrel
    have bp := tp_pos j
    have b1 : 1 ≤ m * tp j := up_one m (tp j) h1 bp
    have hj9 : j ≤ 9 := up_nine m j h1 hb
    have HS : Hid (m * tp (j + 1) = m * tp j * 10) := hideIt (by rw [tp_succ, Int.mul_assoc])
    have hne : (m * tp j != 0) = true := by rw [bne_iff_ne]; omega
    by_cases hlt : 0 < e + 3 - (j : Int)
    · by_cases hov : 2147483647 < m * tp j * 10
      · have HZ := hideIt (fix_up_hi m e (j + 1) h2 h1 (by omega) (by omega) (by rw [HS.out]; exact hov))
        clear HS
        generalize m * tp j = N at *
        have HC : Hid (cl (N * 10) = 2147483647) := hideIt (by unfold cl; rw [if_neg (by omega), if_pos hov])
        go_wp2_with (go_at_call 44; refine (refClamp_any _ _).mono ?_; rintro e w2 ⟨rfl, rfl⟩)
        go_ret2
        exact ⟨ret_ib (by rw [HC.out, HZ.out]), (After.rfl.alloc _).trans ha⟩
      · have hrest : m * tp (j + 1) ≤ 2147483647 := by rw [HS.out]; omega
        have HR := hideIt hrest
        clear hrest
        generalize hN : m * tp j = N at *
        clear hN
        go_wp2
        go_round
        case rel => exact ⟨j + 1, by omega, HR.out, by go_num, by rw [HS.out]⟩
        case measure => simp [intOf]; omega
    · obtain hje : e + 3 = (j : Int) := by omega
      have HF := hideIt (fix_up_in m e j (by omega) (by omega) hje hj9 (by omega) (by omega))
      clear HS hje
      generalize m * tp j = N at *
      go_wp2
      go_loop [6, 7] (fun p i => i = .int .i64 (e + 3) ∧ p = .int .i64 1) (fun _ i => (0 - intOf i).toNat)
      case atStart => exact ⟨rfl, rfl⟩
      case round =>
        obtain ⟨rfl, rfl⟩ := hrel
        go_wp2
        go_ret2
        exact ⟨ret_ib (by rw [HF.out]; omega), (After.rfl.alloc _).trans ha⟩

theorem refFixed_un (m e : Int) (w : World) (h1 : m ≤ -1) (h2 : -8388605 ≤ m) (h3 : -2 ≤ e) (h4 : e ≤ 127) :
    Calls Tryz.prog 23 #[.agg #[.int .i64 0, .int .i64 m, .int .i64 e]] w fun x w' => x = .returned (.tuple #[.int .i64 (fixZ m e), .bool true]) ∧ After w w' := by
  have hm : mayB 0 m e = true := mayB_iff.2 (by omega)
  go_enter Tryz.func23, Tryz.ntmps23
  go_wp2_with (go_at_call 21; refine (refMay_any _ _ _ _).mono ?_; rintro e w1 ⟨rfl, ha⟩; obtain ⟨hc, hf⟩ := ha.cell; rw [hm])
  go_loop [4, 5] (fun n i => ∃ j : Nat, (j : Int) ≤ e + 3 ∧ -2147483647 ≤ m * tp j ∧ i = .int .i64 (e + 3 - j) ∧ n = .int .i64 (m * tp j)) (fun _ i => (intOf i).toNat)
  case atStart => exact ⟨0, by omega, by rw [tp_zero]; omega, by simp, by rw [tp_zero, Int.mul_one]⟩
  case round =>
    obtain ⟨j, hj, hb, rfl, rfl⟩ := hrel
    have bp := tp_pos j
    have b1 : m * tp j ≤ -1 := dn_one m (tp j) h1 bp
    have hj9 : j ≤ 9 := dn_nine m j h1 hb
    have HS : Hid (m * tp (j + 1) = m * tp j * 10) := hideIt (by rw [tp_succ, Int.mul_assoc])
    have hne : (m * tp j != 0) = true := by rw [bne_iff_ne]; omega
    by_cases hlt : 0 < e + 3 - (j : Int)
    · by_cases hov : m * tp j * 10 < -2147483647
      · have HZ := hideIt (fix_up_lo m e (j + 1) h2 h1 (by omega) (by omega) (by rw [HS.out]; exact hov))
        clear HS
        generalize m * tp j = N at *
        have HC : Hid (cl (N * 10) = -2147483647) := hideIt (by unfold cl; rw [if_pos hov])
        go_wp2_with (go_at_call 44; refine (refClamp_any _ _).mono ?_; rintro e w2 ⟨rfl, rfl⟩)
        go_ret2
        exact ⟨ret_ib (by rw [HC.out, HZ.out]), (After.rfl.alloc _).trans ha⟩
      · have hrest : -2147483647 ≤ m * tp (j + 1) := by rw [HS.out]; omega
        have HR := hideIt hrest
        clear hrest
        generalize hN : m * tp j = N at *
        clear hN
        go_wp2
        go_round
        case rel => exact ⟨j + 1, by omega, HR.out, by go_num, by rw [HS.out]⟩
        case measure => simp [intOf]; omega
    · obtain hje : e + 3 = (j : Int) := by omega
      have HF := hideIt (fix_up_in m e j (by omega) (by omega) hje hj9 (by omega) (by omega))
      clear HS hje
      generalize m * tp j = N at *
      go_wp2
      go_loop [6, 7] (fun p i => i = .int .i64 (e + 3) ∧ p = .int .i64 1) (fun _ i => (0 - intOf i).toNat)
      case atStart => exact ⟨rfl, rfl⟩
      case round =>
        obtain ⟨rfl, rfl⟩ := hrel
        go_wp2
        go_ret2
        exact ⟨ret_ib (by rw [HF.out]; omega), (After.rfl.alloc _).trans ha⟩

theorem refFixed_zero (e : Int) (w : World) (h3 : -2 ≤ e) (h4 : e ≤ 127) :
    Calls Tryz.prog 23 #[.agg #[.int .i64 0, .int .i64 0, .int .i64 e]] w fun x w' => x = .returned (.tuple #[.int .i64 (fixZ 0 e), .bool true]) ∧ After w w' := by
  have hm : mayB 0 0 e = true := mayB_iff.2 (by omega)
  rw [fix_zero]
  go_enter Tryz.func23, Tryz.ntmps23
  go_wp2_with (go_at_call 21; refine (refMay_any _ _ _ _).mono ?_; rintro e w1 ⟨rfl, ha⟩; obtain ⟨hc, hf⟩ := ha.cell; rw [hm])
  go_loop [4, 5] (fun n i => i = .int .i64 (e + 3) ∧ n = .int .i64 0) (fun _ i => (intOf i).toNat)
  case atStart => exact ⟨rfl, rfl⟩
  case round =>
    obtain ⟨rfl, rfl⟩ := hrel
    go_wp2
    go_loop [6, 7] (fun p i => i = .int .i64 (e + 3) ∧ p = .int .i64 1) (fun _ i => (0 - intOf i).toNat)
    case atStart => exact ⟨rfl, rfl⟩
    case round =>
      obtain ⟨rfl, rfl⟩ := hrel
      go_wp2
      go_ret2
      exact ⟨rfl, (After.rfl.alloc _).trans ha⟩
theorem refFixed_yes (k m e : Int) (w : World) (hn : numB k m e = true) :
    Calls Tryz.prog 23 #[.agg #[.int .i64 k, .int .i64 m, .int .i64 e]] w fun x w' => x = .returned (.tuple #[.int .i64 (fixZ m e), .bool true]) ∧ After w w' := by
  obtain ⟨rfl, h1, h2, h3, h4⟩ := num_bd hn
  by_cases he : e ≤ -3
  · exact refFixed_dn m e w h1 h2 h3 he
  · by_cases hz : m = 0
    · subst hz; exact refFixed_zero e w (by omega) h4
    · by_cases hp : 1 ≤ m
      · exact refFixed_up m e w hp h2 (by omega) h4
      · exact refFixed_un m e w (by omega) h1 (by omega) h4
end Go.Proofs.YtgapnimicaopcaaGreat.L2
