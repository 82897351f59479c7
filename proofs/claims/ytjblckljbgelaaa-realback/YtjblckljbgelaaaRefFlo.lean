/-
  The document's Float, and same.
-/
import Derived.Test.YtjblckljbgelaaaFlo
namespace Go.Proofs.Ytjblckljbgelaaa
open Go.RowKit
open Fl (fl wUp wDn NaN)
theorem refFloat_no (k m e : Int) (w : World) (hn : numB k m e = false) :
    Calls Try.prog 33 #[.agg #[.int .i64 k, .int .i64 m, .int .i64 e]] w fun x w' => (∃ b, x = .returned (.float .f64 b) ∧ FlNo k m e b) ∧ After w w' := by
  by_cases hm0 : mayB k m e = true
  · have hm := hm0
    have hk : k ≠ 0 := by
      intro e0; subst e0
      have := mayB_iff.1 hm
      rw [num_of (by omega)] at hn; cases hn
    have g0 : (k == 0) = false := by simpa using hk
    clear hn
    by_cases h3 : k = 3
    · subst h3
      have hno : FlNo 3 m e 9218868437227405312 := by unfold FlNo; rw [if_pos ⟨hm, rfl⟩]
      have HN := hideIt hno
      clear hno hm0
      go_enter Try.func33, Try.ntmps33
      go_wp2_with (first | (go_at_call 37; refine (refMay_any _ _ _ _).mono ?_; rintro e w1 ⟨rfl, ha⟩; obtain ⟨hc, hf⟩ := ha.cell; rw [hm]) | (simp only [run_inf]))
      go_ret
      exact ⟨⟨_, rfl, HN.out⟩, (After.rfl.alloc _).trans ha⟩
    · by_cases h4 : k = 4
      · subst h4
        have hno : FlNo 4 m e 18442240474082181120 := by unfold FlNo; rw [if_neg (by omega), if_pos ⟨hm, rfl⟩]
        have HN := hideIt hno
        clear hno hm0 h3
        go_enter Try.func33, Try.ntmps33
        go_wp2_with (first | (go_at_call 37; refine (refMay_any _ _ _ _).mono ?_; rintro e w1 ⟨rfl, ha⟩; obtain ⟨hc, hf⟩ := ha.cell; rw [hm]) | (simp only [run_minf]))
        go_ret
        exact ⟨⟨_, rfl, HN.out⟩, (After.rfl.alloc _).trans ha⟩
      · have hno : ∀ b, NaN b → FlNo k m e b := by intro b hb; unfold FlNo; rw [if_neg (by omega), if_neg (by omega)]; exact hb
        have HN := hideIt hno
        have g3 : (k == 3) = false := by simpa using h3
        have g4 : (k == 4) = false := by simpa using h4
        clear hno hm0 h3 h4
        go_enter Try.func33, Try.ntmps33
        go_wp2_with (first | (go_at_call 37; refine (refMay_any _ _ _ _).mono ?_; rintro e w1 ⟨rfl, ha⟩; obtain ⟨hc, hf⟩ := ha.cell; rw [hm]) | (simp only [run_nan]))
        go_ret
        exact ⟨⟨_, rfl, HN.out _ (nan_of _)⟩, ((After.rfl.alloc _).trans ha).drew⟩
  · have hm : mayB k m e = false := by simpa using hm0
    have hno : ∀ b, NaN b → FlNo k m e b := by intro b hb; unfold FlNo; rw [if_neg (by simp [hm]), if_neg (by simp [hm])]; exact hb
    have HN := hideIt hno
    clear hno hm0
    go_enter Try.func33, Try.ntmps33
    go_wp2_with (first | (go_at_call 37; refine (refMay_any _ _ _ _).mono ?_; rintro e w1 ⟨rfl, ha⟩; obtain ⟨hc, hf⟩ := ha.cell; rw [hm]) | (simp only [run_nan]))
    go_ret
    exact ⟨⟨_, rfl, HN.out _ (nan_of _)⟩, ((After.rfl.alloc _).trans ha).drew⟩
theorem refFloat_yes (k m e : Int) (w : World) (hn : numB k m e = true) :
    Calls Try.prog 33 #[.agg #[.int .i64 k, .int .i64 m, .int .i64 e]] w fun x w' => x = .returned (.float .f64 (fl m e)) ∧ After w w' := by
  obtain ⟨rfl, h1, h2, h3, h4⟩ := num_bd hn
  have hm : mayB 0 m e = true := mayB_iff.2 (by omega)
  have HW := hideIt (Fl.wUp_zero m)
  have HD := hideIt (Fl.wDn_zero m)
  clear hn
  by_cases he : 0 ≤ e
  · go_enter Try.func33, Try.ntmps33
    go_wp2_with (go_at_call 37; refine (refMay_any _ _ _ _).mono ?_; rintro e w1 ⟨rfl, ha⟩; obtain ⟨hc, hf⟩ := ha.cell; rw [hm])
    go_loop [4, 5] (fun x i => ∃ j : Nat, (j : Int) ≤ e ∧ i = .int .i64 j ∧ x = .float .f64 (wUp m j)) (fun _ i => (e - intOf i).toNat)
    case atStart => exact ⟨0, by omega, rfl, val_fl HW.out⟩
    case round =>
      obtain ⟨j, hj, rfl, rfl⟩ := hrel
      by_cases hlt : (j : Int) < e
      · have hop := mul_run h1 h2 j (by omega)
        go_wp2_with (simp only [hop])
        go_round
        case rel => exact ⟨j + 1, by omega, by go_num, rfl⟩
        case measure => simp [intOf]; omega
      · have HF := hideIt (Fl.fl_up m e j (by omega))
        generalize wUp m j = X at *
        go_wp2
        go_loop [4, 6] (fun x i => i = .int .i64 0 ∧ x = .float .f64 X) (fun _ _ => 0)
        case atStart => exact ⟨rfl, rfl⟩
        case round =>
          obtain ⟨rfl, rfl⟩ := hrel
          go_wp2
          go_ret
          exact ⟨ret_fl HF.out, (After.rfl.alloc _).trans ha⟩
  · go_enter Try.func33, Try.ntmps33
    go_wp2_with (go_at_call 37; refine (refMay_any _ _ _ _).mono ?_; rintro e w1 ⟨rfl, ha⟩; obtain ⟨hc, hf⟩ := ha.cell; rw [hm])
    go_loop [4, 5] (fun x i => i = .int .i64 0 ∧ x = .float .f64 (wDn m 0)) (fun _ _ => 0)
    case atStart => exact ⟨rfl, val_fl HD.out⟩
    case round =>
      obtain ⟨rfl, rfl⟩ := hrel
      go_wp2
      go_loop [4, 6] (fun x i => ∃ j : Nat, (j : Int) ≤ -e ∧ i = .int .i64 (-(j : Int)) ∧ x = .float .f64 (wDn m j)) (fun _ i => (intOf i - e).toNat)
      case atStart => exact ⟨0, by omega, rfl, rfl⟩
      case round =>
        obtain ⟨j, hj, rfl, rfl⟩ := hrel
        by_cases hlt : e < -(j : Int)
        · have hop := quo_run h1 h2 j
          go_wp2_with (simp only [hop])
          go_round
          case rel => exact ⟨j + 1, by omega, by go_num, rfl⟩
          case measure => simp [intOf]; omega
        · have HF := hideIt (Fl.fl_dn m e j (by omega))
          generalize wDn m j = X at *
          go_wp2
          go_ret
          exact ⟨ret_fl HF.out, (After.rfl.alloc _).trans ha⟩
theorem same_any (a b : Nat) (w : World) (h : Fl.Same a b) :
    Calls Try.prog 32 #[.float .f64 a, .float .f64 b] w fun x w' => x = .returned (.bool true) ∧ w' = w := by
  rcases h with ⟨ha, hb⟩ | ⟨rfl, hg, hz⟩
  · have oa : FloatKind.f64.format.order a a = none := Fl.nan_order ha
    have ob : FloatKind.f64.format.order b b = none := Fl.nan_order hb
    clear ha hb
    have na : (FloatKind.f64.format.order a a != some .eq) = true := by rw [oa]; rfl
    have nb : (FloatKind.f64.format.order b b != some .eq) = true := by rw [ob]; rfl
    clear oa ob
    go_enter Try.func32, Try.ntmps32
    go_wp2
    go_ret
    exact ⟨rfl, rfl⟩
  · have na : (FloatKind.f64.format.order a a != some .eq) = false := by rw [hg]; rfl
    have ea : (FloatKind.f64.format.order a a == some .eq) = true := by rw [hg]; rfl
    by_cases h0 : FloatKind.f64.format.order a 0 = some .eq
    · obtain ⟨q, hq, hqq⟩ := hz h0
      have nz : (FloatKind.f64.format.order a 0 != some .eq) = false := by rw [h0]; rfl
      have eq : (FloatKind.f64.format.order q q == some .eq) = true := by rw [hqq]; rfl
      have hop : ∀ t w, (binOp .quo t (.float .f64 4607182418800017408) (.float .f64 a)).run Try.prog w = .ok (.float .f64 q) w := fun t w => run_float_arith w .quo t .f64 _ _ _ hq
      clear hg h0 hz hqq hq
      go_enter Try.func32, Try.ntmps32
      go_wp2_with (simp only [hop])
      go_ret
      exact ⟨rfl, rfl⟩
    · have nz : (FloatKind.f64.format.order a 0 != some .eq) = true := by
        rw [bne_iff_ne]; exact h0
      clear hg h0 hz
      go_enter Try.func32, Try.ntmps32
      go_wp2
      go_ret
      exact ⟨rfl, rfl⟩
/-- Two answers of Float of the same real are the same. -/
theorem same_no {k m e : Int} {a b : Nat} (ha : FlNo k m e a) (hb : FlNo k m e b) : Fl.Same a b := by
  unfold FlNo at ha hb
  split at ha
  · rename_i hc
    rw [if_pos hc] at hb
    subst ha; subst hb
    rw [Fl.inf_word]
    exact Or.inr ⟨rfl, Fl.good_inf false⟩
  · rename_i hc
    rw [if_neg hc] at hb
    split at ha
    · rename_i hd
      rw [if_pos hd] at hb
      subst ha; subst hb
      rw [Fl.minf_word]
      exact Or.inr ⟨rfl, Fl.good_inf true⟩
    · rename_i hd
      rw [if_neg hd] at hb
      exact Or.inl ⟨ha, hb⟩
theorem same_yes {m e : Int} (hn : numB 0 m e = true) : Fl.Same (fl m e) (fl m e) := by
  obtain ⟨_, h1, h2, h3, h4⟩ := num_bd hn
  exact Or.inr ⟨rfl, Fl.good_fl h1 h2 h4⟩
end Go.Proofs.Ytjblckljbgelaaa
