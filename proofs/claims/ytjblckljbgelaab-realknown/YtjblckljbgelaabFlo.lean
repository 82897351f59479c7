/-
  Float and noNumber of package real: what they answer.
-/
import Derived.Test.YtjblckljbgelaabFix
import Derived.Test.YtjblckljbgelaabFlE
namespace Go.Proofs.Ytjblckljbgelaab
open Go.RowKit
open Fl (fl wUp wDn NaN)
/-- What the tape says of a quotient that is no number. -/
def nanOf (w : World) : Nat := Question.cut (.nanBits .f64 0 0) (w.tape w.drawn (.nanBits .f64 0 0))
theorem nan_of (w : World) : NaN (nanOf w) := by
  unfold nanOf
  generalize w.tape w.drawn (.nanBits .f64 0 0) = t
  show NaN ((t % 2) * 2 ^ 63 + 0x7ff0000000000000 + 1 + (t / 2) % (2 ^ 52 - 1))
  have h63 : (2 : Nat) ^ 63 = 9223372036854775808 := by decide
  have h52 : (2 : Nat) ^ 52 - 1 = 4503599627370495 := by decide
  rw [h63, h52]
  have hf : (t / 2) % 4503599627370495 < 4503599627370495 := Nat.mod_lt _ (by omega)
  have hs : t % 2 < 2 := Nat.mod_lt _ (by omega)
  generalize (t / 2) % 4503599627370495 = f at *
  generalize t % 2 = g at *
  generalize hz : g * 9223372036854775808 + 0x7ff0000000000000 + 1 + f = z
  have hr : z % 9223372036854775808 = 9218868437227405313 + f := by omega
  refine ⟨z / 9223372036854775808 % 2 == 1, z % 9223372036854775808 - 9218868437227405312, ?_⟩
  unfold Ieee.Format.read
  rw [Fl.ds, Fl.db, Fl.di]
  have hB : Fl.BIN = 4503599627370496 := rfl
  have hI : Fl.INF = 9218868437227405312 := rfl
  simp only [hB, hI, hr]
  rw [if_neg (by omega), if_neg (by omega), if_neg (by omega)]
theorem run_nan (t : TypeId) (w : World) : (binOp .quo t (.float .f64 0) (.float .f64 0)).run Try.prog w = .ok (.float .f64 (nanOf w)) w.drew := by
  have h : FloatKind.f64.format.div 0 0 = none := by decide
  simp [binOp, Op.floatArith, h, Question.forced, nanOf]
theorem run_inf (t : TypeId) (w : World) : (binOp .quo t (.float .f64 4607182418800017408) (.float .f64 0)).run Try.prog w = .ok (.float .f64 9218868437227405312) w :=
  run_float_arith w .quo t .f64 _ _ _ (by decide)
theorem run_minf (t : TypeId) (w : World) : (binOp .quo t (.float .f64 13830554455654793216) (.float .f64 0)).run Try.prog w = .ok (.float .f64 18442240474082181120) w :=
  run_float_arith w .quo t .f64 _ _ _ (by decide)
theorem After.drew {a b : World} (h : After a b) : After a b.drew := h.draws 1
/-- What Float answers of a real that is no number. -/
def FlNo (k m e : Int) (b : Nat) : Prop := if mayB k m e = true ∧ k = 3 then b = 9218868437227405312 else if mayB k m e = true ∧ k = 4 then b = 18442240474082181120 else NaN b
theorem noNumber_any (k m e : Int) (w : World) :
    Calls Try.prog 18 #[.agg #[.int .i64 k, .int .i64 m, .int .i64 e]] w fun x w' => (∃ b, x = .returned (.float .f64 b) ∧ FlNo k m e b) ∧ After w w' := by
  by_cases hm0 : mayB k m e = true
  · have hm := hm0
    by_cases h3 : k = 3
    · subst h3
      have hno : FlNo 3 m e 9218868437227405312 := by unfold FlNo; rw [if_pos ⟨hm, rfl⟩]
      have HN := hideIt hno
      clear hno hm0
      go_enter Try.func18, Try.ntmps18
      go_wp2_with (first | (go_at_call 19; refine (mayBe_any _ _ _ _).mono ?_; rintro e w1 ⟨rfl, ha⟩; obtain ⟨hc, hf⟩ := ha.cell; rw [hm]) | (simp only [run_inf]))
      go_ret
      exact ⟨⟨_, rfl, HN.out⟩, (After.rfl.alloc _).trans ha⟩
    · by_cases h4 : k = 4
      · subst h4
        have hno : FlNo 4 m e 18442240474082181120 := by unfold FlNo; rw [if_neg (by omega), if_pos ⟨hm, rfl⟩]
        have HN := hideIt hno
        clear hno hm0 h3
        go_enter Try.func18, Try.ntmps18
        go_wp2_with (first | (go_at_call 19; refine (mayBe_any _ _ _ _).mono ?_; rintro e w1 ⟨rfl, ha⟩; obtain ⟨hc, hf⟩ := ha.cell; rw [hm]) | (simp only [run_minf]))
        go_ret
        exact ⟨⟨_, rfl, HN.out⟩, (After.rfl.alloc _).trans ha⟩
      · have hno : ∀ b, NaN b → FlNo k m e b := by intro b hb; unfold FlNo; rw [if_neg (by omega), if_neg (by omega)]; exact hb
        have HN := hideIt hno
        have g3 : (k == 3) = false := by simpa using h3
        have g4 : (k == 4) = false := by simpa using h4
        clear hno hm0 h3 h4
        go_enter Try.func18, Try.ntmps18
        go_wp2_with (first | (go_at_call 19; refine (mayBe_any _ _ _ _).mono ?_; rintro e w1 ⟨rfl, ha⟩; obtain ⟨hc, hf⟩ := ha.cell; rw [hm]) | (simp only [run_nan]))
        go_ret
        exact ⟨⟨_, rfl, HN.out _ (nan_of _)⟩, ((After.rfl.alloc _).trans ha).drew⟩
  · have hm : mayB k m e = false := by simpa using hm0
    have hno : ∀ b, NaN b → FlNo k m e b := by intro b hb; unfold FlNo; rw [if_neg (by simp [hm]), if_neg (by simp [hm])]; exact hb
    have HN := hideIt hno
    clear hno hm0
    go_enter Try.func18, Try.ntmps18
    go_wp2_with (first | (go_at_call 19; refine (mayBe_any _ _ _ _).mono ?_; rintro e w1 ⟨rfl, ha⟩; obtain ⟨hc, hf⟩ := ha.cell; rw [hm]) | (simp only [run_nan]))
    go_ret
    exact ⟨⟨_, rfl, HN.out _ (nan_of _)⟩, ((After.rfl.alloc _).trans ha).drew⟩
theorem float_no (k m e : Int) (w : World) (hn : numB k m e = false) :
    Calls Try.prog 8 #[.agg #[.int .i64 k, .int .i64 m, .int .i64 e]] w fun x w' => (∃ b, x = .returned (.float .f64 b) ∧ FlNo k m e b) ∧ After w w' := by
  go_enter Try.func8, Try.ntmps8
  go_wp2_with (first | (go_at_call 17; refine (isNumber_any _ _ _ _).mono ?_; rintro e w1 ⟨rfl, ha⟩; obtain ⟨hc, hf⟩ := ha.cell; rw [hn]) | (go_at_call 18; refine (noNumber_any _ _ _ _).mono ?_; rintro e w2 ⟨⟨b, rfl, hb⟩, hd⟩))
  go_ret
  exact ⟨⟨_, rfl, hb⟩, ((After.rfl.alloc _).trans ha).trans hd⟩
theorem mul_run {m : Int} (h1 : -8388605 ≤ m) (h2 : m ≤ 8388605) (k : Nat) (hk : k ≤ 200) (t : TypeId) (w : World) : (binOp .mul t (.float .f64 (wUp m k)) (.float .f64 4621819117588971520)).run Try.prog w = .ok (.float .f64 (wUp m (k + 1))) w :=
  run_float_arith w .mul t .f64 _ _ _ (Fl.wUp_succ h1 h2 k hk)
theorem quo_run {m : Int} (h1 : -8388605 ≤ m) (h2 : m ≤ 8388605) (k : Nat) (t : TypeId) (w : World) : (binOp .quo t (.float .f64 (wDn m k)) (.float .f64 4621819117588971520)).run Try.prog w = .ok (.float .f64 (wDn m (k + 1))) w :=
  run_float_arith w .quo t .f64 _ _ _ (Fl.wDn_succ h1 h2 k)
theorem ret_fl {a b : Nat} (h : a = b) : Ending.returned (.float .f64 a) = .returned (.float .f64 b) := by rw [h]
theorem val_fl {a b : Nat} (h : a = b) : Value.float .f64 a = .float .f64 b := by rw [h]
theorem float_yes (k m e : Int) (w : World) (hn : numB k m e = true) :
    Calls Try.prog 8 #[.agg #[.int .i64 k, .int .i64 m, .int .i64 e]] w fun x w' => x = .returned (.float .f64 (fl m e)) ∧ After w w' := by
  obtain ⟨hk0, h1, h2, h3, h4⟩ := num_bd hn
  clear hk0
  have HW := hideIt (Fl.wUp_zero m)
  have HD := hideIt (Fl.wDn_zero m)
  by_cases he : 0 ≤ e
  · go_enter Try.func8, Try.ntmps8
    go_wp2_with (go_at_call 17; refine (isNumber_any _ _ _ _).mono ?_; rintro e w1 ⟨rfl, ha⟩; obtain ⟨hc, hf⟩ := ha.cell; rw [hn])
    go_loop [3, 14] (fun x i => ∃ j : Nat, (j : Int) ≤ e ∧ i = .int .i64 j ∧ x = .float .f64 (wUp m j)) (fun _ i => (e - intOf i).toNat)
    case atStart => exact ⟨0, by omega, rfl, val_fl HW.out⟩
    case round =>
      obtain ⟨j, hj, rfl, rfl⟩ := hrel
      by_cases hlt : (j : Int) < e
      · have hop := mul_run h1 h2 j (by omega)
        go_wp2_with (simp only [hop])
        go_round
        case rel => exact ⟨j + 1, by omega, by go_num, rfl⟩
        case measure => simp [intOf]; omega
      · have HF := hideIt (Fl.fl_up m e j (by omega))
        generalize wUp m j = X at *
        go_wp2
        go_loop [3, 22] (fun x i => i = .int .i64 0 ∧ x = .float .f64 X) (fun _ _ => 0)
        case atStart => exact ⟨rfl, rfl⟩
        case round =>
          obtain ⟨rfl, rfl⟩ := hrel
          go_wp2
          go_ret
          exact ⟨ret_fl HF.out, (After.rfl.alloc _).trans ha⟩
  · go_enter Try.func8, Try.ntmps8
    go_wp2_with (go_at_call 17; refine (isNumber_any _ _ _ _).mono ?_; rintro e w1 ⟨rfl, ha⟩; obtain ⟨hc, hf⟩ := ha.cell; rw [hn])
    go_loop [3, 14] (fun x i => i = .int .i64 0 ∧ x = .float .f64 (wDn m 0)) (fun _ _ => 0)
    case atStart => exact ⟨rfl, val_fl HD.out⟩
    case round =>
      obtain ⟨rfl, rfl⟩ := hrel
      go_wp2
      go_loop [3, 22] (fun x i => ∃ j : Nat, (j : Int) ≤ -e ∧ i = .int .i64 j ∧ x = .float .f64 (wDn m j)) (fun _ i => (-e - intOf i).toNat)
      case atStart => exact ⟨0, by omega, rfl, rfl⟩
      case round =>
        obtain ⟨j, hj, rfl, rfl⟩ := hrel
        by_cases hlt : (j : Int) < -e
        · have hop := quo_run h1 h2 j
          go_wp2_with (simp only [hop])
          go_round
          case rel => exact ⟨j + 1, by omega, by go_num, rfl⟩
          case measure => simp [intOf]; omega
        · have HF := hideIt (Fl.fl_dn m e j (by omega))
          generalize wDn m j = X at *
          go_wp2
          go_ret
          exact ⟨ret_fl HF.out, (After.rfl.alloc _).trans ha⟩
end Go.Proofs.Ytjblckljbgelaab
