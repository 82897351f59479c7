/-
  RingBooks.
-/
import Derived.Test.YtdoplmanpbeffaaRngG
namespace Go.Proofs.Ytdoplmanpbeffaa
open Go.RowKit
set_option maxRecDepth 8000
/-- Numbers that are handed in. -/
def IntRow (w : World) (a : Option Addr) (k : Nat) : Prop := ∀ i, i < k → ∃ b off, ∃ v : Int, a = some ⟨b, off, none⟩ ∧ b < w.heap.size ∧ w.cell? ⟨b, off + i, none⟩ = some (.int .i64 v) ∧ -9223372036854775808 ≤ v ∧ v ≤ 9223372036854775807
/-- As many were put as were taken, lost and are there; some were lost just if there was no room once. -/
structure Bk (s : Sg) (pt tk : Nat) (full : Bool) : Prop where
  sum : pt = tk + s.l.length + s.all
  full : full = decide (0 < s.all)
theorem Bk.new : Bk Sg.new 0 0 false := ⟨rfl, rfl⟩
theorem Bk.put {s : Sg} {pt tk : Nat} {full : Bool} (h : Bk s pt tk full) {n : Nat} (hl : s.l.length ≤ n) (hn : 0 < n) (v : Int) : Bk (s.put n v) (pt + 1) tk (full || decide (s.l.length = n)) := by
  have hs := h.sum
  have hf := h.full
  by_cases hr : s.l.length < n
  · rw [put_room hr]
    refine ⟨by show pt + 1 = tk + (s.l ++ [v]).length + s.all; rw [List.length_append, List.length_singleton]; omega, ?_⟩
    have : decide (s.l.length = n) = false := by simp; omega
    rw [this, Bool.or_false]
    exact hf
  · obtain ⟨l, a, b⟩ := s
    cases l with
    | nil => exact absurd hn hr
    | cons y r =>
      rw [put_full hr]
      dsimp only [List.length_cons] at hs hl hr
      refine ⟨by show pt + 1 = tk + (r ++ [v]).length + (b + 1); rw [List.length_append, List.length_singleton]; omega, ?_⟩
      have e1 : decide ((y :: r).length = n) = true := by simp; omega
      show (full || decide ((y :: r).length = n)) = decide (0 < b + 1)
      rw [e1]
      simp
theorem Bk.take {y : Int} {r : List Int} {a b pt tk : Nat} {full : Bool} (h : Bk ⟨y :: r, a, b⟩ pt tk full) : Bk ⟨r, 0, b⟩ pt (tk + 1) full := by
  have hs := h.sum
  dsimp only [List.length_cons] at hs
  exact ⟨by show pt = tk + 1 + r.length + b; omega, h.full⟩
set_option maxHeartbeats 2000000 in
theorem law_booksR (w : World) (n : Int) (h1 : -9223372036854775808 ≤ n) (h2 : n ≤ 9223372036854775807) (a : Option Addr) (k c : Nat) (hl : IntRow w a k) :
    Calls Try.prog 5 #[.int .i64 n, .slice a k c] w fun e w' => e = .returned (.bool true) ∧ After w w' := by
  have HA := hideIt (awakeR_any w)
  have HB := hideIt (fun W => bring_any n 16 W h1 h2 (by omega) (by omega))
  have hlt := broughtTo_lt n (show 0 < 16 by omega)
  generalize broughtTo n 16 = M at HB hlt
  have HL := hideIt hl
  clear hl h1 h2
  have HNW := hideIt (fun W => rgNew_ok W ((1 : Int) + (M : Int)) (by omega) (by omega))
  have m0 : (0 : Int) ≤ (M : Int) := by omega
  have m1 : (M : Int) < 16 := by omega
  go_enter Try.func5, Try.ntmps5
  go_wp2_with fail
  refine HA.out.mono ?_
  rintro e w0 ⟨rfl, a0⟩
  have A0 := hideIt a0
  clear a0 HA
  go_wp2_with (go_at_call 18; refine (HB.out _).mono ?_; rintro e w' ⟨rfl, rfl⟩)
  refine (HNW.out _).mono ?_
  rintro e w1 ⟨rfl, hw1⟩
  have x0 : Sole w w1 (M + 1) w'.heap.size Sg.new := by
    rw [hw1]
    refine ⟨rg_new ?_ (by omega) (by omega), A0.out.trans (After.rfl.alloc _), A0.out.size⟩
    have e1 : (((M + 1 : Nat)) : Int) = 1 + (M : Int) := by omega
    rw [e1]
    exact heap_alloc_new _ _
  have X0 := hideIt x0
  clear x0 hw1 A0 HNW HB
  generalize w'.heap.size = p at *
  clear w'
  go_wp2_with fail
  go_loopw [8, 9, 10, 11] (fun pv tv fv i wr => ∃ (j pt tk : Nat) (full : Bool) (s : Sg), j ≤ k ∧ j ≤ 60 ∧ pt ≤ j * 20 ∧ i = .int .i64 j ∧ pv = .int .i64 pt ∧ tv = .int .i64 tk ∧ fv = .bool full ∧ Bk s pt tk full ∧ Sole w wr (M + 1) p s) (fun _ _ _ i _ => 60 - (intOf i).toNat)
  case atStart => exact ⟨0, 0, 0, false, Sg.new, Nat.zero_le _, Nat.zero_le _, Nat.zero_le _, rfl, rfl, rfl, rfl, Bk.new, X0.out⟩
  case round =>
    obtain ⟨j, pt, tk, full, s, hjk, hj2, hpt, rfl, rfl, rfl, rfl, bk, x⟩ := hrel
    clear X0
    by_cases hgo : j < k ∧ j < 60
    · obtain ⟨hjk', hj'⟩ := hgo
      have i1 : (j : Int) < (k : Int) := by omega
      have i2 : (j : Int) < 60 := by omega
      obtain ⟨b, off, v, rfl, hb, d0, hv1, hv2⟩ := HL.out j hjk'
      have e0 := (x.aft.cell hb _).trans d0
      have HB := hideIt (fun W => bring_any v 20 W hv1 hv2 (by omega) (by omega))
      have hlt2 := broughtTo_lt v (show 0 < 20 by omega)
      generalize broughtTo v 20 = B at HB hlt2
      have X := hideIt (And.intro x bk)
      clear d0 hv1 hv2 x bk
      go_wp2_with (go_at_call 18; refine (HB.out _).mono ?_; rintro e w' ⟨rfl, rfl⟩)
      go_loopw [8, 10, 12] (fun pv fv kv wr => ∃ (q : Nat) (full : Bool) (s : Sg), q ≤ B ∧ kv = .int .i64 q ∧ pv = .int .i64 ((pt + (B - q) : Nat) : Int) ∧ fv = .bool full ∧ Bk s (pt + (B - q)) tk full ∧ Sole w wr (M + 1) p s) (fun _ _ kv _ => (intOf kv).toNat)
      case atStart => exact ⟨B, full, s, Nat.le_refl _, rfl, by rw [Nat.sub_self]; rfl, rfl, by rw [Nat.sub_self]; exact X.out.2, X.out.1⟩
      case round =>
        clear X e0 HB
        obtain ⟨q, full, s, hq, rfl, rfl, rfl, bk, x⟩ := hrel
        by_cases hq0 : 0 < q
        · have g0 : (0 : Int) < (q : Int) := by omega
          have hs : s.all < 1000000 := by have := bk.sum; omega
          have hle := x.rg.le
          have bk' := bk.put hle.1 (by omega) ((q : Int) * 1000 + (j : Int))
          have i3 : pt + (B - q) + 1 = pt + (B - (q - 1)) := by omega
          rw [i3] at bk'
          have i4 : ((pt + (B - q) : Nat) : Int) + 1 = ((pt + (B - (q - 1)) : Nat) : Int) := by omega
          have H4 := hideIt i4
          have g1 : ((pt + (B - q) : Nat) : Int) ≤ 2000 := by omega
          have g2 : (q : Int) ≤ 20 := by omega
          have g3 : (0 : Int) ≤ ((pt + (B - q) : Nat) : Int) := by omega
          have HP := hideIt (sole_put x hs ((q : Int) * 1000 + (j : Int)))
          have HQ := hideIt x.asks
          clear x bk hs i3 i4
          generalize ((pt + (B - q) : Nat) : Int) = P at *
          cases full with
          | true =>
            rw [Bool.true_or] at bk'
            have HK := hideIt bk'
            clear bk' hle
            go_wp2_with fail
            refine HP.out.mono ?_
            rintro e w3 ⟨rfl, x3⟩
            have X3 := hideIt x3
            clear x3 HP
            go_wp2_with fail
            go_roundw
            case rel => exact ⟨q - 1, true, _, by omega, congrArg (Value.int .i64) (by omega), by rw [← H4.out], rfl, HK.out, X3.out⟩
            case measure => simp [intOf]; omega
          | false =>
            rw [Bool.false_or] at bk'
            by_cases hf : s.l.length = M + 1
            · have e1 : ((s.l.length : Int) == 1 + (M : Int)) = true := by simp; omega
              have e2 : decide (s.l.length = M + 1) = true := by simp [hf]
              rw [e2] at bk'
              have HK := hideIt bk'
              clear bk' hle hf e2
              go_wp2_with (go_at_call 14; refine HQ.out.1.mono ?_; rintro e w' ⟨rfl, rfl⟩)
              refine HP.out.mono ?_
              rintro e w3 ⟨rfl, x3⟩
              have X3 := hideIt x3
              clear x3 HP
              go_wp2_with fail
              go_roundw
              case rel => exact ⟨q - 1, true, _, by omega, congrArg (Value.int .i64) (by omega), by rw [← H4.out], rfl, HK.out, X3.out⟩
              case measure => simp [intOf]; omega
            · have e1 : ((s.l.length : Int) == 1 + (M : Int)) = false := by simp; omega
              have e2 : decide (s.l.length = M + 1) = false := by simp [hf]
              rw [e2] at bk'
              have HK := hideIt bk'
              clear bk' hle hf e2
              go_wp2_with (go_at_call 14; refine HQ.out.1.mono ?_; rintro e w' ⟨rfl, rfl⟩)
              refine HP.out.mono ?_
              rintro e w3 ⟨rfl, x3⟩
              have X3 := hideIt x3
              clear x3 HP
              go_wp2_with fail
              go_roundw
              case rel => exact ⟨q - 1, false, _, by omega, congrArg (Value.int .i64) (by omega), by rw [← H4.out], rfl, HK.out, X3.out⟩
              case measure => simp [intOf]; omega
        · obtain rfl : q = 0 := by omega
          rw [Nat.sub_zero] at bk ⊢
          have HT := hideIt (sole_take x)
          have g1 : pt + B ≤ (j + 1) * 20 := by omega
          have hP : pt + B ≤ 2000 := by omega
          generalize pt + B = P at *
          have p1 : (P : Int) ≤ 2000 := by omega
          have hff := bk.full
          obtain ⟨l, sa, sb⟩ := s
          cases l with
          | nil =>
            have hsum : (P : Int) = (tk : Int) + 0 + (sb : Int) := by have := bk.sum; dsimp only [List.length_nil] at this; omega
            dsimp only [Sg.take] at HT
            dsimp only at hff
            have HK := hideIt bk
            clear x bk
            go_wp2_with fail
            refine HT.out.mono ?_
            rintro e w3 ⟨rfl, x3⟩
            have HQ := hideIt x3.asks
            dsimp only [List.length_nil] at HQ
            have X3 := hideIt x3
            have q1 : ((P : Int) != (tk : Int) + (sb : Int)) = false := by simp; omega
            have hc : (¬ 0 < sb ∧ full = false) ∨ (0 < sb ∧ full = true) := by
              rw [hff]
              by_cases h : 0 < sb
              · right; simp [h]
              · left; simp [h]
            have q3 : (tk : Int) ≤ 2000 := by omega
            have q4 : (sb : Int) ≤ 2000 := by omega
            clear x3 HT hff hsum
            rcases hc with ⟨hc, rfl⟩ | ⟨hc, rfl⟩
            all_goals
              go_wp2_with (first | (go_at_call 14; refine HQ.out.1.mono ?_; rintro e w' ⟨rfl, rfl⟩) | (go_at_call 16; refine HQ.out.2.mono ?_; rintro e w' ⟨rfl, rfl⟩))
              go_roundw
              case rel => exact ⟨j + 1, P, tk, _, _, by omega, by omega, g1, by go_num, rfl, rfl, rfl, HK.out, X3.out⟩
              case measure => simp [intOf]; omega
          | cons y r =>
            have hsum : (P : Int) = (tk : Int) + 1 + (r.length : Int) + (sb : Int) := by have := bk.sum; dsimp only [List.length_cons] at this; omega
            dsimp only [Sg.take] at HT
            dsimp only at hff
            have HK := hideIt bk.take
            clear x bk
            go_wp2_with fail
            refine HT.out.mono ?_
            rintro e w3 ⟨rfl, x3⟩
            have HQ := hideIt x3.asks
            dsimp only at HQ
            have X3 := hideIt x3
            have q1 : ((P : Int) != (tk : Int) + 1 + (r.length : Int) + (sb : Int)) = false := by simp; omega
            have hc : (¬ 0 < sb ∧ full = false) ∨ (0 < sb ∧ full = true) := by
              rw [hff]
              by_cases h : 0 < sb
              · right; simp [h]
              · left; simp [h]
            have q3 : (tk : Int) ≤ 2000 := by omega
            have q4 : (sb : Int) ≤ 2000 := by omega
            have q5 : (r.length : Int) ≤ 2000 := by omega
            clear x3 HT hff hsum
            rcases hc with ⟨hc, rfl⟩ | ⟨hc, rfl⟩
            all_goals
              go_wp2_with (first | (go_at_call 14; refine HQ.out.1.mono ?_; rintro e w' ⟨rfl, rfl⟩) | (go_at_call 16; refine HQ.out.2.mono ?_; rintro e w' ⟨rfl, rfl⟩))
              go_roundw
              case rel => exact ⟨j + 1, P, tk + 1, _, _, by omega, by omega, g1, by go_num, rfl, by go_num, rfl, HK.out, X3.out⟩
              case measure => simp [intOf]; omega
    · have hdd : ((j : Int) < (k : Int) ∧ ¬ (j : Int) < 60) ∨ (¬ (j : Int) < (k : Int) ∧ (0 : Int) ≤ 0) := by omega
      have AF := hideIt x.aft
      clear x hgo bk
      rcases hdd with ⟨i1, i2⟩ | ⟨i1, i2⟩
      all_goals
        go_wp2_with fail
        go_ret
        exact ⟨rfl, AF.out⟩
end Go.Proofs.Ytdoplmanpbeffaa
