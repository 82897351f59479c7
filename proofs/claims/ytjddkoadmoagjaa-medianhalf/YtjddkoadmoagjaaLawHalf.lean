/-
  MedianHalf.
-/
import Derived.Test.YtjddkoadmoagjaaMdT
namespace Go.Proofs.Ytjddkoadmoagjaa
open Go.RowKit
set_option maxRecDepth 8000
/-- The numbers from one place on, up to another. -/
def prt (zs : List Int) (F q : Nat) : List Int := (clamps (zs.take q)).drop F
theorem prt_succ {zs : List Int} {F q : Nat} (h : F ≤ q) (hq : q < zs.length) : prt zs F (q + 1) = prt zs F q ++ [clampZ (zs.getD q 0)] := by
  unfold prt
  rw [clamps_succ zs hq, List.drop_append_of_le_length]
  rw [clamps_length, List.length_take]; omega
theorem prt_nil (zs : List Int) (F : Nat) : prt zs F F = [] := by
  unfold prt
  rw [List.drop_eq_nil_of_le]
  rw [clamps_length, List.length_take]; omega
theorem prt_length {zs : List Int} {F q : Nat} (hq : q ≤ zs.length) : (prt zs F q).length = q - F := by
  unfold prt
  rw [List.length_drop, clamps_length, List.length_take]; omega
theorem noMore_snoc (x v : Int) (l : List Int) : noMore x (l ++ [v]) = noMore x l + (if v ≤ x then 1 else 0) := by
  unfold noMore; simp [List.countP_append, List.countP_cons]
theorem noLess_snoc (x v : Int) (l : List Int) : noLess x (l ++ [v]) = noLess x l + (if x ≤ v then 1 else 0) := by
  unfold noLess; simp [List.countP_append, List.countP_cons]
theorem hit_snoc (x v : Int) (l : List Int) : decide (x ∈ l ++ [v]) = (decide (x ∈ l) || decide (v = x)) := by
  by_cases h1 : x ∈ l
  · rw [decide_eq_true h1, decide_eq_true (List.mem_append_left _ h1)]; rfl
  · by_cases h2 : v = x
    · subst h2
      rw [decide_eq_true (List.mem_append_right l (List.mem_singleton.2 rfl))]; simp
    · have h3 : x ∉ l ++ [v] := fun h => by
        rcases List.mem_append.1 h with h | h
        · exact h1 h
        · exact h2 (List.mem_singleton.1 h).symm
      rw [decide_eq_false h1, decide_eq_false h2, decide_eq_false h3]; rfl
theorem noMore_le (x : Int) (l : List Int) : noMore x l ≤ l.length := List.countP_le_length
theorem noLess_le (x : Int) (l : List Int) : noLess x l ≤ l.length := List.countP_le_length
set_option maxHeartbeats 2000000 in
theorem law_half (w : World) (n : Int) (h1 : -9223372036854775808 ≤ n) (h2 : n ≤ 9223372036854775807) (a : Option Addr) (k c : Nat) (zs : List Int) (hl : IRow w a k zs) (hk : k ≤ 17592186044416) :
    Calls Try.prog 4 #[.int .i64 n, .slice a k c] w fun e w' => e = .returned (.bool true) ∧ After w w' := by
  have HW := hideIt (works_any w)
  have HO := hideIt (fun W => odd_any n W h1 h2)
  have hmay := oddN_may n
  generalize oddN n = N at *
  have HL := hideIt hl
  have HK := hideIt hk
  have HM := hideIt hmay
  have k0 : (k : Int) ≤ 17592186044416 := by omega
  have n1 : (1 : Int) ≤ (N : Int) := hmay.1
  have n2 : (N : Int) ≤ 15 := hmay.2.1
  clear hl hk h1 h2 hmay
  go_enter Try.func4, Try.ntmps4
  go_wp2_with fail
  refine HW.out.mono ?_
  rintro e w1 ⟨rfl, a1⟩
  have A1 := hideIt a1
  clear a1 HW
  go_wp2_with (go_at_call 13; refine (HO.out _).mono ?_; rintro e w' ⟨rfl, rfl⟩)
  refine (run_any _ N HM.out a k c zs (HL.out.after A1.out) HK.out).mono ?_
  rintro e W ⟨v, rfl, own, a2⟩
  have AW := hideIt (A1.out.trans a2)
  obtain ⟨a', c', rfl, ir, -, -, -⟩ := own_irow own
  rw [meds_length] at ir ⊢
  have IR := hideIt ir
  have ZR := hideIt (HL.out.after AW.out)
  have hne : ((k : Int) != (k : Int)) = false := by simp
  clear own a2 ir HO A1
  go_wp2_with fail
  go_loopw [6] (fun i wr => ∃ j : Nat, j ≤ k ∧ i = .int .i64 j ∧ wr = W) (fun i _ => k - (intOf i).toNat)
  case atStart => exact ⟨0, Nat.zero_le _, rfl, rfl⟩
  case round =>
    obtain ⟨j, hj, rfl, rfl⟩ := hrel
    by_cases hjk : j < k
    · have i1 : (j : Int) < (k : Int) := by omega
      obtain ⟨F, hF⟩ : ∃ F : Nat, F = j + 1 - N := ⟨_, rfl⟩
      have hmx : max ((j : Int) + 1 - (N : Int)) 0 = (F : Int) := by omega
      have hw1 : IntKind.i64.wrap ((j : Int) + 1 - (N : Int)) = (j : Int) + 1 - (N : Int) := IntWalk.i64_in _ (by omega)
      obtain ⟨x, hx⟩ : ∃ x, x = med N zs j := ⟨_, rfl⟩
      have hzl : zs.length = k := ZR.out.1
      have hxm : x = mid (prt zs F (j + 1)) := by
        rw [hx]
        unfold med prt lastN
        rw [clamps_length, List.length_take, hF]
        congr 2
        omega
      obtain ⟨b', off', rfl, hb', e2⟩ := IR.out.cellAt hjk
      rw [show (meds N zs k).getD j 0 = x by rw [List.getD_eq_getElem?_getD, meds_at N zs hjk, hx]; rfl] at e2
      have HX := hideIt (And.intro hxm hF)
      have HZ := hideIt hzl
      have f1 : (F : Int) ≤ (j : Int) := by omega
      have hf1 : F ≤ j := by omega
      clear hx hxm hF hzl
      go_wp2_with fail
      go_loopw [8, 9, 10, 11] (fun l m h q wr' => ∃ q' : Nat, F ≤ q' ∧ q' ≤ j + 1 ∧ q = .int .i64 q' ∧ l = .int .i64 ((noMore x (prt zs F q') : Nat) : Int) ∧ m = .int .i64 ((noLess x (prt zs F q') : Nat) : Int) ∧ h = .bool (decide (x ∈ prt zs F q')) ∧ wr' = wr) (fun _ _ _ q _ => j + 1 - (intOf q).toNat)
      case atStart => exact ⟨F, Nat.le_refl _, by omega, rfl, by rw [prt_nil]; rfl, by rw [prt_nil]; rfl, by rw [prt_nil]; rfl, rfl⟩
      case round =>
        obtain ⟨q, hq1, hq2, rfl, rfl, rfl, rfl, rfl⟩ := hrel
        have l1 := noMore_le x (prt zs F q)
        have l2 := noLess_le x (prt zs F q)
        rw [prt_length (by have := HZ.out; omega)] at l1 l2
        have l3 : q - F ≤ 15 := by have := HX.out.2; omega
        by_cases hqj : q ≤ j
        · have i2 : (q : Int) ≤ (j : Int) := by omega
          have i3 : (q : Int) < (k : Int) := by omega
          obtain ⟨b, off, rfl, hb, e1⟩ := ZR.out.cellAt (i := q) (by omega)
          have hs := prt_succ (zs := zs) hq1 (by have := HZ.out; omega)
          have s1 := noMore_snoc x (clampZ (zs.getD q 0)) (prt zs F q)
          have s2 := noLess_snoc x (clampZ (zs.getD q 0)) (prt zs F q)
          have s3 := hit_snoc x (clampZ (zs.getD q 0)) (prt zs F q)
          rw [← hs] at s1 s2 s3
          have HC := hideIt (fun W => clamp_any (zs.getD q 0) W)
          generalize zs.getD q 0 = z at *
          generalize clampZ z = y at *
          generalize noMore x (prt zs F q) = Lm at *
          generalize noLess x (prt zs F q) = Ll at *
          generalize decide (x ∈ prt zs F q) = B at *
          have HS := hideIt (And.intro s1 (And.intro s2 s3))
          have l4 : (Lm : Int) ≤ 15 := by omega
          have l5 : (Ll : Int) ≤ 15 := by omega
          clear s1 s2 s3 hs l1 l2 l3
          rcases (by omega : (y ≤ x ∧ ¬ x ≤ y ∧ ¬ y = x) ∨ (y ≤ x ∧ x ≤ y ∧ y = x) ∨ (¬ y ≤ x ∧ x ≤ y ∧ ¬ y = x)) with ⟨g1, g2, g3⟩ | ⟨g1, g2, g3⟩ | ⟨g1, g2, g3⟩
          all_goals
            have HG := hideIt (And.intro g1 (And.intro g2 g3))
            cases B
            all_goals
              go_wp2_with (go_at_call 15; refine (HC.out _).mono ?_; rintro e w' ⟨rfl, rfl⟩)
              go_roundw
              case rel =>
                obtain ⟨s1, s2, s3⟩ := HS.out
                obtain ⟨g1, g2, g3⟩ := HG.out
                refine ⟨q + 1, by omega, by omega, by go_num, ?_, ?_, ?_, by first | rfl | trivial⟩
                · rw [s1]; first | rw [if_pos (by omega)] | rw [if_neg (by omega)]
                  go_num
                · rw [s2]; first | rw [if_pos (by omega)] | rw [if_neg (by omega)]
                  go_num
                · rw [s3]; simp [g3]
              case measure => simp [intOf]; omega
        · obtain rfl : q = j + 1 := by omega
          have i2 : ¬ (((j + 1 : Nat) : Int)) ≤ (j : Int) := by omega
          have hpl : (prt zs F (j + 1)).length = j + 1 - F := prt_length (by have := HZ.out; omega)
          have hh := mid_half (xs := prt zs F (j + 1)) (by omega)
          have hm := mid_mem (xs := prt zs F (j + 1)) (by omega)
          rw [← HX.out.1] at hh hm
          rw [hpl] at hh
          have hd : decide (x ∈ prt zs F (j + 1)) = true := by simpa using hm
          rw [hd]
          generalize noMore x (prt zs F (j + 1)) = Lm at *
          generalize noLess x (prt zs F (j + 1)) = Ll at *
          have l4 : (Lm : Int) ≤ 15 := by omega
          have l5 : (Ll : Int) ≤ 15 := by omega
          have l6 : ¬ 2 * (Lm : Int) < (j : Int) + 1 - (F : Int) := by omega
          have l7 : ¬ 2 * (Ll : Int) < (j : Int) + 1 - (F : Int) + 1 := by omega
          clear hh hm hd hpl l1 l2 l3
          go_wp2
          go_roundw
          case rel => exact ⟨j + 1, by omega, by go_num, by first | rfl | trivial⟩
          case measure => simp [intOf]; omega
    · have i1 : ¬ (j : Int) < (k : Int) := by omega
      go_wp2
      go_ret
      exact ⟨rfl, AW.out⟩
end Go.Proofs.Ytjddkoadmoagjaa
