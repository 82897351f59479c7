/-
  Memory; the document's Check and Memory: what they answer.
-/
import Derived.Test.YthgmjeljjladhaaFoR
import Derived.Test.YthgmjeljjladhaaFoC
namespace Go.Proofs.Ythgmjeljjladhaa
open Go.RowKit
set_option maxRecDepth 8000
/-- How many nodes are kept. -/
def kept (L : List Nd) : Nat := L.countP (fun x => decide (9 ≤ x.op))
/-- What Memory answers. -/
def memA (L : List Nd) : Int × Int := if chk L 8 = 0 then ((kept L : Int), 0) else (0, chk L 8)
theorem kept_take {L : List Nd} {j : Nat} {x : Nd} (h : L[j]? = some x) : kept (L.take (j + 1)) = kept (L.take j) + (if 9 ≤ x.op then 1 else 0) := by
  unfold kept
  rw [List.take_add_one, h]
  simp
theorem kept_le (L : List Nd) (j : Nat) : kept (L.take j) ≤ j := Nat.le_trans List.countP_le_length (by rw [List.length_take]; omega)
theorem ret_ii {a a' e e' : Int} (h : a = a') (k : e = e') : Ending.returned (.tuple #[.int .i64 a, .int .i64 e]) = .returned (.tuple #[.int .i64 a', .int .i64 e']) := by rw [h, k]
theorem chk_zero0 {L : List Nd} {n : Int} (h : chk L n = 0) : L.length ≤ 32 := by
  unfold chk at h
  split at h
  · omega
  · omega
theorem refCheck_any (L : List Nd) (w : World) (a : Option Addr) (n c : Nat) (hr : NRow w a n L) (m : Int) : Calls Try.prog 27 #[.slice a n c, .int .i64 m] w fun e w' => e = .returned (.int .i64 (chk L m)) ∧ After w w' := by
  unfold chk
  rw [hr.1]
  by_cases h1 : 32 < n
  · rw [if_pos h1]
    have i1 : (32 : Int) < (n : Int) := by omega
    clear hr h1
    go_enter Try.func27, Try.ntmps27
    go_wp2
    go_ret
    exact ⟨rfl, After.rfl⟩
  rw [if_neg h1]
  have i1 : ¬ (32 : Int) < (n : Int) := by omega
  by_cases h2 : m < 0
  · rw [if_pos (.inl h2)]
    clear hr h1
    go_enter Try.func27, Try.ntmps27
    go_wp2
    go_ret
    exact ⟨rfl, After.rfl⟩
  by_cases h3 : 8 < m
  · rw [if_pos (.inr h3)]
    clear hr h1
    go_enter Try.func27, Try.ntmps27
    go_wp2
    go_ret
    exact ⟨rfl, After.rfl⟩
  rw [if_neg (by omega)]
  have HR := hideIt hr
  clear hr h1
  obtain ⟨E, hE⟩ : ∃ E : Int, (if n = 0 then (150 : Int) else if okAll L m = true then 0 else 150) = E := ⟨_, rfl⟩
  have HE := hideIt hE
  rw [hE]
  clear hE
  go_enter Try.func27, Try.ntmps27
  go_wp2_with fail
  go_loopw [5] (fun i wr => ∃ j : Nat, j ≤ n ∧ i = .int .i64 j ∧ okFrom m 0 (L.take j) = true ∧ After w wr) (fun i _ => n - (intOf i).toNat)
  case atStart => exact ⟨0, Nat.zero_le _, rfl, rfl, After.rfl⟩
  case round =>
    obtain ⟨j, hj, rfl, hm, aw⟩ := hrel
    by_cases hjn : j < n
    · have i5 : (j : Int) < (n : Int) := by omega
      obtain ⟨b, off, x, rfl, hb, hx, k0, k1, k2, k3⟩ := nrow_at HR.out hjn
      have k0' := (aw.cell hb _).trans k0
      have k1' := (aw.cell hb _).trans k1
      have k2' := (aw.cell hb _).trans k2
      have k3' := (aw.cell hb _).trans k3
      have HM := hideIt (fun W => refNode_any x (j : Int) m W)
      have HS := hideIt (And.intro hm (And.intro hx aw))
      have hlt : b < wr.heap.size := Nat.lt_of_lt_of_le hb aw.size
      rcases hmay : okN x (j : Int) m with _ | _
      · have HN := hideIt (show okAll L m = false from okFrom_no (k := 0) hx (by rw [Nat.zero_add]; exact hmay))
        rw [hmay] at HM
        have HZ := hideIt (show n ≠ 0 by omega)
        clear hm hx aw k0 k1 k2 k3 hmay
        go_wp2_with (go_at_call 39; refine (HM.out _).mono ?_; rintro e w2 ⟨rfl, a2⟩)
        go_ret
        exact ⟨ret_int (by rw [← HE.out, if_neg HZ.out, HN.out]; rfl), HS.out.2.2.trans a2⟩
      · have HN := hideIt hmay
        rw [hmay] at HM
        clear hm hx aw k0 k1 k2 k3 hmay
        go_wp2_with (go_at_call 39; refine (HM.out _).mono ?_; rintro e w2 ⟨rfl, a2⟩)
        go_roundw
        case rel => exact ⟨j + 1, by omega, by go_num, by rw [okFrom_take HS.out.2.1, HS.out.1, Nat.zero_add, HN.out]; rfl, HS.out.2.2.trans a2⟩
        case measure => simp [intOf]; omega
    · have i5 : ¬ (j : Int) < (n : Int) := by omega
      have hjn' : j = n := by omega
      rw [hjn', List.take_of_length_le (by rw [HR.out.1]; exact Nat.le_refl _)] at hm
      have HS := hideIt (And.intro (show okAll L m = true from hm) aw)
      clear hm aw hjn'
      by_cases h4 : n = 0
      · have i6 : ((n : Int) == 0) = true := by simp [h4]
        have H4 := hideIt h4
        clear h4
        go_wp2
        go_ret
        exact ⟨ret_int (by rw [← HE.out, if_pos H4.out]), HS.out.2⟩
      · have i6 : ((n : Int) == 0) = false := by simp; omega
        have H4 := hideIt h4
        clear h4
        go_wp2
        go_ret
        exact ⟨ret_int (by rw [← HE.out, if_neg H4.out, HS.out.1]; rfl), HS.out.2⟩
set_option maxHeartbeats 1000000 in
theorem memory_any (L : List Nd) (w : World) (a : Option Addr) (n c : Nat) (hr : NRow w a n L) : Calls Try.prog 20 #[.slice a n c] w fun e w' => e = .returned (.tuple #[.int .i64 (memA L).1, .int .i64 (memA L).2]) ∧ After w w' := by
  have HC := hideIt (check_any L w a n c hr 8)
  obtain ⟨r, hR⟩ : ∃ r, memA L = r := ⟨_, rfl⟩
  rw [hR]
  have HR := hideIt hR
  clear hR
  by_cases hc : chk L 8 = 0
  rotate_left
  · have e1 : r = (0, chk L 8) := by rw [← HR.out]; unfold memA; rw [if_neg hc]
    have E1 := hideIt e1
    have hc' : (chk L 8 != 0) = true := by simp [hc]
    generalize chk L 8 = k at *
    clear hr hc e1
    go_enter Try.func20, Try.ntmps20
    go_wp2_with fail
    refine HC.out.mono ?_
    rintro e w1 ⟨rfl, a1⟩
    go_wp2_with fail
    go_ret2
    exact ⟨ret_ii (by rw [E1.out]) (by rw [E1.out]), a1⟩
  have e1 : r = ((kept L : Int), 0) := by rw [← HR.out]; unfold memA; rw [if_pos hc]
  have E1 := hideIt e1
  have hn : n ≤ 32 := by have := (chk_zero0 hc); rw [hr.1] at this; exact this
  have hn' : (n : Int) ≤ 32 := by omega
  rw [hc] at HC
  have HW := hideIt hr
  clear hr hc e1 HR
  go_enter Try.func20, Try.ntmps20
  go_wp2_with fail
  refine HC.out.mono ?_
  rintro e w1 ⟨rfl, a1⟩
  have A1 := hideIt a1
  clear a1
  go_wp2_with fail
  go_loopw [5, 15] (fun z i wr => ∃ (j k : Nat), j ≤ n ∧ i = .int .i64 j ∧ z = .int .i64 k ∧ k = kept (L.take j) ∧ k ≤ j ∧ After w wr) (fun _ i _ => n - (intOf i).toNat)
  case atStart => exact ⟨0, 0, Nat.zero_le _, rfl, rfl, rfl, Nat.le_refl _, A1.out⟩
  case round =>
    obtain ⟨j, k, hj, rfl, rfl, hm, hk, aw⟩ := hrel
    by_cases hjn : j < n
    · have i5 : (j : Int) < (n : Int) := by omega
      obtain ⟨b, off, x, rfl, hb, hx, k0, k1, k2, k3⟩ := nrow_at HW.out hjn
      have k0' := (aw.cell hb _).trans k0
      have k1' := (aw.cell hb _).trans k1
      have k2' := (aw.cell hb _).trans k2
      have k3' := (aw.cell hb _).trans k3
      have hlt : b < wr.heap.size := Nat.lt_of_lt_of_le hb aw.size
      have HS := hideIt (And.intro hm (And.intro (kept_take hx) aw))
      clear hm hx aw k0 k1 k2 k3
      by_cases h9 : 9 ≤ x.op
      · have H9 := hideIt h9
        go_wp2_with fail
        go_roundw
        case rel => exact ⟨j + 1, k + 1, by omega, by go_num, by go_num, by rw [HS.out.2.1, if_pos H9.out, HS.out.1], by omega, HS.out.2.2.alloc _⟩
        case measure => simp [intOf]; omega
      · have H9 := hideIt h9
        go_wp2_with fail
        go_roundw
        case rel => exact ⟨j + 1, k, by omega, by go_num, rfl, by rw [HS.out.2.1, if_neg H9.out, HS.out.1, Nat.add_zero], by omega, HS.out.2.2.alloc _⟩
        case measure => simp [intOf]; omega
    · have i5 : ¬ (j : Int) < (n : Int) := by omega
      have hjn' : j = n := by omega
      rw [hjn', List.take_of_length_le (by rw [HW.out.1]; exact Nat.le_refl _)] at hm
      have HS := hideIt (And.intro hm aw)
      clear hm aw hjn'
      go_wp2_with fail
      go_ret2
      exact ⟨ret_ii (by rw [E1.out, HS.out.1]) (by rw [E1.out]), HS.out.2⟩
set_option maxHeartbeats 1000000 in
theorem refMemory_any (L : List Nd) (w : World) (a : Option Addr) (n c : Nat) (hr : NRow w a n L) : Calls Try.prog 29 #[.slice a n c] w fun e w' => e = .returned (.tuple #[.int .i64 (memA L).1, .int .i64 (memA L).2]) ∧ After w w' := by
  have HC := hideIt (refCheck_any L w a n c hr 8)
  obtain ⟨r, hR⟩ : ∃ r, memA L = r := ⟨_, rfl⟩
  rw [hR]
  have HR := hideIt hR
  clear hR
  by_cases hc : chk L 8 = 0
  rotate_left
  · have e1 : r = (0, chk L 8) := by rw [← HR.out]; unfold memA; rw [if_neg hc]
    have E1 := hideIt e1
    have hc' : (chk L 8 != 0) = true := by simp [hc]
    generalize chk L 8 = k at *
    clear hr hc e1
    go_enter Try.func29, Try.ntmps29
    go_wp2_with fail
    refine HC.out.mono ?_
    rintro e w1 ⟨rfl, a1⟩
    go_wp2_with fail
    go_ret2
    exact ⟨ret_ii (by rw [E1.out]) (by rw [E1.out]), a1⟩
  have e1 : r = ((kept L : Int), 0) := by rw [← HR.out]; unfold memA; rw [if_pos hc]
  have E1 := hideIt e1
  have hn : n ≤ 32 := by have := (chk_zero0 hc); rw [hr.1] at this; exact this
  have hn' : (n : Int) ≤ 32 := by omega
  rw [hc] at HC
  have HW := hideIt hr
  clear hr hc e1 HR
  go_enter Try.func29, Try.ntmps29
  go_wp2_with fail
  refine HC.out.mono ?_
  rintro e w1 ⟨rfl, a1⟩
  have A1 := hideIt a1
  clear a1
  go_wp2_with fail
  go_loopw [5, 6] (fun z i wr => ∃ (j k : Nat), j ≤ n ∧ i = .int .i64 j ∧ z = .int .i64 k ∧ k = kept (L.take j) ∧ k ≤ j ∧ After w wr) (fun _ i _ => n - (intOf i).toNat)
  case atStart => exact ⟨0, 0, Nat.zero_le _, rfl, rfl, rfl, Nat.le_refl _, A1.out⟩
  case round =>
    obtain ⟨j, k, hj, rfl, rfl, hm, hk, aw⟩ := hrel
    by_cases hjn : j < n
    · have i5 : (j : Int) < (n : Int) := by omega
      obtain ⟨b, off, x, rfl, hb, hx, k0, k1, k2, k3⟩ := nrow_at HW.out hjn
      have k0' := (aw.cell hb _).trans k0
      have k1' := (aw.cell hb _).trans k1
      have k2' := (aw.cell hb _).trans k2
      have k3' := (aw.cell hb _).trans k3
      have hlt : b < wr.heap.size := Nat.lt_of_lt_of_le hb aw.size
      have HS := hideIt (And.intro hm (And.intro (kept_take hx) aw))
      clear hm hx aw k0 k1 k2 k3
      by_cases h9 : 9 ≤ x.op
      · have H9 := hideIt h9
        go_wp2_with fail
        go_roundw
        case rel => exact ⟨j + 1, k + 1, by omega, by go_num, by go_num, by rw [HS.out.2.1, if_pos H9.out, HS.out.1], by omega, HS.out.2.2⟩
        case measure => simp [intOf]; omega
      · have H9 := hideIt h9
        go_wp2_with fail
        go_roundw
        case rel => exact ⟨j + 1, k, by omega, by go_num, rfl, by rw [HS.out.2.1, if_neg H9.out, HS.out.1, Nat.add_zero], by omega, HS.out.2.2⟩
        case measure => simp [intOf]; omega
    · have i5 : ¬ (j : Int) < (n : Int) := by omega
      have hjn' : j = n := by omega
      rw [hjn', List.take_of_length_le (by rw [HW.out.1]; exact Nat.le_refl _)] at hm
      have HS := hideIt (And.intro hm aw)
      clear hm aw hjn'
      go_wp2_with fail
      go_ret2
      exact ⟨ret_ii (by rw [E1.out, HS.out.1]) (by rw [E1.out]), HS.out.2⟩
end Go.Proofs.Ythgmjeljjladhaa
