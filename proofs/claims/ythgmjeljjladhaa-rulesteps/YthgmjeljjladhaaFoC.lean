/-
  Check: what it answers.
-/
import Derived.Test.YthgmjeljjladhaaFoB
namespace Go.Proofs.Ythgmjeljjladhaa
open Go.RowKit
set_option maxRecDepth 8000
theorem check_any (L : List Nd) (w : World) (a : Option Addr) (n c : Nat) (hr : NRow w a n L) (m : Int) : Calls Try.prog 19 #[.slice a n c, .int .i64 m] w fun e w' => e = .returned (.int .i64 (chk L m)) ∧ After w w' := by
  unfold chk
  rw [hr.1]
  by_cases h1 : 32 < n
  · rw [if_pos h1]
    have i1 : (32 : Int) < (n : Int) := by omega
    clear hr h1
    go_enter Try.func19, Try.ntmps19
    go_wp2
    go_ret
    exact ⟨rfl, After.rfl⟩
  rw [if_neg h1]
  have i1 : ¬ (32 : Int) < (n : Int) := by omega
  by_cases h2 : m < 0
  · rw [if_pos (.inl h2)]
    clear hr h1
    go_enter Try.func19, Try.ntmps19
    go_wp2
    go_ret
    exact ⟨rfl, After.rfl⟩
  by_cases h3 : 8 < m
  · rw [if_pos (.inr h3)]
    clear hr h1
    go_enter Try.func19, Try.ntmps19
    go_wp2
    go_ret
    exact ⟨rfl, After.rfl⟩
  rw [if_neg (by omega)]
  by_cases h4 : n = 0
  · rw [if_pos h4]
    subst h4
    clear hr h1
    go_enter Try.func19, Try.ntmps19
    go_wp2
    go_ret
    exact ⟨rfl, After.rfl⟩
  rw [if_neg h4]
  have i4 : ((n : Int) == 0) = false := by simp; omega
  have HR := hideIt hr
  have H4 := hideIt h4
  have H1 := hideIt h1
  clear hr h1 h4
  obtain ⟨E, hE⟩ : ∃ E : Int, (if okAll L m = true then (0 : Int) else 150) = E := ⟨_, rfl⟩
  have HE := hideIt hE
  rw [hE]
  clear hE
  go_enter Try.func19, Try.ntmps19
  go_wp2_with fail
  go_loopw [21] (fun i wr => ∃ j : Nat, j ≤ n ∧ i = .int .i64 j ∧ okFrom m 0 (L.take j) = true ∧ After w wr) (fun i _ => n - (intOf i).toNat)
  case atStart => exact ⟨0, Nat.zero_le _, rfl, rfl, After.rfl⟩
  case round =>
    obtain ⟨j, hj, rfl, hm, aw⟩ := hrel
    by_cases hjn : j < n
    · have i5 : (j : Int) < (n : Int) := by omega
      obtain ⟨b, off, x, rfl, hb, hx, k0, k1, k2, k3⟩ := nrow_at HR.out hjn
      have k0' := (aw.cell hb _).trans k0
      have k1' := (aw.cell hb _).trans k1
      have k2' := (aw.cell hb _).trans k2
      have k3' := (aw.cell hb _).trans k3
      have HM := hideIt (fun W => mayBe_any x (j : Int) m W)
      have HS := hideIt (And.intro hm (And.intro hx aw))
      have hlt : b < wr.heap.size := Nat.lt_of_lt_of_le hb aw.size
      rcases hmay : okN x (j : Int) m with _ | _
      · have HN := hideIt (show okAll L m = false from okFrom_no (k := 0) hx (by rw [Nat.zero_add]; exact hmay))
        rw [hmay] at HM
        clear hm hx aw k0 k1 k2 k3 hmay
        go_wp2_with (go_at_call 32; refine (HM.out _).mono ?_; rintro e w2 ⟨rfl, a2⟩)
        go_ret
        exact ⟨ret_int (by rw [← HE.out, HN.out]; rfl), (HS.out.2.2.alloc _).trans a2⟩
      · have HN := hideIt hmay
        rw [hmay] at HM
        clear hm hx aw k0 k1 k2 k3 hmay
        go_wp2_with (go_at_call 32; refine (HM.out _).mono ?_; rintro e w2 ⟨rfl, a2⟩)
        go_roundw
        case rel => exact ⟨j + 1, by omega, by go_num, by rw [okFrom_take HS.out.2.1, HS.out.1, Nat.zero_add, HN.out]; rfl, (HS.out.2.2.alloc _).trans a2⟩
        case measure => simp [intOf]; omega
    · have i5 : ¬ (j : Int) < (n : Int) := by omega
      have HS := hideIt (And.intro hm aw)
      clear hm aw
      go_wp2
      go_ret
      have hjn' : j = n := by omega
      have hm := HS.out.1
      rw [hjn', List.take_of_length_le (by rw [HR.out.1]; exact Nat.le_refl _)] at hm
      exact ⟨ret_int (by rw [← HE.out, show okAll L m = true from hm]; rfl), HS.out.2⟩
end Go.Proofs.Ythgmjeljjladhaa
