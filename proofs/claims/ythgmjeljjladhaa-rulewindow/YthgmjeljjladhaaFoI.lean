/-
  Holds: what it answers.
-/
import Derived.Test.YthgmjeljjladhaaFoH
namespace Go.Proofs.Ythgmjeljjladhaa
open Go.RowKit Go.Maps
set_option maxRecDepth 8000
theorem ret_bi {a a' : Bool} {e e' : Int} (h : a = a') (k : e = e') : Ending.returned (.tuple #[.bool a, .int .i64 e]) = .returned (.tuple #[.bool a', .int .i64 e']) := by rw [h, k]
theorem rdsOf_length (X : List Tr) : (rdsOf X).length = X.length := by simp [rdsOf]
set_option maxHeartbeats 2000000 in
theorem holds_any {L : List Nd} {C : List Ch} {X : List Tr} (w : World) (al : Option Addr) (cl : Nat) (ac : Option Addr) (cc : Nat) (aT : Option Addr) (ct : Nat) (h1 : NRow w al L.length L) (h2 : CRow w ac C.length C) (h3 : TRow w aT X.length X) (hX : X.length ≤ 1000) (t : Int) :
    Calls Try.prog 21 #[.slice al L.length cl, .slice ac C.length cc, .slice aT X.length ct, .int .i64 t] w fun e w' => e = .returned (.tuple #[.bool (hld L C (rdsOf X) t).1, .int .i64 (hld L C (rdsOf X) t).2]) ∧ After w w' := by
  have H0 := hideIt (check_any L w al L.length cl h1 (C.length : Int))
  obtain ⟨r, hr⟩ : ∃ r, hld L C (rdsOf X) t = r := ⟨_, rfl⟩
  rw [hr]
  have HR := hideIt hr
  clear hr
  have hin : ∀ x ∈ X, x.l.length = x.n := fun x hx => (h3.2 x hx).1.1
  by_cases hc : chk L (C.length : Int) = 0
  rotate_left
  · have e1 : r = (false, chk L (C.length : Int)) := by rw [← HR.out]; unfold hld; rw [if_pos hc]
    have E1 := hideIt e1
    clear e1
    have hc' : (chk L (C.length : Int) != 0) = true := by simp [hc]
    generalize chk L (C.length : Int) = k at *
    clear h1 h2 h3 hin hc HR
    go_enter Try.func21, Try.ntmps21
    go_wp2_with (go_at_call 19; refine H0.out.mono ?_; rintro e w1 ⟨rfl, a1⟩)
    go_ret2
    exact ⟨ret_bi (by rw [E1.out]) (by rw [E1.out]), a1⟩
  rw [hc] at H0
  obtain ⟨c1, c2, c3, c4, c5⟩ := chk_zero hc
  have H1 := hideIt h1
  have H2 := hideIt h2
  have H3 := hideIt h3
  have HI := hideIt hin
  have HC := hideIt (And.intro hc (And.intro c1 (And.intro c4 c5)))
  clear h1 h2 h3 hin c1 c2 c3 c4 c5 hc
  go_enter Try.func21, Try.ntmps21
  go_wp2_with fail
  refine H0.out.mono ?_
  rintro e w1 ⟨rfl, a1⟩
  have A1 := hideIt a1
  clear a1 H0
  go_wp2_with fail
  go_loopw [23] (fun i wr => ∃ j : Nat, j ≤ X.length ∧ i = .int .i64 j ∧ (∀ x ∈ X.take j, x.n = C.length) ∧ wr = w1) (fun i _ => X.length - (intOf i).toNat)
  case atStart => exact ⟨0, Nat.zero_le _, rfl, fun x hx => by simp at hx, rfl⟩
  case round =>
    obtain ⟨j, hj, rfl, hm, rfl⟩ := hrel
    by_cases hjn : j < X.length
    · have i1 : (j : Int) < (X.length : Int) := by omega
      obtain ⟨b, off, x, rfl, hb, hx, k0, kin⟩ := trow_at (H3.out.after A1.out) hjn
      have HS := hideIt (And.intro hm (And.intro hx kin))
      by_cases hq : x.n = C.length
      · have q1 : ((x.n : Int) != (C.length : Int)) = false := by simp [hq]
        have HQ := hideIt hq
        clear hm hx kin hq
        go_wp2_with fail
        go_roundw
        case rel =>
          refine ⟨j + 1, by omega, by go_num, fun y hy => ?_, by first | rfl | trivial⟩
          rw [List.take_add_one, HS.out.2.1] at hy
          rcases List.mem_append.1 hy with h | h
          · exact HS.out.1 y h
          · simp at h; rw [h]; exact HQ.out
        case measure => simp [intOf]; omega
      · have q1 : ((x.n : Int) != (C.length : Int)) = true := by simp; omega
        have e1 : r = (false, 2) := by
          rw [← HR.out]; unfold hld
          rw [if_neg (by rw [HC.out.1]; simp), if_pos]
          intro hall
          have := hall x.l (by unfold rdsOf; exact List.mem_map.2 ⟨x, List.mem_of_getElem? hx, rfl⟩)
          rw [HI.out x (List.mem_of_getElem? hx)] at this
          exact hq this
        have E1 := hideIt e1
        clear e1
        clear hm hx kin hq
        go_wp2_with fail
        go_ret2
        exact ⟨ret_bi (by rw [E1.out]) (by rw [E1.out]), A1.out⟩
    · have i1 : ¬ (j : Int) < (X.length : Int) := by omega
      have hjn' : j = X.length := by omega
      rw [hjn', List.take_of_length_le (Nat.le_refl _)] at hm
      have hall : ∀ l ∈ rdsOf X, l.length = C.length := by
        intro l hl
        obtain ⟨x, hx, rfl⟩ := List.mem_map.1 hl
        rw [HI.out x hx, hm x hx]
      have HM := hideIt (And.intro hm hall)
      have H5 := hideIt (fun V => isIndex_any t (X.length : Int) V)
      by_cases ht : 0 ≤ t ∧ t < (X.length : Int)
      · obtain ⟨n, rfl⟩ : ∃ n : Nat, t = (n : Int) := ⟨t.toNat, by omega⟩
        have hn : n < X.length := by omega
        have e1 : r = (val L C (rdsOf X) (L.length - 1) n, 0) := by
          rw [← HR.out]; unfold hld
          rw [if_neg (by rw [HC.out.1]; simp), if_neg (by simp only [Classical.not_not]; exact HM.out.2), if_neg (by rw [rdsOf_length]; omega)]
          rfl
        have E1 := hideIt e1
        clear e1
        have e2 : idx (n : Int) (X.length : Int) = true := by simp [idx]; omega
        rw [e2] at H5
        have H6 := hideIt (teller_any (L := L) (C := C) (X := X) wr al cl ac cc aT ct (H1.out.after A1.out) (H2.out.after A1.out) (H3.out.after A1.out))
        obtain ⟨m, hm'⟩ : ∃ m, L.length = m + 1 := ⟨L.length - 1, by have := HC.out.2.2.1; omega⟩
        have i5 : (L.length : Int) - 1 = (m : Int) := by omega
        have i6 : (L.length : Int) ≤ 32 := by have := HC.out.2.1; omega
        have H7 := hideIt (fun (p : Pl) => tell_any (p := p) HC.out.2.2.2 HC.out.2.1 hX HM.out.1 m (by omega) n hn)
        have i7 : (0 : Int) < (L.length : Int) := by omega
        rw [show L.length - 1 = m by omega] at E1
        clear hm hall ht e2 hm' HC
        go_wp2_with fail
        refine (H5.out _).mono ?_
        rintro e w2 ⟨rfl, rfl⟩
        go_wp2_with fail
        refine H6.out.mono ?_
        rintro e w3 ⟨p, rfl, e3, a3, hp⟩
        go_wp2_with fail
        refine (H7.out p _ e3).mono ?_
        rintro e w4 ⟨rfl, e4, b4⟩
        go_wp2_with fail
        go_ret2
        exact ⟨ret_bi (by rw [E1.out]) (by rw [E1.out]), A1.out.trans (a3.then b4 (fun i hi h => by have : i = p.g := h; omega))⟩
      · have e1 : r = (false, 9) := by
          rw [← HR.out]; unfold hld
          rw [if_neg (by rw [HC.out.1]; simp), if_neg (by simp only [Classical.not_not]; exact HM.out.2), if_pos (by rw [rdsOf_length]; exact ht)]
        have E1 := hideIt e1
        clear e1
        have e2 : idx t (X.length : Int) = false := by
          unfold idx
          by_cases h0 : 0 ≤ t
          · rw [decide_eq_false (p := t < (X.length : Int)) (by omega), Bool.and_false]
          · rw [decide_eq_false h0, Bool.false_and]
        rw [e2] at H5
        clear hm hall ht e2 HC
        go_wp2_with fail
        refine (H5.out _).mono ?_
        rintro e w2 ⟨rfl, rfl⟩
        go_wp2_with fail
        go_ret2
        exact ⟨ret_bi (by rw [E1.out]) (by rw [E1.out]), A1.out⟩
end Go.Proofs.Ythgmjeljjladhaa
