/-
  The document's Holds: what it answers.
-/
import Derived.Test.YthgmjeljjladhaaFoV
namespace Go.Proofs.Ythgmjeljjladhaa
open Go.RowKit
set_option maxRecDepth 8000
theorem rdsOf_take (X : List Tr) (k : Nat) : rdsOf (X.take k) = (rdsOf X).take k := by simp [rdsOf, List.map_take]
set_option maxHeartbeats 2000000 in
theorem refHolds_any {L : List Nd} {C : List Ch} {X : List Tr} (w : World) (al : Option Addr) (cl : Nat) (ac : Option Addr) (cc : Nat) (aT : Option Addr) (ct : Nat) (h1 : NRow w al L.length L) (h2 : CRow w ac C.length C) (h3 : TRow w aT X.length X) (hX : X.length ≤ 1000) (hcap : X.length ≤ ct) (t : Int) :
    Calls Try.prog 31 #[.slice al L.length cl, .slice ac C.length cc, .slice aT X.length ct, .int .i64 t] w fun e w' => e = .returned (.tuple #[.bool (hld L C (rdsOf X) t).1, .int .i64 (hld L C (rdsOf X) t).2]) ∧ After w w' := by
  have H0 := hideIt (refCheck_any L w al L.length cl h1 (C.length : Int))
  obtain ⟨r, hr⟩ : ∃ r, hld L C (rdsOf X) t = r := ⟨_, rfl⟩
  rw [hr]
  have HR := hideIt hr
  clear hr
  have hin : ∀ x ∈ X, x.l.length = x.n := fun x hx => (h3.2 x hx).1.1
  by_cases hc : chk L (C.length : Int) = 0
  rotate_left
  · have e1 : r = (false, chk L (C.length : Int)) := by rw [← HR.out]; unfold hld; rw [if_pos hc]
    have E1 := hideIt e1
    clear e1
    have hc' : (chk L (C.length : Int) != 0) = true := by simp [hc]
    generalize chk L (C.length : Int) = k at *
    clear h1 h2 h3 hin hc HR
    go_enter Try.func31, Try.ntmps31
    go_wp2_with (go_at_call 27; refine H0.out.mono ?_; rintro e w1 ⟨rfl, a1⟩)
    go_ret2
    exact ⟨ret_bi (by rw [E1.out]) (by rw [E1.out]), a1⟩
  rw [hc] at H0
  obtain ⟨c1, c2, c3, c4, c5⟩ := chk_zero hc
  have H1 := hideIt h1
  have H2 := hideIt h2
  have H3 := hideIt h3
  have HI := hideIt hin
  have HC := hideIt (And.intro hc (And.intro c1 (And.intro c4 c5)))
  clear h1 h2 h3 hin c1 c2 c3 c4 c5 hc
  go_enter Try.func31, Try.ntmps31
  go_wp2_with fail
  refine H0.out.mono ?_
  rintro e w1 ⟨rfl, a1⟩
  have A1 := hideIt a1
  clear a1 H0
  go_wp2_with fail
  go_loopw [11] (fun i wr => ∃ j : Nat, j ≤ X.length ∧ i = .int .i64 j ∧ (∀ x ∈ X.take j, x.n = C.length) ∧ wr = w1) (fun i _ => X.length - (intOf i).toNat)
  case atStart => exact ⟨0, Nat.zero_le _, rfl, fun x hx => by simp at hx, rfl⟩
  case round =>
    obtain ⟨j, hj, rfl, hm, rfl⟩ := hrel
    by_cases hjn : j < X.length
    · have i1 : (j : Int) < (X.length : Int) := by omega
      obtain ⟨b, off, x, rfl, hb, hx, k0, kin⟩ := trow_at (H3.out.after A1.out) hjn
      have HS := hideIt (And.intro hm (And.intro hx kin))
      by_cases hq : x.n = C.length
      · have q1 : ((x.n : Int) != (C.length : Int)) = false := by simp [hq]
        have HQ := hideIt hq
        clear hm hx kin hq
        go_wp2_with fail
        go_roundw
        case rel =>
          refine ⟨j + 1, by omega, by go_num, fun y hy => ?_, by first | rfl | trivial⟩
          rw [List.take_add_one, HS.out.2.1] at hy
          rcases List.mem_append.1 hy with h | h
          · exact HS.out.1 y h
          · simp at h; rw [h]; exact HQ.out
        case measure => simp [intOf]; omega
      · have q1 : ((x.n : Int) != (C.length : Int)) = true := by simp; omega
        have e1 : r = (false, 2) := by
          rw [← HR.out]; unfold hld
          rw [if_neg (by rw [HC.out.1]; simp), if_pos]
          intro hall
          have := hall x.l (by unfold rdsOf; exact List.mem_map.2 ⟨x, List.mem_of_getElem? hx, rfl⟩)
          rw [HI.out x (List.mem_of_getElem? hx)] at this
          exact hq this
        have E1 := hideIt e1
        clear e1
        clear hm hx kin hq
        go_wp2_with fail
        go_ret2
        exact ⟨ret_bi (by rw [E1.out]) (by rw [E1.out]), A1.out⟩
    · have i1 : ¬ (j : Int) < (X.length : Int) := by omega
      have hjn' : j = X.length := by omega
      rw [hjn', List.take_of_length_le (Nat.le_refl _)] at hm
      have hall : ∀ l ∈ rdsOf X, l.length = C.length := by
        intro l hl
        obtain ⟨x, hx, rfl⟩ := List.mem_map.1 hl
        rw [HI.out x hx, hm x hx]
      have HM := hideIt (And.intro hm hall)
      by_cases ht : 0 ≤ t ∧ t < (X.length : Int)
      · obtain ⟨n, rfl⟩ : ∃ n : Nat, t = (n : Int) := ⟨t.toNat, by omega⟩
        have hn : n < X.length := by omega
        have e1 : r = (val L C (rdsOf X) (L.length - 1) n, 0) := by
          rw [← HR.out]; unfold hld
          rw [if_neg (by rw [HC.out.1]; simp), if_neg (by simp only [Classical.not_not]; exact HM.out.2), if_neg (by rw [rdsOf_length]; omega)]
          rfl
        have E1 := hideIt e1
        obtain ⟨m, hm'⟩ : ∃ m, L.length = m + 1 := ⟨L.length - 1, by have := HC.out.2.2.1; omega⟩
        rw [show L.length - 1 = m by omega] at E1
        obtain ⟨X', hX'⟩ : ∃ X', X' = X.take (n + 1) := ⟨_, rfl⟩
        have hXl : X'.length = n + 1 := by rw [hX', List.length_take]; omega
        have hXr : rdsOf X' = (rdsOf X).take (n + 1) := by rw [hX', rdsOf_take]
        have hT' : TRow wr aT (n + 1) X' := by rw [hX']; exact (H3.out.after A1.out).take (by omega)
        have hnt : ∀ x ∈ X', x.n = C.length := fun x hx => HM.out.1 x (by rw [hX'] at hx; exact List.mem_of_mem_take hx)
        have H6 := hideIt (rows_any (C := C) (X := X') HC.out.2.2.2 HC.out.2.1 (by omega) hnt wr al cl (H1.out.after A1.out) ac cc aT ct (H2.out.after A1.out) (by rw [hXl]; exact hT'))
        rw [hXl] at H6
        have hval : val L C (rdsOf X') m n = val L C (rdsOf X) m n := by
          rw [hXr]
          refine val_past L C m (fun s hs => ?_)
          simp [List.getD, List.getElem?_take_of_lt (show s < n + 1 by omega)]
        have HVV := hideIt hval
        have i5 : (L.length : Int) - 1 = (m : Int) := by omega
        have i6 : (L.length : Int) ≤ 32 := by have := HC.out.2.1; omega
        have i7 : (n : Int) < (X.length : Int) := by omega
        have i8 : (n : Int) + 1 ≤ (ct : Int) := by omega
        have i9 : (n : Int) ≤ 1000 := by omega
        have j1 : (0 : Int) ≤ (n : Int) := by omega
        have j2 : (0 : Int) ≤ (m : Int) := by omega
        have HL := hideIt hm'
        clear hm hall ht hm' HC e1 hX' hXr hT' hnt hval HR HM
        go_wp2_with fail
        refine H6.out.mono ?_
        rintro e w5 ⟨v, rfl, R, hown, hlen, hrs, a5⟩
        obtain ⟨ra, rc, rfl, hg, _, _⟩ := ORow.row hown
        have hp := hrs.part hg (j := m) (by have := HL.out; omega)
        obtain ⟨lt, rb, roff, ya, yd, l, rfl, hb, hc, hr, hf⟩ := hp
        obtain ⟨yb, yoff, rfl, hyb, hy⟩ := brow_at hr (show n < n + 1 by omega)
        rw [show l.getD n false = r.1 by rw [hf n (by omega), HVV.out, E1.out]] at hy
        have i10 : (m : Int) < (R.length : Int) := by omega
        have i11 : (n : Int) < ((n + 1 : Nat) : Int) := by omega
        have i12 : (0 : Int) = r.2 := by rw [E1.out]
        clear hown hlen hrs hg hr hf lt hb hyb H6
        go_wp2_with fail
        go_ret2
        exact ⟨ret_bi rfl i12, A1.out.trans a5⟩
      · have e1 : r = (false, 9) := by
          rw [← HR.out]; unfold hld
          rw [if_neg (by rw [HC.out.1]; simp), if_neg (by simp only [Classical.not_not]; exact HM.out.2), if_pos (by rw [rdsOf_length]; exact ht)]
        have E1 := hideIt e1
        clear e1
        by_cases h0 : t < 0
        · clear hm hall ht HC
          go_wp2_with fail
          go_ret2
          exact ⟨ret_bi (by rw [E1.out]) (by rw [E1.out]), A1.out⟩
        · have i7 : (X.length : Int) ≤ t := by omega
          clear hm hall ht HC
          go_wp2_with fail
          go_ret2
          exact ⟨ret_bi (by rw [E1.out]) (by rw [E1.out]), A1.out⟩
end Go.Proofs.Ythgmjeljjladhaa
