/-
  may: what it answers.
-/
import Derived.Test.YtgbaibnlfmeklaaFoK
import Derived.BigQuiet
namespace Go.Proofs.Ytgbaibnlfmeklaa
open Go.RowKit
set_option maxRecDepth 8000
/-- A formula may be with so many nodes more, of a past that may be. -/
def MayB (L : List Nd) (C : List Ch) (T : List (List Rd)) (m : Nat) : Prop := chk L (C.length : Int) = 0 ∧ L.length + m ≤ 32 ∧ T.length ≤ 200 ∧ ∀ l ∈ T, l.length = C.length
set_option maxHeartbeats 1000000 in
theorem may_any {L : List Nd} {C : List Ch} {X : List Tr} (w : World) (al : Option Addr) (cl : Nat) (ac : Option Addr) (cc : Nat) (aT : Option Addr) (ct : Nat) (h1 : NRow w al L.length L) (h3 : TRow w aT X.length X) (m : Nat) (hm : m ≤ 100) :
    Calls Try.prog 21 #[.slice al L.length cl, .agg #[.slice ac C.length cc, .slice aT X.length ct], .int .i64 (m : Int)] w fun e w' => ∃ B, e = .returned (.bool B) ∧ (B = true → MayB L C (rdsOf X) m) ∧ After w w' := by
  obtain ⟨W1, hW1⟩ : ∃ W1, W1 = w.alloc (.cells #[.slice ac C.length cc, .slice aT X.length ct] 44) := ⟨_, rfl⟩
  have a1 : After w W1 := by rw [hW1]; exact After.rfl.alloc _
  have b1 : W1.heap[w.heap.size]? = some (.cells #[.slice ac C.length cc, .slice aT X.length ct] 44 (0, 0)) := by rw [hW1]; exact new_blk After.rfl
  have HC := hideIt (check_any L W1 al L.length cl (h1.after a1) (C.length : Int))
  have H3 := hideIt h3
  have HB : Hid (∀ V, After W1 V → V.cell? ⟨w.heap.size, 0, none⟩ = some (.slice ac C.length cc) ∧ V.cell? ⟨w.heap.size, 1, none⟩ = some (.slice aT X.length ct)) := hideIt (fun V hV => by
    have h := (hV.block _ (blk_lt b1) (fun t => t)).trans b1
    exact ⟨blk_cell h rfl, blk_cell h rfl⟩)
  have HW := hideIt hW1
  have HA := hideIt a1
  clear h1 h3 b1 a1 hW1
  by_cases hc : chk L (C.length : Int) = 0
  rotate_left
  · have hc' : (chk L (C.length : Int) != 0) = true := by simp [hc]
    generalize chk L (C.length : Int) = k at *
    clear hc
    go_enter Try.func21, Try.ntmps21
    go_wp2_with fail
    rw [← HW.out]
    refine HC.out.mono ?_
    rintro e w2 ⟨rfl, a2⟩
    go_wp2_with fail
    go_ret
    exact ⟨_, rfl, (fun h => by cases h), HA.out.trans a2⟩
  rw [hc] at HC
  have hL := (chk_zero hc).1
  have HK := hideIt hc
  clear hc
  have i0 : (L.length : Int) ≤ 32 := by omega
  have i00 : (m : Int) ≤ 100 := by omega
  by_cases h2 : 32 < L.length + m
  · have i1 : (32 : Int) < (L.length : Int) + (m : Int) := by omega
    clear h2
    go_enter Try.func21, Try.ntmps21
    go_wp2_with fail
    rw [← HW.out]
    refine HC.out.mono ?_
    rintro e w2 ⟨rfl, a2⟩
    go_wp2_with fail
    go_ret
    exact ⟨_, rfl, (fun h => by cases h), HA.out.trans a2⟩
  have i1 : ¬ (32 : Int) < (L.length : Int) + (m : Int) := by omega
  have H2 := hideIt h2
  clear h2
  by_cases h4 : 200 < X.length
  · have i2 : (200 : Int) < (X.length : Int) := by omega
    clear h4
    go_enter Try.func21, Try.ntmps21
    go_wp2_with fail
    rw [← HW.out]
    refine HC.out.mono ?_
    rintro e w2 ⟨rfl, a2⟩
    obtain ⟨c0, c1⟩ := HB.out _ a2
    go_wp2_with fail
    go_ret
    exact ⟨_, rfl, (fun h => by cases h), HA.out.trans a2⟩
  have i2 : ¬ (200 : Int) < (X.length : Int) := by omega
  have H4 := hideIt h4
  clear h4
  go_enter Try.func21, Try.ntmps21
  go_wp2_with fail
  rw [← HW.out]
  refine HC.out.mono ?_
  rintro e w2 ⟨rfl, a2⟩
  obtain ⟨c0, c1⟩ := HB.out _ a2
  have A2 := hideIt a2
  clear a2
  go_wp2_with fail
  go_loopw [7] (fun i wr => ∃ j : Nat, j ≤ X.length ∧ i = .int .i64 j ∧ (∀ x ∈ X.take j, x.n = C.length) ∧ After W1 wr) (fun i _ => X.length - (intOf i).toNat)
  case atStart => exact ⟨0, Nat.zero_le _, rfl, fun x hx => by simp at hx, A2.out⟩
  case round =>
    obtain ⟨j, hj, rfl, hm2, aw⟩ := hrel
    obtain ⟨d0, d1⟩ := HB.out _ aw
    by_cases hjn : j < X.length
    · have i5 : (j : Int) < (X.length : Int) := by omega
      obtain ⟨b, off, x, rfl, hb, hx, k0, kin⟩ := trow_at (H3.out.after (HA.out.trans aw)) hjn
      have HS := hideIt (And.intro hm2 (And.intro hx aw))
      by_cases hq : x.n = C.length
      · have q1 : ((x.n : Int) != (C.length : Int)) = false := by simp [hq]
        have HQ := hideIt hq
        clear hm2 hx kin hq aw
        go_upto_region 6 with fail
        go_quiet (fail)
        go_wp2_with fail
        go_roundw
        case rel =>
          refine ⟨j + 1, by omega, by go_num, fun y hy => ?_, HS.out.2.2.draws _⟩
          rw [List.take_add_one, HS.out.2.1] at hy
          rcases List.mem_append.1 hy with h | h
          · exact HS.out.1 y h
          · simp at h; rw [h]; exact HQ.out
        case measure => simp [intOf]; omega
      · have q1 : ((x.n : Int) != (C.length : Int)) = true := by simp; omega
        clear hm2 hx kin hq aw
        go_upto_region 6 with fail
        go_quiet (fail)
        go_wp2_with fail
        go_ret
        exact ⟨_, rfl, (fun h => by cases h), HA.out.trans (HS.out.2.2.draws _)⟩
    · have i5 : ¬ (j : Int) < (X.length : Int) := by omega
      have hjn' : j = X.length := by omega
      rw [hjn', List.take_of_length_le (Nat.le_refl _)] at hm2
      have HS := hideIt (And.intro hm2 aw)
      clear hm2 aw
      go_wp2_with fail
      go_ret
      refine .inr ⟨rfl, ⟨HK.out, (by have := H2.out; omega), (by rw [rdsOf_length]; have := H4.out; omega), (fun l hl => ?_)⟩, HA.out.trans HS.out.2⟩
      obtain ⟨x, hx, rfl⟩ := List.mem_map.1 hl
      rw [(H3.out.2 x hx).1.1, HS.out.1 x hx]
end Go.Proofs.Ytgbaibnlfmeklaa
