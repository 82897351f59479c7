/-
  FormulaHolds: the walk.
-/
import Derived.Test.YtgbaibnlfmeklaaFoX15
import Derived.Test.YtgbaibnlfmeklaaFoK
import Derived.Test.YtgbaibnlfmeklaaFoJ
namespace Go.Proofs.Ytgbaibnlfmeklaa
open Go.RowKit
set_option maxRecDepth 8000
set_option maxHeartbeats 4000000 in
theorem law_holds {L : List Nd} {C : List Ch} {X : List Tr} (w : World) (al : Option Addr) (cl : Nat) (ac : Option Addr) (cc : Nat) (aT : Option Addr) (ct : Nat) (h1 : NRow w al L.length L) (ha : al = none → L.length = 0 ∧ cl = 0) (hn : L.length ≤ 4398046510976) (h2 : CRow w ac C.length C) (h3 : TRow w aT X.length X) (_haT : aT = none → X.length = 0 ∧ ct = 0) (hcap : X.length ≤ ct) (t : Int) (_lo : -9223372036854775808 ≤ t) (_hi : t ≤ 9223372036854775807) :
    Calls Try.prog 4 #[.slice al L.length cl, .agg #[.slice ac C.length cc, .slice aT X.length ct], .int .i64 t] w fun e w' => e = .returned (.bool true) ∧ After w w' := by
  obtain ⟨W1, hW1⟩ : ∃ W1, W1 = w.alloc (.cells #[.slice ac C.length cc, .slice aT X.length ct] 44) := ⟨_, rfl⟩
  have a1 : After w W1 := by rw [hW1]; exact After.rfl.alloc _
  have b1 : W1.heap[w.heap.size]? = some (.cells #[.slice ac C.length cc, .slice aT X.length ct] 44 (0, 0)) := by rw [hW1]; exact new_blk After.rfl
  have HB : Hid (∀ V, After W1 V → V.cell? ⟨w.heap.size, 0, none⟩ = some (.slice ac C.length cc) ∧ V.cell? ⟨w.heap.size, 1, none⟩ = some (.slice aT X.length ct)) := hideIt (fun V hV => by
    have h := (hV.block _ (blk_lt b1) (fun t => t)).trans b1
    exact ⟨blk_cell h rfl, blk_cell h rfl⟩)
  have H1 := hideIt (And.intro h1 (And.intro ha (And.intro h2 h3)))
  have HW := hideIt hW1
  have HA := hideIt a1
  clear h1 ha h2 h3 b1 a1 hW1 _haT _lo _hi
  have hL : (L.length : Int) ≤ 4398046510976 := by omega
  obtain ⟨c0, c1⟩ := HB.out _ After.rfl
  rw [HW.out] at c0 c1
  by_cases big : 300 < X.length
  · have i1 : (300 : Int) < (X.length : Int) := by omega
    go_enter Try.func4, Try.ntmps4
    go_wp2_with fail
    rw [← HW.out]
    refine (works_any _).mono ?_
    rintro e w2 ⟨rfl, a2⟩
    go_wp2_with fail
    go_ret
    exact ⟨rfl, HA.out.trans a2⟩
  by_cases wide : 20 < C.length
  · have i1 : ¬ (300 : Int) < (X.length : Int) := by omega
    have i2 : (20 : Int) < (C.length : Int) := by omega
    go_enter Try.func4, Try.ntmps4
    go_wp2_with fail
    rw [← HW.out]
    refine (works_any _).mono ?_
    rintro e w2 ⟨rfl, a2⟩
    go_wp2_with fail
    go_ret
    exact ⟨rfl, HA.out.trans a2⟩
  have i1 : ¬ (300 : Int) < (X.length : Int) := by omega
  have i2 : ¬ (20 : Int) < (C.length : Int) := by omega
  go_enter Try.func4, Try.ntmps4
  go_wp2_with fail
  rw [← HW.out]
  refine (copied_any (L := L) _ al cl (H1.out.1.after HA.out) H1.out.2.1 (by omega)).mono ?_
  rintro e w2 ⟨v, rfl, hown, a2⟩
  obtain ⟨an, cn, rfl, hg, _, _⟩ := ORow.row hown
  have A2 := hideIt a2
  have HG := hideIt hg
  have hx1 : X.length ≤ 1000 := by omega
  have HC1 := hideIt (fun (k : Int) V (hV : After w2 V) => holds_any (L := L) (C := C) (X := X) V an cn ac cc aT ct (hg.after hV) (H1.out.2.2.1.after ((HA.out.trans a2).trans hV)) (H1.out.2.2.2.after ((HA.out.trans a2).trans hV)) hx1 k)
  have HC2 := hideIt (fun (k : Int) V (hV : After w2 V) => refHolds_any (L := L) (C := C) (X := X) V al cl ac cc aT ct (H1.out.1.after ((HA.out.trans a2).trans hV)) (H1.out.2.2.1.after ((HA.out.trans a2).trans hV)) (H1.out.2.2.2.after ((HA.out.trans a2).trans hV)) hx1 hcap k)
  clear hown hg a2 c0 c1 HW
  generalize hld L C (rdsOf X) = hf at *
  go_wp2_with fail
  go_loopw [8] (fun a wr => ∃ z : Int, -1 ≤ z ∧ z ≤ (X.length : Int) + 1 ∧ a = .int .i64 z ∧ After w2 wr) (fun a _ => ((X.length : Int) + 1 - intOf a).toNat)
  case atStart => exact ⟨-1, by omega, by omega, rfl, After.rfl⟩
  case round =>
    obtain ⟨z, z1, z2, rfl, aw⟩ := hrel
    obtain ⟨c0, c1⟩ := HB.out _ (A2.out.trans aw)
    by_cases hz : z ≤ (X.length : Int)
    · by_cases he : z = (X.length : Int)
      · have AW := hideIt aw
        clear aw
        subst he
        obtain ⟨kb, kc, hk⟩ : ∃ kb kc, hf t = (kb, kc) := ⟨_, _, rfl⟩
        have HD1 := hideIt (HC1.out t)
        have HD2 := hideIt (HC2.out t)
        rw [hk] at HD1 HD2
        clear hk
        go_wp2_with fail
        refine (HD1.out _ AW.out).mono ?_
        rintro e w3 ⟨rfl, a3⟩
        have A3 := hideIt (AW.out.trans a3)
        clear a3 c0 c1
        obtain ⟨c0, c1⟩ := HB.out _ (A2.out.trans A3.out)
        go_wp2_with fail
        refine (HD2.out _ A3.out).mono ?_
        rintro e w4 ⟨rfl, a4⟩
        have A4 := hideIt (A3.out.trans a4)
        clear a4 c0 c1
        go_wp2_with fail
        go_roundw
        case rel => exact ⟨(X.length : Int) + 1, by omega, by omega, by go_num, A4.out⟩
        case measure => simp [intOf]
      · have AW := hideIt aw
        clear aw
        obtain ⟨kb, kc, hk⟩ : ∃ kb kc, hf z = (kb, kc) := ⟨_, _, rfl⟩
        have HD1 := hideIt (HC1.out z)
        have HD2 := hideIt (HC2.out z)
        rw [hk] at HD1 HD2
        clear hk
        go_wp2_with fail
        refine (HD1.out _ AW.out).mono ?_
        rintro e w3 ⟨rfl, a3⟩
        have A3 := hideIt (AW.out.trans a3)
        clear a3 c0 c1
        obtain ⟨c0, c1⟩ := HB.out _ (A2.out.trans A3.out)
        go_wp2_with fail
        refine (HD2.out _ A3.out).mono ?_
        rintro e w4 ⟨rfl, a4⟩
        have A4 := hideIt (A3.out.trans a4)
        clear a4 c0 c1
        go_wp2_with fail
        go_roundw
        case rel => exact ⟨z + 1, by omega, by omega, by go_num, A4.out⟩
        case measure => simp [intOf]; omega
    · have AW := hideIt aw
      clear aw
      go_wp2_with fail
      go_loopw [14] (fun a wr => ∃ j : Nat, j ≤ L.length ∧ a = .int .i64 j ∧ After w2 wr) (fun a _ => L.length - (intOf a).toNat)
      case atStart => exact ⟨0, Nat.zero_le _, rfl, AW.out⟩
      case round =>
        obtain ⟨j, hj, rfl, aw⟩ := hrel
        by_cases hjn : j < L.length
        · have i5 : (j : Int) < (L.length : Int) := by omega
          obtain ⟨b, off, x, rfl, hb, hx, k0, k1, k2, k3⟩ := nrow_at (H1.out.1.after ((HA.out.trans A2.out).trans aw)) hjn
          obtain ⟨b', off', x', rfl, hb', hx', k0', k1', k2', k3'⟩ := nrow_at (HG.out.after aw) hjn
          rw [hx] at hx'
          cases hx'
          go_upto_region 17 with fail
          go_quiet (fail)
          have aw' := aw.draws nq
          generalize wr.drewN nq = W9 at *
          go_wp2_with fail
          go_roundw
          case rel => exact ⟨j + 1, by omega, by go_num, aw'⟩
          case measure => simp [intOf]; omega
        · have i5 : ¬ (j : Int) < (L.length : Int) := by omega
          go_wp2_with fail
          refine (works_any _).mono ?_
          rintro e w5 ⟨rfl, a5⟩
          go_wp2_with fail
          go_ret
          exact ⟨rfl, ((HA.out.trans A2.out).trans aw).trans a5⟩
end Go.Proofs.Ytgbaibnlfmeklaa
