/-
  FormulaStep: the walk.
-/
import Derived.Test.YtgbaibnlfmeklaaFoQ
namespace Go.Proofs.Ytgbaibnlfmeklaa
open Go.RowKit
set_option maxRecDepth 8000
set_option maxHeartbeats 4000000 in
theorem law_stepF {L : List Nd} {C : List Ch} {X : List Tr} (w : World) (al : Option Addr) (cl : Nat) (ac : Option Addr) (cc : Nat) (aT : Option Addr) (ct : Nat) (h1 : NRow w al L.length L) (ha : al = none → L.length = 0 ∧ cl = 0) (h2 : CRow w ac C.length C) (h3 : TRow w aT X.length X) (n : Int) :
    Calls Try.prog 7 #[.slice al L.length cl, .agg #[.slice ac C.length cc, .slice aT X.length ct], .int .i64 n] w fun e w' => e = .returned (.bool true) ∧ After w w' := by
  obtain ⟨W1, hW1⟩ : ∃ W1, W1 = w.alloc (.cells #[.slice ac C.length cc, .slice aT X.length ct] 44) := ⟨_, rfl⟩
  have a1 : After w W1 := by rw [hW1]; exact After.rfl.alloc _
  have b1 : W1.heap[w.heap.size]? = some (.cells #[.slice ac C.length cc, .slice aT X.length ct] 44 (0, 0)) := by rw [hW1]; exact new_blk After.rfl
  have HB : Hid (∀ V, After W1 V → V.cell? ⟨w.heap.size, 0, none⟩ = some (.slice ac C.length cc) ∧ V.cell? ⟨w.heap.size, 1, none⟩ = some (.slice aT X.length ct)) := hideIt (fun V hV => by
    have h := (hV.block _ (blk_lt b1) (fun t => t)).trans b1
    exact ⟨blk_cell h rfl, blk_cell h rfl⟩)
  have H1 := hideIt (And.intro h1 (And.intro ha (And.intro h2 h3)))
  have HW := hideIt hW1
  have HA := hideIt a1
  clear h1 ha h2 h3 b1 a1 hW1
  obtain ⟨N, hN, eN⟩ := and63_nat n
  have HN := hideIt hN
  clear hN
  go_enter Try.func7, Try.ntmps7
  go_wp2_with fail
  rw [← HW.out]
  refine (works_any _).mono ?_
  rintro e w2 ⟨rfl, a2⟩
  obtain ⟨c0, c1⟩ := HB.out _ a2
  have A2 := hideIt a2
  clear a2 HW
  go_wp2_with fail
  refine (may_any (L := L) (C := C) (X := X) _ al cl ac cc aT ct (H1.out.1.after (HA.out.trans A2.out)) (H1.out.2.2.2.after (HA.out.trans A2.out)) 6 (by omega)).mono ?_
  rintro e w3 ⟨B, rfl, hB, a3⟩
  have A3 := hideIt (A2.out.trans a3)
  clear a3 c0 c1 A2
  cases B with
  | false =>
    clear hB
    go_wp2_with fail
    go_ret
    exact ⟨rfl, HA.out.trans A3.out⟩
  | true =>
    obtain ⟨hc, hl, hT, hr⟩ := hB rfl
    obtain ⟨m, hm⟩ : ∃ m, L.length = m + 1 := ⟨L.length - 1, by have := (chk_zero hc).2.2.2.1; omega⟩
    have i5 : (L.length : Int) - 1 = (m : Int) := by omega
    have i6 : (L.length : Int) ≤ 32 := by omega
    have i7 : (N : Int) ≤ 63 := by have := HN.out; omega
    have HH := hideIt (with_call H1.out.1 H1.out.2.1 (show L.length ≤ 32 by omega))
    have hXl : (rdsOf X).length = X.length := rdsOf_length X
    obtain ⟨S, hS⟩ : ∃ S, bitsOf (fun t => sinc (val L C (rdsOf X) 0) (val L C (rdsOf X) m) t) (rdsOf X).length = S := ⟨_, rfl⟩
    have zS : S.size = X.length := by rw [← hS, bitsOf_size, hXl]
    obtain ⟨SM, hSM⟩ : ∃ S, bitsOf (fun t => anyW (val L C (rdsOf X) m) (t - (N + 1)) t) (rdsOf X).length = S := ⟨_, rfl⟩
    have zSM : SM.size = X.length := by rw [← hSM, bitsOf_size, hXl]
    have T1 := hideIt (tx_call (ac := ac) (cc := cc) (aT := aT) (ct := ct) H1.out.2.2.1 H1.out.2.2.2 hT hr (tx_since hm hc hl))
    have T2 := hideIt (tx_call (ac := ac) (cc := cc) (aT := aT) (ct := ct) H1.out.2.2.1 H1.out.2.2.2 hT hr (tx_since4 hm hc hl))
    have T3 := hideIt (tx_call (ac := ac) (cc := cc) (aT := aT) (ct := ct) H1.out.2.2.1 H1.out.2.2.2 hT hr (tx_once hm hc (by omega) (show N + 1 ≤ 64 by omega)))
    have T4 := hideIt (tx_call (ac := ac) (cc := cc) (aT := aT) (ct := ct) H1.out.2.2.1 H1.out.2.2.2 hT hr (tx_once3 hm hc hl (show N ≤ 63 by omega)))
    rw [Int.natCast_add, Int.natCast_one] at T3
    rw [hS] at T1 T2
    rw [hSM] at T3 T4
    clear hB hc hl hT hr hm hS hSM
    have HX : Hid (After w w3) := hideIt (HA.out.trans A3.out)
    have HV : Hid (After W1 w3) := hideIt A3.out
    go_upto_region 7 with fail
    refine region_slots (by kernel_rfl) [26, 27, 28, 29, 30, 31, 32, 9] [isV (.agg #[.slice ac C.length cc, .slice aT X.length ct]), isV (.slice al L.length cl), isV (.int .i64 (m : Int)), isV ((Nd.mk 12 0 (m : Int) 0).val), isRow ([Nd.mk 12 0 (m : Int) 0]), isRow (L ++ [Nd.mk 12 0 (m : Int) 0]), isV (.string S), isV (.string S)] 8 rfl rfl (stable_all (st_cons (isV_st _) (st_cons (isV_st _) (st_cons (isV_st _) (st_cons (isV_st _) (st_cons (isRow_st _) (st_cons (isRow_st _) (st_cons (isV_st _) (st_cons (isV_st _) (st_nil)))))))))) rfl rfl ?_ ?_
    · exact ⟨⟨rfl, rfl, (.inl rfl), fun a W9 K hd hb aw hk => wp_load rfl (show a.eval (.tmp 4) = Ptr w.heap.size from hb 4 rfl) (loadPast (HB.out _ (HV.out.trans aw)).1 (HB.out _ (HV.out.trans aw)).2) (hk _ _ rfl After.rfl)⟩,
        ⟨rfl, rfl, (.inl rfl), fun a W9 K hd hb aw hk => wp_move (.inl rfl) (show a.eval (.tmp 0) = .slice al L.length cl from hb 0 rfl) (hk _ _ rfl After.rfl)⟩,
        ⟨rfl, rfl, (.inl rfl), fun a W9 K hd hb aw hk => wp_move (.inl rfl) (show a.eval (.tmp 7) = .int .i64 (m : Int) from hb 7 rfl) (hk _ _ rfl After.rfl)⟩,
        ⟨rfl, rfl, (.inl rfl), fun a W9 K hd hb aw hk => wp_build3 rfl rfl rfl (hd 2 rfl) (bn012 _ _ _ _) (hk _ _ rfl After.rfl)⟩,
        ⟨rfl, rfl, (.inl rfl), fun a W9 K hd hb aw hk => by
      obtain ⟨v, w9, h1, h2, h3⟩ := rowOf1 (Nd.mk 12 0 (m : Int) 0) W9
      exact wp_slice1 rfl (hd 3 rfl) h1 (hk _ _ h2 h3)⟩,
        ⟨rfl, rfl, (.inl rfl), fun a W9 K hd hb aw hk => wp_func2 rfl (enter_of Try.func23 (by kernel_rfl) (by kernel_rfl)) (hd 1 rfl) rfl ((HH.out W9 (HX.out.trans aw) _ _ (Nat.le_of_ble_eq_true rfl) (hd 4 rfl)).mono (fun e w1 h => by obtain ⟨v, h1, h2, h3⟩ := h; exact ⟨v, h1, hk _ _ h2 h3⟩))⟩,
        ⟨rfl, rfl, (.inl rfl), fun a W9 K hd hb aw hk => wp_func2 rfl (enter_of Try.func22 (by kernel_rfl) (by kernel_rfl)) (hd 0 rfl) rfl ((T1.out W9 (HX.out.trans aw) _ (hd 5 rfl)).mono (fun e w1 h => ⟨_, h.1, hk _ _ rfl h.2⟩))⟩,
        ⟨rfl, rfl, (.inl rfl), fun a W9 K hd hb aw hk => wp_move (.inr rfl) (hd 6 rfl) (hk _ _ rfl After.rfl)⟩,
        trivial⟩
    intro x9 w9 hx9 aw9
    have t0 : x9 0 = .agg #[.slice ac C.length cc, .slice aT X.length ct] := hx9 0 (Nat.le_of_ble_eq_true rfl)
    have t1 : x9 1 = .slice al L.length cl := hx9 1 (Nat.le_of_ble_eq_true rfl)
    have t2 : x9 2 = .int .i64 (m : Int) := hx9 2 (Nat.le_of_ble_eq_true rfl)
    have t3 : x9 3 = (Nd.mk 12 0 (m : Int) 0).val := hx9 3 (Nat.le_of_ble_eq_true rfl)
    have t6 : x9 6 = .string S := hx9 6 (Nat.le_of_ble_eq_true rfl)
    have t7 : x9 7 = .string S := hx9 7 (Nat.le_of_ble_eq_true rfl)
    simp only [sets, List.getD_cons_succ, List.getD_cons_zero, List.set_cons_succ, List.set_cons_zero, t0, t1, t2, t3, t6, t7]
    clear hx9 t0 t1 t2 t3 t6 t7
    generalize x9 4 = y4
    generalize x9 5 = y5
    clear x9
    have HX := hideIt (HX.out.trans aw9)
    have HV := hideIt (HV.out.trans aw9)
    clear aw9
    go_upto_region 8 with fail
    refine region_slots (by kernel_rfl) [33, 34, 35, 36, 37, 38, 39, 40, 41, 42, 43, 44, 45, 46, 47, 48, 10] [isV (.agg #[.slice ac C.length cc, .slice aT X.length ct]), isV (.slice al L.length cl), isV (.int .i64 (m : Int)), isV ((Nd.mk 12 0 (m : Int) 0).val), isV (.int .i64 (L.length : Int)), isV ((Nd.mk 9 (L.length : Int) 0 0).val), isV (.int .i64 (L.length : Int)), isV (.int .i64 ((L.length : Int) + 1)), isV ((Nd.mk 7 0 ((L.length : Int) + 1) 0).val), isV (.int .i64 (m : Int)), isV (.int .i64 (L.length : Int)), isV (.int .i64 ((L.length : Int) + 2)), isV ((Nd.mk 8 (m : Int) ((L.length : Int) + 2) 0).val), isRow ([Nd.mk 12 0 (m : Int) 0, Nd.mk 9 (L.length : Int) 0 0, Nd.mk 7 0 ((L.length : Int) + 1) 0, Nd.mk 8 (m : Int) ((L.length : Int) + 2) 0]), isRow (L ++ [Nd.mk 12 0 (m : Int) 0, Nd.mk 9 (L.length : Int) 0 0, Nd.mk 7 0 ((L.length : Int) + 1) 0, Nd.mk 8 (m : Int) ((L.length : Int) + 2) 0]), isV (.string S), isV (.string S)] 17 rfl rfl (stable_all (st_cons (isV_st _) (st_cons (isV_st _) (st_cons (isV_st _) (st_cons (isV_st _) (st_cons (isV_st _) (st_cons (isV_st _) (st_cons (isV_st _) (st_cons (isV_st _) (st_cons (isV_st _) (st_cons (isV_st _) (st_cons (isV_st _) (st_cons (isV_st _) (st_cons (isV_st _) (st_cons (isRow_st _) (st_cons (isRow_st _) (st_cons (isV_st _) (st_cons (isV_st _) (st_nil))))))))))))))))))) rfl rfl ?_ ?_
    · exact ⟨⟨rfl, rfl, (.inl rfl), fun a W9 K hd hb aw hk => wp_load rfl (show a.eval (.tmp 4) = Ptr w.heap.size from hb 4 rfl) (loadPast (HB.out _ (HV.out.trans aw)).1 (HB.out _ (HV.out.trans aw)).2) (hk _ _ rfl After.rfl)⟩,
        ⟨rfl, rfl, (.inl rfl), fun a W9 K hd hb aw hk => wp_move (.inl rfl) (show a.eval (.tmp 0) = .slice al L.length cl from hb 0 rfl) (hk _ _ rfl After.rfl)⟩,
        ⟨rfl, rfl, (.inl rfl), fun a W9 K hd hb aw hk => wp_move (.inl rfl) (show a.eval (.tmp 7) = .int .i64 (m : Int) from hb 7 rfl) (hk _ _ rfl After.rfl)⟩,
        ⟨rfl, rfl, (.inl rfl), fun a W9 K hd hb aw hk => wp_build3 rfl rfl rfl (hd 2 rfl) (bn012 _ _ _ _) (hk _ _ rfl After.rfl)⟩,
        ⟨rfl, rfl, (.inl rfl), fun a W9 K hd hb aw hk => wp_move (.inl rfl) (show a.eval (.tmp 8) = .int .i64 (L.length : Int) from hb 8 rfl) (hk _ _ rfl After.rfl)⟩,
        ⟨rfl, rfl, (.inl rfl), fun a W9 K hd hb aw hk => wp_build2 rfl rfl (hd 4 rfl) (bn01 _ _ _) (hk _ _ rfl After.rfl)⟩,
        ⟨rfl, rfl, (.inl rfl), fun a W9 K hd hb aw hk => wp_move (.inl rfl) (show a.eval (.tmp 8) = .int .i64 (L.length : Int) from hb 8 rfl) (hk _ _ rfl After.rfl)⟩,
        ⟨rfl, rfl, (.inl rfl), fun a W9 K hd hb aw hk => wp_bin rfl (hd 6 rfl) rfl (addI rfl (by omega) (by omega) _ _ _) (hk _ _ rfl After.rfl)⟩,
        ⟨rfl, rfl, (.inl rfl), fun a W9 K hd hb aw hk => wp_build3 rfl rfl rfl (hd 7 rfl) (bn012 _ _ _ _) (hk _ _ rfl After.rfl)⟩,
        ⟨rfl, rfl, (.inl rfl), fun a W9 K hd hb aw hk => wp_move (.inl rfl) (show a.eval (.tmp 7) = .int .i64 (m : Int) from hb 7 rfl) (hk _ _ rfl After.rfl)⟩,
        ⟨rfl, rfl, (.inl rfl), fun a W9 K hd hb aw hk => wp_move (.inl rfl) (show a.eval (.tmp 8) = .int .i64 (L.length : Int) from hb 8 rfl) (hk _ _ rfl After.rfl)⟩,
        ⟨rfl, rfl, (.inl rfl), fun a W9 K hd hb aw hk => wp_bin rfl (hd 10 rfl) rfl (addI rfl (by omega) (by omega) _ _ _) (hk _ _ rfl After.rfl)⟩,
        ⟨rfl, rfl, (.inl rfl), fun a W9 K hd hb aw hk => wp_build3 rfl rfl (hd 9 rfl) (hd 11 rfl) (bn012 _ _ _ _) (hk _ _ rfl After.rfl)⟩,
        ⟨rfl, rfl, (.inl rfl), fun a W9 K hd hb aw hk => by
      obtain ⟨v, w9, h1, h2, h3⟩ := rowOf4 (Nd.mk 12 0 (m : Int) 0) (Nd.mk 9 (L.length : Int) 0 0) (Nd.mk 7 0 ((L.length : Int) + 1) 0) (Nd.mk 8 (m : Int) ((L.length : Int) + 2) 0) W9
      exact wp_slice4 rfl (hd 3 rfl) (hd 5 rfl) (hd 8 rfl) (hd 12 rfl) h1 (hk _ _ h2 h3)⟩,
        ⟨rfl, rfl, (.inl rfl), fun a W9 K hd hb aw hk => wp_func2 rfl (enter_of Try.func23 (by kernel_rfl) (by kernel_rfl)) (hd 1 rfl) rfl ((HH.out W9 (HX.out.trans aw) _ _ (Nat.le_of_ble_eq_true rfl) (hd 13 rfl)).mono (fun e w1 h => by obtain ⟨v, h1, h2, h3⟩ := h; exact ⟨v, h1, hk _ _ h2 h3⟩))⟩,
        ⟨rfl, rfl, (.inl rfl), fun a W9 K hd hb aw hk => wp_func2 rfl (enter_of Try.func22 (by kernel_rfl) (by kernel_rfl)) (hd 0 rfl) rfl ((T2.out W9 (HX.out.trans aw) _ (hd 14 rfl)).mono (fun e w1 h => ⟨_, h.1, hk _ _ rfl h.2⟩))⟩,
        ⟨rfl, rfl, (.inl rfl), fun a W9 K hd hb aw hk => wp_move (.inr rfl) (hd 15 rfl) (hk _ _ rfl After.rfl)⟩,
        trivial⟩
    intro x9 w9 hx9 aw9
    have t0 : x9 0 = .agg #[.slice ac C.length cc, .slice aT X.length ct] := hx9 0 (Nat.le_of_ble_eq_true rfl)
    have t1 : x9 1 = .slice al L.length cl := hx9 1 (Nat.le_of_ble_eq_true rfl)
    have t2 : x9 2 = .int .i64 (m : Int) := hx9 2 (Nat.le_of_ble_eq_true rfl)
    have t3 : x9 3 = (Nd.mk 12 0 (m : Int) 0).val := hx9 3 (Nat.le_of_ble_eq_true rfl)
    have t4 : x9 4 = .int .i64 (L.length : Int) := hx9 4 (Nat.le_of_ble_eq_true rfl)
    have t5 : x9 5 = (Nd.mk 9 (L.length : Int) 0 0).val := hx9 5 (Nat.le_of_ble_eq_true rfl)
    have t6 : x9 6 = .int .i64 (L.length : Int) := hx9 6 (Nat.le_of_ble_eq_true rfl)
    have t7 : x9 7 = .int .i64 ((L.length : Int) + 1) := hx9 7 (Nat.le_of_ble_eq_true rfl)
    have t8 : x9 8 = (Nd.mk 7 0 ((L.length : Int) + 1) 0).val := hx9 8 (Nat.le_of_ble_eq_true rfl)
    have t9 : x9 9 = .int .i64 (m : Int) := hx9 9 (Nat.le_of_ble_eq_true rfl)
    have t10 : x9 10 = .int .i64 (L.length : Int) := hx9 10 (Nat.le_of_ble_eq_true rfl)
    have t11 : x9 11 = .int .i64 ((L.length : Int) + 2) := hx9 11 (Nat.le_of_ble_eq_true rfl)
    have t12 : x9 12 = (Nd.mk 8 (m : Int) ((L.length : Int) + 2) 0).val := hx9 12 (Nat.le_of_ble_eq_true rfl)
    have t15 : x9 15 = .string S := hx9 15 (Nat.le_of_ble_eq_true rfl)
    have t16 : x9 16 = .string S := hx9 16 (Nat.le_of_ble_eq_true rfl)
    simp only [sets, List.getD_cons_succ, List.getD_cons_zero, List.set_cons_succ, List.set_cons_zero, t0, t1, t2, t3, t4, t5, t6, t7, t8, t9, t10, t11, t12, t15, t16]
    clear hx9 t0 t1 t2 t3 t4 t5 t6 t7 t8 t9 t10 t11 t12 t15 t16
    generalize x9 13 = y13
    generalize x9 14 = y14
    clear x9
    have HX := hideIt (HX.out.trans aw9)
    have HV := hideIt (HV.out.trans aw9)
    clear aw9
    go_upto_region 9 with fail
    refine region_slots (by kernel_rfl) [49, 50, 51, 52, 53, 54, 55, 56, 57, 11] [isV (.agg #[.slice ac C.length cc, .slice aT X.length ct]), isV (.slice al L.length cl), isV (.int .i64 (m : Int)), isV (.int .i64 (N : Int)), isV (.int .i64 ((N : Int) + 1)), isV ((Nd.mk 10 (m : Int) 0 ((N : Int) + 1)).val), isRow ([Nd.mk 10 (m : Int) 0 ((N : Int) + 1)]), isRow (L ++ [Nd.mk 10 (m : Int) 0 ((N : Int) + 1)]), isV (.string SM), isV (.string SM)] 10 rfl rfl (stable_all (st_cons (isV_st _) (st_cons (isV_st _) (st_cons (isV_st _) (st_cons (isV_st _) (st_cons (isV_st _) (st_cons (isV_st _) (st_cons (isRow_st _) (st_cons (isRow_st _) (st_cons (isV_st _) (st_cons (isV_st _) (st_nil)))))))))))) rfl rfl ?_ ?_
    · exact ⟨⟨rfl, rfl, (.inl rfl), fun a W9 K hd hb aw hk => wp_load rfl (show a.eval (.tmp 4) = Ptr w.heap.size from hb 4 rfl) (loadPast (HB.out _ (HV.out.trans aw)).1 (HB.out _ (HV.out.trans aw)).2) (hk _ _ rfl After.rfl)⟩,
        ⟨rfl, rfl, (.inl rfl), fun a W9 K hd hb aw hk => wp_move (.inl rfl) (show a.eval (.tmp 0) = .slice al L.length cl from hb 0 rfl) (hk _ _ rfl After.rfl)⟩,
        ⟨rfl, rfl, (.inl rfl), fun a W9 K hd hb aw hk => wp_move (.inl rfl) (show a.eval (.tmp 7) = .int .i64 (m : Int) from hb 7 rfl) (hk _ _ rfl After.rfl)⟩,
        ⟨rfl, rfl, (.inl rfl), fun a W9 K hd hb aw hk => wp_move (.inl rfl) (show a.eval (.tmp 2) = .int .i64 (N : Int) from hb 2 rfl) (hk _ _ rfl After.rfl)⟩,
        ⟨rfl, rfl, (.inl rfl), fun a W9 K hd hb aw hk => wp_bin rfl (hd 3 rfl) rfl (addI rfl (by omega) (by omega) _ _ _) (hk _ _ rfl After.rfl)⟩,
        ⟨rfl, rfl, (.inl rfl), fun a W9 K hd hb aw hk => wp_build3 rfl rfl (hd 2 rfl) (hd 4 rfl) (bn013 _ _ _ _) (hk _ _ rfl After.rfl)⟩,
        ⟨rfl, rfl, (.inl rfl), fun a W9 K hd hb aw hk => by
      obtain ⟨v, w9, h1, h2, h3⟩ := rowOf1 (Nd.mk 10 (m : Int) 0 ((N : Int) + 1)) W9
      exact wp_slice1 rfl (hd 5 rfl) h1 (hk _ _ h2 h3)⟩,
        ⟨rfl, rfl, (.inl rfl), fun a W9 K hd hb aw hk => wp_func2 rfl (enter_of Try.func23 (by kernel_rfl) (by kernel_rfl)) (hd 1 rfl) rfl ((HH.out W9 (HX.out.trans aw) _ _ (Nat.le_of_ble_eq_true rfl) (hd 6 rfl)).mono (fun e w1 h => by obtain ⟨v, h1, h2, h3⟩ := h; exact ⟨v, h1, hk _ _ h2 h3⟩))⟩,
        ⟨rfl, rfl, (.inl rfl), fun a W9 K hd hb aw hk => wp_func2 rfl (enter_of Try.func22 (by kernel_rfl) (by kernel_rfl)) (hd 0 rfl) rfl ((T3.out W9 (HX.out.trans aw) _ (hd 7 rfl)).mono (fun e w1 h => ⟨_, h.1, hk _ _ rfl h.2⟩))⟩,
        ⟨rfl, rfl, (.inl rfl), fun a W9 K hd hb aw hk => wp_move (.inr rfl) (hd 8 rfl) (hk _ _ rfl After.rfl)⟩,
        trivial⟩
    intro x9 w9 hx9 aw9
    have t0 : x9 0 = .agg #[.slice ac C.length cc, .slice aT X.length ct] := hx9 0 (Nat.le_of_ble_eq_true rfl)
    have t1 : x9 1 = .slice al L.length cl := hx9 1 (Nat.le_of_ble_eq_true rfl)
    have t2 : x9 2 = .int .i64 (m : Int) := hx9 2 (Nat.le_of_ble_eq_true rfl)
    have t3 : x9 3 = .int .i64 (N : Int) := hx9 3 (Nat.le_of_ble_eq_true rfl)
    have t4 : x9 4 = .int .i64 ((N : Int) + 1) := hx9 4 (Nat.le_of_ble_eq_true rfl)
    have t5 : x9 5 = (Nd.mk 10 (m : Int) 0 ((N : Int) + 1)).val := hx9 5 (Nat.le_of_ble_eq_true rfl)
    have t8 : x9 8 = .string SM := hx9 8 (Nat.le_of_ble_eq_true rfl)
    have t9 : x9 9 = .string SM := hx9 9 (Nat.le_of_ble_eq_true rfl)
    simp only [sets, List.getD_cons_succ, List.getD_cons_zero, List.set_cons_succ, List.set_cons_zero, t0, t1, t2, t3, t4, t5, t8, t9]
    clear hx9 t0 t1 t2 t3 t4 t5 t8 t9
    generalize x9 6 = y6
    generalize x9 7 = y7
    clear x9
    have HX := hideIt (HX.out.trans aw9)
    have HV := hideIt (HV.out.trans aw9)
    clear aw9
    go_upto_region 10 with fail
    refine region_slots (by kernel_rfl) [58, 59, 60, 61, 62, 63, 64, 65, 66, 67, 68, 69, 70, 71, 12] [isV (.agg #[.slice ac C.length cc, .slice aT X.length ct]), isV (.slice al L.length cl), isV (.int .i64 (m : Int)), isV (.int .i64 (N : Int)), isV ((Nd.mk 10 (m : Int) 0 (N : Int)).val), isV (.int .i64 (L.length : Int)), isV ((Nd.mk 9 (L.length : Int) 0 0).val), isV (.int .i64 (m : Int)), isV (.int .i64 (L.length : Int)), isV (.int .i64 ((L.length : Int) + 1)), isV ((Nd.mk 8 (m : Int) ((L.length : Int) + 1) 0).val), isRow ([Nd.mk 10 (m : Int) 0 (N : Int), Nd.mk 9 (L.length : Int) 0 0, Nd.mk 8 (m : Int) ((L.length : Int) + 1) 0]), isRow (L ++ [Nd.mk 10 (m : Int) 0 (N : Int), Nd.mk 9 (L.length : Int) 0 0, Nd.mk 8 (m : Int) ((L.length : Int) + 1) 0]), isV (.string SM), isV (.string SM)] 15 rfl rfl (stable_all (st_cons (isV_st _) (st_cons (isV_st _) (st_cons (isV_st _) (st_cons (isV_st _) (st_cons (isV_st _) (st_cons (isV_st _) (st_cons (isV_st _) (st_cons (isV_st _) (st_cons (isV_st _) (st_cons (isV_st _) (st_cons (isV_st _) (st_cons (isRow_st _) (st_cons (isRow_st _) (st_cons (isV_st _) (st_cons (isV_st _) (st_nil))))))))))))))))) rfl rfl ?_ ?_
    · exact ⟨⟨rfl, rfl, (.inl rfl), fun a W9 K hd hb aw hk => wp_load rfl (show a.eval (.tmp 4) = Ptr w.heap.size from hb 4 rfl) (loadPast (HB.out _ (HV.out.trans aw)).1 (HB.out _ (HV.out.trans aw)).2) (hk _ _ rfl After.rfl)⟩,
        ⟨rfl, rfl, (.inl rfl), fun a W9 K hd hb aw hk => wp_move (.inl rfl) (show a.eval (.tmp 0) = .slice al L.length cl from hb 0 rfl) (hk _ _ rfl After.rfl)⟩,
        ⟨rfl, rfl, (.inl rfl), fun a W9 K hd hb aw hk => wp_move (.inl rfl) (show a.eval (.tmp 7) = .int .i64 (m : Int) from hb 7 rfl) (hk _ _ rfl After.rfl)⟩,
        ⟨rfl, rfl, (.inl rfl), fun a W9 K hd hb aw hk => wp_move (.inl rfl) (show a.eval (.tmp 2) = .int .i64 (N : Int) from hb 2 rfl) (hk _ _ rfl After.rfl)⟩,
        ⟨rfl, rfl, (.inl rfl), fun a W9 K hd hb aw hk => wp_build3 rfl rfl (hd 2 rfl) (hd 3 rfl) (bn013 _ _ _ _) (hk _ _ rfl After.rfl)⟩,
        ⟨rfl, rfl, (.inl rfl), fun a W9 K hd hb aw hk => wp_move (.inl rfl) (show a.eval (.tmp 8) = .int .i64 (L.length : Int) from hb 8 rfl) (hk _ _ rfl After.rfl)⟩,
        ⟨rfl, rfl, (.inl rfl), fun a W9 K hd hb aw hk => wp_build2 rfl rfl (hd 5 rfl) (bn01 _ _ _) (hk _ _ rfl After.rfl)⟩,
        ⟨rfl, rfl, (.inl rfl), fun a W9 K hd hb aw hk => wp_move (.inl rfl) (show a.eval (.tmp 7) = .int .i64 (m : Int) from hb 7 rfl) (hk _ _ rfl After.rfl)⟩,
        ⟨rfl, rfl, (.inl rfl), fun a W9 K hd hb aw hk => wp_move (.inl rfl) (show a.eval (.tmp 8) = .int .i64 (L.length : Int) from hb 8 rfl) (hk _ _ rfl After.rfl)⟩,
        ⟨rfl, rfl, (.inl rfl), fun a W9 K hd hb aw hk => wp_bin rfl (hd 8 rfl) rfl (addI rfl (by omega) (by omega) _ _ _) (hk _ _ rfl After.rfl)⟩,
        ⟨rfl, rfl, (.inl rfl), fun a W9 K hd hb aw hk => wp_build3 rfl rfl (hd 7 rfl) (hd 9 rfl) (bn012 _ _ _ _) (hk _ _ rfl After.rfl)⟩,
        ⟨rfl, rfl, (.inl rfl), fun a W9 K hd hb aw hk => by
      obtain ⟨v, w9, h1, h2, h3⟩ := rowOf3 (Nd.mk 10 (m : Int) 0 (N : Int)) (Nd.mk 9 (L.length : Int) 0 0) (Nd.mk 8 (m : Int) ((L.length : Int) + 1) 0) W9
      exact wp_slice3 rfl (hd 4 rfl) (hd 6 rfl) (hd 10 rfl) h1 (hk _ _ h2 h3)⟩,
        ⟨rfl, rfl, (.inl rfl), fun a W9 K hd hb aw hk => wp_func2 rfl (enter_of Try.func23 (by kernel_rfl) (by kernel_rfl)) (hd 1 rfl) rfl ((HH.out W9 (HX.out.trans aw) _ _ (Nat.le_of_ble_eq_true rfl) (hd 11 rfl)).mono (fun e w1 h => by obtain ⟨v, h1, h2, h3⟩ := h; exact ⟨v, h1, hk _ _ h2 h3⟩))⟩,
        ⟨rfl, rfl, (.inl rfl), fun a W9 K hd hb aw hk => wp_func2 rfl (enter_of Try.func22 (by kernel_rfl) (by kernel_rfl)) (hd 0 rfl) rfl ((T4.out W9 (HX.out.trans aw) _ (hd 12 rfl)).mono (fun e w1 h => ⟨_, h.1, hk _ _ rfl h.2⟩))⟩,
        ⟨rfl, rfl, (.inl rfl), fun a W9 K hd hb aw hk => wp_move (.inr rfl) (hd 13 rfl) (hk _ _ rfl After.rfl)⟩,
        trivial⟩
    intro x9 w9 hx9 aw9
    have t0 : x9 0 = .agg #[.slice ac C.length cc, .slice aT X.length ct] := hx9 0 (Nat.le_of_ble_eq_true rfl)
    have t1 : x9 1 = .slice al L.length cl := hx9 1 (Nat.le_of_ble_eq_true rfl)
    have t2 : x9 2 = .int .i64 (m : Int) := hx9 2 (Nat.le_of_ble_eq_true rfl)
    have t3 : x9 3 = .int .i64 (N : Int) := hx9 3 (Nat.le_of_ble_eq_true rfl)
    have t4 : x9 4 = (Nd.mk 10 (m : Int) 0 (N : Int)).val := hx9 4 (Nat.le_of_ble_eq_true rfl)
    have t5 : x9 5 = .int .i64 (L.length : Int) := hx9 5 (Nat.le_of_ble_eq_true rfl)
    have t6 : x9 6 = (Nd.mk 9 (L.length : Int) 0 0).val := hx9 6 (Nat.le_of_ble_eq_true rfl)
    have t7 : x9 7 = .int .i64 (m : Int) := hx9 7 (Nat.le_of_ble_eq_true rfl)
    have t8 : x9 8 = .int .i64 (L.length : Int) := hx9 8 (Nat.le_of_ble_eq_true rfl)
    have t9 : x9 9 = .int .i64 ((L.length : Int) + 1) := hx9 9 (Nat.le_of_ble_eq_true rfl)
    have t10 : x9 10 = (Nd.mk 8 (m : Int) ((L.length : Int) + 1) 0).val := hx9 10 (Nat.le_of_ble_eq_true rfl)
    have t13 : x9 13 = .string SM := hx9 13 (Nat.le_of_ble_eq_true rfl)
    have t14 : x9 14 = .string SM := hx9 14 (Nat.le_of_ble_eq_true rfl)
    simp only [sets, List.getD_cons_succ, List.getD_cons_zero, List.set_cons_succ, List.set_cons_zero, t0, t1, t2, t3, t4, t5, t6, t7, t8, t9, t10, t13, t14]
    clear hx9 t0 t1 t2 t3 t4 t5 t6 t7 t8 t9 t10 t13 t14
    generalize x9 11 = y11
    generalize x9 12 = y12
    clear x9
    have HX := hideIt (HX.out.trans aw9)
    have HV := hideIt (HV.out.trans aw9)
    clear aw9
    obtain ⟨c0, c1⟩ := HB.out _ HV.out
    go_wp2_with fail
    go_ret
    exact ⟨rfl, HX.out⟩
end Go.Proofs.Ytgbaibnlfmeklaa
