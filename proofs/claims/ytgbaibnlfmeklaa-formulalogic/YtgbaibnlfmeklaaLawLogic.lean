/-
  FormulaLogic: the walk.
-/
import Derived.Test.YtgbaibnlfmeklaaFoQ
namespace Go.Proofs.Ytgbaibnlfmeklaa
open Go.RowKit
set_option maxRecDepth 8000
set_option maxHeartbeats 4000000 in
theorem law_logic {L : List Nd} {C : List Ch} {X : List Tr} (w : World) (al : Option Addr) (cl : Nat) (ac : Option Addr) (cc : Nat) (aT : Option Addr) (ct : Nat) (h1 : NRow w al L.length L) (ha : al = none → L.length = 0 ∧ cl = 0) (h2 : CRow w ac C.length C) (h3 : TRow w aT X.length X) (n : Int) :
    Calls Try.prog 5 #[.slice al L.length cl, .agg #[.slice ac C.length cc, .slice aT X.length ct], .int .i64 n] w fun e w' => e = .returned (.bool true) ∧ After w w' := by
  obtain ⟨W1, hW1⟩ : ∃ W1, W1 = w.alloc (.cells #[.slice ac C.length cc, .slice aT X.length ct] 44) := ⟨_, rfl⟩
  have a1 : After w W1 := by rw [hW1]; exact After.rfl.alloc _
  have b1 : W1.heap[w.heap.size]? = some (.cells #[.slice ac C.length cc, .slice aT X.length ct] 44 (0, 0)) := by rw [hW1]; exact new_blk After.rfl
  have HB : Hid (∀ V, After W1 V → V.cell? ⟨w.heap.size, 0, none⟩ = some (.slice ac C.length cc) ∧ V.cell? ⟨w.heap.size, 1, none⟩ = some (.slice aT X.length ct)) := hideIt (fun V hV => by
    have h := (hV.block _ (blk_lt b1) (fun t => t)).trans b1
    exact ⟨blk_cell h rfl, blk_cell h rfl⟩)
  have H1 := hideIt (And.intro h1 (And.intro ha (And.intro h2 h3)))
  have HW := hideIt hW1
  have HA := hideIt a1
  clear h1 ha h2 h3 b1 a1 hW1
  obtain ⟨N, hN, eN⟩ := and63_nat n
  have HN := hideIt hN
  clear hN
  go_enter Try.func5, Try.ntmps5
  go_wp2_with fail
  rw [← HW.out]
  refine (works_any _).mono ?_
  rintro e w2 ⟨rfl, a2⟩
  obtain ⟨c0, c1⟩ := HB.out _ a2
  have A2 := hideIt a2
  clear a2 HW
  go_wp2_with fail
  refine (may_any (L := L) (C := C) (X := X) _ al cl ac cc aT ct (H1.out.1.after (HA.out.trans A2.out)) (H1.out.2.2.2.after (HA.out.trans A2.out)) 8 (by omega)).mono ?_
  rintro e w3 ⟨B, rfl, hB, a3⟩
  have A3 := hideIt (A2.out.trans a3)
  clear a3 c0 c1 A2
  cases B with
  | false =>
    clear hB
    go_wp2_with fail
    go_ret
    exact ⟨rfl, HA.out.trans A3.out⟩
  | true =>
    obtain ⟨hc, hl, hT, hr⟩ := hB rfl
    obtain ⟨m, hm⟩ : ∃ m, L.length = m + 1 := ⟨L.length - 1, by have := (chk_zero hc).2.2.2.1; omega⟩
    have i5 : (L.length : Int) - 1 = (m : Int) := by omega
    have i6 : (L.length : Int) ≤ 32 := by omega
    have i7 : (N : Int) ≤ 63 := by have := HN.out; omega
    have HH := hideIt (with_call H1.out.1 H1.out.2.1 (show L.length ≤ 32 by omega))
    have hXl : (rdsOf X).length = X.length := rdsOf_length X
    obtain ⟨S, hS⟩ : ∃ S, bitsOf (val L C (rdsOf X) m) (rdsOf X).length = S := ⟨_, rfl⟩
    have zS : S.size = X.length := by rw [← hS, bitsOf_size, hXl]
    obtain ⟨SA, hSA⟩ : ∃ S, bitsOf (fun t => !val L C (rdsOf X) m t || !val L C (rdsOf X) 0 t) (rdsOf X).length = S := ⟨_, rfl⟩
    have zSA : SA.size = X.length := by rw [← hSA, bitsOf_size, hXl]
    obtain ⟨SC, hSC⟩ : ∃ S, bitsOf (fun t => anyW (val L C (rdsOf X) m) (t - N) t) (rdsOf X).length = S := ⟨_, rfl⟩
    have zSC : SC.size = X.length := by rw [← hSC, bitsOf_size, hXl]
    have T0 := hideIt (tx_self (cl := cl) (ac := ac) (cc := cc) (aT := aT) (ct := ct) H1.out.1 H1.out.2.2.1 H1.out.2.2.2 hT hr hc)
    rw [show L.length - 1 = m by omega] at T0
    have T1 := hideIt (tx_call (ac := ac) (cc := cc) (aT := aT) (ct := ct) H1.out.2.2.1 H1.out.2.2.2 hT hr (tx_notnot hm hc hl))
    have T2 := hideIt (tx_call (ac := ac) (cc := cc) (aT := aT) (ct := ct) H1.out.2.2.1 H1.out.2.2.2 hT hr (tx_and hm hc hl))
    have T3 := hideIt (tx_call (ac := ac) (cc := cc) (aT := aT) (ct := ct) H1.out.2.2.1 H1.out.2.2.2 hT hr (tx_or hm hc hl))
    have T4 := hideIt (tx_call (ac := ac) (cc := cc) (aT := aT) (ct := ct) H1.out.2.2.1 H1.out.2.2.2 hT hr (tx_nand hm hc hl))
    have T5 := hideIt (tx_call (ac := ac) (cc := cc) (aT := aT) (ct := ct) H1.out.2.2.1 H1.out.2.2.2 hT hr (tx_nors hm hc hl))
    have T6 := hideIt (tx_call (ac := ac) (cc := cc) (aT := aT) (ct := ct) H1.out.2.2.1 H1.out.2.2.2 hT hr (tx_once hm hc (by omega) (show N ≤ 64 by omega)))
    have T7 := hideIt (tx_call (ac := ac) (cc := cc) (aT := aT) (ct := ct) H1.out.2.2.1 H1.out.2.2.2 hT hr (tx_nothist hm hc hl (show N ≤ 64 by omega)))
    have T8 := hideIt (tx_call (ac := ac) (cc := cc) (aT := aT) (ct := ct) H1.out.2.2.1 H1.out.2.2.2 hT hr (tx_once0 hm hc hl))
    have T9 := hideIt (tx_call (ac := ac) (cc := cc) (aT := aT) (ct := ct) H1.out.2.2.1 H1.out.2.2.2 hT hr (tx_hist0 hm hc hl))
    rw [hS] at T0 T1 T2 T3 T8 T9
    rw [hSA] at T4 T5
    rw [hSC] at T6 T7
    clear hB hc hl hT hr hm hS hSA hSC
    obtain ⟨W4, hW4⟩ : ∃ W4, W4 = w3.alloc (.cells #[.int .i64 6, .int .i64 (m : Int), .int .i64 0, .int .i64 0] 38) := ⟨_, rfl⟩
    have a4 : After w3 W4 := by rw [hW4]; exact After.rfl.alloc _
    have b4 : W4.heap[w3.heap.size]? = some (.cells #[.int .i64 6, .int .i64 (m : Int), .int .i64 0, .int .i64 0] 38 (0, 0)) := by rw [hW4]; exact new_blk After.rfl
    have HNB : Hid (∀ V, After W4 V → (Instr.loadAt 38 (Ptr w3.heap.size)).run Try.prog V = .ok (Nd.mk 6 (m : Int) 0 0).val V) := hideIt (fun V hV => by
      have h := (hV.block _ (blk_lt b4) (fun t => t)).trans b4
      exact loadNode (x := ⟨6, (m : Int), 0, 0⟩) (blk_cell h rfl) (blk_cell h rfl) (blk_cell h rfl) (blk_cell h rfl))
    have HX : Hid (After w W4) := hideIt ((HA.out.trans A3.out).trans a4)
    have HV : Hid (After W1 W4) := hideIt (A3.out.trans a4)
    have HW := hideIt hW4
    obtain ⟨c0, c1⟩ := HB.out _ HV.out
    rw [hW4] at c0 c1
    clear a4 b4 hW4
    go_wp2_with fail
    rw [← HW.out]
    refine (T0.out _ HX.out).mono ?_
    rintro e w5 ⟨rfl, a5⟩
    have HX := hideIt (HX.out.trans a5)
    have HV := hideIt (HV.out.trans a5)
    have HY : Hid (After W4 w5) := hideIt a5
    clear a5 c0 c1 HW
    go_upto_region 10 with fail
    refine region_slots (by kernel_rfl) [36, 37, 38, 39, 40, 41, 42, 43, 44, 45, 46, 47, 48, 49, 50, 51, 52, 53, 54, 55, 56, 57, 58, 59, 60, 61, 62, 63, 64, 65, 66, 67, 68, 69, 70, 71, 72, 73, 74, 75, 76, 77] [isV (.string S), isV (.int .i64 (X.length : Int)), isV (.pointer (some ⟨w.heap.size, 1, none⟩)), isV (.slice aT X.length ct), isV (.int .i64 (X.length : Int)), isV (.bool false), isV (.bool false), isV (.agg #[.slice ac C.length cc, .slice aT X.length ct]), isV (.slice al L.length cl), isV ((Nd.mk 6 (m : Int) 0 0).val), isV (.int .i64 (L.length : Int)), isV ((Nd.mk 6 (L.length : Int) 0 0).val), isRow ([Nd.mk 6 (m : Int) 0 0, Nd.mk 6 (L.length : Int) 0 0]), isRow (L ++ [Nd.mk 6 (m : Int) 0 0, Nd.mk 6 (L.length : Int) 0 0]), isV (.string S), isV (.string S), isV (.bool false), isV (.bool false), isV (.bool false), isV (.agg #[.slice ac C.length cc, .slice aT X.length ct]), isV (.slice al L.length cl), isV (.int .i64 (m : Int)), isV (.int .i64 (m : Int)), isV ((Nd.mk 7 (m : Int) (m : Int) 0).val), isRow ([Nd.mk 7 (m : Int) (m : Int) 0]), isRow (L ++ [Nd.mk 7 (m : Int) (m : Int) 0]), isV (.string S), isV (.string S), isV (.bool false), isV (.bool false), isV (.bool false), isV (.agg #[.slice ac C.length cc, .slice aT X.length ct]), isV (.slice al L.length cl), isV (.int .i64 (m : Int)), isV (.int .i64 (m : Int)), isV ((Nd.mk 8 (m : Int) (m : Int) 0).val), isRow ([Nd.mk 8 (m : Int) (m : Int) 0]), isRow (L ++ [Nd.mk 8 (m : Int) (m : Int) 0]), isV (.string S), isV (.string S), isV (.bool false), isV (.bool false)] 42 rfl rfl (stable_all (st_cons (isV_st _) (st_cons (isV_st _) (st_cons (isV_st _) (st_cons (isV_st _) (st_cons (isV_st _) (st_cons (isV_st _) (st_cons (isV_st _) (st_cons (isV_st _) (st_cons (isV_st _) (st_cons (isV_st _) (st_cons (isV_st _) (st_cons (isV_st _) (st_cons (isRow_st _) (st_cons (isRow_st _) (st_cons (isV_st _) (st_cons (isV_st _) (st_cons (isV_st _) (st_cons (isV_st _) (st_cons (isV_st _) (st_cons (isV_st _) (st_cons (isV_st _) (st_cons (isV_st _) (st_cons (isV_st _) (st_cons (isV_st _) (st_cons (isRow_st _) (st_cons (isRow_st _) (st_cons (isV_st _) (st_cons (isV_st _) (st_cons (isV_st _) (st_cons (isV_st _) (st_cons (isV_st _) (st_cons (isV_st _) (st_cons (isV_st _) (st_cons (isV_st _) (st_cons (isV_st _) (st_cons (isV_st _) (st_cons (isRow_st _) (st_cons (isRow_st _) (st_cons (isV_st _) (st_cons (isV_st _) (st_cons (isV_st _) (st_cons (isV_st _) (st_nil)))))))))))))))))))))))))))))))))))))))))))) rfl rfl ?_ ?_
    · exact ⟨⟨rfl, rfl, (.inl rfl), fun a W9 K hd hb aw hk => wp_move (.inl rfl) (show a.eval (.tmp 11) = .string S from hb 11 rfl) (hk _ _ rfl After.rfl)⟩,
        ⟨rfl, rfl, (.inl rfl), fun a W9 K hd hb aw hk => wp_len rfl (hd 0 rfl) (lenS _ _ _ zS Try.underlying9 _ _) (hk _ _ rfl After.rfl)⟩,
        ⟨rfl, rfl, (.inl rfl), fun a W9 K hd hb aw hk => wp_field rfl (show a.eval (.tmp 4) = Ptr w.heap.size from hb 4 rfl) (fieldP1 _ _) (hk _ _ rfl After.rfl)⟩,
        ⟨rfl, rfl, (.inl rfl), fun a W9 K hd hb aw hk => wp_load rfl (hd 2 rfl) (loadT (HB.out _ (HV.out.trans aw)).2) (hk _ _ rfl After.rfl)⟩,
        ⟨rfl, rfl, (.inl rfl), fun a W9 K hd hb aw hk => wp_len rfl (hd 3 rfl) (lenT _ _ _ _ _) (hk _ _ rfl After.rfl)⟩,
        ⟨rfl, rfl, (.inl rfl), fun a W9 K hd hb aw hk => wp_bin rfl (hd 1 rfl) (hd 4 rfl) (neI_no _ _ _ _) (hk _ _ rfl After.rfl)⟩,
        ⟨rfl, rfl, (.inl rfl), fun a W9 K hd hb aw hk => wp_move (.inl rfl) (hd 5 rfl) (hk _ _ rfl After.rfl)⟩,
        ⟨rfl, rfl, (.inr ⟨6, false, rfl, rfl, fun v w h => h⟩), fun a W9 K hd hb aw hk => wp_load rfl (show a.eval (.tmp 4) = Ptr w.heap.size from hb 4 rfl) (loadPast (HB.out _ (HV.out.trans aw)).1 (HB.out _ (HV.out.trans aw)).2) (hk _ _ rfl After.rfl)⟩,
        ⟨rfl, rfl, (.inr ⟨6, false, rfl, rfl, fun v w h => h⟩), fun a W9 K hd hb aw hk => wp_move (.inl rfl) (show a.eval (.tmp 0) = .slice al L.length cl from hb 0 rfl) (hk _ _ rfl After.rfl)⟩,
        ⟨rfl, rfl, (.inr ⟨6, false, rfl, rfl, fun v w h => h⟩), fun a W9 K hd hb aw hk => wp_load rfl (show a.eval (.tmp 9) = Ptr w3.heap.size from hb 9 rfl) (HNB.out _ (HY.out.trans aw)) (hk _ _ rfl After.rfl)⟩,
        ⟨rfl, rfl, (.inr ⟨6, false, rfl, rfl, fun v w h => h⟩), fun a W9 K hd hb aw hk => wp_move (.inl rfl) (show a.eval (.tmp 10) = .int .i64 (L.length : Int) from hb 10 rfl) (hk _ _ rfl After.rfl)⟩,
        ⟨rfl, rfl, (.inr ⟨6, false, rfl, rfl, fun v w h => h⟩), fun a W9 K hd hb aw hk => wp_build2 rfl rfl (hd 10 rfl) (bn01 _ _ _) (hk _ _ rfl After.rfl)⟩,
        ⟨rfl, rfl, (.inr ⟨6, false, rfl, rfl, fun v w h => h⟩), fun a W9 K hd hb aw hk => by
      obtain ⟨v, w9, h1, h2, h3⟩ := rowOf2 (Nd.mk 6 (m : Int) 0 0) (Nd.mk 6 (L.length : Int) 0 0) W9
      exact wp_slice2 rfl (hd 9 rfl) (hd 11 rfl) h1 (hk _ _ h2 h3)⟩,
        ⟨rfl, rfl, (.inr ⟨6, false, rfl, rfl, fun v w h => h⟩), fun a W9 K hd hb aw hk => wp_func2 rfl (enter_of Try.func23 (by kernel_rfl) (by kernel_rfl)) (hd 8 rfl) rfl ((HH.out W9 (HX.out.trans aw) _ _ (Nat.le_of_ble_eq_true rfl) (hd 12 rfl)).mono (fun e w1 h => by obtain ⟨v, h1, h2, h3⟩ := h; exact ⟨v, h1, hk _ _ h2 h3⟩))⟩,
        ⟨rfl, rfl, (.inr ⟨6, false, rfl, rfl, fun v w h => h⟩), fun a W9 K hd hb aw hk => wp_func2 rfl (enter_of Try.func22 (by kernel_rfl) (by kernel_rfl)) (hd 7 rfl) rfl ((T1.out W9 (HX.out.trans aw) _ (hd 13 rfl)).mono (fun e w1 h => ⟨_, h.1, hk _ _ rfl h.2⟩))⟩,
        ⟨rfl, rfl, (.inr ⟨6, false, rfl, rfl, fun v w h => h⟩), fun a W9 K hd hb aw hk => wp_move (.inl rfl) (show a.eval (.tmp 11) = .string S from hb 11 rfl) (hk _ _ rfl After.rfl)⟩,
        ⟨rfl, rfl, (.inr ⟨6, false, rfl, rfl, fun v w h => h⟩), fun a W9 K hd hb aw hk => wp_bin rfl (hd 14 rfl) (hd 15 rfl) (neS_no _ _ _ _) (hk _ _ rfl After.rfl)⟩,
        ⟨rfl, rfl, (.inl rfl), fun a W9 K hd hb aw hk => wp_pickF rfl (hd 6 rfl) (hd 16 rfl) (hk _ _ rfl After.rfl)⟩,
        ⟨rfl, rfl, (.inl rfl), fun a W9 K hd hb aw hk => wp_move (.inl rfl) (hd 17 rfl) (hk _ _ rfl After.rfl)⟩,
        ⟨rfl, rfl, (.inr ⟨18, false, rfl, rfl, fun v w h => h⟩), fun a W9 K hd hb aw hk => wp_load rfl (show a.eval (.tmp 4) = Ptr w.heap.size from hb 4 rfl) (loadPast (HB.out _ (HV.out.trans aw)).1 (HB.out _ (HV.out.trans aw)).2) (hk _ _ rfl After.rfl)⟩,
        ⟨rfl, rfl, (.inr ⟨18, false, rfl, rfl, fun v w h => h⟩), fun a W9 K hd hb aw hk => wp_move (.inl rfl) (show a.eval (.tmp 0) = .slice al L.length cl from hb 0 rfl) (hk _ _ rfl After.rfl)⟩,
        ⟨rfl, rfl, (.inr ⟨18, false, rfl, rfl, fun v w h => h⟩), fun a W9 K hd hb aw hk => wp_move (.inl rfl) (show a.eval (.tmp 7) = .int .i64 (m : Int) from hb 7 rfl) (hk _ _ rfl After.rfl)⟩,
        ⟨rfl, rfl, (.inr ⟨18, false, rfl, rfl, fun v w h => h⟩), fun a W9 K hd hb aw hk => wp_move (.inl rfl) (show a.eval (.tmp 7) = .int .i64 (m : Int) from hb 7 rfl) (hk _ _ rfl After.rfl)⟩,
        ⟨rfl, rfl, (.inr ⟨18, false, rfl, rfl, fun v w h => h⟩), fun a W9 K hd hb aw hk => wp_build3 rfl rfl (hd 21 rfl) (hd 22 rfl) (bn012 _ _ _ _) (hk _ _ rfl After.rfl)⟩,
        ⟨rfl, rfl, (.inr ⟨18, false, rfl, rfl, fun v w h => h⟩), fun a W9 K hd hb aw hk => by
      obtain ⟨v, w9, h1, h2, h3⟩ := rowOf1 (Nd.mk 7 (m : Int) (m : Int) 0) W9
      exact wp_slice1 rfl (hd 23 rfl) h1 (hk _ _ h2 h3)⟩,
        ⟨rfl, rfl, (.inr ⟨18, false, rfl, rfl, fun v w h => h⟩), fun a W9 K hd hb aw hk => wp_func2 rfl (enter_of Try.func23 (by kernel_rfl) (by kernel_rfl)) (hd 20 rfl) rfl ((HH.out W9 (HX.out.trans aw) _ _ (Nat.le_of_ble_eq_true rfl) (hd 24 rfl)).mono (fun e w1 h => by obtain ⟨v, h1, h2, h3⟩ := h; exact ⟨v, h1, hk _ _ h2 h3⟩))⟩,
        ⟨rfl, rfl, (.inr ⟨18, false, rfl, rfl, fun v w h => h⟩), fun a W9 K hd hb aw hk => wp_func2 rfl (enter_of Try.func22 (by kernel_rfl) (by kernel_rfl)) (hd 19 rfl) rfl ((T2.out W9 (HX.out.trans aw) _ (hd 25 rfl)).mono (fun e w1 h => ⟨_, h.1, hk _ _ rfl h.2⟩))⟩,
        ⟨rfl, rfl, (.inr ⟨18, false, rfl, rfl, fun v w h => h⟩), fun a W9 K hd hb aw hk => wp_move (.inl rfl) (show a.eval (.tmp 11) = .string S from hb 11 rfl) (hk _ _ rfl After.rfl)⟩,
        ⟨rfl, rfl, (.inr ⟨18, false, rfl, rfl, fun v w h => h⟩), fun a W9 K hd hb aw hk => wp_bin rfl (hd 26 rfl) (hd 27 rfl) (neS_no _ _ _ _) (hk _ _ rfl After.rfl)⟩,
        ⟨rfl, rfl, (.inl rfl), fun a W9 K hd hb aw hk => wp_pickF rfl (hd 18 rfl) (hd 28 rfl) (hk _ _ rfl After.rfl)⟩,
        ⟨rfl, rfl, (.inl rfl), fun a W9 K hd hb aw hk => wp_move (.inl rfl) (hd 29 rfl) (hk _ _ rfl After.rfl)⟩,
        ⟨rfl, rfl, (.inr ⟨30, false, rfl, rfl, fun v w h => h⟩), fun a W9 K hd hb aw hk => wp_load rfl (show a.eval (.tmp 4) = Ptr w.heap.size from hb 4 rfl) (loadPast (HB.out _ (HV.out.trans aw)).1 (HB.out _ (HV.out.trans aw)).2) (hk _ _ rfl After.rfl)⟩,
        ⟨rfl, rfl, (.inr ⟨30, false, rfl, rfl, fun v w h => h⟩), fun a W9 K hd hb aw hk => wp_move (.inl rfl) (show a.eval (.tmp 0) = .slice al L.length cl from hb 0 rfl) (hk _ _ rfl After.rfl)⟩,
        ⟨rfl, rfl, (.inr ⟨30, false, rfl, rfl, fun v w h => h⟩), fun a W9 K hd hb aw hk => wp_move (.inl rfl) (show a.eval (.tmp 7) = .int .i64 (m : Int) from hb 7 rfl) (hk _ _ rfl After.rfl)⟩,
        ⟨rfl, rfl, (.inr ⟨30, false, rfl, rfl, fun v w h => h⟩), fun a W9 K hd hb aw hk => wp_move (.inl rfl) (show a.eval (.tmp 7) = .int .i64 (m : Int) from hb 7 rfl) (hk _ _ rfl After.rfl)⟩,
        ⟨rfl, rfl, (.inr ⟨30, false, rfl, rfl, fun v w h => h⟩), fun a W9 K hd hb aw hk => wp_build3 rfl rfl (hd 33 rfl) (hd 34 rfl) (bn012 _ _ _ _) (hk _ _ rfl After.rfl)⟩,
        ⟨rfl, rfl, (.inr ⟨30, false, rfl, rfl, fun v w h => h⟩), fun a W9 K hd hb aw hk => by
      obtain ⟨v, w9, h1, h2, h3⟩ := rowOf1 (Nd.mk 8 (m : Int) (m : Int) 0) W9
      exact wp_slice1 rfl (hd 35 rfl) h1 (hk _ _ h2 h3)⟩,
        ⟨rfl, rfl, (.inr ⟨30, false, rfl, rfl, fun v w h => h⟩), fun a W9 K hd hb aw hk => wp_func2 rfl (enter_of Try.func23 (by kernel_rfl) (by kernel_rfl)) (hd 32 rfl) rfl ((HH.out W9 (HX.out.trans aw) _ _ (Nat.le_of_ble_eq_true rfl) (hd 36 rfl)).mono (fun e w1 h => by obtain ⟨v, h1, h2, h3⟩ := h; exact ⟨v, h1, hk _ _ h2 h3⟩))⟩,
        ⟨rfl, rfl, (.inr ⟨30, false, rfl, rfl, fun v w h => h⟩), fun a W9 K hd hb aw hk => wp_func2 rfl (enter_of Try.func22 (by kernel_rfl) (by kernel_rfl)) (hd 31 rfl) rfl ((T3.out W9 (HX.out.trans aw) _ (hd 37 rfl)).mono (fun e w1 h => ⟨_, h.1, hk _ _ rfl h.2⟩))⟩,
        ⟨rfl, rfl, (.inr ⟨30, false, rfl, rfl, fun v w h => h⟩), fun a W9 K hd hb aw hk => wp_move (.inl rfl) (show a.eval (.tmp 11) = .string S from hb 11 rfl) (hk _ _ rfl After.rfl)⟩,
        ⟨rfl, rfl, (.inr ⟨30, false, rfl, rfl, fun v w h => h⟩), fun a W9 K hd hb aw hk => wp_bin rfl (hd 38 rfl) (hd 39 rfl) (neS_no _ _ _ _) (hk _ _ rfl After.rfl)⟩,
        ⟨rfl, rfl, (.inl rfl), fun a W9 K hd hb aw hk => wp_pickF rfl (hd 30 rfl) (hd 40 rfl) (hk _ _ rfl After.rfl)⟩,
        trivial⟩
    intro x9 w9 hx9 aw9
    have t0 : x9 0 = .string S := hx9 0 (Nat.le_of_ble_eq_true rfl)
    have t1 : x9 1 = .int .i64 (X.length : Int) := hx9 1 (Nat.le_of_ble_eq_true rfl)
    have t2 : x9 2 = .pointer (some ⟨w.heap.size, 1, none⟩) := hx9 2 (Nat.le_of_ble_eq_true rfl)
    have t3 : x9 3 = .slice aT X.length ct := hx9 3 (Nat.le_of_ble_eq_true rfl)
    have t4 : x9 4 = .int .i64 (X.length : Int) := hx9 4 (Nat.le_of_ble_eq_true rfl)
    have t5 : x9 5 = .bool false := hx9 5 (Nat.le_of_ble_eq_true rfl)
    have t6 : x9 6 = .bool false := hx9 6 (Nat.le_of_ble_eq_true rfl)
    have t7 : x9 7 = .agg #[.slice ac C.length cc, .slice aT X.length ct] := hx9 7 (Nat.le_of_ble_eq_true rfl)
    have t8 : x9 8 = .slice al L.length cl := hx9 8 (Nat.le_of_ble_eq_true rfl)
    have t9 : x9 9 = (Nd.mk 6 (m : Int) 0 0).val := hx9 9 (Nat.le_of_ble_eq_true rfl)
    have t10 : x9 10 = .int .i64 (L.length : Int) := hx9 10 (Nat.le_of_ble_eq_true rfl)
    have t11 : x9 11 = (Nd.mk 6 (L.length : Int) 0 0).val := hx9 11 (Nat.le_of_ble_eq_true rfl)
    have t14 : x9 14 = .string S := hx9 14 (Nat.le_of_ble_eq_true rfl)
    have t15 : x9 15 = .string S := hx9 15 (Nat.le_of_ble_eq_true rfl)
    have t16 : x9 16 = .bool false := hx9 16 (Nat.le_of_ble_eq_true rfl)
    have t17 : x9 17 = .bool false := hx9 17 (Nat.le_of_ble_eq_true rfl)
    have t18 : x9 18 = .bool false := hx9 18 (Nat.le_of_ble_eq_true rfl)
    have t19 : x9 19 = .agg #[.slice ac C.length cc, .slice aT X.length ct] := hx9 19 (Nat.le_of_ble_eq_true rfl)
    have t20 : x9 20 = .slice al L.length cl := hx9 20 (Nat.le_of_ble_eq_true rfl)
    have t21 : x9 21 = .int .i64 (m : Int) := hx9 21 (Nat.le_of_ble_eq_true rfl)
    have t22 : x9 22 = .int .i64 (m : Int) := hx9 22 (Nat.le_of_ble_eq_true rfl)
    have t23 : x9 23 = (Nd.mk 7 (m : Int) (m : Int) 0).val := hx9 23 (Nat.le_of_ble_eq_true rfl)
    have t26 : x9 26 = .string S := hx9 26 (Nat.le_of_ble_eq_true rfl)
    have t27 : x9 27 = .string S := hx9 27 (Nat.le_of_ble_eq_true rfl)
    have t28 : x9 28 = .bool false := hx9 28 (Nat.le_of_ble_eq_true rfl)
    have t29 : x9 29 = .bool false := hx9 29 (Nat.le_of_ble_eq_true rfl)
    have t30 : x9 30 = .bool false := hx9 30 (Nat.le_of_ble_eq_true rfl)
    have t31 : x9 31 = .agg #[.slice ac C.length cc, .slice aT X.length ct] := hx9 31 (Nat.le_of_ble_eq_true rfl)
    have t32 : x9 32 = .slice al L.length cl := hx9 32 (Nat.le_of_ble_eq_true rfl)
    have t33 : x9 33 = .int .i64 (m : Int) := hx9 33 (Nat.le_of_ble_eq_true rfl)
    have t34 : x9 34 = .int .i64 (m : Int) := hx9 34 (Nat.le_of_ble_eq_true rfl)
    have t35 : x9 35 = (Nd.mk 8 (m : Int) (m : Int) 0).val := hx9 35 (Nat.le_of_ble_eq_true rfl)
    have t38 : x9 38 = .string S := hx9 38 (Nat.le_of_ble_eq_true rfl)
    have t39 : x9 39 = .string S := hx9 39 (Nat.le_of_ble_eq_true rfl)
    have t40 : x9 40 = .bool false := hx9 40 (Nat.le_of_ble_eq_true rfl)
    have t41 : x9 41 = .bool false := hx9 41 (Nat.le_of_ble_eq_true rfl)
    simp only [sets, List.getD_cons_succ, List.getD_cons_zero, List.set_cons_succ, List.set_cons_zero, t0, t1, t2, t3, t4, t5, t6, t7, t8, t9, t10, t11, t14, t15, t16, t17, t18, t19, t20, t21, t22, t23, t26, t27, t28, t29, t30, t31, t32, t33, t34, t35, t38, t39, t40, t41]
    clear hx9 t0 t1 t2 t3 t4 t5 t6 t7 t8 t9 t10 t11 t14 t15 t16 t17 t18 t19 t20 t21 t22 t23 t26 t27 t28 t29 t30 t31 t32 t33 t34 t35 t38 t39 t40 t41
    generalize x9 12 = y12
    generalize x9 13 = y13
    generalize x9 24 = y24
    generalize x9 25 = y25
    generalize x9 36 = y36
    generalize x9 37 = y37
    clear x9
    have HX := hideIt (HX.out.trans aw9)
    have HV := hideIt (HV.out.trans aw9)
    have HY := hideIt (HY.out.trans aw9)
    clear aw9
    go_upto_region 12 with fail
    refine region_slots (by kernel_rfl) [78, 79, 80, 81, 82, 83, 84, 85, 86, 87, 12] [isV (.agg #[.slice ac C.length cc, .slice aT X.length ct]), isV (.slice al L.length cl), isV (.int .i64 (m : Int)), isV (.int .i64 0), isV ((Nd.mk 7 (m : Int) 0 0).val), isV (.int .i64 (L.length : Int)), isV ((Nd.mk 6 (L.length : Int) 0 0).val), isRow ([Nd.mk 7 (m : Int) 0 0, Nd.mk 6 (L.length : Int) 0 0]), isRow (L ++ [Nd.mk 7 (m : Int) 0 0, Nd.mk 6 (L.length : Int) 0 0]), isV (.string SA), isV (.string SA)] 11 rfl rfl (stable_all (st_cons (isV_st _) (st_cons (isV_st _) (st_cons (isV_st _) (st_cons (isV_st _) (st_cons (isV_st _) (st_cons (isV_st _) (st_cons (isV_st _) (st_cons (isRow_st _) (st_cons (isRow_st _) (st_cons (isV_st _) (st_cons (isV_st _) (st_nil))))))))))))) rfl rfl ?_ ?_
    · exact ⟨⟨rfl, rfl, (.inl rfl), fun a W9 K hd hb aw hk => wp_load rfl (show a.eval (.tmp 4) = Ptr w.heap.size from hb 4 rfl) (loadPast (HB.out _ (HV.out.trans aw)).1 (HB.out _ (HV.out.trans aw)).2) (hk _ _ rfl After.rfl)⟩,
        ⟨rfl, rfl, (.inl rfl), fun a W9 K hd hb aw hk => wp_move (.inl rfl) (show a.eval (.tmp 0) = .slice al L.length cl from hb 0 rfl) (hk _ _ rfl After.rfl)⟩,
        ⟨rfl, rfl, (.inl rfl), fun a W9 K hd hb aw hk => wp_move (.inl rfl) (show a.eval (.tmp 7) = .int .i64 (m : Int) from hb 7 rfl) (hk _ _ rfl After.rfl)⟩,
        ⟨rfl, rfl, (.inl rfl), fun a W9 K hd hb aw hk => wp_move (.inl rfl) (show a.eval (.tmp 8) = .int .i64 0 from hb 8 rfl) (hk _ _ rfl After.rfl)⟩,
        ⟨rfl, rfl, (.inl rfl), fun a W9 K hd hb aw hk => wp_build3 rfl rfl (hd 2 rfl) (hd 3 rfl) (bn012 _ _ _ _) (hk _ _ rfl After.rfl)⟩,
        ⟨rfl, rfl, (.inl rfl), fun a W9 K hd hb aw hk => wp_move (.inl rfl) (show a.eval (.tmp 10) = .int .i64 (L.length : Int) from hb 10 rfl) (hk _ _ rfl After.rfl)⟩,
        ⟨rfl, rfl, (.inl rfl), fun a W9 K hd hb aw hk => wp_build2 rfl rfl (hd 5 rfl) (bn01 _ _ _) (hk _ _ rfl After.rfl)⟩,
        ⟨rfl, rfl, (.inl rfl), fun a W9 K hd hb aw hk => by
      obtain ⟨v, w9, h1, h2, h3⟩ := rowOf2 (Nd.mk 7 (m : Int) 0 0) (Nd.mk 6 (L.length : Int) 0 0) W9
      exact wp_slice2 rfl (hd 4 rfl) (hd 6 rfl) h1 (hk _ _ h2 h3)⟩,
        ⟨rfl, rfl, (.inl rfl), fun a W9 K hd hb aw hk => wp_func2 rfl (enter_of Try.func23 (by kernel_rfl) (by kernel_rfl)) (hd 1 rfl) rfl ((HH.out W9 (HX.out.trans aw) _ _ (Nat.le_of_ble_eq_true rfl) (hd 7 rfl)).mono (fun e w1 h => by obtain ⟨v, h1, h2, h3⟩ := h; exact ⟨v, h1, hk _ _ h2 h3⟩))⟩,
        ⟨rfl, rfl, (.inl rfl), fun a W9 K hd hb aw hk => wp_func2 rfl (enter_of Try.func22 (by kernel_rfl) (by kernel_rfl)) (hd 0 rfl) rfl ((T4.out W9 (HX.out.trans aw) _ (hd 8 rfl)).mono (fun e w1 h => ⟨_, h.1, hk _ _ rfl h.2⟩))⟩,
        ⟨rfl, rfl, (.inl rfl), fun a W9 K hd hb aw hk => wp_move (.inr rfl) (hd 9 rfl) (hk _ _ rfl After.rfl)⟩,
        trivial⟩
    intro x9 w9 hx9 aw9
    have t0 : x9 0 = .agg #[.slice ac C.length cc, .slice aT X.length ct] := hx9 0 (Nat.le_of_ble_eq_true rfl)
    have t1 : x9 1 = .slice al L.length cl := hx9 1 (Nat.le_of_ble_eq_true rfl)
    have t2 : x9 2 = .int .i64 (m : Int) := hx9 2 (Nat.le_of_ble_eq_true rfl)
    have t3 : x9 3 = .int .i64 0 := hx9 3 (Nat.le_of_ble_eq_true rfl)
    have t4 : x9 4 = (Nd.mk 7 (m : Int) 0 0).val := hx9 4 (Nat.le_of_ble_eq_true rfl)
    have t5 : x9 5 = .int .i64 (L.length : Int) := hx9 5 (Nat.le_of_ble_eq_true rfl)
    have t6 : x9 6 = (Nd.mk 6 (L.length : Int) 0 0).val := hx9 6 (Nat.le_of_ble_eq_true rfl)
    have t9 : x9 9 = .string SA := hx9 9 (Nat.le_of_ble_eq_true rfl)
    have t10 : x9 10 = .string SA := hx9 10 (Nat.le_of_ble_eq_true rfl)
    simp only [sets, List.getD_cons_succ, List.getD_cons_zero, List.set_cons_succ, List.set_cons_zero, t0, t1, t2, t3, t4, t5, t6, t9, t10]
    clear hx9 t0 t1 t2 t3 t4 t5 t6 t9 t10
    generalize x9 7 = y7
    generalize x9 8 = y8
    clear x9
    have HX := hideIt (HX.out.trans aw9)
    have HV := hideIt (HV.out.trans aw9)
    have HY := hideIt (HY.out.trans aw9)
    clear aw9
    go_upto_region 13 with fail
    refine region_slots (by kernel_rfl) [88, 89, 90, 91, 92, 93, 94, 95, 96, 97, 98, 99, 13] [isV (.agg #[.slice ac C.length cc, .slice aT X.length ct]), isV (.slice al L.length cl), isV ((Nd.mk 6 (m : Int) 0 0).val), isV (.int .i64 0), isV ((Nd.mk 6 0 0 0).val), isV (.int .i64 (L.length : Int)), isV (.int .i64 (L.length : Int)), isV (.int .i64 ((L.length : Int) + 1)), isV ((Nd.mk 8 (L.length : Int) ((L.length : Int) + 1) 0).val), isRow ([Nd.mk 6 (m : Int) 0 0, Nd.mk 6 0 0 0, Nd.mk 8 (L.length : Int) ((L.length : Int) + 1) 0]), isRow (L ++ [Nd.mk 6 (m : Int) 0 0, Nd.mk 6 0 0 0, Nd.mk 8 (L.length : Int) ((L.length : Int) + 1) 0]), isV (.string SA), isV (.string SA)] 13 rfl rfl (stable_all (st_cons (isV_st _) (st_cons (isV_st _) (st_cons (isV_st _) (st_cons (isV_st _) (st_cons (isV_st _) (st_cons (isV_st _) (st_cons (isV_st _) (st_cons (isV_st _) (st_cons (isV_st _) (st_cons (isRow_st _) (st_cons (isRow_st _) (st_cons (isV_st _) (st_cons (isV_st _) (st_nil))))))))))))))) rfl rfl ?_ ?_
    · exact ⟨⟨rfl, rfl, (.inl rfl), fun a W9 K hd hb aw hk => wp_load rfl (show a.eval (.tmp 4) = Ptr w.heap.size from hb 4 rfl) (loadPast (HB.out _ (HV.out.trans aw)).1 (HB.out _ (HV.out.trans aw)).2) (hk _ _ rfl After.rfl)⟩,
        ⟨rfl, rfl, (.inl rfl), fun a W9 K hd hb aw hk => wp_move (.inl rfl) (show a.eval (.tmp 0) = .slice al L.length cl from hb 0 rfl) (hk _ _ rfl After.rfl)⟩,
        ⟨rfl, rfl, (.inl rfl), fun a W9 K hd hb aw hk => wp_load rfl (show a.eval (.tmp 9) = Ptr w3.heap.size from hb 9 rfl) (HNB.out _ (HY.out.trans aw)) (hk _ _ rfl After.rfl)⟩,
        ⟨rfl, rfl, (.inl rfl), fun a W9 K hd hb aw hk => wp_move (.inl rfl) (show a.eval (.tmp 8) = .int .i64 0 from hb 8 rfl) (hk _ _ rfl After.rfl)⟩,
        ⟨rfl, rfl, (.inl rfl), fun a W9 K hd hb aw hk => wp_build2 rfl rfl (hd 3 rfl) (bn01 _ _ _) (hk _ _ rfl After.rfl)⟩,
        ⟨rfl, rfl, (.inl rfl), fun a W9 K hd hb aw hk => wp_move (.inl rfl) (show a.eval (.tmp 10) = .int .i64 (L.length : Int) from hb 10 rfl) (hk _ _ rfl After.rfl)⟩,
        ⟨rfl, rfl, (.inl rfl), fun a W9 K hd hb aw hk => wp_move (.inl rfl) (show a.eval (.tmp 10) = .int .i64 (L.length : Int) from hb 10 rfl) (hk _ _ rfl After.rfl)⟩,
        ⟨rfl, rfl, (.inl rfl), fun a W9 K hd hb aw hk => wp_bin rfl (hd 6 rfl) rfl (addI rfl (by omega) (by omega) _ _ _) (hk _ _ rfl After.rfl)⟩,
        ⟨rfl, rfl, (.inl rfl), fun a W9 K hd hb aw hk => wp_build3 rfl rfl (hd 5 rfl) (hd 7 rfl) (bn012 _ _ _ _) (hk _ _ rfl After.rfl)⟩,
        ⟨rfl, rfl, (.inl rfl), fun a W9 K hd hb aw hk => by
      obtain ⟨v, w9, h1, h2, h3⟩ := rowOf3 (Nd.mk 6 (m : Int) 0 0) (Nd.mk 6 0 0 0) (Nd.mk 8 (L.length : Int) ((L.length : Int) + 1) 0) W9
      exact wp_slice3 rfl (hd 2 rfl) (hd 4 rfl) (hd 8 rfl) h1 (hk _ _ h2 h3)⟩,
        ⟨rfl, rfl, (.inl rfl), fun a W9 K hd hb aw hk => wp_func2 rfl (enter_of Try.func23 (by kernel_rfl) (by kernel_rfl)) (hd 1 rfl) rfl ((HH.out W9 (HX.out.trans aw) _ _ (Nat.le_of_ble_eq_true rfl) (hd 9 rfl)).mono (fun e w1 h => by obtain ⟨v, h1, h2, h3⟩ := h; exact ⟨v, h1, hk _ _ h2 h3⟩))⟩,
        ⟨rfl, rfl, (.inl rfl), fun a W9 K hd hb aw hk => wp_func2 rfl (enter_of Try.func22 (by kernel_rfl) (by kernel_rfl)) (hd 0 rfl) rfl ((T5.out W9 (HX.out.trans aw) _ (hd 10 rfl)).mono (fun e w1 h => ⟨_, h.1, hk _ _ rfl h.2⟩))⟩,
        ⟨rfl, rfl, (.inl rfl), fun a W9 K hd hb aw hk => wp_move (.inr rfl) (hd 11 rfl) (hk _ _ rfl After.rfl)⟩,
        trivial⟩
    intro x9 w9 hx9 aw9
    have t0 : x9 0 = .agg #[.slice ac C.length cc, .slice aT X.length ct] := hx9 0 (Nat.le_of_ble_eq_true rfl)
    have t1 : x9 1 = .slice al L.length cl := hx9 1 (Nat.le_of_ble_eq_true rfl)
    have t2 : x9 2 = (Nd.mk 6 (m : Int) 0 0).val := hx9 2 (Nat.le_of_ble_eq_true rfl)
    have t3 : x9 3 = .int .i64 0 := hx9 3 (Nat.le_of_ble_eq_true rfl)
    have t4 : x9 4 = (Nd.mk 6 0 0 0).val := hx9 4 (Nat.le_of_ble_eq_true rfl)
    have t5 : x9 5 = .int .i64 (L.length : Int) := hx9 5 (Nat.le_of_ble_eq_true rfl)
    have t6 : x9 6 = .int .i64 (L.length : Int) := hx9 6 (Nat.le_of_ble_eq_true rfl)
    have t7 : x9 7 = .int .i64 ((L.length : Int) + 1) := hx9 7 (Nat.le_of_ble_eq_true rfl)
    have t8 : x9 8 = (Nd.mk 8 (L.length : Int) ((L.length : Int) + 1) 0).val := hx9 8 (Nat.le_of_ble_eq_true rfl)
    have t11 : x9 11 = .string SA := hx9 11 (Nat.le_of_ble_eq_true rfl)
    have t12 : x9 12 = .string SA := hx9 12 (Nat.le_of_ble_eq_true rfl)
    simp only [sets, List.getD_cons_succ, List.getD_cons_zero, List.set_cons_succ, List.set_cons_zero, t0, t1, t2, t3, t4, t5, t6, t7, t8, t11, t12]
    clear hx9 t0 t1 t2 t3 t4 t5 t6 t7 t8 t11 t12
    generalize x9 9 = y9
    generalize x9 10 = y10
    clear x9
    have HX := hideIt (HX.out.trans aw9)
    have HV := hideIt (HV.out.trans aw9)
    have HY := hideIt (HY.out.trans aw9)
    clear aw9
    go_upto_region 14 with fail
    refine region_slots (by kernel_rfl) [100, 101, 102, 103, 104, 105, 106, 107, 14] [isV (.agg #[.slice ac C.length cc, .slice aT X.length ct]), isV (.slice al L.length cl), isV (.int .i64 (m : Int)), isV (.int .i64 (N : Int)), isV ((Nd.mk 10 (m : Int) 0 (N : Int)).val), isRow ([Nd.mk 10 (m : Int) 0 (N : Int)]), isRow (L ++ [Nd.mk 10 (m : Int) 0 (N : Int)]), isV (.string SC), isV (.string SC)] 9 rfl rfl (stable_all (st_cons (isV_st _) (st_cons (isV_st _) (st_cons (isV_st _) (st_cons (isV_st _) (st_cons (isV_st _) (st_cons (isRow_st _) (st_cons (isRow_st _) (st_cons (isV_st _) (st_cons (isV_st _) (st_nil))))))))))) rfl rfl ?_ ?_
    · exact ⟨⟨rfl, rfl, (.inl rfl), fun a W9 K hd hb aw hk => wp_load rfl (show a.eval (.tmp 4) = Ptr w.heap.size from hb 4 rfl) (loadPast (HB.out _ (HV.out.trans aw)).1 (HB.out _ (HV.out.trans aw)).2) (hk _ _ rfl After.rfl)⟩,
        ⟨rfl, rfl, (.inl rfl), fun a W9 K hd hb aw hk => wp_move (.inl rfl) (show a.eval (.tmp 0) = .slice al L.length cl from hb 0 rfl) (hk _ _ rfl After.rfl)⟩,
        ⟨rfl, rfl, (.inl rfl), fun a W9 K hd hb aw hk => wp_move (.inl rfl) (show a.eval (.tmp 7) = .int .i64 (m : Int) from hb 7 rfl) (hk _ _ rfl After.rfl)⟩,
        ⟨rfl, rfl, (.inl rfl), fun a W9 K hd hb aw hk => wp_move (.inl rfl) (show a.eval (.tmp 2) = .int .i64 (N : Int) from hb 2 rfl) (hk _ _ rfl After.rfl)⟩,
        ⟨rfl, rfl, (.inl rfl), fun a W9 K hd hb aw hk => wp_build3 rfl rfl (hd 2 rfl) (hd 3 rfl) (bn013 _ _ _ _) (hk _ _ rfl After.rfl)⟩,
        ⟨rfl, rfl, (.inl rfl), fun a W9 K hd hb aw hk => by
      obtain ⟨v, w9, h1, h2, h3⟩ := rowOf1 (Nd.mk 10 (m : Int) 0 (N : Int)) W9
      exact wp_slice1 rfl (hd 4 rfl) h1 (hk _ _ h2 h3)⟩,
        ⟨rfl, rfl, (.inl rfl), fun a W9 K hd hb aw hk => wp_func2 rfl (enter_of Try.func23 (by kernel_rfl) (by kernel_rfl)) (hd 1 rfl) rfl ((HH.out W9 (HX.out.trans aw) _ _ (Nat.le_of_ble_eq_true rfl) (hd 5 rfl)).mono (fun e w1 h => by obtain ⟨v, h1, h2, h3⟩ := h; exact ⟨v, h1, hk _ _ h2 h3⟩))⟩,
        ⟨rfl, rfl, (.inl rfl), fun a W9 K hd hb aw hk => wp_func2 rfl (enter_of Try.func22 (by kernel_rfl) (by kernel_rfl)) (hd 0 rfl) rfl ((T6.out W9 (HX.out.trans aw) _ (hd 6 rfl)).mono (fun e w1 h => ⟨_, h.1, hk _ _ rfl h.2⟩))⟩,
        ⟨rfl, rfl, (.inl rfl), fun a W9 K hd hb aw hk => wp_move (.inr rfl) (hd 7 rfl) (hk _ _ rfl After.rfl)⟩,
        trivial⟩
    intro x9 w9 hx9 aw9
    have t0 : x9 0 = .agg #[.slice ac C.length cc, .slice aT X.length ct] := hx9 0 (Nat.le_of_ble_eq_true rfl)
    have t1 : x9 1 = .slice al L.length cl := hx9 1 (Nat.le_of_ble_eq_true rfl)
    have t2 : x9 2 = .int .i64 (m : Int) := hx9 2 (Nat.le_of_ble_eq_true rfl)
    have t3 : x9 3 = .int .i64 (N : Int) := hx9 3 (Nat.le_of_ble_eq_true rfl)
    have t4 : x9 4 = (Nd.mk 10 (m : Int) 0 (N : Int)).val := hx9 4 (Nat.le_of_ble_eq_true rfl)
    have t7 : x9 7 = .string SC := hx9 7 (Nat.le_of_ble_eq_true rfl)
    have t8 : x9 8 = .string SC := hx9 8 (Nat.le_of_ble_eq_true rfl)
    simp only [sets, List.getD_cons_succ, List.getD_cons_zero, List.set_cons_succ, List.set_cons_zero, t0, t1, t2, t3, t4, t7, t8]
    clear hx9 t0 t1 t2 t3 t4 t7 t8
    generalize x9 5 = y5
    generalize x9 6 = y6
    clear x9
    have HX := hideIt (HX.out.trans aw9)
    have HV := hideIt (HV.out.trans aw9)
    have HY := hideIt (HY.out.trans aw9)
    clear aw9
    go_upto_region 15 with fail
    refine region_slots (by kernel_rfl) [108, 109, 110, 111, 112, 113, 114, 115, 116, 117, 118, 119, 15] [isV (.agg #[.slice ac C.length cc, .slice aT X.length ct]), isV (.slice al L.length cl), isV ((Nd.mk 6 (m : Int) 0 0).val), isV (.int .i64 (L.length : Int)), isV (.int .i64 (N : Int)), isV ((Nd.mk 11 (L.length : Int) 0 (N : Int)).val), isV (.int .i64 (L.length : Int)), isV (.int .i64 ((L.length : Int) + 1)), isV ((Nd.mk 6 ((L.length : Int) + 1) 0 0).val), isRow ([Nd.mk 6 (m : Int) 0 0, Nd.mk 11 (L.length : Int) 0 (N : Int), Nd.mk 6 ((L.length : Int) + 1) 0 0]), isRow (L ++ [Nd.mk 6 (m : Int) 0 0, Nd.mk 11 (L.length : Int) 0 (N : Int), Nd.mk 6 ((L.length : Int) + 1) 0 0]), isV (.string SC), isV (.string SC)] 13 rfl rfl (stable_all (st_cons (isV_st _) (st_cons (isV_st _) (st_cons (isV_st _) (st_cons (isV_st _) (st_cons (isV_st _) (st_cons (isV_st _) (st_cons (isV_st _) (st_cons (isV_st _) (st_cons (isV_st _) (st_cons (isRow_st _) (st_cons (isRow_st _) (st_cons (isV_st _) (st_cons (isV_st _) (st_nil))))))))))))))) rfl rfl ?_ ?_
    · exact ⟨⟨rfl, rfl, (.inl rfl), fun a W9 K hd hb aw hk => wp_load rfl (show a.eval (.tmp 4) = Ptr w.heap.size from hb 4 rfl) (loadPast (HB.out _ (HV.out.trans aw)).1 (HB.out _ (HV.out.trans aw)).2) (hk _ _ rfl After.rfl)⟩,
        ⟨rfl, rfl, (.inl rfl), fun a W9 K hd hb aw hk => wp_move (.inl rfl) (show a.eval (.tmp 0) = .slice al L.length cl from hb 0 rfl) (hk _ _ rfl After.rfl)⟩,
        ⟨rfl, rfl, (.inl rfl), fun a W9 K hd hb aw hk => wp_load rfl (show a.eval (.tmp 9) = Ptr w3.heap.size from hb 9 rfl) (HNB.out _ (HY.out.trans aw)) (hk _ _ rfl After.rfl)⟩,
        ⟨rfl, rfl, (.inl rfl), fun a W9 K hd hb aw hk => wp_move (.inl rfl) (show a.eval (.tmp 10) = .int .i64 (L.length : Int) from hb 10 rfl) (hk _ _ rfl After.rfl)⟩,
        ⟨rfl, rfl, (.inl rfl), fun a W9 K hd hb aw hk => wp_move (.inl rfl) (show a.eval (.tmp 2) = .int .i64 (N : Int) from hb 2 rfl) (hk _ _ rfl After.rfl)⟩,
        ⟨rfl, rfl, (.inl rfl), fun a W9 K hd hb aw hk => wp_build3 rfl rfl (hd 3 rfl) (hd 4 rfl) (bn013 _ _ _ _) (hk _ _ rfl After.rfl)⟩,
        ⟨rfl, rfl, (.inl rfl), fun a W9 K hd hb aw hk => wp_move (.inl rfl) (show a.eval (.tmp 10) = .int .i64 (L.length : Int) from hb 10 rfl) (hk _ _ rfl After.rfl)⟩,
        ⟨rfl, rfl, (.inl rfl), fun a W9 K hd hb aw hk => wp_bin rfl (hd 6 rfl) rfl (addI rfl (by omega) (by omega) _ _ _) (hk _ _ rfl After.rfl)⟩,
        ⟨rfl, rfl, (.inl rfl), fun a W9 K hd hb aw hk => wp_build2 rfl rfl (hd 7 rfl) (bn01 _ _ _) (hk _ _ rfl After.rfl)⟩,
        ⟨rfl, rfl, (.inl rfl), fun a W9 K hd hb aw hk => by
      obtain ⟨v, w9, h1, h2, h3⟩ := rowOf3 (Nd.mk 6 (m : Int) 0 0) (Nd.mk 11 (L.length : Int) 0 (N : Int)) (Nd.mk 6 ((L.length : Int) + 1) 0 0) W9
      exact wp_slice3 rfl (hd 2 rfl) (hd 5 rfl) (hd 8 rfl) h1 (hk _ _ h2 h3)⟩,
        ⟨rfl, rfl, (.inl rfl), fun a W9 K hd hb aw hk => wp_func2 rfl (enter_of Try.func23 (by kernel_rfl) (by kernel_rfl)) (hd 1 rfl) rfl ((HH.out W9 (HX.out.trans aw) _ _ (Nat.le_of_ble_eq_true rfl) (hd 9 rfl)).mono (fun e w1 h => by obtain ⟨v, h1, h2, h3⟩ := h; exact ⟨v, h1, hk _ _ h2 h3⟩))⟩,
        ⟨rfl, rfl, (.inl rfl), fun a W9 K hd hb aw hk => wp_func2 rfl (enter_of Try.func22 (by kernel_rfl) (by kernel_rfl)) (hd 0 rfl) rfl ((T7.out W9 (HX.out.trans aw) _ (hd 10 rfl)).mono (fun e w1 h => ⟨_, h.1, hk _ _ rfl h.2⟩))⟩,
        ⟨rfl, rfl, (.inl rfl), fun a W9 K hd hb aw hk => wp_move (.inr rfl) (hd 11 rfl) (hk _ _ rfl After.rfl)⟩,
        trivial⟩
    intro x9 w9 hx9 aw9
    have t0 : x9 0 = .agg #[.slice ac C.length cc, .slice aT X.length ct] := hx9 0 (Nat.le_of_ble_eq_true rfl)
    have t1 : x9 1 = .slice al L.length cl := hx9 1 (Nat.le_of_ble_eq_true rfl)
    have t2 : x9 2 = (Nd.mk 6 (m : Int) 0 0).val := hx9 2 (Nat.le_of_ble_eq_true rfl)
    have t3 : x9 3 = .int .i64 (L.length : Int) := hx9 3 (Nat.le_of_ble_eq_true rfl)
    have t4 : x9 4 = .int .i64 (N : Int) := hx9 4 (Nat.le_of_ble_eq_true rfl)
    have t5 : x9 5 = (Nd.mk 11 (L.length : Int) 0 (N : Int)).val := hx9 5 (Nat.le_of_ble_eq_true rfl)
    have t6 : x9 6 = .int .i64 (L.length : Int) := hx9 6 (Nat.le_of_ble_eq_true rfl)
    have t7 : x9 7 = .int .i64 ((L.length : Int) + 1) := hx9 7 (Nat.le_of_ble_eq_true rfl)
    have t8 : x9 8 = (Nd.mk 6 ((L.length : Int) + 1) 0 0).val := hx9 8 (Nat.le_of_ble_eq_true rfl)
    have t11 : x9 11 = .string SC := hx9 11 (Nat.le_of_ble_eq_true rfl)
    have t12 : x9 12 = .string SC := hx9 12 (Nat.le_of_ble_eq_true rfl)
    simp only [sets, List.getD_cons_succ, List.getD_cons_zero, List.set_cons_succ, List.set_cons_zero, t0, t1, t2, t3, t4, t5, t6, t7, t8, t11, t12]
    clear hx9 t0 t1 t2 t3 t4 t5 t6 t7 t8 t11 t12
    generalize x9 9 = y9
    generalize x9 10 = y10
    clear x9
    have HX := hideIt (HX.out.trans aw9)
    have HV := hideIt (HV.out.trans aw9)
    have HY := hideIt (HY.out.trans aw9)
    clear aw9
    go_upto_region 16 with fail
    refine region_slots (by kernel_rfl) [120, 121, 122, 123, 124, 125, 126, 16] [isV (.agg #[.slice ac C.length cc, .slice aT X.length ct]), isV (.slice al L.length cl), isV (.int .i64 (m : Int)), isV ((Nd.mk 10 (m : Int) 0 0).val), isRow ([Nd.mk 10 (m : Int) 0 0]), isRow (L ++ [Nd.mk 10 (m : Int) 0 0]), isV (.string S), isV (.string S)] 8 rfl rfl (stable_all (st_cons (isV_st _) (st_cons (isV_st _) (st_cons (isV_st _) (st_cons (isV_st _) (st_cons (isRow_st _) (st_cons (isRow_st _) (st_cons (isV_st _) (st_cons (isV_st _) (st_nil)))))))))) rfl rfl ?_ ?_
    · exact ⟨⟨rfl, rfl, (.inl rfl), fun a W9 K hd hb aw hk => wp_load rfl (show a.eval (.tmp 4) = Ptr w.heap.size from hb 4 rfl) (loadPast (HB.out _ (HV.out.trans aw)).1 (HB.out _ (HV.out.trans aw)).2) (hk _ _ rfl After.rfl)⟩,
        ⟨rfl, rfl, (.inl rfl), fun a W9 K hd hb aw hk => wp_move (.inl rfl) (show a.eval (.tmp 0) = .slice al L.length cl from hb 0 rfl) (hk _ _ rfl After.rfl)⟩,
        ⟨rfl, rfl, (.inl rfl), fun a W9 K hd hb aw hk => wp_move (.inl rfl) (show a.eval (.tmp 7) = .int .i64 (m : Int) from hb 7 rfl) (hk _ _ rfl After.rfl)⟩,
        ⟨rfl, rfl, (.inl rfl), fun a W9 K hd hb aw hk => wp_build2 rfl rfl (hd 2 rfl) (bn01 _ _ _) (hk _ _ rfl After.rfl)⟩,
        ⟨rfl, rfl, (.inl rfl), fun a W9 K hd hb aw hk => by
      obtain ⟨v, w9, h1, h2, h3⟩ := rowOf1 (Nd.mk 10 (m : Int) 0 0) W9
      exact wp_slice1 rfl (hd 3 rfl) h1 (hk _ _ h2 h3)⟩,
        ⟨rfl, rfl, (.inl rfl), fun a W9 K hd hb aw hk => wp_func2 rfl (enter_of Try.func23 (by kernel_rfl) (by kernel_rfl)) (hd 1 rfl) rfl ((HH.out W9 (HX.out.trans aw) _ _ (Nat.le_of_ble_eq_true rfl) (hd 4 rfl)).mono (fun e w1 h => by obtain ⟨v, h1, h2, h3⟩ := h; exact ⟨v, h1, hk _ _ h2 h3⟩))⟩,
        ⟨rfl, rfl, (.inl rfl), fun a W9 K hd hb aw hk => wp_func2 rfl (enter_of Try.func22 (by kernel_rfl) (by kernel_rfl)) (hd 0 rfl) rfl ((T8.out W9 (HX.out.trans aw) _ (hd 5 rfl)).mono (fun e w1 h => ⟨_, h.1, hk _ _ rfl h.2⟩))⟩,
        ⟨rfl, rfl, (.inl rfl), fun a W9 K hd hb aw hk => wp_move (.inr rfl) (hd 6 rfl) (hk _ _ rfl After.rfl)⟩,
        trivial⟩
    intro x9 w9 hx9 aw9
    have t0 : x9 0 = .agg #[.slice ac C.length cc, .slice aT X.length ct] := hx9 0 (Nat.le_of_ble_eq_true rfl)
    have t1 : x9 1 = .slice al L.length cl := hx9 1 (Nat.le_of_ble_eq_true rfl)
    have t2 : x9 2 = .int .i64 (m : Int) := hx9 2 (Nat.le_of_ble_eq_true rfl)
    have t3 : x9 3 = (Nd.mk 10 (m : Int) 0 0).val := hx9 3 (Nat.le_of_ble_eq_true rfl)
    have t6 : x9 6 = .string S := hx9 6 (Nat.le_of_ble_eq_true rfl)
    have t7 : x9 7 = .string S := hx9 7 (Nat.le_of_ble_eq_true rfl)
    simp only [sets, List.getD_cons_succ, List.getD_cons_zero, List.set_cons_succ, List.set_cons_zero, t0, t1, t2, t3, t6, t7]
    clear hx9 t0 t1 t2 t3 t6 t7
    generalize x9 4 = y4
    generalize x9 5 = y5
    clear x9
    have HX := hideIt (HX.out.trans aw9)
    have HV := hideIt (HV.out.trans aw9)
    have HY := hideIt (HY.out.trans aw9)
    clear aw9
    go_upto_region 17 with fail
    refine region_slots (by kernel_rfl) [127, 128, 129, 130, 131, 132, 133, 17] [isV (.agg #[.slice ac C.length cc, .slice aT X.length ct]), isV (.slice al L.length cl), isV (.int .i64 (m : Int)), isV ((Nd.mk 11 (m : Int) 0 0).val), isRow ([Nd.mk 11 (m : Int) 0 0]), isRow (L ++ [Nd.mk 11 (m : Int) 0 0]), isV (.string S), isV (.string S)] 8 rfl rfl (stable_all (st_cons (isV_st _) (st_cons (isV_st _) (st_cons (isV_st _) (st_cons (isV_st _) (st_cons (isRow_st _) (st_cons (isRow_st _) (st_cons (isV_st _) (st_cons (isV_st _) (st_nil)))))))))) rfl rfl ?_ ?_
    · exact ⟨⟨rfl, rfl, (.inl rfl), fun a W9 K hd hb aw hk => wp_load rfl (show a.eval (.tmp 4) = Ptr w.heap.size from hb 4 rfl) (loadPast (HB.out _ (HV.out.trans aw)).1 (HB.out _ (HV.out.trans aw)).2) (hk _ _ rfl After.rfl)⟩,
        ⟨rfl, rfl, (.inl rfl), fun a W9 K hd hb aw hk => wp_move (.inl rfl) (show a.eval (.tmp 0) = .slice al L.length cl from hb 0 rfl) (hk _ _ rfl After.rfl)⟩,
        ⟨rfl, rfl, (.inl rfl), fun a W9 K hd hb aw hk => wp_move (.inl rfl) (show a.eval (.tmp 7) = .int .i64 (m : Int) from hb 7 rfl) (hk _ _ rfl After.rfl)⟩,
        ⟨rfl, rfl, (.inl rfl), fun a W9 K hd hb aw hk => wp_build2 rfl rfl (hd 2 rfl) (bn01 _ _ _) (hk _ _ rfl After.rfl)⟩,
        ⟨rfl, rfl, (.inl rfl), fun a W9 K hd hb aw hk => by
      obtain ⟨v, w9, h1, h2, h3⟩ := rowOf1 (Nd.mk 11 (m : Int) 0 0) W9
      exact wp_slice1 rfl (hd 3 rfl) h1 (hk _ _ h2 h3)⟩,
        ⟨rfl, rfl, (.inl rfl), fun a W9 K hd hb aw hk => wp_func2 rfl (enter_of Try.func23 (by kernel_rfl) (by kernel_rfl)) (hd 1 rfl) rfl ((HH.out W9 (HX.out.trans aw) _ _ (Nat.le_of_ble_eq_true rfl) (hd 4 rfl)).mono (fun e w1 h => by obtain ⟨v, h1, h2, h3⟩ := h; exact ⟨v, h1, hk _ _ h2 h3⟩))⟩,
        ⟨rfl, rfl, (.inl rfl), fun a W9 K hd hb aw hk => wp_func2 rfl (enter_of Try.func22 (by kernel_rfl) (by kernel_rfl)) (hd 0 rfl) rfl ((T9.out W9 (HX.out.trans aw) _ (hd 5 rfl)).mono (fun e w1 h => ⟨_, h.1, hk _ _ rfl h.2⟩))⟩,
        ⟨rfl, rfl, (.inl rfl), fun a W9 K hd hb aw hk => wp_move (.inr rfl) (hd 6 rfl) (hk _ _ rfl After.rfl)⟩,
        trivial⟩
    intro x9 w9 hx9 aw9
    have t0 : x9 0 = .agg #[.slice ac C.length cc, .slice aT X.length ct] := hx9 0 (Nat.le_of_ble_eq_true rfl)
    have t1 : x9 1 = .slice al L.length cl := hx9 1 (Nat.le_of_ble_eq_true rfl)
    have t2 : x9 2 = .int .i64 (m : Int) := hx9 2 (Nat.le_of_ble_eq_true rfl)
    have t3 : x9 3 = (Nd.mk 11 (m : Int) 0 0).val := hx9 3 (Nat.le_of_ble_eq_true rfl)
    have t6 : x9 6 = .string S := hx9 6 (Nat.le_of_ble_eq_true rfl)
    have t7 : x9 7 = .string S := hx9 7 (Nat.le_of_ble_eq_true rfl)
    simp only [sets, List.getD_cons_succ, List.getD_cons_zero, List.set_cons_succ, List.set_cons_zero, t0, t1, t2, t3, t6, t7]
    clear hx9 t0 t1 t2 t3 t6 t7
    generalize x9 4 = y4
    generalize x9 5 = y5
    clear x9
    have HX := hideIt (HX.out.trans aw9)
    have HV := hideIt (HV.out.trans aw9)
    have HY := hideIt (HY.out.trans aw9)
    clear aw9
    go_wp2_with fail
    go_ret
    exact ⟨rfl, HX.out⟩
end Go.Proofs.Ytgbaibnlfmeklaa
