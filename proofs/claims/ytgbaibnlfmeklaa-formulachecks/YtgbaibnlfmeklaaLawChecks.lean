/-
  FormulaChecks: the walk.
-/
import Derived.Test.YtgbaibnlfmeklaaFoS
import Derived.Test.YtgbaibnlfmeklaaSloP
import Derived.Test.YtgbaibnlfmeklaaFoK
namespace Go.Proofs.Ytgbaibnlfmeklaa
open Go.RowKit
set_option maxRecDepth 8000
set_option maxHeartbeats 4000000 in
theorem law_checks {L : List Nd} (w : World) (al : Option Addr) (cl : Nat) (h1 : NRow w al L.length L) (ch s v : Int) (hv1 : -9223372036854775808 ≤ v) (hv2 : v ≤ 9223372036854775807) :
    Calls Try.prog 3 #[.slice al L.length cl, .int .i64 ch, .agg #[.int .i64 s, .int .i64 v]] w fun e w' => e = .returned (.bool true) ∧ After w w' := by
  obtain ⟨W1, hW1⟩ : ∃ W1, W1 = w.alloc (.cells #[.int .i64 s, .int .i64 v] 24) := ⟨_, rfl⟩
  have a1 : After w W1 := by rw [hW1]; exact After.rfl.alloc _
  have b1 : W1.heap[w.heap.size]? = some (.cells #[.int .i64 s, .int .i64 v] 24 (0, 0)) := by rw [hW1]; exact new_blk After.rfl
  have HB : Hid (∀ V, After W1 V → V.heap[w.heap.size]? = some (.cells #[.int .i64 s, .int .i64 v] 24 (0, 0))) := hideIt (fun V hV => (hV.block _ (blk_lt b1) (fun t => t)).trans b1)
  have H1 := hideIt h1
  have HW := hideIt hW1
  have HA := hideIt a1
  have HC1 := hideIt (fun (z : Int) V (hV : After W1 V) => check_any L V al L.length cl ((h1.after a1).after hV) z)
  have HC2 := hideIt (fun (z : Int) V (hV : After W1 V) => refCheck_any L V al L.length cl ((h1.after a1).after hV) z)
  have HM1 := hideIt (fun V (hV : After W1 V) => memory_any L V al L.length cl ((h1.after a1).after hV))
  have HM2 := hideIt (fun V (hV : After W1 V) => refMemory_any L V al L.length cl ((h1.after a1).after hV))
  clear h1 b1 a1 hW1
  generalize chk L = ck at *
  generalize (memA L).1 = q1 at *
  generalize (memA L).2 = q2 at *
  go_enter Try.func3, Try.ntmps3
  go_wp2_with fail
  rw [← HW.out]
  clear HW
  go_loopw [7] (fun a wr => ∃ z : Int, -1 ≤ z ∧ z ≤ 10 ∧ a = .int .i64 z ∧ After W1 wr) (fun a _ => (10 - intOf a).toNat)
  case atStart => exact ⟨-1, by omega, by omega, rfl, After.rfl⟩
  case round =>
    obtain ⟨z, z1, z2, rfl, aw⟩ := hrel
    by_cases hz : z < 10
    · have AW := hideIt aw
      clear aw
      go_wp2_with fail
      refine (HC1.out z _ AW.out).mono ?_
      rintro e w2 ⟨rfl, a2⟩
      have A2 := hideIt (AW.out.trans a2)
      clear a2
      go_wp2_with fail
      refine (HC2.out z _ A2.out).mono ?_
      rintro e w3 ⟨rfl, a3⟩
      have A3 := hideIt (A2.out.trans a3)
      clear a3
      go_wp2_with fail
      go_roundw
      case rel => exact ⟨z + 1, by omega, by omega, by go_num, A3.out⟩
      case measure => simp [intOf]; omega
    · have AW := hideIt aw
      clear aw
      have HV1 := hideIt (fun V => value_any s v V)
      have HV2 := hideIt (fun V => refValue_any s v V)
      generalize (Rd.mk s v).num = qn at *
      generalize (Rd.mk s v).has = qh at *
      go_wp2_with fail
      refine (HM1.out _ AW.out).mono ?_
      rintro e w2 ⟨rfl, a2⟩
      have A2 := hideIt (AW.out.trans a2)
      clear a2
      go_wp2_with fail
      refine (HM2.out _ A2.out).mono ?_
      rintro e w3 ⟨rfl, a3⟩
      have A3 := hideIt (A2.out.trans a3)
      have r3 := HB.out _ A3.out
      have c0 := blk_cell r3 (i := 0) rfl
      have c1 := blk_cell r3 (i := 1) rfl
      clear a3 r3
      go_wp2_with fail
      refine (HV1.out _).mono ?_
      rintro e w4 ⟨rfl, a4⟩
      have A4 := hideIt (A3.out.trans a4)
      have r4 := HB.out _ A4.out
      have d0 := blk_cell r4 (i := 0) rfl
      have d1 := blk_cell r4 (i := 1) rfl
      clear a4 r4 c0 c1
      go_wp2_with fail
      refine (HV2.out _).mono ?_
      rintro e w5 ⟨rfl, a5⟩
      have A5 := hideIt (A4.out.trans a5)
      clear a5 d0 d1
      go_wp2_with fail
      refine (HC1.out ch _ A5.out).mono ?_
      rintro e w6 ⟨rfl, a6⟩
      have A6 := hideIt (A5.out.trans a6)
      clear a6
      go_wp2_with fail
      refine (HC2.out ch _ A6.out).mono ?_
      rintro e w7 ⟨rfl, a7⟩
      have A7 := hideIt (A6.out.trans a7)
      clear a7
      go_wp2_with fail
      go_loopw [16] (fun a wr => ∃ j : Nat, j ≤ L.length ∧ j ≤ 40 ∧ a = .int .i64 j ∧ After W1 wr) (fun a _ => 40 - (intOf a).toNat)
      case atStart => exact ⟨0, Nat.zero_le _, by omega, rfl, A7.out⟩
      case round =>
        obtain ⟨j, hj, hj2, rfl, aw⟩ := hrel
        by_cases hjn : j < L.length ∧ j < 40
        · have i1 : (j : Int) < (L.length : Int) := by omega
          have i2 : (j : Int) < 40 := by omega
          obtain ⟨b, off, x, rfl, hb, hx, k0, k1, k2, k3⟩ := nrow_at (H1.out.after HA.out) hjn.1
          have HN : Hid (∀ V, After W1 V → (Instr.loadAt 38 (.pointer (some ⟨b, off + j * 4, none⟩))).run Try.prog V = .ok x.val V) := hideIt (fun V hV => loadNodeAt ((hV.cell hb _).trans k0) ((hV.cell hb _).trans k1) ((hV.cell hb _).trans k2) ((hV.cell hb _).trans k3))
          have r3 := HB.out _ aw
          have c0 := blk_cell r3 (i := 0) rfl
          have c1 := blk_cell r3 (i := 1) rfl
          have AW := hideIt aw
          clear aw r3 hx k0 k1 k2 k3 hb
          go_upto_region 16 with fail
          generalize wrap64 (v.tdiv 2 + (j : Int)) = lo
          generalize wrap64 (v.tdiv 2 - (j : Int)) = hi
          obtain ⟨W4, hW4⟩ : ∃ W4, W4 = wr.alloc (.cells #[.int .i64 0, .int .i64 0, .int .i64 0, .int .i64 0, .int .i64 0, .int .i64 lo, .int .i64 hi] 34) := ⟨_, rfl⟩
          have b4 : W4.heap[wr.heap.size]? = some (.cells #[.int .i64 0, .int .i64 0, .int .i64 0, .int .i64 0, .int .i64 0, .int .i64 lo, .int .i64 hi] 34 (0, 0)) := by rw [hW4]; exact new_blk After.rfl
          have HQ : Hid (∀ V, After W4 V → (Instr.loadAt 34 (Ptr wr.heap.size)).run Try.prog V = .ok (Ch.mk 0 0 0 0 0 lo hi).val V) := hideIt (fun V hV => loadChan (c := ⟨0, 0, 0, 0, 0, lo, hi⟩) ((hV.block _ (blk_lt b4) (fun t => t)).trans b4))
          have HV : Hid (After W1 W4) := hideIt (AW.out.trans (by rw [hW4]; exact After.rfl.alloc _))
          have HY : Hid (After W4 W4) := hideIt After.rfl
          rw [← hW4]
          clear hW4 b4 c0 c1
          have HT1 := hideIt (fun V => atom_any x ⟨0, 0, 0, 0, 0, lo, hi⟩ ⟨s, v⟩ V)
          have HT2 := hideIt (fun V => refAtom_any x ⟨0, 0, 0, 0, 0, lo, hi⟩ ⟨s, v⟩ V)
          generalize (atomA x ⟨0, 0, 0, 0, 0, lo, hi⟩ ⟨s, v⟩).1 = qa at *
          generalize (atomA x ⟨0, 0, 0, 0, 0, lo, hi⟩ ⟨s, v⟩).2 = qe at *
          refine region_slots (by kernel_rfl) [102, 103, 104, 105, 106, 107, 108, 101, 109, 110, 18, 19] [isV (.slice (some ⟨b, off, none⟩) L.length cl), isV (.int .i64 (j : Int)), isV (.pointer (some ⟨b, off + j * 4, none⟩)), isV (x.val), isV ((Ch.mk 0 0 0 0 0 lo hi).val), isV ((Rd.mk s v).val), isV (.tuple #[.bool qa, .int .i64 qe]), isV (.tuple #[.bool qa, .int .i64 qe]), isV (.bool qa), isV (.int .i64 qe), isV (.bool qa), isV (.int .i64 qe)] 12 rfl rfl (stable_all (st_cons (isV_st _) (st_cons (isV_st _) (st_cons (isV_st _) (st_cons (isV_st _) (st_cons (isV_st _) (st_cons (isV_st _) (st_cons (isV_st _) (st_cons (isV_st _) (st_cons (isV_st _) (st_cons (isV_st _) (st_cons (isV_st _) (st_cons (isV_st _) (st_nil)))))))))))))) rfl rfl ?_ ?_
          · exact ⟨⟨rfl, rfl, (.inl rfl), fun a W9 K hd hb aw hk => wp_move (.inl rfl) (show a.eval (.tmp 0) = .slice (some ⟨b, off, none⟩) L.length cl from hb 0 rfl) (hk _ _ rfl After.rfl)⟩,
              ⟨rfl, rfl, (.inl rfl), fun a W9 K hd hb aw hk => wp_move (.inl rfl) (show a.eval (.tmp 16) = .int .i64 (j : Int) from hb 16 rfl) (hk _ _ rfl After.rfl)⟩,
              ⟨rfl, rfl, (.inl rfl), fun a W9 K hd hb aw hk => wp_index rfl (hd 0 rfl) (hd 1 rfl) (indexN _ _ _ _ _ _ i1) (hk _ _ rfl After.rfl)⟩,
              ⟨rfl, rfl, (.inl rfl), fun a W9 K hd hb aw hk => wp_load rfl (hd 2 rfl) (HN.out _ (HV.out.trans aw)) (hk _ _ rfl After.rfl)⟩,
              ⟨rfl, rfl, (.inl rfl), fun a W9 K hd hb aw hk => wp_load rfl (show a.eval (.tmp 17) = Ptr wr.heap.size from hb 17 rfl) (HQ.out _ (HY.out.trans aw)) (hk _ _ rfl After.rfl)⟩,
              ⟨rfl, rfl, (.inl rfl), fun a W9 K hd hb aw hk => wp_load rfl (show a.eval (.tmp 5) = Ptr w.heap.size from hb 5 rfl) (loadRead (r := ⟨s, v⟩) (HB.out _ (HV.out.trans aw))) (hk _ _ rfl After.rfl)⟩,
              ⟨rfl, rfl, (.inl rfl), fun a W9 K hd hb aw hk => wp_func3 rfl (enter_of Try.func15 (by kernel_rfl) (by kernel_rfl)) (hd 3 rfl) (hd 4 rfl) (hd 5 rfl) ((HT1.out W9).mono (fun e w1 h => ⟨_, h.1, hk _ _ rfl h.2⟩))⟩,
              ⟨rfl, rfl, (.inl rfl), fun a W9 K hd hb aw hk => wp_move (.inl rfl) (hd 6 rfl) (hk _ _ rfl After.rfl)⟩,
              ⟨rfl, rfl, (.inl rfl), fun a W9 K hd hb aw hk => wp_extract rfl (hd 7 rfl) (extr0 _ _ _) (hk _ _ rfl After.rfl)⟩,
              ⟨rfl, rfl, (.inl rfl), fun a W9 K hd hb aw hk => wp_extract rfl (hd 7 rfl) (extr1 _ _ _) (hk _ _ rfl After.rfl)⟩,
              ⟨rfl, rfl, (.inl rfl), fun a W9 K hd hb aw hk => wp_move (.inr rfl) (hd 8 rfl) (hk _ _ rfl After.rfl)⟩,
              ⟨rfl, rfl, (.inl rfl), fun a W9 K hd hb aw hk => wp_move (.inr rfl) (hd 9 rfl) (hk _ _ rfl After.rfl)⟩,
              trivial⟩
          intro x9 w9 hx9 aw9
          have t0 : x9 0 = .slice (some ⟨b, off, none⟩) L.length cl := hx9 0 (Nat.le_of_ble_eq_true rfl)
          have t1 : x9 1 = .int .i64 (j : Int) := hx9 1 (Nat.le_of_ble_eq_true rfl)
          have t2 : x9 2 = .pointer (some ⟨b, off + j * 4, none⟩) := hx9 2 (Nat.le_of_ble_eq_true rfl)
          have t3 : x9 3 = x.val := hx9 3 (Nat.le_of_ble_eq_true rfl)
          have t4 : x9 4 = (Ch.mk 0 0 0 0 0 lo hi).val := hx9 4 (Nat.le_of_ble_eq_true rfl)
          have t5 : x9 5 = (Rd.mk s v).val := hx9 5 (Nat.le_of_ble_eq_true rfl)
          have t6 : x9 6 = .tuple #[.bool qa, .int .i64 qe] := hx9 6 (Nat.le_of_ble_eq_true rfl)
          have t7 : x9 7 = .tuple #[.bool qa, .int .i64 qe] := hx9 7 (Nat.le_of_ble_eq_true rfl)
          have t8 : x9 8 = .bool qa := hx9 8 (Nat.le_of_ble_eq_true rfl)
          have t9 : x9 9 = .int .i64 qe := hx9 9 (Nat.le_of_ble_eq_true rfl)
          have t10 : x9 10 = .bool qa := hx9 10 (Nat.le_of_ble_eq_true rfl)
          have t11 : x9 11 = .int .i64 qe := hx9 11 (Nat.le_of_ble_eq_true rfl)
          simp only [sets, List.getD_cons_succ, List.getD_cons_zero, List.set_cons_succ, List.set_cons_zero, t0, t1, t2, t3, t4, t5, t6, t7, t8, t9, t10, t11]
          clear hx9 t0 t1 t2 t3 t4 t5 t6 t7 t8 t9 t10 t11
          clear x9
          have HV := hideIt (HV.out.trans aw9)
          have HY := hideIt (HY.out.trans aw9)
          clear aw9
          go_upto_region 17 with fail
          refine region_slots (by kernel_rfl) [112, 113, 114, 115, 116, 117, 118, 111, 119, 120, 20, 21] [isV (.slice (some ⟨b, off, none⟩) L.length cl), isV (.int .i64 (j : Int)), isV (.pointer (some ⟨b, off + j * 4, none⟩)), isV (x.val), isV ((Ch.mk 0 0 0 0 0 lo hi).val), isV ((Rd.mk s v).val), isV (.tuple #[.bool qa, .int .i64 qe]), isV (.tuple #[.bool qa, .int .i64 qe]), isV (.bool qa), isV (.int .i64 qe), isV (.bool qa), isV (.int .i64 qe)] 12 rfl rfl (stable_all (st_cons (isV_st _) (st_cons (isV_st _) (st_cons (isV_st _) (st_cons (isV_st _) (st_cons (isV_st _) (st_cons (isV_st _) (st_cons (isV_st _) (st_cons (isV_st _) (st_cons (isV_st _) (st_cons (isV_st _) (st_cons (isV_st _) (st_cons (isV_st _) (st_nil)))))))))))))) rfl rfl ?_ ?_
          · exact ⟨⟨rfl, rfl, (.inl rfl), fun a W9 K hd hb aw hk => wp_move (.inl rfl) (show a.eval (.tmp 0) = .slice (some ⟨b, off, none⟩) L.length cl from hb 0 rfl) (hk _ _ rfl After.rfl)⟩,
              ⟨rfl, rfl, (.inl rfl), fun a W9 K hd hb aw hk => wp_move (.inl rfl) (show a.eval (.tmp 16) = .int .i64 (j : Int) from hb 16 rfl) (hk _ _ rfl After.rfl)⟩,
              ⟨rfl, rfl, (.inl rfl), fun a W9 K hd hb aw hk => wp_index rfl (hd 0 rfl) (hd 1 rfl) (indexN _ _ _ _ _ _ i1) (hk _ _ rfl After.rfl)⟩,
              ⟨rfl, rfl, (.inl rfl), fun a W9 K hd hb aw hk => wp_load rfl (hd 2 rfl) (HN.out _ (HV.out.trans aw)) (hk _ _ rfl After.rfl)⟩,
              ⟨rfl, rfl, (.inl rfl), fun a W9 K hd hb aw hk => wp_load rfl (show a.eval (.tmp 17) = Ptr wr.heap.size from hb 17 rfl) (HQ.out _ (HY.out.trans aw)) (hk _ _ rfl After.rfl)⟩,
              ⟨rfl, rfl, (.inl rfl), fun a W9 K hd hb aw hk => wp_load rfl (show a.eval (.tmp 5) = Ptr w.heap.size from hb 5 rfl) (loadRead (r := ⟨s, v⟩) (HB.out _ (HV.out.trans aw))) (hk _ _ rfl After.rfl)⟩,
              ⟨rfl, rfl, (.inl rfl), fun a W9 K hd hb aw hk => wp_func3 rfl (enter_of Try.func16 (by kernel_rfl) (by kernel_rfl)) (hd 3 rfl) (hd 4 rfl) (hd 5 rfl) ((HT2.out W9).mono (fun e w1 h => ⟨_, h.1, hk _ _ rfl h.2⟩))⟩,
              ⟨rfl, rfl, (.inl rfl), fun a W9 K hd hb aw hk => wp_move (.inl rfl) (hd 6 rfl) (hk _ _ rfl After.rfl)⟩,
              ⟨rfl, rfl, (.inl rfl), fun a W9 K hd hb aw hk => wp_extract rfl (hd 7 rfl) (extr0 _ _ _) (hk _ _ rfl After.rfl)⟩,
              ⟨rfl, rfl, (.inl rfl), fun a W9 K hd hb aw hk => wp_extract rfl (hd 7 rfl) (extr1 _ _ _) (hk _ _ rfl After.rfl)⟩,
              ⟨rfl, rfl, (.inl rfl), fun a W9 K hd hb aw hk => wp_move (.inr rfl) (hd 8 rfl) (hk _ _ rfl After.rfl)⟩,
              ⟨rfl, rfl, (.inl rfl), fun a W9 K hd hb aw hk => wp_move (.inr rfl) (hd 9 rfl) (hk _ _ rfl After.rfl)⟩,
              trivial⟩
          intro x9 w9 hx9 aw9
          have t0 : x9 0 = .slice (some ⟨b, off, none⟩) L.length cl := hx9 0 (Nat.le_of_ble_eq_true rfl)
          have t1 : x9 1 = .int .i64 (j : Int) := hx9 1 (Nat.le_of_ble_eq_true rfl)
          have t2 : x9 2 = .pointer (some ⟨b, off + j * 4, none⟩) := hx9 2 (Nat.le_of_ble_eq_true rfl)
          have t3 : x9 3 = x.val := hx9 3 (Nat.le_of_ble_eq_true rfl)
          have t4 : x9 4 = (Ch.mk 0 0 0 0 0 lo hi).val := hx9 4 (Nat.le_of_ble_eq_true rfl)
          have t5 : x9 5 = (Rd.mk s v).val := hx9 5 (Nat.le_of_ble_eq_true rfl)
          have t6 : x9 6 = .tuple #[.bool qa, .int .i64 qe] := hx9 6 (Nat.le_of_ble_eq_true rfl)
          have t7 : x9 7 = .tuple #[.bool qa, .int .i64 qe] := hx9 7 (Nat.le_of_ble_eq_true rfl)
          have t8 : x9 8 = .bool qa := hx9 8 (Nat.le_of_ble_eq_true rfl)
          have t9 : x9 9 = .int .i64 qe := hx9 9 (Nat.le_of_ble_eq_true rfl)
          have t10 : x9 10 = .bool qa := hx9 10 (Nat.le_of_ble_eq_true rfl)
          have t11 : x9 11 = .int .i64 qe := hx9 11 (Nat.le_of_ble_eq_true rfl)
          simp only [sets, List.getD_cons_succ, List.getD_cons_zero, List.set_cons_succ, List.set_cons_zero, t0, t1, t2, t3, t4, t5, t6, t7, t8, t9, t10, t11]
          clear hx9 t0 t1 t2 t3 t4 t5 t6 t7 t8 t9 t10 t11
          clear x9
          have HV := hideIt (HV.out.trans aw9)
          clear aw9
          go_wp2_with fail
          go_roundw
          case rel => exact ⟨j + 1, by omega, by omega, by go_num, HV.out⟩
          case measure => simp [intOf]; omega
        · have HN : Hid (¬ (j < L.length ∧ j < 40)) := hideIt hjn
          clear hjn
          have AW := hideIt aw
          clear aw
          by_cases h5 : j < L.length
          · have i1 : (j : Int) < (L.length : Int) := by omega
            have i2 : ¬ (j : Int) < 40 := by have := HN.out; omega
            go_wp2_with fail
            refine (works_any _).mono ?_
            rintro e w8 ⟨rfl, a8⟩
            go_wp2_with fail
            go_ret
            exact ⟨rfl, HA.out.trans (AW.out.trans a8)⟩
          · have i1 : ¬ (j : Int) < (L.length : Int) := by omega
            go_wp2_with fail
            refine (works_any _).mono ?_
            rintro e w8 ⟨rfl, a8⟩
            go_wp2_with fail
            go_ret
            exact ⟨rfl, HA.out.trans (AW.out.trans a8)⟩
end Go.Proofs.Ytgbaibnlfmeklaa
