/-
  RuleWindow: the walk.
-/
import Derived.Test.YthgmjeljjladhaaRuV
namespace Go.Proofs.Ythgmjeljjladhaa
open Go.RowKit
set_option maxRecDepth 8000
set_option maxHeartbeats 1000000 in
theorem law_window17 {L : List Nd} {C : List Ch} {X : List Tr} (w : World) (al : Option Addr) (cl : Nat) (ac : Option Addr) (cc : Nat) (aT : Option Addr) (ct : Nat) (h : Given w al cl ac cc aT ct L C X) (hn : L.length ≤ 4398046511104) (fr : Int) (lo : -9223372036854775808 ≤ fr) (hi : fr ≤ 9223372036854775807) :
    Calls Try.prog 6 #[.slice al L.length cl, .agg #[.slice ac C.length cc, .slice aT X.length ct], .int .i64 fr] w fun e w' => e = .returned (.bool true) ∧ After w w' := by
  obtain ⟨W1, hW1⟩ : ∃ W1, W1 = w.alloc (.cells #[.slice ac C.length cc, .slice aT X.length ct] 26) := ⟨_, rfl⟩
  have a1 : After w W1 := by rw [hW1]; exact After.rfl.alloc _
  have HB : Hid (∀ V, After W1 V → V.cell? ⟨w.heap.size, 0, none⟩ = some (.slice ac C.length cc) ∧ V.cell? ⟨w.heap.size, 1, none⟩ = some (.slice aT X.length ct)) := hideIt (fun V hV => by
    rw [hW1] at hV
    exact ⟨new_cell hV 0 rfl, new_cell hV 1 rfl⟩)
  have HW := hideIt (And.intro hW1 a1)
  have HH := hideIt h
  have hn' : (L.length : Int) ≤ 4398046511104 := by omega
  clear h hW1 a1
  go_enter Try.func6, Try.ntmps6
  go_wp2_with fail
  rw [← HW.out.1]
  refine (works_any _).mono ?_
  rintro e w2 ⟨rfl, a2⟩
  have A2 := hideIt a2
  clear a2
  obtain ⟨LS, hLS⟩ : ∃ LS : Nat → Int, LS = longS L := ⟨_, rfl⟩
  have h0 : LS 0 = 0 := by rw [hLS]; rfl
  have HLS := hideIt hLS
  clear hLS
  go_wp2_with fail
  go_loopw [7, 8] (fun s i wr => ∃ j : Nat, j ≤ L.length ∧ i = .int .i64 (j : Int) ∧ s = .int .i64 (LS j) ∧ (∀ x ∈ L.take j, x.op ≠ 9 ∧ x.op ≠ 11 ∧ x.op ≠ 12) ∧ wr = w2) (fun _ i _ => L.length - (intOf i).toNat)
  case atStart => exact ⟨0, Nat.zero_le _, rfl, by rw [h0], fun x hx => by simp at hx, rfl⟩
  case round =>
    obtain ⟨j, hj, rfl, rfl, hm, rfl⟩ := hrel
    have hLb : 0 ≤ LS j ∧ LS j ≤ 64 * (j : Int) := by rw [HLS.out]; exact longS_bound L j
    by_cases hjn : j < L.length
    · have i1 : (j : Int) < (L.length : Int) := by omega
      obtain ⟨nb, noff, x, rfl, hnb, hx, k0, k1, k2, k3⟩ := nrow_at (HH.out.after (HW.out.2.trans A2.out)).n1 hjn
      have HS := hideIt (And.intro hm hx)
      have hst : LS (j + 1) = LS j + (if x.op = 10 then max (min x.n 64) 0 else 0) := by rw [HLS.out]; exact longS_at hx
      have HST := hideIt hst
      clear hm hx hst
      by_cases h12 : x.op = 12
      · have e12 : (x.op == 12) = true := by simp [h12]
        clear h12
        go_wp2_with fail
        go_ret
        exact ⟨rfl, HW.out.2.trans A2.out⟩
      have e12 : (x.op == 12) = false := by simp [h12]
      by_cases h9 : x.op = 9
      · have e9 : (x.op == 9) = true := by simp [h9]
        clear h9 h12
        go_wp2_with fail
        go_ret
        exact ⟨rfl, HW.out.2.trans A2.out⟩
      have e9 : (x.op == 9) = false := by simp [h9]
      by_cases h11 : x.op = 11
      · have e11 : (x.op == 11) = true := by simp [h11]
        clear h11 h9 h12
        go_wp2_with fail
        go_ret
        exact ⟨rfl, HW.out.2.trans A2.out⟩
      have e11 : (x.op == 11) = false := by simp [h11]
      have HO := hideIt (And.intro h9 (And.intro h11 h12))
      clear h9 h11 h12
      have HM : Hid (∀ y ∈ L.take (j + 1), y.op ≠ 9 ∧ y.op ≠ 11 ∧ y.op ≠ 12) := hideIt (fun y hy => by
        rw [take_snoc HS.out.2] at hy
        rcases List.mem_append.1 hy with h | h
        · exact HS.out.1 y h
        · simp at h; rw [h]; exact HO.out)
      by_cases h10 : x.op = 10
      · have e10 : (x.op == 10) = true := by simp [h10]
        rw [if_pos h10] at HST
        clear h10
        obtain ⟨mn, hmn⟩ : ∃ mn, max (min x.n 64) 0 = mn := ⟨_, rfl⟩
        have hmb : 0 ≤ mn ∧ mn ≤ 64 := by omega
        obtain ⟨m1, hm1⟩ : ∃ m1, min x.n 64 = m1 := ⟨_, rfl⟩
        rw [hm1] at hmn
        rw [hm1, hmn] at HST
        go_wp2_with fail
        go_roundw
        case rel => exact ⟨j + 1, by omega, by go_num, by rw [HST.out], HM.out, by first | rfl | trivial⟩
        case measure => simp [intOf]; omega
      · have e10 : (x.op == 10) = false := by simp [h10]
        rw [if_neg h10, Int.add_zero] at HST
        clear h10
        go_wp2_with fail
        go_roundw
        case rel => exact ⟨j + 1, by omega, by go_num, by rw [HST.out], HM.out, by first | rfl | trivial⟩
        case measure => simp [intOf]; omega
    · have hjL : j = L.length := by omega
      have i1 : ¬ (j : Int) < (L.length : Int) := by omega
      rw [hjL, List.take_of_length_le (Nat.le_refl _)] at hm
      have HP := hideIt (show plainL L from hm)
      have HLG : Hid (LS j = longS L L.length) := hideIt (by rw [HLS.out, hjL])
      have HJ := hideIt hjL
      have hlb : 0 ≤ LS j ∧ LS j ≤ 64 * 4398046511104 := by omega
      clear hm hjL hLb
      generalize LS j = lg at *
      obtain ⟨d0, d1⟩ := HB.out _ A2.out
      go_wp2_with fail
      refine (whole_any HH.out.xb wr ac C.length cc aT ct (HH.out.after (HW.out.2.trans A2.out)).t1).mono ?_
      rintro e w3 ⟨⟨r, rfl, hr⟩, a3⟩
      have A3 := hideIt (A2.out.trans a3)
      clear a3 d0 d1
      obtain ⟨d0, d1⟩ := HB.out _ A3.out
      cases r with
      | false =>
        clear hr
        go_wp2_with fail
        go_ret
        exact ⟨rfl, HW.out.2.trans A3.out⟩
      | true =>
        have HR := hideIt (hr rfl)
        clear hr
        have hX150 : (X.length : Int) ≤ 150 := by have := HR.out.2; omega
        by_cases hf0 : fr < 0
        · go_wp2_with fail
          go_ret
          exact ⟨rfl, HW.out.2.trans A3.out⟩
        by_cases hf1 : (X.length : Int) ≤ fr
        · have hge : decide (fr ≥ (X.length : Int)) = true := decide_eq_true hf1
          go_wp2_with fail
          go_ret
          exact ⟨rfl, HW.out.2.trans A3.out⟩
        obtain ⟨F, rfl⟩ : ∃ F : Nat, fr = (F : Int) := ⟨fr.toNat, by omega⟩
        have iF : (F : Int) < (X.length : Int) := by omega
        have HFX := hideIt (show F < X.length by omega)
        clear hf0 hf1 lo hi
        have G3 := hideIt (HH.out.after (HW.out.2.trans A3.out))
        obtain ⟨tb, toff, x0, rfl, htb, hx0, k00, kin0⟩ := trow_at G3.out.t1 (show 0 < X.length by have := HFX.out; omega)
        clear htb hx0 k00 kin0
        have iC : (X.length : Int) ≤ (ct : Int) := by have := G3.out.t3; omega
        obtain ⟨X2, hX2⟩ : ∃ X2, X2 = X.drop F := ⟨_, rfl⟩
        have hX2l : X2.length = X.length - F := by rw [hX2, List.length_drop]
        have HT2 : Hid (∀ V, After w3 V → TRow V (some ⟨tb, toff + F, none⟩) X2.length X2) := hideIt (fun V hV => by
          rw [hX2l, hX2]
          have hh := GRow.drop (G3.out.t1.after hV).1 (k := F) (by have := HFX.out; omega)
          rw [show trE.k = 1 from rfl, Nat.mul_one] at hh
          exact ⟨hh, fun y hy => (G3.out.t1.after hV).2 y (List.mem_of_mem_drop hy)⟩)
        have HX2 := hideIt (And.intro hX2 hX2l)
        have HR2 : Hid (∀ y ∈ X2, y.n = C.length) := hideIt (fun y hy => HR.out.1 y (by rw [hX2] at hy; exact List.mem_of_mem_drop hy))
        clear hX2
        by_cases hc : chk L (C.length : Int) = 0
        rotate_left
        · have HS1 := hideIt (steps_no w3 al L.length cl G3.out.n1 ac C.length cc G3.out.c1 (.slice (some ⟨tb, toff, none⟩) X.length ct) hc ⟨_, _, _, rfl⟩)
          have HS2' := hideIt (fun V (hV : After w3 V) => steps_no V al L.length cl (G3.out.n1.after hV) ac C.length cc (G3.out.c1.after hV) (.slice (some ⟨tb, toff + F, none⟩) (X.length - F) (ct - F)) hc ⟨_, _, _, rfl⟩)
          clear hc hX2l
          obtain ⟨SB, hSB⟩ : ∃ SB : ByteArray, SB = ⟨#[63]⟩ := ⟨_, rfl⟩
          rw [← hSB] at HS2'
          go_wp2_with fail
          refine HS1.out.mono ?_
          rintro e w4 ⟨rfl, a4⟩
          have A4' := hideIt a4
          have A4 := hideIt (A3.out.trans a4)
          have HS2 := hideIt (fun V (hV : After w4 V) => HS2'.out V (A4'.out.trans hV))
          clear a4 d0 d1
          go_upto_region 14 with fail
          refine region_slots (by kernel_rfl) [74, 75, 76, 77, 78, 79, 80, 81, 82, 10] [isV (.slice al L.length cl), isV (.pointer (some ⟨w.heap.size, 0, none⟩)), isV (.slice ac C.length cc), isV (.pointer (some ⟨w.heap.size, 1, none⟩)), isV (.slice (some ⟨tb, toff, none⟩) X.length ct), isV (.int .i64 (F : Int)), isV (.slice (some ⟨tb, toff + F, none⟩) (X.length - F) (ct - F)), isV (.agg #[.slice ac C.length cc, .slice (some ⟨tb, toff + F, none⟩) (X.length - F) (ct - F)]), isV (.string SB), isV (.string SB)] 10 rfl rfl (stable_all (st_cons (isV_st _) (st_cons (isV_st _) (st_cons (isV_st _) (st_cons (isV_st _) (st_cons (isV_st _) (st_cons (isV_st _) (st_cons (isV_st _) (st_cons (isV_st _) (st_cons (isV_st _) (st_cons (isV_st _) (st_nil)))))))))))) rfl rfl ?_ ?_
          · exact ⟨⟨rfl, rfl, (.inl rfl), fun a W9 K hd hb aw hk => wp_move (.inl rfl) (show a.eval (.tmp 0) = .slice al L.length cl from hb 0 rfl) (hk _ _ rfl After.rfl)⟩,
              ⟨rfl, rfl, (.inl rfl), fun a W9 K hd hb aw hk => wp_field rfl (show a.eval (.tmp 4) = Ptr w.heap.size from hb 4 rfl) (fieldP17 _ _ 0 (by decide)) (hk _ _ rfl After.rfl)⟩,
              ⟨rfl, rfl, (.inl rfl), fun a W9 K hd hb aw hk => wp_load rfl (hd 1 rfl) (loadCs (HB.out W9 (A4.out.trans aw)).1) (hk _ _ rfl After.rfl)⟩,
              ⟨rfl, rfl, (.inl rfl), fun a W9 K hd hb aw hk => wp_field rfl (show a.eval (.tmp 4) = Ptr w.heap.size from hb 4 rfl) (fieldP17 _ _ 1 (by decide)) (hk _ _ rfl After.rfl)⟩,
              ⟨rfl, rfl, (.inl rfl), fun a W9 K hd hb aw hk => wp_load rfl (hd 3 rfl) (loadT (HB.out W9 (A4.out.trans aw)).2) (hk _ _ rfl After.rfl)⟩,
              ⟨rfl, rfl, (.inl rfl), fun a W9 K hd hb aw hk => wp_move (.inl rfl) (show a.eval (.tmp 2) = .int .i64 (F : Int) from hb 2 rfl) (hk _ _ rfl After.rfl)⟩,
              ⟨rfl, rfl, (.inl rfl), fun a W9 K hd hb aw hk => wp_sliceFrom rfl (hd 4 rfl) (hd 5 rfl) (sliceF _ _ _ _ _ _ iF iC) (hk _ _ rfl After.rfl)⟩,
              ⟨rfl, rfl, (.inl rfl), fun a W9 K hd hb aw hk => wp_build2 rfl (hd 2 rfl) (hd 6 rfl) (buildP17 _ _ ⟨_, _, _, rfl⟩ ⟨_, _, _, rfl⟩ _) (hk _ _ rfl After.rfl)⟩,
              ⟨rfl, rfl, (.inl rfl), fun a W9 K hd hb aw hk => wp_func2 rfl (enter_of Try.func22 (by kernel_rfl) (by kernel_rfl)) (hd 0 rfl) (hd 7 rfl) ((HS2.out W9 aw).mono (fun e w1 h => ⟨_, h.1, hk _ _ rfl h.2⟩))⟩,
              ⟨rfl, rfl, (.inl rfl), fun a W9 K hd hb aw hk => wp_move (.inr rfl) (hd 8 rfl) (hk _ _ rfl After.rfl)⟩,
              trivial⟩
          intro x9 w9 hx9 aw9
          have t0 : x9 0 = .slice al L.length cl := hx9 0 (Nat.le_of_ble_eq_true rfl)
          have t1 : x9 1 = .pointer (some ⟨w.heap.size, 0, none⟩) := hx9 1 (Nat.le_of_ble_eq_true rfl)
          have t2 : x9 2 = .slice ac C.length cc := hx9 2 (Nat.le_of_ble_eq_true rfl)
          have t3 : x9 3 = .pointer (some ⟨w.heap.size, 1, none⟩) := hx9 3 (Nat.le_of_ble_eq_true rfl)
          have t4 : x9 4 = .slice (some ⟨tb, toff, none⟩) X.length ct := hx9 4 (Nat.le_of_ble_eq_true rfl)
          have t5 : x9 5 = .int .i64 (F : Int) := hx9 5 (Nat.le_of_ble_eq_true rfl)
          have t6 : x9 6 = .slice (some ⟨tb, toff + F, none⟩) (X.length - F) (ct - F) := hx9 6 (Nat.le_of_ble_eq_true rfl)
          have t7 : x9 7 = .agg #[.slice ac C.length cc, .slice (some ⟨tb, toff + F, none⟩) (X.length - F) (ct - F)] := hx9 7 (Nat.le_of_ble_eq_true rfl)
          have t8 : x9 8 = .string SB := hx9 8 (Nat.le_of_ble_eq_true rfl)
          have t9 : x9 9 = .string SB := hx9 9 (Nat.le_of_ble_eq_true rfl)
          simp only [sets, List.getD_cons_succ, List.getD_cons_zero, List.set_cons_succ, List.set_cons_zero, t0, t1, t2, t3, t4, t5, t6, t7, t8, t9]
          clear hx9 t0 t1 t2 t3 t4 t5 t6 t7 t8 t9
          clear x9
          rw [hSB]
          go_wp2_with fail
          go_ret
          exact ⟨rfl, (HW.out.2.trans A4.out).trans aw9⟩
        have HS1 := hideIt (steps_any w3 al cl ac cc (some ⟨tb, toff, none⟩) ct G3.out.n1 G3.out.n2 G3.out.c1 G3.out.c2 G3.out.t1 (by have := HR.out.2; omega) hc HR.out.1)
        have HS2' := hideIt (fun V (hV : After w3 V) => steps_any V al cl ac cc (some ⟨tb, toff + F, none⟩) (ct - F) (G3.out.n1.after hV) G3.out.n2 (G3.out.c1.after hV) G3.out.c2 (HT2.out V hV) (by have := HR.out.2; rw [hX2l]; omega) hc HR2.out)
        rw [hX2l] at HS2'
        clear hX2l
        have HK := hideIt hc
        clear hc
        obtain ⟨f, hf⟩ : ∃ f, f = val L C (rdsOf X) (L.length - 1) := ⟨_, rfl⟩
        have HF := hideIt hf
        rw [← hf] at HS1
        obtain ⟨f2, hf2⟩ : ∃ f, f = val L C (rdsOf X2) (L.length - 1) := ⟨_, rfl⟩
        have HF2 := hideIt hf2
        rw [← hf2] at HS2'
        obtain ⟨B, hB⟩ : ∃ B, bitsOf f X.length = B := ⟨_, rfl⟩
        have HBf := hideIt hB
        rw [hB] at HS1
        have hBs : B.size = X.length := by rw [← hB, bitsOf_size]
        have hBn : B ≠ ⟨#[63]⟩ := by
          rw [← hB]
          obtain ⟨k, hk⟩ : ∃ k, X.length = k + 1 := ⟨X.length - 1, by have := HFX.out; omega⟩
          rw [hk]
          exact bits_no
        obtain ⟨SB, hSB⟩ : ∃ B, bitsOf f2 (X.length - F) = B := ⟨_, rfl⟩
        have HBf2 := hideIt hSB
        rw [hSB] at HS2'
        have hSs : SB.size = X.length - F := by rw [← hSB, bitsOf_size]
        have hBt := bytes_no hBn
        clear hf hf2 hB hSB hBn
        go_wp2_with fail
        refine HS1.out.mono ?_
        rintro e w4 ⟨rfl, a4⟩
        have A4' := hideIt a4
        have A4 := hideIt (A3.out.trans a4)
        have HS2 := hideIt (fun V (hV : After w4 V) => HS2'.out V (A4'.out.trans hV))
        clear a4 d0 d1
        go_upto_region 14 with fail
        refine region_slots (by kernel_rfl) [74, 75, 76, 77, 78, 79, 80, 81, 82, 10] [isV (.slice al L.length cl), isV (.pointer (some ⟨w.heap.size, 0, none⟩)), isV (.slice ac C.length cc), isV (.pointer (some ⟨w.heap.size, 1, none⟩)), isV (.slice (some ⟨tb, toff, none⟩) X.length ct), isV (.int .i64 (F : Int)), isV (.slice (some ⟨tb, toff + F, none⟩) (X.length - F) (ct - F)), isV (.agg #[.slice ac C.length cc, .slice (some ⟨tb, toff + F, none⟩) (X.length - F) (ct - F)]), isV (.string SB), isV (.string SB)] 10 rfl rfl (stable_all (st_cons (isV_st _) (st_cons (isV_st _) (st_cons (isV_st _) (st_cons (isV_st _) (st_cons (isV_st _) (st_cons (isV_st _) (st_cons (isV_st _) (st_cons (isV_st _) (st_cons (isV_st _) (st_cons (isV_st _) (st_nil)))))))))))) rfl rfl ?_ ?_
        · exact ⟨⟨rfl, rfl, (.inl rfl), fun a W9 K hd hb aw hk => wp_move (.inl rfl) (show a.eval (.tmp 0) = .slice al L.length cl from hb 0 rfl) (hk _ _ rfl After.rfl)⟩,
            ⟨rfl, rfl, (.inl rfl), fun a W9 K hd hb aw hk => wp_field rfl (show a.eval (.tmp 4) = Ptr w.heap.size from hb 4 rfl) (fieldP17 _ _ 0 (by decide)) (hk _ _ rfl After.rfl)⟩,
            ⟨rfl, rfl, (.inl rfl), fun a W9 K hd hb aw hk => wp_load rfl (hd 1 rfl) (loadCs (HB.out W9 (A4.out.trans aw)).1) (hk _ _ rfl After.rfl)⟩,
            ⟨rfl, rfl, (.inl rfl), fun a W9 K hd hb aw hk => wp_field rfl (show a.eval (.tmp 4) = Ptr w.heap.size from hb 4 rfl) (fieldP17 _ _ 1 (by decide)) (hk _ _ rfl After.rfl)⟩,
            ⟨rfl, rfl, (.inl rfl), fun a W9 K hd hb aw hk => wp_load rfl (hd 3 rfl) (loadT (HB.out W9 (A4.out.trans aw)).2) (hk _ _ rfl After.rfl)⟩,
            ⟨rfl, rfl, (.inl rfl), fun a W9 K hd hb aw hk => wp_move (.inl rfl) (show a.eval (.tmp 2) = .int .i64 (F : Int) from hb 2 rfl) (hk _ _ rfl After.rfl)⟩,
            ⟨rfl, rfl, (.inl rfl), fun a W9 K hd hb aw hk => wp_sliceFrom rfl (hd 4 rfl) (hd 5 rfl) (sliceF _ _ _ _ _ _ iF iC) (hk _ _ rfl After.rfl)⟩,
            ⟨rfl, rfl, (.inl rfl), fun a W9 K hd hb aw hk => wp_build2 rfl (hd 2 rfl) (hd 6 rfl) (buildP17 _ _ ⟨_, _, _, rfl⟩ ⟨_, _, _, rfl⟩ _) (hk _ _ rfl After.rfl)⟩,
            ⟨rfl, rfl, (.inl rfl), fun a W9 K hd hb aw hk => wp_func2 rfl (enter_of Try.func22 (by kernel_rfl) (by kernel_rfl)) (hd 0 rfl) (hd 7 rfl) ((HS2.out W9 aw).mono (fun e w1 h => ⟨_, h.1, hk _ _ rfl h.2⟩))⟩,
            ⟨rfl, rfl, (.inl rfl), fun a W9 K hd hb aw hk => wp_move (.inr rfl) (hd 8 rfl) (hk _ _ rfl After.rfl)⟩,
            trivial⟩
        intro x9 w9 hx9 aw9
        have t0 : x9 0 = .slice al L.length cl := hx9 0 (Nat.le_of_ble_eq_true rfl)
        have t1 : x9 1 = .pointer (some ⟨w.heap.size, 0, none⟩) := hx9 1 (Nat.le_of_ble_eq_true rfl)
        have t2 : x9 2 = .slice ac C.length cc := hx9 2 (Nat.le_of_ble_eq_true rfl)
        have t3 : x9 3 = .pointer (some ⟨w.heap.size, 1, none⟩) := hx9 3 (Nat.le_of_ble_eq_true rfl)
        have t4 : x9 4 = .slice (some ⟨tb, toff, none⟩) X.length ct := hx9 4 (Nat.le_of_ble_eq_true rfl)
        have t5 : x9 5 = .int .i64 (F : Int) := hx9 5 (Nat.le_of_ble_eq_true rfl)
        have t6 : x9 6 = .slice (some ⟨tb, toff + F, none⟩) (X.length - F) (ct - F) := hx9 6 (Nat.le_of_ble_eq_true rfl)
        have t7 : x9 7 = .agg #[.slice ac C.length cc, .slice (some ⟨tb, toff + F, none⟩) (X.length - F) (ct - F)] := hx9 7 (Nat.le_of_ble_eq_true rfl)
        have t8 : x9 8 = .string SB := hx9 8 (Nat.le_of_ble_eq_true rfl)
        have t9 : x9 9 = .string SB := hx9 9 (Nat.le_of_ble_eq_true rfl)
        simp only [sets, List.getD_cons_succ, List.getD_cons_zero, List.set_cons_succ, List.set_cons_zero, t0, t1, t2, t3, t4, t5, t6, t7, t8, t9]
        clear hx9 t0 t1 t2 t3 t4 t5 t6 t7 t8 t9
        clear x9
        have HA9 := hideIt (A4.out.trans aw9)
        clear aw9 HS1 HS2 HS2' HT2 A4'
        obtain ⟨FL, hFL⟩ : ∃ FL : Nat, (F : Int) + lg = (FL : Int) := ⟨((F : Int) + lg).toNat, by omega⟩
        have HFL := hideIt hFL
        go_wp2_with fail
        go_loopw [11] (fun i wr => ∃ k : Nat, FL ≤ k ∧ (k : Int) ≤ 281474976710656 * 2 ∧ i = .int .i64 (k : Int) ∧ After W1 wr) (fun i _ => X.length - (intOf i).toNat)
        case atStart => exact ⟨FL, Nat.le_refl _, by have := HFL.out; omega, by first | rfl | rw [HFL.out], HA9.out⟩
        case round =>
          obtain ⟨k, hk, hkb, rfl, aw⟩ := hrel
          obtain ⟨d0, d1⟩ := HB.out _ aw
          by_cases hkn : k < X.length
          · have i2 : (k : Int) < (X.length : Int) := by omega
            obtain ⟨KF, hKF⟩ : ∃ KF : Nat, KF = k - F := ⟨_, rfl⟩
            have hFk : F ≤ k := by have := HFL.out; omega
            have i3 : (k : Int) - (F : Int) = (KF : Int) := by omega
            have l1 : k < B.size := by omega
            have l2 : KF < SB.size := by omega
            have q1 := bits_nat HBf.out l1
            have q2 := bits_nat HBf2.out l2
            have hff : f k = f2 KF := by
              obtain ⟨z1, z2, z3, z4, z5⟩ := chk_zero HK.out
              have hws := longS_wsum z5 L.length (Nat.le_refl _)
              have hfl := HFL.out
              have hlg := HLG.out
              rw [HF.out, HF2.out, val_drop z5 HP.out C (rdsOf X) F (L.length - 1) (by omega) k (by rw [show L.length - 1 + 1 = L.length by omega]; omega), hKF, HX2.out.1]
              unfold rdsOf
              rw [List.map_drop]
            rw [← hff] at q2
            have HA := hideIt aw
            have aw' := fun n => aw.draws n
            clear aw hKF hff hFk
            rcases hfj : f k with _ | _
            · rw [hfj] at q1 q2
              simp only [Bool.false_eq_true, if_false] at q1 q2
              clear hfj
              go_upto_region 20 with fail
              go_quiet (fail)
              have aw2 := hideIt (aw' nq)
              clear aw'
              generalize wr.drewN nq = W9 at *
              go_wp2_with fail
              go_roundw
              case rel => exact ⟨k + 1, by omega, by omega, by go_num, aw2.out⟩
              case measure => simp [intOf]; omega
            · rw [hfj] at q1 q2
              simp only [if_true] at q1 q2
              clear hfj
              go_upto_region 20 with fail
              go_quiet (fail)
              have aw2 := hideIt (aw' nq)
              clear aw'
              generalize wr.drewN nq = W9 at *
              go_wp2_with fail
              go_roundw
              case rel => exact ⟨k + 1, by omega, by omega, by go_num, aw2.out⟩
              case measure => simp [intOf]; omega
          · have i2 : ¬ (k : Int) < (X.length : Int) := by omega
            have HA := hideIt aw
            have HI4 : Hid ((((X.length - F : Nat) : Int) == (X.length : Int) - (F : Int)) = true) := hideIt (by have := HFX.out; simp; omega)
            clear aw
            go_wp2_with fail
            go_ret
            exact ⟨ret_bool HI4.out, HW.out.2.trans HA.out⟩
end Go.Proofs.Ythgmjeljjladhaa
