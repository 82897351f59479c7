/-
  The statement NotationKnown, walked.
-/
import Derived.Test.YtlfcihanhfabmaaGreatDoorNtK
namespace Go.Proofs.YtlfcihanhfabmaaGreatDoor
open Go.RowKit
set_option maxRecDepth 8000
open L1 (S)
set_option maxHeartbeats 16000000 in
theorem law_known (w : World) (hl : Laid w) : Calls Tryz.prog 8 #[] w fun e w' => e = .returned (.bool true) ∧ After w w' := by
  have HL := hideIt hl
  have HA0 := hideIt (After.rfl (w := w))
  have HM33 := hideIt makeN33
  clear hl
  have ev0 : ((S [63]).toList == [63]) = true := by rw [eq_L]; rfl
  have ev1 : ((S [116, 114, 117, 101, 32, 97, 110, 100, 32, 116, 114, 117, 101, 32, 97, 110, 100, 32, 40, 116, 114, 117, 101, 32, 97, 110, 100, 32, 116, 114, 117, 101, 41]).toList == [116, 114, 117, 101, 32, 97, 110, 100, 32, 116, 114, 117, 101, 32, 97, 110, 100, 32, 40, 116, 114, 117, 101, 32, 97, 110, 100, 32, 116, 114, 117, 101, 41]) = true := by rw [eq_L]; rfl
  have ev2 : ((S [110, 111, 116, 32, 40, 40, 116, 114, 117, 101, 32, 111, 114, 32, 116, 114, 117, 101, 32, 111, 114, 32, 40, 116, 114, 117, 101, 32, 111, 114, 32, 116, 114, 117, 101, 41, 41, 32, 115, 105, 110, 99, 101, 32, 116, 114, 117, 101, 41]).toList == [110, 111, 116, 32, 40, 40, 116, 114, 117, 101, 32, 111, 114, 32, 116, 114, 117, 101, 32, 111, 114, 32, 40, 116, 114, 117, 101, 32, 111, 114, 32, 116, 114, 117, 101, 41, 41, 32, 115, 105, 110, 99, 101, 32, 116, 114, 117, 101, 41]) = true := by rw [eq_L]; rfl
  have ev3 : ((S [112, 114, 101, 118, 32, 104, 105, 115, 116, 32, 49, 48, 32, 99, 52, 32, 107, 110, 111, 119, 110]).toList == [112, 114, 101, 118, 32, 104, 105, 115, 116, 32, 49, 48, 32, 99, 52, 32, 107, 110, 111, 119, 110]) = true := by rw [eq_L]; rfl
  go_enter Tryz.func8, Tryz.ntmps8
  go_wp2_with fail
  refine (reads_yes kr0 _ (HL.out.on (HA0.out.alloc _)) (by decide) _ 6 (lit_row (heap_alloc_new w _) rfl rfl) (by decide)).mono ?_
  rintro e w1 ⟨rfl, a9⟩
  have HA1 := hideIt ((HA0.out.alloc _).trans a9)
  clear a9 HA0
  go_wp2_with fail
  refine (reads_yes kr1 _ (HL.out.on (HA1.out.alloc _)) (by decide) _ 5 (lit_row (heap_alloc_new w1 _) rfl rfl) (by decide)).mono ?_
  rintro e w2 ⟨rfl, a9⟩
  have HA2 := hideIt ((HA1.out.alloc _).trans a9)
  clear a9 HA1
  go_wp2_with fail
  refine (reads_yes kr2 _ (HL.out.on (HA2.out.alloc _)) (by decide) _ 5 (lit_row (heap_alloc_new w2 _) rfl rfl) (by decide)).mono ?_
  rintro e w3 ⟨rfl, a9⟩
  have HA3 := hideIt ((HA2.out.alloc _).trans a9)
  clear a9 HA2
  go_wp2_with fail
  refine (reads_yes kr3 _ (HL.out.on (HA3.out.alloc _)) (by decide) _ 1 (lit_row (heap_alloc_new w3 _) rfl rfl) (by decide)).mono ?_
  rintro e w4 ⟨rfl, a9⟩
  have HA4 := hideIt ((HA3.out.alloc _).trans a9)
  clear a9 HA3
  go_wp2_with fail
  refine (reads_yes kr4 _ (HL.out.on (HA4.out.alloc _)) (by decide) _ 3 (lit_row (heap_alloc_new w4 _) rfl rfl) (by decide)).mono ?_
  rintro e w5 ⟨rfl, a9⟩
  have HA5 := hideIt ((HA4.out.alloc _).trans a9)
  clear a9 HA4
  go_wp2_with fail
  refine (reads_yes kr5 _ (HL.out.on (HA5.out.alloc _)) (by decide) _ 2 (lit_row (heap_alloc_new w5 _) rfl rfl) (by decide)).mono ?_
  rintro e w6 ⟨rfl, a9⟩
  have HA6 := hideIt ((HA5.out.alloc _).trans a9)
  clear a9 HA5
  go_wp2_with fail
  refine (wrong_yes kw0 _ (HL.out.on HA6.out) (by decide)).mono ?_
  rintro e w7 ⟨rfl, a9⟩
  have HA7 := hideIt (HA6.out.trans a9)
  clear a9 HA6
  go_wp2_with fail
  refine (wrong_yes kw1 _ (HL.out.on HA7.out) (by decide)).mono ?_
  rintro e w8 ⟨rfl, a9⟩
  have HA8 := hideIt (HA7.out.trans a9)
  clear a9 HA7
  go_wp2_with fail
  refine (wrong_yes kw2 _ (HL.out.on HA8.out) (by decide)).mono ?_
  rintro e w9 ⟨rfl, a9⟩
  have HA9 := hideIt (HA8.out.trans a9)
  clear a9 HA8
  go_wp2_with fail
  refine (wrong_yes kw3 _ (HL.out.on HA9.out) (by decide)).mono ?_
  rintro e w10 ⟨rfl, a9⟩
  have HA10 := hideIt (HA9.out.trans a9)
  clear a9 HA9
  go_wp2_with fail
  refine (wrong_yes kw4 _ (HL.out.on HA10.out) (by decide)).mono ?_
  rintro e w11 ⟨rfl, a9⟩
  have HA11 := hideIt (HA10.out.trans a9)
  clear a9 HA10
  go_wp2_with fail
  refine (wrong_yes kw5 _ (HL.out.on HA11.out) (by decide)).mono ?_
  rintro e w12 ⟨rfl, a9⟩
  have HA12 := hideIt (HA11.out.trans a9)
  clear a9 HA11
  go_wp2_with fail
  refine (wrong_yes kw6 _ (HL.out.on HA12.out) (by decide)).mono ?_
  rintro e w13 ⟨rfl, a9⟩
  have HA13 := hideIt (HA12.out.trans a9)
  clear a9 HA12
  go_wp2_with fail
  refine (wrong_yes kw7 _ (HL.out.on HA13.out) (by decide)).mono ?_
  rintro e w14 ⟨rfl, a9⟩
  have HA14 := hideIt (HA13.out.trans a9)
  clear a9 HA13
  go_wp2_with fail
  refine (wrong_yes kw8 _ (HL.out.on HA14.out) (by decide)).mono ?_
  rintro e w15 ⟨rfl, a9⟩
  have HA15 := hideIt (HA14.out.trans a9)
  clear a9 HA14
  go_wp2_with fail
  refine (wrong_yes kw9 _ (HL.out.on HA15.out) (by decide)).mono ?_
  rintro e w16 ⟨rfl, a9⟩
  have HA16 := hideIt (HA15.out.trans a9)
  clear a9 HA15
  go_wp2_with fail
  refine (wrong_yes kw10 _ (HL.out.on HA16.out) (by decide)).mono ?_
  rintro e w17 ⟨rfl, a9⟩
  have HA17 := hideIt (HA16.out.trans a9)
  clear a9 HA16
  go_wp2_with fail
  refine (wrong_yes kw11 _ (HL.out.on HA17.out) (by decide)).mono ?_
  rintro e w18 ⟨rfl, a9⟩
  have HA18 := hideIt (HA17.out.trans a9)
  clear a9 HA17
  go_wp2_with fail
  refine (wrong_yes kw12 _ (HL.out.on HA18.out) (by decide)).mono ?_
  rintro e w19 ⟨rfl, a9⟩
  have HA19 := hideIt (HA18.out.trans a9)
  clear a9 HA18
  go_wp2_with fail
  refine (wrong_yes kw13 _ (HL.out.on HA19.out) (by decide)).mono ?_
  rintro e w20 ⟨rfl, a9⟩
  have HA20 := hideIt (HA19.out.trans a9)
  clear a9 HA19
  go_wp2_with fail
  refine (wrong_yes kw14 _ (HL.out.on HA20.out) (by decide)).mono ?_
  rintro e w21 ⟨rfl, a9⟩
  have HA21 := hideIt (HA20.out.trans a9)
  clear a9 HA20
  go_wp2_with fail
  refine (wrong_yes kw15 _ (HL.out.on HA21.out) (by decide)).mono ?_
  rintro e w22 ⟨rfl, a9⟩
  have HA22 := hideIt (HA21.out.trans a9)
  clear a9 HA21
  go_wp2_with fail
  refine (wrong_yes kw16 _ (HL.out.on HA22.out) (by decide)).mono ?_
  rintro e w23 ⟨rfl, a9⟩
  have HA23 := hideIt (HA22.out.trans a9)
  clear a9 HA22
  go_wp2_with fail
  refine (wrong_yes kw17 _ (HL.out.on HA23.out) (by decide)).mono ?_
  rintro e w24 ⟨rfl, a9⟩
  have HA24 := hideIt (HA23.out.trans a9)
  clear a9 HA23
  go_wp2_with fail
  refine (wrong_yes kw18 _ (HL.out.on HA24.out) (by decide)).mono ?_
  rintro e w25 ⟨rfl, a9⟩
  have HA25 := hideIt (HA24.out.trans a9)
  clear a9 HA24
  go_wp2_with fail
  refine (wrong_yes kw19 _ (HL.out.on HA25.out) (by decide)).mono ?_
  rintro e w26 ⟨rfl, a9⟩
  have HA26 := hideIt (HA25.out.trans a9)
  clear a9 HA25
  go_wp2_with fail
  refine (says_no kt0 _ (HL.out.on HA26.out) none 0 (GRow.nil ndE _ _)).mono ?_
  rintro e w27 ⟨rfl, a9⟩
  have HA27 := hideIt (HA26.out.trans a9)
  clear a9 HA26
  go_wp2_with fail
  refine (says_yes kt1 _ (HL.out.on (HA27.out.alloc _)) _ 3 (lit_row (heap_alloc_new w27 _) rfl rfl)).mono ?_
  rw [kv1]
  rintro e w28 ⟨rfl, a9⟩
  have HA28 := hideIt ((HA27.out.alloc _).trans a9)
  clear a9 HA27
  go_wp2_with fail
  refine (says_yes kt2 _ (HL.out.on (HA28.out.alloc _)) _ 5 (lit_row (heap_alloc_new w28 _) rfl rfl)).mono ?_
  rw [kv2]
  rintro e w29 ⟨rfl, a9⟩
  have HA29 := hideIt ((HA28.out.alloc _).trans a9)
  clear a9 HA28
  go_wp2_with fail
  refine (says_yes kt3 _ (HL.out.on (HA29.out.alloc _)) _ 3 (lit_row (heap_alloc_new w29 _) rfl rfl)).mono ?_
  rw [kv3]
  rintro e w30 ⟨rfl, a9⟩
  have HA30 := hideIt ((HA29.out.alloc _).trans a9)
  clear a9 HA29
  go_wp2_with (at_builtin; refine app_row (E := ndE) rfl (.tmp 153) (.tmp 155) 22 33 Tryz.underlying22 Tryz.infoNode rfl (by decide) rfl w.heap.size _ [] rfl (orow_nil ndE _ _ _) (some ⟨w30.heap.size, 0, none⟩) 1 1 [⟨0, 0, 0, 0⟩] rfl (lit_row (heap_alloc_new w30 _) rfl rfl) (fun h => by cases h) (by unfold maxLen; simp) (by simp) (by have := HA30.out.size; simp; omega) ?_; intro v5 w5x hown hb; have HO := hideIt (And.intro hown (show After w w5x from (HA30.out.alloc _).then hb (fun i hi h => by cases h))); clear hown hb HA30)
  go_loopw [4, 5] (fun v i wr => ∃ j : Nat, 1 ≤ j ∧ j ≤ 32 ∧ i = .int .i64 (j : Int) ∧ ORow ndE 33 wr w.heap.size v (tower j) ∧ After w wr) (fun _ i _ => 32 - (intOf i).toNat)
  case atStart => exact ⟨1, by omega, by omega, rfl, HO.out.1, HO.out.2⟩
  case round =>
    rename_i v4
    obtain ⟨j, hj1, hj, rfl, hown, aw⟩ := hrel
    have HS := hideIt (And.intro hown aw)
    have HJ1 := hideIt hj1
    by_cases hj32 : j < 32
    · have i1 : (j : Int) < 32 := by omega
      have i2 : (1 : Int) ≤ (j : Int) := by omega
      obtain ⟨z, hz⟩ : ∃ z : Int, z = (j : Int) - 1 := ⟨_, rfl⟩
      have e1 : (j : Int) - 1 = z := hz.symm
      have z1 : 0 ≤ z := by omega
      have z2 : z ≤ 32 := by omega
      have HZ := hideIt hz
      clear hown aw hj hj1 hz
      go_wp2_with (at_builtin; refine app_row (E := ndE) rfl (.tmp 161) (.tmp 167) 22 33 Tryz.underlying22 Tryz.infoNode rfl (by decide) rfl w.heap.size _ (tower j) rfl (own_after HS.out.1 (After.rfl.alloc _)) (some ⟨wr.heap.size, 0, none⟩) 1 1 [⟨7, z, z, 0⟩] rfl (lit_row (heap_alloc_new wr _) rfl rfl) (fun h => by cases h) (by rw [tower_len]; unfold maxLen; omega) (by rw [tower_len]; omega) (by have := HS.out.2.size; simp; omega) ?_; intro v9 w9 hown hb; have HP := hideIt (And.intro hown hb); clear hown hb)
      go_roundw
      case rel =>
        refine ⟨j + 1, by omega, by omega, by go_num, ?_, (HS.out.2.alloc _).then HP.out.2 (fun i hi h => by have := (HS.out.1.lt i h).1; omega)⟩
        have e : tower (j + 1) = tower j ++ [⟨7, z, z, 0⟩] := by
          show tower j ++ [if j = 0 then _ else _] = _
          rw [if_neg (by have := HJ1.out; omega), ← HZ.out]
        rw [e]
        exact HP.out.1
      case measure => simp [intOf]; omega
    · have i1 : ¬ (j : Int) < 32 := by omega
      obtain rfl : j = 32 := by omega
      obtain ⟨at4, ct4, rfl, hg, -, -⟩ := ORow.row hown
      have hg32 : NRow wr at4 32 (tower 32) := hg
      have HAW := hideIt (And.intro hg32 aw)
      have HTw : Hid (∀ W, Laid W → NRow W at4 32 (tower 32) → Calls Tryz.prog 10 #[.slice at4 32 ct4] W fun e w' => e = .returned (.tuple #[.string (S (textV (tower 32))), .int .i64 5]) ∧ After W w') := hideIt (fun W hW hr => by
        have := textA_any (tower 32) W hW at4 ct4 hr
        rw [kt_tower] at this
        exact this)
      have HMn : Hid (∀ W a, Laid W → NRow W a 33 (List.replicate 33 Nd.none) → Calls Tryz.prog 10 #[.slice a 33 33] W fun e w' => e = .returned (.tuple #[.string (S (textV (List.replicate 33 Nd.none))), .int .i64 6]) ∧ After W w') := hideIt (fun W a hW hr => by
        have := textA_any (List.replicate 33 Nd.none) W hW a 33 hr
        rw [kt_many] at this
        exact this)
      generalize textV (tower 32) = VT at *
      generalize textV (List.replicate 33 Nd.none) = VM at *
      clear hown aw hj hj1 hg hg32 hj32
      have hmk := HM33.out
      go_wp2_with fail
      refine (HTw.out _ (HL.out.on HAW.out.2) HAW.out.1).mono ?_
      rintro e x1 ⟨rfl, a9⟩
      have HB1 := hideIt (HAW.out.2.trans a9)
      clear a9
      go_wp2_with fail
      refine (rep_any [110, 111, 116, 32] 32 _ (by omega) (by simp)).mono ?_
      rintro e x2 ⟨rfl, a9⟩
      have HB2 := hideIt (HB1.out.trans a9)
      clear a9 HB1
      have q1 : S (rp [110, 111, 116, 32] 32) ++ (⟨#[116, 114, 117, 101]⟩ : ByteArray) = S (rp [110, 111, 116, 32] 32 ++ [116, 114, 117, 101]) := L1.S_cat _ _
      have q1z : (S (rp [110, 111, 116, 32] 32)).size ≤ 128 := by rw [L1.S_size]; exact Nat.le_of_ble_eq_true (by kernel_rfl)
      go_wp2_with fail
      refine (parse_slice (rp [110, 111, 116, 32] 32 ++ [116, 114, 117, 101]) _ (HL.out.on HB2.out) (by unfold maxLen; exact Nat.le_of_ble_eq_true (by kernel_rfl))).mono ?_
      rintro e x3 ⟨pa2, pc2, rfl, -, -, a9⟩
      have HB3 := hideIt (HB2.out.trans a9)
      clear a9 HB2
      rw [kp_many.1, kp_many.2]
      obtain ⟨pn3, hpn3⟩ : ∃ p, p = (parseA (rp [110, 111, 116, 32] 32 ++ [116, 114, 117, 101])).ns.length := ⟨_, rfl⟩
      rw [← hpn3]
      clear hpn3
      go_wp2_with fail
      refine (rep_any [32] 1025 _ (by omega) (by simp)).mono ?_
      rintro e x4 ⟨rfl, a9⟩
      have HB4 := hideIt (HB3.out.trans a9)
      clear a9 HB3
      go_wp2_with fail
      refine (parse_slice (rp [32] 1025) _ (HL.out.on HB4.out) (by unfold maxLen; exact Nat.le_of_ble_eq_true (by kernel_rfl))).mono ?_
      rintro e x5 ⟨pa4, pc4, rfl, -, -, a9⟩
      have HB5 := hideIt (HB4.out.trans a9)
      clear a9 HB4
      rw [kp_limit.1, kp_limit.2]
      obtain ⟨pn5, hpn5⟩ : ∃ p, p = (parseA (rp [32] 1025)).ns.length := ⟨_, rfl⟩
      rw [← hpn5]
      clear hpn5
      go_wp2_with (simp only [])
      refine (HMn.out _ _ (HL.out.on (HB5.out.alloc _)) (rowN33 x5)).mono ?_
      rintro e x6 ⟨rfl, a9⟩
      have HB6 := hideIt ((HB5.out.alloc _).trans a9)
      clear a9 HB5
      go_wp2_with fail
      refine (rep_any [110, 111, 116, 32] 31 _ (by omega) (by simp)).mono ?_
      rintro e x7 ⟨rfl, a9⟩
      have HB7 := hideIt (HB6.out.trans a9)
      clear a9 HB6
      have q2 : S (rp [110, 111, 116, 32] 31) ++ (⟨#[116, 114, 117, 101]⟩ : ByteArray) = S (rp [110, 111, 116, 32] 31 ++ [116, 114, 117, 101]) := L1.S_cat _ _
      have q2z : (S (rp [110, 111, 116, 32] 31)).size ≤ 124 := by rw [L1.S_size]; exact Nat.le_of_ble_eq_true (by kernel_rfl)
      go_wp2_with fail
      refine (parse_slice (rp [110, 111, 116, 32] 31 ++ [116, 114, 117, 101]) _ (HL.out.on HB7.out) (by unfold maxLen; exact Nat.le_of_ble_eq_true (by kernel_rfl))).mono ?_
      rintro e x8 ⟨pa7, pc7, rfl, -, -, a9⟩
      have HB8 := hideIt (HB7.out.trans a9)
      clear a9 HB7
      obtain ⟨pl8, hpl8⟩ : ∃ p, p = (parseA (rp [110, 111, 116, 32] 31 ++ [116, 114, 117, 101])).at_ := ⟨_, rfl⟩
      rw [← hpl8, kp_fits]
      clear hpl8
      obtain ⟨pn8, hpn8⟩ : ∃ p, p = (parseA (rp [110, 111, 116, 32] 31 ++ [116, 114, 117, 101])).ns.length := ⟨_, rfl⟩
      rw [← hpn8]
      clear hpn8
      go_wp2_with fail
      refine (rep_any [40] 32 _ (by omega) (by simp)).mono ?_
      rintro e x9 ⟨rfl, a9⟩
      have HB9 := hideIt (HB8.out.trans a9)
      clear a9 HB8
      have q3 : S (rp [40] 32) ++ (⟨#[116, 114, 117, 101]⟩ : ByteArray) = S (rp [40] 32 ++ [116, 114, 117, 101]) := L1.S_cat _ _
      have q3z : (S (rp [40] 32)).size ≤ 32 := by rw [L1.S_size]; exact Nat.le_of_ble_eq_true (by kernel_rfl)
      go_wp2_with fail
      refine (rep_any [41] 32 _ (by omega) (by simp)).mono ?_
      rintro e x10 ⟨rfl, a9⟩
      have HB10 := hideIt (HB9.out.trans a9)
      clear a9 HB9
      have q4 : S (rp [40] 32 ++ [116, 114, 117, 101]) ++ S (rp [41] 32) = S (deepT) := L1.S_cat _ _
      have q4z : (S (rp [40] 32 ++ [116, 114, 117, 101])).size ≤ 36 := by rw [L1.S_size]; exact Nat.le_of_ble_eq_true (by kernel_rfl)
      have q5z : (S (rp [41] 32)).size ≤ 32 := by rw [L1.S_size]; exact Nat.le_of_ble_eq_true (by kernel_rfl)
      go_wp2_with fail
      refine (parse_slice (deepT) _ (HL.out.on HB10.out) (by unfold maxLen; exact Nat.le_of_ble_eq_true (by kernel_rfl))).mono ?_
      rintro e x11 ⟨pa10, pc10, rfl, -, -, a9⟩
      have HB11 := hideIt (HB10.out.trans a9)
      clear a9 HB10
      obtain ⟨pl11, hpl11⟩ : ∃ p, p = (parseA (deepT)).at_ := ⟨_, rfl⟩
      rw [← hpl11, kp_deep]
      clear hpl11
      obtain ⟨pn11, hpn11⟩ : ∃ p, p = (parseA (deepT)).ns.length := ⟨_, rfl⟩
      rw [← hpn11]
      clear hpn11
      go_wp2_with fail
      refine (rep_any [40] 33 _ (by omega) (by simp)).mono ?_
      rintro e x12 ⟨rfl, a9⟩
      have HB12 := hideIt (HB11.out.trans a9)
      clear a9 HB11
      have q6 : S (rp [40] 33) ++ (⟨#[116, 114, 117, 101]⟩ : ByteArray) = S (rp [40] 33 ++ [116, 114, 117, 101]) := L1.S_cat _ _
      have q6z : (S (rp [40] 33)).size ≤ 33 := by rw [L1.S_size]; exact Nat.le_of_ble_eq_true (by kernel_rfl)
      go_wp2_with fail
      refine (wrong_yes kp_wrong1 _ (HL.out.on HB12.out) (Nat.le_of_ble_eq_true (by kernel_rfl))).mono ?_
      rintro e x13 ⟨rfl, a9⟩
      have HB13 := hideIt (HB12.out.trans a9)
      clear a9 HB12
      go_wp2_with fail
      refine (rep_any [32] 1024 _ (by omega) (by simp)).mono ?_
      rintro e x14 ⟨rfl, a9⟩
      have HB14 := hideIt (HB13.out.trans a9)
      clear a9 HB13
      go_wp2_with fail
      refine (wrong_yes kp_wrong2 _ (HL.out.on HB14.out) (Nat.le_of_ble_eq_true (by kernel_rfl))).mono ?_
      rintro e x15 ⟨rfl, a9⟩
      have HB15 := hideIt (HB14.out.trans a9)
      clear a9 HB14
      go_wp2_with fail
      refine (works_any _ (HL.out.on HB15.out)).mono ?_
      rintro e x16 ⟨rfl, a9⟩
      have HB16 := hideIt (HB15.out.trans a9)
      clear a9 HB15
      go_wp2
      go_ret
      exact ⟨rfl, HB16.out⟩
end Go.Proofs.YtlfcihanhfabmaaGreatDoor
