/-
  The walk of MderSame.
-/
import Derived.Test.YtojgkhinddjmaaaRds
import Derived.Test.YtojgkhinddjmaaaPureB
namespace Go.Proofs.Ytojgkhinddjmaaa
open Go.RowKit
set_option maxRecDepth 100000 in
set_option maxHeartbeats 4000000 in
theorem same_walk (a : Option Addr) (n c : Nat) (bs : List Int) (a' : Option Addr) (n' c' : Nat) (ls : List Int) (w : World) (hr : Row w a n bs) (ha : a = none → n = 0 ∧ c = 0) (hn : n ≤ 140737488355328) (hc : n ≤ c) (hl : RowI w a' n' ls) (hn' : n' ≤ 140737488355328) :
    Calls Try.prog 6 #[.slice a n c, .slice a' n' c'] w fun e w' => e = .returned (.bool true) ∧ After w w' := by
  have HR := hideIt hr
  have HA := hideIt ha
  have HN := hideIt hn
  have HI := hideIt hl
  have hn2 : (n : Int) ≤ 140737488355328 := by omega
  have hn3 : (n' : Int) ≤ 140737488355328 := by omega
  have hnc : (n : Int) ≤ (c : Int) := by omega
  clear hr ha hn hl hn' hc
  go_enter Try.func6, Try.ntmps6
  go_wp2_with fail
  refine (awake_any _).mono ?_
  rintro e w1 ⟨rfl, a1⟩
  have A1 := hideIt a1
  clear a1
  go_wp2_with fail
  refine (new_any _ _ _ _ _ (HR.out.after A1.out) HA.out HN.out).mono ?_
  rintro e w2 ⟨g, h, rfl, r2, l1, l2, a2⟩
  have R2 := hideIt r2
  have A2 := hideIt a2
  have L2 := hideIt (show w.heap.size ≤ g ∧ w.heap.size ≤ h by have := A1.out.size; omega)
  clear r2 l1 l2 a2
  go_wp2_with fail
  refine (write_any _).mono ?_
  rintro e w3 ⟨rfl, q3, a3⟩
  have P3 := hideIt (Pair.new R2.out (A1.out.trans A2.out) L2.out.1 L2.out.2 a3 q3)
  obtain ⟨k, hk⟩ : ∃ k, w2.heap.size = k := ⟨_, rfl⟩
  rw [hk] at P3 ⊢
  clear q3 a3 R2 A1 A2 hk L2
  go_wp2_with fail
  go_loopw [7] (fun i W => ∃ (m : Nat) (zs ys : List Int) (v : Value), m ≤ n' ∧ m ≤ 100 ∧ i = .int .i64 m ∧ Pair w W g h zs k v ys ∧ ys ++ zs = bs ∧ ys.length ≤ capOf m) (fun i _ => n' - (intOf i).toNat)
  case atStart => exact ⟨0, bs, [], _, by omega, by omega, rfl, P3.out, rfl, Nat.zero_le _⟩
  case round =>
    obtain ⟨m, zs, ys, v, hm, hm2, rfl, hp, he, hy⟩ := hrel
    have P5 := hideIt hp
    have HE := hideIt he
    have HY := hideIt hy
    have hzl : (zs.length : Int) ≤ 140737488355328 := by have := hp.rd.len; omega
    clear hp P3 he hy
    by_cases hlt : m < n' ∧ m < 100
    · obtain ⟨b, off, rfl, hbl, hc, h1, h2⟩ := HI.out m hlt.1
      have hcl : wr.cell? ⟨b, off + m, none⟩ = some (.int .i64 (ls.getD m 0)) := by rw [P5.out.aft.cell hbl]; exact hc
      have i1 : (m : Int) < n' := by omega
      have i2 : (m : Int) < 100 := by omega
      obtain ⟨y, hy⟩ : ∃ y, ls.getD m 0 = y := ⟨_, rfl⟩
      rw [hy] at hcl h1 h2
      have HYY := hideIt (And.intro h1 h2)
      have HB := hideIt P5.out.rd.bs
      have HL := hideIt (capOf_low hm2 HY.out)
      clear hc h1 h2 hy HI hlt
      go_wp2_with fail
      refine (left_any _ _ _ _ P5.out.rd).mono ?_
      rintro e wl ⟨rfl, rfl⟩
      go_wp2_with fail
      refine (bring_any y _ HYY.out.1 HYY.out.2).mono ?_
      rintro e wq ⟨rfl, rfl⟩
      have hkd := kindOf_lt y
      obtain ⟨kd, hkd2⟩ : ∃ kd, kindOf y = kd := ⟨_, rfl⟩
      rw [hkd2] at hkd ⊢
      clear hkd2 HYY hcl
      have h4 : kd = 0 ∨ kd = 1 ∨ kd = 2 ∨ kd = 3 := by omega
      clear hkd
      rcases h4 with rfl | rfl | rfl | rfl
      · go_wp2_with fail
        refine (u8_any _ _ _ _ P5.out.rd).mono ?_
        rintro e w5 ⟨rfl, r5, b5⟩
        have P6 := hideIt (P5.out.read r5 b5)
        clear r5 b5 P5
        by_cases hz : 1 ≤ zs.length
        · rw [rdVal_yes hz, rdErr_yes hz]
          rw [rdRest_yes hz] at P6
          obtain ⟨e1, st⟩ := step1 HB.out hz HE.out
          have E1 := hideIt e1
          have ST := hideIt st
          clear e1 st
          obtain ⟨us, hus⟩ : ∃ us, ys ++ wnNew 1 255 (be (zs.take 1)) = us := ⟨_, rfl⟩
          obtain ⟨xs, hxs⟩ : ∃ xs, zs.drop 1 = xs := ⟨_, rfl⟩
          rw [hxs] at P6
          rw [hus, hxs] at ST
          have HUS := hideIt hus
          clear hus hxs hz
          generalize be (zs.take 1) = va at *
          go_wp2_with fail
          refine (wU8_any _ _ _ _ _ P6.out.wr (by have := HL.out; omega)).mono ?_
          rintro e w7 ⟨rfl, t7⟩
          rw [E1.out]
          obtain ⟨v7, p7⟩ := P6.out.write t7
          rw [HUS.out] at p7
          have P7 := hideIt p7
          clear p7 t7 P6 HUS
          go_wp2_with fail
          refine (left_any _ _ _ _ P7.out.rd).mono ?_
          rintro e w8 ⟨rfl, rfl⟩
          obtain ⟨u1, u2, u3⟩ := ST.out
          have HU1 := hideIt u1
          have HU2 := hideIt u2
          have i3 : ((xs.length : Nat) : Int) < ((zs.length : Nat) : Int) := by omega
          have i4 : decide (((zs.length : Nat) : Int) ≤ ((xs.length : Nat) : Int)) = false := by rw [decide_eq_false_iff_not]; omega
          clear u1 u2 u3 ST
          go_wp2
          go_roundw
          case rel => exact ⟨m + 1, xs, us, v7, by omega, by omega, by go_num, P7.out, HU1.out, capOf_next HU2.out HY.out⟩
          case measure => simp [intOf]; omega
        · rw [rdVal_no hz, rdErr_no hz]
          rw [rdRest_no hz] at P6
          clear hz
          go_wp2_with fail
          refine (left_any _ _ _ _ P6.out.rd).mono ?_
          rintro e w8 ⟨rfl, rfl⟩
          go_wp2
          go_roundw
          case rel => exact ⟨m + 1, zs, ys, v, by omega, by omega, by go_num, P6.out, HE.out, capOf_stay HY.out⟩
          case measure => simp [intOf]; omega
      · go_wp2_with fail
        refine (u16_any _ _ _ _ P5.out.rd).mono ?_
        rintro e w5 ⟨rfl, r5, b5⟩
        have P6 := hideIt (P5.out.read r5 b5)
        clear r5 b5 P5
        by_cases hz : 2 ≤ zs.length
        · rw [rdVal_yes hz, rdErr_yes hz]
          rw [rdRest_yes hz] at P6
          obtain ⟨e1, st⟩ := step2 HB.out hz HE.out
          have E1 := hideIt e1
          have ST := hideIt st
          clear e1 st
          obtain ⟨us, hus⟩ : ∃ us, ys ++ wnNew 2 65535 (be (zs.take 2)) = us := ⟨_, rfl⟩
          obtain ⟨xs, hxs⟩ : ∃ xs, zs.drop 2 = xs := ⟨_, rfl⟩
          rw [hxs] at P6
          rw [hus, hxs] at ST
          have HUS := hideIt hus
          clear hus hxs hz
          generalize be (zs.take 2) = va at *
          go_wp2_with fail
          refine (wU16_any _ _ _ _ _ P6.out.wr (by have := HL.out; omega)).mono ?_
          rintro e w7 ⟨rfl, t7⟩
          rw [E1.out]
          obtain ⟨v7, p7⟩ := P6.out.write t7
          rw [HUS.out] at p7
          have P7 := hideIt p7
          clear p7 t7 P6 HUS
          go_wp2_with fail
          refine (left_any _ _ _ _ P7.out.rd).mono ?_
          rintro e w8 ⟨rfl, rfl⟩
          obtain ⟨u1, u2, u3⟩ := ST.out
          have HU1 := hideIt u1
          have HU2 := hideIt u2
          have i3 : ((xs.length : Nat) : Int) < ((zs.length : Nat) : Int) := by omega
          have i4 : decide (((zs.length : Nat) : Int) ≤ ((xs.length : Nat) : Int)) = false := by rw [decide_eq_false_iff_not]; omega
          clear u1 u2 u3 ST
          go_wp2
          go_roundw
          case rel => exact ⟨m + 1, xs, us, v7, by omega, by omega, by go_num, P7.out, HU1.out, capOf_next HU2.out HY.out⟩
          case measure => simp [intOf]; omega
        · rw [rdVal_no hz, rdErr_no hz]
          rw [rdRest_no hz] at P6
          clear hz
          go_wp2_with fail
          refine (left_any _ _ _ _ P6.out.rd).mono ?_
          rintro e w8 ⟨rfl, rfl⟩
          go_wp2
          go_roundw
          case rel => exact ⟨m + 1, zs, ys, v, by omega, by omega, by go_num, P6.out, HE.out, capOf_stay HY.out⟩
          case measure => simp [intOf]; omega
      · go_wp2_with fail
        refine (u32_any _ _ _ _ P5.out.rd).mono ?_
        rintro e w5 ⟨rfl, r5, b5⟩
        have P6 := hideIt (P5.out.read r5 b5)
        clear r5 b5 P5
        by_cases hz : 4 ≤ zs.length
        · rw [rdVal_yes hz, rdErr_yes hz]
          rw [rdRest_yes hz] at P6
          have ST := hideIt (step4 HB.out hz HE.out)
          have HV := hideIt (be_bound4 HB.out hz)
          obtain ⟨us, hus⟩ : ∃ us, ys ++ bytesOf 4 (be (zs.take 4)) = us := ⟨_, rfl⟩
          obtain ⟨xs, hxs⟩ : ∃ xs, zs.drop 4 = xs := ⟨_, rfl⟩
          rw [hxs] at P6
          rw [hus, hxs] at ST
          have HUS := hideIt hus
          clear hus hxs hz
          generalize be (zs.take 4) = va at *
          go_wp2_with fail
          refine (wU32_any _ _ _ _ _ P6.out.wr (by have := HL.out; omega) HV.out.1 HV.out.2).mono ?_
          rintro e w7 ⟨rfl, t7⟩
          obtain ⟨v7, p7⟩ := P6.out.write t7
          rw [HUS.out] at p7
          have P7 := hideIt p7
          clear p7 t7 P6 HUS
          go_wp2_with fail
          refine (left_any _ _ _ _ P7.out.rd).mono ?_
          rintro e w8 ⟨rfl, rfl⟩
          obtain ⟨u1, u2, u3⟩ := ST.out
          have HU1 := hideIt u1
          have HU2 := hideIt u2
          have i3 : ((xs.length : Nat) : Int) < ((zs.length : Nat) : Int) := by omega
          have i4 : decide (((zs.length : Nat) : Int) ≤ ((xs.length : Nat) : Int)) = false := by rw [decide_eq_false_iff_not]; omega
          clear u1 u2 u3 ST
          go_wp2
          go_roundw
          case rel => exact ⟨m + 1, xs, us, v7, by omega, by omega, by go_num, P7.out, HU1.out, capOf_next HU2.out HY.out⟩
          case measure => simp [intOf]; omega
        · rw [rdVal_no hz, rdErr_no hz]
          rw [rdRest_no hz] at P6
          clear hz
          go_wp2_with fail
          refine (left_any _ _ _ _ P6.out.rd).mono ?_
          rintro e w8 ⟨rfl, rfl⟩
          go_wp2
          go_roundw
          case rel => exact ⟨m + 1, zs, ys, v, by omega, by omega, by go_num, P6.out, HE.out, capOf_stay HY.out⟩
          case measure => simp [intOf]; omega
      · go_wp2_with fail
        refine (octets_any _ _ _ _ P5.out.rd).mono ?_
        rintro e w5 ⟨v5, rfl, o5, r5, b5⟩
        have P6 := hideIt (P5.out.read r5 b5)
        by_cases hz : 2 ≤ zs.length ∧ ocN zs ≤ zs.length - 2
        · obtain ⟨e1, st⟩ := stepO HB.out hz.1 hz.2 HE.out
          have hoe := (oc_yes hz.1 hz.2).2.1
          rw [hoe]
          obtain ⟨av, cv, rfl, rv, tv, _, qv⟩ := own_row o5 (ocVal_bs HB.out)
          have E1 := hideIt e1
          have ST := hideIt st
          have RV := hideIt rv
          have TV := hideIt tv
          have OV := hideIt (show ∀ y, av = some y → 0 < (ocVal zs).length → ¬ Own k v y.block from fun y hy _ t => by
            have q1 := (o5.lt _ (qv y hy).1).1
            rcases t with t | t
            · have t2 : y.block = k := t
              have := (two_at P5.out.wr.1).1
              omega
            · have := (P5.out.wr.2.1.lt _ t).2
              omega)
          have LV := hideIt (ocVal_len HB.out)
          clear o5 rv tv qv e1 st r5 b5 P5 hoe
          obtain ⟨us, hus⟩ : ∃ us, ys ++ woNew (ocVal zs) = us := ⟨_, rfl⟩
          obtain ⟨xs, hxs⟩ : ∃ xs, ocRest zs = xs := ⟨_, rfl⟩
          rw [hxs] at P6
          rw [hus, hxs] at ST
          have HUS := hideIt hus
          clear hus hxs hz
          obtain ⟨ov, hov⟩ : ∃ ov, ocVal zs = ov := ⟨_, rfl⟩
          rw [hov] at RV LV HUS E1 TV OV ⊢
          clear hov
          obtain ⟨q, hq⟩ : ∃ q, ov.length = q := ⟨_, rfl⟩
          rw [hq] at RV LV TV OV ⊢
          clear hq
          go_wp2_with fail
          refine (wOctets_any _ _ _ _ _ _ _ _ P6.out.wr RV.out TV.out OV.out (by have := LV.out; omega) HL.out).mono ?_
          rintro e w7 ⟨rfl, t7⟩
          rw [E1.out]
          obtain ⟨v7, p7⟩ := P6.out.write t7
          rw [HUS.out] at p7
          have P7 := hideIt p7
          clear p7 t7 P6 HUS RV TV OV E1
          go_wp2_with fail
          refine (left_any _ _ _ _ P7.out.rd).mono ?_
          rintro e w8 ⟨rfl, rfl⟩
          obtain ⟨u1, u2, u3⟩ := ST.out
          have HU1 := hideIt u1
          have HU2 := hideIt u2
          have i3 : ((xs.length : Nat) : Int) < ((zs.length : Nat) : Int) := by omega
          have i4 : decide (((zs.length : Nat) : Int) ≤ ((xs.length : Nat) : Int)) = false := by rw [decide_eq_false_iff_not]; omega
          clear u1 u2 u3 ST
          go_wp2
          go_roundw
          case rel => exact ⟨m + 1, xs, us, v7, by omega, by omega, by go_num, P7.out, HU1.out, capOf_next HU2.out HY.out⟩
          case measure => simp [intOf]; omega
        · obtain ⟨h1, h2, h3⟩ := oc_no hz
          rw [h2]
          rw [h3] at P6
          rw [h1] at o5
          obtain ⟨av, cv, rfl⟩ := own_slice o5
          clear hz h1 h2 h3 o5 r5 b5 P5
          go_wp2_with fail
          refine (left_any _ _ _ _ P6.out.rd).mono ?_
          rintro e w8 ⟨rfl, rfl⟩
          go_wp2
          go_roundw
          case rel => exact ⟨m + 1, zs, ys, v, by omega, by omega, by go_num, P6.out, HE.out, capOf_stay HY.out⟩
          case measure => simp [intOf]; omega
    · have hd : ¬ ((m : Int) < n') ∨ ¬ ((m : Int) < 100) := by omega
      have LY := hideIt (capOf_low hm2 HY.out)
      have E1 := hideIt (show ((n : Int) - ((zs.length : Nat) : Int)) = ((ys.length : Nat) : Int) by
        have h1 := congrArg List.length HE.out
        rw [List.length_append, HR.out.1] at h1
        omega)
      have RB := hideIt (show Row w a ys.length ys from by
        have h1 := congrArg List.length HE.out
        rw [List.length_append, HR.out.1] at h1
        have h2 := HR.out.take (k := ys.length) (by omega)
        rw [← HE.out, List.take_left] at h2
        exact h2)
      have hyn : ((ys.length : Nat) : Int) ≤ (n : Int) := by have := E1.out; omega
      clear HI hlt HE HY
      by_cases hd1 : (m : Int) < n'
      case' pos => have hd2 : ¬ ((m : Int) < 100) := by omega
      all_goals
        clear hd
        go_wp2_with fail
        refine (wBytes_any _ _ _ _ P5.out.wr (by have := LY.out; omega)).mono ?_
        rintro e w9 ⟨x, rfl, o9, a9⟩
        obtain ⟨ax, cx, rfl, rx, _⟩ := own_row o9 P5.out.wr.2.2.2
        have P9 := hideIt (P5.out.after a9)
        have RX := hideIt rx
        clear a9 o9 rx P5
        obtain ⟨q, hq⟩ : ∃ q, ys.length = q := ⟨_, rfl⟩
        have HQ := hideIt hq
        rw [hq] at E1 RB RX hyn LY ⊢
        clear hq
        go_wp2_with fail
        refine (left_any _ _ _ _ P9.out.rd).mono ?_
        rintro e wa ⟨rfl, rfl⟩
        rw [show ((zs.length : Nat) : Int) = (n : Int) - (q : Int) by have := E1.out; omega]
        have hs1 : (n : Int) - ((n : Int) - (q : Int)) = (q : Int) := by omega
        have hs2 : (q : Int) ≤ (c : Int) := by omega
        go_wp2_with fail
        refine (eqBytes_same _ _ _ _ _ _ _ (RX.out) (RB.out.after P9.out.aft) (by have := LY.out; omega)).mono ?_
        rintro e wb ⟨rfl, ab⟩
        have AB := hideIt (P9.out.aft.trans ab)
        clear ab
        go_wp2
        go_ret
        exact ⟨rfl, AB.out⟩
end Go.Proofs.Ytojgkhinddjmaaa
