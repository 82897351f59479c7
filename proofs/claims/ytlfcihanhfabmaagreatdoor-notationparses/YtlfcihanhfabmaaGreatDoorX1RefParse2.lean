/-
  The contract of the document's answer 'Parse', second part: a text without a sign; and all together.
-/
import Derived.Test.YtlfcihanhfabmaaGreatDoorX1RefParse
namespace Go.Proofs.YtlfcihanhfabmaaGreatDoor.L1
open Go.RowKit
set_option maxRecDepth 8000
set_option maxRecDepth 100000 in
set_option maxHeartbeats 4000000 in
theorem refParse_pos (B : List UInt8) (K : Nat) (N : Int) (w : World) (hl0 : 0 < B.length) (hc0 : ¬ bt B 0 = 45) (HB : Hid (bodyL B = B)) (HG : Hid (negB B = false)) (HK : Hid ((befL B).length = K)) (HK2 : Hid (K ≤ B.length)) (hBl : B.length ≤ 9223372036854775807)
    (HNr : Hid (refNum (befL B) 7 = N)) (HN : Hid ((areB (befL B) 7 = true ∧ N = numL (befL B) ∧ 0 ≤ N ∧ N < 10000000) ∨ (areB (befL B) 7 = false ∧ N = -1))) :
    Calls Tryz.prog 125 #[.string (S B)] w fun e w' => e = .returned (.tuple #[.int .i64 (parseV B), .int .i64 (parseE B)]) ∧ w' = w := by
  have hnum : ∀ w, Calls Tryz.prog 131 #[.string (S (befL B)), .int .i64 1, .int .i64 7] w fun e w' => e = .returned (.int .i64 N) ∧ w' = w := by
    intro w
    have h := refNumber_any (S (befL B)) 7 w (by show (befL B).length ≤ maxLen; have := bef_le B; unfold maxLen; omega) (by decide)
    rw [S_list, HNr.out] at h
    exact h
  have HM := hideIt hnum
  have hsl : (S B).extract 0 K = S (befL B) := by
    rw [S_cut, ← HK.out]
    cases hh : hasB B
    · rw [(bef_none B hh).1, List.take_length]
    · rw [(bef_take B hh).1]
  have z3 : (S B).size ≤ 9223372036854775807 := hBl
  have z4 : K ≤ (S B).size := HK2.out
  have hlp : ∀ k, k < K → ¬ bt B k = 46 := fun k hk => (bef_lt B k (by rw [HK.out]; exact hk)).1
  have HLP := hideIt hlp
  have z1 : 0 < (S B).size := hl0
  have g1 := S_at B 0 z1
  have g2 : (bt B 0 == 45) = false := by rw [beq_eq_false_iff_ne]; exact hc0
  clear hc0
  clear hnum hlp
  go_enter Tryz.func125, Tryz.ntmps125
  go_wp2
  go_loop [5] (fun i => ∃ k : Nat, k ≤ K ∧ i = .int .i64 k) (fun i => K - (intOf i).toNat)
  case atStart => exact ⟨0, Nat.zero_le _, rfl⟩
  case round =>
    obtain ⟨k, hk, rfl⟩ := hrel
    by_cases hlt : k < K
    · have hks : k < (S B).size := by omega
      have hc := S_at B k hks
      have hne : (bt B k == 46) = false := by rw [beq_eq_false_iff_ne]; exact HLP.out k hlt
      go_wp2
      go_round
      case rel => exact ⟨k + 1, by omega, by go_num⟩
      case measure => simp [intOf]; omega
    · obtain rfl : k = K := by omega
      clear hlt hk
      cases hh : hasB B
      · have HH := hideIt hh
        have hKs : k = (S B).size := by
          show k = B.length
          rw [← HK.out, (bef_none B hh).1]
        have hKs' : ¬ k < (S B).size := by omega
        clear hh hKs
        go_wp2_with fail
        refine (HM.out _).mono ?_
        rintro e w' ⟨rfl, rfl⟩
        rcases HN.out with ⟨hw, hNe, n0, n1⟩ | ⟨hw, hNe⟩
        · have HNe := hideIt hNe
          have HW := hideIt hw
          clear hNe hw
          have HV : Hid (valL B = 1000 * N) := by
            show valL B = _
            unfold valL
            rw [HB.out, ← HNe.out, (bef_none B HH.out).2, show numL (padL []) = 0 from by decide]
            omega
          by_cases hk1 : 1 < k
          · have g3 := S_at B 0 (by omega)
            by_cases hz : bt B 0 = 48
            · have HF : Hid (formB B = false) := form_no3 (by rw [HB.out, HK.out]; exact hk1) (by rw [HB.out]; exact hz)
              rw [hz] at g3
              clear hz
              have HZ := hideIt (parse_form HF.out)
              go_wp2
              go_ret2
              exact ⟨ret_two HZ.out.1.symm HZ.out.2.symm, rfl⟩
            · have HF : Hid (formB B = true) := form_yes (by rw [HB.out]; exact HW.out) (by rw [HB.out]; exact fun h => hz h.2) (Or.inl (by rw [HB.out]; exact HH.out))
              have hz1 : (bt B 0 == 48) = false := by rw [beq_eq_false_iff_ne]; exact hz
              clear hz
              by_cases hbig : 2147483647 < 1000 * N
              · have HZ := hideIt (parse_bigp HF.out HG.out (by rw [HV.out]; exact hbig))
                go_wp2
                go_ret2
                exact ⟨ret_two (by have h1 := HZ.out.1; have h2 := HV.out; omega) HZ.out.2.symm, rfl⟩
              · have HZ := hideIt (parse_pos HF.out HG.out (by rw [HV.out]; exact hbig))
                go_wp2
                go_ret2
                exact ⟨ret_two (by have h1 := HZ.out.1; have h2 := HV.out; omega) HZ.out.2.symm, rfl⟩
          · have HF : Hid (formB B = true) := form_yes (by rw [HB.out]; exact HW.out) (by rw [HB.out, HK.out]; exact fun h => hk1 h.1) (Or.inl (by rw [HB.out]; exact HH.out))
            by_cases hbig : 2147483647 < 1000 * N
            · have HZ := hideIt (parse_bigp HF.out HG.out (by rw [HV.out]; exact hbig))
              go_wp2
              go_ret2
              exact ⟨ret_two (by have h1 := HZ.out.1; have h2 := HV.out; omega) HZ.out.2.symm, rfl⟩
            · have HZ := hideIt (parse_pos HF.out HG.out (by rw [HV.out]; exact hbig))
              go_wp2
              go_ret2
              exact ⟨ret_two (by have h1 := HZ.out.1; have h2 := HV.out; omega) HZ.out.2.symm, rfl⟩
        · have HF : Hid (formB B = false) := form_no1 (by rw [HB.out]; exact hw)
          have HZ := hideIt (parse_form HF.out)
          subst hNe
          clear hw
          go_wp2
          go_ret2
          exact ⟨ret_two HZ.out.1.symm HZ.out.2.symm, rfl⟩
      · have HH := hideIt hh
        obtain ⟨e1, e2⟩ := bef_end B hh
        rw [HK.out] at e1 e2
        have hKs : k < (S B).size := e1
        have hc := S_at B k hKs
        rw [e2] at hc
        have hsl2 : (S B).extract (k + 1) (S B).size = S (aftL B) := by
          rw [S_from, ← HK.out, (bef_take B hh).2]
        have ha := aft_le B
        have z6 : (S (aftL B)).size ≤ 9223372036854775807 := by show (aftL B).length ≤ _; omega
        clear hh e1 e2 ha
        go_wp2_with fail
        refine (HM.out _).mono ?_
        rintro e w' ⟨rfl, rfl⟩
        cases hp : partB (aftL B)
        · have HPn : Hid (refNum (aftL B) 3 = -1) := refNum_no hp
          have HPf := hideIt hp
          clear hp
          have hnum2 : ∀ w, Calls Tryz.prog 131 #[.string (S (aftL B)), .int .i64 1, .int .i64 3] w fun e w' => e = .returned (.int .i64 (-1)) ∧ w' = w := by
            intro w
            have h := refNumber_any (S (aftL B)) 3 w z6 (by decide)
            rw [S_list, HPn.out] at h
            exact h
          have HM2 := hideIt hnum2
          clear hnum2
          have HF : Hid (formB B = false) := form_no2 (by rw [HB.out]; exact HH.out) (by rw [HB.out]; exact HPf.out)
          have HZ := hideIt (parse_form HF.out)
          go_wp2_with fail
          refine (HM2.out _).mono ?_
          rintro e w' ⟨rfl, rfl⟩
          go_wp2
          go_loop [7, 9] (fun v i => v = .int .i64 (-1) ∧ i = .int .i64 ((S (aftL B)).size : Int)) (fun _ _ => 0)
          case atStart => exact ⟨rfl, rfl⟩
          case round =>
            obtain ⟨rfl, rfl⟩ := hrel
            rcases HN.out with ⟨hw, hNe, n0, n1⟩ | ⟨hw, hNe⟩
            · clear hw hNe
              by_cases h3 : (S (aftL B)).size < 3
              · go_wp2
                go_ret2
                exact ⟨ret_two HZ.out.1.symm HZ.out.2.symm, rfl⟩
              · go_wp2
                go_ret2
                exact ⟨ret_two HZ.out.1.symm HZ.out.2.symm, rfl⟩
            · subst hNe
              clear hw
              by_cases h3 : (S (aftL B)).size < 3
              · go_wp2
                go_ret2
                exact ⟨ret_two HZ.out.1.symm HZ.out.2.symm, rfl⟩
              · go_wp2
                go_ret2
                exact ⟨ret_two HZ.out.1.symm HZ.out.2.symm, rfl⟩
        · have HPt := hideIt hp
          obtain ⟨l1, l2, l3⟩ := areB_parts hp
          have hpn : refNum (aftL B) 3 = numL (aftL B) := refNum_yes hp
          clear hp
          have hnum2 : ∀ w, Calls Tryz.prog 131 #[.string (S (aftL B)), .int .i64 1, .int .i64 3] w fun e w' => e = .returned (.int .i64 (numL (aftL B))) ∧ w' = w := by
            intro w
            have h := refNumber_any (S (aftL B)) 3 w z6 (by decide)
            rw [S_list, hpn] at h
            exact h
          have HM2 := hideIt hnum2
          have hpad : numL (padL (aftL B)) = numL (aftL B) * 10 ^ (3 - (aftL B).length) := num_zero _ _
          obtain ⟨p, hpp⟩ : ∃ p, p = numL (padL (aftL B)) := ⟨_, rfl⟩
          obtain ⟨q0, q1⟩ := num_bd3 (pad_dig l3) (pad_len l2)
          rw [← hpp] at hpad q0 q1
          obtain ⟨x0, hx0⟩ : ∃ x, x = numL (aftL B) := ⟨_, rfl⟩
          rw [← hx0] at hpad hnum2 HM2
          have y0 := (num_bd l3 (by omega)).1
          rw [← hx0] at y0
          have z7 : (S (aftL B)).size ≤ 3 := l2
          obtain ⟨j, hj⟩ : ∃ j, j = (S (aftL B)).size := ⟨_, rfl⟩
          have hj' : (aftL B).length = j := hj.symm
          rw [hj'] at hpad l1
          have HPA := hideIt hpad
          have HPP := hideIt hpp
          rw [← hj] at z7
          have HJ : Hid ((S (aftL B)).size = j) := hj.symm
          clear hnum2 hpad hpp hx0 hpn hj' l2 l3 z6
          go_wp2_with fail
          refine (HM2.out _).mono ?_
          rintro e w' ⟨rfl, rfl⟩
          have hJ := HJ.out
          clear hj
          go_wp2
          go_loop [7, 9] (fun v i => ∃ (x : Int) (m : Nat), v = .int .i64 x ∧ i = .int .i64 m ∧ 0 ≤ x ∧ m ≤ 3 ∧ x * 10 ^ (3 - m) = p) (fun _ i => 3 - (intOf i).toNat)
          case atStart => exact ⟨x0, j, rfl, rfl, y0, z7, HPA.out.symm⟩
          case round =>
            obtain ⟨x, m, rfl, rfl, x1, m1, hxp⟩ := hrel
            have HXP := hideIt hxp
            clear hxp
            by_cases hm3 : m < 3
            · by_cases hx : 0 < x
              · have hx9 : x ≤ 999 := by
                  have h := HXP.out
                  match m, hm3 with
                  | 0, _ => simp at h; omega
                  | 1, _ => simp at h; omega
                  | 2, _ => simp at h; omega
                go_wp2
                go_round
                case rel => exact ⟨x * 10, m + 1, rfl, by go_num, by omega, by omega, by
                  have h := HXP.out
                  match m, hm3 with
                  | 0, _ => simp at h ⊢; omega
                  | 1, _ => simp at h ⊢; omega
                  | 2, _ => simp at h ⊢; omega⟩
                case measure => simp [intOf]; omega
              · have hxz : x = 0 := by omega
                have hpz : p = 0 := by
                  have h := HXP.out
                  rw [hxz, Int.zero_mul] at h
                  exact h.symm
                have HPV : Hid (numL (padL (aftL B)) = 0) := HPP.out.symm.trans hpz
                subst hxz
                clear hx hpz
                rcases HN.out with ⟨hw, hNe, n0, n1⟩ | ⟨hw, hNe⟩
                · have HNe := hideIt hNe
                  have HW := hideIt hw
                  clear hNe hw
                  have HV : Hid (valL B = 1000 * N) := by
                    show valL B = _
                    unfold valL
                    rw [HB.out, ← HNe.out, HPV.out]
                    omega
                  by_cases hk1 : 1 < k
                  · have g3 := S_at B 0 (by omega)
                    by_cases hz : bt B 0 = 48
                    · have HF : Hid (formB B = false) := form_no3 (by rw [HB.out, HK.out]; exact hk1) (by rw [HB.out]; exact hz)
                      rw [hz] at g3
                      clear hz
                      have HZ := hideIt (parse_form HF.out)
                      go_wp2
                      go_ret2
                      exact ⟨ret_two HZ.out.1.symm HZ.out.2.symm, rfl⟩
                    · have HF : Hid (formB B = true) := form_yes (by rw [HB.out]; exact HW.out) (by rw [HB.out]; exact fun h => hz h.2) (Or.inr (by rw [HB.out]; exact HPt.out))
                      have hz1 : (bt B 0 == 48) = false := by rw [beq_eq_false_iff_ne]; exact hz
                      clear hz
                      by_cases hbig : 2147483647 < 1000 * N
                      · have HZ := hideIt (parse_bigp HF.out HG.out (by rw [HV.out]; exact hbig))
                        go_wp2
                        go_ret2
                        exact ⟨ret_two (by have h1 := HZ.out.1; have h2 := HV.out; omega) HZ.out.2.symm, rfl⟩
                      · have HZ := hideIt (parse_pos HF.out HG.out (by rw [HV.out]; exact hbig))
                        go_wp2
                        go_ret2
                        exact ⟨ret_two (by have h1 := HZ.out.1; have h2 := HV.out; omega) HZ.out.2.symm, rfl⟩
                  · have HF : Hid (formB B = true) := form_yes (by rw [HB.out]; exact HW.out) (by rw [HB.out, HK.out]; exact fun h => hk1 h.1) (Or.inr (by rw [HB.out]; exact HPt.out))
                    by_cases hbig : 2147483647 < 1000 * N
                    · have HZ := hideIt (parse_bigp HF.out HG.out (by rw [HV.out]; exact hbig))
                      go_wp2
                      go_ret2
                      exact ⟨ret_two (by have h1 := HZ.out.1; have h2 := HV.out; omega) HZ.out.2.symm, rfl⟩
                    · have HZ := hideIt (parse_pos HF.out HG.out (by rw [HV.out]; exact hbig))
                      go_wp2
                      go_ret2
                      exact ⟨ret_two (by have h1 := HZ.out.1; have h2 := HV.out; omega) HZ.out.2.symm, rfl⟩
                · have HF : Hid (formB B = false) := form_no1 (by rw [HB.out]; exact hw)
                  have HZ := hideIt (parse_form HF.out)
                  subst hNe
                  clear hw
                  go_wp2
                  go_ret2
                  exact ⟨ret_two HZ.out.1.symm HZ.out.2.symm, rfl⟩
            · have hm : m = 3 := by omega
              have hxe : x = p := by
                have h := HXP.out
                rw [hm] at h
                simp at h
                exact h
              have HPV : Hid (numL (padL (aftL B)) = p) := HPP.out.symm
              subst hxe
              subst hm
              clear hm3
              rcases HN.out with ⟨hw, hNe, n0, n1⟩ | ⟨hw, hNe⟩
              · have HNe := hideIt hNe
                have HW := hideIt hw
                clear hNe hw
                have HV : Hid (valL B = 1000 * N + x) := by
                  show valL B = _
                  unfold valL
                  rw [HB.out, ← HNe.out, HPV.out]
                  omega
                by_cases hk1 : 1 < k
                · have g3 := S_at B 0 (by omega)
                  by_cases hz : bt B 0 = 48
                  · have HF : Hid (formB B = false) := form_no3 (by rw [HB.out, HK.out]; exact hk1) (by rw [HB.out]; exact hz)
                    rw [hz] at g3
                    clear hz
                    have HZ := hideIt (parse_form HF.out)
                    go_wp2
                    go_ret2
                    exact ⟨ret_two HZ.out.1.symm HZ.out.2.symm, rfl⟩
                  · have HF : Hid (formB B = true) := form_yes (by rw [HB.out]; exact HW.out) (by rw [HB.out]; exact fun h => hz h.2) (Or.inr (by rw [HB.out]; exact HPt.out))
                    have hz1 : (bt B 0 == 48) = false := by rw [beq_eq_false_iff_ne]; exact hz
                    clear hz
                    by_cases hbig : 2147483647 < 1000 * N + x
                    · have HZ := hideIt (parse_bigp HF.out HG.out (by rw [HV.out]; exact hbig))
                      go_wp2
                      go_ret2
                      exact ⟨ret_two (by have h1 := HZ.out.1; have h2 := HV.out; omega) HZ.out.2.symm, rfl⟩
                    · have HZ := hideIt (parse_pos HF.out HG.out (by rw [HV.out]; exact hbig))
                      go_wp2
                      go_ret2
                      exact ⟨ret_two (by have h1 := HZ.out.1; have h2 := HV.out; omega) HZ.out.2.symm, rfl⟩
                · have HF : Hid (formB B = true) := form_yes (by rw [HB.out]; exact HW.out) (by rw [HB.out, HK.out]; exact fun h => hk1 h.1) (Or.inr (by rw [HB.out]; exact HPt.out))
                  by_cases hbig : 2147483647 < 1000 * N + x
                  · have HZ := hideIt (parse_bigp HF.out HG.out (by rw [HV.out]; exact hbig))
                    go_wp2
                    go_ret2
                    exact ⟨ret_two (by have h1 := HZ.out.1; have h2 := HV.out; omega) HZ.out.2.symm, rfl⟩
                  · have HZ := hideIt (parse_pos HF.out HG.out (by rw [HV.out]; exact hbig))
                    go_wp2
                    go_ret2
                    exact ⟨ret_two (by have h1 := HZ.out.1; have h2 := HV.out; omega) HZ.out.2.symm, rfl⟩
              · have HF : Hid (formB B = false) := form_no1 (by rw [HB.out]; exact hw)
                have HZ := hideIt (parse_form HF.out)
                subst hNe
                clear hw
                go_wp2
                go_ret2
                exact ⟨ret_two HZ.out.1.symm HZ.out.2.symm, rfl⟩

set_option maxRecDepth 100000 in
set_option maxHeartbeats 400000 in
theorem refParse_nil (w : World) : Calls Tryz.prog 125 #[.string (S [])] w fun e w' => e = .returned (.tuple #[.int .i64 (parseV []), .int .i64 (parseE [])]) ∧ w' = w := by
  have e1 : parseV [] = 0 := by decide
  have e2 : parseE [] = 4 := by decide
  rw [e1, e2]
  have z1 : (S []).size = 0 := rfl
  have hx : (S []).extract 0 0 = S [] := rfl
  have hnum : ∀ w, Calls Tryz.prog 131 #[.string (S []), .int .i64 1, .int .i64 7] w fun e w' => e = .returned (.int .i64 (-1)) ∧ w' = w := by
    intro w
    have h := refNumber_any (S []) 7 w (by decide) (by decide)
    rw [S_list, show refNum [] 7 = -1 from by decide] at h
    exact h
  have HM := hideIt hnum
  clear hnum e1 e2
  go_enter Tryz.func125, Tryz.ntmps125
  go_wp2
  go_loop [5] (fun i => i = .int .i64 0) (fun _ => 0)
  case atStart => rfl
  case round =>
    obtain rfl := hrel
    go_wp2_with fail
    refine (HM.out _).mono ?_
    rintro e w' ⟨rfl, rfl⟩
    go_wp2
    go_ret2
    exact ⟨rfl, rfl⟩
theorem refParse_any (s : ByteArray) (w : World) (hs : s.size ≤ maxLen) :
    Calls Tryz.prog 125 #[.string s] w fun e w' => e = .returned (.tuple #[.int .i64 (parseV s.data.toList), .int .i64 (parseE s.data.toList)]) ∧ w' = w := by
  have es : s = S s.data.toList := (Lib.mk_data s).symm
  obtain ⟨l, hl⟩ : ∃ l, l = s.data.toList := ⟨_, rfl⟩
  have hlen : l.length ≤ 9223372036854775807 := by
    rw [hl, show s.data.toList.length = s.size from Array.length_toList]
    unfold maxLen at hs; omega
  rw [← hl] at es ⊢
  rw [es]
  have fin : ∀ (B : List UInt8), (refNum (befL B) 7 = refNum (befL B) 7) ∧ ((areB (befL B) 7 = true ∧ refNum (befL B) 7 = numL (befL B) ∧ 0 ≤ refNum (befL B) 7 ∧ refNum (befL B) 7 < 10000000) ∨ (areB (befL B) 7 = false ∧ refNum (befL B) 7 = -1)) := by
    intro B
    refine ⟨rfl, ?_⟩
    cases h : areB (befL B) 7
    · exact Or.inr ⟨rfl, refNum_no h⟩
    · have := areB_parts h
      have hb := num_bd this.2.2 this.2.1
      rw [refNum_yes h]
      exact Or.inl ⟨rfl, rfl, hb.1, hb.2⟩
  by_cases h0 : l.length = 0
  · have : l = [] := List.length_eq_zero_iff.1 h0
    rw [this]
    exact refParse_nil w
  · have hh := neg_head l
    rw [decide_eq_true (show 0 < l.length by omega), Bool.true_and] at hh
    by_cases hc : bt l 0 = 45
    · rw [decide_eq_true hc] at hh
      exact refParse_neg l (l.drop 1) _ _ w hlen (by omega) hc rfl (body_neg hh) hh rfl (bef_le _) (by rw [List.length_drop]; omega) rfl (fin _).2
    · rw [decide_eq_false hc] at hh
      exact refParse_pos l _ _ w (by omega) hc (body_pos hh) hh rfl (bef_le _) hlen rfl (fin _).2
end Go.Proofs.YtlfcihanhfabmaaGreatDoor.L1
