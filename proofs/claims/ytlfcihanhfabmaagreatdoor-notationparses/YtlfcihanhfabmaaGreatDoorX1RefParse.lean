/-
  The contract of the document's answer 'Parse'.
-/
import Derived.Test.YtlfcihanhfabmaaGreatDoorX1RefText
namespace Go.Proofs.YtlfcihanhfabmaaGreatDoor.L1
open Go.RowKit
set_option maxRecDepth 8000

theorem bef_lt (B : List UInt8) : ∀ k, k < (befL B).length → bt B k ≠ 46 ∧ bt B k = bt (befL B) k := by
  induction B with
  | nil => intro k hk; simp [befL] at hk
  | cons c B ih =>
    intro k hk
    unfold befL at hk ⊢
    by_cases hc : c = 46
    · rw [if_pos hc] at hk; simp at hk
    · rw [if_neg hc] at hk ⊢
      cases k with
      | zero =>
        refine ⟨?_, rfl⟩
        show (c.toNat : Int) ≠ 46
        intro h
        exact hc (UInt8.toNat_inj.1 (by show c.toNat = 46; omega))
      | succ k =>
        have := ih k (by simpa using hk)
        exact this
theorem bef_end (B : List UInt8) (h : hasB B = true) : (befL B).length < B.length ∧ bt B (befL B).length = 46 := by
  induction B with
  | nil => simp [hasB] at h
  | cons c B ih =>
    unfold hasB at h
    unfold befL
    by_cases hc : c = 46
    · subst hc; rw [if_pos rfl]; exact ⟨by simp, rfl⟩
    · rw [if_neg hc] at h
      rw [if_neg hc]
      have := ih h
      exact ⟨by simpa using this.1, this.2⟩
theorem refNum_yes {l : List UInt8} {m : Nat} (h : areB l m = true) : refNum l m = numL l := if_pos h
theorem refNum_no {l : List UInt8} {m : Nat} (h : areB l m = false) : refNum l m = -1 := by unfold refNum; rw [h]; rfl
theorem S_from (l : List UInt8) (k : Nat) : (S l).extract k (S l).size = S (l.drop k) := by
  rw [Lib.extract_eq, S_list, List.take_of_length_le (by rw [List.length_drop, S_size]; exact Nat.le_refl _)]; rfl
theorem num_app (a b : List UInt8) : numL (a ++ b) = b.foldl (fun v c => 10 * v + ((c.toNat : Int) - 48)) (numL a) := by unfold numL; rw [List.foldl_append]
theorem num_zero (a : List UInt8) (n : Nat) : numL (a ++ Lib.repeatL [48] n) = numL a * 10 ^ n := by
  induction n generalizing a with
  | zero => show numL (a ++ []) = _; rw [List.append_nil]; simp
  | succ n ih =>
    have e : a ++ Lib.repeatL [48] (n + 1) = (a ++ [48]) ++ Lib.repeatL [48] n := by
      show a ++ ([48] ++ Lib.repeatL [48] n) = _
      rw [List.append_assoc]
    rw [e, ih, numL_snoc, Int.pow_succ, show ((48 : UInt8).toNat : Int) - 48 = 0 from rfl, Int.add_zero, Int.mul_comm 10, Int.mul_assoc, Int.mul_comm 10]
theorem neg_head (l : List UInt8) : negB l = (decide (0 < l.length) && decide (bt l 0 = 45)) := by
  cases l with
  | nil => rfl
  | cons c l =>
    unfold negB Lib.hasPrefix
    have e : bt (c :: l) 0 = (c.toNat : Int) := rfl
    rw [e]
    by_cases hc : c = 45
    · subst hc; simp [List.isPrefixOf]
    · have h1 : ¬ (c.toNat : Int) = 45 := by
        intro h; exact hc (UInt8.toNat_inj.1 (by show c.toNat = 45; omega))
      have h2 : (45 == c) = false := by rw [beq_eq_false_iff_ne]; exact fun e => hc e.symm
      simp [List.isPrefixOf, h1, h2]
theorem body_neg {l : List UInt8} (h : negB l = true) : bodyL l = l.drop 1 := by
  unfold bodyL Lib.trimPrefix; unfold negB at h; rw [h]; rfl
theorem body_pos {l : List UInt8} (h : negB l = false) : bodyL l = l := by
  unfold bodyL Lib.trimPrefix; unfold negB at h; rw [h]; rfl

/-- What a text's parts make of it. -/
theorem form_no1 {l : List UInt8} (h : areB (befL (bodyL l)) 7 = false) : formB l = false := by
  unfold formB wholeB; rw [h]; split <;> rfl
theorem form_no2 {l : List UInt8} (h : hasB (bodyL l) = true) (h' : partB (aftL (bodyL l)) = false) : formB l = false := by
  unfold formB; rw [h, h', Bool.not_true, Bool.or_false, Bool.and_false]
theorem form_no3 {l : List UInt8} (h : 1 < (befL (bodyL l)).length) (h' : bt (bodyL l) 0 = 48) : formB l = false := by
  have e := (bef_lt (bodyL l) 0 (by omega)).2
  unfold formB wholeB
  rw [if_pos ⟨h, by rw [← e]; exact h'⟩]; rfl
theorem form_yes {l : List UInt8} (h : areB (befL (bodyL l)) 7 = true) (h' : ¬ (1 < (befL (bodyL l)).length ∧ bt (bodyL l) 0 = 48)) (h2 : hasB (bodyL l) = false ∨ partB (aftL (bodyL l)) = true) : formB l = true := by
  have hn : ¬ (1 < (befL (bodyL l)).length ∧ bt (befL (bodyL l)) 0 = 48) := by
    intro ⟨a, b⟩
    exact h' ⟨a, by rw [(bef_lt (bodyL l) 0 (by omega)).2]; exact b⟩
  unfold formB wholeB
  rw [if_neg hn, h]
  rcases h2 with h2 | h2 <;> simp [h2]
set_option maxRecDepth 100000 in
set_option maxHeartbeats 4000000 in
theorem refParse_neg (l B : List UInt8) (K : Nat) (N : Int) (w : World) (hll : l.length ≤ 9223372036854775807) (hl0 : 0 < l.length) (hc0 : bt l 0 = 45) (hbody : l.drop 1 = B) (HB : Hid (bodyL l = B)) (HG : Hid (negB l = true)) (HK : Hid ((befL B).length = K)) (HK2 : Hid (K ≤ B.length)) (hBl : B.length ≤ 9223372036854775807)
    (HNr : Hid (refNum (befL B) 7 = N)) (HN : Hid ((areB (befL B) 7 = true ∧ N = numL (befL B) ∧ 0 ≤ N ∧ N < 10000000) ∨ (areB (befL B) 7 = false ∧ N = -1))) :
    Calls Tryz.prog 125 #[.string (S l)] w fun e w' => e = .returned (.tuple #[.int .i64 (parseV l), .int .i64 (parseE l)]) ∧ w' = w := by
  have hnum : ∀ w, Calls Tryz.prog 131 #[.string (S (befL B)), .int .i64 1, .int .i64 7] w fun e w' => e = .returned (.int .i64 N) ∧ w' = w := by
    intro w
    have h := refNumber_any (S (befL B)) 7 w (by show (befL B).length ≤ maxLen; have := bef_le B; unfold maxLen; omega) (by decide)
    rw [S_list, HNr.out] at h
    exact h
  have HM := hideIt hnum
  have hsl : (S B).extract 0 K = S (befL B) := by
    rw [S_cut, ← HK.out]
    cases hh : hasB B
    · rw [(bef_none B hh).1, List.take_length]
    · rw [(bef_take B hh).1]
  have z3 : (S B).size ≤ 9223372036854775807 := hBl
  have z4 : K ≤ (S B).size := HK2.out
  have hlp : ∀ k, k < K → ¬ bt B k = 46 := fun k hk => (bef_lt B k (by rw [HK.out]; exact hk)).1
  have HLP := hideIt hlp
  have z1 : 0 < (S l).size := hl0
  have g1 := S_at l 0 z1
  rw [hc0] at g1
  have g2 : (S l).extract 1 (S l).size = S B := by rw [S_from, hbody]
  have z2 : (S l).size ≤ 9223372036854775807 := hll
  clear hnum hlp
  go_enter Tryz.func125, Tryz.ntmps125
  go_wp2
  go_loop [5] (fun i => ∃ k : Nat, k ≤ K ∧ i = .int .i64 k) (fun i => K - (intOf i).toNat)
  case atStart => exact ⟨0, Nat.zero_le _, rfl⟩
  case round =>
    obtain ⟨k, hk, rfl⟩ := hrel
    by_cases hlt : k < K
    · have hks : k < (S B).size := by omega
      have hc := S_at B k hks
      have hne : (bt B k == 46) = false := by rw [beq_eq_false_iff_ne]; exact HLP.out k hlt
      go_wp2
      go_round
      case rel => exact ⟨k + 1, by omega, by go_num⟩
      case measure => simp [intOf]; omega
    · obtain rfl : k = K := by omega
      clear hlt hk
      cases hh : hasB B
      · have HH := hideIt hh
        have hKs : k = (S B).size := by
          show k = B.length
          rw [← HK.out, (bef_none B hh).1]
        have hKs' : ¬ k < (S B).size := by omega
        clear hh hKs
        go_wp2_with fail
        refine (HM.out _).mono ?_
        rintro e w' ⟨rfl, rfl⟩
        rcases HN.out with ⟨hw, hNe, n0, n1⟩ | ⟨hw, hNe⟩
        · have HNe := hideIt hNe
          have HW := hideIt hw
          clear hNe hw
          have HV : Hid (valL l = 1000 * N) := by
            show valL l = _
            unfold valL
            rw [HB.out, ← HNe.out, (bef_none B HH.out).2, show numL (padL []) = 0 from by decide]
            omega
          by_cases hk1 : 1 < k
          · have g3 := S_at B 0 (by omega)
            by_cases hz : bt B 0 = 48
            · have HF : Hid (formB l = false) := form_no3 (by rw [HB.out, HK.out]; exact hk1) (by rw [HB.out]; exact hz)
              rw [hz] at g3
              clear hz
              have HZ := hideIt (parse_form HF.out)
              go_wp2
              go_ret2
              exact ⟨ret_two HZ.out.1.symm HZ.out.2.symm, rfl⟩
            · have HF : Hid (formB l = true) := form_yes (by rw [HB.out]; exact HW.out) (by rw [HB.out]; exact fun h => hz h.2) (Or.inl (by rw [HB.out]; exact HH.out))
              have hz1 : (bt B 0 == 48) = false := by rw [beq_eq_false_iff_ne]; exact hz
              clear hz
              by_cases hN0 : N = 0
              · subst hN0
                have HZ := hideIt (parse_zero HF.out HG.out (by rw [HV.out]; decide))
                go_wp2
                go_ret2
                exact ⟨ret_two (by have h1 := HZ.out.1; have h2 := HV.out; omega) HZ.out.2.symm, rfl⟩
              · have hN1 : (N == 0) = false := by rw [beq_eq_false_iff_ne]; exact hN0
                by_cases hbig : 2147483647 < 1000 * N
                · have HZ := hideIt (parse_bign HF.out HG.out (by rw [HV.out]; exact hbig))
                  go_wp2
                  go_ret2
                  exact ⟨ret_two (by have h1 := HZ.out.1; have h2 := HV.out; omega) HZ.out.2.symm, rfl⟩
                · have HZ := hideIt (parse_neg HF.out HG.out (by rw [HV.out]; omega) (by rw [HV.out]; exact hbig))
                  go_wp2
                  go_ret2
                  exact ⟨ret_two (by have h1 := HZ.out.1; have h2 := HV.out; omega) HZ.out.2.symm, rfl⟩
          · have HF : Hid (formB l = true) := form_yes (by rw [HB.out]; exact HW.out) (by rw [HB.out, HK.out]; exact fun h => hk1 h.1) (Or.inl (by rw [HB.out]; exact HH.out))
            by_cases hN0 : N = 0
            · subst hN0
              have HZ := hideIt (parse_zero HF.out HG.out (by rw [HV.out]; decide))
              go_wp2
              go_ret2
              exact ⟨ret_two (by have h1 := HZ.out.1; have h2 := HV.out; omega) HZ.out.2.symm, rfl⟩
            · have hN1 : (N == 0) = false := by rw [beq_eq_false_iff_ne]; exact hN0
              by_cases hbig : 2147483647 < 1000 * N
              · have HZ := hideIt (parse_bign HF.out HG.out (by rw [HV.out]; exact hbig))
                go_wp2
                go_ret2
                exact ⟨ret_two (by have h1 := HZ.out.1; have h2 := HV.out; omega) HZ.out.2.symm, rfl⟩
              · have HZ := hideIt (parse_neg HF.out HG.out (by rw [HV.out]; omega) (by rw [HV.out]; exact hbig))
                go_wp2
                go_ret2
                exact ⟨ret_two (by have h1 := HZ.out.1; have h2 := HV.out; omega) HZ.out.2.symm, rfl⟩
        · have HF : Hid (formB l = false) := form_no1 (by rw [HB.out]; exact hw)
          have HZ := hideIt (parse_form HF.out)
          subst hNe
          clear hw
          go_wp2
          go_ret2
          exact ⟨ret_two HZ.out.1.symm HZ.out.2.symm, rfl⟩
      · have HH := hideIt hh
        obtain ⟨e1, e2⟩ := bef_end B hh
        rw [HK.out] at e1 e2
        have hKs : k < (S B).size := e1
        have hc := S_at B k hKs
        rw [e2] at hc
        have hsl2 : (S B).extract (k + 1) (S B).size = S (aftL B) := by
          rw [S_from, ← HK.out, (bef_take B hh).2]
        have ha := aft_le B
        have z6 : (S (aftL B)).size ≤ 9223372036854775807 := by show (aftL B).length ≤ _; omega
        clear hh e1 e2 ha
        go_wp2_with fail
        refine (HM.out _).mono ?_
        rintro e w' ⟨rfl, rfl⟩
        cases hp : partB (aftL B)
        · have HPn : Hid (refNum (aftL B) 3 = -1) := refNum_no hp
          have HPf := hideIt hp
          clear hp
          have hnum2 : ∀ w, Calls Tryz.prog 131 #[.string (S (aftL B)), .int .i64 1, .int .i64 3] w fun e w' => e = .returned (.int .i64 (-1)) ∧ w' = w := by
            intro w
            have h := refNumber_any (S (aftL B)) 3 w z6 (by decide)
            rw [S_list, HPn.out] at h
            exact h
          have HM2 := hideIt hnum2
          clear hnum2
          have HF : Hid (formB l = false) := form_no2 (by rw [HB.out]; exact HH.out) (by rw [HB.out]; exact HPf.out)
          have HZ := hideIt (parse_form HF.out)
          go_wp2_with fail
          refine (HM2.out _).mono ?_
          rintro e w' ⟨rfl, rfl⟩
          go_wp2
          go_loop [7, 9] (fun v i => v = .int .i64 (-1) ∧ i = .int .i64 ((S (aftL B)).size : Int)) (fun _ _ => 0)
          case atStart => exact ⟨rfl, rfl⟩
          case round =>
            obtain ⟨rfl, rfl⟩ := hrel
            rcases HN.out with ⟨hw, hNe, n0, n1⟩ | ⟨hw, hNe⟩
            · clear hw hNe
              by_cases h3 : (S (aftL B)).size < 3
              · go_wp2
                go_ret2
                exact ⟨ret_two HZ.out.1.symm HZ.out.2.symm, rfl⟩
              · go_wp2
                go_ret2
                exact ⟨ret_two HZ.out.1.symm HZ.out.2.symm, rfl⟩
            · subst hNe
              clear hw
              by_cases h3 : (S (aftL B)).size < 3
              · go_wp2
                go_ret2
                exact ⟨ret_two HZ.out.1.symm HZ.out.2.symm, rfl⟩
              · go_wp2
                go_ret2
                exact ⟨ret_two HZ.out.1.symm HZ.out.2.symm, rfl⟩
        · have HPt := hideIt hp
          obtain ⟨l1, l2, l3⟩ := areB_parts hp
          have hpn : refNum (aftL B) 3 = numL (aftL B) := refNum_yes hp
          clear hp
          have hnum2 : ∀ w, Calls Tryz.prog 131 #[.string (S (aftL B)), .int .i64 1, .int .i64 3] w fun e w' => e = .returned (.int .i64 (numL (aftL B))) ∧ w' = w := by
            intro w
            have h := refNumber_any (S (aftL B)) 3 w z6 (by decide)
            rw [S_list, hpn] at h
            exact h
          have HM2 := hideIt hnum2
          have hpad : numL (padL (aftL B)) = numL (aftL B) * 10 ^ (3 - (aftL B).length) := num_zero _ _
          obtain ⟨p, hpp⟩ : ∃ p, p = numL (padL (aftL B)) := ⟨_, rfl⟩
          obtain ⟨q0, q1⟩ := num_bd3 (pad_dig l3) (pad_len l2)
          rw [← hpp] at hpad q0 q1
          obtain ⟨x0, hx0⟩ : ∃ x, x = numL (aftL B) := ⟨_, rfl⟩
          rw [← hx0] at hpad hnum2 HM2
          have y0 := (num_bd l3 (by omega)).1
          rw [← hx0] at y0
          have z7 : (S (aftL B)).size ≤ 3 := l2
          obtain ⟨j, hj⟩ : ∃ j, j = (S (aftL B)).size := ⟨_, rfl⟩
          have hj' : (aftL B).length = j := hj.symm
          rw [hj'] at hpad l1
          have HPA := hideIt hpad
          have HPP := hideIt hpp
          rw [← hj] at z7
          have HJ : Hid ((S (aftL B)).size = j) := hj.symm
          clear hnum2 hpad hpp hx0 hpn hj' l2 l3 z6
          go_wp2_with fail
          refine (HM2.out _).mono ?_
          rintro e w' ⟨rfl, rfl⟩
          have hJ := HJ.out
          clear hj
          go_wp2
          go_loop [7, 9] (fun v i => ∃ (x : Int) (m : Nat), v = .int .i64 x ∧ i = .int .i64 m ∧ 0 ≤ x ∧ m ≤ 3 ∧ x * 10 ^ (3 - m) = p) (fun _ i => 3 - (intOf i).toNat)
          case atStart => exact ⟨x0, j, rfl, rfl, y0, z7, HPA.out.symm⟩
          case round =>
            obtain ⟨x, m, rfl, rfl, x1, m1, hxp⟩ := hrel
            have HXP := hideIt hxp
            clear hxp
            by_cases hm3 : m < 3
            · by_cases hx : 0 < x
              · have hx9 : x ≤ 999 := by
                  have h := HXP.out
                  match m, hm3 with
                  | 0, _ => simp at h; omega
                  | 1, _ => simp at h; omega
                  | 2, _ => simp at h; omega
                go_wp2
                go_round
                case rel => exact ⟨x * 10, m + 1, rfl, by go_num, by omega, by omega, by
                  have h := HXP.out
                  match m, hm3 with
                  | 0, _ => simp at h ⊢; omega
                  | 1, _ => simp at h ⊢; omega
                  | 2, _ => simp at h ⊢; omega⟩
                case measure => simp [intOf]; omega
              · have hxz : x = 0 := by omega
                have hpz : p = 0 := by
                  have h := HXP.out
                  rw [hxz, Int.zero_mul] at h
                  exact h.symm
                have HPV : Hid (numL (padL (aftL B)) = 0) := HPP.out.symm.trans hpz
                subst hxz
                clear hx hpz
                rcases HN.out with ⟨hw, hNe, n0, n1⟩ | ⟨hw, hNe⟩
                · have HNe := hideIt hNe
                  have HW := hideIt hw
                  clear hNe hw
                  have HV : Hid (valL l = 1000 * N) := by
                    show valL l = _
                    unfold valL
                    rw [HB.out, ← HNe.out, HPV.out]
                    omega
                  by_cases hk1 : 1 < k
                  · have g3 := S_at B 0 (by omega)
                    by_cases hz : bt B 0 = 48
                    · have HF : Hid (formB l = false) := form_no3 (by rw [HB.out, HK.out]; exact hk1) (by rw [HB.out]; exact hz)
                      rw [hz] at g3
                      clear hz
                      have HZ := hideIt (parse_form HF.out)
                      go_wp2
                      go_ret2
                      exact ⟨ret_two HZ.out.1.symm HZ.out.2.symm, rfl⟩
                    · have HF : Hid (formB l = true) := form_yes (by rw [HB.out]; exact HW.out) (by rw [HB.out]; exact fun h => hz h.2) (Or.inr (by rw [HB.out]; exact HPt.out))
                      have hz1 : (bt B 0 == 48) = false := by rw [beq_eq_false_iff_ne]; exact hz
                      clear hz
                      by_cases hN0 : N = 0
                      · subst hN0
                        have HZ := hideIt (parse_zero HF.out HG.out (by rw [HV.out]; decide))
                        go_wp2
                        go_ret2
                        exact ⟨ret_two (by have h1 := HZ.out.1; have h2 := HV.out; omega) HZ.out.2.symm, rfl⟩
                      · have hN1 : (N == 0) = false := by rw [beq_eq_false_iff_ne]; exact hN0
                        by_cases hbig : 2147483647 < 1000 * N
                        · have HZ := hideIt (parse_bign HF.out HG.out (by rw [HV.out]; exact hbig))
                          go_wp2
                          go_ret2
                          exact ⟨ret_two (by have h1 := HZ.out.1; have h2 := HV.out; omega) HZ.out.2.symm, rfl⟩
                        · have HZ := hideIt (parse_neg HF.out HG.out (by rw [HV.out]; omega) (by rw [HV.out]; exact hbig))
                          go_wp2
                          go_ret2
                          exact ⟨ret_two (by have h1 := HZ.out.1; have h2 := HV.out; omega) HZ.out.2.symm, rfl⟩
                  · have HF : Hid (formB l = true) := form_yes (by rw [HB.out]; exact HW.out) (by rw [HB.out, HK.out]; exact fun h => hk1 h.1) (Or.inr (by rw [HB.out]; exact HPt.out))
                    by_cases hN0 : N = 0
                    · subst hN0
                      have HZ := hideIt (parse_zero HF.out HG.out (by rw [HV.out]; decide))
                      go_wp2
                      go_ret2
                      exact ⟨ret_two (by have h1 := HZ.out.1; have h2 := HV.out; omega) HZ.out.2.symm, rfl⟩
                    · have hN1 : (N == 0) = false := by rw [beq_eq_false_iff_ne]; exact hN0
                      by_cases hbig : 2147483647 < 1000 * N
                      · have HZ := hideIt (parse_bign HF.out HG.out (by rw [HV.out]; exact hbig))
                        go_wp2
                        go_ret2
                        exact ⟨ret_two (by have h1 := HZ.out.1; have h2 := HV.out; omega) HZ.out.2.symm, rfl⟩
                      · have HZ := hideIt (parse_neg HF.out HG.out (by rw [HV.out]; omega) (by rw [HV.out]; exact hbig))
                        go_wp2
                        go_ret2
                        exact ⟨ret_two (by have h1 := HZ.out.1; have h2 := HV.out; omega) HZ.out.2.symm, rfl⟩
                · have HF : Hid (formB l = false) := form_no1 (by rw [HB.out]; exact hw)
                  have HZ := hideIt (parse_form HF.out)
                  subst hNe
                  clear hw
                  go_wp2
                  go_ret2
                  exact ⟨ret_two HZ.out.1.symm HZ.out.2.symm, rfl⟩
            · have hm : m = 3 := by omega
              have hxe : x = p := by
                have h := HXP.out
                rw [hm] at h
                simp at h
                exact h
              have HPV : Hid (numL (padL (aftL B)) = p) := HPP.out.symm
              subst hxe
              subst hm
              clear hm3
              rcases HN.out with ⟨hw, hNe, n0, n1⟩ | ⟨hw, hNe⟩
              · have HNe := hideIt hNe
                have HW := hideIt hw
                clear hNe hw
                have HV : Hid (valL l = 1000 * N + x) := by
                  show valL l = _
                  unfold valL
                  rw [HB.out, ← HNe.out, HPV.out]
                  omega
                by_cases hk1 : 1 < k
                · have g3 := S_at B 0 (by omega)
                  by_cases hz : bt B 0 = 48
                  · have HF : Hid (formB l = false) := form_no3 (by rw [HB.out, HK.out]; exact hk1) (by rw [HB.out]; exact hz)
                    rw [hz] at g3
                    clear hz
                    have HZ := hideIt (parse_form HF.out)
                    go_wp2
                    go_ret2
                    exact ⟨ret_two HZ.out.1.symm HZ.out.2.symm, rfl⟩
                  · have HF : Hid (formB l = true) := form_yes (by rw [HB.out]; exact HW.out) (by rw [HB.out]; exact fun h => hz h.2) (Or.inr (by rw [HB.out]; exact HPt.out))
                    have hz1 : (bt B 0 == 48) = false := by rw [beq_eq_false_iff_ne]; exact hz
                    clear hz
                    by_cases hN0 : N = 0
                    · subst hN0
                      by_cases hp0 : x = 0
                      · subst hp0
                        have HZ := hideIt (parse_zero HF.out HG.out (by rw [HV.out]; decide))
                        go_wp2
                        go_ret2
                        exact ⟨ret_two (by have h1 := HZ.out.1; have h2 := HV.out; omega) HZ.out.2.symm, rfl⟩
                      · have hp1 : (x == 0) = false := by rw [beq_eq_false_iff_ne]; exact hp0
                        have HZ := hideIt (parse_neg HF.out HG.out (by rw [HV.out]; omega) (by rw [HV.out]; omega))
                        go_wp2
                        go_ret2
                        exact ⟨ret_two (by have h1 := HZ.out.1; have h2 := HV.out; omega) HZ.out.2.symm, rfl⟩
                    · have hN1 : (N == 0) = false := by rw [beq_eq_false_iff_ne]; exact hN0
                      by_cases hbig : 2147483647 < 1000 * N + x
                      · have HZ := hideIt (parse_bign HF.out HG.out (by rw [HV.out]; exact hbig))
                        go_wp2
                        go_ret2
                        exact ⟨ret_two (by have h1 := HZ.out.1; have h2 := HV.out; omega) HZ.out.2.symm, rfl⟩
                      · have HZ := hideIt (parse_neg HF.out HG.out (by rw [HV.out]; omega) (by rw [HV.out]; exact hbig))
                        go_wp2
                        go_ret2
                        exact ⟨ret_two (by have h1 := HZ.out.1; have h2 := HV.out; omega) HZ.out.2.symm, rfl⟩
                · have HF : Hid (formB l = true) := form_yes (by rw [HB.out]; exact HW.out) (by rw [HB.out, HK.out]; exact fun h => hk1 h.1) (Or.inr (by rw [HB.out]; exact HPt.out))
                  by_cases hN0 : N = 0
                  · subst hN0
                    by_cases hp0 : x = 0
                    · subst hp0
                      have HZ := hideIt (parse_zero HF.out HG.out (by rw [HV.out]; decide))
                      go_wp2
                      go_ret2
                      exact ⟨ret_two (by have h1 := HZ.out.1; have h2 := HV.out; omega) HZ.out.2.symm, rfl⟩
                    · have hp1 : (x == 0) = false := by rw [beq_eq_false_iff_ne]; exact hp0
                      have HZ := hideIt (parse_neg HF.out HG.out (by rw [HV.out]; omega) (by rw [HV.out]; omega))
                      go_wp2
                      go_ret2
                      exact ⟨ret_two (by have h1 := HZ.out.1; have h2 := HV.out; omega) HZ.out.2.symm, rfl⟩
                  · have hN1 : (N == 0) = false := by rw [beq_eq_false_iff_ne]; exact hN0
                    by_cases hbig : 2147483647 < 1000 * N + x
                    · have HZ := hideIt (parse_bign HF.out HG.out (by rw [HV.out]; exact hbig))
                      go_wp2
                      go_ret2
                      exact ⟨ret_two (by have h1 := HZ.out.1; have h2 := HV.out; omega) HZ.out.2.symm, rfl⟩
                    · have HZ := hideIt (parse_neg HF.out HG.out (by rw [HV.out]; omega) (by rw [HV.out]; exact hbig))
                      go_wp2
                      go_ret2
                      exact ⟨ret_two (by have h1 := HZ.out.1; have h2 := HV.out; omega) HZ.out.2.symm, rfl⟩
              · have HF : Hid (formB l = false) := form_no1 (by rw [HB.out]; exact hw)
                have HZ := hideIt (parse_form HF.out)
                subst hNe
                clear hw
                go_wp2
                go_ret2
                exact ⟨ret_two HZ.out.1.symm HZ.out.2.symm, rfl⟩

end Go.Proofs.YtlfcihanhfabmaaGreatDoor.L1
