/-
  since: what it answers.
-/
import Derived.Test.YthgmjeljjladhaaFoD
namespace Go.Proofs.Ythgmjeljjladhaa
open Go.RowKit Go.Maps
set_option maxRecDepth 8000
theorem sinc_back {f g : Nat → Bool} {k t : Nat} (h : ∀ s, k ≤ s → s ≤ t → g s = false ∧ f s = true) : ∀ d, k + d ≤ t → sinc f g (k + d) = if k = 0 then false else sinc f g (k - 1)
  | 0, hd => by
    obtain ⟨h1, h2⟩ := h k (Nat.le_refl _) (by omega)
    cases k with
    | zero => simp [sinc, h1]
    | succ k => simp [sinc, h1, h2]
  | d + 1, hd => by
    obtain ⟨h1, h2⟩ := h (k + d + 1) (by omega) (by omega)
    have := sinc_back h d (by omega)
    rw [show k + (d + 1) = (k + d) + 1 by omega]
    simp only [sinc, h1, h2, Bool.false_or, Bool.true_and]
    exact this
theorem sinc_zero {f g : Nat → Bool} {t : Nat} (h : ∀ s, 0 ≤ s → s ≤ t → g s = false ∧ f s = true) {s : Nat} (hs : s ≤ t) : sinc f g s = false := by
  have := sinc_back h s (by omega)
  rw [Nat.zero_add, if_pos rfl] at this
  exact this
theorem sinc_at {f g : Nat → Bool} {k t : Nat} (h : ∀ s, k + 1 ≤ s → s ≤ t → g s = false ∧ f s = true) {s : Nat} (h1 : k ≤ s) (h2 : s ≤ t) : sinc f g s = sinc f g k := by
  rcases Nat.eq_or_lt_of_le h1 with rfl | h3
  · rfl
  · have := sinc_back h (s - (k + 1)) (by omega)
    rw [show k + 1 + (s - (k + 1)) = s by omega, if_neg (by omega)] at this
    simpa using this
theorem sinc_yes {f g : Nat → Bool} {k : Nat} (h : g k = true) : sinc f g k = true := by
  cases k with
  | zero => simp [sinc, h]
  | succ k => simp [sinc, h]
theorem sinc_no {f g : Nat → Bool} {k : Nat} (h : g k = false) (h2 : f k = false) : sinc f g k = false := by
  cases k with
  | zero => simp [sinc, h]
  | succ k => simp [sinc, h, h2]
set_option maxHeartbeats 4000000 in
theorem since_any {p : Pl} {L : List Nd} {C : List Ch} {X : List Tr} (hL : L.length ≤ 32) (hX : X.length ≤ 1000) {i ja jb : Nat} {c n : Int} (SA : Says p L C X ja) (SB : Says p L C X jb) (hi : i < L.length)
    (hv : ∀ s, val L C (rdsOf X) i s = sinc (val L C (rdsOf X) ja) (val L C (rdsOf X) jb) s) {t : Nat} (ht : t < X.length) {w : World} (e : Env w p L C X) :
    Calls Try.prog 47 #[.agg #[.int .i64 c, .int .i64 (ja : Int), .int .i64 (jb : Int), .int .i64 n], keyV i t, .map (some p.g), p.fn] w fun x w' => x = .returned (.bool (val L C (rdsOf X) i t)) ∧ Env w' p L C X ∧ But (One p.g) w w' := by
  obtain ⟨W2, hW2⟩ : ∃ W2, W2 = (w.alloc (.cells #[.int .i64 c, .int .i64 (ja : Int), .int .i64 (jb : Int), .int .i64 n] 38)).alloc (.cells #[.int .i64 (i : Int), .int .i64 (t : Int)] 82) := ⟨_, rfl⟩
  have a2 : After w W2 := by rw [hW2]; exact (After.rfl.alloc _).alloc _
  have b1 : W2.cell? ⟨w.heap.size, 1, none⟩ = some (.int .i64 (ja : Int)) := by rw [hW2]; exact new_cell (After.rfl.alloc _) 1 rfl
  have b2 : W2.cell? ⟨w.heap.size, 2, none⟩ = some (.int .i64 (jb : Int)) := by rw [hW2]; exact new_cell (After.rfl.alloc _) 2 rfl
  have d0 : W2.cell? ⟨w.heap.size + 1, 0, none⟩ = some (.int .i64 (i : Int)) := by rw [hW2]; have := new_cell (After.rfl (w := (w.alloc (.cells #[.int .i64 c, .int .i64 (ja : Int), .int .i64 (jb : Int), .int .i64 n] 38)).alloc (.cells #[.int .i64 (i : Int), .int .i64 (t : Int)] 82))) 0 rfl; rw [size_alloc] at this; exact this
  have d1 : W2.cell? ⟨w.heap.size + 1, 1, none⟩ = some (.int .i64 (t : Int)) := by rw [hW2]; have := new_cell (After.rfl (w := (w.alloc (.cells #[.int .i64 c, .int .i64 (ja : Int), .int .i64 (jb : Int), .int .i64 n] 38)).alloc (.cells #[.int .i64 (i : Int), .int .i64 (t : Int)] 82))) 1 rfl; rw [size_alloc] at this; exact this
  have e2 := e.after a2
  have HW := hideIt hW2
  have HE := hideIt (And.intro e2 (And.intro a2 (And.intro b1 (And.intro b2 (And.intro d0 d1)))))
  have HV := hideIt hv
  have HA := hideIt SA
  have HB := hideIt SB
  clear SA SB hv e e2
  go_enter Try.func47, Try.ntmps47
  go_wp2_with fail
  go_loopw [9, 10] (fun a b wr => ∃ (k : Nat) (z : Int), k ≤ t + 1 ∧ z = (k : Int) - 1 ∧ a = .int .i64 z ∧ b = .bool false ∧ (∀ s, k ≤ s → s ≤ t → val L C (rdsOf X) jb s = false ∧ val L C (rdsOf X) ja s = true) ∧ Env wr p L C X ∧ But (One p.g) W2 wr) (fun a _ _ => (intOf a + 1).toNat)
  case atStart => exact ⟨t + 1, _, Nat.le_refl _, by omega, rfl, rfl, fun s h1 h2 => absurd h1 (by omega), by rw [← HW.out]; exact HE.out.1, by rw [← HW.out]; exact But.rfl⟩
  case round =>
    obtain ⟨k, z, hk, hz, rfl, rfl, hm, ew, bw⟩ := hrel
    have k1 := cell_keep HE.out.1.mm.map bw HE.out.2.2.1
    have k2 := cell_keep HE.out.1.mm.map bw HE.out.2.2.2.1
    have k3 := cell_keep HE.out.1.mm.map bw HE.out.2.2.2.2.1
    have k4 := cell_keep HE.out.1.mm.map bw HE.out.2.2.2.2.2
    have hlt := cell_lt k1
    have hlt2 := cell_lt k3
    cases k with
    | zero =>
      obtain rfl : z = -1 := by omega
      have HT : Hid (∀ s, 0 ≤ s → s ≤ t → val L C (rdsOf X) i s = false) := hideIt (fun s _ h2 => by rw [HV.out]; exact sinc_zero hm h2)
      have HZ := hideIt (And.intro ew bw)
      clear hm ew bw hz
      go_wp2_with fail
      go_loopw [13] (fun a wr => ∃ j : Nat, 0 ≤ j ∧ j ≤ t + 1 ∧ a = .int .i64 j ∧ Env wr p L C X ∧ But (One p.g) W2 wr) (fun a _ => t + 1 - (intOf a).toNat)
      case atStart => exact ⟨0, Nat.le_refl _, by omega, rfl, HZ.out.1, HZ.out.2⟩
      case round =>
        obtain ⟨j, hj0, hj, rfl, eu, bu⟩ := hrel
        have u3 := cell_keep HE.out.1.mm.map bu HE.out.2.2.2.2.1
        have u4 := cell_keep HE.out.1.mm.map bu HE.out.2.2.2.2.2
        by_cases hjt : j ≤ t
        · have i5 : (j : Int) ≤ (t : Int) := by omega
          obtain ⟨w9, hrun, m9, b9⟩ := eu.mm.put hL hX hi (show j < X.length by omega)
          rw [HT.out j hj0 hjt] at hrun
          simp only [keyV] at hrun
          have HP := hideIt (And.intro (eu.keep b9 m9) (bu.trans b9))
          clear eu bu m9 b9
          go_wp2
          go_roundw
          case rel => exact ⟨j + 1, by omega, by omega, by go_num, HP.out.1, HP.out.2⟩
          case measure => simp [intOf]; omega
        · have i5 : ¬ (j : Int) ≤ (t : Int) := by omega
          have HP := hideIt (And.intro eu bu)
          clear eu bu
          go_wp2
          go_ret
          exact ⟨ret_bool (HT.out t (by omega) (Nat.le_refl _)).symm, HP.out.1, HE.out.2.1.but.trans HP.out.2⟩
    | succ k =>
      obtain rfl : z = (k : Int) := by omega
      have hkX : k < X.length := by omega
      have hmx : max (k : Int) 0 = (k : Int) := by omega
      have hge : (0 : Int) ≤ (k : Int) := by omega
      obtain ⟨bb, ok, hl, hok⟩ := ew.mm.look hL hX hi hkX
      simp only [keyV] at hl
      have HK := hideIt (fun s (h1 : k ≤ s) (h2 : s ≤ t) => (HV.out s).trans ((sinc_at hm h1 h2).trans (HV.out k).symm))
      have HM := hideIt hm
      have HG := hideIt (And.intro ew bw)
      clear hm hz
      cases ok with
      | true =>
        obtain rfl := hok rfl
        have HT : Hid (∀ s, k ≤ s → s ≤ t → val L C (rdsOf X) i s = val L C (rdsOf X) i k) := hideIt (fun s h1 h2 => HK.out s h1 h2)
        generalize val L C (rdsOf X) i k = IS at *
        clear ew bw hok
        have HZ := hideIt (And.intro (HG.out.1.after (After.rfl.alloc (.cells #[.bool IS] 85))) (HG.out.2.alloc (.cells #[.bool IS] 85)))
        go_wp2_with fail
        go_loopw [13] (fun a wr => ∃ j : Nat, k ≤ j ∧ j ≤ t + 1 ∧ a = .int .i64 j ∧ Env wr p L C X ∧ But (One p.g) W2 wr) (fun a _ => t + 1 - (intOf a).toNat)
        case atStart => exact ⟨k, Nat.le_refl _, by omega, rfl, HZ.out.1, HZ.out.2⟩
        case round =>
          obtain ⟨j, hj0, hj, rfl, eu, bu⟩ := hrel
          have u3 := cell_keep HE.out.1.mm.map bu HE.out.2.2.2.2.1
          have u4 := cell_keep HE.out.1.mm.map bu HE.out.2.2.2.2.2
          by_cases hjt : j ≤ t
          · have i5 : (j : Int) ≤ (t : Int) := by omega
            obtain ⟨w9, hrun, m9, b9⟩ := eu.mm.put hL hX hi (show j < X.length by omega)
            rw [HT.out j hj0 hjt] at hrun
            simp only [keyV] at hrun
            have HP := hideIt (And.intro (eu.keep b9 m9) (bu.trans b9))
            clear eu bu m9 b9
            go_wp2
            go_roundw
            case rel => exact ⟨j + 1, by omega, by omega, by go_num, HP.out.1, HP.out.2⟩
            case measure => simp [intOf]; omega
          · have i5 : ¬ (j : Int) ≤ (t : Int) := by omega
            have HP := hideIt (And.intro eu bu)
            clear eu bu
            go_wp2
            go_ret
            exact ⟨ret_bool (HT.out t (by omega) (Nat.le_refl _)).symm, HP.out.1, HE.out.2.1.but.trans HP.out.2⟩
      | false =>
        clear hok
        have HQ := hideIt (HB.out k hkX _ (ew.after (After.rfl.alloc (.cells #[.bool bb] 85))))
        have l0 := blk_lt (heap_alloc_new wr (.cells #[.bool bb] 85))
        have j1 := (After.rfl.alloc (.cells #[.bool bb] 85)).cell (cell_lt k1) 1 |>.trans k1
        have HJ := hideIt (fun W (hW : But (One p.g) (wr.alloc (.cells #[.bool bb] 85)) W) => cell_keep (ew.after (After.rfl.alloc (.cells #[.bool bb] 85))).mm.map hW j1)
        rcases hqb : val L C (rdsOf X) jb k with _ | _
        · rw [hqb] at HQ
          have HR := hideIt (fun W (hW : Env W p L C X) => HA.out k hkX W hW)
          rcases hqa : val L C (rdsOf X) ja k with _ | _
          · rw [hqa] at HR
            have HT : Hid (∀ s, k ≤ s → s ≤ t → val L C (rdsOf X) i s = false) := hideIt (fun s h1 h2 => by rw [HK.out s h1 h2, HV.out]; exact sinc_no hqb hqa)
            clear ew bw hqa hqb j1
            go_wp2_with fail
            refine HQ.out.mono ?_
            rintro e w5 ⟨rfl, e5, b5⟩
            have j5 := HJ.out _ b5
            have H5 := hideIt (And.intro e5 b5)
            clear b5
            go_wp2_with fail
            refine (HR.out _ e5).mono ?_
            rintro e w6 ⟨rfl, e6, b6⟩
            have HZ := hideIt (And.intro e6 (((HG.out.2.alloc (.cells #[.bool bb] 85)).trans H5.out.2).trans b6))
            clear e5 e6 b6
            go_wp2_with fail
            go_loopw [13] (fun a wr => ∃ j : Nat, k ≤ j ∧ j ≤ t + 1 ∧ a = .int .i64 j ∧ Env wr p L C X ∧ But (One p.g) W2 wr) (fun a _ => t + 1 - (intOf a).toNat)
            case atStart => exact ⟨k, Nat.le_refl _, by omega, rfl, HZ.out.1, HZ.out.2⟩
            case round =>
              obtain ⟨j, hj0, hj, rfl, eu, bu⟩ := hrel
              have u3 := cell_keep HE.out.1.mm.map bu HE.out.2.2.2.2.1
              have u4 := cell_keep HE.out.1.mm.map bu HE.out.2.2.2.2.2
              by_cases hjt : j ≤ t
              · have i5 : (j : Int) ≤ (t : Int) := by omega
                obtain ⟨w9, hrun, m9, b9⟩ := eu.mm.put hL hX hi (show j < X.length by omega)
                rw [HT.out j hj0 hjt] at hrun
                simp only [keyV] at hrun
                have HP := hideIt (And.intro (eu.keep b9 m9) (bu.trans b9))
                clear eu bu m9 b9
                go_wp2
                go_roundw
                case rel => exact ⟨j + 1, by omega, by omega, by go_num, HP.out.1, HP.out.2⟩
                case measure => simp [intOf]; omega
              · have i5 : ¬ (j : Int) ≤ (t : Int) := by omega
                have HP := hideIt (And.intro eu bu)
                clear eu bu
                go_wp2
                go_ret
                exact ⟨ret_bool (HT.out t (by omega) (Nat.le_refl _)).symm, HP.out.1, HE.out.2.1.but.trans HP.out.2⟩
          · rw [hqa] at HR
            have HX := hideIt (And.intro hqb hqa)
            clear ew bw hqa hqb j1
            go_wp2_with fail
            refine HQ.out.mono ?_
            rintro e w5 ⟨rfl, e5, b5⟩
            have j5 := HJ.out _ b5
            have H5 := hideIt (And.intro e5 b5)
            clear b5
            go_wp2_with fail
            refine (HR.out _ e5).mono ?_
            rintro e w6 ⟨rfl, e6, b6⟩
            have HZ := hideIt (And.intro e6 (((HG.out.2.alloc (.cells #[.bool bb] 85)).trans H5.out.2).trans b6))
            clear e5 e6 b6
            go_wp2_with fail
            go_roundw
            case rel => exact ⟨k, _, by omega, rfl, by go_num, rfl, fun s h1 h2 => (if hs : s = k then by rw [hs]; exact HX.out else HM.out s (by omega) h2), HZ.out.1, HZ.out.2⟩
            case measure => simp [intOf]
        · rw [hqb] at HQ
          have HT : Hid (∀ s, k ≤ s → s ≤ t → val L C (rdsOf X) i s = true) := hideIt (fun s h1 h2 => by rw [HK.out s h1 h2, HV.out]; exact sinc_yes hqb)
          clear ew bw hqb j1
          go_wp2_with fail
          refine HQ.out.mono ?_
          rintro e w5 ⟨rfl, e5, b5⟩
          have HZ := hideIt (And.intro e5 ((HG.out.2.alloc (.cells #[.bool bb] 85)).trans b5))
          clear e5 b5
          go_wp2_with fail
          go_loopw [13] (fun a wr => ∃ j : Nat, k ≤ j ∧ j ≤ t + 1 ∧ a = .int .i64 j ∧ Env wr p L C X ∧ But (One p.g) W2 wr) (fun a _ => t + 1 - (intOf a).toNat)
          case atStart => exact ⟨k, Nat.le_refl _, by omega, rfl, HZ.out.1, HZ.out.2⟩
          case round =>
            obtain ⟨j, hj0, hj, rfl, eu, bu⟩ := hrel
            have u3 := cell_keep HE.out.1.mm.map bu HE.out.2.2.2.2.1
            have u4 := cell_keep HE.out.1.mm.map bu HE.out.2.2.2.2.2
            by_cases hjt : j ≤ t
            · have i5 : (j : Int) ≤ (t : Int) := by omega
              obtain ⟨w9, hrun, m9, b9⟩ := eu.mm.put hL hX hi (show j < X.length by omega)
              rw [HT.out j hj0 hjt] at hrun
              simp only [keyV] at hrun
              have HP := hideIt (And.intro (eu.keep b9 m9) (bu.trans b9))
              clear eu bu m9 b9
              go_wp2
              go_roundw
              case rel => exact ⟨j + 1, by omega, by omega, by go_num, HP.out.1, HP.out.2⟩
              case measure => simp [intOf]; omega
            · have i5 : ¬ (j : Int) ≤ (t : Int) := by omega
              have HP := hideIt (And.intro eu bu)
              clear eu bu
              go_wp2
              go_ret
              exact ⟨ret_bool (HT.out t (by omega) (Nat.le_refl _)).symm, HP.out.1, HE.out.2.1.but.trans HP.out.2⟩
end Go.Proofs.Ythgmjeljjladhaa
