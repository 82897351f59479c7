/-
  BusLocks: a lock that nobody frees for as long is set, and one that was set is so until it is freed; no lock hangs on another one.
-/
import Derived.Test.YtajjfklglnefkaaBuM
namespace Go.Proofs.Ytajjfklglnefkaa
open Go.RowKit
set_option maxRecDepth 8000
theorem sole_bk {w W : World} {p : Nat} {b : Bz} (h : Sole w W p b) (v0 v1 v2 v3 : Int) : Bk w (W.alloc (.cells #[.int .i64 v0, .int .i64 v1, .int .i64 v2, .int .i64 v3] 46)) p W.heap.size b (fun i => if i = 0 then v0 else if i = 1 then v1 else if i = 2 then v2 else v3) := by
  obtain ⟨o, x, ho⟩ := h.bus
  have a := (After.rfl (w := W)).alloc (.cells #[.int .i64 v0, .int .i64 v1, .int .i64 v2, .int .i64 v3] 46)
  refine ⟨h.aft.trans a, ⟨o, x.after a, ho, ?_⟩, h.aft.size, _, heap_alloc_new W _, rfl, fun i hi => ?_⟩
  · rcases Nat.eq_zero_or_pos (o W.heap.size) with h1 | h1
    · exact h1
    · have := x.bnd W.heap.size (by omega); omega
  · rcases (by omega : i = 0 ∨ i = 1 ∨ i = 2 ∨ i = 3) with rfl | rfl | rfl | rfl <;> rfl
set_option maxHeartbeats 2000000 in
theorem law_locks20 (w : World) (fr : Int) (h1 : -9223372036854775808 ≤ fr) (h2 : fr ≤ 9223372036854775807) (a : Option Addr) (n c : Nat) (zs : List Int) (hz : IRow w a n zs) :
    Calls Try.prog 5 #[.int .i64 fr, .slice a n c] w fun e w' => e = .returned (.bool true) ∧ After w w' := by
  have HA := hideIt (awake_any w)
  have HZ := hideIt hz
  have HB := hideIt (fun W => bring_any fr 100 W h1 h2 (by decide) (by decide))
  have hb := broughtTo_lt fr (m := 100) (by decide)
  clear hz h1 h2
  generalize broughtTo fr 100 = k at *
  have hk1 : (0 : Int) ≤ (k : Int) := by omega
  have hk2 : (k : Int) < 100 := by omega
  have HN := hideIt (fun W => sole_new (w := W) (n := 1) (fr := 1 + (k : Int)) (by omega) (by omega) (by omega) (by omega))
  clear hb
  go_enter Try.func5, Try.ntmps5
  go_wp2_with fail
  refine HA.out.mono ?_
  rintro e w1 ⟨rfl, a1⟩
  have A1 := hideIt a1
  clear a1 HA
  go_wp2_with fail
  refine (HB.out w1).mono ?_
  rintro e w2 ⟨rfl, hw2⟩
  obtain rfl := hw2.symm
  go_wp2_with fail
  refine (HN.out w1).mono ?_
  rintro e w3 ⟨rfl, x3⟩
  have X3 := hideIt (sole_bk x3 (-1000) (-1000) (-1000) (-1000))
  clear x3 HN HB
  go_wp2_with fail
  go_loopw [8, 10] (fun tv iv wr => ∃ (j tk : Nat) (b : Bz), j ≤ n ∧ j ≤ 200 ∧ iv = .int .i64 j ∧ tv = .int .i64 tk ∧ tk ≤ 3 * j ∧ b.ck = (tk : Int) ∧ b.fr = 1 + (k : Int) ∧ Bk w1 wr w1.heap.size w3.heap.size b (fun i => bkOf (b.lk i))) (fun _ iv _ => 200 - (intOf iv).toNat)
  case atStart => exact ⟨0, 0, Bz.new 1 (1 + (k : Int)), Nat.zero_le _, Nat.zero_le _, rfl, rfl, Nat.le_refl _, rfl, rfl, by
    have h := X3.out
    have e : (fun i => if i = 0 then (-1000 : Int) else if i = 1 then -1000 else if i = 2 then -1000 else -1000) = fun i => bkOf ((Bz.new 1 (1 + (k : Int))).lk i) := by
      funext i
      show _ = (-1000 : Int)
      split
      · rfl
      · split
        · rfl
        · split <;> rfl
    rw [e] at h
    exact h⟩
  case round =>
    obtain ⟨j, tk, b, hj, hj2, rfl, rfl, ht, hck, hfr, x⟩ := hrel
    clear X3
    by_cases hgo : j < n ∧ j < 200
    · obtain ⟨hjn, hj200⟩ := hgo
      have i1 : (j : Int) < (n : Int) := by omega
      have i2 : (j : Int) < 200 := by omega
      obtain ⟨bb, off, rfl, hb, d0⟩ := HZ.out.2 j hjn
      have e0 := (A1.out.cell hb (off + j)).trans d0
      have hb1 := Nat.lt_of_lt_of_le hb A1.out.size
      have e1 := (x.aft.cell hb1 (off + j)).trans e0
      clear d0 e0 hb hb1
      generalize zs.getD j 0 = X at *
      obtain ⟨Y, hY, eY⟩ := andFF X
      obtain ⟨D, hD, eD⟩ := and3 (Y : Int)
      obtain ⟨L, hL, eL⟩ := and3 ((Y : Int) / 4)
      obtain ⟨K, hK, eK⟩ := and3 ((Y : Int) / 16)
      have L1 : (L : Int) < 4 := by omega
      have L0 : (0 : Int) ≤ (L : Int) := by omega
      have t1 : (tk : Int) ≤ 600 := by omega
      have D1 : (D : Int) < 4 := by omega
      have HX := hideIt (And.intro x (And.intro hck (And.intro hfr (And.intro hj ht))))
      have e2 := (x.cell hL).1
      have e3 := (x.cell hL).2
      have HF := x.free (L : Int) (t := (tk : Int) + (D : Int)) (by omega)
      have ea : b.freeA (L : Int) ((tk : Int) + (D : Int)) = 0 := by
        unfold Bz.freeA
        rw [if_neg (by omega), if_neg (by omega)]
      have es : b.freeS (L : Int) ((tk : Int) + (D : Int)) = b.free L ((tk : Int) + (D : Int)) := by
        unfold Bz.freeS
        rw [if_neg (by omega), if_neg (by omega)]
        rfl
      rw [ea, es] at HF
      have HF := hideIt HF
      have HS := x.set (L : Int)
      have ea : b.setA (L : Int) = 0 := by
        unfold Bz.setA
        rw [if_neg (by omega)]
      have es : b.setS (L : Int) = b.set L := by
        unfold Bz.setS
        rw [if_neg (by omega)]
        rfl
      rw [ea, es] at HS
      have HS := hideIt HS
      clear x hck hfr ea es
      have hKc : K = 0 ∨ K = 1 ∨ K = 2 ∨ K = 3 := by omega
      clear hK
      rcases hKc with rfl | rfl | rfl | rfl
      · have eK : Go.bits .and .i64 ((Y : Int) / 16) 3 = 0 := eK
        go_wp2_with fail
        refine HF.out.mono ?_
        rintro e w5 ⟨rfl, x5⟩
        have c5 := (x5.cell hL).1
        have f5 := (x5.cell hL).2
        have X5 := hideIt (x5.put hL ((tk : Int) + (D : Int)))
        clear x5 HF HS e2 e3
        go_wp2_with fail
        go_loopw [13] (fun mv wq => ∃ (m : Nat) (b2 : Bz), m ≤ 4 ∧ mv = .int .i64 m ∧ b2.fr = 1 + (k : Int) ∧ b2.ck ≤ (tk : Int) + (D : Int) ∧ (0 < m → b2.ck = (tk : Int) + (D : Int)) ∧ Bk w1 wq w1.heap.size w3.heap.size b2 (fun i => bkOf (b2.lk i))) (fun mv _ => 4 - (intOf mv).toNat)
        case atStart => exact ⟨0, b.free L ((tk : Int) + (D : Int)), by omega, rfl, HX.out.2.2.1, Int.le_refl _, fun _ => rfl, by rw [← bk_free]; exact X5.out⟩
        case round =>
          obtain ⟨m, b2, hm, rfl, hfr2, hck2, hck3, x2⟩ := hrel
          clear X5 c5 f5
          by_cases hm4 : m < 4
          · have m1 : (m : Int) < 4 := by omega
            have m0 : (0 : Int) ≤ (m : Int) := by omega
            obtain ⟨o2, y2, _, _⟩ := x2.bus
            have hq := bk_locked (t := (tk : Int) + (D : Int)) y2.ok (i := m)
            have hqt : bkOf (b2.lk m) ≤ (tk : Int) + (D : Int) := by
              cases hz : b2.lk m with
              | none => show (-1000 : Int) ≤ _; omega
              | some aa => have := (y2.ok.lks m aa hz).2; show aa ≤ _; omega
            have hqm : -1000 ≤ bkOf (b2.lk m) := by
              cases hz : b2.lk m with
              | none => exact Int.le_refl _
              | some aa => have := (y2.ok.lks m aa hz).1; show -1000 ≤ aa; omega
            have HL := x2.locked (m : Int) (t := (tk : Int) + (D : Int)) (by omega)
            have ea : b2.lockA (m : Int) ((tk : Int) + (D : Int)) = (b2.locked m ((tk : Int) + (D : Int)), 0) := by
              unfold Bz.lockA
              rw [if_neg (by omega), if_neg (by omega)]
              rfl
            have es : b2.lockS (m : Int) ((tk : Int) + (D : Int)) = b2.at ((tk : Int) + (D : Int)) := by
              unfold Bz.lockS
              rw [if_neg (by omega), if_neg (by omega)]
            rw [ea, es] at HL
            dsimp only at HL
            have HL := hideIt HL
            rw [hfr2] at hq
            have HB := hideIt hfr2
            clear ea es y2 x2 hck2 hck3 hfr2
            obtain ⟨R, hR⟩ : ∃ R, R = b2.locked m ((tk : Int) + (D : Int)) := ⟨_, rfl⟩
            obtain ⟨q, hqq⟩ : ∃ q, q = bkOf (b2.lk m) := ⟨_, rfl⟩
            rw [← hR] at HL hq
            rw [← hqq] at hq hqt hqm
            have HQ := hideIt (And.intro hqq hq)
            clear hR hqq hq
            by_cases q0 : q < 0
            · obtain rfl : R = true := HQ.out.2.2 (.inl q0)
              go_wp2_with fail
              refine HL.out.mono ?_
              rintro e w6 ⟨rfl, x6⟩
              have c6 := (x6.cell hm4).1
              rw [← HQ.out.1] at c6
              have X6 := hideIt x6
              clear x6 HL
              go_wp2_with fail
              go_roundw
              case rel => exact ⟨m + 1, b2.at ((tk : Int) + (D : Int)), by omega, by go_num, HB.out, Int.le_refl _, fun _ => rfl, X6.out⟩
              case measure => simp [intOf]; omega
            · have hw : IntKind.i64.wrap (q + (1 + (k : Int))) = q + (1 + (k : Int)) := wrap_small _ (by omega) (by omega)
              by_cases q2 : q + (1 + (k : Int)) ≤ (tk : Int) + (D : Int)
              · obtain rfl : R = true := HQ.out.2.2 (.inr q2)
                go_wp2_with fail
                refine HL.out.mono ?_
                rintro e w6 ⟨rfl, x6⟩
                have c6 := (x6.cell hm4).1
                rw [← HQ.out.1] at c6
                have X6 := hideIt x6
                clear x6 HL
                go_wp2_with fail
                go_roundw
                case rel => exact ⟨m + 1, b2.at ((tk : Int) + (D : Int)), by omega, by go_num, HB.out, Int.le_refl _, fun _ => rfl, X6.out⟩
                case measure => simp [intOf]; omega
              · obtain rfl : R = false := by
                  cases R with
                  | false => rfl
                  | true => rcases HQ.out.2.1 rfl with h | h <;> omega
                go_wp2_with fail
                refine HL.out.mono ?_
                rintro e w6 ⟨rfl, x6⟩
                have c6 := (x6.cell hm4).1
                rw [← HQ.out.1] at c6
                have X6 := hideIt x6
                clear x6 HL
                go_wp2_with fail
                go_roundw
                case rel => exact ⟨m + 1, b2.at ((tk : Int) + (D : Int)), by omega, by go_num, HB.out, Int.le_refl _, fun _ => rfl, X6.out⟩
                case measure => simp [intOf]; omega
          · obtain rfl : m = 4 := by omega
            have HY := hideIt (And.intro hfr2 (And.intro (hck3 (by omega)) x2))
            clear hck2 hck3 x2 hfr2 hm hm4
            go_wp2_with fail
            go_roundw
            case rel =>
              obtain ⟨e1, e2, x⟩ := HY.out
              exact ⟨j + 1, tk + D, b2, by omega, by omega, by go_num, by go_num, by omega, by rw [e2]; omega, e1, x⟩
            case measure => simp [intOf]; omega
      · have eK : Go.bits .and .i64 ((Y : Int) / 16) 3 = 1 := eK
        go_wp2_with fail
        refine HF.out.mono ?_
        rintro e w5 ⟨rfl, x5⟩
        have c5 := (x5.cell hL).1
        have f5 := (x5.cell hL).2
        have X5 := hideIt (x5.put hL ((tk : Int) + (D : Int)))
        clear x5 HF HS e2 e3
        go_wp2_with fail
        go_loopw [13] (fun mv wq => ∃ (m : Nat) (b2 : Bz), m ≤ 4 ∧ mv = .int .i64 m ∧ b2.fr = 1 + (k : Int) ∧ b2.ck ≤ (tk : Int) + (D : Int) ∧ (0 < m → b2.ck = (tk : Int) + (D : Int)) ∧ Bk w1 wq w1.heap.size w3.heap.size b2 (fun i => bkOf (b2.lk i))) (fun mv _ => 4 - (intOf mv).toNat)
        case atStart => exact ⟨0, b.free L ((tk : Int) + (D : Int)), by omega, rfl, HX.out.2.2.1, Int.le_refl _, fun _ => rfl, by rw [← bk_free]; exact X5.out⟩
        case round =>
          obtain ⟨m, b2, hm, rfl, hfr2, hck2, hck3, x2⟩ := hrel
          clear X5 c5 f5
          by_cases hm4 : m < 4
          · have m1 : (m : Int) < 4 := by omega
            have m0 : (0 : Int) ≤ (m : Int) := by omega
            obtain ⟨o2, y2, _, _⟩ := x2.bus
            have hq := bk_locked (t := (tk : Int) + (D : Int)) y2.ok (i := m)
            have hqt : bkOf (b2.lk m) ≤ (tk : Int) + (D : Int) := by
              cases hz : b2.lk m with
              | none => show (-1000 : Int) ≤ _; omega
              | some aa => have := (y2.ok.lks m aa hz).2; show aa ≤ _; omega
            have hqm : -1000 ≤ bkOf (b2.lk m) := by
              cases hz : b2.lk m with
              | none => exact Int.le_refl _
              | some aa => have := (y2.ok.lks m aa hz).1; show -1000 ≤ aa; omega
            have HL := x2.locked (m : Int) (t := (tk : Int) + (D : Int)) (by omega)
            have ea : b2.lockA (m : Int) ((tk : Int) + (D : Int)) = (b2.locked m ((tk : Int) + (D : Int)), 0) := by
              unfold Bz.lockA
              rw [if_neg (by omega), if_neg (by omega)]
              rfl
            have es : b2.lockS (m : Int) ((tk : Int) + (D : Int)) = b2.at ((tk : Int) + (D : Int)) := by
              unfold Bz.lockS
              rw [if_neg (by omega), if_neg (by omega)]
            rw [ea, es] at HL
            dsimp only at HL
            have HL := hideIt HL
            rw [hfr2] at hq
            have HB := hideIt hfr2
            clear ea es y2 x2 hck2 hck3 hfr2
            obtain ⟨R, hR⟩ : ∃ R, R = b2.locked m ((tk : Int) + (D : Int)) := ⟨_, rfl⟩
            obtain ⟨q, hqq⟩ : ∃ q, q = bkOf (b2.lk m) := ⟨_, rfl⟩
            rw [← hR] at HL hq
            rw [← hqq] at hq hqt hqm
            have HQ := hideIt (And.intro hqq hq)
            clear hR hqq hq
            by_cases q0 : q < 0
            · obtain rfl : R = true := HQ.out.2.2 (.inl q0)
              go_wp2_with fail
              refine HL.out.mono ?_
              rintro e w6 ⟨rfl, x6⟩
              have c6 := (x6.cell hm4).1
              rw [← HQ.out.1] at c6
              have X6 := hideIt x6
              clear x6 HL
              go_wp2_with fail
              go_roundw
              case rel => exact ⟨m + 1, b2.at ((tk : Int) + (D : Int)), by omega, by go_num, HB.out, Int.le_refl _, fun _ => rfl, X6.out⟩
              case measure => simp [intOf]; omega
            · have hw : IntKind.i64.wrap (q + (1 + (k : Int))) = q + (1 + (k : Int)) := wrap_small _ (by omega) (by omega)
              by_cases q2 : q + (1 + (k : Int)) ≤ (tk : Int) + (D : Int)
              · obtain rfl : R = true := HQ.out.2.2 (.inr q2)
                go_wp2_with fail
                refine HL.out.mono ?_
                rintro e w6 ⟨rfl, x6⟩
                have c6 := (x6.cell hm4).1
                rw [← HQ.out.1] at c6
                have X6 := hideIt x6
                clear x6 HL
                go_wp2_with fail
                go_roundw
                case rel => exact ⟨m + 1, b2.at ((tk : Int) + (D : Int)), by omega, by go_num, HB.out, Int.le_refl _, fun _ => rfl, X6.out⟩
                case measure => simp [intOf]; omega
              · obtain rfl : R = false := by
                  cases R with
                  | false => rfl
                  | true => rcases HQ.out.2.1 rfl with h | h <;> omega
                go_wp2_with fail
                refine HL.out.mono ?_
                rintro e w6 ⟨rfl, x6⟩
                have c6 := (x6.cell hm4).1
                rw [← HQ.out.1] at c6
                have X6 := hideIt x6
                clear x6 HL
                go_wp2_with fail
                go_roundw
                case rel => exact ⟨m + 1, b2.at ((tk : Int) + (D : Int)), by omega, by go_num, HB.out, Int.le_refl _, fun _ => rfl, X6.out⟩
                case measure => simp [intOf]; omega
          · obtain rfl : m = 4 := by omega
            have HY := hideIt (And.intro hfr2 (And.intro (hck3 (by omega)) x2))
            clear hck2 hck3 x2 hfr2 hm hm4
            go_wp2_with fail
            go_roundw
            case rel =>
              obtain ⟨e1, e2, x⟩ := HY.out
              exact ⟨j + 1, tk + D, b2, by omega, by omega, by go_num, by go_num, by omega, by rw [e2]; omega, e1, x⟩
            case measure => simp [intOf]; omega
      · have eK : Go.bits .and .i64 ((Y : Int) / 16) 3 = 2 := eK
        go_wp2_with fail
        refine HS.out.mono ?_
        rintro e w5 ⟨rfl, x5⟩
        have c5 := (x5.cell hL).1
        have f5 := (x5.cell hL).2
        have X5 := hideIt (x5.put hL (-1000))
        clear x5 HF HS e2 e3
        go_wp2_with fail
        go_loopw [13] (fun mv wq => ∃ (m : Nat) (b2 : Bz), m ≤ 4 ∧ mv = .int .i64 m ∧ b2.fr = 1 + (k : Int) ∧ b2.ck ≤ (tk : Int) + (D : Int) ∧ (0 < m → b2.ck = (tk : Int) + (D : Int)) ∧ Bk w1 wq w1.heap.size w3.heap.size b2 (fun i => bkOf (b2.lk i))) (fun mv _ => 4 - (intOf mv).toNat)
        case atStart => exact ⟨0, b.set L, by omega, rfl, HX.out.2.2.1, by have := HX.out.2.1; show b.ck ≤ _; omega, fun h => absurd h (by omega), by rw [← bk_set]; exact X5.out⟩
        case round =>
          obtain ⟨m, b2, hm, rfl, hfr2, hck2, hck3, x2⟩ := hrel
          clear X5 c5 f5
          by_cases hm4 : m < 4
          · have m1 : (m : Int) < 4 := by omega
            have m0 : (0 : Int) ≤ (m : Int) := by omega
            obtain ⟨o2, y2, _, _⟩ := x2.bus
            have hq := bk_locked (t := (tk : Int) + (D : Int)) y2.ok (i := m)
            have hqt : bkOf (b2.lk m) ≤ (tk : Int) + (D : Int) := by
              cases hz : b2.lk m with
              | none => show (-1000 : Int) ≤ _; omega
              | some aa => have := (y2.ok.lks m aa hz).2; show aa ≤ _; omega
            have hqm : -1000 ≤ bkOf (b2.lk m) := by
              cases hz : b2.lk m with
              | none => exact Int.le_refl _
              | some aa => have := (y2.ok.lks m aa hz).1; show -1000 ≤ aa; omega
            have HL := x2.locked (m : Int) (t := (tk : Int) + (D : Int)) (by omega)
            have ea : b2.lockA (m : Int) ((tk : Int) + (D : Int)) = (b2.locked m ((tk : Int) + (D : Int)), 0) := by
              unfold Bz.lockA
              rw [if_neg (by omega), if_neg (by omega)]
              rfl
            have es : b2.lockS (m : Int) ((tk : Int) + (D : Int)) = b2.at ((tk : Int) + (D : Int)) := by
              unfold Bz.lockS
              rw [if_neg (by omega), if_neg (by omega)]
            rw [ea, es] at HL
            dsimp only at HL
            have HL := hideIt HL
            rw [hfr2] at hq
            have HB := hideIt hfr2
            clear ea es y2 x2 hck2 hck3 hfr2
            obtain ⟨R, hR⟩ : ∃ R, R = b2.locked m ((tk : Int) + (D : Int)) := ⟨_, rfl⟩
            obtain ⟨q, hqq⟩ : ∃ q, q = bkOf (b2.lk m) := ⟨_, rfl⟩
            rw [← hR] at HL hq
            rw [← hqq] at hq hqt hqm
            have HQ := hideIt (And.intro hqq hq)
            clear hR hqq hq
            by_cases q0 : q < 0
            · obtain rfl : R = true := HQ.out.2.2 (.inl q0)
              go_wp2_with fail
              refine HL.out.mono ?_
              rintro e w6 ⟨rfl, x6⟩
              have c6 := (x6.cell hm4).1
              rw [← HQ.out.1] at c6
              have X6 := hideIt x6
              clear x6 HL
              go_wp2_with fail
              go_roundw
              case rel => exact ⟨m + 1, b2.at ((tk : Int) + (D : Int)), by omega, by go_num, HB.out, Int.le_refl _, fun _ => rfl, X6.out⟩
              case measure => simp [intOf]; omega
            · have hw : IntKind.i64.wrap (q + (1 + (k : Int))) = q + (1 + (k : Int)) := wrap_small _ (by omega) (by omega)
              by_cases q2 : q + (1 + (k : Int)) ≤ (tk : Int) + (D : Int)
              · obtain rfl : R = true := HQ.out.2.2 (.inr q2)
                go_wp2_with fail
                refine HL.out.mono ?_
                rintro e w6 ⟨rfl, x6⟩
                have c6 := (x6.cell hm4).1
                rw [← HQ.out.1] at c6
                have X6 := hideIt x6
                clear x6 HL
                go_wp2_with fail
                go_roundw
                case rel => exact ⟨m + 1, b2.at ((tk : Int) + (D : Int)), by omega, by go_num, HB.out, Int.le_refl _, fun _ => rfl, X6.out⟩
                case measure => simp [intOf]; omega
              · obtain rfl : R = false := by
                  cases R with
                  | false => rfl
                  | true => rcases HQ.out.2.1 rfl with h | h <;> omega
                go_wp2_with fail
                refine HL.out.mono ?_
                rintro e w6 ⟨rfl, x6⟩
                have c6 := (x6.cell hm4).1
                rw [← HQ.out.1] at c6
                have X6 := hideIt x6
                clear x6 HL
                go_wp2_with fail
                go_roundw
                case rel => exact ⟨m + 1, b2.at ((tk : Int) + (D : Int)), by omega, by go_num, HB.out, Int.le_refl _, fun _ => rfl, X6.out⟩
                case measure => simp [intOf]; omega
          · obtain rfl : m = 4 := by omega
            have HY := hideIt (And.intro hfr2 (And.intro (hck3 (by omega)) x2))
            clear hck2 hck3 x2 hfr2 hm hm4
            go_wp2_with fail
            go_roundw
            case rel =>
              obtain ⟨e1, e2, x⟩ := HY.out
              exact ⟨j + 1, tk + D, b2, by omega, by omega, by go_num, by go_num, by omega, by rw [e2]; omega, e1, x⟩
            case measure => simp [intOf]; omega
      · have eK : Go.bits .and .i64 ((Y : Int) / 16) 3 = 3 := eK
        clear HF HS e2 e3
        go_wp2_with fail
        go_loopw [13] (fun mv wq => ∃ (m : Nat) (b2 : Bz), m ≤ 4 ∧ mv = .int .i64 m ∧ b2.fr = 1 + (k : Int) ∧ b2.ck ≤ (tk : Int) + (D : Int) ∧ (0 < m → b2.ck = (tk : Int) + (D : Int)) ∧ Bk w1 wq w1.heap.size w3.heap.size b2 (fun i => bkOf (b2.lk i))) (fun mv _ => 4 - (intOf mv).toNat)
        case atStart => exact ⟨0, b, by omega, rfl, HX.out.2.2.1, by have := HX.out.2.1; omega, fun h => absurd h (by omega), HX.out.1⟩
        case round =>
          obtain ⟨m, b2, hm, rfl, hfr2, hck2, hck3, x2⟩ := hrel
          by_cases hm4 : m < 4
          · have m1 : (m : Int) < 4 := by omega
            have m0 : (0 : Int) ≤ (m : Int) := by omega
            obtain ⟨o2, y2, _, _⟩ := x2.bus
            have hq := bk_locked (t := (tk : Int) + (D : Int)) y2.ok (i := m)
            have hqt : bkOf (b2.lk m) ≤ (tk : Int) + (D : Int) := by
              cases hz : b2.lk m with
              | none => show (-1000 : Int) ≤ _; omega
              | some aa => have := (y2.ok.lks m aa hz).2; show aa ≤ _; omega
            have hqm : -1000 ≤ bkOf (b2.lk m) := by
              cases hz : b2.lk m with
              | none => exact Int.le_refl _
              | some aa => have := (y2.ok.lks m aa hz).1; show -1000 ≤ aa; omega
            have HL := x2.locked (m : Int) (t := (tk : Int) + (D : Int)) (by omega)
            have ea : b2.lockA (m : Int) ((tk : Int) + (D : Int)) = (b2.locked m ((tk : Int) + (D : Int)), 0) := by
              unfold Bz.lockA
              rw [if_neg (by omega), if_neg (by omega)]
              rfl
            have es : b2.lockS (m : Int) ((tk : Int) + (D : Int)) = b2.at ((tk : Int) + (D : Int)) := by
              unfold Bz.lockS
              rw [if_neg (by omega), if_neg (by omega)]
            rw [ea, es] at HL
            dsimp only at HL
            have HL := hideIt HL
            rw [hfr2] at hq
            have HB := hideIt hfr2
            clear ea es y2 x2 hck2 hck3 hfr2
            obtain ⟨R, hR⟩ : ∃ R, R = b2.locked m ((tk : Int) + (D : Int)) := ⟨_, rfl⟩
            obtain ⟨q, hqq⟩ : ∃ q, q = bkOf (b2.lk m) := ⟨_, rfl⟩
            rw [← hR] at HL hq
            rw [← hqq] at hq hqt hqm
            have HQ := hideIt (And.intro hqq hq)
            clear hR hqq hq
            by_cases q0 : q < 0
            · obtain rfl : R = true := HQ.out.2.2 (.inl q0)
              go_wp2_with fail
              refine HL.out.mono ?_
              rintro e w6 ⟨rfl, x6⟩
              have c6 := (x6.cell hm4).1
              rw [← HQ.out.1] at c6
              have X6 := hideIt x6
              clear x6 HL
              go_wp2_with fail
              go_roundw
              case rel => exact ⟨m + 1, b2.at ((tk : Int) + (D : Int)), by omega, by go_num, HB.out, Int.le_refl _, fun _ => rfl, X6.out⟩
              case measure => simp [intOf]; omega
            · have hw : IntKind.i64.wrap (q + (1 + (k : Int))) = q + (1 + (k : Int)) := wrap_small _ (by omega) (by omega)
              by_cases q2 : q + (1 + (k : Int)) ≤ (tk : Int) + (D : Int)
              · obtain rfl : R = true := HQ.out.2.2 (.inr q2)
                go_wp2_with fail
                refine HL.out.mono ?_
                rintro e w6 ⟨rfl, x6⟩
                have c6 := (x6.cell hm4).1
                rw [← HQ.out.1] at c6
                have X6 := hideIt x6
                clear x6 HL
                go_wp2_with fail
                go_roundw
                case rel => exact ⟨m + 1, b2.at ((tk : Int) + (D : Int)), by omega, by go_num, HB.out, Int.le_refl _, fun _ => rfl, X6.out⟩
                case measure => simp [intOf]; omega
              · obtain rfl : R = false := by
                  cases R with
                  | false => rfl
                  | true => rcases HQ.out.2.1 rfl with h | h <;> omega
                go_wp2_with fail
                refine HL.out.mono ?_
                rintro e w6 ⟨rfl, x6⟩
                have c6 := (x6.cell hm4).1
                rw [← HQ.out.1] at c6
                have X6 := hideIt x6
                clear x6 HL
                go_wp2_with fail
                go_roundw
                case rel => exact ⟨m + 1, b2.at ((tk : Int) + (D : Int)), by omega, by go_num, HB.out, Int.le_refl _, fun _ => rfl, X6.out⟩
                case measure => simp [intOf]; omega
          · obtain rfl : m = 4 := by omega
            have HY := hideIt (And.intro hfr2 (And.intro (hck3 (by omega)) x2))
            clear hck2 hck3 x2 hfr2 hm hm4
            go_wp2_with fail
            go_roundw
            case rel =>
              obtain ⟨e1, e2, x⟩ := HY.out
              exact ⟨j + 1, tk + D, b2, by omega, by omega, by go_num, by go_num, by omega, by rw [e2]; omega, e1, x⟩
            case measure => simp [intOf]; omega
    · have HY := hideIt (And.intro x hck)
      have HL := x.locked 0 (t := (tk : Int) - 1) (by omega)
      have t1 : (tk : Int) ≤ 600 := by omega
      have hdd : (j < n ∧ ¬ j < 200) ∨ ¬ j < n := by omega
      have ea : 0 < tk → b.lockA 0 ((tk : Int) - 1) = (false, 9) := fun h => by
        unfold Bz.lockA
        rw [if_neg (by omega), if_pos (by omega)]
      have HE := hideIt ea
      have HL := hideIt HL
      clear x hck hfr hgo ea
      rcases hdd with ⟨q1, q2⟩ | q1
      · have i1 : (j : Int) < (n : Int) := by omega
        have i2 : ¬ (j : Int) < 200 := by omega
        by_cases h0 : tk = 0
        · subst h0
          go_wp2_with fail
          go_ret
          exact ⟨rfl, A1.out.trans HY.out.1.aft⟩
        · have h1 : (0 : Int) < (tk : Int) := by omega
          have hL := HL.out
          rw [HE.out (by omega)] at hL
          have HL := hideIt hL
          clear hL h0
          have hw : IntKind.i64.wrap ((tk : Int) - 1) = (tk : Int) - 1 := wrap_small _ (by omega) (by omega)
          go_wp2_with fail
          refine HL.out.mono ?_
          rintro e w6 ⟨rfl, x6⟩
          have X6 := hideIt x6
          clear x6 HL
          go_wp2_with fail
          go_ret
          exact ⟨rfl, A1.out.trans X6.out.aft⟩
      · have i1 : ¬ (j : Int) < (n : Int) := by omega
        by_cases h0 : tk = 0
        · subst h0
          go_wp2_with fail
          go_ret
          exact ⟨rfl, A1.out.trans HY.out.1.aft⟩
        · have h1 : (0 : Int) < (tk : Int) := by omega
          have hL := HL.out
          rw [HE.out (by omega)] at hL
          have HL := hideIt hL
          clear hL h0
          have hw : IntKind.i64.wrap ((tk : Int) - 1) = (tk : Int) - 1 := wrap_small _ (by omega) (by omega)
          go_wp2_with fail
          refine HL.out.mono ?_
          rintro e w6 ⟨rfl, x6⟩
          have X6 := hideIt x6
          clear x6 HL
          go_wp2_with fail
          go_ret
          exact ⟨rfl, A1.out.trans X6.out.aft⟩
end Go.Proofs.Ytajjfklglnefkaa
