/-
  The document's part, Value, Atom, node: what they answer.
-/
import Derived.Test.YthgmjeljjladhaaFoB
import Derived.Laws.StructEq
namespace Go.Proofs.Ythgmjeljjladhaa
open Go.RowKit
set_option maxRecDepth 8000
theorem part_any (i n : Int) (w : World) : Calls Try.prog 53 #[.int .i64 i, .int .i64 n] w fun e w' => e = .returned (.bool (idx i n)) ∧ w' = w := by
  unfold idx
  by_cases h : 0 ≤ i
  · have e1 : decide (0 ≤ i) = true := decide_eq_true h
    rw [e1, Bool.true_and]
    go_enter Try.func53, Try.ntmps53
    go_wp2
    go_ret
    exact ⟨rfl, rfl⟩
  · have e1 : decide (0 ≤ i) = false := decide_eq_false h
    rw [e1, Bool.false_and]
    go_enter Try.func53, Try.ntmps53
    go_wp2
    go_ret
    exact ⟨rfl, rfl⟩
theorem refValue_any (s v : Int) (w : World) : Calls Try.prog 59 #[.agg #[.int .i64 s, .int .i64 v]] w fun e w' => e = .returned (.tuple #[.int .i64 (Rd.mk s v).num, .bool (Rd.mk s v).has]) ∧ After w w' := by
  rcases (by omega : s = 1 ∨ s = 2 ∨ (s ≠ 1 ∧ s ≠ 2)) with rfl | rfl | ⟨h1, h2⟩
  · go_enter Try.func59, Try.ntmps59
    go_wp2
    go_ret2
    exact ⟨rfl, After.rfl.alloc _⟩
  · go_enter Try.func59, Try.ntmps59
    go_wp2
    go_ret2
    exact ⟨rfl, After.rfl.alloc _⟩
  · have e1 : (Rd.mk s v).has = false := by simp [Rd.has, h1, h2]
    have e2 : (Rd.mk s v).num = 0 := by simp [Rd.num, e1]
    rw [e1, e2]
    have q1 : (s == 1) = false := by simp [h1]
    have q2 : (s == 2) = false := by simp [h2]
    go_enter Try.func59, Try.ntmps59
    go_wp2
    go_ret2
    exact ⟨rfl, After.rfl.alloc _⟩
/-- What Atom answers. -/
def atomA (x : Nd) (c : Ch) (r : Rd) : Bool × Int := if atomic x.op = true then (atom x c r, 0) else (false, 150)
theorem atom_any (x : Nd) (c : Ch) (r : Rd) (w : World) : Calls Try.prog 40 #[x.val, c.val, r.val] w fun e w' => e = .returned (.tuple #[.bool (atomA x c r).1, .int .i64 (atomA x c r).2]) ∧ After w w' := by
  unfold atomA
  rcases h : atomic x.op with _ | _
  · exact atom_no x c r w h
  · exact atom_yes x c r w h
set_option maxHeartbeats 2000000 in
theorem refAtom_any (x : Nd) (c : Ch) (r : Rd) (w : World) : Calls Try.prog 58 #[x.val, c.val, r.val] w fun e w' => e = .returned (.tuple #[.bool (atomA x c r).1, .int .i64 (atomA x c r).2]) ∧ After w w' := by
  obtain ⟨op, a, b, n⟩ := x
  obtain ⟨s, v⟩ := r
  unfold Nd.val Ch.val Rd.val
  have HV := hideIt (fun W => refValue_any s v W)
  unfold Rd.num at HV
  obtain ⟨A, hA⟩ : ∃ A, atomA ⟨op, a, b, n⟩ c ⟨s, v⟩ = A := ⟨_, rfl⟩
  rw [hA]
  have HA := hideIt hA
  clear hA
  unfold atomA atom at HA
  rcases hb : (Rd.mk s v).has with _ | _
  all_goals
    rw [hb] at HV HA
    simp only [Bool.false_eq_true, if_false, if_true, Bool.false_and, Bool.true_and] at HV HA
    clear hb
    rcases (by omega : op = 1 ∨ op = 2 ∨ op = 3 ∨ op = 4 ∨ op = 5 ∨ (op ≠ 1 ∧ op ≠ 2 ∧ op ≠ 3 ∧ op ≠ 4 ∧ op ≠ 5)) with rfl | rfl | rfl | rfl | rfl | ⟨h1, h2, h3, h4, h5⟩
    all_goals
      first
        | (have e1 : (op == 1) = false := by simp [h1]
           have e2 : (op == 2) = false := by simp [h2]
           have e3 : (op == 3) = false := by simp [h3]
           have e4 : (op == 4) = false := by simp [h4]
           have e5 : (op == 5) = false := by simp [h5]
           have e6 : atomic op = false := by unfold atomic; simp; omega
           rw [e6] at HA
           clear h1 h2 h3 h4 h5 e6)
        | skip
      go_enter Try.func58, Try.ntmps58
      go_wp2_with fail
      refine (HV.out _).mono ?_
      rintro e w2 ⟨rfl, ha⟩
      have k0 := new_cell (((After.rfl.alloc _).alloc _).trans ha) 0 rfl
      have k3 := new_cell (((After.rfl.alloc _).alloc _).trans ha) 3 rfl
      have k5 := new_cell ((After.rfl.alloc _).trans ha) 5 rfl
      have k6 := new_cell ((After.rfl.alloc _).trans ha) 6 rfl
      simp only [size_alloc] at k5 k6
      have HH := hideIt ha
      clear ha
      go_wp2
      go_ret2
      refine ⟨?_, (((After.rfl.alloc _).alloc _).alloc _).trans HH.out⟩
      rw [← HA.out]
      simp [atomic]
set_option maxHeartbeats 8000000 in
theorem refNode_any (x : Nd) (i m : Int) (w : World) : Calls Try.prog 39 #[x.val, .int .i64 i, .int .i64 m] w fun e w' => e = .returned (.bool (okN x i m)) ∧ After w w' := by
  obtain ⟨op, a, b, n⟩ := x
  unfold Nd.val
  have H1 := hideIt (fun W => part_any a i W)
  have H2 := hideIt (fun W => part_any b i W)
  obtain ⟨R, hR⟩ : ∃ R, okN ⟨op, a, b, n⟩ i m = R := ⟨_, rfl⟩
  have HR := hideIt hR
  rw [hR]
  clear hR
  rcases (by omega : ¬ 0 ≤ a ∨ (0 ≤ a ∧ ¬ a < m) ∨ (0 ≤ a ∧ a < m)) with p0 | ⟨p0, p1⟩ | ⟨p0, p1⟩
  · have pi : idx a m = false := by unfold idx; rw [decide_eq_false p0, Bool.false_and]
    have p2 : decide (0 ≤ a) = false := decide_eq_false p0
    rcases (by omega : op = 0 ∨ op = 1 ∨ op = 2 ∨ op = 3 ∨ op = 4 ∨ op = 5 ∨ op = 6 ∨ op = 7 ∨ op = 8 ∨ op = 9 ∨ op = 10 ∨ op = 11 ∨ op = 12 ∨ (op ≠ 0 ∧ op ≠ 1 ∧ op ≠ 2 ∧ op ≠ 3 ∧ op ≠ 4 ∧ op ≠ 5 ∧ op ≠ 6 ∧ op ≠ 7 ∧ op ≠ 8 ∧ op ≠ 9 ∧ op ≠ 10 ∧ op ≠ 11 ∧ op ≠ 12)) with rfl | rfl | rfl | rfl | rfl | rfl | rfl | rfl | rfl | rfl | rfl | rfl | rfl | ⟨h0, h1, h2, h3, h4, h5, h6, h7, h8, h9, h10, h11, h12⟩
    · by_cases z0 : a = 0
      rotate_left
      · have y0 : (a == 0) = false := by simp [z0]
        have hk : R = false := by rw [← HR.out]; simp [okN, z0]
        have HK := hideIt hk
        clear hk HR
        go_enter Try.func39, Try.ntmps39
        go_wp2_with fail
        go_ret
        exact ⟨ret_bool (by rw [HK.out]), After.rfl.alloc _⟩
      exact absurd (show 0 ≤ a by omega) p0
    · have hk : R = false := by rw [← HR.out]; simp [okN, pi]
      have HK := hideIt hk
      clear hk HR
      go_enter Try.func39, Try.ntmps39
      go_wp2_with fail
      go_ret
      exact ⟨ret_bool (by rw [HK.out]), After.rfl.alloc _⟩
    · have hk : R = false := by rw [← HR.out]; simp [okN, pi]
      have HK := hideIt hk
      clear hk HR
      go_enter Try.func39, Try.ntmps39
      go_wp2_with fail
      go_ret
      exact ⟨ret_bool (by rw [HK.out]), After.rfl.alloc _⟩
    · have hk : R = false := by rw [← HR.out]; simp [okN, pi]
      have HK := hideIt hk
      clear hk HR
      go_enter Try.func39, Try.ntmps39
      go_wp2_with fail
      go_ret
      exact ⟨ret_bool (by rw [HK.out]), After.rfl.alloc _⟩
    · have hk : R = false := by rw [← HR.out]; simp [okN, pi]
      have HK := hideIt hk
      clear hk HR
      go_enter Try.func39, Try.ntmps39
      go_wp2_with fail
      go_ret
      exact ⟨ret_bool (by rw [HK.out]), After.rfl.alloc _⟩
    · have hk : R = false := by rw [← HR.out]; simp [okN, pi]
      have HK := hideIt hk
      clear hk HR
      go_enter Try.func39, Try.ntmps39
      go_wp2_with fail
      go_ret
      exact ⟨ret_bool (by rw [HK.out]), After.rfl.alloc _⟩
    · rcases z0 : idx a i with _ | _
      · rw [z0] at H1
        have hk : R = false := by rw [← HR.out]; simp [okN, z0]
        have HK := hideIt hk
        clear hk HR
        go_enter Try.func39, Try.ntmps39
        go_wp2_with fail
        refine (H1.out _).mono ?_
        rintro e w1 ⟨rfl, rfl⟩
        go_wp2_with fail
        go_ret
        exact ⟨ret_bool (by rw [HK.out]), After.rfl.alloc _⟩
      rw [z0] at H1
      by_cases z1 : b = 0
      rotate_left
      · have y1 : (b == 0) = false := by simp [z1]
        have hk : R = false := by rw [← HR.out]; simp [okN, z1, z0]
        have HK := hideIt hk
        clear hk HR
        go_enter Try.func39, Try.ntmps39
        go_wp2_with fail
        refine (H1.out _).mono ?_
        rintro e w1 ⟨rfl, rfl⟩
        go_wp2_with fail
        go_ret
        exact ⟨ret_bool (by rw [HK.out]), After.rfl.alloc _⟩
      subst z1
      have hk : R = (n == 0) := by rw [← HR.out]; rw [beq_dec]; simp [okN, z0]
      have HK := hideIt hk
      clear hk HR
      go_enter Try.func39, Try.ntmps39
      go_wp2_with fail
      refine (H1.out _).mono ?_
      rintro e w1 ⟨rfl, rfl⟩
      go_wp2_with fail
      go_ret
      exact ⟨ret_bool (by rw [HK.out]), After.rfl.alloc _⟩
    · rcases z0 : idx a i with _ | _
      · rw [z0] at H1
        have hk : R = false := by rw [← HR.out]; simp [okN, z0]
        have HK := hideIt hk
        clear hk HR
        go_enter Try.func39, Try.ntmps39
        go_wp2_with fail
        refine (H1.out _).mono ?_
        rintro e w1 ⟨rfl, rfl⟩
        go_wp2_with fail
        go_ret
        exact ⟨ret_bool (by rw [HK.out]), After.rfl.alloc _⟩
      rw [z0] at H1
      rcases z1 : idx b i with _ | _
      · rw [z1] at H2
        have hk : R = false := by rw [← HR.out]; simp [okN, z1, z0]
        have HK := hideIt hk
        clear hk HR
        go_enter Try.func39, Try.ntmps39
        go_wp2_with fail
        refine (H1.out _).mono ?_
        rintro e w1 ⟨rfl, rfl⟩
        go_wp2_with fail
        refine (H2.out _).mono ?_
        rintro e w1 ⟨rfl, rfl⟩
        go_wp2_with fail
        go_ret
        exact ⟨ret_bool (by rw [HK.out]), After.rfl.alloc _⟩
      rw [z1] at H2
      have hk : R = (n == 0) := by rw [← HR.out]; rw [beq_dec]; simp [okN, z0, z1]
      have HK := hideIt hk
      clear hk HR
      go_enter Try.func39, Try.ntmps39
      go_wp2_with fail
      refine (H1.out _).mono ?_
      rintro e w1 ⟨rfl, rfl⟩
      go_wp2_with fail
      refine (H2.out _).mono ?_
      rintro e w1 ⟨rfl, rfl⟩
      go_wp2_with fail
      go_ret
      exact ⟨ret_bool (by rw [HK.out]), After.rfl.alloc _⟩
    · rcases z0 : idx a i with _ | _
      · rw [z0] at H1
        have hk : R = false := by rw [← HR.out]; simp [okN, z0]
        have HK := hideIt hk
        clear hk HR
        go_enter Try.func39, Try.ntmps39
        go_wp2_with fail
        refine (H1.out _).mono ?_
        rintro e w1 ⟨rfl, rfl⟩
        go_wp2_with fail
        go_ret
        exact ⟨ret_bool (by rw [HK.out]), After.rfl.alloc _⟩
      rw [z0] at H1
      rcases z1 : idx b i with _ | _
      · rw [z1] at H2
        have hk : R = false := by rw [← HR.out]; simp [okN, z1, z0]
        have HK := hideIt hk
        clear hk HR
        go_enter Try.func39, Try.ntmps39
        go_wp2_with fail
        refine (H1.out _).mono ?_
        rintro e w1 ⟨rfl, rfl⟩
        go_wp2_with fail
        refine (H2.out _).mono ?_
        rintro e w1 ⟨rfl, rfl⟩
        go_wp2_with fail
        go_ret
        exact ⟨ret_bool (by rw [HK.out]), After.rfl.alloc _⟩
      rw [z1] at H2
      have hk : R = (n == 0) := by rw [← HR.out]; rw [beq_dec]; simp [okN, z0, z1]
      have HK := hideIt hk
      clear hk HR
      go_enter Try.func39, Try.ntmps39
      go_wp2_with fail
      refine (H1.out _).mono ?_
      rintro e w1 ⟨rfl, rfl⟩
      go_wp2_with fail
      refine (H2.out _).mono ?_
      rintro e w1 ⟨rfl, rfl⟩
      go_wp2_with fail
      go_ret
      exact ⟨ret_bool (by rw [HK.out]), After.rfl.alloc _⟩
    · rcases z0 : idx a i with _ | _
      · rw [z0] at H1
        have hk : R = false := by rw [← HR.out]; simp [okN, z0]
        have HK := hideIt hk
        clear hk HR
        go_enter Try.func39, Try.ntmps39
        go_wp2_with fail
        refine (H1.out _).mono ?_
        rintro e w1 ⟨rfl, rfl⟩
        go_wp2_with fail
        go_ret
        exact ⟨ret_bool (by rw [HK.out]), After.rfl.alloc _⟩
      rw [z0] at H1
      by_cases z1 : b = 0
      rotate_left
      · have y1 : (b == 0) = false := by simp [z1]
        have hk : R = false := by rw [← HR.out]; simp [okN, z1, z0]
        have HK := hideIt hk
        clear hk HR
        go_enter Try.func39, Try.ntmps39
        go_wp2_with fail
        refine (H1.out _).mono ?_
        rintro e w1 ⟨rfl, rfl⟩
        go_wp2_with fail
        go_ret
        exact ⟨ret_bool (by rw [HK.out]), After.rfl.alloc _⟩
      subst z1
      have hk : R = (n == 0) := by rw [← HR.out]; rw [beq_dec]; simp [okN, z0]
      have HK := hideIt hk
      clear hk HR
      go_enter Try.func39, Try.ntmps39
      go_wp2_with fail
      refine (H1.out _).mono ?_
      rintro e w1 ⟨rfl, rfl⟩
      go_wp2_with fail
      go_ret
      exact ⟨ret_bool (by rw [HK.out]), After.rfl.alloc _⟩
    · rcases z0 : idx a i with _ | _
      · rw [z0] at H1
        have hk : R = false := by rw [← HR.out]; simp [okN, z0]
        have HK := hideIt hk
        clear hk HR
        go_enter Try.func39, Try.ntmps39
        go_wp2_with fail
        refine (H1.out _).mono ?_
        rintro e w1 ⟨rfl, rfl⟩
        go_wp2_with fail
        go_ret
        exact ⟨ret_bool (by rw [HK.out]), After.rfl.alloc _⟩
      rw [z0] at H1
      by_cases z1 : b = 0
      rotate_left
      · have y1 : (b == 0) = false := by simp [z1]
        have hk : R = false := by rw [← HR.out]; simp [okN, z1, z0]
        have HK := hideIt hk
        clear hk HR
        go_enter Try.func39, Try.ntmps39
        go_wp2_with fail
        refine (H1.out _).mono ?_
        rintro e w1 ⟨rfl, rfl⟩
        go_wp2_with fail
        go_ret
        exact ⟨ret_bool (by rw [HK.out]), After.rfl.alloc _⟩
      subst z1
      by_cases z2 : 0 ≤ n
      rotate_left
      · have y2 : decide (0 ≤ n) = false := decide_eq_false z2
        have hk : R = false := by rw [← HR.out]; simp [okN, y2, z0]
        have HK := hideIt hk
        clear hk HR
        go_enter Try.func39, Try.ntmps39
        go_wp2_with fail
        refine (H1.out _).mono ?_
        rintro e w1 ⟨rfl, rfl⟩
        go_wp2_with fail
        go_ret
        exact ⟨ret_bool (by rw [HK.out]), After.rfl.alloc _⟩
      have y2 : decide (0 ≤ n) = true := decide_eq_true z2
      have hk : R = decide (n ≤ 64) := by rw [← HR.out]; simp [okN, z0, y2]
      have HK := hideIt hk
      clear hk HR
      go_enter Try.func39, Try.ntmps39
      go_wp2_with fail
      refine (H1.out _).mono ?_
      rintro e w1 ⟨rfl, rfl⟩
      go_wp2_with fail
      go_ret
      exact ⟨ret_bool (by rw [HK.out]), After.rfl.alloc _⟩
    · rcases z0 : idx a i with _ | _
      · rw [z0] at H1
        have hk : R = false := by rw [← HR.out]; simp [okN, z0]
        have HK := hideIt hk
        clear hk HR
        go_enter Try.func39, Try.ntmps39
        go_wp2_with fail
        refine (H1.out _).mono ?_
        rintro e w1 ⟨rfl, rfl⟩
        go_wp2_with fail
        go_ret
        exact ⟨ret_bool (by rw [HK.out]), After.rfl.alloc _⟩
      rw [z0] at H1
      by_cases z1 : b = 0
      rotate_left
      · have y1 : (b == 0) = false := by simp [z1]
        have hk : R = false := by rw [← HR.out]; simp [okN, z1, z0]
        have HK := hideIt hk
        clear hk HR
        go_enter Try.func39, Try.ntmps39
        go_wp2_with fail
        refine (H1.out _).mono ?_
        rintro e w1 ⟨rfl, rfl⟩
        go_wp2_with fail
        go_ret
        exact ⟨ret_bool (by rw [HK.out]), After.rfl.alloc _⟩
      subst z1
      by_cases z2 : 0 ≤ n
      rotate_left
      · have y2 : decide (0 ≤ n) = false := decide_eq_false z2
        have hk : R = false := by rw [← HR.out]; simp [okN, y2, z0]
        have HK := hideIt hk
        clear hk HR
        go_enter Try.func39, Try.ntmps39
        go_wp2_with fail
        refine (H1.out _).mono ?_
        rintro e w1 ⟨rfl, rfl⟩
        go_wp2_with fail
        go_ret
        exact ⟨ret_bool (by rw [HK.out]), After.rfl.alloc _⟩
      have y2 : decide (0 ≤ n) = true := decide_eq_true z2
      have hk : R = decide (n ≤ 64) := by rw [← HR.out]; simp [okN, z0, y2]
      have HK := hideIt hk
      clear hk HR
      go_enter Try.func39, Try.ntmps39
      go_wp2_with fail
      refine (H1.out _).mono ?_
      rintro e w1 ⟨rfl, rfl⟩
      go_wp2_with fail
      go_ret
      exact ⟨ret_bool (by rw [HK.out]), After.rfl.alloc _⟩
    · rcases z0 : idx a i with _ | _
      · rw [z0] at H1
        have hk : R = false := by rw [← HR.out]; simp [okN, z0]
        have HK := hideIt hk
        clear hk HR
        go_enter Try.func39, Try.ntmps39
        go_wp2_with fail
        refine (H1.out _).mono ?_
        rintro e w1 ⟨rfl, rfl⟩
        go_wp2_with fail
        go_ret
        exact ⟨ret_bool (by rw [HK.out]), After.rfl.alloc _⟩
      rw [z0] at H1
      rcases z1 : idx b i with _ | _
      · rw [z1] at H2
        have hk : R = false := by rw [← HR.out]; simp [okN, z1, z0]
        have HK := hideIt hk
        clear hk HR
        go_enter Try.func39, Try.ntmps39
        go_wp2_with fail
        refine (H1.out _).mono ?_
        rintro e w1 ⟨rfl, rfl⟩
        go_wp2_with fail
        refine (H2.out _).mono ?_
        rintro e w1 ⟨rfl, rfl⟩
        go_wp2_with fail
        go_ret
        exact ⟨ret_bool (by rw [HK.out]), After.rfl.alloc _⟩
      rw [z1] at H2
      have hk : R = (n == 0) := by rw [← HR.out]; rw [beq_dec]; simp [okN, z0, z1]
      have HK := hideIt hk
      clear hk HR
      go_enter Try.func39, Try.ntmps39
      go_wp2_with fail
      refine (H1.out _).mono ?_
      rintro e w1 ⟨rfl, rfl⟩
      go_wp2_with fail
      refine (H2.out _).mono ?_
      rintro e w1 ⟨rfl, rfl⟩
      go_wp2_with fail
      go_ret
      exact ⟨ret_bool (by rw [HK.out]), After.rfl.alloc _⟩
    · have hk : R = false := by rw [← HR.out]; simp [okN, h0, h1, h2, h3, h4, h5, h6, h7, h8, h9, h10, h11, h12]
      have HK := hideIt hk
      have e0 : (op == 0) = false := by simp [h0]
      have e1 : (op == 1) = false := by simp [h1]
      have e2 : (op == 2) = false := by simp [h2]
      have e3 : (op == 3) = false := by simp [h3]
      have e4 : (op == 4) = false := by simp [h4]
      have e5 : (op == 5) = false := by simp [h5]
      have e6 : (op == 6) = false := by simp [h6]
      have e7 : (op == 7) = false := by simp [h7]
      have e8 : (op == 8) = false := by simp [h8]
      have e9 : (op == 9) = false := by simp [h9]
      have e10 : (op == 10) = false := by simp [h10]
      have e11 : (op == 11) = false := by simp [h11]
      have e12 : (op == 12) = false := by simp [h12]
      clear h0 h1 h2 h3 h4 h5 h6 h7 h8 h9 h10 h11 h12 hk HR
      go_enter Try.func39, Try.ntmps39
      go_wp2_with fail
      go_ret
      exact ⟨ret_bool (by rw [HK.out]), After.rfl.alloc _⟩
  · have pi : idx a m = false := by unfold idx; rw [decide_eq_false p1, Bool.and_false]
    have p2 : decide (0 ≤ a) = true := decide_eq_true p0
    have p3 : decide (a < m) = false := decide_eq_false p1
    rcases (by omega : op = 0 ∨ op = 1 ∨ op = 2 ∨ op = 3 ∨ op = 4 ∨ op = 5 ∨ op = 6 ∨ op = 7 ∨ op = 8 ∨ op = 9 ∨ op = 10 ∨ op = 11 ∨ op = 12 ∨ (op ≠ 0 ∧ op ≠ 1 ∧ op ≠ 2 ∧ op ≠ 3 ∧ op ≠ 4 ∧ op ≠ 5 ∧ op ≠ 6 ∧ op ≠ 7 ∧ op ≠ 8 ∧ op ≠ 9 ∧ op ≠ 10 ∧ op ≠ 11 ∧ op ≠ 12)) with rfl | rfl | rfl | rfl | rfl | rfl | rfl | rfl | rfl | rfl | rfl | rfl | rfl | ⟨h0, h1, h2, h3, h4, h5, h6, h7, h8, h9, h10, h11, h12⟩
    · by_cases z0 : a = 0
      rotate_left
      · have y0 : (a == 0) = false := by simp [z0]
        have hk : R = false := by rw [← HR.out]; simp [okN, z0]
        have HK := hideIt hk
        clear hk HR
        go_enter Try.func39, Try.ntmps39
        go_wp2_with fail
        go_ret
        exact ⟨ret_bool (by rw [HK.out]), After.rfl.alloc _⟩
      subst z0
      by_cases z1 : b = 0
      rotate_left
      · have y1 : (b == 0) = false := by simp [z1]
        have hk : R = false := by rw [← HR.out]; simp [okN, z1]
        have HK := hideIt hk
        clear hk HR
        go_enter Try.func39, Try.ntmps39
        go_wp2_with fail
        go_ret
        exact ⟨ret_bool (by rw [HK.out]), After.rfl.alloc _⟩
      subst z1
      by_cases z2 : n = 0
      rotate_left
      · have y2 : (n == 0) = false := by simp [z2]
        have hk : R = false := by rw [← HR.out]; simp [okN, z2]
        have HK := hideIt hk
        clear hk HR
        go_enter Try.func39, Try.ntmps39
        go_wp2_with fail
        go_ret
        exact ⟨ret_bool (by rw [HK.out]), After.rfl.alloc _⟩
      subst z2
      have hk : R = true := by rw [← HR.out]; simp [okN]
      have HK := hideIt hk
      clear hk HR
      go_enter Try.func39, Try.ntmps39
      go_wp2_with fail
      go_ret
      exact ⟨ret_bool (by rw [HK.out]), After.rfl.alloc _⟩
    · have hk : R = false := by rw [← HR.out]; simp [okN, pi]
      have HK := hideIt hk
      clear hk HR
      go_enter Try.func39, Try.ntmps39
      go_wp2_with fail
      go_ret
      exact ⟨ret_bool (by rw [HK.out]), After.rfl.alloc _⟩
    · have hk : R = false := by rw [← HR.out]; simp [okN, pi]
      have HK := hideIt hk
      clear hk HR
      go_enter Try.func39, Try.ntmps39
      go_wp2_with fail
      go_ret
      exact ⟨ret_bool (by rw [HK.out]), After.rfl.alloc _⟩
    · have hk : R = false := by rw [← HR.out]; simp [okN, pi]
      have HK := hideIt hk
      clear hk HR
      go_enter Try.func39, Try.ntmps39
      go_wp2_with fail
      go_ret
      exact ⟨ret_bool (by rw [HK.out]), After.rfl.alloc _⟩
    · have hk : R = false := by rw [← HR.out]; simp [okN, pi]
      have HK := hideIt hk
      clear hk HR
      go_enter Try.func39, Try.ntmps39
      go_wp2_with fail
      go_ret
      exact ⟨ret_bool (by rw [HK.out]), After.rfl.alloc _⟩
    · have hk : R = false := by rw [← HR.out]; simp [okN, pi]
      have HK := hideIt hk
      clear hk HR
      go_enter Try.func39, Try.ntmps39
      go_wp2_with fail
      go_ret
      exact ⟨ret_bool (by rw [HK.out]), After.rfl.alloc _⟩
    · rcases z0 : idx a i with _ | _
      · rw [z0] at H1
        have hk : R = false := by rw [← HR.out]; simp [okN, z0]
        have HK := hideIt hk
        clear hk HR
        go_enter Try.func39, Try.ntmps39
        go_wp2_with fail
        refine (H1.out _).mono ?_
        rintro e w1 ⟨rfl, rfl⟩
        go_wp2_with fail
        go_ret
        exact ⟨ret_bool (by rw [HK.out]), After.rfl.alloc _⟩
      rw [z0] at H1
      by_cases z1 : b = 0
      rotate_left
      · have y1 : (b == 0) = false := by simp [z1]
        have hk : R = false := by rw [← HR.out]; simp [okN, z1, z0]
        have HK := hideIt hk
        clear hk HR
        go_enter Try.func39, Try.ntmps39
        go_wp2_with fail
        refine (H1.out _).mono ?_
        rintro e w1 ⟨rfl, rfl⟩
        go_wp2_with fail
        go_ret
        exact ⟨ret_bool (by rw [HK.out]), After.rfl.alloc _⟩
      subst z1
      have hk : R = (n == 0) := by rw [← HR.out]; rw [beq_dec]; simp [okN, z0]
      have HK := hideIt hk
      clear hk HR
      go_enter Try.func39, Try.ntmps39
      go_wp2_with fail
      refine (H1.out _).mono ?_
      rintro e w1 ⟨rfl, rfl⟩
      go_wp2_with fail
      go_ret
      exact ⟨ret_bool (by rw [HK.out]), After.rfl.alloc _⟩
    · rcases z0 : idx a i with _ | _
      · rw [z0] at H1
        have hk : R = false := by rw [← HR.out]; simp [okN, z0]
        have HK := hideIt hk
        clear hk HR
        go_enter Try.func39, Try.ntmps39
        go_wp2_with fail
        refine (H1.out _).mono ?_
        rintro e w1 ⟨rfl, rfl⟩
        go_wp2_with fail
        go_ret
        exact ⟨ret_bool (by rw [HK.out]), After.rfl.alloc _⟩
      rw [z0] at H1
      rcases z1 : idx b i with _ | _
      · rw [z1] at H2
        have hk : R = false := by rw [← HR.out]; simp [okN, z1, z0]
        have HK := hideIt hk
        clear hk HR
        go_enter Try.func39, Try.ntmps39
        go_wp2_with fail
        refine (H1.out _).mono ?_
        rintro e w1 ⟨rfl, rfl⟩
        go_wp2_with fail
        refine (H2.out _).mono ?_
        rintro e w1 ⟨rfl, rfl⟩
        go_wp2_with fail
        go_ret
        exact ⟨ret_bool (by rw [HK.out]), After.rfl.alloc _⟩
      rw [z1] at H2
      have hk : R = (n == 0) := by rw [← HR.out]; rw [beq_dec]; simp [okN, z0, z1]
      have HK := hideIt hk
      clear hk HR
      go_enter Try.func39, Try.ntmps39
      go_wp2_with fail
      refine (H1.out _).mono ?_
      rintro e w1 ⟨rfl, rfl⟩
      go_wp2_with fail
      refine (H2.out _).mono ?_
      rintro e w1 ⟨rfl, rfl⟩
      go_wp2_with fail
      go_ret
      exact ⟨ret_bool (by rw [HK.out]), After.rfl.alloc _⟩
    · rcases z0 : idx a i with _ | _
      · rw [z0] at H1
        have hk : R = false := by rw [← HR.out]; simp [okN, z0]
        have HK := hideIt hk
        clear hk HR
        go_enter Try.func39, Try.ntmps39
        go_wp2_with fail
        refine (H1.out _).mono ?_
        rintro e w1 ⟨rfl, rfl⟩
        go_wp2_with fail
        go_ret
        exact ⟨ret_bool (by rw [HK.out]), After.rfl.alloc _⟩
      rw [z0] at H1
      rcases z1 : idx b i with _ | _
      · rw [z1] at H2
        have hk : R = false := by rw [← HR.out]; simp [okN, z1, z0]
        have HK := hideIt hk
        clear hk HR
        go_enter Try.func39, Try.ntmps39
        go_wp2_with fail
        refine (H1.out _).mono ?_
        rintro e w1 ⟨rfl, rfl⟩
        go_wp2_with fail
        refine (H2.out _).mono ?_
        rintro e w1 ⟨rfl, rfl⟩
        go_wp2_with fail
        go_ret
        exact ⟨ret_bool (by rw [HK.out]), After.rfl.alloc _⟩
      rw [z1] at H2
      have hk : R = (n == 0) := by rw [← HR.out]; rw [beq_dec]; simp [okN, z0, z1]
      have HK := hideIt hk
      clear hk HR
      go_enter Try.func39, Try.ntmps39
      go_wp2_with fail
      refine (H1.out _).mono ?_
      rintro e w1 ⟨rfl, rfl⟩
      go_wp2_with fail
      refine (H2.out _).mono ?_
      rintro e w1 ⟨rfl, rfl⟩
      go_wp2_with fail
      go_ret
      exact ⟨ret_bool (by rw [HK.out]), After.rfl.alloc _⟩
    · rcases z0 : idx a i with _ | _
      · rw [z0] at H1
        have hk : R = false := by rw [← HR.out]; simp [okN, z0]
        have HK := hideIt hk
        clear hk HR
        go_enter Try.func39, Try.ntmps39
        go_wp2_with fail
        refine (H1.out _).mono ?_
        rintro e w1 ⟨rfl, rfl⟩
        go_wp2_with fail
        go_ret
        exact ⟨ret_bool (by rw [HK.out]), After.rfl.alloc _⟩
      rw [z0] at H1
      by_cases z1 : b = 0
      rotate_left
      · have y1 : (b == 0) = false := by simp [z1]
        have hk : R = false := by rw [← HR.out]; simp [okN, z1, z0]
        have HK := hideIt hk
        clear hk HR
        go_enter Try.func39, Try.ntmps39
        go_wp2_with fail
        refine (H1.out _).mono ?_
        rintro e w1 ⟨rfl, rfl⟩
        go_wp2_with fail
        go_ret
        exact ⟨ret_bool (by rw [HK.out]), After.rfl.alloc _⟩
      subst z1
      have hk : R = (n == 0) := by rw [← HR.out]; rw [beq_dec]; simp [okN, z0]
      have HK := hideIt hk
      clear hk HR
      go_enter Try.func39, Try.ntmps39
      go_wp2_with fail
      refine (H1.out _).mono ?_
      rintro e w1 ⟨rfl, rfl⟩
      go_wp2_with fail
      go_ret
      exact ⟨ret_bool (by rw [HK.out]), After.rfl.alloc _⟩
    · rcases z0 : idx a i with _ | _
      · rw [z0] at H1
        have hk : R = false := by rw [← HR.out]; simp [okN, z0]
        have HK := hideIt hk
        clear hk HR
        go_enter Try.func39, Try.ntmps39
        go_wp2_with fail
        refine (H1.out _).mono ?_
        rintro e w1 ⟨rfl, rfl⟩
        go_wp2_with fail
        go_ret
        exact ⟨ret_bool (by rw [HK.out]), After.rfl.alloc _⟩
      rw [z0] at H1
      by_cases z1 : b = 0
      rotate_left
      · have y1 : (b == 0) = false := by simp [z1]
        have hk : R = false := by rw [← HR.out]; simp [okN, z1, z0]
        have HK := hideIt hk
        clear hk HR
        go_enter Try.func39, Try.ntmps39
        go_wp2_with fail
        refine (H1.out _).mono ?_
        rintro e w1 ⟨rfl, rfl⟩
        go_wp2_with fail
        go_ret
        exact ⟨ret_bool (by rw [HK.out]), After.rfl.alloc _⟩
      subst z1
      by_cases z2 : 0 ≤ n
      rotate_left
      · have y2 : decide (0 ≤ n) = false := decide_eq_false z2
        have hk : R = false := by rw [← HR.out]; simp [okN, y2, z0]
        have HK := hideIt hk
        clear hk HR
        go_enter Try.func39, Try.ntmps39
        go_wp2_with fail
        refine (H1.out _).mono ?_
        rintro e w1 ⟨rfl, rfl⟩
        go_wp2_with fail
        go_ret
        exact ⟨ret_bool (by rw [HK.out]), After.rfl.alloc _⟩
      have y2 : decide (0 ≤ n) = true := decide_eq_true z2
      have hk : R = decide (n ≤ 64) := by rw [← HR.out]; simp [okN, z0, y2]
      have HK := hideIt hk
      clear hk HR
      go_enter Try.func39, Try.ntmps39
      go_wp2_with fail
      refine (H1.out _).mono ?_
      rintro e w1 ⟨rfl, rfl⟩
      go_wp2_with fail
      go_ret
      exact ⟨ret_bool (by rw [HK.out]), After.rfl.alloc _⟩
    · rcases z0 : idx a i with _ | _
      · rw [z0] at H1
        have hk : R = false := by rw [← HR.out]; simp [okN, z0]
        have HK := hideIt hk
        clear hk HR
        go_enter Try.func39, Try.ntmps39
        go_wp2_with fail
        refine (H1.out _).mono ?_
        rintro e w1 ⟨rfl, rfl⟩
        go_wp2_with fail
        go_ret
        exact ⟨ret_bool (by rw [HK.out]), After.rfl.alloc _⟩
      rw [z0] at H1
      by_cases z1 : b = 0
      rotate_left
      · have y1 : (b == 0) = false := by simp [z1]
        have hk : R = false := by rw [← HR.out]; simp [okN, z1, z0]
        have HK := hideIt hk
        clear hk HR
        go_enter Try.func39, Try.ntmps39
        go_wp2_with fail
        refine (H1.out _).mono ?_
        rintro e w1 ⟨rfl, rfl⟩
        go_wp2_with fail
        go_ret
        exact ⟨ret_bool (by rw [HK.out]), After.rfl.alloc _⟩
      subst z1
      by_cases z2 : 0 ≤ n
      rotate_left
      · have y2 : decide (0 ≤ n) = false := decide_eq_false z2
        have hk : R = false := by rw [← HR.out]; simp [okN, y2, z0]
        have HK := hideIt hk
        clear hk HR
        go_enter Try.func39, Try.ntmps39
        go_wp2_with fail
        refine (H1.out _).mono ?_
        rintro e w1 ⟨rfl, rfl⟩
        go_wp2_with fail
        go_ret
        exact ⟨ret_bool (by rw [HK.out]), After.rfl.alloc _⟩
      have y2 : decide (0 ≤ n) = true := decide_eq_true z2
      have hk : R = decide (n ≤ 64) := by rw [← HR.out]; simp [okN, z0, y2]
      have HK := hideIt hk
      clear hk HR
      go_enter Try.func39, Try.ntmps39
      go_wp2_with fail
      refine (H1.out _).mono ?_
      rintro e w1 ⟨rfl, rfl⟩
      go_wp2_with fail
      go_ret
      exact ⟨ret_bool (by rw [HK.out]), After.rfl.alloc _⟩
    · rcases z0 : idx a i with _ | _
      · rw [z0] at H1
        have hk : R = false := by rw [← HR.out]; simp [okN, z0]
        have HK := hideIt hk
        clear hk HR
        go_enter Try.func39, Try.ntmps39
        go_wp2_with fail
        refine (H1.out _).mono ?_
        rintro e w1 ⟨rfl, rfl⟩
        go_wp2_with fail
        go_ret
        exact ⟨ret_bool (by rw [HK.out]), After.rfl.alloc _⟩
      rw [z0] at H1
      rcases z1 : idx b i with _ | _
      · rw [z1] at H2
        have hk : R = false := by rw [← HR.out]; simp [okN, z1, z0]
        have HK := hideIt hk
        clear hk HR
        go_enter Try.func39, Try.ntmps39
        go_wp2_with fail
        refine (H1.out _).mono ?_
        rintro e w1 ⟨rfl, rfl⟩
        go_wp2_with fail
        refine (H2.out _).mono ?_
        rintro e w1 ⟨rfl, rfl⟩
        go_wp2_with fail
        go_ret
        exact ⟨ret_bool (by rw [HK.out]), After.rfl.alloc _⟩
      rw [z1] at H2
      have hk : R = (n == 0) := by rw [← HR.out]; rw [beq_dec]; simp [okN, z0, z1]
      have HK := hideIt hk
      clear hk HR
      go_enter Try.func39, Try.ntmps39
      go_wp2_with fail
      refine (H1.out _).mono ?_
      rintro e w1 ⟨rfl, rfl⟩
      go_wp2_with fail
      refine (H2.out _).mono ?_
      rintro e w1 ⟨rfl, rfl⟩
      go_wp2_with fail
      go_ret
      exact ⟨ret_bool (by rw [HK.out]), After.rfl.alloc _⟩
    · have hk : R = false := by rw [← HR.out]; simp [okN, h0, h1, h2, h3, h4, h5, h6, h7, h8, h9, h10, h11, h12]
      have HK := hideIt hk
      have e0 : (op == 0) = false := by simp [h0]
      have e1 : (op == 1) = false := by simp [h1]
      have e2 : (op == 2) = false := by simp [h2]
      have e3 : (op == 3) = false := by simp [h3]
      have e4 : (op == 4) = false := by simp [h4]
      have e5 : (op == 5) = false := by simp [h5]
      have e6 : (op == 6) = false := by simp [h6]
      have e7 : (op == 7) = false := by simp [h7]
      have e8 : (op == 8) = false := by simp [h8]
      have e9 : (op == 9) = false := by simp [h9]
      have e10 : (op == 10) = false := by simp [h10]
      have e11 : (op == 11) = false := by simp [h11]
      have e12 : (op == 12) = false := by simp [h12]
      clear h0 h1 h2 h3 h4 h5 h6 h7 h8 h9 h10 h11 h12 hk HR
      go_enter Try.func39, Try.ntmps39
      go_wp2_with fail
      go_ret
      exact ⟨ret_bool (by rw [HK.out]), After.rfl.alloc _⟩
  · have pi : idx a m = true := by unfold idx; rw [decide_eq_true p0, decide_eq_true p1]; rfl
    have p2 : decide (0 ≤ a) = true := decide_eq_true p0
    have p3 : decide (a < m) = true := decide_eq_true p1
    rcases (by omega : op = 0 ∨ op = 1 ∨ op = 2 ∨ op = 3 ∨ op = 4 ∨ op = 5 ∨ op = 6 ∨ op = 7 ∨ op = 8 ∨ op = 9 ∨ op = 10 ∨ op = 11 ∨ op = 12 ∨ (op ≠ 0 ∧ op ≠ 1 ∧ op ≠ 2 ∧ op ≠ 3 ∧ op ≠ 4 ∧ op ≠ 5 ∧ op ≠ 6 ∧ op ≠ 7 ∧ op ≠ 8 ∧ op ≠ 9 ∧ op ≠ 10 ∧ op ≠ 11 ∧ op ≠ 12)) with rfl | rfl | rfl | rfl | rfl | rfl | rfl | rfl | rfl | rfl | rfl | rfl | rfl | ⟨h0, h1, h2, h3, h4, h5, h6, h7, h8, h9, h10, h11, h12⟩
    · by_cases z0 : a = 0
      rotate_left
      · have y0 : (a == 0) = false := by simp [z0]
        have hk : R = false := by rw [← HR.out]; simp [okN, z0]
        have HK := hideIt hk
        clear hk HR
        go_enter Try.func39, Try.ntmps39
        go_wp2_with fail
        go_ret
        exact ⟨ret_bool (by rw [HK.out]), After.rfl.alloc _⟩
      subst z0
      by_cases z1 : b = 0
      rotate_left
      · have y1 : (b == 0) = false := by simp [z1]
        have hk : R = false := by rw [← HR.out]; simp [okN, z1]
        have HK := hideIt hk
        clear hk HR
        go_enter Try.func39, Try.ntmps39
        go_wp2_with fail
        go_ret
        exact ⟨ret_bool (by rw [HK.out]), After.rfl.alloc _⟩
      subst z1
      by_cases z2 : n = 0
      rotate_left
      · have y2 : (n == 0) = false := by simp [z2]
        have hk : R = false := by rw [← HR.out]; simp [okN, z2]
        have HK := hideIt hk
        clear hk HR
        go_enter Try.func39, Try.ntmps39
        go_wp2_with fail
        go_ret
        exact ⟨ret_bool (by rw [HK.out]), After.rfl.alloc _⟩
      subst z2
      have hk : R = true := by rw [← HR.out]; simp [okN]
      have HK := hideIt hk
      clear hk HR
      go_enter Try.func39, Try.ntmps39
      go_wp2_with fail
      go_ret
      exact ⟨ret_bool (by rw [HK.out]), After.rfl.alloc _⟩
    · by_cases zb : b = 0
      rotate_left
      · have yb : (b == 0) = false := by simp [zb]
        have hk : R = false := by rw [← HR.out]; simp [okN, zb]
        have HK := hideIt hk
        clear hk HR
        go_enter Try.func39, Try.ntmps39
        go_wp2_with fail
        go_ret
        exact ⟨ret_bool (by rw [HK.out]), After.rfl.alloc _⟩
      subst zb
      by_cases z1 : -2147483647 ≤ n
      rotate_left
      · have y1 : decide (-2147483647 ≤ n) = false := decide_eq_false z1
        have hk : R = false := by rw [← HR.out]; simp [okN, y1, pi]
        have HK := hideIt hk
        clear hk HR
        go_enter Try.func39, Try.ntmps39
        go_wp2_with fail
        go_ret
        exact ⟨ret_bool (by rw [HK.out]), After.rfl.alloc _⟩
      have y1 : decide (-2147483647 ≤ n) = true := decide_eq_true z1
      have hk : R = decide (n ≤ 2147483647) := by rw [← HR.out]; simp [okN, pi, y1]
      have HK := hideIt hk
      clear hk HR
      go_enter Try.func39, Try.ntmps39
      go_wp2_with fail
      go_ret
      exact ⟨ret_bool (by rw [HK.out]), After.rfl.alloc _⟩
    · by_cases zb : b = 0
      rotate_left
      · have yb : (b == 0) = false := by simp [zb]
        have hk : R = false := by rw [← HR.out]; simp [okN, zb]
        have HK := hideIt hk
        clear hk HR
        go_enter Try.func39, Try.ntmps39
        go_wp2_with fail
        go_ret
        exact ⟨ret_bool (by rw [HK.out]), After.rfl.alloc _⟩
      subst zb
      by_cases z1 : -2147483647 ≤ n
      rotate_left
      · have y1 : decide (-2147483647 ≤ n) = false := decide_eq_false z1
        have hk : R = false := by rw [← HR.out]; simp [okN, y1, pi]
        have HK := hideIt hk
        clear hk HR
        go_enter Try.func39, Try.ntmps39
        go_wp2_with fail
        go_ret
        exact ⟨ret_bool (by rw [HK.out]), After.rfl.alloc _⟩
      have y1 : decide (-2147483647 ≤ n) = true := decide_eq_true z1
      have hk : R = decide (n ≤ 2147483647) := by rw [← HR.out]; simp [okN, pi, y1]
      have HK := hideIt hk
      clear hk HR
      go_enter Try.func39, Try.ntmps39
      go_wp2_with fail
      go_ret
      exact ⟨ret_bool (by rw [HK.out]), After.rfl.alloc _⟩
    · by_cases zb : b = 0
      rotate_left
      · have yb : (b == 0) = false := by simp [zb]
        have hk : R = false := by rw [← HR.out]; simp [okN, zb]
        have HK := hideIt hk
        clear hk HR
        go_enter Try.func39, Try.ntmps39
        go_wp2_with fail
        go_ret
        exact ⟨ret_bool (by rw [HK.out]), After.rfl.alloc _⟩
      subst zb
      have hk : R = (n == 0) := by rw [← HR.out]; rw [beq_dec]; simp [okN, pi]
      have HK := hideIt hk
      clear hk HR
      go_enter Try.func39, Try.ntmps39
      go_wp2_with fail
      go_ret
      exact ⟨ret_bool (by rw [HK.out]), After.rfl.alloc _⟩
    · by_cases zb : b = 0
      rotate_left
      · have yb : (b == 0) = false := by simp [zb]
        have hk : R = false := by rw [← HR.out]; simp [okN, zb]
        have HK := hideIt hk
        clear hk HR
        go_enter Try.func39, Try.ntmps39
        go_wp2_with fail
        go_ret
        exact ⟨ret_bool (by rw [HK.out]), After.rfl.alloc _⟩
      subst zb
      have hk : R = (n == 0) := by rw [← HR.out]; rw [beq_dec]; simp [okN, pi]
      have HK := hideIt hk
      clear hk HR
      go_enter Try.func39, Try.ntmps39
      go_wp2_with fail
      go_ret
      exact ⟨ret_bool (by rw [HK.out]), After.rfl.alloc _⟩
    · by_cases zb : b = 0
      rotate_left
      · have yb : (b == 0) = false := by simp [zb]
        have hk : R = false := by rw [← HR.out]; simp [okN, zb]
        have HK := hideIt hk
        clear hk HR
        go_enter Try.func39, Try.ntmps39
        go_wp2_with fail
        go_ret
        exact ⟨ret_bool (by rw [HK.out]), After.rfl.alloc _⟩
      subst zb
      have hk : R = (n == 0) := by rw [← HR.out]; rw [beq_dec]; simp [okN, pi]
      have HK := hideIt hk
      clear hk HR
      go_enter Try.func39, Try.ntmps39
      go_wp2_with fail
      go_ret
      exact ⟨ret_bool (by rw [HK.out]), After.rfl.alloc _⟩
    · rcases z0 : idx a i with _ | _
      · rw [z0] at H1
        have hk : R = false := by rw [← HR.out]; simp [okN, z0]
        have HK := hideIt hk
        clear hk HR
        go_enter Try.func39, Try.ntmps39
        go_wp2_with fail
        refine (H1.out _).mono ?_
        rintro e w1 ⟨rfl, rfl⟩
        go_wp2_with fail
        go_ret
        exact ⟨ret_bool (by rw [HK.out]), After.rfl.alloc _⟩
      rw [z0] at H1
      by_cases z1 : b = 0
      rotate_left
      · have y1 : (b == 0) = false := by simp [z1]
        have hk : R = false := by rw [← HR.out]; simp [okN, z1, z0]
        have HK := hideIt hk
        clear hk HR
        go_enter Try.func39, Try.ntmps39
        go_wp2_with fail
        refine (H1.out _).mono ?_
        rintro e w1 ⟨rfl, rfl⟩
        go_wp2_with fail
        go_ret
        exact ⟨ret_bool (by rw [HK.out]), After.rfl.alloc _⟩
      subst z1
      have hk : R = (n == 0) := by rw [← HR.out]; rw [beq_dec]; simp [okN, z0]
      have HK := hideIt hk
      clear hk HR
      go_enter Try.func39, Try.ntmps39
      go_wp2_with fail
      refine (H1.out _).mono ?_
      rintro e w1 ⟨rfl, rfl⟩
      go_wp2_with fail
      go_ret
      exact ⟨ret_bool (by rw [HK.out]), After.rfl.alloc _⟩
    · rcases z0 : idx a i with _ | _
      · rw [z0] at H1
        have hk : R = false := by rw [← HR.out]; simp [okN, z0]
        have HK := hideIt hk
        clear hk HR
        go_enter Try.func39, Try.ntmps39
        go_wp2_with fail
        refine (H1.out _).mono ?_
        rintro e w1 ⟨rfl, rfl⟩
        go_wp2_with fail
        go_ret
        exact ⟨ret_bool (by rw [HK.out]), After.rfl.alloc _⟩
      rw [z0] at H1
      rcases z1 : idx b i with _ | _
      · rw [z1] at H2
        have hk : R = false := by rw [← HR.out]; simp [okN, z1, z0]
        have HK := hideIt hk
        clear hk HR
        go_enter Try.func39, Try.ntmps39
        go_wp2_with fail
        refine (H1.out _).mono ?_
        rintro e w1 ⟨rfl, rfl⟩
        go_wp2_with fail
        refine (H2.out _).mono ?_
        rintro e w1 ⟨rfl, rfl⟩
        go_wp2_with fail
        go_ret
        exact ⟨ret_bool (by rw [HK.out]), After.rfl.alloc _⟩
      rw [z1] at H2
      have hk : R = (n == 0) := by rw [← HR.out]; rw [beq_dec]; simp [okN, z0, z1]
      have HK := hideIt hk
      clear hk HR
      go_enter Try.func39, Try.ntmps39
      go_wp2_with fail
      refine (H1.out _).mono ?_
      rintro e w1 ⟨rfl, rfl⟩
      go_wp2_with fail
      refine (H2.out _).mono ?_
      rintro e w1 ⟨rfl, rfl⟩
      go_wp2_with fail
      go_ret
      exact ⟨ret_bool (by rw [HK.out]), After.rfl.alloc _⟩
    · rcases z0 : idx a i with _ | _
      · rw [z0] at H1
        have hk : R = false := by rw [← HR.out]; simp [okN, z0]
        have HK := hideIt hk
        clear hk HR
        go_enter Try.func39, Try.ntmps39
        go_wp2_with fail
        refine (H1.out _).mono ?_
        rintro e w1 ⟨rfl, rfl⟩
        go_wp2_with fail
        go_ret
        exact ⟨ret_bool (by rw [HK.out]), After.rfl.alloc _⟩
      rw [z0] at H1
      rcases z1 : idx b i with _ | _
      · rw [z1] at H2
        have hk : R = false := by rw [← HR.out]; simp [okN, z1, z0]
        have HK := hideIt hk
        clear hk HR
        go_enter Try.func39, Try.ntmps39
        go_wp2_with fail
        refine (H1.out _).mono ?_
        rintro e w1 ⟨rfl, rfl⟩
        go_wp2_with fail
        refine (H2.out _).mono ?_
        rintro e w1 ⟨rfl, rfl⟩
        go_wp2_with fail
        go_ret
        exact ⟨ret_bool (by rw [HK.out]), After.rfl.alloc _⟩
      rw [z1] at H2
      have hk : R = (n == 0) := by rw [← HR.out]; rw [beq_dec]; simp [okN, z0, z1]
      have HK := hideIt hk
      clear hk HR
      go_enter Try.func39, Try.ntmps39
      go_wp2_with fail
      refine (H1.out _).mono ?_
      rintro e w1 ⟨rfl, rfl⟩
      go_wp2_with fail
      refine (H2.out _).mono ?_
      rintro e w1 ⟨rfl, rfl⟩
      go_wp2_with fail
      go_ret
      exact ⟨ret_bool (by rw [HK.out]), After.rfl.alloc _⟩
    · rcases z0 : idx a i with _ | _
      · rw [z0] at H1
        have hk : R = false := by rw [← HR.out]; simp [okN, z0]
        have HK := hideIt hk
        clear hk HR
        go_enter Try.func39, Try.ntmps39
        go_wp2_with fail
        refine (H1.out _).mono ?_
        rintro e w1 ⟨rfl, rfl⟩
        go_wp2_with fail
        go_ret
        exact ⟨ret_bool (by rw [HK.out]), After.rfl.alloc _⟩
      rw [z0] at H1
      by_cases z1 : b = 0
      rotate_left
      · have y1 : (b == 0) = false := by simp [z1]
        have hk : R = false := by rw [← HR.out]; simp [okN, z1, z0]
        have HK := hideIt hk
        clear hk HR
        go_enter Try.func39, Try.ntmps39
        go_wp2_with fail
        refine (H1.out _).mono ?_
        rintro e w1 ⟨rfl, rfl⟩
        go_wp2_with fail
        go_ret
        exact ⟨ret_bool (by rw [HK.out]), After.rfl.alloc _⟩
      subst z1
      have hk : R = (n == 0) := by rw [← HR.out]; rw [beq_dec]; simp [okN, z0]
      have HK := hideIt hk
      clear hk HR
      go_enter Try.func39, Try.ntmps39
      go_wp2_with fail
      refine (H1.out _).mono ?_
      rintro e w1 ⟨rfl, rfl⟩
      go_wp2_with fail
      go_ret
      exact ⟨ret_bool (by rw [HK.out]), After.rfl.alloc _⟩
    · rcases z0 : idx a i with _ | _
      · rw [z0] at H1
        have hk : R = false := by rw [← HR.out]; simp [okN, z0]
        have HK := hideIt hk
        clear hk HR
        go_enter Try.func39, Try.ntmps39
        go_wp2_with fail
        refine (H1.out _).mono ?_
        rintro e w1 ⟨rfl, rfl⟩
        go_wp2_with fail
        go_ret
        exact ⟨ret_bool (by rw [HK.out]), After.rfl.alloc _⟩
      rw [z0] at H1
      by_cases z1 : b = 0
      rotate_left
      · have y1 : (b == 0) = false := by simp [z1]
        have hk : R = false := by rw [← HR.out]; simp [okN, z1, z0]
        have HK := hideIt hk
        clear hk HR
        go_enter Try.func39, Try.ntmps39
        go_wp2_with fail
        refine (H1.out _).mono ?_
        rintro e w1 ⟨rfl, rfl⟩
        go_wp2_with fail
        go_ret
        exact ⟨ret_bool (by rw [HK.out]), After.rfl.alloc _⟩
      subst z1
      by_cases z2 : 0 ≤ n
      rotate_left
      · have y2 : decide (0 ≤ n) = false := decide_eq_false z2
        have hk : R = false := by rw [← HR.out]; simp [okN, y2, z0]
        have HK := hideIt hk
        clear hk HR
        go_enter Try.func39, Try.ntmps39
        go_wp2_with fail
        refine (H1.out _).mono ?_
        rintro e w1 ⟨rfl, rfl⟩
        go_wp2_with fail
        go_ret
        exact ⟨ret_bool (by rw [HK.out]), After.rfl.alloc _⟩
      have y2 : decide (0 ≤ n) = true := decide_eq_true z2
      have hk : R = decide (n ≤ 64) := by rw [← HR.out]; simp [okN, z0, y2]
      have HK := hideIt hk
      clear hk HR
      go_enter Try.func39, Try.ntmps39
      go_wp2_with fail
      refine (H1.out _).mono ?_
      rintro e w1 ⟨rfl, rfl⟩
      go_wp2_with fail
      go_ret
      exact ⟨ret_bool (by rw [HK.out]), After.rfl.alloc _⟩
    · rcases z0 : idx a i with _ | _
      · rw [z0] at H1
        have hk : R = false := by rw [← HR.out]; simp [okN, z0]
        have HK := hideIt hk
        clear hk HR
        go_enter Try.func39, Try.ntmps39
        go_wp2_with fail
        refine (H1.out _).mono ?_
        rintro e w1 ⟨rfl, rfl⟩
        go_wp2_with fail
        go_ret
        exact ⟨ret_bool (by rw [HK.out]), After.rfl.alloc _⟩
      rw [z0] at H1
      by_cases z1 : b = 0
      rotate_left
      · have y1 : (b == 0) = false := by simp [z1]
        have hk : R = false := by rw [← HR.out]; simp [okN, z1, z0]
        have HK := hideIt hk
        clear hk HR
        go_enter Try.func39, Try.ntmps39
        go_wp2_with fail
        refine (H1.out _).mono ?_
        rintro e w1 ⟨rfl, rfl⟩
        go_wp2_with fail
        go_ret
        exact ⟨ret_bool (by rw [HK.out]), After.rfl.alloc _⟩
      subst z1
      by_cases z2 : 0 ≤ n
      rotate_left
      · have y2 : decide (0 ≤ n) = false := decide_eq_false z2
        have hk : R = false := by rw [← HR.out]; simp [okN, y2, z0]
        have HK := hideIt hk
        clear hk HR
        go_enter Try.func39, Try.ntmps39
        go_wp2_with fail
        refine (H1.out _).mono ?_
        rintro e w1 ⟨rfl, rfl⟩
        go_wp2_with fail
        go_ret
        exact ⟨ret_bool (by rw [HK.out]), After.rfl.alloc _⟩
      have y2 : decide (0 ≤ n) = true := decide_eq_true z2
      have hk : R = decide (n ≤ 64) := by rw [← HR.out]; simp [okN, z0, y2]
      have HK := hideIt hk
      clear hk HR
      go_enter Try.func39, Try.ntmps39
      go_wp2_with fail
      refine (H1.out _).mono ?_
      rintro e w1 ⟨rfl, rfl⟩
      go_wp2_with fail
      go_ret
      exact ⟨ret_bool (by rw [HK.out]), After.rfl.alloc _⟩
    · rcases z0 : idx a i with _ | _
      · rw [z0] at H1
        have hk : R = false := by rw [← HR.out]; simp [okN, z0]
        have HK := hideIt hk
        clear hk HR
        go_enter Try.func39, Try.ntmps39
        go_wp2_with fail
        refine (H1.out _).mono ?_
        rintro e w1 ⟨rfl, rfl⟩
        go_wp2_with fail
        go_ret
        exact ⟨ret_bool (by rw [HK.out]), After.rfl.alloc _⟩
      rw [z0] at H1
      rcases z1 : idx b i with _ | _
      · rw [z1] at H2
        have hk : R = false := by rw [← HR.out]; simp [okN, z1, z0]
        have HK := hideIt hk
        clear hk HR
        go_enter Try.func39, Try.ntmps39
        go_wp2_with fail
        refine (H1.out _).mono ?_
        rintro e w1 ⟨rfl, rfl⟩
        go_wp2_with fail
        refine (H2.out _).mono ?_
        rintro e w1 ⟨rfl, rfl⟩
        go_wp2_with fail
        go_ret
        exact ⟨ret_bool (by rw [HK.out]), After.rfl.alloc _⟩
      rw [z1] at H2
      have hk : R = (n == 0) := by rw [← HR.out]; rw [beq_dec]; simp [okN, z0, z1]
      have HK := hideIt hk
      clear hk HR
      go_enter Try.func39, Try.ntmps39
      go_wp2_with fail
      refine (H1.out _).mono ?_
      rintro e w1 ⟨rfl, rfl⟩
      go_wp2_with fail
      refine (H2.out _).mono ?_
      rintro e w1 ⟨rfl, rfl⟩
      go_wp2_with fail
      go_ret
      exact ⟨ret_bool (by rw [HK.out]), After.rfl.alloc _⟩
    · have hk : R = false := by rw [← HR.out]; simp [okN, h0, h1, h2, h3, h4, h5, h6, h7, h8, h9, h10, h11, h12]
      have HK := hideIt hk
      have e0 : (op == 0) = false := by simp [h0]
      have e1 : (op == 1) = false := by simp [h1]
      have e2 : (op == 2) = false := by simp [h2]
      have e3 : (op == 3) = false := by simp [h3]
      have e4 : (op == 4) = false := by simp [h4]
      have e5 : (op == 5) = false := by simp [h5]
      have e6 : (op == 6) = false := by simp [h6]
      have e7 : (op == 7) = false := by simp [h7]
      have e8 : (op == 8) = false := by simp [h8]
      have e9 : (op == 9) = false := by simp [h9]
      have e10 : (op == 10) = false := by simp [h10]
      have e11 : (op == 11) = false := by simp [h11]
      have e12 : (op == 12) = false := by simp [h12]
      clear h0 h1 h2 h3 h4 h5 h6 h7 h8 h9 h10 h11 h12 hk HR
      go_enter Try.func39, Try.ntmps39
      go_wp2_with fail
      go_ret
      exact ⟨ret_bool (by rw [HK.out]), After.rfl.alloc _⟩
end Go.Proofs.Ythgmjeljjladhaa
