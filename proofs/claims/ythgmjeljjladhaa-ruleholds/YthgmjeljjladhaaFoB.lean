/-
  isIndex, isAtom, Value, Atom, mayBe: what they answer.
-/
import Derived.Test.YthgmjeljjladhaaFoA
import Derived.BigQuiet
namespace Go.Proofs.Ythgmjeljjladhaa
open Go.RowKit
set_option maxRecDepth 8000
theorem ret_be {a a' : Bool} {e : Int} (h : a = a') : Ending.returned (.tuple #[.bool a, .int .i64 e]) = .returned (.tuple #[.bool a', .int .i64 e]) := by rw [h]
theorem beq_dec (n : Int) : (n == 0) = decide (n = 0) := by
  by_cases h : n = 0
  · subst h; rfl
  · rw [decide_eq_false h]; simp [h]
theorem size_alloc (w : World) (o : Obj) : (w.alloc o).heap.size = w.heap.size + 1 := by simp
theorem new_cell {w W : World} {cs : Array Value} {T : TypeId} (h : After (w.alloc (.cells cs T)) W) (i : Nat) {v : Value} (hi : cs[i]? = some v) : W.cell? ⟨w.heap.size, i, none⟩ = some v :=
  (h.cell (by simp) i).trans (blk_cell (heap_alloc_new w _) hi)
theorem isIndex_any (i n : Int) (w : World) : Calls Try.prog 33 #[.int .i64 i, .int .i64 n] w fun e w' => e = .returned (.bool (idx i n)) ∧ w' = w := by
  unfold idx
  by_cases h : 0 ≤ i
  · have e1 : decide (0 ≤ i) = true := decide_eq_true h
    rw [e1, Bool.true_and]
    go_enter Try.func33, Try.ntmps33
    go_wp2
    go_ret
    exact ⟨rfl, rfl⟩
  · have e1 : decide (0 ≤ i) = false := decide_eq_false h
    rw [e1, Bool.false_and]
    go_enter Try.func33, Try.ntmps33
    go_wp2
    go_ret
    exact ⟨rfl, rfl⟩
theorem isAtom_any (i : Int) (w : World) : Calls Try.prog 43 #[.int .i64 i] w fun e w' => e = .returned (.bool (atomic i)) ∧ w' = w := by
  unfold atomic
  by_cases h : 1 ≤ i
  · have e1 : decide (1 ≤ i) = true := decide_eq_true h
    rw [e1, Bool.true_and]
    go_enter Try.func43, Try.ntmps43
    go_wp2
    go_ret
    exact ⟨rfl, rfl⟩
  · have e1 : decide (1 ≤ i) = false := decide_eq_false h
    rw [e1, Bool.false_and]
    go_enter Try.func43, Try.ntmps43
    go_wp2
    go_ret
    exact ⟨rfl, rfl⟩
theorem value_any (s v : Int) (w : World) : Calls Try.prog 54 #[.agg #[.int .i64 s, .int .i64 v]] w fun e w' => e = .returned (.tuple #[.int .i64 (Rd.mk s v).num, .bool (Rd.mk s v).has]) ∧ After w w' := by
  rcases (by omega : s = 1 ∨ s = 2 ∨ (s ≠ 1 ∧ s ≠ 2)) with rfl | rfl | ⟨h1, h2⟩
  · go_enter Try.func54, Try.ntmps54
    go_wp2
    go_ret2
    exact ⟨rfl, After.rfl.alloc _⟩
  · go_enter Try.func54, Try.ntmps54
    go_wp2
    go_ret2
    exact ⟨rfl, After.rfl.alloc _⟩
  · have e1 : (Rd.mk s v).has = false := by simp [Rd.has, h1, h2]
    have e2 : (Rd.mk s v).num = 0 := by simp [Rd.num, e1]
    rw [e1, e2]
    have q1 : (s != 1) = true := by simp [h1]
    have q2 : (s != 2) = true := by simp [h2]
    go_enter Try.func54, Try.ntmps54
    go_wp2
    go_ret2
    exact ⟨rfl, After.rfl.alloc _⟩
theorem atom_no (x : Nd) (c : Ch) (r : Rd) (w : World) (HA : atomic x.op = false) : Calls Try.prog 40 #[x.val, c.val, r.val] w fun e w' => e = .returned (.tuple #[.bool false, .int .i64 150]) ∧ After w w' := by
  unfold Nd.val Ch.val Rd.val
  go_enter Try.func40, Try.ntmps40
  go_wp2_with (go_at_call 43; refine (isAtom_any _ _).mono ?_; rintro e w1 ⟨rfl, rfl⟩; rw [HA])
  go_ret2
  exact ⟨rfl, ((After.rfl.alloc _).alloc _).alloc _⟩
theorem atom_yes (x : Nd) (c : Ch) (r : Rd) (w : World) (HA : atomic x.op = true) : Calls Try.prog 40 #[x.val, c.val, r.val] w fun e w' => e = .returned (.tuple #[.bool (atom x c r), .int .i64 0]) ∧ After w w' := by
  obtain ⟨op, a, b, n⟩ := x
  obtain ⟨s, v⟩ := r
  unfold Nd.val Ch.val Rd.val atom
  have HA' : atomic op = true := HA
  clear HA
  have hop : 1 ≤ op ∧ op ≤ 5 := by simpa [atomic] using HA'
  have HV := hideIt (fun W => value_any s v W)
  unfold Rd.num at HV
  rcases hb : (Rd.mk s v).has with _ | _
  · rw [hb] at HV
    simp only [Bool.false_eq_true, if_false, Bool.false_and] at HV ⊢
    clear hb
    have HC := hideIt (fun W => isAtom_any op W)
    rw [HA'] at HC
    clear HA'
    go_enter Try.func40, Try.ntmps40
    go_wp2_with (first | (go_at_call 43; refine (HC.out _).mono ?_; rintro e w1 ⟨rfl, rfl⟩) | (go_at_call 54; refine (HV.out _).mono ?_; rintro e w1 ⟨rfl, ha⟩))
    go_ret2
    exact ⟨rfl, (((After.rfl.alloc _).alloc _).alloc _).trans ha⟩
  rw [hb] at HV
  simp only [if_true, Bool.true_and] at HV ⊢
  clear hb
  rcases (by omega : op = 1 ∨ op = 2 ∨ op = 3 ∨ op = 4 ∨ op = 5) with rfl | rfl | rfl | rfl | rfl
  all_goals
    clear HA' hop
    go_enter Try.func40, Try.ntmps40
    go_wp2_with fail
    refine (isAtom_any _ _).mono ?_
    rintro e w1 ⟨rfl, rfl⟩
    rw [show atomic _ = true from rfl]
    go_wp2_with fail
    refine (HV.out _).mono ?_
    rintro e w2 ⟨rfl, ha⟩
    have k0 := new_cell (((After.rfl.alloc _).alloc _).trans ha) 0 rfl
    have k3 := new_cell (((After.rfl.alloc _).alloc _).trans ha) 3 rfl
    have k5 := new_cell ((After.rfl.alloc _).trans ha) 5 rfl
    have k6 := new_cell ((After.rfl.alloc _).trans ha) 6 rfl
    simp only [size_alloc] at k5 k6
    have HH := hideIt ha
    clear ha
    go_wp2
    go_ret2
    exact ⟨ret_be (by simp), (((After.rfl.alloc _).alloc _).alloc _).trans HH.out⟩
set_option maxHeartbeats 4000000 in
theorem mayBe_any (x : Nd) (i m : Int) (w : World) : Calls Try.prog 32 #[x.val, .int .i64 i, .int .i64 m] w fun e w' => e = .returned (.bool (okN x i m)) ∧ After w w' := by
  obtain ⟨op, a, b, n⟩ := x
  unfold Nd.val
  have H1 := hideIt (fun W => isIndex_any a i W)
  have H2 := hideIt (fun W => isIndex_any b i W)
  have H3 := hideIt (fun W => isIndex_any a m W)
  rcases (by omega : op = 0 ∨ op = 1 ∨ op = 2 ∨ op = 3 ∨ op = 4 ∨ op = 5 ∨ op = 6 ∨ op = 7 ∨ op = 8 ∨ op = 9 ∨ op = 10 ∨ op = 11 ∨ op = 12 ∨ (op ≠ 0 ∧ op ≠ 1 ∧ op ≠ 2 ∧ op ≠ 3 ∧ op ≠ 4 ∧ op ≠ 5 ∧ op ≠ 6 ∧ op ≠ 7 ∧ op ≠ 8 ∧ op ≠ 9 ∧ op ≠ 10 ∧ op ≠ 11 ∧ op ≠ 12)) with rfl | rfl | rfl | rfl | rfl | rfl | rfl | rfl | rfl | rfl | rfl | rfl | rfl | ⟨h0, h1, h2, h3, h4, h5, h6, h7, h8, h9, h10, h11, h12⟩
  · by_cases z0 : a = 0
    rotate_left
    · have y0 : (a == 0) = false := by simp [z0]
      go_enter Try.func32, Try.ntmps32
      go_wp2
      go_ret
      exact ⟨ret_bool (by simp [okN, z0]), After.rfl.alloc _⟩
    subst z0
    by_cases z1 : b = 0
    rotate_left
    · have y1 : (b == 0) = false := by simp [z1]
      go_enter Try.func32, Try.ntmps32
      go_wp2
      go_ret
      exact ⟨ret_bool (by simp [okN, z1]), After.rfl.alloc _⟩
    subst z1
    go_enter Try.func32, Try.ntmps32
    go_wp2
    go_ret
    exact ⟨ret_bool (by rw [beq_dec]; simp [okN]), After.rfl.alloc _⟩
  · rcases q0 : idx a m with _ | _
    · rw [q0] at H3
      go_enter Try.func32, Try.ntmps32
      go_wp2_with fail
      refine (H3.out _).mono ?_
      rintro e w1 ⟨rfl, rfl⟩
      go_wp2
      go_ret
      exact ⟨ret_bool (by simp [okN, q0]), After.rfl.alloc _⟩
    rw [q0] at H3
    by_cases z1 : b = 0
    rotate_left
    · have y1 : (b == 0) = false := by simp [z1]
      go_enter Try.func32, Try.ntmps32
      go_wp2_with fail
      refine (H3.out _).mono ?_
      rintro e w1 ⟨rfl, rfl⟩
      go_wp2
      go_ret
      exact ⟨ret_bool (by simp [okN, z1, q0]), After.rfl.alloc _⟩
    subst z1
    by_cases z2 : -2147483647 ≤ n
    rotate_left
    · have y2 : decide (-2147483647 ≤ n) = false := decide_eq_false z2
      have hk : okN ⟨1, a, 0, n⟩ i m = false := by simp [okN, y2]
      rw [hk]
      go_enter Try.func32, Try.ntmps32
      go_wp2_with fail
      refine (H3.out _).mono ?_
      rintro e w1 ⟨rfl, rfl⟩
      go_wp2
      go_ret
      exact ⟨rfl, After.rfl.alloc _⟩
    have y2 : decide (-2147483647 ≤ n) = true := decide_eq_true z2
    have hk : okN ⟨1, a, 0, n⟩ i m = decide (n ≤ 2147483647) := by simp [okN, y2, q0]
    rw [hk]
    go_enter Try.func32, Try.ntmps32
    go_wp2_with fail
    refine (H3.out _).mono ?_
    rintro e w1 ⟨rfl, rfl⟩
    go_wp2
    go_ret
    exact ⟨rfl, After.rfl.alloc _⟩
  · rcases q0 : idx a m with _ | _
    · rw [q0] at H3
      go_enter Try.func32, Try.ntmps32
      go_wp2_with fail
      refine (H3.out _).mono ?_
      rintro e w1 ⟨rfl, rfl⟩
      go_wp2
      go_ret
      exact ⟨ret_bool (by simp [okN, q0]), After.rfl.alloc _⟩
    rw [q0] at H3
    by_cases z1 : b = 0
    rotate_left
    · have y1 : (b == 0) = false := by simp [z1]
      go_enter Try.func32, Try.ntmps32
      go_wp2_with fail
      refine (H3.out _).mono ?_
      rintro e w1 ⟨rfl, rfl⟩
      go_wp2
      go_ret
      exact ⟨ret_bool (by simp [okN, z1, q0]), After.rfl.alloc _⟩
    subst z1
    by_cases z2 : -2147483647 ≤ n
    rotate_left
    · have y2 : decide (-2147483647 ≤ n) = false := decide_eq_false z2
      have hk : okN ⟨2, a, 0, n⟩ i m = false := by simp [okN, y2]
      rw [hk]
      go_enter Try.func32, Try.ntmps32
      go_wp2_with fail
      refine (H3.out _).mono ?_
      rintro e w1 ⟨rfl, rfl⟩
      go_wp2
      go_ret
      exact ⟨rfl, After.rfl.alloc _⟩
    have y2 : decide (-2147483647 ≤ n) = true := decide_eq_true z2
    have hk : okN ⟨2, a, 0, n⟩ i m = decide (n ≤ 2147483647) := by simp [okN, y2, q0]
    rw [hk]
    go_enter Try.func32, Try.ntmps32
    go_wp2_with fail
    refine (H3.out _).mono ?_
    rintro e w1 ⟨rfl, rfl⟩
    go_wp2
    go_ret
    exact ⟨rfl, After.rfl.alloc _⟩
  · rcases q0 : idx a m with _ | _
    · rw [q0] at H3
      go_enter Try.func32, Try.ntmps32
      go_wp2_with fail
      refine (H3.out _).mono ?_
      rintro e w1 ⟨rfl, rfl⟩
      go_wp2
      go_ret
      exact ⟨ret_bool (by simp [okN, q0]), After.rfl.alloc _⟩
    rw [q0] at H3
    by_cases z1 : b = 0
    rotate_left
    · have y1 : (b == 0) = false := by simp [z1]
      go_enter Try.func32, Try.ntmps32
      go_wp2_with fail
      refine (H3.out _).mono ?_
      rintro e w1 ⟨rfl, rfl⟩
      go_wp2
      go_ret
      exact ⟨ret_bool (by simp [okN, z1, q0]), After.rfl.alloc _⟩
    subst z1
    go_enter Try.func32, Try.ntmps32
    go_wp2_with fail
    refine (H3.out _).mono ?_
    rintro e w1 ⟨rfl, rfl⟩
    go_wp2
    go_ret
    exact ⟨ret_bool (by rw [beq_dec]; simp [okN, q0]), After.rfl.alloc _⟩
  · rcases q0 : idx a m with _ | _
    · rw [q0] at H3
      go_enter Try.func32, Try.ntmps32
      go_wp2_with fail
      refine (H3.out _).mono ?_
      rintro e w1 ⟨rfl, rfl⟩
      go_wp2
      go_ret
      exact ⟨ret_bool (by simp [okN, q0]), After.rfl.alloc _⟩
    rw [q0] at H3
    by_cases z1 : b = 0
    rotate_left
    · have y1 : (b == 0) = false := by simp [z1]
      go_enter Try.func32, Try.ntmps32
      go_wp2_with fail
      refine (H3.out _).mono ?_
      rintro e w1 ⟨rfl, rfl⟩
      go_wp2
      go_ret
      exact ⟨ret_bool (by simp [okN, z1, q0]), After.rfl.alloc _⟩
    subst z1
    go_enter Try.func32, Try.ntmps32
    go_wp2_with fail
    refine (H3.out _).mono ?_
    rintro e w1 ⟨rfl, rfl⟩
    go_wp2
    go_ret
    exact ⟨ret_bool (by rw [beq_dec]; simp [okN, q0]), After.rfl.alloc _⟩
  · rcases q0 : idx a m with _ | _
    · rw [q0] at H3
      go_enter Try.func32, Try.ntmps32
      go_wp2_with fail
      refine (H3.out _).mono ?_
      rintro e w1 ⟨rfl, rfl⟩
      go_wp2
      go_ret
      exact ⟨ret_bool (by simp [okN, q0]), After.rfl.alloc _⟩
    rw [q0] at H3
    by_cases z1 : b = 0
    rotate_left
    · have y1 : (b == 0) = false := by simp [z1]
      go_enter Try.func32, Try.ntmps32
      go_wp2_with fail
      refine (H3.out _).mono ?_
      rintro e w1 ⟨rfl, rfl⟩
      go_wp2
      go_ret
      exact ⟨ret_bool (by simp [okN, z1, q0]), After.rfl.alloc _⟩
    subst z1
    go_enter Try.func32, Try.ntmps32
    go_wp2_with fail
    refine (H3.out _).mono ?_
    rintro e w1 ⟨rfl, rfl⟩
    go_wp2
    go_ret
    exact ⟨ret_bool (by rw [beq_dec]; simp [okN, q0]), After.rfl.alloc _⟩
  · rcases q0 : idx a i with _ | _
    · rw [q0] at H1
      go_enter Try.func32, Try.ntmps32
      go_wp2_with fail
      refine (H1.out _).mono ?_
      rintro e w1 ⟨rfl, rfl⟩
      go_wp2
      go_ret
      exact ⟨ret_bool (by simp [okN, q0]), After.rfl.alloc _⟩
    rw [q0] at H1
    by_cases z1 : b = 0
    rotate_left
    · have y1 : (b == 0) = false := by simp [z1]
      go_enter Try.func32, Try.ntmps32
      go_wp2_with fail
      refine (H1.out _).mono ?_
      rintro e w1 ⟨rfl, rfl⟩
      go_wp2
      go_ret
      exact ⟨ret_bool (by simp [okN, z1, q0]), After.rfl.alloc _⟩
    subst z1
    go_enter Try.func32, Try.ntmps32
    go_wp2_with fail
    refine (H1.out _).mono ?_
    rintro e w1 ⟨rfl, rfl⟩
    go_wp2
    go_ret
    exact ⟨ret_bool (by rw [beq_dec]; simp [okN, q0]), After.rfl.alloc _⟩
  · rcases q0 : idx a i with _ | _
    · rw [q0] at H1
      go_enter Try.func32, Try.ntmps32
      go_wp2_with fail
      refine (H1.out _).mono ?_
      rintro e w1 ⟨rfl, rfl⟩
      go_wp2
      go_ret
      exact ⟨ret_bool (by simp [okN, q0]), After.rfl.alloc _⟩
    rw [q0] at H1
    rcases q1 : idx b i with _ | _
    · rw [q1] at H2
      go_enter Try.func32, Try.ntmps32
      go_wp2_with fail
      refine (H1.out _).mono ?_
      rintro e w1 ⟨rfl, rfl⟩
      go_wp2_with fail
      refine (H2.out _).mono ?_
      rintro e w1 ⟨rfl, rfl⟩
      go_wp2
      go_ret
      exact ⟨ret_bool (by simp [okN, q1, q0]), After.rfl.alloc _⟩
    rw [q1] at H2
    go_enter Try.func32, Try.ntmps32
    go_wp2_with fail
    refine (H1.out _).mono ?_
    rintro e w1 ⟨rfl, rfl⟩
    go_wp2_with fail
    refine (H2.out _).mono ?_
    rintro e w1 ⟨rfl, rfl⟩
    go_wp2
    go_ret
    exact ⟨ret_bool (by rw [beq_dec]; simp [okN, q0, q1]), After.rfl.alloc _⟩
  · rcases q0 : idx a i with _ | _
    · rw [q0] at H1
      go_enter Try.func32, Try.ntmps32
      go_wp2_with fail
      refine (H1.out _).mono ?_
      rintro e w1 ⟨rfl, rfl⟩
      go_wp2
      go_ret
      exact ⟨ret_bool (by simp [okN, q0]), After.rfl.alloc _⟩
    rw [q0] at H1
    rcases q1 : idx b i with _ | _
    · rw [q1] at H2
      go_enter Try.func32, Try.ntmps32
      go_wp2_with fail
      refine (H1.out _).mono ?_
      rintro e w1 ⟨rfl, rfl⟩
      go_wp2_with fail
      refine (H2.out _).mono ?_
      rintro e w1 ⟨rfl, rfl⟩
      go_wp2
      go_ret
      exact ⟨ret_bool (by simp [okN, q1, q0]), After.rfl.alloc _⟩
    rw [q1] at H2
    go_enter Try.func32, Try.ntmps32
    go_wp2_with fail
    refine (H1.out _).mono ?_
    rintro e w1 ⟨rfl, rfl⟩
    go_wp2_with fail
    refine (H2.out _).mono ?_
    rintro e w1 ⟨rfl, rfl⟩
    go_wp2
    go_ret
    exact ⟨ret_bool (by rw [beq_dec]; simp [okN, q0, q1]), After.rfl.alloc _⟩
  · rcases q0 : idx a i with _ | _
    · rw [q0] at H1
      go_enter Try.func32, Try.ntmps32
      go_wp2_with fail
      refine (H1.out _).mono ?_
      rintro e w1 ⟨rfl, rfl⟩
      go_wp2
      go_ret
      exact ⟨ret_bool (by simp [okN, q0]), After.rfl.alloc _⟩
    rw [q0] at H1
    by_cases z1 : b = 0
    rotate_left
    · have y1 : (b == 0) = false := by simp [z1]
      go_enter Try.func32, Try.ntmps32
      go_wp2_with fail
      refine (H1.out _).mono ?_
      rintro e w1 ⟨rfl, rfl⟩
      go_wp2
      go_ret
      exact ⟨ret_bool (by simp [okN, z1, q0]), After.rfl.alloc _⟩
    subst z1
    go_enter Try.func32, Try.ntmps32
    go_wp2_with fail
    refine (H1.out _).mono ?_
    rintro e w1 ⟨rfl, rfl⟩
    go_wp2
    go_ret
    exact ⟨ret_bool (by rw [beq_dec]; simp [okN, q0]), After.rfl.alloc _⟩
  · rcases q0 : idx a i with _ | _
    · rw [q0] at H1
      go_enter Try.func32, Try.ntmps32
      go_wp2_with fail
      refine (H1.out _).mono ?_
      rintro e w1 ⟨rfl, rfl⟩
      go_wp2
      go_ret
      exact ⟨ret_bool (by simp [okN, q0]), After.rfl.alloc _⟩
    rw [q0] at H1
    by_cases z1 : b = 0
    rotate_left
    · have y1 : (b == 0) = false := by simp [z1]
      go_enter Try.func32, Try.ntmps32
      go_wp2_with fail
      refine (H1.out _).mono ?_
      rintro e w1 ⟨rfl, rfl⟩
      go_wp2
      go_ret
      exact ⟨ret_bool (by simp [okN, z1, q0]), After.rfl.alloc _⟩
    subst z1
    by_cases z2 : 0 ≤ n
    rotate_left
    · have y2 : decide (0 ≤ n) = false := decide_eq_false z2
      have hk : okN ⟨10, a, 0, n⟩ i m = false := by simp [okN, y2]
      rw [hk]
      go_enter Try.func32, Try.ntmps32
      go_wp2_with fail
      refine (H1.out _).mono ?_
      rintro e w1 ⟨rfl, rfl⟩
      go_wp2
      go_ret
      exact ⟨rfl, After.rfl.alloc _⟩
    have y2 : decide (0 ≤ n) = true := decide_eq_true z2
    have hk : okN ⟨10, a, 0, n⟩ i m = decide (n ≤ 64) := by simp [okN, y2, q0]
    rw [hk]
    go_enter Try.func32, Try.ntmps32
    go_wp2_with fail
    refine (H1.out _).mono ?_
    rintro e w1 ⟨rfl, rfl⟩
    go_wp2
    go_ret
    exact ⟨rfl, After.rfl.alloc _⟩
  · rcases q0 : idx a i with _ | _
    · rw [q0] at H1
      go_enter Try.func32, Try.ntmps32
      go_wp2_with fail
      refine (H1.out _).mono ?_
      rintro e w1 ⟨rfl, rfl⟩
      go_wp2
      go_ret
      exact ⟨ret_bool (by simp [okN, q0]), After.rfl.alloc _⟩
    rw [q0] at H1
    by_cases z1 : b = 0
    rotate_left
    · have y1 : (b == 0) = false := by simp [z1]
      go_enter Try.func32, Try.ntmps32
      go_wp2_with fail
      refine (H1.out _).mono ?_
      rintro e w1 ⟨rfl, rfl⟩
      go_wp2
      go_ret
      exact ⟨ret_bool (by simp [okN, z1, q0]), After.rfl.alloc _⟩
    subst z1
    by_cases z2 : 0 ≤ n
    rotate_left
    · have y2 : decide (0 ≤ n) = false := decide_eq_false z2
      have hk : okN ⟨11, a, 0, n⟩ i m = false := by simp [okN, y2]
      rw [hk]
      go_enter Try.func32, Try.ntmps32
      go_wp2_with fail
      refine (H1.out _).mono ?_
      rintro e w1 ⟨rfl, rfl⟩
      go_wp2
      go_ret
      exact ⟨rfl, After.rfl.alloc _⟩
    have y2 : decide (0 ≤ n) = true := decide_eq_true z2
    have hk : okN ⟨11, a, 0, n⟩ i m = decide (n ≤ 64) := by simp [okN, y2, q0]
    rw [hk]
    go_enter Try.func32, Try.ntmps32
    go_wp2_with fail
    refine (H1.out _).mono ?_
    rintro e w1 ⟨rfl, rfl⟩
    go_wp2
    go_ret
    exact ⟨rfl, After.rfl.alloc _⟩
  · rcases q0 : idx a i with _ | _
    · rw [q0] at H1
      go_enter Try.func32, Try.ntmps32
      go_wp2_with fail
      refine (H1.out _).mono ?_
      rintro e w1 ⟨rfl, rfl⟩
      go_wp2
      go_ret
      exact ⟨ret_bool (by simp [okN, q0]), After.rfl.alloc _⟩
    rw [q0] at H1
    rcases q1 : idx b i with _ | _
    · rw [q1] at H2
      go_enter Try.func32, Try.ntmps32
      go_wp2_with fail
      refine (H1.out _).mono ?_
      rintro e w1 ⟨rfl, rfl⟩
      go_wp2_with fail
      refine (H2.out _).mono ?_
      rintro e w1 ⟨rfl, rfl⟩
      go_wp2
      go_ret
      exact ⟨ret_bool (by simp [okN, q1, q0]), After.rfl.alloc _⟩
    rw [q1] at H2
    go_enter Try.func32, Try.ntmps32
    go_wp2_with fail
    refine (H1.out _).mono ?_
    rintro e w1 ⟨rfl, rfl⟩
    go_wp2_with fail
    refine (H2.out _).mono ?_
    rintro e w1 ⟨rfl, rfl⟩
    go_wp2
    go_ret
    exact ⟨ret_bool (by rw [beq_dec]; simp [okN, q0, q1]), After.rfl.alloc _⟩
  · have hk : okN ⟨op, a, b, n⟩ i m = false := by simp [okN, h0, h1, h2, h3, h4, h5, h6, h7, h8, h9, h10, h11, h12]
    rw [hk]
    have e0 : (op == 0) = false := by simp [h0]
    have e1 : (op == 1) = false := by simp [h1]
    have e2 : (op == 2) = false := by simp [h2]
    have e3 : (op == 3) = false := by simp [h3]
    have e4 : (op == 4) = false := by simp [h4]
    have e5 : (op == 5) = false := by simp [h5]
    have e6 : (op == 6) = false := by simp [h6]
    have e7 : (op == 7) = false := by simp [h7]
    have e8 : (op == 8) = false := by simp [h8]
    have e9 : (op == 9) = false := by simp [h9]
    have e10 : (op == 10) = false := by simp [h10]
    have e11 : (op == 11) = false := by simp [h11]
    have e12 : (op == 12) = false := by simp [h12]
    clear h0 h1 h2 h3 h4 h5 h6 h7 h8 h9 h10 h11 h12
    go_enter Try.func32, Try.ntmps32
    go_wp2
    go_ret
    exact ⟨rfl, After.rfl.alloc _⟩
end Go.Proofs.Ythgmjeljjladhaa
