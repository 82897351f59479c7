/-
  The walk of the statement FixedOrder: it answers true at every input.
-/
import Derived.Test.YtiiehpnnfofcaaaDoorWorks
namespace Go.Proofs.YtiiehpnnfofcaaaDoor
open Go.RowKit
theorem addZ_comm (a b : Int) : addZ b a = addZ a b := by unfold addZ; rw [Int.add_comm]
theorem mulZ_comm (a b : Int) : mulZ b a = mulZ a b := by unfold mulZ; rw [Int.mul_comm]
theorem subZ_neg (a b : Int) : subZ a b = addZ a (-b) := by unfold subZ addZ; rw [cl_neg]; congr 1
theorem addZ_zero (a : Int) : addZ (cl a) 0 = cl a := by unfold addZ; rw [cl_cl, show cl 0 = 0 from rfl, Int.add_zero, cl_cl]
theorem mulZ_one (a : Int) : mulZ (cl a) 1000 = cl a := by unfold mulZ; rw [cl_cl, show cl 1000 = 1000 from rfl, rd_mul _ _ (by decide), cl_cl]
theorem mulZ_neg (a b : Int) : mulZ (-a) b = - mulZ a b := by unfold mulZ; rw [cl_neg, Int.neg_mul, rd_neg _ _ (by decide), cl_neg]
theorem mulZ_bd (a b : Int) : -2147483647 ≤ mulZ a b ∧ mulZ a b ≤ 2147483647 := ⟨cl_lo _, cl_hi _⟩
theorem scaleZ_bd (a b c : Int) : -2147483647 ≤ scaleZ a b c ∧ scaleZ a b c ≤ 2147483647 := by
  unfold scaleZ; split
  · omega
  · exact ⟨cl_lo _, cl_hi _⟩
theorem scaleZ_neg (a b c : Int) : scaleZ (-a) b c = - scaleZ a b c := by
  unfold scaleZ; split
  · rfl
  · rename_i h
    rw [cl_neg, Int.neg_mul, rd_neg _ _ (fun e => h ((cl_zero c).1 e)), cl_neg]
theorem scaleZ_neg2 (a b c : Int) : scaleZ a (-b) c = - scaleZ a b c := by
  unfold scaleZ; split
  · rfl
  · rename_i h
    rw [cl_neg, Int.mul_neg, rd_neg _ _ (fun e => h ((cl_zero c).1 e)), cl_neg]
theorem scaleZ_self (a c : Int) (h : cl c ≠ 0) : scaleZ (cl a) (cl c) (cl c) = cl a := by
  unfold scaleZ; rw [if_neg h, cl_cl, cl_cl, rd_mul _ _ h, cl_cl]
theorem scaleZ_thou (a : Int) : scaleZ 1000 (cl a) 1000 = cl a := by
  unfold scaleZ; rw [if_neg (by decide), cl_cl, show cl 1000 = 1000 from rfl, Int.mul_comm, rd_mul _ _ (by decide), cl_cl]
theorem scaleZ_none (a b : Int) : scaleZ a b 0 = 0 := rfl
theorem scaleE_none : scaleE 0 = 9 := rfl
theorem scaleE_some (d : Int) (h : d ≠ 0) : scaleE d = 0 := if_neg h

set_option maxRecDepth 100000 in
set_option maxHeartbeats 2000000 in
/-- Neither divisor is 0. -/
theorem order_nn (a b c A B C x y z q s : Int) (w : World) (ht : Tab w) (hA : cl a = A) (hB : cl b = B) (hC : cl c = C) (a1 : -2147483647 ≤ A) (a2 : A ≤ 2147483647) (h0 : addZ A 0 = A) (h1 : mulZ A 1000 = A) (d1 : scaleZ 1000 A 1000 = A) (f0 : scaleE 1000 = 0) (b1 : -2147483647 ≤ B) (b2 : B ≤ 2147483647) (hx : addZ A B = x) (hx' : addZ B A = x) (hy : mulZ A B = y) (hy' : mulZ B A = y) (hz : subZ A B = z) (hz' : addZ A (-B) = z) (hm : mulZ (-A) B = -y) (y1 : -2147483647 ≤ y) (y2 : y ≤ 2147483647) (d2 : scaleZ 1000 A B = q) (d3 : scaleZ 1000 (-A) B = -q) (q1 : -2147483647 ≤ q) (q2 : q ≤ 2147483647) (f1 : scaleE B = 0) (_nb : ¬ B = 0) (nb' : (B != 0) = true) (g1 : scaleZ A B C = s) (g2 : scaleZ (-A) B C = -s) (s1 : -2147483647 ≤ s) (s2 : s ≤ 2147483647) (u1 : scaleZ A C C = A) (f2 : scaleE C = 0) (nc : ¬ C = 0) (nc' : (C != 0) = true) :
    Calls Tryd.prog 6 #[.int .i64 a, .int .i64 b, .int .i64 c] w fun e w' => e = .returned (.bool true) ∧ After w w' := by
  have HT := hideIt ht
  clear ht
  go_enter Tryd.func6, Tryd.ntmps6
  go_wp2_with (first
    | (go_at_call 21; refine (works_any _ HT.out).mono ?_; rintro e w1 ⟨rfl, hb1⟩)
    | (go_at_call 9; refine (clamp_any _ _).mono ?_; rintro e w' ⟨rfl, rfl⟩)
    | (go_at_call 11; refine (add_any _ _ _).mono ?_; rintro e w' ⟨rfl, rfl⟩)
    | (go_at_call 13; refine (sub_any _ _ _).mono ?_; rintro e w' ⟨rfl, rfl⟩)
    | (go_at_call 15; refine (mul_any _ _ _).mono ?_; rintro e w' ⟨rfl, n1, rfl⟩)
    | (go_at_call 17; refine (div_any _ _ _).mono ?_; rintro e w' ⟨rfl, n2, rfl⟩)
    | (go_at_call 19; refine (scale_any _ _ _ _).mono ?_; rintro e w' ⟨rfl, n3, rfl⟩))
  go_ret
  exact ⟨rfl, After.trans hb1 (after_drawn _ _)⟩
set_option maxRecDepth 100000 in
set_option maxHeartbeats 2000000 in
/-- The second divisor is 0. -/
theorem order_nz (a b c A B x y z q : Int) (w : World) (ht : Tab w) (hA : cl a = A) (hB : cl b = B) (hC : cl c = 0) (a1 : -2147483647 ≤ A) (a2 : A ≤ 2147483647) (h0 : addZ A 0 = A) (h1 : mulZ A 1000 = A) (d1 : scaleZ 1000 A 1000 = A) (f0 : scaleE 1000 = 0) (b1 : -2147483647 ≤ B) (b2 : B ≤ 2147483647) (hx : addZ A B = x) (hx' : addZ B A = x) (hy : mulZ A B = y) (hy' : mulZ B A = y) (hz : subZ A B = z) (hz' : addZ A (-B) = z) (hm : mulZ (-A) B = -y) (y1 : -2147483647 ≤ y) (y2 : y ≤ 2147483647) (d2 : scaleZ 1000 A B = q) (d3 : scaleZ 1000 (-A) B = -q) (q1 : -2147483647 ≤ q) (q2 : q ≤ 2147483647) (f1 : scaleE B = 0) (_nb : ¬ B = 0) (nb' : (B != 0) = true) (g1 : scaleZ A B 0 = 0) (g2 : scaleZ (-A) B 0 = 0) (u1 : scaleZ A 0 0 = 0) (f2 : scaleE 0 = 9) :
    Calls Tryd.prog 6 #[.int .i64 a, .int .i64 b, .int .i64 c] w fun e w' => e = .returned (.bool true) ∧ After w w' := by
  have HT := hideIt ht
  clear ht
  go_enter Tryd.func6, Tryd.ntmps6
  go_wp2_with (first
    | (go_at_call 21; refine (works_any _ HT.out).mono ?_; rintro e w1 ⟨rfl, hb1⟩)
    | (go_at_call 9; refine (clamp_any _ _).mono ?_; rintro e w' ⟨rfl, rfl⟩)
    | (go_at_call 11; refine (add_any _ _ _).mono ?_; rintro e w' ⟨rfl, rfl⟩)
    | (go_at_call 13; refine (sub_any _ _ _).mono ?_; rintro e w' ⟨rfl, rfl⟩)
    | (go_at_call 15; refine (mul_any _ _ _).mono ?_; rintro e w' ⟨rfl, n1, rfl⟩)
    | (go_at_call 17; refine (div_any _ _ _).mono ?_; rintro e w' ⟨rfl, n2, rfl⟩)
    | (go_at_call 19; refine (scale_any _ _ _ _).mono ?_; rintro e w' ⟨rfl, n3, rfl⟩))
  go_ret
  exact ⟨rfl, After.trans hb1 (after_drawn _ _)⟩
set_option maxRecDepth 100000 in
set_option maxHeartbeats 2000000 in
/-- The first divisor is 0. -/
theorem order_zn (a b c A C : Int) (w : World) (ht : Tab w) (hA : cl a = A) (hB : cl b = 0) (hC : cl c = C) (a1 : -2147483647 ≤ A) (a2 : A ≤ 2147483647) (h0 : addZ A 0 = A) (h1 : mulZ A 1000 = A) (d1 : scaleZ 1000 A 1000 = A) (f0 : scaleE 1000 = 0) (hx : addZ 0 A = A) (hy : mulZ A 0 = 0) (hy' : mulZ 0 A = 0) (hz : subZ A 0 = A) (hm : mulZ (-A) 0 = 0) (d2 : scaleZ 1000 A 0 = 0) (d3 : scaleZ 1000 (-A) 0 = 0) (f1 : scaleE 0 = 9) (g1 : scaleZ A 0 C = 0) (g2 : scaleZ (-A) 0 C = 0) (u1 : scaleZ A C C = A) (f2 : scaleE C = 0) (nc : ¬ C = 0) (nc' : (C != 0) = true) :
    Calls Tryd.prog 6 #[.int .i64 a, .int .i64 b, .int .i64 c] w fun e w' => e = .returned (.bool true) ∧ After w w' := by
  have HT := hideIt ht
  clear ht
  go_enter Tryd.func6, Tryd.ntmps6
  go_wp2_with (first
    | (go_at_call 21; refine (works_any _ HT.out).mono ?_; rintro e w1 ⟨rfl, hb1⟩)
    | (go_at_call 9; refine (clamp_any _ _).mono ?_; rintro e w' ⟨rfl, rfl⟩)
    | (go_at_call 11; refine (add_any _ _ _).mono ?_; rintro e w' ⟨rfl, rfl⟩)
    | (go_at_call 13; refine (sub_any _ _ _).mono ?_; rintro e w' ⟨rfl, rfl⟩)
    | (go_at_call 15; refine (mul_any _ _ _).mono ?_; rintro e w' ⟨rfl, n1, rfl⟩)
    | (go_at_call 17; refine (div_any _ _ _).mono ?_; rintro e w' ⟨rfl, n2, rfl⟩)
    | (go_at_call 19; refine (scale_any _ _ _ _).mono ?_; rintro e w' ⟨rfl, n3, rfl⟩))
  go_ret
  exact ⟨rfl, After.trans hb1 (after_drawn _ _)⟩
set_option maxRecDepth 100000 in
set_option maxHeartbeats 2000000 in
/-- Both are 0. -/
theorem order_zz (a b c A : Int) (w : World) (ht : Tab w) (hA : cl a = A) (hB : cl b = 0) (hC : cl c = 0) (a1 : -2147483647 ≤ A) (a2 : A ≤ 2147483647) (h0 : addZ A 0 = A) (h1 : mulZ A 1000 = A) (d1 : scaleZ 1000 A 1000 = A) (f0 : scaleE 1000 = 0) (hx : addZ 0 A = A) (hy : mulZ A 0 = 0) (hy' : mulZ 0 A = 0) (hz : subZ A 0 = A) (hm : mulZ (-A) 0 = 0) (d2 : scaleZ 1000 A 0 = 0) (d3 : scaleZ 1000 (-A) 0 = 0) (f1 : scaleE 0 = 9) (u1 : scaleZ A 0 0 = 0) (u2 : scaleZ (-A) 0 0 = 0) :
    Calls Tryd.prog 6 #[.int .i64 a, .int .i64 b, .int .i64 c] w fun e w' => e = .returned (.bool true) ∧ After w w' := by
  have HT := hideIt ht
  clear ht
  go_enter Tryd.func6, Tryd.ntmps6
  go_wp2_with (first
    | (go_at_call 21; refine (works_any _ HT.out).mono ?_; rintro e w1 ⟨rfl, hb1⟩)
    | (go_at_call 9; refine (clamp_any _ _).mono ?_; rintro e w' ⟨rfl, rfl⟩)
    | (go_at_call 11; refine (add_any _ _ _).mono ?_; rintro e w' ⟨rfl, rfl⟩)
    | (go_at_call 13; refine (sub_any _ _ _).mono ?_; rintro e w' ⟨rfl, rfl⟩)
    | (go_at_call 15; refine (mul_any _ _ _).mono ?_; rintro e w' ⟨rfl, n1, rfl⟩)
    | (go_at_call 17; refine (div_any _ _ _).mono ?_; rintro e w' ⟨rfl, n2, rfl⟩)
    | (go_at_call 19; refine (scale_any _ _ _ _).mono ?_; rintro e w' ⟨rfl, n3, rfl⟩))
  go_ret
  exact ⟨rfl, After.trans hb1 (after_drawn _ _)⟩
theorem mulZ_none (a : Int) : mulZ a 0 = 0 := by unfold mulZ; rw [show cl 0 = 0 from rfl, Int.mul_zero]; rfl
theorem subZ_none (a : Int) : subZ (cl a) 0 = cl a := by unfold subZ; rw [cl_cl, show cl 0 = 0 from rfl, Int.sub_zero, cl_cl]
theorem scaleZ_zero (a c : Int) : scaleZ a 0 c = 0 := by
  unfold scaleZ; split
  · rfl
  · rename_i h
    have hc : cl c ≠ 0 := fun e => h ((cl_zero c).1 e)
    have := rd_mul 0 (cl c) hc
    rw [Int.zero_mul] at this
    rw [show cl 0 = 0 from rfl, Int.mul_zero, this]; rfl
theorem order_any (a b c : Int) (w : World) (ht : Tab w) :
    Calls Tryd.prog 6 #[.int .i64 a, .int .i64 b, .int .i64 c] w fun e w' => e = .returned (.bool true) ∧ After w w' := by
  have b1 := cl_lo a; have b2 := cl_hi a; have b3 := cl_lo b; have b4 := cl_hi b
  by_cases hb : cl b = 0
  · by_cases hc : cl c = 0
    · exact order_zz a b c (cl a) w ht rfl hb hc b1 b2 (addZ_zero a) (mulZ_one a) (scaleZ_thou a) rfl (by rw [addZ_comm]; exact addZ_zero a) (mulZ_none _) (by rw [mulZ_comm]; exact mulZ_none _) (subZ_none a) (mulZ_none _) rfl rfl rfl rfl rfl
    · exact order_zn a b c (cl a) (cl c) w ht rfl hb rfl b1 b2 (addZ_zero a) (mulZ_one a) (scaleZ_thou a) rfl (by rw [addZ_comm]; exact addZ_zero a) (mulZ_none _) (by rw [mulZ_comm]; exact mulZ_none _) (subZ_none a) (mulZ_none _) rfl rfl rfl (scaleZ_zero _ _) (scaleZ_zero _ _) (scaleZ_self a c hc) (scaleE_some _ hc) hc (by simpa using hc)
  · by_cases hc : cl c = 0
    · exact order_nz a b c (cl a) (cl b) _ _ _ _ w ht rfl rfl hc b1 b2 (addZ_zero a) (mulZ_one a) (scaleZ_thou a) rfl b3 b4 rfl (addZ_comm _ _) rfl (mulZ_comm _ _) rfl (subZ_neg _ _).symm (mulZ_neg _ _) (mulZ_bd _ _).1 (mulZ_bd _ _).2 rfl (scaleZ_neg2 _ _ _) (scaleZ_bd _ _ _).1 (scaleZ_bd _ _ _).2 (scaleE_some _ hb) hb (by simpa using hb) rfl rfl rfl rfl
    · exact order_nn a b c (cl a) (cl b) (cl c) _ _ _ _ _ w ht rfl rfl rfl b1 b2 (addZ_zero a) (mulZ_one a) (scaleZ_thou a) rfl b3 b4 rfl (addZ_comm _ _) rfl (mulZ_comm _ _) rfl (subZ_neg _ _).symm (mulZ_neg _ _) (mulZ_bd _ _).1 (mulZ_bd _ _).2 rfl (scaleZ_neg2 _ _ _) (scaleZ_bd _ _ _).1 (scaleZ_bd _ _ _).2 (scaleE_some _ hb) hb (by simpa using hb) rfl (scaleZ_neg _ _ _) (scaleZ_bd _ _ _).1 (scaleZ_bd _ _ _).2 (scaleZ_self a c hc) (scaleE_some _ hc) hc (by simpa using hc)
end Go.Proofs.YtiiehpnnfofcaaaDoor
