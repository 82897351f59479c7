/-
  The walk of the statement FixedNear: it answers true at every input.
-/
import Derived.Test.YtiiehpnnfofcaaaDoorWorks
namespace Go.Proofs.YtiiehpnnfofcaaaDoor
open Go.RowKit
set_option maxRecDepth 100000 in
set_option maxHeartbeats 2000000 in
theorem near_low (a b c A B C D L H Y p m n q r s t x y : Int) (w : World) (ht : Tab w) (hA : cl a = A) (hB : cl b = B) (hC : cl c = C) (_a1 : -2147483647 ≤ A) (_a2 : A ≤ 2147483647) (_b1 : -2147483647 ≤ B) (_b2 : B ≤ 2147483647) (c1 : -2147483647 ≤ C) (c2 : C ≤ 2147483647) (hL : min A B = L) (hH : max A B = H) (lh : L ≤ H) (hD : ab C = D) (_D2 : D ≤ 2147483647) (hY : max D 1 = Y) (hp : mulZ A B = p) (p1 : p ≤ -2147483647) (hm : mulZ L D = m) (hn : mulZ H D = n) (mn : m ≤ n) (hq : scaleZ 1000 L Y = q) (hr : scaleZ 1000 H Y = r) (qr : q ≤ r) (he : scaleE Y = 0) (hs : scaleZ L D Y = s) (ht' : scaleZ H D Y = t) (st : s ≤ t) (hx : addZ L C = x) (hy : addZ H C = y) (xy : x ≤ y) (kL : cl L = L) (kH : cl H = H) :
    Calls Tryd.prog 7 #[.int .i64 a, .int .i64 b, .int .i64 c] w fun e w' => e = .returned (.bool true) ∧ After w w' := by
  have HT := hideIt ht
  clear ht
  go_enter Tryd.func7, Tryd.ntmps7
  go_wp2_with (first
    | (go_at_call 21; refine (works_any _ HT.out).mono ?_; rintro e w1 ⟨rfl, hb1⟩)
    | (go_at_call 9; refine (clamp_any _ _).mono ?_; rintro e w' ⟨rfl, rfl⟩)
    | (go_at_call 26; refine (abs_any _ _ (by omega) (by omega)).mono ?_; rintro e w' ⟨rfl, rfl⟩)
    | (go_at_call 11; refine (add_any _ _ _).mono ?_; rintro e w' ⟨rfl, rfl⟩)
    | (go_at_call 15; refine (mul_any _ _ _).mono ?_; rintro e w' ⟨rfl, n1, rfl⟩)
    | (go_at_call 17; refine (div_any _ _ _).mono ?_; rintro e w' ⟨rfl, n2, rfl⟩)
    | (go_at_call 19; refine (scale_any _ _ _ _).mono ?_; rintro e w' ⟨rfl, n3, rfl⟩))
  go_ret
  exact ⟨rfl, After.trans hb1 (after_drawn _ _)⟩
set_option maxRecDepth 100000 in
set_option maxHeartbeats 2000000 in
theorem near_high (a b c A B C D L H Y p m n q r s t x y : Int) (w : World) (ht : Tab w) (hA : cl a = A) (hB : cl b = B) (hC : cl c = C) (_a1 : -2147483647 ≤ A) (_a2 : A ≤ 2147483647) (_b1 : -2147483647 ≤ B) (_b2 : B ≤ 2147483647) (c1 : -2147483647 ≤ C) (c2 : C ≤ 2147483647) (hL : min A B = L) (hH : max A B = H) (lh : L ≤ H) (hD : ab C = D) (_D2 : D ≤ 2147483647) (hY : max D 1 = Y) (hp : mulZ A B = p) (p1 : -2147483647 < p) (p2 : 2147483647 ≤ p) (hm : mulZ L D = m) (hn : mulZ H D = n) (mn : m ≤ n) (hq : scaleZ 1000 L Y = q) (hr : scaleZ 1000 H Y = r) (qr : q ≤ r) (he : scaleE Y = 0) (hs : scaleZ L D Y = s) (ht' : scaleZ H D Y = t) (st : s ≤ t) (hx : addZ L C = x) (hy : addZ H C = y) (xy : x ≤ y) (kL : cl L = L) (kH : cl H = H) :
    Calls Tryd.prog 7 #[.int .i64 a, .int .i64 b, .int .i64 c] w fun e w' => e = .returned (.bool true) ∧ After w w' := by
  have HT := hideIt ht
  clear ht
  go_enter Tryd.func7, Tryd.ntmps7
  go_wp2_with (first
    | (go_at_call 21; refine (works_any _ HT.out).mono ?_; rintro e w1 ⟨rfl, hb1⟩)
    | (go_at_call 9; refine (clamp_any _ _).mono ?_; rintro e w' ⟨rfl, rfl⟩)
    | (go_at_call 26; refine (abs_any _ _ (by omega) (by omega)).mono ?_; rintro e w' ⟨rfl, rfl⟩)
    | (go_at_call 11; refine (add_any _ _ _).mono ?_; rintro e w' ⟨rfl, rfl⟩)
    | (go_at_call 15; refine (mul_any _ _ _).mono ?_; rintro e w' ⟨rfl, n1, rfl⟩)
    | (go_at_call 17; refine (div_any _ _ _).mono ?_; rintro e w' ⟨rfl, n2, rfl⟩)
    | (go_at_call 19; refine (scale_any _ _ _ _).mono ?_; rintro e w' ⟨rfl, n3, rfl⟩))
  go_ret
  exact ⟨rfl, After.trans hb1 (after_drawn _ _)⟩
set_option maxRecDepth 100000 in
set_option maxHeartbeats 2000000 in
theorem near_mid (a b c A B C D L H Y p m n q r s t x y P F : Int) (w : World) (ht : Tab w) (hA : cl a = A) (hB : cl b = B) (hC : cl c = C) (_a1 : -2147483647 ≤ A) (_a2 : A ≤ 2147483647) (_b1 : -2147483647 ≤ B) (_b2 : B ≤ 2147483647) (c1 : -2147483647 ≤ C) (c2 : C ≤ 2147483647) (hL : min A B = L) (hH : max A B = H) (lh : L ≤ H) (hD : ab C = D) (_D2 : D ≤ 2147483647) (hY : max D 1 = Y) (hp : mulZ A B = p) (p1 : -2147483647 < p) (p2 : p < 2147483647) (hP : A * B = P) (P1 : -4611686014132420609 ≤ P) (P2 : P ≤ 4611686014132420609) (f1 : -500 ≤ 1000 * p - P) (f2 : 1000 * p - P ≤ 500) (hF : ab (1000 * p - P) = F) (F1 : F ≤ 500) (hm : mulZ L D = m) (hn : mulZ H D = n) (mn : m ≤ n) (hq : scaleZ 1000 L Y = q) (hr : scaleZ 1000 H Y = r) (qr : q ≤ r) (he : scaleE Y = 0) (hs : scaleZ L D Y = s) (ht' : scaleZ H D Y = t) (st : s ≤ t) (hx : addZ L C = x) (hy : addZ H C = y) (xy : x ≤ y) (kL : cl L = L) (kH : cl H = H) :
    Calls Tryd.prog 7 #[.int .i64 a, .int .i64 b, .int .i64 c] w fun e w' => e = .returned (.bool true) ∧ After w w' := by
  have HT := hideIt ht
  clear ht
  go_enter Tryd.func7, Tryd.ntmps7
  go_wp2_with (first
    | (go_at_call 21; refine (works_any _ HT.out).mono ?_; rintro e w1 ⟨rfl, hb1⟩)
    | (go_at_call 9; refine (clamp_any _ _).mono ?_; rintro e w' ⟨rfl, rfl⟩)
    | (go_at_call 26; refine (abs_any _ _ (by omega) (by omega)).mono ?_; rintro e w' ⟨rfl, rfl⟩)
    | (go_at_call 11; refine (add_any _ _ _).mono ?_; rintro e w' ⟨rfl, rfl⟩)
    | (go_at_call 15; refine (mul_any _ _ _).mono ?_; rintro e w' ⟨rfl, n1, rfl⟩)
    | (go_at_call 17; refine (div_any _ _ _).mono ?_; rintro e w' ⟨rfl, n2, rfl⟩)
    | (go_at_call 19; refine (scale_any _ _ _ _).mono ?_; rintro e w' ⟨rfl, n3, rfl⟩))
  go_ret
  exact ⟨rfl, After.trans hb1 (after_drawn _ _)⟩
theorem mul_le {x y d : Int} (h : x ≤ y) (hd : 0 ≤ d) : mulZ x d ≤ mulZ y d := by
  unfold mulZ
  exact cl_mono _ _ (rd_mono _ _ _ (by decide) (Int.mul_le_mul_of_nonneg_right (cl_mono _ _ h) (by
    have := cl_mono 0 d hd
    rwa [show cl 0 = 0 from rfl] at this)))
theorem sc_le2 {x y d : Int} (hd : 0 < d) (h : x ≤ y) : scaleZ 1000 x d ≤ scaleZ 1000 y d := by
  unfold scaleZ
  rw [if_neg (by omega), if_neg (by omega)]
  exact cl_mono _ _ (rd_mono _ _ _ ((cl_pos d).2 hd) (Int.mul_le_mul_of_nonneg_left (cl_mono _ _ h) (by decide)))
theorem sc_le {x y n d : Int} (hd : 0 < d) (h : x ≤ y) (hn : 0 ≤ n) : scaleZ x n d ≤ scaleZ y n d := by
  unfold scaleZ
  rw [if_neg (by omega), if_neg (by omega)]
  exact cl_mono _ _ (rd_mono _ _ _ ((cl_pos d).2 hd) (Int.mul_le_mul_of_nonneg_right (cl_mono _ _ h) (by
    have := cl_mono 0 n hn
    rwa [show cl 0 = 0 from rfl] at this)))
theorem add_le {x y c : Int} (h : x ≤ y) : addZ x c ≤ addZ y c := by
  unfold addZ
  exact cl_mono _ _ (by have := cl_mono _ _ h; omega)
theorem cl_inside (v : Int) (h1 : -2147483647 < cl v) (h2 : cl v < 2147483647) : cl v = v := by
  unfold cl at h1 h2 ⊢
  split at h1
  · omega
  · split at h1
    · omega
    · rw [if_neg (by assumption), if_neg (by assumption)]
theorem far (a b : Int) (h1 : -2147483647 < mulZ (cl a) (cl b)) (h2 : mulZ (cl a) (cl b) < 2147483647) : -500 ≤ 1000 * mulZ (cl a) (cl b) - cl a * cl b ∧ 1000 * mulZ (cl a) (cl b) - cl a * cl b ≤ 500 := by
  unfold mulZ at h1 h2 ⊢
  rw [cl_cl, cl_cl] at h1 h2 ⊢
  have hn := rd_near (cl a * cl b) 1000 (by decide)
  have e := cl_inside _ h1 h2
  rw [e]
  omega
theorem near_any (a b c : Int) (w : World) (ht : Tab w) :
    Calls Tryd.prog 7 #[.int .i64 a, .int .i64 b, .int .i64 c] w fun e w' => e = .returned (.bool true) ∧ After w w' := by
  have a1 := cl_lo a; have a2 := cl_hi a; have b1 := cl_lo b; have b2 := cl_hi b; have c1 := cl_lo c; have c2 := cl_hi c
  have d0 : 0 ≤ ab (cl c) := by rw [ab_def]; omega
  have d2 : ab (cl c) ≤ 2147483647 := by rw [ab_def]; omega
  have far' := far a b
  have lh : min (cl a) (cl b) ≤ max (cl a) (cl b) := by omega
  have y0 : 0 < max (ab (cl c)) 1 := by omega
  have k1 : cl (min (cl a) (cl b)) = min (cl a) (cl b) := cl_id _ (by omega) (by omega)
  have k2 : cl (max (cl a) (cl b)) = max (cl a) (cl b) := cl_id _ (by omega) (by omega)
  by_cases p1 : mulZ (cl a) (cl b) ≤ -2147483647
  · exact near_low a b c (cl a) (cl b) (cl c) (ab (cl c)) (min (cl a) (cl b)) (max (cl a) (cl b)) (max (ab (cl c)) 1) _ _ _ _ _ _ _ _ _ w ht rfl rfl rfl a1 a2 b1 b2 c1 c2 rfl rfl lh rfl d2 rfl rfl p1 rfl rfl (mul_le lh d0) rfl rfl (sc_le2 y0 lh) (if_neg (by omega)) rfl rfl (sc_le y0 lh d0) rfl rfl (add_le lh) k1 k2
  · by_cases p2 : 2147483647 ≤ mulZ (cl a) (cl b)
    · exact near_high a b c (cl a) (cl b) (cl c) (ab (cl c)) (min (cl a) (cl b)) (max (cl a) (cl b)) (max (ab (cl c)) 1) _ _ _ _ _ _ _ _ _ w ht rfl rfl rfl a1 a2 b1 b2 c1 c2 rfl rfl lh rfl d2 rfl rfl (by omega) p2 rfl rfl (mul_le lh d0) rfl rfl (sc_le2 y0 lh) (if_neg (by omega)) rfl rfl (sc_le y0 lh d0) rfl rfl (add_le lh) k1 k2
    · have f := far' (by omega) (by omega)
      exact near_mid a b c (cl a) (cl b) (cl c) (ab (cl c)) (min (cl a) (cl b)) (max (cl a) (cl b)) (max (ab (cl c)) 1) _ _ _ _ _ _ _ _ _ _ _ w ht rfl rfl rfl a1 a2 b1 b2 c1 c2 rfl rfl lh rfl d2 rfl rfl (by omega) (by omega) rfl (prod_lo a b) (prod_hi a b) f.1 f.2 rfl (by rw [ab_def]; omega) rfl rfl (mul_le lh d0) rfl rfl (sc_le2 y0 lh) (if_neg (by omega)) rfl rfl (sc_le y0 lh d0) rfl rfl (add_le lh) k1 k2
end Go.Proofs.YtiiehpnnfofcaaaDoor
