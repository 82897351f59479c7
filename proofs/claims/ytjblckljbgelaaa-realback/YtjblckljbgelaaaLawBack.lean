/-
  The walk of RealBack: what is packed says what it was, and bits are packed as they were, unless they are reserved.
-/
import Derived.Test.YtjblckljbgelaaaBackW1
import Derived.Test.YtjblckljbgelaaaBackW2
import Derived.Test.YtjblckljbgelaaaBackW3
import Derived.Test.YtjblckljbgelaaaBackW4
namespace Go.Proofs.Ytjblckljbgelaaa
open Go.RowKit
theorem back_walk (x y k m e : Int) (h1 : 0 ≤ x) (h2 : x ≤ 65535) (h3 : 0 ≤ y) (h4 : y ≤ 4294967295) (w : World) :
    Calls Try.prog 6 #[.int .u16 x, .int .u32 y, .agg #[.int .i64 k, .int .i64 m, .int .i64 e]] w fun r w' => r = .returned (.bool true) ∧ After w w' := by
  obtain ⟨m1, f1, p1⟩ := short_says h1 h2
  obtain ⟨m2, p2⟩ := long_says h3 h4
  have C1 := fun w => short_any x w h1 h2
  have C2 := fun w => long_any y w h3 h4
  have C3 := fun w => packShort_any (shK x) (shM x) (shE x) w
  have C4 := fun w => packLong_any (loK y) (loM y) (loE y) w
  have C5 := fun w => packLong_any (shK x) (shM x) (shE x) w
  have C6 := fun w => long_any (pbL (shK x) (shM x) (shE x)) w (pbL_bd _ _ _).1 (pbL_bd _ _ _).2
  have C7 := fun w => short_any (pbS (shK x) (shM x) (shE x)) w (pbS_bd _ _ _).1 (pbS_bd _ _ _).2
  have C8 := fun w => long_any (pbL (loK y) (loM y) (loE y)) w (pbL_bd _ _ _).1 (pbL_bd _ _ _).2
  have C9 := fun w => packShort_any k m e w
  have C10 := fun w => packLong_any k m e w
  rw [show psV (shK x) (shM x) (shE x) = pbS (shK x) (shM x) (shE x) from by unfold psV; rw [if_pos ⟨m1, f1⟩], show psE (shK x) (shM x) (shE x) = 0 from by unfold psE; rw [if_pos m1, if_pos f1]] at C3
  rw [show plV (loK y) (loM y) (loE y) = pbL (loK y) (loM y) (loE y) from by unfold plV; rw [if_pos m2], show plE (loK y) (loM y) (loE y) = 0 from by unfold plE; rw [if_pos m2]] at C4
  rw [show plV (shK x) (shM x) (shE x) = pbL (shK x) (shM x) (shE x) from by unfold plV; rw [if_pos m1], show plE (shK x) (shM x) (shE x) = 0 from by unfold plE; rw [if_pos m1]] at C5
  rw [(long_pack m1).1, (long_pack m1).2.1, (long_pack m1).2.2] at C6
  rw [(short_pack m1 f1).1, (short_pack m1 f1).2.1, (short_pack m1 f1).2.2] at C7
  rw [(long_pack m2).1, (long_pack m2).2.1, (long_pack m2).2.2] at C8
  clear m1 f1 m2
  generalize pbL (shK x) (shM x) (shE x) = g at *
  generalize pbS (shK x) (shM x) (shE x) = c at *
  generalize pbL (loK y) (loM y) (loE y) = d at *
  generalize shK x = a0 at *
  generalize shM x = a1 at *
  generalize shE x = a2 at *
  generalize loK y = b0 at *
  generalize loM y = b1 at *
  generalize loE y = b2 at *
  by_cases hm : mayB k m e = true
  · rw [show plV k m e = pbL k m e from by unfold plV; rw [if_pos hm], show plE k m e = 0 from by unfold plE; rw [if_pos hm]] at C10
    have C11 := fun w => long_any (pbL k m e) w (pbL_bd _ _ _).1 (pbL_bd _ _ _).2
    rw [(long_pack hm).1, (long_pack hm).2.1, (long_pack hm).2.2] at C11
    by_cases hs : fitS m e = true
    · rw [show psV k m e = pbS k m e from by unfold psV; rw [if_pos ⟨hm, hs⟩], show psE k m e = 0 from by unfold psE; rw [if_pos hm, if_pos hs]] at C9
      have C12 := fun w => short_any (pbS k m e) w (pbS_bd _ _ _).1 (pbS_bd _ _ _).2
      rw [(short_pack hm hs).1, (short_pack hm hs).2.1, (short_pack hm hs).2.2] at C12
      by_cases a5 : a0 = 5
      · subst a5
        by_cases b5 : b0 = 5
        · subst b5
          exact back_55S x y a1 a2 b1 b2 g k m e c d (pbS k m e) (pbL k m e) (hideIt C1) (hideIt C2) (hideIt C3) (hideIt C4) (hideIt C5) (hideIt C6) (hideIt C7) (hideIt C8) (hideIt C9) (hideIt C10) (hideIt C11) (hideIt C12) w
        · rw [p2 b5] at C4 C8
          exact back_5xS x y a1 a2 b0 b1 b2 g k m e c (pbS k m e) (pbL k m e) (by simpa using b5) (hideIt C1) (hideIt C2) (hideIt C3) (hideIt C4) (hideIt C5) (hideIt C6) (hideIt C7) (hideIt C8) (hideIt C9) (hideIt C10) (hideIt C11) (hideIt C12) w
      · rw [p1 a5] at C3 C7
        by_cases b5 : b0 = 5
        · subst b5
          exact back_x5S x y a0 a1 a2 b1 b2 g k m e d (pbS k m e) (pbL k m e) (by simpa using a5) (hideIt C1) (hideIt C2) (hideIt C3) (hideIt C4) (hideIt C5) (hideIt C6) (hideIt C7) (hideIt C8) (hideIt C9) (hideIt C10) (hideIt C11) (hideIt C12) w
        · rw [p2 b5] at C4 C8
          exact back_xxS x y a0 a1 a2 b0 b1 b2 g k m e (pbS k m e) (pbL k m e) (by simpa using a5) (by simpa using b5) (hideIt C1) (hideIt C2) (hideIt C3) (hideIt C4) (hideIt C5) (hideIt C6) (hideIt C7) (hideIt C8) (hideIt C9) (hideIt C10) (hideIt C11) (hideIt C12) w
    · rw [show psV k m e = 0 from by unfold psV; rw [if_neg (fun q => hs q.2)], show psE k m e = 9 from by unfold psE; rw [if_pos hm, if_neg hs]] at C9
      by_cases a5 : a0 = 5
      · subst a5
        by_cases b5 : b0 = 5
        · subst b5
          exact back_55L x y a1 a2 b1 b2 g k m e c d (pbL k m e) (hideIt C1) (hideIt C2) (hideIt C3) (hideIt C4) (hideIt C5) (hideIt C6) (hideIt C7) (hideIt C8) (hideIt C9) (hideIt C10) (hideIt C11) w
        · rw [p2 b5] at C4 C8
          exact back_5xL x y a1 a2 b0 b1 b2 g k m e c (pbL k m e) (by simpa using b5) (hideIt C1) (hideIt C2) (hideIt C3) (hideIt C4) (hideIt C5) (hideIt C6) (hideIt C7) (hideIt C8) (hideIt C9) (hideIt C10) (hideIt C11) w
      · rw [p1 a5] at C3 C7
        by_cases b5 : b0 = 5
        · subst b5
          exact back_x5L x y a0 a1 a2 b1 b2 g k m e d (pbL k m e) (by simpa using a5) (hideIt C1) (hideIt C2) (hideIt C3) (hideIt C4) (hideIt C5) (hideIt C6) (hideIt C7) (hideIt C8) (hideIt C9) (hideIt C10) (hideIt C11) w
        · rw [p2 b5] at C4 C8
          exact back_xxL x y a0 a1 a2 b0 b1 b2 g k m e (pbL k m e) (by simpa using a5) (by simpa using b5) (hideIt C1) (hideIt C2) (hideIt C3) (hideIt C4) (hideIt C5) (hideIt C6) (hideIt C7) (hideIt C8) (hideIt C9) (hideIt C10) (hideIt C11) w
  · rw [show plV k m e = 0 from by unfold plV; rw [if_neg hm], show plE k m e = 2 from by unfold plE; rw [if_neg hm]] at C10
    rw [show psV k m e = 0 from by unfold psV; rw [if_neg (fun q => hm q.1)], show psE k m e = 2 from by unfold psE; rw [if_neg hm]] at C9
    by_cases a5 : a0 = 5
    · subst a5
      by_cases b5 : b0 = 5
      · subst b5
        exact back_55N x y a1 a2 b1 b2 g k m e c d (hideIt C1) (hideIt C2) (hideIt C3) (hideIt C4) (hideIt C5) (hideIt C6) (hideIt C7) (hideIt C8) (hideIt C9) (hideIt C10) w
      · rw [p2 b5] at C4 C8
        exact back_5xN x y a1 a2 b0 b1 b2 g k m e c (by simpa using b5) (hideIt C1) (hideIt C2) (hideIt C3) (hideIt C4) (hideIt C5) (hideIt C6) (hideIt C7) (hideIt C8) (hideIt C9) (hideIt C10) w
    · rw [p1 a5] at C3 C7
      by_cases b5 : b0 = 5
      · subst b5
        exact back_x5N x y a0 a1 a2 b1 b2 g k m e d (by simpa using a5) (hideIt C1) (hideIt C2) (hideIt C3) (hideIt C4) (hideIt C5) (hideIt C6) (hideIt C7) (hideIt C8) (hideIt C9) (hideIt C10) w
      · rw [p2 b5] at C4 C8
        exact back_xxN x y a0 a1 a2 b0 b1 b2 g k m e (by simpa using a5) (by simpa using b5) (hideIt C1) (hideIt C2) (hideIt C3) (hideIt C4) (hideIt C5) (hideIt C6) (hideIt C7) (hideIt C8) (hideIt C9) (hideIt C10) w
end Go.Proofs.Ytjblckljbgelaaa
