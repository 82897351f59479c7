/-
  The walks of RealSays and RealPacks: what bits say, and what is packed, is what the document says.
-/
import Derived.Test.YtjblckljbgelaaaTells
import Derived.Test.YtjblckljbgelaaaWorks
namespace Go.Proofs.Ytjblckljbgelaaa
open Go.RowKit
set_option maxHeartbeats 4000000 in
theorem says_walk (x y : Int) (h1 : 0 ≤ x) (h2 : x ≤ 65535) (h3 : 0 ≤ y) (h4 : y ≤ 4294967295) (w : World) :
    Calls Try.prog 3 #[.int .u16 x, .int .u32 y] w fun e w' => e = .returned (.bool true) ∧ After w w' := by
  have S1 := hideIt (fun w => short_any x w h1 h2)
  have S2 := hideIt (fun w => long_any y w h3 h4)
  have S3 := hideIt (fun w => refShort_any x w h1 h2)
  have S4 := hideIt (fun w => refLong_any y w h3 h4)
  generalize shK x = a0 at *
  generalize shM x = a1 at *
  generalize shE x = a2 at *
  generalize loK y = b0 at *
  generalize loM y = b1 at *
  generalize loE y = b2 at *
  go_enter Try.func3, Try.ntmps3
  go_wp2_with fail
  refine (S1.out _).mono ?_
  rintro e w1 ⟨rfl, A1⟩
  go_wp2_with fail
  refine (S2.out _).mono ?_
  rintro e w2 ⟨rfl, A2⟩
  have B2 := A1.trans A2
  clear A1 A2
  go_wp2_with fail
  refine (S3.out _).mono ?_
  rintro e w3 ⟨rfl, A3⟩
  go_wp2_with fail
  refine (S4.out _).mono ?_
  rintro e w4 ⟨rfl, A4⟩
  replace A4 := A3.trans A4
  clear A3
  obtain ⟨c4, f4⟩ := A4.cell
  have hz1 : w2.heap.size < w4.heap.size := by have := A4.size; simp at this; omega
  have hz2 : w2.heap.size + 1 < w4.heap.size := by have := A4.size; simp at this; omega
  go_wp2_with fail
  refine (tells_any a0 a1 a2 _).mono ?_
  rintro e w5 ⟨rfl, A5⟩
  obtain ⟨c5, f5⟩ := A5.cell
  clear c4 f4
  go_wp2_with fail
  refine (tells_any b0 b1 b2 _).mono ?_
  rintro e w6 ⟨rfl, A6⟩
  go_wp2_with fail
  refine (works_any _).mono ?_
  rintro e w7 ⟨rfl, A7⟩
  go_wp2
  go_ret
  exact ⟨rfl, (((((((B2.alloc _).alloc _).trans A4).alloc _).alloc _).trans A5).trans A6).trans A7⟩
set_option maxHeartbeats 4000000 in
theorem packs_walk (k m e : Int) (w : World) :
    Calls Try.prog 4 #[.agg #[.int .i64 k, .int .i64 m, .int .i64 e]] w fun x w' => x = .returned (.bool true) ∧ After w w' := by
  have S1 := hideIt (fun w => packShort_any k m e w)
  have S2 := hideIt (fun w => refPackShort_any k m e w)
  have S3 := hideIt (fun w => packLong_any k m e w)
  have S4 := hideIt (fun w => refPackLong_any k m e w)
  generalize psV k m e = a at *
  generalize psE k m e = b at *
  generalize plV k m e = c at *
  generalize plE k m e = d at *
  go_enter Try.func4, Try.ntmps4
  go_wp2_with fail
  refine (S1.out _).mono ?_
  rintro e' w1 ⟨rfl, A1⟩
  obtain ⟨c1, f1⟩ := A1.cell
  go_wp2_with fail
  refine (S2.out _).mono ?_
  rintro e' w2 ⟨rfl, A2⟩
  replace A2 := A1.trans A2
  clear c1 f1 A1
  obtain ⟨c2, f2⟩ := A2.cell
  go_wp2_with fail
  refine (S3.out _).mono ?_
  rintro e' w3 ⟨rfl, A3⟩
  replace A3 := A2.trans A3
  clear c2 f2 A2
  obtain ⟨c3, f3⟩ := A3.cell
  go_wp2_with fail
  refine (S4.out _).mono ?_
  rintro e' w4 ⟨rfl, A4⟩
  replace A4 := A3.trans A4
  clear c3 f3 A3
  obtain ⟨c4, f4⟩ := A4.cell
  go_wp2_with fail
  refine (tells_any k m e _).mono ?_
  rintro e' w5 ⟨rfl, A5⟩
  go_wp2_with fail
  refine (works_any _).mono ?_
  rintro e' w6 ⟨rfl, A6⟩
  go_wp2
  go_ret
  exact ⟨rfl, (((After.rfl.alloc _).trans A4).trans A5).trans A6⟩
end Go.Proofs.Ytjblckljbgelaaa
