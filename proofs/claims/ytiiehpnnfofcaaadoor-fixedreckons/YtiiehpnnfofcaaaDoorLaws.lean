/-
  The walks of the statements FixedReckons, FixedOrder and FixedNear: each answers true at every input.
-/
import Derived.Test.YtiiehpnnfofcaaaDoorWorks
namespace Go.Proofs.YtiiehpnnfofcaaaDoor
open Go.RowKit
set_option maxRecDepth 100000 in
set_option maxHeartbeats 1000000 in
theorem reckons_any (a b c : Int) (w : World) (ht : Tab w) :
    Calls Tryd.prog 3 #[.int .i64 a, .int .i64 b, .int .i64 c] w fun e w' => e = .returned (.bool true) ∧ After w w' := by
  have HT := hideIt ht
  clear ht
  go_enter Tryd.func3, Tryd.ntmps3
  go_wp2_with (first
    | (go_at_call 9; refine (clamp_any _ _).mono ?_; rintro e w' ⟨rfl, rfl⟩)
    | (go_at_call 10; refine (refClamp_any _ _).mono ?_; rintro e w' ⟨rfl, rfl⟩)
    | (go_at_call 11; refine (add_any _ _ _).mono ?_; rintro e w' ⟨rfl, rfl⟩)
    | (go_at_call 12; refine (refAdd_any _ _ _).mono ?_; rintro e w' ⟨rfl, rfl⟩)
    | (go_at_call 13; refine (sub_any _ _ _).mono ?_; rintro e w' ⟨rfl, rfl⟩)
    | (go_at_call 14; refine (refSub_any _ _ _).mono ?_; rintro e w' ⟨rfl, rfl⟩)
    | (go_at_call 15; refine (mul_any _ _ _).mono ?_; rintro e w' ⟨rfl, n1, rfl⟩)
    | (go_at_call 16; refine (refMul_any _ _ _).mono ?_; rintro e w' ⟨rfl, rfl⟩)
    | (go_at_call 17; refine (div_any _ _ _).mono ?_; rintro e w' ⟨rfl, n2, rfl⟩)
    | (go_at_call 18; refine (refDiv_any _ _ _).mono ?_; rintro e w' ⟨rfl, rfl⟩)
    | (go_at_call 19; refine (scale_any _ _ _ _).mono ?_; rintro e w' ⟨rfl, n3, rfl⟩)
    | (go_at_call 20; refine (refScale_any _ _ _ _).mono ?_; rintro e w' ⟨rfl, rfl⟩))
  refine (works_any _ (HT.out.draws _)).mono ?_
  rintro e w1 ⟨rfl, hb1⟩
  go_wp2
  go_ret
  exact ⟨rfl, After.trans (after_drawn _ _) hb1⟩
end Go.Proofs.YtiiehpnnfofcaaaDoor
