/-
  The walk of the statement FixedTexts: it answers true at every input.
-/
import Derived.Test.YtiiehpnnfofcaaaDoorWorks
import Derived.Test.YtiiehpnnfofcaaaDoorRefParse2
namespace Go.Proofs.YtiiehpnnfofcaaaDoor
open Go.RowKit
set_option maxRecDepth 100000 in
set_option maxHeartbeats 1000000 in
theorem texts_any (v : Int) (s : ByteArray) (w : World) (ht : Tab w) (hs : s.size ≤ maxLen) :
    Calls Tryd.prog 4 #[.int .i64 v, .string s] w fun e w' => e = .returned (.bool true) ∧ After w w' := by
  have HT := hideIt ht
  have HS := hideIt hs
  clear ht hs
  go_enter Tryd.func4, Tryd.ntmps4
  go_wp2_with fail
  refine (text_any v _ HT.out).mono ?_
  rintro e w1 ⟨rfl, hb1⟩
  go_wp2_with fail
  refine (refText_any v _).mono ?_
  rintro e w2 ⟨rfl, hb2⟩
  go_wp2_with fail
  refine (parse_any s _ HS.out).mono ?_
  rintro e w3 ⟨rfl, hb3⟩
  go_wp2_with fail
  refine (refParse_any s _ HS.out).mono ?_
  rintro e w' ⟨rfl, rfl⟩
  have HB : Hid (After w w') := After.trans (After.trans hb1 hb2) hb3
  go_wp2_with fail
  refine (works_any _ (HT.out.on HB.out)).mono ?_
  rintro e w4 ⟨rfl, hb4⟩
  go_wp2
  go_ret
  exact ⟨rfl, After.trans HB.out hb4⟩
end Go.Proofs.YtiiehpnnfofcaaaDoor
