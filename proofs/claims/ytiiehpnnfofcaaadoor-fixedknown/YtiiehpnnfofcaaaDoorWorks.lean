/-
  The helper 'works' of the statements of layer 1 answers true.
-/
import Derived.Test.YtiiehpnnfofcaaaDoorText
import Derived.Test.YtiiehpnnfofcaaaDoorNum2
namespace Go.Proofs.YtiiehpnnfofcaaaDoor
open Go.RowKit
/-- The library's table of powers of ten, as the row lists it. -/
def Tab (w : World) : Prop := Lib.TabIs Tryd.prog w "internal/strconv.uint64pow10" .u64 Lib.pow10Tab
theorem Tab.on {w w' : World} (h : Tab w) (k : After w w') : Tab w' := Lib.tabBelow_of_tabIs h w' k
theorem Tab.draws {w : World} (h : Tab w) (n : Nat) : Tab (w.drewN n) := h.on (After.draws After.rfl n)
theorem after_drawn (w : World) (n : Nat) : After w (w.drewN n) := After.draws After.rfl n
theorem decDigits_small (u : Nat) (h : u < 10) : Lib.decDigits u = [UInt8.ofNat (48 + u)] := by rw [Lib.decDigits, dif_pos h]
theorem itoa_zero : Lib.itoa 0 = [48] := by
  unfold Lib.itoa; rw [if_neg (by decide)]; exact decDigits_small 0 (by decide)
theorem text_m5 : textL (-5) = [45, 48, 46, 48, 48, 53] := by
  have e : textL (-5) = [45] ++ Lib.itoa 0 ++ partL 5 := rfl
  rw [e, itoa_zero]; decide
theorem parse_36 (w : World) : Calls Tryd.prog 24 #[.string ⟨#[51, 54, 46, 54]⟩] w fun e w' => e = .returned (.tuple #[.int .i64 36600, .int .i64 0]) ∧ After w w' := by
  have h := parse_any ⟨#[51, 54, 46, 54]⟩ w (by decide)
  rw [show parseV (⟨#[51, 54, 46, 54]⟩ : ByteArray).data.toList = 36600 from by decide, show parseE (⟨#[51, 54, 46, 54]⟩ : ByteArray).data.toList = 0 from by decide] at h
  exact h
theorem div_23 (w : World) : Calls Tryd.prog 17 #[.int .i64 2, .int .i64 3] w fun e w' => e = .returned (.tuple #[.int .i64 667, .int .i64 0]) ∧ ∃ n, w' = w.drewN n := by
  have h := div_any 2 3 w
  rw [show scaleZ 1000 2 3 = 667 from by decide, show scaleE 3 = 0 from by decide] at h
  exact h
theorem text_5 (w : World) (ht : Tab w) : Calls Tryd.prog 22 #[.int .i64 (-5)] w fun e w' => e = .returned (.string ⟨#[45, 48, 46, 48, 48, 53]⟩) ∧ After w w' := by
  have h := text_any (-5) w ht
  rw [text_m5] at h
  exact h
theorem mul_15 (w : World) : Calls Tryd.prog 15 #[.int .i64 1500, .int .i64 2] w fun e w' => e = .returned (.int .i64 3) ∧ ∃ n, w' = w.drewN n := by
  have h := mul_any 1500 2 w
  rw [show mulZ 1500 2 = 3 from by decide] at h
  exact h
set_option maxRecDepth 100000 in
set_option maxHeartbeats 400000 in
theorem works_any (w : World) (ht : Tab w) :
    Calls Tryd.prog 21 #[] w fun e w' => e = .returned (.bool true) ∧ After w w' := by
  have HT := hideIt ht
  clear ht
  go_enter Tryd.func21, Tryd.ntmps21
  go_wp2_with fail
  refine (parse_36 _).mono ?_
  rintro e w1 ⟨rfl, hb1⟩
  go_wp2_with fail
  refine (div_23 _).mono ?_
  rintro e w' ⟨rfl, n, rfl⟩
  go_wp2_with fail
  refine (text_5 _ ((HT.out.on hb1).draws n)).mono ?_
  rintro e w2 ⟨rfl, hb2⟩
  go_wp2_with fail
  refine (mul_15 _).mono ?_
  rintro e w' ⟨rfl, m, rfl⟩
  go_wp2
  go_ret
  exact ⟨rfl, After.trans (After.trans (After.draws hb1 n) hb2) (after_drawn _ m)⟩
end Go.Proofs.YtiiehpnnfofcaaaDoor
