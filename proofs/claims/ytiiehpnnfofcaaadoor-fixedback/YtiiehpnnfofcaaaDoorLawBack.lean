/-
  The walk of the statement FixedBack: it answers true at every input.
-/
import Derived.Test.YtiiehpnnfofcaaaDoorWorks
import Derived.Test.YtiiehpnnfofcaaaDoorPure4
namespace Go.Proofs.YtiiehpnnfofcaaaDoor
open Go.RowKit
theorem text_len (v : Int) : (textL v).length ≤ 15 := by
  have c1 := cl_lo v; have c2 := cl_hi v
  have a0 : 0 ≤ ab (cl v) := by rw [ab_def]; omega
  have a1 : ab (cl v) ≤ 2147483647 := by rw [ab_def]; omega
  have i1 := itoa_len (ab (cl v) / 1000) (by omega) (by omega)
  have i2 := part_len (ab (cl v) % 1000)
  unfold textL
  rw [List.length_append, List.length_append]
  have : (if cl v < 0 then [(45 : UInt8)] else []).length ≤ 1 := by split <;> simp
  omega
theorem parse_text (v : Int) (w : World) : Calls Tryd.prog 24 #[.string (S (textL v))] w fun e w' => e = .returned (.tuple #[.int .i64 (cl v), .int .i64 0]) ∧ After w w' := by
  have hl := text_len v
  have h := parse_any (S (textL v)) w (by show (textL v).length ≤ maxLen; unfold maxLen; omega)
  rw [S_list, (read_text v).1, (read_text v).2] at h
  exact h
set_option maxRecDepth 100000 in
set_option maxHeartbeats 1000000 in
theorem back_ok (v V : Int) (s : ByteArray) (w : World) (ht : Tab w) (hp : ∀ w, Calls Tryd.prog 24 #[.string s] w fun e w' => e = .returned (.tuple #[.int .i64 V, .int .i64 0]) ∧ After w w') (v1 : -2147483647 ≤ V) (v2 : V ≤ 2147483647) :
    Calls Tryd.prog 5 #[.int .i64 v, .string s] w fun e w' => e = .returned (.bool true) ∧ After w w' := by
  have HT := hideIt ht
  have HP := hideIt hp
  have hV := cl_id V v1 v2
  clear ht hp
  go_enter Tryd.func5, Tryd.ntmps5
  go_wp2_with fail
  refine (works_any _ HT.out).mono ?_
  rintro e w1 ⟨rfl, hb1⟩
  go_wp2_with fail
  refine (text_any v _ (HT.out.on hb1)).mono ?_
  rintro e w2 ⟨rfl, hb2⟩
  go_wp2_with fail
  refine (parse_text v _).mono ?_
  rintro e w3 ⟨rfl, hb3⟩
  go_wp2_with fail
  refine (clamp_any v _).mono ?_
  rintro e w' ⟨rfl, rfl⟩
  go_wp2_with fail
  refine (HP.out _).mono ?_
  rintro e w4 ⟨rfl, hb4⟩
  have HB : Hid (After w w4) := After.trans (After.trans (After.trans hb1 hb2) hb3) hb4
  go_wp2_with fail
  refine (text_any V _ (HT.out.on HB.out)).mono ?_
  rintro e w5 ⟨rfl, hb5⟩
  go_wp2_with fail
  refine (parse_text V _).mono ?_
  rintro e w6 ⟨rfl, hb6⟩
  go_wp2
  go_ret
  exact ⟨rfl, After.trans (After.trans HB.out hb5) hb6⟩
set_option maxRecDepth 100000 in
set_option maxHeartbeats 1000000 in
theorem back_no (v E : Int) (s : ByteArray) (w : World) (ht : Tab w) (hp : ∀ w, Calls Tryd.prog 24 #[.string s] w fun e w' => e = .returned (.tuple #[.int .i64 0, .int .i64 E]) ∧ After w w') (hE : E = 4 ∨ E = 9) :
    Calls Tryd.prog 5 #[.int .i64 v, .string s] w fun e w' => e = .returned (.bool true) ∧ After w w' := by
  have HT := hideIt ht
  have HP := hideIt hp
  clear ht hp
  rcases hE with rfl | rfl
  all_goals
    go_enter Tryd.func5, Tryd.ntmps5
    go_wp2_with fail
    refine (works_any _ HT.out).mono ?_
    rintro e w1 ⟨rfl, hb1⟩
    go_wp2_with fail
    refine (text_any v _ (HT.out.on hb1)).mono ?_
    rintro e w2 ⟨rfl, hb2⟩
    go_wp2_with fail
    refine (parse_text v _).mono ?_
    rintro e w3 ⟨rfl, hb3⟩
    go_wp2_with fail
    refine (clamp_any v _).mono ?_
    rintro e w' ⟨rfl, rfl⟩
    go_wp2_with fail
    refine (HP.out _).mono ?_
    rintro e w4 ⟨rfl, hb4⟩
    have HB : Hid (After w w4) := After.trans (After.trans (After.trans hb1 hb2) hb3) hb4
    go_wp2
    go_ret
    exact ⟨rfl, HB.out⟩
theorem back_any (v : Int) (s : ByteArray) (w : World) (ht : Tab w) (hs : s.size ≤ maxLen) :
    Calls Tryd.prog 5 #[.int .i64 v, .string s] w fun e w' => e = .returned (.bool true) ∧ After w w' := by
  have hp := fun w => parse_any s w hs
  rcases parse_cases s.data.toList with ⟨h1, h2, h3⟩ | ⟨h1, h2⟩ | ⟨h1, h2⟩
  · rw [h1] at hp; exact back_ok v _ s w ht hp h2 h3
  · rw [h1, h2] at hp; exact back_no v 4 s w ht hp (Or.inl rfl)
  · rw [h1, h2] at hp; exact back_no v 9 s w ht hp (Or.inr rfl)
end Go.Proofs.YtiiehpnnfofcaaaDoor
