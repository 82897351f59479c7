/-
  The walk of MderNames.
-/
import Derived.Test.YtojgkhinddjmaaaNones
import Derived.Test.YtojgkhinddjmaaaNamesD
import Derived.Test.YtojgkhinddjmaaaLawReads
import Derived.Test.YtojgkhinddjmaaaLawSame
import Derived.Test.YtojgkhinddjmaaaLawBack
import Derived.Deep.DeepCutAuto
namespace Go.Proofs.Ytojgkhinddjmaaa
open Go.RowKit
set_option maxRecDepth 100000 in
set_option maxHeartbeats 4000000 in
theorem names_walk (w : World) : Calls Try.prog 7 #[] w fun e w' => e = .returned (.bool true) ∧ After w w' := by
  go_enter Try.func7, Try.ntmps7
  go_wp2_with fail
  go_loopw [1, 2, 3] (fun r s i W => ∃ m : Nat, m ≤ 2 ∧ i = .int .i64 m ∧ NoneP W 59 r ∧ NoneP W 61 s ∧ After w W) (fun _ _ i _ => 2 - (intOf i).toNat)
  case atStart => exact ⟨0, by omega, rfl, .inl rfl, .inl rfl, After.rfl⟩
  case round =>
    obtain ⟨m, hm, rfl, hr, hs, ha⟩ := hrel
    have HR := hideIt hr
    have HS := hideIt hs
    have HA := hideIt ha
    clear hr hs ha
    by_cases hlt : m < 2
    · have hmi : (m : Int) < 2 := by omega
      go_wp2_with (first
        | (go_at_call 12; refine (u8_none HR.out).mono ?_; rintro e w' ⟨rfl, rfl⟩)
        | (go_at_call 14; refine (u16_none HR.out).mono ?_; rintro e w' ⟨rfl, rfl⟩)
        | (go_at_call 16; refine (u32_none HR.out).mono ?_; rintro e w' ⟨rfl, rfl⟩)
        | (go_at_call 18; refine (octets_none HR.out).mono ?_; rintro e w' ⟨rfl, rfl⟩)
        | (go_at_call 21; refine (left_none HR.out).mono ?_; rintro e w' ⟨rfl, rfl⟩)
        | (go_at_call 26; refine (wU8_none HS.out _).mono ?_; rintro e w' ⟨rfl, rfl⟩)
        | (go_at_call 28; refine (wU16_none HS.out _).mono ?_; rintro e w' ⟨rfl, rfl⟩)
        | (go_at_call 30; refine (wU32_none HS.out _).mono ?_; rintro e w' ⟨rfl, rfl⟩)
        | (go_at_call 32; refine (wOctets_none HS.out _).mono ?_; rintro e w' ⟨rfl, rfl⟩)
        | (go_at_call 34; refine (wBytes_none HS.out).mono ?_; rintro e w' ⟨rfl, rfl⟩))
      go_roundw
      case rel =>
        refine ⟨m + 1, by omega, by go_num, .inr ⟨w'.heap.size, .slice none 0 0, rfl, ?_⟩, .inr ⟨w'.heap.size + 1, .slice none 0 0, rfl, ?_⟩, (HA.out.alloc _).alloc _⟩
        · rw [Below.heap_alloc _ _ _ (by simp)]; exact two_new _ _ _ _
        · have h := two_new (w'.alloc (.cells #[.bool false, .slice none 0 0] 59)) 61 (.bool false) (.slice none 0 0)
          simpa using h
      case measure => simp [intOf]; omega
    · obtain rfl : m = 2 := by omega
      clear hlt hm HR HS
      have mk1 := make_65535
      have mk2 := make_65536
      go_wp2_with fail
      go_cut [12] (fun l W => ∃ a c, l = .slice a 12 c ∧ Dos W a 12 ∧ After w W)
      case first =>
        go_region
        all_goals
          go_wp2_with fail
          go_meet
          refine ⟨_, _, rfl, ?_, But.drew ((((HA.out.alloc _).alloc _).alloc _).alloc _)⟩
          obtain ⟨b1, b2, b3, b4⟩ := four_blocks wr _ _ _ _
          refine dos_names b4 ?_ ?_ ?_
          all_goals first | exact b1 | exact b2 | exact b3
      case rest =>
        obtain ⟨a, c, rfl, hd, ha⟩ := hcut
        have HD := hideIt hd
        have HB := hideIt ha
        clear hd ha HA mk1 mk2
        go_wp2_with fail
        refine (awake_any _).mono ?_
        rintro e w1 ⟨rfl, a1⟩
        have H1 := hideIt a1
        have B1 := hideIt (HB.out.trans a1)
        clear a1
        go_wp2_with fail
        refine (writes_walk a 12 c _ (HD.out.after H1.out) (by decide)).mono ?_
        rintro e w2 ⟨rfl, a2⟩
        have H2 := hideIt (H1.out.trans a2)
        have B2 := hideIt (HB.out.trans H2.out)
        clear a2 H1 B1
        go_wp2_with fail
        refine (back_walk a 12 c _ (HD.out.after H2.out) (by decide)).mono ?_
        rintro e w3 ⟨rfl, a3⟩
        have B3 := hideIt (B2.out.trans a3)
        clear a3 B2 H2 HD HB
        go_wp2_with fail
        refine (reads_walk _ 6 6 [0, 2, 10, 11, 0, 1] _ 4 4 [3, 3, 1, 0] _ ((lit_row w3 _ _ 6 rfl rfl (bs_of _ (by decide))).after (After.rfl.alloc _)) (fun e => by cases e) (by decide) (lit_ints_at _ _ _ 4 _ (by simp) rfl rfl (by decide)) (by decide)).mono ?_
        rintro e w4 ⟨rfl, a4⟩
        have B4 := hideIt (((B3.out.alloc _).alloc _).trans a4)
        clear a4 B3
        go_wp2_with fail
        refine (reads_walk none 0 0 [] _ 4 4 [0, 1, 2, 3] _ (Row.nil _ _) (fun _ => ⟨rfl, rfl⟩) (by decide) (lit_ints_at _ _ _ 4 _ rfl rfl rfl (by decide)) (by decide)).mono ?_
        rintro e w5 ⟨rfl, a5⟩
        have B5 := hideIt ((B4.out.alloc _).trans a5)
        clear a5 B4
        go_wp2_with fail
        refine (same_walk _ 6 6 [0, 2, 10, 11, 0, 1] _ 3 3 [3, 2, 1] _ ((lit_row w5 _ _ 6 rfl rfl (bs_of _ (by decide))).after (After.rfl.alloc _)) (fun e => by cases e) (by decide) (by decide) (lit_ints_at _ _ _ 3 _ (by simp) rfl rfl (by decide)) (by decide)).mono ?_
        rintro e w6 ⟨rfl, a6⟩
        have B6 := hideIt (((B5.out.alloc _).alloc _).trans a6)
        clear a6 B5
        go_wp2
        go_ret
        exact ⟨rfl, B6.out⟩
end Go.Proofs.Ytojgkhinddjmaaa
