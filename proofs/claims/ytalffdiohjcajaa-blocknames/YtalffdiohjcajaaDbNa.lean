/-
  Package block: devices that are none.
-/
import Derived.Test.YtalffdiohjcajaaLawPlays22
namespace Go.Proofs.Ytalffdiohjcajaa
open Go.RowKit
set_option maxRecDepth 8000
abbrev zeroC : Array Value := #[.slice none 0 0, .map none, .int .i64 0, .bool false]
/-- Nil, or a device that nobody made. -/
def NoneD (w : World) (v : Value) : Prop := v = .pointer none ∨ ∃ q, v = Ptr q ∧ w.heap[q]? = some (.cells zeroC 56 (0, 0))
theorem NoneD.after {w w' : World} {v : Value} (h : NoneD w v) (a : After w w') : NoneD w' v := by
  rcases h with rfl | ⟨q, rfl, hq⟩
  · exact .inl rfl
  · exact .inr ⟨q, rfl, After.at a hq⟩
theorem none_is {w : World} {v : Value} (h : NoneD w v) : Calls Try.prog 36 #[v] w fun e w' => e = .returned (.bool true) ∧ w' = w := by
  rcases h with rfl | ⟨q, rfl, hq⟩
  · go_enter Try.func36, Try.ntmps36
    go_wp2
    go_ret
    exact ⟨rfl, rfl⟩
  · have c := blk_cell hq (i := 0) (v := .slice none 0 0) rfl
    clear hq
    go_enter Try.func36, Try.ntmps36
    go_wp2
    go_ret
    exact ⟨rfl, rfl⟩
theorem none_check {w : World} {v : Value} (h : NoneD w v) : Calls Try.prog 33 #[v] w fun e w' => e = .returned (.int .i64 1) ∧ w' = w := by
  have HN := hideIt (none_is h)
  clear h
  go_enter Try.func33, Try.ntmps33
  go_wp2_with (go_at_call 36; refine HN.out.mono ?_; rintro e w' ⟨rfl, rfl⟩)
  go_ret
  exact ⟨rfl, rfl⟩
theorem none_read {w : World} {v : Value} (h : NoneD w v) (i : Int) : Calls Try.prog 18 #[v, .int .i64 i] w fun e w' => e = .returned (.tuple #[.slice none 0 0, .int .i64 1]) ∧ w' = w := by
  have HN := hideIt (none_check h)
  clear h
  go_enter Try.func18, Try.ntmps18
  go_wp2_with (go_at_call 33; refine HN.out.mono ?_; rintro e w' ⟨rfl, rfl⟩)
  go_ret2
  exact ⟨rfl, rfl⟩
theorem none_write {w : World} {v : Value} (h : NoneD w v) (i : Int) (u : Value) : Calls Try.prog 12 #[v, .int .i64 i, u] w fun e w' => e = .returned (.int .i64 1) ∧ w' = w := by
  have HN := hideIt (none_check h)
  clear h
  go_enter Try.func12, Try.ntmps12
  go_wp2_with (go_at_call 33; refine HN.out.mono ?_; rintro e w' ⟨rfl, rfl⟩)
  go_ret
  exact ⟨rfl, rfl⟩
theorem none_flush {w : World} {v : Value} (h : NoneD w v) : Calls Try.prog 14 #[v] w fun e w' => e = .returned (.int .i64 1) ∧ w' = w := by
  have HN := hideIt (none_check h)
  clear h
  go_enter Try.func14, Try.ntmps14
  go_wp2_with (go_at_call 33; refine HN.out.mono ?_; rintro e w' ⟨rfl, rfl⟩)
  go_ret
  exact ⟨rfl, rfl⟩
theorem none_arm {w : World} {v : Value} (h : NoneD w v) (n : Int) : Calls Try.prog 19 #[v, .int .i64 n] w fun e w' => e = .returned (.int .i64 1) ∧ w' = w := by
  have HN := hideIt (none_check h)
  clear h
  go_enter Try.func19, Try.ntmps19
  go_wp2_with (go_at_call 33; refine HN.out.mono ?_; rintro e w' ⟨rfl, rfl⟩)
  go_ret
  exact ⟨rfl, rfl⟩
theorem none_crash {w : World} {v : Value} (h : NoneD w v) : Calls Try.prog 15 #[v] w fun e w' => e = .returned (.int .i64 1) ∧ w' = w := by
  have HN := hideIt (none_check h)
  clear h
  go_enter Try.func15, Try.ntmps15
  go_wp2_with (go_at_call 33; refine HN.out.mono ?_; rintro e w' ⟨rfl, rfl⟩)
  go_ret
  exact ⟨rfl, rfl⟩
theorem none_boot {w : World} {v : Value} (h : NoneD w v) (u : Value) : Calls Try.prog 17 #[v, u] w fun e w' => e = .returned (.int .i64 1) ∧ w' = w := by
  have HN := hideIt (none_is h)
  clear h
  go_enter Try.func17, Try.ntmps17
  go_wp2_with (go_at_call 36; refine HN.out.mono ?_; rintro e w' ⟨rfl, rfl⟩)
  go_ret
  exact ⟨rfl, rfl⟩
theorem none_sectors {w : World} {v : Value} (h : NoneD w v) : Calls Try.prog 21 #[v] w fun e w' => e = .returned (.int .i64 0) ∧ w' = w := by
  rcases h with rfl | ⟨q, rfl, hq⟩
  · go_enter Try.func21, Try.ntmps21
    go_wp2
    go_ret
    exact ⟨rfl, rfl⟩
  · have c := blk_cell hq (i := 0) (v := .slice none 0 0) rfl
    clear hq
    go_enter Try.func21, Try.ntmps21
    go_wp2
    go_ret
    exact ⟨rfl, rfl⟩
theorem none_dead {w : World} {v : Value} (h : NoneD w v) : Calls Try.prog 16 #[v] w fun e w' => e = .returned (.bool false) ∧ w' = w := by
  rcases h with rfl | ⟨q, rfl, hq⟩
  · go_enter Try.func16, Try.ntmps16
    go_wp2
    go_ret
    exact ⟨rfl, rfl⟩
  · have c := blk_cell hq (i := 3) (v := .bool false) rfl
    clear hq
    go_enter Try.func16, Try.ntmps16
    go_wp2
    go_ret
    exact ⟨rfl, rfl⟩
end Go.Proofs.Ytalffdiohjcajaa
