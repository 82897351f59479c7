/-
  Readers and writers that are none.
-/
import Derived.Test.YtojgkhinddjmaaaPut
namespace Go.Proofs.Ytojgkhinddjmaaa
open Go.RowKit
/-- A pointer to no object, or to a zero one of type T. -/
def NoneP (w : World) (T : TypeId) (p : Value) : Prop := p = .pointer none ∨ ∃ g y, p = Ptr g ∧ w.heap[g]? = some (.cells #[.bool false, y] T (0, 0))
theorem NoneP.after {w w' : World} {T : TypeId} {p : Value} (h : NoneP w T p) (a : After w w') : NoneP w' T p := by
  rcases h with h | ⟨g, y, e, h⟩
  · exact .inl h
  · exact .inr ⟨g, y, e, (a.block g (two_at h).1 (fun t => t)).trans h⟩
theorem isNone_is {w : World} {T : TypeId} {p : Value} (h : NoneP w T p) : Calls Try.prog 39 #[p] w fun e w' => e = .returned (.bool true) ∧ w' = w := by
  rcases h with rfl | ⟨g, y, rfl, h⟩
  · exact isNone_nil w
  · exact isNone_zero h
theorem wIsNone_is {w : World} {T : TypeId} {p : Value} (h : NoneP w T p) : Calls Try.prog 41 #[p] w fun e w' => e = .returned (.bool true) ∧ w' = w := by
  rcases h with rfl | ⟨g, y, rfl, h⟩
  · exact wIsNone_nil w
  · exact wIsNone_zero h
theorem take_none {w : World} {T : TypeId} {p : Value} (h : NoneP w T p) (k : Int) : Calls Try.prog 40 #[p, .int .i64 k] w fun e w' => e = .returned (.tuple #[.slice none 0 0, .int .i64 1]) ∧ w' = w := by
  have H := hideIt (isNone_is h)
  clear h
  go_enter Try.func40, Try.ntmps40
  go_wp2_with (go_at_call 39; refine H.out.mono ?_; rintro e w' ⟨rfl, rfl⟩)
  go_ret2
  exact ⟨rfl, rfl⟩
theorem number_none {w : World} {T : TypeId} {p : Value} (h : NoneP w T p) (k : Int) : Calls Try.prog 37 #[p, .int .i64 k] w fun e w' => e = .returned (.tuple #[.int .u32 0, .int .i64 1]) ∧ w' = w := by
  have H := hideIt (take_none h k)
  clear h
  go_enter Try.func37, Try.ntmps37
  go_wp2_with (go_at_call 40; refine H.out.mono ?_; rintro e w' ⟨rfl, rfl⟩)
  go_ret2
  exact ⟨rfl, rfl⟩
theorem u8_none {w : World} {T : TypeId} {p : Value} (h : NoneP w T p) : Calls Try.prog 12 #[p] w fun e w' => e = .returned (.tuple #[.int .i64 0, .int .i64 1]) ∧ w' = w := by
  have H := hideIt (number_none h 1)
  clear h
  go_enter Try.func12, Try.ntmps12
  go_wp2_with (go_at_call 37; refine H.out.mono ?_; rintro e w' ⟨rfl, rfl⟩)
  go_ret2
  exact ⟨rfl, rfl⟩
theorem u16_none {w : World} {T : TypeId} {p : Value} (h : NoneP w T p) : Calls Try.prog 14 #[p] w fun e w' => e = .returned (.tuple #[.int .i64 0, .int .i64 1]) ∧ w' = w := by
  have H := hideIt (number_none h 2)
  clear h
  go_enter Try.func14, Try.ntmps14
  go_wp2_with (go_at_call 37; refine H.out.mono ?_; rintro e w' ⟨rfl, rfl⟩)
  go_ret2
  exact ⟨rfl, rfl⟩
theorem u32_none {w : World} {T : TypeId} {p : Value} (h : NoneP w T p) : Calls Try.prog 16 #[p] w fun e w' => e = .returned (.tuple #[.int .u32 0, .int .i64 1]) ∧ w' = w := by
  have H := hideIt (number_none h 4)
  clear h
  go_enter Try.func16, Try.ntmps16
  go_wp2_with (go_at_call 37; refine H.out.mono ?_; rintro e w' ⟨rfl, rfl⟩)
  go_ret2
  exact ⟨rfl, rfl⟩
theorem octets_none {w : World} {T : TypeId} {p : Value} (h : NoneP w T p) : Calls Try.prog 18 #[p] w fun e w' => e = .returned (.tuple #[.slice none 0 0, .int .i64 1]) ∧ w' = w := by
  have H := hideIt (isNone_is h)
  clear h
  go_enter Try.func18, Try.ntmps18
  go_wp2_with (go_at_call 39; refine H.out.mono ?_; rintro e w' ⟨rfl, rfl⟩)
  go_ret2
  exact ⟨rfl, rfl⟩
theorem left_none {w : World} {T : TypeId} {p : Value} (h : NoneP w T p) : Calls Try.prog 21 #[p] w fun e w' => e = .returned (.int .i64 0) ∧ w' = w := by
  have H := hideIt (isNone_is h)
  clear h
  go_enter Try.func21, Try.ntmps21
  go_wp2_with (go_at_call 39; refine H.out.mono ?_; rintro e w' ⟨rfl, rfl⟩)
  go_ret
  exact ⟨rfl, rfl⟩
theorem wU8_none {w : World} {T : TypeId} {p : Value} (h : NoneP w T p) (x : Int) : Calls Try.prog 26 #[p, .int .i64 x] w fun e w' => e = .returned (.int .i64 1) ∧ w' = w := by
  have H := hideIt (wIsNone_is h)
  clear h
  go_enter Try.func26, Try.ntmps26
  go_wp2_with (go_at_call 41; refine H.out.mono ?_; rintro e w' ⟨rfl, rfl⟩)
  go_ret
  exact ⟨rfl, rfl⟩
theorem wU16_none {w : World} {T : TypeId} {p : Value} (h : NoneP w T p) (x : Int) : Calls Try.prog 28 #[p, .int .i64 x] w fun e w' => e = .returned (.int .i64 1) ∧ w' = w := by
  have H := hideIt (wIsNone_is h)
  clear h
  go_enter Try.func28, Try.ntmps28
  go_wp2_with (go_at_call 41; refine H.out.mono ?_; rintro e w' ⟨rfl, rfl⟩)
  go_ret
  exact ⟨rfl, rfl⟩
theorem wU32_none {w : World} {T : TypeId} {p : Value} (h : NoneP w T p) (x : Int) : Calls Try.prog 30 #[p, .int .u32 x] w fun e w' => e = .returned (.int .i64 1) ∧ w' = w := by
  have H := hideIt (wIsNone_is h)
  clear h
  go_enter Try.func30, Try.ntmps30
  go_wp2_with (go_at_call 41; refine H.out.mono ?_; rintro e w' ⟨rfl, rfl⟩)
  go_ret
  exact ⟨rfl, rfl⟩
theorem wOctets_none {w : World} {T : TypeId} {p : Value} (h : NoneP w T p) (v : Value) : Calls Try.prog 32 #[p, v] w fun e w' => e = .returned (.int .i64 1) ∧ w' = w := by
  have H := hideIt (wIsNone_is h)
  clear h
  go_enter Try.func32, Try.ntmps32
  go_wp2_with (go_at_call 41; refine H.out.mono ?_; rintro e w' ⟨rfl, rfl⟩)
  go_ret
  exact ⟨rfl, rfl⟩
theorem wBytes_none {w : World} {T : TypeId} {p : Value} (h : NoneP w T p) : Calls Try.prog 34 #[p] w fun e w' => e = .returned (.slice none 0 0) ∧ w' = w := by
  have H := hideIt (wIsNone_is h)
  clear h
  go_enter Try.func34, Try.ntmps34
  go_wp2_with (go_at_call 41; refine H.out.mono ?_; rintro e w' ⟨rfl, rfl⟩)
  go_ret
  exact ⟨rfl, rfl⟩
end Go.Proofs.Ytojgkhinddjmaaa
