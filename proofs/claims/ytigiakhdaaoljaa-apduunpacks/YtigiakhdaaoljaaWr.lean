/-
  The writer's calls of package mder: Write, U8, U16, U32, Octets, Bytes.
-/
import Derived.Test.YtigiakhdaaoljaaPut
namespace Go.Proofs.Ytigiakhdaaoljaa
open Go.RowKit
/-- What a number that may be from 0 to m writes. -/
def wnErr (m : Nat) (x : Int) : Int := if 0 ≤ x ∧ x ≤ m then 0 else 2
def wnNew (k m : Nat) (x : Int) : List Int := if 0 ≤ x ∧ x ≤ m then bytesOf k x else []
theorem wn_yes {k m : Nat} {x : Int} (h : 0 ≤ x ∧ x ≤ m) : wnErr m x = 0 ∧ wnNew k m x = bytesOf k x := ⟨if_pos h, if_pos h⟩
theorem wn_no {k m : Nat} {x : Int} (h : ¬ (0 ≤ x ∧ x ≤ m)) : wnErr m x = 2 ∧ wnNew k m x = [] := ⟨if_neg h, if_neg h⟩
/-- What octets write. -/
def woErr (bs : List Int) : Int := if bs.length ≤ 65535 then 0 else 5
def woNew (bs : List Int) : List Int := if bs.length ≤ 65535 then bytesOf 2 bs.length ++ bs else []
theorem wo_yes {bs : List Int} (h : bs.length ≤ 65535) : woErr bs = 0 ∧ woNew bs = bytesOf 2 bs.length ++ bs := ⟨if_pos h, if_pos h⟩
theorem wo_no {bs : List Int} (h : ¬ bs.length ≤ 65535) : woErr bs = 5 ∧ woNew bs = [] := ⟨if_neg h, if_neg h⟩
theorem WrTo.rfl {w : World} {g : Nat} {v : Value} {zs : List Int} (r : WrAt w g v zs) : WrTo w w g v (zs ++ []) := by
  rw [List.append_nil]; exact ⟨v, r, But.rfl, Grew.rfl⟩
theorem write_any (w : World) : Calls Try.prog 38 #[] w fun e w' => e = .returned (Ptr w.heap.size) ∧ WrAt w' w.heap.size (.slice none 0 0) [] ∧ After w w' := by
  go_enter Try.func38, Try.ntmps38
  go_wp2
  go_ret
  exact ⟨rfl, ⟨two_new _ _ _ _, World.ownsRow_nil _ _ _ _, (fun h => by cases h), Bs.nil⟩, After.rfl.alloc _⟩
theorem wU8_any (w : World) (g : Nat) (v : Value) (zs : List Int) (x : Int) (r : WrAt w g v zs) (hl : zs.length + 4 ≤ 1099511627776) :
    Calls Try.prog 95 #[Ptr g, .int .i64 x] w fun e w' => e = .returned (.int .i64 (wnErr 255 x)) ∧ WrTo w w' g v (zs ++ wnNew 1 255 x) := by
  have HN := hideIt (wIsNone_no r.1)
  by_cases hx : 0 ≤ x ∧ x ≤ (255 : Nat)
  · obtain ⟨e1, e2⟩ := wn_yes (k := 1) hx
    rw [e1, e2]
    obtain ⟨y, rfl⟩ := Int.eq_ofNat_of_zero_le hx.1
    have HP := hideIt (put_any w g 1 v zs y r (by decide) (by omega) hl)
    have k1 : (y : Int) ≤ 255 := hx.2
    have k2 : IntKind.u32.wrap (y : Int) = (y : Int) := by rw [IntKind.wrap_u32]; omega
    clear r hl e1 e2 hx
    go_enter Try.func95, Try.ntmps95
    go_wp2_with (first
      | (go_at_call 45; refine HN.out.mono ?_; rintro e w' ⟨rfl, rfl⟩)
      | (go_at_call 87; refine HP.out.mono ?_; rintro e w1 ⟨rfl, h1⟩; have H1 := hideIt h1; clear h1))
    go_ret
    exact ⟨rfl, H1.out⟩
  · obtain ⟨e1, e2⟩ := wn_no (k := 1) hx
    rw [e1, e2]
    have HR := hideIt r
    have hx2 : x < 0 ∨ 255 < x := by omega
    clear r hl e1 e2 hx
    rcases hx2 with hx | hx
    all_goals
      go_enter Try.func95, Try.ntmps95
      go_wp2_with (go_at_call 45; refine HN.out.mono ?_; rintro e w' ⟨rfl, rfl⟩)
      go_ret
      exact ⟨rfl, WrTo.rfl HR.out⟩
theorem wU16_any (w : World) (g : Nat) (v : Value) (zs : List Int) (x : Int) (r : WrAt w g v zs) (hl : zs.length + 4 ≤ 1099511627776) :
    Calls Try.prog 75 #[Ptr g, .int .i64 x] w fun e w' => e = .returned (.int .i64 (wnErr 65535 x)) ∧ WrTo w w' g v (zs ++ wnNew 2 65535 x) := by
  have HN := hideIt (wIsNone_no r.1)
  by_cases hx : 0 ≤ x ∧ x ≤ (65535 : Nat)
  · obtain ⟨e1, e2⟩ := wn_yes (k := 2) hx
    rw [e1, e2]
    obtain ⟨y, rfl⟩ := Int.eq_ofNat_of_zero_le hx.1
    have HP := hideIt (put_any w g 2 v zs y r (by decide) (by omega) hl)
    have k1 : (y : Int) ≤ 65535 := hx.2
    have k2 : IntKind.u32.wrap (y : Int) = (y : Int) := by rw [IntKind.wrap_u32]; omega
    clear r hl e1 e2 hx
    go_enter Try.func75, Try.ntmps75
    go_wp2_with (first
      | (go_at_call 45; refine HN.out.mono ?_; rintro e w' ⟨rfl, rfl⟩)
      | (go_at_call 87; refine HP.out.mono ?_; rintro e w1 ⟨rfl, h1⟩; have H1 := hideIt h1; clear h1))
    go_ret
    exact ⟨rfl, H1.out⟩
  · obtain ⟨e1, e2⟩ := wn_no (k := 2) hx
    rw [e1, e2]
    have HR := hideIt r
    have hx2 : x < 0 ∨ 65535 < x := by omega
    clear r hl e1 e2 hx
    rcases hx2 with hx | hx
    all_goals
      go_enter Try.func75, Try.ntmps75
      go_wp2_with (go_at_call 45; refine HN.out.mono ?_; rintro e w' ⟨rfl, rfl⟩)
      go_ret
      exact ⟨rfl, WrTo.rfl HR.out⟩
theorem wU32_any (w : World) (g : Nat) (v : Value) (zs : List Int) (x : Int) (r : WrAt w g v zs) (hl : zs.length + 4 ≤ 1099511627776) (h0 : 0 ≤ x) (h1 : x < 4294967296) :
    Calls Try.prog 93 #[Ptr g, .int .u32 x] w fun e w' => e = .returned (.int .i64 0) ∧ WrTo w w' g v (zs ++ bytesOf 4 x) := by
  have HN := hideIt (wIsNone_no r.1)
  obtain ⟨y, rfl⟩ := Int.eq_ofNat_of_zero_le h0
  have HP := hideIt (put_any w g 4 v zs y r (by decide) (by omega) hl)
  clear r hl h0 h1
  go_enter Try.func93, Try.ntmps93
  go_wp2_with (first
    | (go_at_call 45; refine HN.out.mono ?_; rintro e w' ⟨rfl, rfl⟩)
    | (go_at_call 87; refine HP.out.mono ?_; rintro e w1 ⟨rfl, h1⟩; have H1 := hideIt h1; clear h1))
  go_ret
  exact ⟨rfl, H1.out⟩
theorem wBytes_any (w : World) (g : Nat) (v : Value) (zs : List Int) (r : WrAt w g v zs) (hl : zs.length ≤ 1099511627776) :
    Calls Try.prog 28 #[Ptr g] w fun e w' => ∃ x, e = .returned x ∧ w'.ownsRow w.heap.size 5 1 x zs.length (u8s zs) ∧ After w w' := by
  have HN := hideIt (wIsNone_no r.1)
  obtain ⟨a, c, rfl, r1, r2, r3, r4⟩ := own_row r.2.1 r.2.2.2
  obtain ⟨_, hc0, hc1, hf0, hf1⟩ := two_at r.1
  have HC := hideIt (clone_any a _ c zs w r1 r2 (by omega))
  clear r r1 r2 r3 r4
  go_enter Try.func28, Try.ntmps28
  go_wp2_with (first
    | (go_at_call 45; refine HN.out.mono ?_; rintro e w' ⟨rfl, rfl⟩)
    | (go_at_call 46; refine HC.out.mono ?_; rintro e w1 ⟨x, rfl, ho, ha⟩; have HO := hideIt ho; have HA := hideIt ha; clear ho ha))
  go_ret
  exact ⟨_, rfl, HO.out, HA.out⟩
end Go.Proofs.Ytigiakhdaaoljaa
