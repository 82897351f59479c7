/-
  RingNames.
-/
import Derived.Test.YtdoplmanpbeffaaRngH
namespace Go.Proofs.Ytdoplmanpbeffaa
open Go.RowKit
set_option maxRecDepth 8000
theorem NoneR.nil (w : World) : NoneR w (.pointer none) := rgNone_nil w
abbrev dosC : Array Value := #[.bool false, .int .i64 1, .bool false, .int .i64 2, .bool false, .int .i64 3, .bool true, .int .i64 0, .bool false, .int .i64 4, .bool false, .int .i64 5, .bool true, .int .i64 0, .bool true, .int .i64 0, .bool true, .int .i64 0, .bool false, .int .i64 (-9223372036854775808), .bool true, .int .i64 0]
abbrev sizC : Array Value := #[.int .i64 (-1), .int .i64 0, .int .i64 1, .int .i64 2, .int .i64 3, .int .i64 16, .int .i64 17, .int .i64 4611686018427387904]
theorem dos_row {w : World} {g : Nat} {T : TypeId} (h : w.heap[g]? = some (.cells dosC T (0, 0))) : DoRow w (some ⟨g, 0, none⟩) 11 := by
  intro i hi
  refine ⟨g, 0, ?_⟩
  have hlt := (Array.getElem?_eq_some_iff.1 h).1
  rcases (by omega : i = 0 ∨ i = 1 ∨ i = 2 ∨ i = 3 ∨ i = 4 ∨ i = 5 ∨ i = 6 ∨ i = 7 ∨ i = 8 ∨ i = 9 ∨ i = 10) with rfl | rfl | rfl | rfl | rfl | rfl | rfl | rfl | rfl | rfl | rfl
  all_goals exact ⟨_, _, rfl, hlt, blk_cell h rfl, blk_cell h rfl⟩
def SizRow (w : World) (g : Nat) : Prop := g < w.heap.size ∧ ∀ i, i < 8 → ∃ v : Int, w.cell? ⟨g, i, none⟩ = some (.int .i64 v)
theorem siz_row {w : World} {g : Nat} {T : TypeId} (h : w.heap[g]? = some (.cells sizC T (0, 0))) : SizRow w g := by
  refine ⟨(Array.getElem?_eq_some_iff.1 h).1, fun i hi => ?_⟩
  rcases (by omega : i = 0 ∨ i = 1 ∨ i = 2 ∨ i = 3 ∨ i = 4 ∨ i = 5 ∨ i = 6 ∨ i = 7) with rfl | rfl | rfl | rfl | rfl | rfl | rfl | rfl
  all_goals exact ⟨_, blk_cell h rfl⟩
theorem DoRow.after {w w' : World} {a : Option Addr} {k : Nat} (h : DoRow w a k) (ha : After w w') : DoRow w' a k := fun i hi => by
  obtain ⟨b, off, tk, v, e, hb, h1, h2⟩ := h i hi
  exact ⟨b, off, tk, v, e, Nat.lt_of_lt_of_le hb ha.size, (ha.cell hb _).trans h1, (ha.cell hb _).trans h2⟩
theorem SizRow.after {w w' : World} {g : Nat} (h : SizRow w g) (ha : After w w') : SizRow w' g := ⟨Nat.lt_of_lt_of_le h.1 ha.size, fun i hi => by
  obtain ⟨v, hv⟩ := h.2 i hi
  exact ⟨v, (ha.cell h.1 _).trans hv⟩⟩
set_option maxHeartbeats 2000000 in
theorem law_namesR (w : World) : Calls Try.prog 6 #[] w fun e w' => e = .returned (.bool true) ∧ After w w' := by
  have HZ : ∀ W : World, NoneR (W.alloc (.cells (zeroC 0) 45)) (Ptr W.heap.size) := fun W => rgNone_zero (heap_alloc_new W _)
  have HZ := hideIt HZ
  go_enter Try.func6, Try.ntmps6
  go_wp2_with fail
  go_loopw [1, 2] (fun pv i wr => ∃ j : Nat, j ≤ 2 ∧ i = .int .i64 j ∧ NoneR wr pv ∧ After w wr) (fun _ i _ => 2 - (intOf i).toNat)
  case atStart => exact ⟨0, Nat.zero_le _, rfl, NoneR.nil w, After.rfl⟩
  case round =>
    obtain ⟨j, hj, rfl, hn, af⟩ := hrel
    have AF := hideIt af
    by_cases hlt : j < 2
    · have H1 := hideIt (rgTake_none hn)
      have H2 := hideIt (rgPut_none hn 1)
      have H3 := hideIt (rgLen_none hn)
      have H4 := hideIt (rgLost_none hn)
      have i1 : (j : Int) < 2 := by omega
      clear hn af
      go_wp2_with (first | (go_at_call 10; refine H1.out.mono ?_; rintro e w' ⟨rfl, rfl⟩) | (go_at_call 12; refine H2.out.mono ?_; rintro e w' ⟨rfl, rfl⟩) | (go_at_call 14; refine H3.out.mono ?_; rintro e w' ⟨rfl, rfl⟩) | (go_at_call 16; refine H4.out.mono ?_; rintro e w' ⟨rfl, rfl⟩))
      go_roundw
      case rel => exact ⟨j + 1, by omega, by go_num, HZ.out _, AF.out.alloc _⟩
      case measure => simp [intOf]; omega
    · have i1 : ¬ (j : Int) < 2 := by omega
      clear hn af
      go_wp2_with fail
      have r1 : DoRow ((wr.alloc (.cells dosC 32)).alloc (.cells sizC 3)) (some ⟨wr.heap.size, 0, none⟩) 11 := dos_row (T := 32) (by rw [Below.heap_alloc _ _ _ (by simp)]; exact heap_alloc_new wr _)
      have r2 : SizRow ((wr.alloc (.cells dosC 32)).alloc (.cells sizC 3)) (wr.heap.size + 1) := siz_row (T := 3) (by
        have := heap_alloc_new (wr.alloc (.cells dosC 32)) (.cells sizC 3)
        simpa using this)
      have a2 : After w ((wr.alloc (.cells dosC 32)).alloc (.cells sizC 3)) := (AF.out.alloc _).alloc _
      generalize (wr.alloc (.cells dosC 32)).alloc (.cells sizC 3) = W at r1 r2 a2 ⊢
      have R := hideIt (And.intro r1 (And.intro r2 a2))
      clear r1 r2 a2 AF HZ
      go_loopw [8] (fun i W' => ∃ q : Nat, q ≤ 8 ∧ i = .int .i64 q ∧ After W W') (fun i _ => 8 - (intOf i).toNat)
      case atStart => exact ⟨0, Nat.zero_le _, rfl, After.rfl⟩
      case round =>
        obtain ⟨q, hq, rfl, af⟩ := hrel
        by_cases hlt2 : q < 8
        · have i2 : (q : Int) < 8 := by omega
          obtain ⟨v, hv⟩ := (R.out.2.1.after af).2 q hlt2
          have HP := hideIt (law_playsR _ v _ 11 11 (R.out.1.after af))
          have AF := hideIt af
          clear af
          go_wp2_with fail
          refine HP.out.mono ?_
          rintro e w3 ⟨rfl, a3⟩
          have A3 := hideIt a3
          clear a3 HP
          go_wp2_with fail
          go_roundw
          case rel => exact ⟨q + 1, by omega, by go_num, AF.out.trans A3.out⟩
          case measure => simp [intOf]; omega
        · have i2 : ¬ (q : Int) < 8 := by omega
          have HA := hideIt (awakeR_any wr)
          have AF := hideIt af
          clear af
          go_wp2_with fail
          refine HA.out.mono ?_
          rintro e w3 ⟨rfl, a3⟩
          have A3 := hideIt a3
          clear a3 HA
          go_wp2_with fail
          go_ret
          exact ⟨rfl, R.out.2.2.trans (AF.out.trans A3.out)⟩
end Go.Proofs.Ytdoplmanpbeffaa
