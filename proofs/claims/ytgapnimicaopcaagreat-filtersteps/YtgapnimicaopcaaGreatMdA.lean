/-
  Where a median lies in memory; Clamp, New and isNone of package median; what is none.
-/
import Derived.Test.YtgapnimicaopcaaGreatMdP
import Derived.Test.YtgapnimicaopcaaGreatBlk
namespace Go.Proofs.YtgapnimicaopcaaGreat.L9
open Go.RowKit
set_option maxRecDepth 8000
theorem clamp_any (a : Int) (w : World) : Calls Tryz.prog 65 #[.int .i64 a] w fun e w' => e = .returned (.int .i64 (clampZ a)) ∧ w' = w := by
  rcases (by unfold clampZ; omega : (a < -2147483647 ∧ clampZ a = -2147483647) ∨ (¬ a < -2147483647 ∧ 2147483647 < a ∧ clampZ a = 2147483647) ∨ (¬ a < -2147483647 ∧ ¬ 2147483647 < a ∧ clampZ a = a)) with ⟨h1, hc⟩ | ⟨h1, h2, hc⟩ | ⟨h1, h2, hc⟩
  all_goals
    rw [hc]
    clear hc
    go_enter Tryz.func65, Tryz.ntmps65
    go_wp2
    go_ret
    exact ⟨rfl, rfl⟩
theorem refClamp_any (a : Int) (w : World) : Calls Tryz.prog 44 #[.int .i64 a] w fun e w' => e = .returned (.int .i64 (clampZ a)) ∧ w' = w := by
  rcases (by unfold clampZ; omega : (a < -2147483647 ∧ clampZ a = -2147483647) ∨ (¬ a < -2147483647 ∧ 2147483647 < a ∧ clampZ a = 2147483647) ∨ (¬ a < -2147483647 ∧ ¬ 2147483647 < a ∧ clampZ a = a)) with ⟨h1, hc⟩ | ⟨h1, h2, hc⟩ | ⟨h1, h2, hc⟩
  all_goals
    rw [hc]
    clear hc
    go_enter Tryz.func44, Tryz.ntmps44
    go_wp2
    go_ret
    exact ⟨rfl, rfl⟩
/-- The cells of a median. -/
def mdC (Z : List Int) (n k f : Nat) : Array Value := (i64s Z ++ [Value.int .i64 (n : Int), Value.int .i64 (k : Int), Value.int .i64 (f : Int)]).toArray
theorem mdC_num {Z : List Int} {n k f i : Nat} (hi : i < Z.length) : (mdC Z n k f)[i]? = some (.int .i64 (Z.getD i 0)) := by
  unfold mdC
  rw [List.getElem?_toArray, List.getElem?_append_left (by rw [i64s_length]; exact hi)]
  simp [i64s, hi]
theorem mdC_15 {Z : List Int} {n k f : Nat} (hz : Z.length = 15) : (mdC Z n k f)[15]? = some (.int .i64 (n : Int)) := by
  unfold mdC
  rw [List.getElem?_toArray, List.getElem?_append_right (by rw [i64s_length]; omega), i64s_length, hz]
  rfl
theorem mdC_16 {Z : List Int} {n k f : Nat} (hz : Z.length = 15) : (mdC Z n k f)[16]? = some (.int .i64 (k : Int)) := by
  unfold mdC
  rw [List.getElem?_toArray, List.getElem?_append_right (by rw [i64s_length]; omega), i64s_length, hz]
  rfl
theorem mdC_17 {Z : List Int} {n k f : Nat} (hz : Z.length = 15) : (mdC Z n k f)[17]? = some (.int .i64 (f : Int)) := by
  unfold mdC
  rw [List.getElem?_toArray, List.getElem?_append_right (by rw [i64s_length]; omega), i64s_length, hz]
  rfl
theorem mdC_set {Z : List Int} {n k f i : Nat} (hi : i < Z.length) (v : Int) : (mdC Z n k f).setIfInBounds i (.int .i64 v) = mdC (Z.set i v) n k f := by
  unfold mdC
  rw [List.setIfInBounds_toArray, List.set_append_left _ _ (by rw [i64s_length]; exact hi)]
  unfold i64s
  rw [List.map_set]
theorem mdC_set16 {Z : List Int} {n k f k' : Nat} (hz : Z.length = 15) : (mdC Z n k f).setIfInBounds 16 (.int .i64 (k' : Int)) = mdC Z n k' f := by
  unfold mdC
  rw [List.setIfInBounds_toArray, List.set_append_right _ _ (by rw [i64s_length]; omega), i64s_length, hz]
  rfl
theorem mdC_set17 {Z : List Int} {n k f f' : Nat} (hz : Z.length = 15) : (mdC Z n k f).setIfInBounds 17 (.int .i64 (f' : Int)) = mdC Z n k f' := by
  unfold mdC
  rw [List.setIfInBounds_toArray, List.set_append_right _ _ (by rw [i64s_length]; omega), i64s_length, hz]
  rfl
/-- A median of n lies at p: of the last numbers s. -/
structure MdX (w : World) (p n : Nat) (s Z : List Int) (f : Nat) : Prop where
  at0 : w.heap[p]? = some (.cells (mdC Z n s.length f) 113 (0, 0))
  zl : Z.length = 15
  hn : n ≤ 15
  ring : Ring n (Z.take s.length) f s
def Md (w : World) (p n : Nat) (s : List Int) : Prop := ∃ Z f, MdX w p n s Z f
theorem Md.but {S : Nat → Prop} {w w' : World} {p n : Nat} {s : List Int} (x : Md w p n s) (b : But S w w') (hp : ¬ S p) : Md w' p n s := by
  obtain ⟨Z, f, x⟩ := x
  exact ⟨Z, f, { x with at0 := (b.block p (blk_lt x.at0) hp).trans x.at0 }⟩
theorem Md.lt {w : World} {p n : Nat} {s : List Int} (x : Md w p n s) : p < w.heap.size := by
  obtain ⟨Z, f, x⟩ := x
  exact blk_lt x.at0
theorem Md.le {w : World} {p n : Nat} {s : List Int} (x : Md w p n s) : s.length ≤ n ∧ 0 < n ∧ n ≤ 15 := by
  obtain ⟨Z, f, x⟩ := x
  have := x.ring.lt
  exact ⟨x.ring.le, by omega, x.hn⟩
abbrev zeroM (n : Int) : Array Value := #[.int .i64 0, .int .i64 0, .int .i64 0, .int .i64 0, .int .i64 0, .int .i64 0, .int .i64 0, .int .i64 0, .int .i64 0, .int .i64 0, .int .i64 0, .int .i64 0, .int .i64 0, .int .i64 0, .int .i64 0, .int .i64 n, .int .i64 0, .int .i64 0]
theorem md_new {w : World} {p n : Nat} (h : w.heap[p]? = some (.cells (zeroM n) 113 (0, 0))) (h1 : 1 ≤ n) (h2 : n ≤ 15) : Md w p n [] :=
  ⟨List.replicate 15 0, 0, h, rfl, h2, Ring.new h1⟩
/-- Which n may be. -/
def May (n : Int) : Prop := 1 ≤ n ∧ n ≤ 15 ∧ n % 2 = 1
theorem mdNew_ok (w : World) (n : Int) (h : May n) : Calls Tryz.prog 30 #[.int .i64 n] w fun e w' => e = .returned (.tuple #[Ptr w.heap.size, .int .i64 0]) ∧ w' = w.alloc (.cells (zeroM n) 113) := by
  obtain ⟨h1, h2, h3⟩ := h
  have h4 : n.tmod 2 = 1 := by rw [Int.tmod_eq_emod_of_nonneg (by omega)]; exact h3
  clear h3
  go_enter Tryz.func30, Tryz.ntmps30
  go_wp2
  go_ret2
  exact ⟨rfl, rfl⟩
theorem mdNew_no (w : World) (n : Int) (h : ¬ May n) : Calls Tryz.prog 30 #[.int .i64 n] w fun e w' => e = .returned (.tuple #[.pointer none, .int .i64 2]) ∧ w' = w := by
  have ht : 0 ≤ n → n.tmod 2 = n % 2 := fun h => Int.tmod_eq_emod_of_nonneg h
  rcases (by unfold May at h; omega : n < 1 ∨ (¬ n < 1 ∧ 15 < n) ∨ (¬ n < 1 ∧ ¬ 15 < n ∧ n.tmod 2 = 0)) with h1 | ⟨h1, h2⟩ | ⟨h1, h2, h3⟩
  all_goals
    clear h ht
    go_enter Tryz.func30, Tryz.ntmps30
    go_wp2
    go_ret2
    exact ⟨rfl, rfl⟩
theorem mdNone_no {w : World} {p n : Nat} {s : List Int} (x : Md w p n s) : Calls Tryz.prog 91 #[Ptr p] w fun e w' => e = .returned (.bool false) ∧ w' = w := by
  obtain ⟨Z, f, x⟩ := x
  have c := blk_cell x.at0 (mdC_15 x.zl)
  have hn : ¬ (n : Int) = 0 := by have := x.ring.lt; omega
  have hb : ((n : Int) == 0) = false := by simpa using hn
  clear x hn
  go_enter Tryz.func91, Tryz.ntmps91
  go_wp2
  go_ret
  exact ⟨rfl, rfl⟩
theorem mdNone_zero {w : World} {p : Nat} (h : w.heap[p]? = some (.cells (zeroM 0) 113 (0, 0))) : Calls Tryz.prog 91 #[Ptr p] w fun e w' => e = .returned (.bool true) ∧ w' = w := by
  have c := blk_cell (i := 15) (v := .int .i64 0) h rfl
  clear h
  go_enter Tryz.func91, Tryz.ntmps91
  go_wp2
  go_ret
  exact ⟨rfl, rfl⟩
theorem mdNone_nil (w : World) : Calls Tryz.prog 91 #[.pointer none] w fun e w' => e = .returned (.bool true) ∧ w' = w := by
  go_enter Tryz.func91, Tryz.ntmps91
  go_wp2
  go_ret
  exact ⟨rfl, rfl⟩
/-- What is none answers so. -/
def NoneM (w : World) (v : Value) : Prop := Calls Tryz.prog 91 #[v] w fun e w' => e = .returned (.bool true) ∧ w' = w
theorem mdPush_none {w : World} {v : Value} (h : NoneM w v) (y : Int) : Calls Tryz.prog 90 #[v, .int .i64 y] w fun e w' => e = .returned (.tuple #[.int .i64 0, .int .i64 1]) ∧ w' = w := by
  unfold NoneM at h
  have H := hideIt h
  clear h
  go_enter Tryz.func90, Tryz.ntmps90
  go_wp2_with (go_at_call 91; refine H.out.mono ?_; rintro e w' ⟨rfl, rfl⟩)
  go_ret2
  exact ⟨rfl, rfl⟩
end Go.Proofs.YtgapnimicaopcaaGreat.L9
